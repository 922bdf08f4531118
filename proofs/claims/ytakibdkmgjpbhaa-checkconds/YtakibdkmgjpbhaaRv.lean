/- A rule. -/
import Derived.Test.YtakibdkmgjpbhaaRu
namespace Go.Proofs.Ytakibdkmgjpbhaa
open Go.RowKit
set_option linter.unusedVariables false
set_option linter.unusedSimpArgs false
set_option maxRecDepth 20000

def okI (a : ActD) : Prop := -9223372036854775808 ≤ a.n ∧ a.n ≤ 9223372036854775807
theorem condS_bad {cs : List ClassD} {zs : List Str} {c : CondD} {e : Int} (h : condS cs zs c = .error e) : e ≠ 0 := by
  rcases bindE_error h with h | ⟨_, _, h⟩
  · exact condR_bad h
  · cases h
set_option maxHeartbeats 16000000 in
theorem rule_any (K ab : Nat) (cs : List ClassD) (cr : List Value) (r : RuleD) (w : World) (hA : AM w ab K cs) (hK : K ≤ w.heap.size) (hr : ReR (fun _ k => k < K) w cr r) (hL : ruleL r) (hI : ∀ a ∈ r.acts, okI a) :
    Calls Try.prog 27 #[.map (some ab), .agg cr.toArray] w fun e w' => e = .returned (.int .i64 (ruleE cs r)) ∧ Below w.heap.size w w' := by
  generalize hPO : (fun (e : Ending) (w' : World) => e = .returned (.int .i64 (ruleE cs r)) ∧ Below w.heap.size w w') = PO
  have HPO : Hid (∀ n w', ruleE cs r = n → Below w.heap.size w w' → PO (.returned (.int .i64 n)) w') := fun er w' he hb => by rw [← hPO]; exact ⟨by rw [he], hb⟩
  clear hPO
  have HA : Hid (AM w ab K cs) := hA
  have HL : Hid (ruleL r) := hL
  have HI : Hid (∀ a ∈ r.acts, okI a) := hI
  obtain ⟨u1, u2, rfl, hu1, hu2⟩ := hr
  have HC3 : Hid (Row 3 (ReC (fun _ k => k < K)) w (fun k => k < K) u1 r.conds) := hu1
  obtain ⟨css1, hs1, hh1⟩ := hu1
  have le1 := hh1.len
  obtain ⟨x1, y1, rfl⟩ := hs1.shape
  obtain ⟨-, l1, m1, r1⟩ := hs1.row
  rw [le1] at l1 r1 HC3 ⊢
  have R1 : Hid (∀ i, i < r.conds.length → ∃ b off, x1 = some ⟨b, off, none⟩ ∧ b < w.heap.size ∧ ∀ j, j < 3 → w.cell? ⟨b, off + (i * 3 + j), none⟩ = (css1.getD i [])[j]?) := r1
  have G1 : Hid (All2 (ReC (fun _ k => k < K) w) css1 r.conds) := hh1
  obtain ⟨css2, hs2, hh2⟩ := hu2
  have le2 := hh2.len
  obtain ⟨x2, y2, rfl⟩ := hs2.shape
  obtain ⟨-, l2, m2, r2⟩ := hs2.row
  rw [le2] at l2 r2 ⊢
  have R2 : Hid (∀ i, i < r.acts.length → ∃ b off, x2 = some ⟨b, off, none⟩ ∧ b < w.heap.size ∧ ∀ j, j < 6 → w.cell? ⟨b, off + (i * 6 + j), none⟩ = (css2.getD i [])[j]?) := r2
  have G2 : Hid (All2 (ReT (fun _ k => k < K) w) css2 r.acts) := hh2
  clear r1 r2 hs1 hs2 hh1 hh2 le1 le2 hA hL hI
  have hcl := HL.out.2.1
  have hal := HL.out.2.2.1
  have hnn : (r.conds.length : Int) ≤ 9223372036854775807 := by omega
  have hnn2 : (r.acts.length : Int) ≤ 9223372036854775807 := by omega
  by_cases h9 : r.conds = [] ∨ (r.conds.getD 0 ⟨false, [], []⟩).neg = true
  · have E : Hid (ruleE cs r = 9) := if_pos h9
    by_cases hc0 : r.conds.length = 0
    · have hcz : (r.conds.length : Int) = 0 := by omega
      rw [hc0]
      clear h9 R1
      go_enter Try.func27, Try.ntmps27
      go_wp2
      exact HPO.out _ _ E.out (bxn _ _)
    · have hng : (r.conds.getD 0 ⟨false, [], []⟩).neg = true := h9.resolve_left (fun h => hc0 (by rw [h]; rfl))
      obtain ⟨b1, o1, rfl, hb1, q1⟩ := R1.out 0 (by omega)
      obtain ⟨u, ec, -⟩ := G1.out.at 0 [] ⟨false, [], []⟩ (by omega)
      rw [ec, hng] at q1
      have q0 : w.cell? ⟨b1, o1, none⟩ = some (.bool true) := by have := q1 0 (by decide); simpa using this
      have hcz : ¬ (r.conds.length : Int) = 0 := by omega
      have hcp : (0 : Int) < r.conds.length := by omega
      clear h9 hng q1 ec
      go_enter Try.func27, Try.ntmps27
      go_wp2
      exact HPO.out _ _ E.out (bxn _ _)
  · have E0 : Hid (ruleE cs r = errE (bindE (runE (condS cs) [] r.conds) fun zs => runE (actR cs r.conds) zs r.acts)) := if_neg h9
    have hc0 : ¬ r.conds.length = 0 := fun h => h9 (.inl (List.length_eq_zero_iff.1 h))
    have hng : (r.conds.getD 0 ⟨false, [], []⟩).neg = false := by
      cases hb : (r.conds.getD 0 ⟨false, [], []⟩).neg with
      | false => rfl
      | true => exact absurd (.inr hb) h9
    obtain ⟨b0, o0, hx1, hb0, q1⟩ := R1.out 0 (by omega)
    obtain ⟨u, ec, -⟩ := G1.out.at 0 [] ⟨false, [], []⟩ (by omega)
    rw [ec, hng] at q1
    have q0 : w.cell? ⟨b0, o0, none⟩ = some (.bool false) := by have := q1 0 (by decide); simpa using this
    have hcz : ((r.conds.length : Int) == 0) = false := by rw [beq_eq_false_iff_ne]; omega
    have hcp : (0 : Int) < r.conds.length := by omega
    subst hx1
    clear h9 hng q1 ec
    have HM := NS.made (w.alloc (.cells #[.string (st r.nm), .slice (some ⟨b0, o0, none⟩) r.conds.length y1, .slice x2 r.acts.length y2] 33))
    have HM0 : Hid (NS (((w.alloc (.cells #[.string (st r.nm), .slice (some ⟨b0, o0, none⟩) r.conds.length y1, .slice x2 r.acts.length y2] 33)).alloc (.map #[] 0)).alloc (.cells #[.map (some ab), .map (some (w.heap.size + 1))] 88)) (w.heap.size + 1) 0 []) := by
      have := HM.below (bxn _ (.cells #[.map (some ab), .map (some (w.heap.size + 1))] 88)) HM.lt
      simpa [Hid] using this
    clear HM
    have B0 : Hid (Below w.heap.size w (((w.alloc (.cells #[.string (st r.nm), .slice (some ⟨b0, o0, none⟩) r.conds.length y1, .slice x2 r.acts.length y2] 33)).alloc (.map #[] 0)).alloc (.cells #[.map (some ab), .map (some (w.heap.size + 1))] 88))) := bt (bt (bxn _ _) (bxn _ _)) (bxn _ _)
    have hmm := @run_makeMap Try.prog
    go_enter Try.func27, Try.ntmps27
    go_wp2
    clear hmm
    go_loopw [30] (fun v wr => ∃ (i : Nat) (zs : List Str), v = .int .i64 i ∧ i ≤ r.conds.length ∧ Hid (Below w.heap.size w wr) ∧ wr.cell? ⟨w.heap.size, 1, none⟩ = some (.slice (some ⟨b0, o0, none⟩) r.conds.length y1) ∧ wr.cell? ⟨w.heap.size, 2, none⟩ = some (.slice x2 r.acts.length y2) ∧ wr.cell? ⟨w.heap.size + 2, 0, none⟩ = some (.map (some ab)) ∧ wr.cell? ⟨w.heap.size + 2, 1, none⟩ = some (.map (some (w.heap.size + 1))) ∧ w.heap.size + 2 < wr.heap.size ∧ Hid (runE (condS cs) [] (r.conds.take i) = .ok zs) ∧ Hid (NS wr (w.heap.size + 1) (120 * i) zs)) (fun v _ => (r.conds.length - intOf v).toNat)
    case atStart => exact ⟨0, [], rfl, Nat.zero_le _, B0.out, by go_simp, by go_simp, by go_simp, by go_simp, by simp, rfl, HM0.out⟩
    case round =>
      obtain ⟨i, zs, rfl, hi, HB, k1, k2, s0, s1, hsz, HRU, HN⟩ := hrel
      have hsz0 := HB.out.size
      by_cases hlt : i < r.conds.length
      · have hiz : (i : Int) < r.conds.length := by omega
        obtain ⟨b1, o1, ee, hb1, q1⟩ := R1.out i hlt
        obtain ⟨rfl, rfl, -⟩ := Addr.mk.inj (Option.some.inj ee)
        have e1 := G1.out.at i [] ⟨false, [], []⟩ hlt
        have hxl : condL (r.conds.getD i ⟨false, [], []⟩) := by
          rw [List.getD_eq_getElem?_getD, List.getElem?_eq_getElem hlt]; exact HL.out.2.2.2.1 _ (List.getElem_mem hlt)
        have HER : Hid (∀ er, condS cs zs (r.conds.getD i ⟨false, [], []⟩) = .error er → ruleE cs r = er) := fun er he => by rw [E0.out, runE_err ⟨false, [], []⟩ hlt HRU.out he]; rfl
        have hnx := runE_next (step := condS cs) ⟨false, [], []⟩ hlt HRU.out
        have HNY : Hid (runE (condS cs) [] (r.conds.take (i + 1)) = condS cs zs (r.conds.getD i ⟨false, [], []⟩)) := hnx
        clear hnx
        generalize r.conds.getD i ⟨false, [], []⟩ = x at q1 e1 HER HNY hxl
        have B2 : Hid (∀ o, Below w.heap.size w (wr.alloc o)) := fun o => bt HB.out (bxn _ _)
        have CT : Hid (∀ o, Calls Try.prog 37 #[.agg #[.map (some ab), .map (some (w.heap.size + 1))], .agg (css1.getD i []).toArray] (wr.alloc o) (TP (wr.alloc o) (w.heap.size + 1) (120 * i + 120) zs (condR cs zs x))) := fun o =>
          cond_any K ab (w.heap.size + 1) (120 * i) cs zs (css1.getD i []) x (wr.alloc o) (HA.out.below ((B2.out o).mono hK)) (HN.out.below (bxn _ _) HN.out.lt) (ReC.keep (stK ((B2.out o).mono hK)) e1) (by omega) (by omega) hxl
        obtain ⟨u, ec, cssu, hss, -⟩ := e1
        obtain ⟨xa, ya, rfl⟩ := hss.shape
        clear hss
        generalize cssu.length = na at ec
        rw [ec] at q1 CT
        have q0 : wr.cell? ⟨b0, o0 + i * 3, none⟩ = some (.bool x.neg) := (HB.out.cell (p := ⟨b0, o0 + i * 3, none⟩) hb1).trans (q1 0 (by decide))
        have q2 : wr.cell? ⟨b0, o0 + i * 3 + 1, none⟩ = some (.string (st x.c)) := (HB.out.cell (p := ⟨b0, o0 + i * 3 + 1, none⟩) hb1).trans (q1 1 (by decide))
        have q3 : wr.cell? ⟨b0, o0 + i * 3 + 2, none⟩ = some (.slice xa na ya) := (HB.out.cell (p := ⟨b0, o0 + i * 3 + 2, none⟩) hb1).trans (q1 2 (by decide))
        have CT2 := CT.out (.cells #[.bool x.neg, .string (st x.c), .slice xa na ya] 50)
        clear q1 ec hxl CT
        have B3 := B2.out (.cells #[.bool x.neg, .string (st x.c), .slice xa na ya] 50)
        have B4 : Hid (Below w.heap.size w (wr.alloc (.cells #[.bool x.neg, .string (st x.c), .slice xa na ya] 50))) := B3
        clear B2 B3
        have BX := bxn wr (.cells #[.bool x.neg, .string (st x.c), .slice xa na ya] 50)
        have k1' := (BX.cell (p := ⟨w.heap.size, 1, none⟩) (by show w.heap.size < _; omega)).trans k1
        have k2' := (BX.cell (p := ⟨w.heap.size, 2, none⟩) (by show w.heap.size < _; omega)).trans k2
        have s0' := (BX.cell (p := ⟨w.heap.size + 2, 0, none⟩) (by show w.heap.size + 2 < _; omega)).trans s0
        have s1' := (BX.cell (p := ⟨w.heap.size + 2, 1, none⟩) (by show w.heap.size + 2 < _; omega)).trans s1
        clear BX
        cases hrr : condR cs zs x with
        | error er =>
          have E : Hid (ruleE cs r = er) := HER.out er (by unfold condS; rw [hrr]; rfl)
          have hne : ¬ er = 0 := condR_bad hrr
          rw [hrr] at CT2
          clear hrr HER HNY
          go_wp2_with (go_at_call 37; refine CT2.mono ?_; rintro e w3 ⟨hf3, rfl⟩; have B5 : Hid (Below w.heap.size w w3) := B4.out.grown hf3 (by simp; omega) (by intro k hk; cases hk; omega); clear CT2 hf3)
          exact HPO.out _ _ E.out B5.out
        | ok f =>
          have R3 : Hid (runE (condS cs) [] (r.conds.take (i + 1)) = .ok (zs ++ f)) := by rw [HNY.out]; unfold condS; rw [hrr]; exact rfl
          rw [hrr] at CT2
          clear hrr HER HNY
          go_wp2_with (go_at_call 37; refine CT2.mono ?_; rintro e w3 ⟨hf3, v3, rfl, -, hn3⟩; have B5 : Hid (Below w.heap.size w w3) := B4.out.grown hf3 (by simp; omega) (by intro k hk; cases hk; omega); have N5 : Hid (NS w3 (w.heap.size + 1) (120 * (i + 1)) (zs ++ f)) := hn3; have t1 := hf3.cell k1' (by simp); have t2 := hf3.cell k2' (by simp); have t3 := hf3.cell s0' (by simp); have t4 := hf3.cell s1' (by simp); have z5 := hf3.size; simp at z5; clear CT2 hf3 hn3)
          go_roundw
          case rel => exact ⟨i + 1, zs ++ f, by simp, by omega, B5.out, t1, t2, t3, t4, by omega, R3.out, N5.out⟩
          case measure => simp [intOf]; omega
      · have hiz : ¬ (i : Int) < r.conds.length := by omega
        have E1 : Hid (ruleE cs r = errE (runE (actR cs r.conds) zs r.acts)) := by rw [E0.out, runE_all (by omega) HRU.out]; exact rfl
        have N1 : Hid (NS wr (w.heap.size + 1) (960 + 0) zs) := HN.out.mono (by omega)
        clear E0 HRU HN
        go_wp2
        go_loopw [47] (fun v wr => ∃ (i : Nat) (zs' : List Str), v = .int .i64 i ∧ i ≤ r.acts.length ∧ Hid (Below w.heap.size w wr) ∧ wr.cell? ⟨w.heap.size, 1, none⟩ = some (.slice (some ⟨b0, o0, none⟩) r.conds.length y1) ∧ wr.cell? ⟨w.heap.size + 2, 0, none⟩ = some (.map (some ab)) ∧ wr.cell? ⟨w.heap.size + 2, 1, none⟩ = some (.map (some (w.heap.size + 1))) ∧ w.heap.size + 2 < wr.heap.size ∧ Hid (runE (actR cs r.conds) zs (r.acts.take i) = .ok zs') ∧ Hid (NS wr (w.heap.size + 1) (960 + i) zs')) (fun v _ => (r.acts.length - intOf v).toNat)
        case atStart => exact ⟨0, zs, rfl, Nat.zero_le _, HB.out, k1, s0, s1, hsz, rfl, N1.out⟩
        case round =>
          clear k1 k2 s0 s1 hsz HB N1 hsz0
          obtain ⟨j, zs', rfl, hj, HB, k1, s0, s1, hsz, HRU, HN⟩ := hrel
          have hsz0 := HB.out.size
          by_cases hjl : j < r.acts.length
          · have hjz : (j : Int) < r.acts.length := by omega
            obtain ⟨b1, o1, rfl, hb1, q1⟩ := R2.out j hjl
            have e1 := G2.out.at j [] ⟨0, [], 0, [], [], []⟩ hjl
            have hxl : actL (r.acts.getD j ⟨0, [], 0, [], [], []⟩) := by
              rw [List.getD_eq_getElem?_getD, List.getElem?_eq_getElem hjl]; exact HL.out.2.2.2.2 _ (List.getElem_mem hjl)
            have hxi : okI (r.acts.getD j ⟨0, [], 0, [], [], []⟩) := by
              rw [List.getD_eq_getElem?_getD, List.getElem?_eq_getElem hjl]; exact HI.out _ (List.getElem_mem hjl)
            have HER : Hid (∀ er, actR cs r.conds zs' (r.acts.getD j ⟨0, [], 0, [], [], []⟩) = .error er → ruleE cs r = er) := fun er he => by rw [E1.out, runE_err ⟨0, [], 0, [], [], []⟩ hjl HRU.out he]; rfl
            have hnx := runE_next (step := actR cs r.conds) ⟨0, [], 0, [], [], []⟩ hjl HRU.out
            have HNY : Hid (runE (actR cs r.conds) zs (r.acts.take (j + 1)) = actR cs r.conds zs' (r.acts.getD j ⟨0, [], 0, [], [], []⟩)) := hnx
            clear hnx
            generalize r.acts.getD j ⟨0, [], 0, [], [], []⟩ = x at q1 e1 HER HNY hxl hxi
            have CT : Hid (∀ o, Calls Try.prog 42 #[.agg #[.map (some ab), .map (some (w.heap.size + 1))], .agg (css2.getD j []).toArray, .slice (some ⟨b0, o0, none⟩) r.conds.length y1] (wr.alloc o) (AP (wr.alloc o) (w.heap.size + 1) (960 + j + 1) (actR cs r.conds zs' x))) := fun o => by
              have hbo : Below K w (wr.alloc o) := (bt HB.out (bxn _ _)).mono hK
              exact act_any K ab (w.heap.size + 1) (960 + j) cs zs' (css2.getD j []) x _ r.conds (wr.alloc o) (HA.out.below hbo) (HN.out.below (bxn _ _) HN.out.lt) (by omega) (ReT.keep (stK hbo) e1) (Row.keep (P := fun _ k => k < K) (k := 0) (stK hbo) (fun _ _ => ReC.keep (stK hbo)) HC3.out) hxl hxi hcl HL.out.2.2.2.1 (by omega)
            obtain ⟨u, u', ec, ⟨cssu, hss, -⟩, ⟨cssv, hsv, -⟩⟩ := e1
            obtain ⟨xa, ya, rfl⟩ := hss.shape
            obtain ⟨xb, yb, rfl⟩ := hsv.shape
            clear hss hsv
            generalize cssu.length = na at ec
            generalize cssv.length = nb at ec
            rw [ec] at q1 CT
            have qq : ∀ i v, (([.int .u8 x.k, .string (st x.c), .int .i64 x.n, .string (st x.v), .slice xa na ya, .slice xb nb yb] : List Value)[i]? = some v) → i < 6 → wr.cell? ⟨b1, o1 + (j * 6 + i), none⟩ = some v := fun i v h hi => (HB.out.cell (p := ⟨b1, o1 + (j * 6 + i), none⟩) hb1).trans (by rw [q1 i hi]; exact h)
            have q0 : wr.cell? ⟨b1, o1 + j * 6, none⟩ = some (.int .u8 x.k) := qq 0 _ rfl (by decide)
            have q2 : wr.cell? ⟨b1, o1 + j * 6 + 1, none⟩ = some (.string (st x.c)) := qq 1 _ rfl (by decide)
            have q3 : wr.cell? ⟨b1, o1 + j * 6 + 2, none⟩ = some (.int .i64 x.n) := qq 2 _ rfl (by decide)
            have q4 : wr.cell? ⟨b1, o1 + j * 6 + 3, none⟩ = some (.string (st x.v)) := qq 3 _ rfl (by decide)
            have q5 : wr.cell? ⟨b1, o1 + j * 6 + 4, none⟩ = some (.slice xa na ya) := qq 4 _ rfl (by decide)
            have q6 : wr.cell? ⟨b1, o1 + j * 6 + 5, none⟩ = some (.slice xb nb yb) := qq 5 _ rfl (by decide)
            have CT2 := CT.out (.cells #[.int .u8 x.k, .string (st x.c), .int .i64 x.n, .string (st x.v), .slice xa na ya, .slice xb nb yb] 70)
            clear q1 qq ec hxl hxi CT
            have B4 : Hid (Below w.heap.size w (wr.alloc (.cells #[.int .u8 x.k, .string (st x.c), .int .i64 x.n, .string (st x.v), .slice xa na ya, .slice xb nb yb] 70))) := bt HB.out (bxn _ _)
            have BX := bxn wr (.cells #[.int .u8 x.k, .string (st x.c), .int .i64 x.n, .string (st x.v), .slice xa na ya, .slice xb nb yb] 70)
            have k1' := (BX.cell (p := ⟨w.heap.size, 1, none⟩) (by show w.heap.size < _; omega)).trans k1
            have s0' := (BX.cell (p := ⟨w.heap.size + 2, 0, none⟩) (by show w.heap.size + 2 < _; omega)).trans s0
            have s1' := (BX.cell (p := ⟨w.heap.size + 2, 1, none⟩) (by show w.heap.size + 2 < _; omega)).trans s1
            clear BX
            cases hrr : actR cs r.conds zs' x with
            | error er =>
              have E : Hid (ruleE cs r = er) := HER.out er hrr
              have hne : ¬ er = 0 := actR_bad hrr
              rw [hrr] at CT2
              clear hrr HER HNY
              go_wp2_with (go_at_call 42; refine CT2.mono ?_; rintro e w3 ⟨hf3, rfl⟩; have B5 : Hid (Below w.heap.size w w3) := B4.out.grown hf3 (by simp; omega) (by intro k hk; cases hk; omega); clear CT2 hf3)
              exact HPO.out _ _ E.out B5.out
            | ok z =>
              have R3 : Hid (runE (actR cs r.conds) zs (r.acts.take (j + 1)) = .ok z) := by rw [HNY.out, hrr]; exact rfl
              rw [hrr] at CT2
              clear hrr HER HNY
              go_wp2_with (go_at_call 42; refine CT2.mono ?_; rintro e w3 ⟨hf3, rfl, hn3⟩; have B5 : Hid (Below w.heap.size w w3) := B4.out.grown hf3 (by simp; omega) (by intro k hk; cases hk; omega); have N5 : Hid (NS w3 (w.heap.size + 1) (960 + (j + 1)) z) := hn3; have t1 := hf3.cell k1' (by simp); have t3 := hf3.cell s0' (by simp); have t4 := hf3.cell s1' (by simp); have z5 := hf3.size; simp at z5; clear CT2 hf3 hn3)
              go_roundw
              case rel => exact ⟨j + 1, z, by simp, by omega, B5.out, t1, t3, t4, by omega, R3.out, N5.out⟩
              case measure => simp [intOf]; omega
          · have hjz : ¬ (j : Int) < r.acts.length := by omega
            have E : Hid (ruleE cs r = 0) := by rw [E1.out, runE_all (by omega) HRU.out]; exact rfl
            go_wp2
            exact HPO.out _ _ E.out HB.out
end Go.Proofs.Ytakibdkmgjpbhaa
