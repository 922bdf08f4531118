/- A program. -/
import Derived.Test.YtakibdkmgjpbhaaPg
namespace Go.Proofs.Ytakibdkmgjpbhaa
open Go.RowKit
set_option linter.unusedVariables false
set_option linter.unusedSimpArgs false
set_option maxRecDepth 20000

theorem clsE_bad (cs : List ClassD) : clsE cs = 0 ∨ clsE cs = 7 := by
  unfold clsE
  cases h : runE clsS [] cs with
  | ok s => exact .inl rfl
  | error e => obtain ⟨_, _, _, h⟩ := runE_bad h; rw [clsS_bad h]; exact .inr rfl
set_option maxHeartbeats 16000000 in
theorem program_any {P : Nat → Nat → Prop} (cp : List Value) (p : ProgD) (w : World) (h : ReP P w cp p) (hL : progL p) (hI : ∀ r ∈ p.rs, ∀ a ∈ r.acts, okI a) :
    Calls Try.prog 12 #[.agg cp.toArray] w fun e w' => e = .returned (.int .i64 (progE p)) ∧ Below w.heap.size w w' := by
  generalize hPO : (fun (e : Ending) (w' : World) => e = .returned (.int .i64 (progE p)) ∧ Below w.heap.size w w') = PO
  have HPO : Hid (∀ n w', progE p = n → Below w.heap.size w w' → PO (.returned (.int .i64 n)) w') := fun er w' he hb => by rw [← hPO]; exact ⟨by rw [he], hb⟩
  clear hPO
  have hp : ReP (Lo w.heap.size) w cp p := h.imp lo_pin
  clear h
  have HL : Hid (progL p) := hL
  have HI : Hid (∀ r ∈ p.rs, ∀ a ∈ r.acts, okI a) := hI
  clear hL hI
  obtain ⟨u1, u2, rfl, hu1, hu2⟩ := hp
  have HU1 : Hid (Row 2 (ReK (Lo w.heap.size)) w (fun b => b < w.heap.size) u1 p.cs) := hu1
  obtain ⟨css1, hs1, hh1⟩ := hu1
  have le1 := hh1.len
  obtain ⟨x1, y1, rfl⟩ := hs1.shape
  rw [le1] at HU1 ⊢
  clear hs1 hh1 le1
  obtain ⟨css2, hs2, hh2⟩ := hu2
  have le2 := hh2.len
  obtain ⟨x2, y2, rfl⟩ := hs2.shape
  obtain ⟨-, l2, m2, r2⟩ := hs2.row
  rw [le2] at l2 r2 ⊢
  have R2 : Hid (∀ i, i < p.rs.length → ∃ b off, x2 = some ⟨b, off, none⟩ ∧ b < w.heap.size ∧ ∀ j, j < 3 → w.cell? ⟨b, off + (i * 3 + j), none⟩ = (css2.getD i [])[j]?) := r2
  have G2 : Hid (All2 (ReR (Lo w.heap.size) w) css2 p.rs) := hh2
  clear r2 hs2 hh2 le2
  have hrl := HL.out.2.1
  have hnn : (p.rs.length : Int) ≤ 9223372036854775807 := by omega
  have KR : Hid (∀ W, Below w.heap.size w W → Row 2 (ReK (Lo w.heap.size)) W (fun b => b < w.heap.size) (.slice x1 p.cs.length y1) p.cs) := fun W hW => Row.keep (P := fun _ k => k < w.heap.size) (k := 0) (stK hW) (fun _ _ => ReK.keep (stK hW)) HU1.out
  have C14 : Hid (∀ W, Below w.heap.size w W → Calls Try.prog 14 #[.slice x1 p.cs.length y1] W fun e w' => e = .returned (.int .i64 (clsE p.cs)) ∧ Below W.heap.size W w') := fun W hW => classes_any _ p.cs W (KR.out W hW) HL.out.1 HL.out.2.2.1
  have C28 : Hid (∀ W, Below w.heap.size w W → Calls Try.prog 28 #[.slice x1 p.cs.length y1] W fun e w' => ∃ ab, e = .returned (.map (some ab)) ∧ W.heap.size ≤ ab ∧ AM w' ab w'.heap.size p.cs ∧ Below W.heap.size W w') := fun W hW => attributes_any _ p.cs W (KR.out W hW) HL.out.1 HL.out.2.2.1
  have BX : Hid (Below w.heap.size w (w.alloc (.cells #[.slice x1 p.cs.length y1, .slice x2 p.rs.length y2] 25))) := bxn _ _
  have CK1 := C14.out _ BX.out
  by_cases hce : clsE p.cs = 0
  · have E0 : Hid (progE p = errE (runE (progS p.cs) [] p.rs)) := by unfold progE; rw [if_neg (by simp [hce])]; exact rfl
    rw [hce] at CK1
    clear hce C14
    have hmm := @run_makeMap Try.prog
    go_enter Try.func12, Try.ntmps12
    go_wp2_with (first
      | (go_at_call 14; refine CK1.mono ?_; rintro e w1 ⟨rfl, hb1⟩; have B1 : Hid (Below w.heap.size w w1) := bt BX.out hb1; have k0 : w1.cell? ⟨w.heap.size, 0, none⟩ = some (.slice x1 p.cs.length y1) := (hb1.cell (p := ⟨w.heap.size, 0, none⟩) (by simp)).trans (by go_simp); have k1 : w1.cell? ⟨w.heap.size, 1, none⟩ = some (.slice x2 p.rs.length y2) := (hb1.cell (p := ⟨w.heap.size, 1, none⟩) (by simp)).trans (by go_simp); have z1 : w.heap.size < w1.heap.size := (by (have := hb1.size; simp at this; omega)); have CK2 := C28.out w1 B1.out; clear CK1 hb1)
      | (go_at_call 28; refine CK2.mono ?_; rintro e w2 ⟨ab, rfl, -, hA, hb2⟩; have B2 : Hid (Below w.heap.size w w2) := bt B1.out hb2; have A2 : Hid (AM w2 ab w2.heap.size p.cs) := hA; have k2 : w2.cell? ⟨w.heap.size, 1, none⟩ = some (.slice x2 p.rs.length y2) := (hb2.cell (p := ⟨w.heap.size, 1, none⟩) (by show w.heap.size < _; omega)).trans k1; have z2 : w.heap.size < w2.heap.size := Nat.lt_of_lt_of_le z1 hb2.size; clear CK2 hb2 hA))
    clear hmm
    go_loopw [22] (fun v wr => ∃ (i : Nat) (met : List Str), v = .int .i64 i ∧ i ≤ p.rs.length ∧ Hid (Below w2.heap.size w2 wr) ∧ Hid (runE (progS p.cs) [] (p.rs.take i) = .ok met) ∧ Hid (NS wr w2.heap.size i met) ∧ w2.heap.size < wr.heap.size) (fun v _ => (p.rs.length - intOf v).toNat)
    case atStart => exact ⟨0, [], rfl, Nat.zero_le _, bxn _ _, rfl, NS.made w2, by simp⟩
    case round =>
      clear k0 k1 k2
      obtain ⟨i, met, rfl, hi, HB, HRU, HN, hsz⟩ := hrel
      have HW : Hid (Below w.heap.size w wr) := B2.out.trans (HB.out.mono (by omega))
      by_cases hlt : i < p.rs.length
      · have hiz : (i : Int) < p.rs.length := by omega
        obtain ⟨b1, o1, rfl, hb1, q1⟩ := R2.out i hlt
        have e1 := G2.out.at i [] ⟨[], [], []⟩ hlt
        have hxl : ruleL (p.rs.getD i ⟨[], [], []⟩) := by
          rw [List.getD_eq_getElem?_getD, List.getElem?_eq_getElem hlt]; exact HL.out.2.2.2 _ (List.getElem_mem hlt)
        have hxi : ∀ a ∈ (p.rs.getD i ⟨[], [], []⟩).acts, okI a := by
          rw [List.getD_eq_getElem?_getD, List.getElem?_eq_getElem hlt]; exact HI.out _ (List.getElem_mem hlt)
        have HER : Hid (∀ er, progS p.cs met (p.rs.getD i ⟨[], [], []⟩) = .error er → progE p = er) := fun er he => by rw [E0.out, runE_err ⟨[], [], []⟩ hlt HRU.out he]; rfl
        have hnx := runE_next (step := progS p.cs) ⟨[], [], []⟩ hlt HRU.out
        have HNY : Hid (runE (progS p.cs) [] (p.rs.take (i + 1)) = progS p.cs met (p.rs.getD i ⟨[], [], []⟩)) := hnx
        clear hnx
        generalize p.rs.getD i ⟨[], [], []⟩ = x at q1 e1 hxl hxi HER HNY
        have CR : Hid (∀ W, Below w2.heap.size w2 W → Calls Try.prog 27 #[.map (some ab), .agg (css2.getD i []).toArray] W fun e w' => e = .returned (.int .i64 (ruleE p.cs x)) ∧ Below W.heap.size W w') := fun W hW => by
          have hbW : Below w.heap.size w W := B2.out.trans (hW.mono (by omega))
          exact rule_any w2.heap.size ab p.cs _ x W (A2.out.below hW) hW.size ((e1.keep (stK hbW)).imp (lo_mono (by omega))) hxl hxi
        obtain ⟨u, u', ec, ⟨cssu, hss, -⟩, ⟨cssv, hsv, -⟩⟩ := e1
        obtain ⟨xa, ya, rfl⟩ := hss.shape
        obtain ⟨xb, yb, rfl⟩ := hsv.shape
        clear hss hsv
        generalize cssu.length = na at ec
        generalize cssv.length = nb at ec
        rw [ec] at q1 CR
        have qq : ∀ j v, (([.string (st x.nm), .slice xa na ya, .slice xb nb yb] : List Value)[j]? = some v) → j < 3 → wr.cell? ⟨b1, o1 + (i * 3 + j), none⟩ = some v := fun j v h hj => (HW.out.cell (p := ⟨b1, o1 + (i * 3 + j), none⟩) hb1).trans (by rw [q1 j hj]; exact h)
        have q0 : wr.cell? ⟨b1, o1 + i * 3, none⟩ = some (.string (st x.nm)) := qq 0 _ rfl (by decide)
        have q2 : wr.cell? ⟨b1, o1 + i * 3 + 1, none⟩ = some (.slice xa na ya) := qq 1 _ rfl (by decide)
        have q3 : wr.cell? ⟨b1, o1 + i * 3 + 2, none⟩ = some (.slice xb nb yb) := qq 2 _ rfl (by decide)
        clear q1 qq ec
        have CA := add_any w2.heap.size i met x.nm (wr.alloc (.cells #[.string (st x.nm), .slice xa na ya, .slice xb nb yb] 33)) (HN.out.below (bxn _ _) HN.out.lt) (by omega) (by have := hxl.1; omega)
        have B3 : Hid (Below w2.heap.size w2 (wr.alloc (.cells #[.string (st x.nm), .slice xa na ya, .slice xb nb yb] 33))) := bt HB.out (bxn _ _)
        have W3 : Hid (∀ w3, Fx w2.heap.size (wr.alloc (.cells #[.string (st x.nm), .slice xa na ya, .slice xb nb yb] 33)) w3 → Below w2.heap.size w2 w3 ∧ w3.cell? ⟨wr.heap.size, 0, none⟩ = some (.string (st x.nm)) ∧ w3.cell? ⟨wr.heap.size, 1, none⟩ = some (.slice xa na ya) ∧ w3.cell? ⟨wr.heap.size, 2, none⟩ = some (.slice xb nb yb) ∧ w2.heap.size < w3.heap.size) := fun w3 hf => by
          refine ⟨B3.out.grown hf (by simp; omega) (by intro k hk; cases hk; exact Nat.le_refl _), hf.cell (by go_simp) (by simp; omega), hf.cell (by go_simp) (by simp; omega), hf.cell (by go_simp) (by simp; omega), ?_⟩
          have := hf.size; simp at this; omega
        clear hxl hxi
        by_cases hin : x.nm ∈ met
        · have E : Hid (progE p = 7) := HER.out 7 (by unfold progS; rw [if_pos hin])
          rw [decide_eq_false (by simp [hin])] at CA
          clear hin HER HNY
          go_wp2_with (go_at_call 30; refine CA.mono ?_; rintro e w3 ⟨rfl, -, hf3⟩; obtain ⟨hb3, -⟩ := W3.out w3 hf3; have B4 : Hid (Below w.heap.size w w3) := B2.out.trans (hb3.mono (by omega)); clear CA hf3 hb3)
          exact HPO.out _ _ E.out B4.out
        · rw [decide_eq_true hin, show addZ met x.nm = met ++ [x.nm] from if_neg hin] at CA
          by_cases hre : ruleE p.cs x = 0
          · have R3 : Hid (runE (progS p.cs) [] (p.rs.take (i + 1)) = .ok (met ++ [x.nm])) := by rw [HNY.out]; unfold progS; rw [if_neg hin, if_neg (by simp [hre])]; exact rfl
            rw [hre] at CR
            clear hin hre HER HNY
            go_wp2_with (first
              | (go_at_call 30; refine CA.mono ?_; rintro e w3 ⟨rfl, hn3, hf3⟩; obtain ⟨hb3, s0, s1, s2, z3⟩ := W3.out w3 hf3; have B4 : Hid (Below w2.heap.size w2 w3) := hb3; have N3 : Hid (NS w3 w2.heap.size (i + 1) (met ++ [x.nm])) := hn3; have CR2 := CR.out w3 hb3; clear CA hf3 hb3 hn3)
              | (go_at_call 27; refine CR2.mono ?_; rintro e w4 ⟨rfl, hb4⟩; have B5 : Hid (Below w2.heap.size w2 w4) := bt B4.out hb4; have N4 : Hid (NS w4 w2.heap.size (i + 1) (met ++ [x.nm])) := N3.out.below hb4 N3.out.lt; have z4 := hb4.size; clear CR2 hb4))
            go_roundw
            case rel => exact ⟨i + 1, met ++ [x.nm], by simp, by omega, B5.out, R3.out, N4.out, by omega⟩
            case measure => simp [intOf]; omega
          · have E : Hid (progE p = ruleE p.cs x) := HER.out _ (by unfold progS; rw [if_neg hin, if_pos hre])
            generalize ruleE p.cs x = re at CR hre E
            clear hin HER HNY
            go_wp2_with (first
              | (go_at_call 30; refine CA.mono ?_; rintro e w3 ⟨rfl, -, hf3⟩; obtain ⟨hb3, s0, s1, s2, z3⟩ := W3.out w3 hf3; have B4 : Hid (Below w2.heap.size w2 w3) := hb3; have CR2 := CR.out w3 hb3; clear CA hf3 hb3)
              | (go_at_call 27; refine CR2.mono ?_; rintro e w4 ⟨rfl, hb4⟩; have B5 : Hid (Below w.heap.size w w4) := B2.out.trans ((bt B4.out hb4).mono (by omega)); clear CR2 hb4))
            exact HPO.out _ _ E.out B5.out
      · have hiz : ¬ (i : Int) < p.rs.length := by omega
        have E : Hid (progE p = 0) := by rw [E0.out, runE_all (by omega) HRU.out]; exact rfl
        go_wp2
        exact HPO.out _ _ E.out HW.out
  · have E : Hid (progE p = clsE p.cs) := by unfold progE; rw [if_pos hce]; exact rfl
    generalize clsE p.cs = ce at CK1 hce E
    go_enter Try.func12, Try.ntmps12
    go_wp2_with (go_at_call 14; refine CK1.mono ?_; rintro e w1 ⟨rfl, hb1⟩; have B1 : Hid (Below w.heap.size w w1) := bt BX.out hb1; clear CK1 hb1)
    exact HPO.out _ _ E.out B1.out
set_option maxHeartbeats 4000000 in
theorem exprX_any {P Q : Nat → Prop} (v1 v2 : Value) (xs : List ItemD) (zs : List Str) (w : World) (h1 : SlW 5 w P v1 (xs.map clI)) (h2 : SlW 1 w Q v2 (zs.map clS)) (hz : zs.length ≤ 30) (hzl : ∀ s ∈ zs, s.length ≤ 9223372036854775807) (hl : ∀ x ∈ xs, x.v.length ≤ 9223372036854775807) :
    Calls Try.prog 23 #[v1, v2] w fun e w' => e = .returned (.int .i64 (exE zs xs)) ∧ Below w.heap.size w w' := by
  have B0 : Hid (Below w.heap.size w ((w.alloc (.map #[] 0)).alloc (.cells #[.map none, .map (some w.heap.size)] 88))) := bt (bxn _ _) (bxn _ _)
  have N0 : NS ((w.alloc (.map #[] 0)).alloc (.cells #[.map none, .map (some w.heap.size)] 88)) w.heap.size 0 [] := (NS.made w).below (bxn _ _) (by simp)
  have CA := addAll_any w.heap.size 0 v2 [] zs _ N0 (slK h2.pin B0.out) (fun k hk => by omega) (by omega) hzl
  have CE : Hid (∀ w2, NS w2 w.heap.size (0 + zs.length) (zs.foldl addZ []) → Fx w.heap.size ((w.alloc (.map #[] 0)).alloc (.cells #[.map none, .map (some w.heap.size)] 88)) w2 → w2.cell? ⟨w.heap.size + 1, 0, none⟩ = some (.map none) ∧ w2.cell? ⟨w.heap.size + 1, 1, none⟩ = some (.map (some w.heap.size)) ∧ Below w.heap.size w w2 ∧ Calls Try.prog 39 #[.agg #[.map none, .map (some w.heap.size)], v1] w2 fun e w' => e = .returned (.int .i64 (exE zs xs)) ∧ Below w2.heap.size w2 w') := fun w2 hn hf => by
    have hbl : Below w.heap.size w w2 := B0.out.grown hf (by simp; omega) (by intro k hk; cases hk; exact Nat.le_refl _)
    exact ⟨hf.cell (by go_simp) (by simp), hf.cell (by go_simp) (by simp), hbl, expr_any (.map none) w.heap.size (0 + zs.length) zs v1 xs w2 (hn.congr fun s => by rw [foldZ_mem]; simp) (h1.bl hbl) hl⟩
  generalize allN [] zs zs.length = an at CA
  clear N0
  have hmm := @run_makeMap Try.prog
  go_enter Try.func23, Try.ntmps23
  go_wp2_with (first
    | (go_at_call 31; refine CA.mono ?_; rintro e w2 ⟨rfl, hn2, hf2⟩; obtain ⟨s0, s1, hb2, CE2⟩ := CE.out w2 hn2 hf2; have B2 : Hid (Below w.heap.size w w2) := hb2; clear CA hn2 hf2 hb2 hmm)
    | (go_at_call 39; refine CE2.mono ?_; rintro e w3 ⟨rfl, hb3⟩; have B3 : Hid (Below w.heap.size w w3) := bt B2.out hb3; clear CE2 hb3))
  go_ret
  exact ⟨rfl, B3.out⟩
end Go.Proofs.Ytakibdkmgjpbhaa
