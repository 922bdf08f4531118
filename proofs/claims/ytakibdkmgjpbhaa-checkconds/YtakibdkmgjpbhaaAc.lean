/- An act: its class, its sets, its expressions. -/
import Derived.Test.YtakibdkmgjpbhaaCo
namespace Go.Proofs.Ytakibdkmgjpbhaa
open Go.RowKit
set_option linter.unusedVariables false
set_option linter.unusedSimpArgs false
set_option maxRecDepth 20000

/-- sets. -/
theorem slK {n K : Nat} {w w' : World} {v : Value} {css : List (List Value)} (h : SlW n w (fun k => k < K) v css) (hb : Below K w w') : SlW n w' (fun k => k < K) v css := SlW.keep (P := fun _ k => k < K) (k := 0) ⟨hb.size, fun _ k hk _ => hb.block k hk⟩ h
theorem stK {K : Nat} {w w' : World} (hb : Below K w w') : Stays (fun _ k => k < K) w w' := ⟨hb.size, fun _ k hk _ => hb.block k hk⟩
set_option maxHeartbeats 8000000 in
theorem sets_any (K : Nat) (sa av : Value) (b n : Nat) (has zs : List Str) (v1 : Value) (xs : List SetD) (w : World) (hA : NV w av has) (hav : ∀ b', av = .map (some b') → b' < K) (h : NS w b n zs) (h1 : Row 2 (ReS (fun _ k => k < K)) w (fun k => k < K) v1 xs) (hKb : K ≤ b) (hl : xs.length ≤ 10) (hL : ∀ x ∈ xs, setL x) :
    Calls Try.prog 49 #[.agg #[sa, .map (some b)], av, v1] w fun e w' => e = .returned (.int .i64 (errE (runE (setS has zs) [] xs))) ∧ Below w.heap.size w w' := by
  obtain ⟨css, h1, hh1⟩ := h1
  have le1 := hh1.len
  obtain ⟨a1, c1, rfl⟩ := h1.shape
  obtain ⟨-, l1, m1, r1⟩ := h1.row
  rw [le1] at l1 r1 ⊢
  have R1 : Hid (∀ i, i < xs.length → ∃ b off, a1 = some ⟨b, off, none⟩ ∧ b < w.heap.size ∧ ∀ j, j < 2 → w.cell? ⟨b, off + (i * 2 + j), none⟩ = (css.getD i [])[j]?) := r1
  have G1 : Hid (All2 (ReS (fun _ k => k < K) w) css xs) := hh1
  have HL : Hid (∀ i, i < xs.length → setL (xs.getD i ⟨[], []⟩)) := fun i hi => by
    rw [List.getD_eq_getElem?_getD, List.getElem?_eq_getElem hi]; exact hL _ (List.getElem_mem hi)
  have HN : Hid (NS w b n zs) := h
  have HV : Hid (NV w av has) := hA
  have HAV : Hid (∀ b', av = .map (some b') → b' < K) := hav
  have hbw := h.lt
  clear r1 h1 hh1 le1 hL h hA hav
  have hnn : (xs.length : Int) ≤ 9223372036854775807 := by omega
  have HM := NS.made (w.alloc (.cells #[sa, .map (some b)] 88))
  have HM0 : Hid (NS ((w.alloc (.cells #[sa, .map (some b)] 88)).alloc (.map #[] 0)) (w.heap.size + 1) 0 []) := by simpa [Hid] using HM
  clear HM
  have hmm := @run_makeMap Try.prog
  go_enter Try.func49, Try.ntmps49
  go_wp2
  clear hmm
  have B1 : Hid (Below w.heap.size w ((w.alloc (.cells #[sa, .map (some b)] 88)).alloc (.map #[] 0))) := bt (bxn _ _) (bxn _ _)
  go_loopw [15] (fun v wr => ∃ (i : Nat) (met : List Str), v = .int .i64 i ∧ i ≤ xs.length ∧ Hid (Below w.heap.size w wr) ∧ wr.cell? ⟨w.heap.size, 0, none⟩ = some sa ∧ wr.cell? ⟨w.heap.size, 1, none⟩ = some (.map (some b)) ∧ w.heap.size + 1 < wr.heap.size ∧ Hid (runE (setS has zs) [] (xs.take i) = .ok met) ∧ Hid (NS wr (w.heap.size + 1) i met)) (fun v _ => (xs.length - intOf v).toNat)
  case atStart => exact ⟨0, [], rfl, Nat.zero_le _, B1.out, by go_simp, by go_simp, by simp, rfl, HM0.out⟩
  case round =>
    obtain ⟨i, met, rfl, hi, HB, hb0, hb1', hsz, HRU, HME⟩ := hrel
    by_cases hlt : i < xs.length
    · have hiz : (i : Int) < xs.length := by omega
      obtain ⟨b1, o1, rfl, hb1, q1⟩ := R1.out i hlt
      have e1 := G1.out.at i [] ⟨[], []⟩ hlt
      have hxl := HL.out i hlt
      have HNX := runE_next (step := setS has zs) ⟨[], []⟩ hlt HRU.out
      have HER : Hid (∀ er, setS has zs met (xs.getD i ⟨[], []⟩) = .error er → errE (runE (setS has zs) [] xs) = er) := fun er he => by rw [runE_err ⟨[], []⟩ hlt HRU.out he]; rfl
      have HNY : Hid (runE (setS has zs) [] (xs.take (i + 1)) = setS has zs met (xs.getD i ⟨[], []⟩)) := HNX
      clear HNX
      generalize xs.getD i ⟨[], []⟩ = x at q1 e1 HER HNY hxl
      have HXL : Hid (setL x) := hxl
      clear hxl
      obtain ⟨u1, ec, hu1⟩ := e1
      have HU : Hid (SlW 5 w (fun k => k < K) u1 (x.e.map clI)) := hu1
      obtain ⟨d1, e1c, rfl⟩ := hu1.shape
      simp only [List.length_map] at ec HU
      rw [ec] at q1
      have q0 : wr.cell? ⟨b1, o1 + i * 2, none⟩ = some (.string (st x.a)) := (HB.out.cell (p := ⟨b1, o1 + i * 2, none⟩) hb1).trans (q1 0 (by decide))
      have q2 : wr.cell? ⟨b1, o1 + i * 2 + 1, none⟩ = some (.slice d1 x.e.length e1c) := (HB.out.cell (p := ⟨b1, o1 + i * 2 + 1, none⟩) hb1).trans (q1 1 (by decide))
      clear q1 ec hu1
      have B2 : Hid (Below w.heap.size w (wr.alloc (.cells #[.string (st x.a), .slice d1 x.e.length e1c] 72))) := bt HB.out (bxn _ _)
      have CO := once_any av (w.heap.size + 1) i has met x.a (wr.alloc (.cells #[.string (st x.a), .slice d1 x.e.length e1c] 72)) (HV.out.bl B2.out) (HME.out.below (bxn _ _) HME.out.lt) (by omega) (by have := HXL.out.1; omega)
      have W2 : Hid (∀ w2, Fx (w.heap.size + 1) (wr.alloc (.cells #[.string (st x.a), .slice d1 x.e.length e1c] 72)) w2 → Below w.heap.size w w2 ∧ w2.cell? ⟨w.heap.size, 0, none⟩ = some sa ∧ w2.cell? ⟨w.heap.size, 1, none⟩ = some (.map (some b)) ∧ w2.cell? ⟨wr.heap.size, 1, none⟩ = some (.slice d1 x.e.length e1c) ∧ wr.heap.size < w2.heap.size ∧ Calls Try.prog 39 #[.agg #[sa, .map (some b)], .slice d1 x.e.length e1c] w2 fun e w' => e = .returned (.int .i64 (exE zs x.e)) ∧ Below w2.heap.size w2 w') := fun w2 hf2 => by
        have hbx := bxn wr (.cells #[.string (st x.a), .slice d1 x.e.length e1c] 72)
        have hbl : Below w.heap.size w w2 := B2.out.grown hf2 (by simp; omega) (by intro k hk; cases hk; omega)
        refine ⟨hbl, hf2.cell ((hbx.cell (p := ⟨w.heap.size, 0, none⟩) (by show w.heap.size < _; omega)).trans hb0) (by simp), hf2.cell ((hbx.cell (p := ⟨w.heap.size, 1, none⟩) (by show w.heap.size < _; omega)).trans hb1') (by simp), hf2.cell (by go_simp) (by simp; omega), ?_, expr_any sa b n zs _ x.e w2 (HN.out.below hbl hbw) (slK HU.out (hbl.mono (by omega))) (fun y hy => by have := (HXL.out.2.2 y hy).1; omega)⟩
        have := hf2.size; simp at this; omega
      by_cases ho : onceE has met x.a = 0
      · have HS : Hid (setS has zs met x = if exE zs x.e ≠ 0 then .error (exE zs x.e) else .ok (met ++ [x.a])) := by unfold setS; rw [if_neg (by simp [ho])]; exact rfl
        rw [ho] at CO
        clear ho
        rcases exE_bad zs x.e with he | he
        · have R2 : Hid (runE (setS has zs) [] (xs.take (i + 1)) = .ok (met ++ [x.a])) := by rw [HNY.out, HS.out, if_neg (by simp [he])]; exact rfl
          rw [he] at W2
          clear he HS HER HNY
          go_wp2_with (first
            | (go_at_call 45; refine CO.mono ?_; rintro e w2 ⟨rfl, hn1, hf2⟩; have M2 : Hid (NS w2 (w.heap.size + 1) (i + 1) (met ++ [x.a])) := hn1 rfl; obtain ⟨hbl, s0, s1, s2, z2, CE⟩ := W2.out w2 hf2; have B3 : Hid (Below w.heap.size w w2) := hbl; clear CO hf2 hn1 hbl)
            | (go_at_call 39; refine CE.mono ?_; rintro e w3 ⟨rfl, hb3⟩; have B4 : Hid (Below w.heap.size w w3) := bt B3.out hb3; have M3 : Hid (NS w3 (w.heap.size + 1) (i + 1) (met ++ [x.a])) := M2.out.below hb3 M2.out.lt; have t0 : w3.cell? ⟨w.heap.size, 0, none⟩ = some sa := (hb3.cell (p := ⟨w.heap.size, 0, none⟩) (by show w.heap.size < _; omega)).trans s0; have t1 : w3.cell? ⟨w.heap.size, 1, none⟩ = some (.map (some b)) := (hb3.cell (p := ⟨w.heap.size, 1, none⟩) (by show w.heap.size < _; omega)).trans s1; have z3 := hb3.size; clear CE hb3))
          go_roundw
          case rel => exact ⟨i + 1, met ++ [x.a], by simp, by omega, B4.out, t0, t1, by omega, R2.out, M3.out⟩
          case measure => simp [intOf]; omega
        · have E2 : Hid (errE (runE (setS has zs) [] xs) = 20) := HER.out 20 (by rw [HS.out, if_pos (by simp [he]), he])
          rw [he] at W2
          clear he HS HER HNY
          go_wp2_with (first
            | (go_at_call 45; refine CO.mono ?_; rintro e w2 ⟨rfl, hn1, hf2⟩; obtain ⟨hbl, s0, s1, s2, z2, CE⟩ := W2.out w2 hf2; have B3 : Hid (Below w.heap.size w w2) := hbl; clear CO hf2 hn1 hbl)
            | (go_at_call 39; refine CE.mono ?_; rintro e w3 ⟨rfl, hb3⟩; have B4 : Hid (Below w.heap.size w w3) := bt B3.out hb3; clear CE hb3))
          go_ret
          exact ⟨by rw [E2.out]; rfl, B4.out⟩
      · have E2 : Hid (errE (runE (setS has zs) [] xs) = onceE has met x.a) := HER.out _ (by unfold setS; rw [if_pos ho])
        generalize onceE has met x.a = oe at CO ho E2
        go_wp2_with (go_at_call 45; refine CO.mono ?_; rintro e w2 ⟨rfl, -, hf2⟩; obtain ⟨hbl, -⟩ := W2.out w2 hf2; have B3 : Hid (Below w.heap.size w w2) := hbl; clear CO hf2 hbl)
        go_ret
        exact ⟨by rw [E2.out]; rfl, B3.out⟩
    · have hiz : ¬ (i : Int) < xs.length := by omega
      have E0 : Hid (errE (runE (setS has zs) [] xs) = 0) := by rw [runE_all (by omega) HRU.out]; exact rfl
      go_wp2
      go_ret
      exact ⟨by rw [E0.out]; rfl, HB.out⟩
/-- What class tells. -/
def KP (r : Except Int Str) (e : Ending) : Prop := match r with
  | .error er => e = .returned (.tuple #[.string (st []), .int .i64 er])
  | .ok s => e = .returned (.tuple #[.string (st s), .int .i64 0])
set_option maxHeartbeats 8000000 in
theorem class_any (K ab : Nat) (sb : Value) (cs : List ClassD) (ca : List Value) (a : ActD) (v3 : Value) (conds : List CondD) (w : World) (hA : AM w ab K cs) (hKw : K ≤ w.heap.size) (ha : ReT (fun _ k => k < K) w ca a) (h3 : Row 3 (ReC (fun _ k => k < K)) w (fun k => k < K) v3 conds) (hL : actL a) (hOk : -9223372036854775808 ≤ a.n ∧ a.n ≤ 9223372036854775807) (hcl : conds.length ≤ 8) :
    Calls Try.prog 48 #[.agg #[.map (some ab), sb], .agg ca.toArray, v3] w fun e w' => KP (clsR cs conds a) e ∧ Below w.heap.size w w' := by
  generalize hPO : (fun e w' => KP (clsR cs conds a) e ∧ Below w.heap.size w w') = PO
  have HPE : Hid (∀ er w', clsR cs conds a = .error er → Below w.heap.size w w' → PO (.returned (.tuple #[.string ⟨#[]⟩, .int .i64 er])) w') := fun er w' he hb => by rw [← hPO]; exact ⟨by rw [he]; rfl, hb⟩
  have HPO : Hid (∀ s w', clsR cs conds a = .ok s → Below w.heap.size w w' → PO (.returned (.tuple #[.string (st s), .int .i64 0])) w') := fun er w' he hb => by rw [← hPO]; exact ⟨by rw [he]; rfl, hb⟩
  clear hPO
  obtain ⟨u1, u2, rfl, ⟨css1, hu1, -⟩, ⟨css2, hu2, -⟩⟩ := ha
  obtain ⟨x1, y1, rfl⟩ := hu1.shape
  obtain ⟨x2, y2, rfl⟩ := hu2.shape
  clear hu1 hu2
  generalize css1.length = n1
  generalize css2.length = n2
  have B0 : Hid (Below w.heap.size w ((w.alloc (.cells #[.map (some ab), sb] 88)).alloc (.cells #[.int .u8 a.k, .string (st a.c), .int .i64 a.n, .string (st a.v), .slice x1 n1 y1, .slice x2 n2 y2] 70))) := bt (bxn _ _) (bxn _ _)
  obtain ⟨av, -, -, hlk, -⟩ := (hA.below (B0.out.mono hKw)).look (s := a.c) (by have := hL.1; omega)
  have HLK : Hid ((Instr.lookup 75 (.map (some ab)) (.string (st a.c)) true).run Try.prog ((w.alloc (.cells #[.map (some ab), sb] 88)).alloc (.cells #[.int .u8 a.k, .string (st a.c), .int .i64 a.n, .string (st a.v), .slice x1 n1 y1, .slice x2 n2 y2] 70)) = _) := hlk
  clear hlk hA
  obtain ⟨css, h1, hh1⟩ := h3
  have le1 := hh1.len
  obtain ⟨a1, c1, rfl⟩ := h1.shape
  obtain ⟨-, l1, m1, r1⟩ := h1.row
  rw [le1] at l1 r1 ⊢
  have R1 : Hid (∀ i, i < conds.length → ∃ b off, a1 = some ⟨b, off, none⟩ ∧ b < w.heap.size ∧ ∀ j, j < 3 → w.cell? ⟨b, off + (i * 3 + j), none⟩ = (css.getD i [])[j]?) := r1
  have G1 : Hid (All2 (ReC (fun _ k => k < K) w) css conds) := hh1
  clear r1 h1 hh1 le1 hL
  by_cases hk0 : a.k = 0
  · rw [hk0] at B0 HLK ⊢
    cases hf : findC cs a.c with
    | none =>
      have E : Hid (clsR cs conds a = .error 18) := by unfold clsR; rw [if_pos ⟨hk0, hf⟩]; exact rfl
      rw [hf] at HLK
      clear hf hk0
      go_enter Try.func48, Try.ntmps48
      go_wp2_with (at_lookup; refine wpList_look rfl _ _ _ _ rfl rfl rfl HLK.out ?_)
      exact HPE.out _ _ E.out B0.out
    | some kk =>
      have E : Hid (clsR cs conds a = .ok a.c) := by unfold clsR; rw [if_neg (by rw [hf]; simp), if_neg (by simp [hk0]), if_neg (by simp [hk0])]; exact rfl
      rw [hf] at HLK
      clear hf hk0
      go_enter Try.func48, Try.ntmps48
      go_wp2_with (at_lookup; refine wpList_look rfl _ _ _ _ rfl rfl rfl HLK.out ?_)
      exact HPO.out _ _ E.out B0.out
  · by_cases hk12 : a.k = 1 ∨ a.k = 2
    · by_cases hn : a.n < 1 ∨ a.n > conds.length
      · have E : Hid (clsR cs conds a = .error 12) := by unfold clsR; rw [if_neg (by simp [hk0]), if_pos ⟨hk12, hn.elim .inl fun h => .inr (.inl h)⟩]; exact rfl
        rcases hk12 with hk | hk <;> rcases hn with hn | hn <;>
        · rw [hk] at B0 ⊢
          clear HLK hk0
          go_enter Try.func48, Try.ntmps48
          go_wp2
          all_goals exact HPE.out _ _ E.out B0.out
      · have hn1 : 1 ≤ a.n := by omega
        have hn2 : a.n ≤ conds.length := by omega
        obtain ⟨i, hi⟩ : ∃ i : Nat, a.n = (i : Int) + 1 := ⟨(a.n - 1).toNat, by omega⟩
        have hlt : i < conds.length := by omega
        have hti : a.n.toNat - 1 = i := by omega
        obtain ⟨b1, o1, rfl, hb1, q1⟩ := R1.out i hlt
        have e1 := G1.out.at i [] ⟨false, [], []⟩ hlt
        have HC : Hid (clsR cs conds a = if (conds.getD i ⟨false, [], []⟩).neg = true then .error 12 else .ok (if a.k = 1 then (conds.getD i ⟨false, [], []⟩).c else a.c)) := by
          unfold clsR
          rw [if_neg (by simp [hk0]), hti]
          by_cases hng : (conds.getD i ⟨false, [], []⟩).neg = true
          · rw [if_pos ⟨hk12, .inr (.inr hng)⟩, if_pos hng]; exact rfl
          · rw [if_neg (by rintro ⟨_, h | h | h⟩ <;> first | omega | exact hng h), if_neg hng]; exact rfl
        generalize conds.getD i ⟨false, [], []⟩ = c at q1 e1 HC
        obtain ⟨u, ec, -⟩ := e1
        rw [ec] at q1
        have q0 : w.cell? ⟨b1, o1 + i * 3, none⟩ = some (.bool c.neg) := q1 0 (by decide)
        have q2 : w.cell? ⟨b1, o1 + i * 3 + 1, none⟩ = some (.string (st c.c)) := q1 1 (by decide)
        clear q1 ec hn hti G1 R1
        rw [hi] at B0 ⊢
        have hiz : (i : Int) < conds.length := by omega
        have hcz : (conds.length : Int) ≤ 8 := by omega
        clear hi hn1 hn2
        clear HLK hk0
        rcases hk12 with hk | hk
        · rw [hk] at B0 ⊢
          cases hng : c.neg with
          | true =>
            have E : Hid (clsR cs conds a = .error 12) := by rw [HC.out, if_pos hng]; exact rfl
            rw [hng] at q0
            go_enter Try.func48, Try.ntmps48
            go_wp2
            exact HPE.out _ _ E.out B0.out
          | false =>
            have E : Hid (clsR cs conds a = .ok c.c) := by rw [HC.out, if_neg (by simp [hng]), if_pos hk]; exact rfl
            rw [hng] at q0
            go_enter Try.func48, Try.ntmps48
            go_wp2
            exact HPO.out _ _ E.out B0.out
        · rw [hk] at B0 ⊢
          cases hng : c.neg with
          | true =>
            have E : Hid (clsR cs conds a = .error 12) := by rw [HC.out, if_pos hng]; exact rfl
            rw [hng] at q0
            go_enter Try.func48, Try.ntmps48
            go_wp2
            exact HPE.out _ _ E.out B0.out
          | false =>
            have E : Hid (clsR cs conds a = .ok a.c) := by rw [HC.out, if_neg (by simp [hng]), if_neg (by simp [hk])]; exact rfl
            rw [hng] at q0
            go_enter Try.func48, Try.ntmps48
            go_wp2
            exact HPO.out _ _ E.out B0.out
    · have E : Hid (clsR cs conds a = .ok a.c) := by unfold clsR; rw [if_neg (by simp [hk0]), if_neg (fun h => hk12 h.1), if_neg (fun h => hk12 (.inl h))]; exact rfl
      have hk1 : ¬ a.k = 1 := fun h => hk12 (.inl h)
      have hk2 : ¬ a.k = 2 := fun h => hk12 (.inr h)
      clear HLK hk12
      go_enter Try.func48, Try.ntmps48
      go_wp2
      exact HPO.out _ _ E.out B0.out
end Go.Proofs.Ytakibdkmgjpbhaa
