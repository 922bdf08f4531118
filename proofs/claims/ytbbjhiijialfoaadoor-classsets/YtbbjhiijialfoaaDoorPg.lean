import Derived.Test.YtbbjhiijialfoaaDoorFa
import Derived.Test.YtbbjhiijialfoaaDoorSb
import Derived.Test.YtbbjhiijialfoaaDoorLf
import Derived.Test.YtbbjhiijialfoaaDoorSa
import Derived.Deep.RegionHeld3
namespace Go.Proofs.YtbbjhiijialfoaaDoor
set_option maxRecDepth 20000
open Go.RowKit
set_option linter.unusedVariables false
set_option linter.unusedSimpArgs false
set_option maxRecDepth 20000
variable {P Q : Nat → Nat → Prop} {w : World}
theorem nodup_iff : ∀ (l zs : List Str), nodup zs l = true ↔ ∀ j, j < l.length → l.getD j [] ∉ zs ++ l.take j
  | [], zs => by simp [nodup]
  | s :: l, zs => by
    have ih := nodup_iff l (zs ++ [s])
    unfold nodup
    rw [Bool.and_eq_true, decide_eq_true_eq, ih]
    constructor
    · rintro ⟨h1, h2⟩ j hj
      cases j with
      | zero => simpa using h1
      | succ j => have := h2 j (by simpa using hj); simpa using this
    · intro h
      exact ⟨by simpa using h 0 (by simp), fun j hj => by have := h (j + 1) (by simpa using hj); simpa using this⟩
theorem allN_iff (zs l : List Str) : ∀ k, allN zs l k = true ↔ ∀ j, j < k → l.getD j [] ∉ zs ++ l.take j
  | 0 => by simp [allN]
  | k + 1 => by
    have ih := allN_iff zs l k
    unfold allN
    rw [Bool.and_eq_true, decide_eq_true_eq, ih, foldZ_mem, ← List.mem_append]
    constructor
    · rintro ⟨h1, h2⟩ j hj
      rcases Nat.lt_or_eq_of_le (Nat.le_of_lt_succ hj) with hj | rfl
      · exact h2 j hj
      · exact h1
    · intro h
      exact ⟨h k (Nat.lt_succ_self _), fun j hj => h j (Nat.lt_succ_of_lt hj)⟩
theorem allN_nodup (l : List Str) : allN [] l l.length = nodup [] l := by
  rw [Bool.eq_iff_iff, allN_iff, nodup_iff]
theorem clsS_bad {met : List Str} {c : ClassD} {e : Int} (h : clsS met c = .error e) : e = 7 := by
  unfold clsS at h; split at h
  · injection h with h; exact h.symm
  · cases h
set_option maxHeartbeats 8000000 in
theorem classes_any {P : Nat → Nat → Prop} {Q : Nat → Prop} (v : Value) (cs : List ClassD) (w : World) (h : Row 2 (ReK P) w Q v cs) (hl : cs.length ≤ 20) (hL : ∀ c ∈ cs, classL c) :
    Calls Tryd.prog 21 #[v] w fun e w' => e = .returned (.int .i64 (clsE cs)) ∧ Below w.heap.size w w' := by
  obtain ⟨css1, h1, hh1⟩ := h
  have le1 := hh1.len
  obtain ⟨a1, c1, rfl⟩ := h1.shape
  obtain ⟨-, l1, m1, r1⟩ := h1.row
  rw [le1] at l1 r1 ⊢
  have R1 : Hid (∀ i, i < cs.length → ∃ b off, a1 = some ⟨b, off, none⟩ ∧ b < w.heap.size ∧ ∀ j, j < 2 → w.cell? ⟨b, off + (i * 2 + j), none⟩ = (css1.getD i [])[j]?) := r1
  have G1 : Hid (All2 (ReK P w) css1 cs) := hh1
  have HL : Hid (∀ i, i < cs.length → classL (cs.getD i ⟨[], []⟩)) := fun i hi => by
    rw [List.getD_eq_getElem?_getD, List.getElem?_eq_getElem hi]; exact hL _ (List.getElem_mem hi)
  clear r1 h1 hh1 le1 hL
  have hnn : (cs.length : Int) ≤ 9223372036854775807 := by omega
  have hmm := @run_makeMap Tryd.prog
  go_enter Tryd.func21, Tryd.ntmps21
  go_wp2
  clear hmm
  go_loopw [10] (fun v wr => ∃ (i : Nat) (met : List Str), v = .int .i64 i ∧ i ≤ cs.length ∧ Hid (Below w.heap.size w wr) ∧ Hid (runE clsS [] (cs.take i) = .ok met) ∧ Hid (NS wr w.heap.size i met) ∧ w.heap.size < wr.heap.size) (fun v _ => (cs.length - intOf v).toNat)
  case atStart => exact ⟨0, [], rfl, Nat.zero_le _, bxn _ _, rfl, NS.made w, by simp⟩
  case round =>
    obtain ⟨i, met, rfl, hi, HB, HRU, HN, hsz⟩ := hrel
    by_cases hlt : i < cs.length
    · have hiz : (i : Int) < cs.length := by omega
      obtain ⟨b1, o1, rfl, hb1, q1⟩ := R1.out i hlt
      have e1 := G1.out.at i [] ⟨[], []⟩ hlt
      have hcl := HL.out i hlt
      have HER : Hid (∀ er, clsS met (cs.getD i ⟨[], []⟩) = .error er → clsE cs = er) := fun er he => by unfold clsE; rw [runE_err ⟨[], []⟩ hlt HRU.out he]; rfl
      have hnx := runE_next (step := clsS) ⟨[], []⟩ hlt HRU.out
      have HNY : Hid (runE clsS [] (cs.take (i + 1)) = clsS met (cs.getD i ⟨[], []⟩)) := hnx
      clear hnx
      generalize cs.getD i ⟨[], []⟩ = c at q1 e1 hcl HER HNY
      obtain ⟨u, ec, hu⟩ := e1
      have HU : Hid (SlW 1 w (fun b => b < w.heap.size) u (c.attrs.map clS)) := hu.pin
      obtain ⟨au, cu, rfl⟩ := hu.shape
      simp only [List.length_map] at ec
      rw [ec] at q1
      simp only [List.length_map] at HU
      have d0 : wr.cell? ⟨b1, o1 + i * 2, none⟩ = some (.string (st c.nm)) := (HB.out.cell (p := ⟨b1, o1 + i * 2, none⟩) hb1).trans (q1 0 (by decide))
      have d1 : wr.cell? ⟨b1, o1 + i * 2 + 1, none⟩ = some (.slice au c.attrs.length cu) := (HB.out.cell (p := ⟨b1, o1 + i * 2 + 1, none⟩) hb1).trans (q1 1 (by decide))
      clear q1 ec hu
      have HC : Hid (classL c) := hcl
      clear hcl
      have B1 : Hid (Below w.heap.size w ((wr.alloc (.cells #[.string (st c.nm), .slice au c.attrs.length cu] 54)).alloc (.map #[] 0))) := bt (bt HB.out (bxn _ _)) (bxn _ _)
      have N1 : Hid (NS ((wr.alloc (.cells #[.string (st c.nm), .slice au c.attrs.length cu] 54)).alloc (.map #[] 0)) w.heap.size i met) := HN.out.below (bt (bxn _ _) (bxn _ _)) HN.out.lt
      have M1 : Hid (NS ((wr.alloc (.cells #[.string (st c.nm), .slice au c.attrs.length cu] 54)).alloc (.map #[] 0)) (wr.heap.size + 1) 0 []) := by
        have := NS.made (wr.alloc (.cells #[.string (st c.nm), .slice au c.attrs.length cu] 54)); simpa [Hid] using this
      have CA := add_any w.heap.size i met c.nm _ N1.out (by omega) (by have := HC.out.1; omega)
      have CB : Hid (∀ w2, Fx w.heap.size ((wr.alloc (.cells #[.string (st c.nm), .slice au c.attrs.length cu] 54)).alloc (.map #[] 0)) w2 → w2.cell? ⟨wr.heap.size, 1, none⟩ = some (.slice au c.attrs.length cu) ∧ Below w.heap.size w w2 ∧ wr.heap.size + 1 < w2.heap.size ∧ Calls Tryd.prog 38 #[.map (some (wr.heap.size + 1)), .slice au c.attrs.length cu] w2 fun e w' => e = .returned (.bool (nodup [] c.attrs)) ∧ Fx (wr.heap.size + 1) w2 w') := fun w2 hf => by
        have hbl : Below w.heap.size w w2 := B1.out.grown hf (by simp; omega) (by intro k hk; cases hk; exact Nat.le_refl _)
        refine ⟨hf.cell (by go_simp) (by simp; omega), hbl, by have := hf.size; simp at this; omega, ?_⟩
        have := addAll_any (wr.heap.size + 1) 0 _ [] c.attrs w2 (M1.out.grow hf (by omega)) (slK HU.out hbl) (fun k hk => by omega) (by have := HC.out.2.1; omega) (fun x hx => Nat.le_trans (HC.out.2.2 x hx) (by omega))
        rw [allN_nodup] at this
        exact this.mono fun e w' h => ⟨h.1, h.2.2⟩
      have hmm := @run_makeMap Tryd.prog
      by_cases hin : c.nm ∈ met
      · have E : Hid (clsE cs = 7) := HER.out 7 (by unfold clsS; rw [if_pos (.inl hin)])
        have e2 : decide (c.nm ∉ met) = false := decide_eq_false (by simp [hin])
        rw [e2] at CA
        clear hin e2 HER HNY
        go_wp2_with (go_at_call 37; refine CA.mono ?_; rintro e w2 ⟨rfl, -, hf2⟩; obtain ⟨-, hbl, -, -⟩ := CB.out w2 hf2; have B2 : Hid (Below w.heap.size w w2) := hbl; clear CA hf2 hbl hmm)
        go_ret
        exact ⟨by rw [E.out]; rfl, B2.out⟩
      · have e2 : decide (c.nm ∉ met) = true := decide_eq_true hin
        have e3 : addZ met c.nm = met ++ [c.nm] := if_neg hin
        rw [e2, e3] at CA
        cases hnd : nodup [] c.attrs with
        | false =>
          have E : Hid (clsE cs = 7) := HER.out 7 (by unfold clsS; rw [if_pos (.inr hnd)])
          rw [hnd] at CB
          clear hin e2 e3 HER HNY hnd
          go_wp2_with (first
            | (go_at_call 37; refine CA.mono ?_; rintro e w2 ⟨rfl, -, hf2⟩; obtain ⟨s1, hbl, z2, CB2⟩ := CB.out w2 hf2; have B2 : Hid (Below w.heap.size w w2) := hbl; clear CA hf2 hbl hmm)
            | (go_at_call 38; refine CB2.mono ?_; rintro e w3 ⟨rfl, hf3⟩; have B3 : Hid (Below w.heap.size w w3) := B2.out.grown hf3 (by omega) (by intro k hk; cases hk; omega); clear CB2 hf3))
          go_ret
          exact ⟨by rw [E.out]; rfl, B3.out⟩
        | true =>
          have R2 : Hid (runE clsS [] (cs.take (i + 1)) = .ok (met ++ [c.nm])) := by rw [HNY.out]; unfold clsS; rw [if_neg (by simp [hin, hnd])]; exact rfl
          rw [hnd] at CB
          clear hin e2 e3 HER HNY hnd
          go_wp2_with (first
            | (go_at_call 37; refine CA.mono ?_; rintro e w2 ⟨rfl, hn2, hf2⟩; obtain ⟨s1, hbl, z2, CB2⟩ := CB.out w2 hf2; have B2 : Hid (Below w.heap.size w w2) := hbl; have N2 : Hid (NS w2 w.heap.size (i + 1) (met ++ [c.nm])) := hn2; clear CA hf2 hbl hmm hn2)
            | (go_at_call 38; refine CB2.mono ?_; rintro e w3 ⟨rfl, hf3⟩; have B3 : Hid (Below w.heap.size w w3) := B2.out.grown hf3 (by omega) (by intro k hk; cases hk; omega); have N3 : Hid (NS w3 w.heap.size (i + 1) (met ++ [c.nm])) := N2.out.grow hf3 (by omega); have z3 := hf3.size; clear CB2 hf3))
          go_roundw
          case rel => exact ⟨i + 1, met ++ [c.nm], by simp, by omega, B3.out, R2.out, N3.out, by omega⟩
          case measure => simp [intOf]; omega
    · have hiz : ¬ (i : Int) < cs.length := by omega
      have E : Hid (clsE cs = 0) := by unfold clsE Hid; rw [runE_all (by omega) HRU.out]; rfl
      go_wp2
      go_ret
      exact ⟨by rw [E.out]; rfl, HB.out⟩
end Go.Proofs.YtbbjhiijialfoaaDoor
