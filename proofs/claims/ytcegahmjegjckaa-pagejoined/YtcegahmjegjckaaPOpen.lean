/- page.Open: what is read, and laid again. -/
import Derived.Test.YtcegahmjegjckaaPSeal
namespace Go.Proofs.Ytcegahmjegjckaa
open Go.RowKit
set_option linter.unusedVariables false
set_option linter.unusedSimpArgs false
/-- What is read of a block. -/
def rdK (zs : List Int) : Int := val (zs.take 1)
def rdI (zs : List Int) : Int := val ((zs.drop 1).take 3)
def rdL (zs : List Int) : Int := val ((zs.drop 4).take 2)
def rdN (zs : List Int) : Nat := (min (rdL zs) 246).toNat
def rdB (zs : List Int) : List Int := (zs.drop 6).take (rdN zs)
def opE (zs : List Int) : Int := if zs.length = 256 then (if Good zs then (if sealL (rdK zs) (rdI zs) (rdB zs) = zs then 0 else 4) else 13) else 2
def opK (zs : List Int) : Int := if opE zs = 0 then rdK zs else 0
def opI (zs : List Int) : Int := if opE zs = 0 then rdI zs else 0
def opB (zs : List Int) : List Int := if opE zs = 0 then rdB zs else []
theorem rdB_all {zs : List Int} (h : AllB zs) : AllB (rdB zs) := (h.drop _).take _
theorem opB_all {zs : List Int} (h : AllB zs) : AllB (opB zs) := by
  unfold opB; split
  · exact rdB_all h
  · exact AllB.nil
theorem rdN_le (zs : List Int) : rdN zs ≤ 246 := by unfold rdN; omega
theorem rdL_bound {zs : List Int} (h : AllB zs) (hl : 6 ≤ zs.length) : 0 ≤ rdL zs ∧ rdL zs < 65536 := by
  unfold rdL
  have := val_bound 2 ((zs.drop 4).take 2) (by rw [List.length_take, List.length_drop]; omega) ((h.drop 4).take 2)
  exact this
theorem rdN_eq {zs : List Int} (h : AllB zs) (hl : 6 ≤ zs.length) : (rdN zs : Int) = if 246 < rdL zs then 246 else rdL zs := by
  have := rdL_bound h hl
  unfold rdN
  split <;> omega
theorem rdB_len {zs : List Int} (h : 252 ≤ zs.length) : (rdB zs).length = rdN zs := by
  have := rdN_le zs
  unfold rdB
  rw [List.length_take, List.length_drop]; omega
theorem num_at {ys : List Int} (x : Nat) (h1 : 1 ≤ x) (h6 : x ≤ 6) (hl : x ≤ ys.length) : nval x (ys, 0) = val (ys.take x) ∧ nstep x (ys, 0) = (ys.drop x, 0) := by
  have hE : getE ys x = 0 := by unfold getE; rw [if_neg (by omega), if_neg (by omega)]
  constructor
  · show numV ys 0 x = _
    unfold numV getV
    rw [if_pos rfl, if_neg (by omega), if_neg (by omega), Int.toNat_natCast]
  · show (numZ ys 0 x, numE ys 0 x) = _
    unfold numZ numE
    rw [if_pos ⟨rfl, hE⟩, if_pos rfl, hE, Int.toNat_natCast]
set_option maxHeartbeats 1600000 in
theorem pread_any (a : Option Addr) (cap : Nat) (ys : List Int) (w : World) (hb : BV w a ys) (hl : ys.length = 252) (hn : a = none → cap = 0) (hc : ys.length ≤ cap) (hcm : cap ≤ maxLen) :
    Calls Try.prog 26 #[.slice a ys.length cap] w fun e w' => ∃ v, e = .returned (.tuple #[.int .i64 (rdK ys), .int .i64 (rdI ys), v]) ∧ Own w' w.heap.size v (rdB ys) ∧ Below w.heap.size w w' := by
  obtain ⟨b, off, rfl, hblt, hcells⟩ : ∃ b off, a = some ⟨b, off, none⟩ ∧ b < w.heap.size ∧ ∀ i, i < ys.length → w.cell? ⟨b, off + i, none⟩ = some (.int .u8 (ys.getD i 0)) := by
    obtain ⟨_, h | h⟩ := hb
    · subst h; simp at hl
    · exact h
  have HN := rq_new (some ⟨b, off, none⟩) cap ys w hb (by omega) hn
  have n1 := num_at (ys := ys) 1 (by decide) (by decide) (by omega)
  have n2 := num_at (ys := ys.drop 1) 3 (by decide) (by decide) (by simp; omega)
  have n3 := num_at (ys := ys.drop 4) 2 (by decide) (by decide) (by simp; omega)
  rw [List.drop_drop] at n2
  have M1 : Hid (∀ B W rb, RQ B W rb (ys, 0) → Calls Try.prog 31 #[.pointer (some ⟨rb, 0, none⟩), .int .i64 1] W fun e w' => e = .returned (.int .i64 (rdK ys)) ∧ Hid (RQ B w' rb (ys.drop 1, 0) ∧ W.grownBy w' (some rb))) := by
    intro B W rb h
    refine (rq_num 1 h).mono ?_
    rintro e w' ⟨rfl, h1, h2⟩
    rw [show nstep 1 (ys, 0) = (ys.drop 1, 0) from n1.2] at h1
    exact ⟨by rw [show nval 1 (ys, 0) = rdK ys from n1.1], h1, h2⟩
  have M2 : Hid (∀ B W rb, RQ B W rb (ys.drop 1, 0) → Calls Try.prog 31 #[.pointer (some ⟨rb, 0, none⟩), .int .i64 3] W fun e w' => e = .returned (.int .i64 (rdI ys)) ∧ Hid (RQ B w' rb (ys.drop 4, 0) ∧ W.grownBy w' (some rb))) := by
    intro B W rb h
    refine (rq_num 3 h).mono ?_
    rintro e w' ⟨rfl, h1, h2⟩
    rw [show nstep 3 (ys.drop 1, 0) = (ys.drop 4, 0) from n2.2] at h1
    exact ⟨by rw [show nval 3 (ys.drop 1, 0) = rdI ys from n2.1], h1, h2⟩
  have M3 : Hid (∀ B W rb, RQ B W rb (ys.drop 4, 0) → Calls Try.prog 31 #[.pointer (some ⟨rb, 0, none⟩), .int .i64 2] W fun e w' => e = .returned (.int .i64 (rdL ys)) ∧ Hid (W.grownBy w' (some rb))) := by
    intro B W rb h
    refine (rq_num 2 h).mono ?_
    rintro e w' ⟨rfl, h1, h2⟩
    exact ⟨by rw [show nval 2 (ys.drop 4, 0) = rdL ys from n3.1], h2⟩
  have hmn : (if 246 < rdL ys then (246 : Int) else rdL ys) = (rdN ys : Nat) := (rdN_eq hb.1 (by omega)).symm
  have hrl := rdL_bound hb.1 (by omega)
  have hN := rdN_le ys
  have hBL := rdB_len (zs := ys) (by omega)
  have HCL : Hid (∀ W, Below w.heap.size w W → Calls Try.prog 32 #[.slice (some ⟨b, off + 6, none⟩) (rdN ys) (cap - 6)] W fun e w' => ∃ v, e = .returned v ∧ Own w' w.heap.size v (rdB ys) ∧ Below w.heap.size w w') := by
    intro W hW
    have hbv : BV W (some ⟨b, off + 6, none⟩) (rdB ys) := by
      have h1 := hb.below hW
      refine ⟨rdB_all hb.1, ?_⟩
      by_cases h0 : rdB ys = []
      · exact .inl h0
      · refine .inr ⟨b, off + 6, rfl, Nat.lt_of_lt_of_le hblt hW.size, fun i hi => ?_⟩
        rw [hBL] at hi
        rw [show off + 6 + i = off + (6 + i) by omega, (hW.cell (p := ⟨b, off + (6 + i), none⟩) hblt), hcells (6 + i) (by omega)]
        unfold rdB
        rw [List.getD_eq_getElem?_getD, List.getD_eq_getElem?_getD, List.getElem?_take, if_pos hi, List.getElem?_drop]
    have := clone_any (some ⟨b, off + 6, none⟩) (cap - 6) (rdB ys) W hbv (by omega) (by intro h; cases h)
    rw [hBL] at this
    refine this.mono ?_
    rintro e w' ⟨v, rfl, ho, hbl⟩
    exact ⟨v, rfl, ho.mono hW.size, hW.trans (hbl.mono hW.size)⟩
  have hcap : 252 ≤ cap := by omega
  have hcap2 : cap ≤ 9223372036854775807 := by unfold maxLen at hcm; omega
  have hw6 : wrap64 (6 + (rdN ys : Int)) = 6 + (rdN ys : Int) := by unfold wrap64; omega
  rw [hl] at HN ⊢
  clear n1 n2 n3 hcells hb hn hc hl hBL hcm
  generalize rdK ys = rk at *
  generalize rdI ys = ri at *
  generalize rdL ys = rl at *
  generalize rdN ys = rn at *
  go_enter Try.func26, Try.ntmps26
  go_wp2_with fail
  refine HN.mono ?_
  rintro e w1 ⟨rb, rfl, H1⟩
  clear HN
  go_wp2_with fail
  refine (M1.out _ _ _ H1.out.2.1).mono ?_
  rintro e w2 ⟨rfl, H2⟩
  have B2 : Hid (Below w.heap.size w w2) := below_of_grown H1.out.2.2 H2.out.2 H1.out.1
  have HR : Hid (w.heap.size ≤ rb) := H1.out.1
  have Q2 : Hid (RQ w1.heap.size w2 rb (ys.drop 1, 0)) := H2.out.1
  clear M1 H1 H2
  go_wp2_with fail
  refine (M2.out _ _ _ Q2.out).mono ?_
  rintro e w3 ⟨rfl, H3⟩
  have B3 : Hid (Below w.heap.size w w3) := below_of_grown B2.out H3.out.2 HR.out
  have Q3 : Hid (RQ w1.heap.size w3 rb (ys.drop 4, 0)) := H3.out.1
  clear M2 Q2 B2 H3
  go_wp2_with fail
  refine (M3.out _ _ _ Q3.out).mono ?_
  rintro e w4 ⟨rfl, H4⟩
  have B4 : Hid (Below w.heap.size w w4) := below_of_grown B3.out H4.out HR.out
  clear M3 Q3 B3 H4
  go_wp2_with fail
  refine (HCL.out w4 B4.out).mono ?_
  rintro e w5 ⟨v, rfl, ho, hbl⟩
  clear HCL
  go_wp2_with fail
  exact bodyPost_ret (v := .tuple #[.int .i64 rk, .int .i64 ri, v]) (by simp [results, Try.results26, go_sem]) rfl ⟨v, rfl, ho, hbl⟩
end Go.Proofs.Ytcegahmjegjckaa
