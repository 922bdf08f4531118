/- page.Open: what is read, and laid again. -/
import Derived.Test.YtophkfbdhejmcaaPSeal
namespace Go.Proofs.Ytophkfbdhejmcaa
set_option maxRecDepth 20000
open Go.RowKit
set_option linter.unusedVariables false
set_option linter.unusedSimpArgs false
/-- What is read of a block. -/
def rdK (zs : List Int) : Int := val (zs.take 1)
def rdI (zs : List Int) : Int := val ((zs.drop 1).take 3)
def rdL (zs : List Int) : Int := val ((zs.drop 4).take 2)
def rdN (zs : List Int) : Nat := (min (rdL zs) 246).toNat
def rdB (zs : List Int) : List Int := (zs.drop 6).take (rdN zs)
def opE (zs : List Int) : Int := if zs.length = 256 then (if Good zs then (if sealL (rdK zs) (rdI zs) (rdB zs) = zs then 0 else 4) else 13) else 2
def opK (zs : List Int) : Int := if opE zs = 0 then rdK zs else 0
def opI (zs : List Int) : Int := if opE zs = 0 then rdI zs else 0
def opB (zs : List Int) : List Int := if opE zs = 0 then rdB zs else []
theorem rdB_all {zs : List Int} (h : AllB zs) : AllB (rdB zs) := (h.drop _).take _
theorem opB_all {zs : List Int} (h : AllB zs) : AllB (opB zs) := by
  unfold opB; split
  · exact rdB_all h
  · exact AllB.nil
theorem rdN_le (zs : List Int) : rdN zs ≤ 246 := by unfold rdN; omega
theorem rdL_bound {zs : List Int} (h : AllB zs) (hl : 6 ≤ zs.length) : 0 ≤ rdL zs ∧ rdL zs < 65536 := by
  unfold rdL
  have := val_bound 2 ((zs.drop 4).take 2) (by rw [List.length_take, List.length_drop]; omega) ((h.drop 4).take 2)
  exact this
theorem rdN_eq {zs : List Int} (h : AllB zs) (hl : 6 ≤ zs.length) : (rdN zs : Int) = if 246 < rdL zs then 246 else rdL zs := by
  have := rdL_bound h hl
  unfold rdN
  split <;> omega
theorem rdB_len {zs : List Int} (h : 252 ≤ zs.length) : (rdB zs).length = rdN zs := by
  have := rdN_le zs
  unfold rdB
  rw [List.length_take, List.length_drop]; omega
theorem num_at {ys : List Int} (x : Nat) (h1 : 1 ≤ x) (h6 : x ≤ 6) (hl : x ≤ ys.length) : nval x (ys, 0) = val (ys.take x) ∧ nstep x (ys, 0) = (ys.drop x, 0) := by
  have hE : getE ys x = 0 := by unfold getE; rw [if_neg (by omega), if_neg (by omega)]
  constructor
  · show numV ys 0 x = _
    unfold numV getV
    rw [if_pos rfl, if_neg (by omega), if_neg (by omega), Int.toNat_natCast]
  · show (numZ ys 0 x, numE ys 0 x) = _
    unfold numZ numE
    rw [if_pos ⟨rfl, hE⟩, if_pos rfl, hE, Int.toNat_natCast]
end Go.Proofs.Ytophkfbdhejmcaa
