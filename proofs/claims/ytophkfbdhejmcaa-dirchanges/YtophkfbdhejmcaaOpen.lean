/- sum.Open. -/
import Derived.Test.YtophkfbdhejmcaaEqual
import Derived.Test.YtophkfbdhejmcaaClone
namespace Go.Proofs.Ytophkfbdhejmcaa
set_option maxRecDepth 20000
open Go.RowKit
set_option linter.unusedVariables false
/-- The last four of the bytes are the sum of what stands ahead. -/
abbrev Good (zs : List Int) : Prop := zs.drop (zs.length - 4) = dig (more 0 (zs.take (zs.length - 4))) 4
def openE (zs : List Int) : Int := if zs.length < 4 then 3 else if Good zs then 0 else 13
def openL (zs : List Int) : List Int := if zs.length < 4 then [] else if Good zs then zs.take (zs.length - 4) else []
theorem openL_all {zs : List Int} (h : AllB zs) : AllB (openL zs) := by
  unfold openL
  split
  · exact AllB.nil
  · split
    · exact h.take _
    · exact AllB.nil
theorem getD_take (zs : List Int) (n i : Nat) (h : i < n) : (zs.take n).getD i 0 = zs.getD i 0 := by
  rw [List.getD_eq_getElem?_getD, List.getElem?_take, if_pos h, ← List.getD_eq_getElem?_getD]
theorem getD_drop (zs : List Int) (n i : Nat) : (zs.drop n).getD i 0 = zs.getD (n + i) 0 := by
  rw [List.getD_eq_getElem?_getD, List.getElem?_drop, ← List.getD_eq_getElem?_getD]
theorem BV.take {w : World} {a : Option Addr} {zs : List Int} (h : BV w a zs) (n : Nat) : BV w a (zs.take n) := by
  obtain ⟨hz, rfl | ⟨b, off, rfl, hlt, hc⟩⟩ := h
  · exact ⟨hz.take _, .inl (by simp)⟩
  · refine ⟨hz.take _, .inr ⟨b, off, rfl, hlt, fun i hi => ?_⟩⟩
    rw [List.length_take] at hi
    rw [getD_take _ _ _ (by omega)]
    exact hc i (by omega)
theorem BV.drop {w : World} {b off : Nat} {zs : List Int} (h : BV w (some ⟨b, off, none⟩) zs) (n : Nat) : BV w (some ⟨b, off + n, none⟩) (zs.drop n) := by
  obtain ⟨hz, rfl | ⟨b', off', e, hlt, hc⟩⟩ := h
  · exact ⟨hz.drop _, .inl (by simp)⟩
  · obtain ⟨rfl, rfl⟩ : b = b' ∧ off = off' := by simpa using e
    refine ⟨hz.drop _, .inr ⟨b, off + n, rfl, hlt, fun i hi => ?_⟩⟩
    rw [List.length_drop] at hi
    rw [getD_drop, Nat.add_assoc]
    exact hc _ (by omega)
end Go.Proofs.Ytophkfbdhejmcaa
