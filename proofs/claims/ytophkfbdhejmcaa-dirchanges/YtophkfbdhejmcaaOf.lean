/- Of. -/
import Derived.Test.YtophkfbdhejmcaaStep
namespace Go.Proofs.Ytophkfbdhejmcaa
set_option maxRecDepth 20000
open Go.RowKit
set_option linter.unusedVariables false
def mores (c : Nat) (zss : List (List Int)) : Nat := zss.foldl more c
theorem mores_take (c : Nat) (zss : List (List Int)) (k : Nat) (h : k < zss.length) : mores c (zss.take (k + 1)) = more (mores c (zss.take k)) (zss.getD k []) := by
  unfold mores
  rw [List.take_succ_eq_append_getElem h, List.foldl_append, List.getD_eq_getElem?_getD, List.getElem?_eq_getElem h]; rfl
theorem mores_lt : ∀ (zss : List (List Int)) {c : Nat}, c < 4294967296 → (∀ zs ∈ zss, AllB zs) → mores c zss < 4294967296
  | [], _, h, _ => h
  | zs :: zss, _, h, hz => mores_lt zss (more_lt h (hz zs (by simp))) (fun y hy => hz y (by simp [hy]))
theorem mem_getD {zss : List (List Int)} {zs : List Int} (h : zs ∈ zss) : ∃ i, i < zss.length ∧ zss.getD i [] = zs := by
  obtain ⟨i, hi, e⟩ := List.mem_iff_getElem.1 h
  exact ⟨i, hi, by rw [List.getD_eq_getElem?_getD, List.getElem?_eq_getElem hi]; exact e⟩
/-- The slices of the bytes zss lie one behind the other at g, off. -/
def Parts (w : World) (g off : Nat) (zss : List (List Int)) : Prop :=
  ∀ i, i < zss.length → ∃ a c, w.cell? ⟨g, off + i, none⟩ = some (.slice a (zss.getD i []).length c) ∧ (a = none → c = 0) ∧ BV w a (zss.getD i []) ∧ (zss.getD i []).length ≤ 9223372036854775807
theorem flip_in (x : Nat) (h : x < 4294967296) : bits .xor .u32 (x : Int) 4294967295 = ((flip x : Nat) : Int) := by
  rw [show (4294967295 : Int) = ((4294967295 : Nat) : Int) from rfl, u32_xor_nat x _ h (by decide)]; rfl
end Go.Proofs.Ytophkfbdhejmcaa
