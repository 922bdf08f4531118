/- bytesOf. -/
import Derived.Test.YtophkfbdhejmcaaOf
namespace Go.Proofs.Ytophkfbdhejmcaa
set_option maxRecDepth 20000
open Go.RowKit
set_option linter.unusedVariables false
theorem two8 (x : Nat) : (2 : Int) ^ (8 * x) = 256 ^ x := by rw [Int.pow_mul]; rfl
/-- The row behind k rounds: the lowest k bytes stand at its end. -/
def rowAt (n : Int) (x k : Nat) : List Value := List.replicate (x - k) (Value.int .u8 0) ++ (dig n k).map (Value.int .u8)
theorem rowAt_zero (n : Int) (x : Nat) : rowAt n x 0 = List.replicate x (Value.int .u8 0) := by simp [rowAt, dig]
theorem rowAt_full (n : Int) (x : Nat) : rowAt n x x = (dig n x).map (Value.int .u8) := by simp [rowAt]
theorem rowAt_set (n : Int) (x k : Nat) (h : k < x) : (rowAt n x k).set (x - 1 - k) (.int .u8 (n / 256 ^ k % 256)) = rowAt n x (k + 1) := by
  unfold rowAt
  obtain ⟨d, rfl⟩ := Nat.exists_eq_add_of_lt h
  have e1 : k + d + 1 - k = d + 1 := by omega
  have e2 : k + d + 1 - 1 - k = d := by omega
  have e3 : k + d + 1 - (k + 1) = d := by omega
  rw [e1, e2, e3, dig_cons, List.replicate_succ', List.append_assoc, List.set_append_right _ _ (by simp)]
  simp
end Go.Proofs.Ytophkfbdhejmcaa
