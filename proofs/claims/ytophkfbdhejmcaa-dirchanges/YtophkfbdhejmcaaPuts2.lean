/- The document's Put. -/
import Derived.Test.YtophkfbdhejmcaaPuts
namespace Go.Proofs.Ytophkfbdhejmcaa
set_option maxRecDepth 20000
open Go.RowKit
set_option linter.unusedVariables false
theorem ret_int {k : IntKind} {a b : Int} (h : a = b) : Ending.returned (.int k a) = .returned (.int k b) := by rw [h]
def pw (k : Nat) : Int := 256 ^ k
theorem pw_succ (k : Nat) : pw (k + 1) = 256 * pw k := by unfold pw; rw [Int.pow_succ]; omega
theorem pw_pos (k : Nat) : 0 < pw k := pow_pos k
theorem pw5 (k : Nat) (h : k ≤ 5) : pw k ≤ 1099511627776 := by
  have := pow_le h
  have q : (256 : Int) ^ 5 = 1099511627776 := by decide
  unfold pw; omega
theorem pw6 (k : Nat) (h : k ≤ 6) : pw k ≤ 281474976710656 := by
  have := pow_le h
  have q : (256 : Int) ^ 6 = 281474976710656 := by decide
  unfold pw; omega
theorem next_row (N m : Int) (k : Nat) (h : m = N / pw k) : (m % 256) :: dig N k = dig N (k + 1) := by rw [dig_cons, h]; rfl
theorem next_num (N m : Int) (k : Nat) (h : m = N / pw k) : m / 256 = N / pw (k + 1) := by
  rw [h, pw_succ, Int.ediv_ediv_of_nonneg (Int.le_of_lt (pw_pos k)), Int.mul_comm]
end Go.Proofs.Ytophkfbdhejmcaa
