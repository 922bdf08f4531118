/- step and More. -/
import Derived.Test.YtophkfbdhejmcaaBytes
import Derived.Laws.BitsAllLaws
namespace Go.Proofs.Ytophkfbdhejmcaa
set_option maxRecDepth 20000
open Go.RowKit
set_option linter.unusedVariables false
theorem and_one (x : Nat) (h : x < 4294967296) : bits .and .u32 (x : Int) 1 = ((x % 2 : Nat) : Int) := by
  rw [show (1 : Int) = ((1 : Nat) : Int) from rfl, u32_and_nat x 1 h (by decide), nat_mask1]
theorem odd_xor (x : Nat) (h : x < 4294967296) (ho : x % 2 = 1) : bits .xor .u32 ((x : Int) / 2) 2197175160 = ((bit1 x : Nat) : Int) := by
  rw [show (2197175160 : Int) = ((2197175160 : Nat) : Int) from rfl, show (x : Int) / 2 = ((x / 2 : Nat) : Int) by omega, u32_xor_nat (x / 2) _ (by omega) (by decide)]
  unfold bit1
  rw [if_pos ho]
theorem even_half (x : Nat) (ho : ¬ x % 2 = 1) : (x : Int) / 2 = ((bit1 x : Nat) : Int) := by
  unfold bit1
  rw [if_neg ho]; omega
theorem inv_u32 (x : Nat) (h : x < 4294967296) : bits .xor .u32 IntKind.u32.max (x : Int) = ((flip x : Nat) : Int) := by
  rw [show IntKind.u32.max = ((4294967295 : Nat) : Int) from rfl, u32_xor_nat _ x (by decide) h, Nat.xor_comm]; rfl
theorem xor_in (x : Nat) (h : x < 4294967296) (z : Int) (h0 : 0 ≤ z) (h1 : z ≤ 255) : bits .xor .u32 (x : Int) z = ((x ^^^ z.toNat : Nat) : Int) := by
  obtain ⟨y, rfl⟩ := Int.eq_ofNat_of_zero_le h0
  rw [u32_xor_nat x y h (by omega)]; rfl
end Go.Proofs.Ytophkfbdhejmcaa
