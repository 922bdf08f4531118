/- The order of two numbers is the order of their bytes: plain mathematics. -/
import Derived.Test.YtfldbcolfdofaaaAwake
namespace Go.Proofs.Ytfldbcolfdofaaa
open Go.RowKit

theorem u8_lt (a b : Int) (ha : 0 ≤ a) (ha1 : a ≤ 255) (hb : 0 ≤ b) (hb1 : b ≤ 255) : (UInt8.ofNat a.toNat < UInt8.ofNat b.toNat) = (a < b) := by
  have e1 : (UInt8.ofNat a.toNat).toNat = a.toNat := by rw [UInt8.toNat_ofNat']; omega
  have e2 : (UInt8.ofNat b.toNat).toNat = b.toNat := by rw [UInt8.toNat_ofNat']; omega
  rw [UInt8.lt_iff_toNat_lt, e1, e2]
  apply propext; omega
theorem u8_eq (a b : Int) (ha : 0 ≤ a) (ha1 : a ≤ 255) (hb : 0 ≤ b) (hb1 : b ≤ 255) : (UInt8.ofNat a.toNat == UInt8.ofNat b.toNat) = decide (a = b) := by
  have e1 : (UInt8.ofNat a.toNat).toNat = a.toNat := by rw [UInt8.toNat_ofNat']; omega
  have e2 : (UInt8.ofNat b.toNat).toNat = b.toNat := by rw [UInt8.toNat_ofNat']; omega
  rw [Bool.eq_iff_iff]
  simp only [beq_iff_eq, decide_eq_true_eq]
  constructor
  · intro h
    have : (UInt8.ofNat a.toNat).toNat = (UInt8.ofNat b.toNat).toNat := by rw [h]
    omega
  · rintro rfl; rfl

theorem dig_add : ∀ (k : Nat) (a m : Int), dig (a + 256 ^ k * m) k = dig a k
  | 0, _, _ => rfl
  | k + 1, a, m => by
    have e : (256 : Int) ^ (k + 1) * m = 256 * (256 ^ k * m) := by rw [Int.pow_succ, Int.mul_comm (256 ^ k) 256, Int.mul_assoc]
    rw [dig, dig, e, Int.add_mul_ediv_left _ _ (by decide), Int.add_mul_emod_self_left, dig_add k]
theorem dig_mod (k : Nat) (a : Int) : dig a k = dig (a % 256 ^ k) k := by
  have h := dig_add k (a % 256 ^ k) (a / 256 ^ k)
  rw [Int.emod_add_mul_ediv] at h
  exact h
theorem less_split (P a b q r : Int) (hP : 0 < P) (ha : a = P * q + (a % P)) (hb : b = P * r + (b % P)) (ha0 : 0 ≤ a % P) (ha1 : a % P < P) (hb0 : 0 ≤ b % P) (hb1 : b % P < P) :
    (decide (q < r) || (decide (q = r) && decide (a % P < b % P))) = decide (a < b) := by
  rw [Bool.eq_iff_iff]
  simp only [Bool.or_eq_true, Bool.and_eq_true, decide_eq_true_eq]
  constructor
  · rintro (h | ⟨rfl, h⟩)
    · have : P * (q + 1) ≤ P * r := Int.mul_le_mul_of_nonneg_left (by omega) (by omega)
      rw [Int.mul_add] at this
      omega
    · omega
  · intro h
    rcases Int.lt_trichotomy q r with h1 | h1 | h1
    · exact .inl h1
    · subst h1; exact .inr ⟨rfl, by omega⟩
    · have : P * (r + 1) ≤ P * q := Int.mul_le_mul_of_nonneg_left (by omega) (by omega)
      rw [Int.mul_add] at this
      omega

theorem less_dig : ∀ (k : Nat) (a b : Int), 0 ≤ a → a < 256 ^ k → 0 ≤ b → b < 256 ^ k →
    Op.bytesLess ((dig a k).map fun n => UInt8.ofNat n.toNat) ((dig b k).map fun n => UInt8.ofNat n.toNat) = decide (a < b)
  | 0, a, b, ha, ha1, hb, hb1 => by
    have : ¬ a < b := by simp at ha1 hb1; omega
    simp [dig, Op.bytesLess, this]
  | k + 1, a, b, ha, ha1, hb, hb1 => by
    have hp := pow_pos k
    rw [Int.pow_succ] at ha1 hb1
    rw [dig_cons, dig_cons, List.map_cons, List.map_cons, Op.bytesLess]
    have qa : a / 256 ^ k < 256 := Int.ediv_lt_of_lt_mul hp (by rw [Int.mul_comm]; exact ha1)
    have qb : b / 256 ^ k < 256 := Int.ediv_lt_of_lt_mul hp (by rw [Int.mul_comm]; exact hb1)
    have pa : 0 ≤ a / 256 ^ k := Int.ediv_nonneg ha (by omega)
    have pb : 0 ≤ b / 256 ^ k := Int.ediv_nonneg hb (by omega)
    have ma : a / 256 ^ k % 256 = a / 256 ^ k := by omega
    have mb : b / 256 ^ k % 256 = b / 256 ^ k := by omega
    rw [ma, mb, u8_eq _ _ pa (by omega) pb (by omega), dig_mod k a, dig_mod k b]
    have m0 := Int.emod_nonneg a (show (256 : Int) ^ k ≠ 0 by omega)
    have m1 := Int.emod_lt_of_pos a hp
    have n0 := Int.emod_nonneg b (show (256 : Int) ^ k ≠ 0 by omega)
    have n1 := Int.emod_lt_of_pos b hp
    rw [less_dig k _ _ m0 m1 n0 n1]
    have hu := u8_lt _ _ pa (by omega) pb (by omega)
    simp only [hu]
    exact less_split (256 ^ k) a b _ _ hp (Int.mul_ediv_add_emod a _).symm (Int.mul_ediv_add_emod b _).symm m0 m1 n0 n1
theorem less_str (a b : Int) (ha : 0 ≤ a) (ha1 : a < 281474976710656) (hb : 0 ≤ b) (hb1 : b < 281474976710656) :
    Op.bytesLess (strOfNums (dig a 6)).toList (strOfNums (dig b 6)).toList = decide (a < b) := by
  have q : (256 : Int) ^ 6 = 281474976710656 := by decide
  rw [ByteArray.toList_eq, ByteArray.toList_eq, strOfNums_data, strOfNums_data]
  exact less_dig 6 a b ha (by omega) hb (by omega)
end Go.Proofs.Ytfldbcolfdofaaa
