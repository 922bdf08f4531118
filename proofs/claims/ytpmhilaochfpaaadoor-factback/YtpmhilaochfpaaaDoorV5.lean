import Derived.WalkKit
namespace Go.Proofs.YtpmhilaochfpaaaDoor
set_option maxRecDepth 20000
set_option maxRecDepth 20000
open Go.RowKit
def val (zs : List Int) : Int := zs.foldl (fun n z => 256 * n + z) 0
def dig (n : Int) : Nat → List Int
  | 0 => []
  | k + 1 => dig (n / 256) k ++ [n % 256]
def AllB (zs : List Int) : Prop := ∀ z ∈ zs, 0 ≤ z ∧ z ≤ 255

theorem AllB.nil : AllB [] := by intro z hz; cases hz
theorem AllB.append {a b : List Int} (ha : AllB a) (hb : AllB b) : AllB (a ++ b) := by
  intro z hz; rcases List.mem_append.1 hz with h | h
  · exact ha z h
  · exact hb z h
theorem AllB.cons {z : Int} {b : List Int} (h0 : 0 ≤ z) (h1 : z ≤ 255) (hb : AllB b) : AllB (z :: b) := by
  intro y hy; rcases List.mem_cons.1 hy with h | h
  · subst h; exact ⟨h0, h1⟩
  · exact hb y h
theorem AllB.take {a : List Int} (ha : AllB a) (k : Nat) : AllB (a.take k) := fun z hz => ha z (List.mem_of_mem_take hz)
theorem AllB.drop {a : List Int} (ha : AllB a) (k : Nat) : AllB (a.drop k) := fun z hz => ha z (List.mem_of_mem_drop hz)
theorem AllB.getD {a : List Int} (ha : AllB a) (k : Nat) : 0 ≤ a.getD k 0 ∧ a.getD k 0 ≤ 255 := by
  rw [List.getD_eq_getElem?_getD]
  rcases Nat.lt_or_ge k a.length with h | h
  · rw [List.getElem?_eq_getElem h]; exact ha _ (List.getElem_mem h)
  · rw [List.getElem?_eq_none h]; exact ⟨by decide, by decide⟩

theorem val_snoc (zs : List Int) (z : Int) : val (zs ++ [z]) = 256 * val zs + z := by simp [val, List.foldl_append]
theorem take_snoc (zs : List Int) (k : Nat) (h : k < zs.length) : zs.take (k + 1) = zs.take k ++ [zs.getD k 0] := by
  rw [List.take_succ_eq_append_getElem h, List.getD_eq_getElem?_getD, List.getElem?_eq_getElem h]; rfl
theorem val_take (zs : List Int) (k : Nat) (h : k < zs.length) : val (zs.take (k + 1)) = 256 * val (zs.take k) + zs.getD k 0 := by
  rw [take_snoc zs k h, val_snoc]
theorem val_bound : ∀ (k : Nat) (zs : List Int), zs.length = k → AllB zs → 0 ≤ val zs ∧ val zs < 256 ^ k
  | 0, zs, h, _ => by
    obtain rfl := List.eq_nil_of_length_eq_zero h
    exact ⟨by decide, by decide⟩
  | k + 1, zs, h, hb => by
    have e := List.take_append_getElem (l := zs) (i := k) (by omega)
    have e1 : zs.take (k + 1) = zs := List.take_of_length_le (by omega)
    have ih := val_bound k (zs.take k) (by simp; omega) (hb.take k)
    have hg := hb.getD k
    rw [← e1, val_take zs k (by omega)]
    rw [Int.pow_succ]
    omega
theorem pow_pos (a : Nat) : (0 : Int) < 256 ^ a := Int.pow_pos (by decide)
theorem pow_mono (a : Nat) : ∀ d : Nat, (256 : Int) ^ a ≤ 256 ^ (a + d)
  | 0 => Int.le_refl _
  | d + 1 => by
    have h := pow_mono a d
    have p := pow_pos (a + d)
    rw [← Nat.add_assoc, Int.pow_succ]
    omega
theorem pow_le {a b : Nat} (h : a ≤ b) : (256 : Int) ^ a ≤ 256 ^ b := by
  obtain ⟨d, rfl⟩ := Nat.exists_eq_add_of_le h
  exact pow_mono a d
theorem val_take_bound (zs : List Int) (k : Nat) (hk : k ≤ 6) (hb : AllB zs) : 0 ≤ val (zs.take k) ∧ val (zs.take k) < 281474976710656 := by
  have h := val_bound (zs.take k).length (zs.take k) rfl (hb.take k)
  have hl : (zs.take k).length ≤ 6 := by simp; omega
  have hp : (256 : Int) ^ (zs.take k).length ≤ 256 ^ 6 := pow_le hl
  have : (256 : Int) ^ 6 = 281474976710656 := by decide
  omega
theorem val_take_bound5 (zs : List Int) (k : Nat) (hk : k ≤ 5) (hb : AllB zs) : 0 ≤ val (zs.take k) ∧ val (zs.take k) < 1099511627776 := by
  have h := val_bound (zs.take k).length (zs.take k) rfl (hb.take k)
  have hl : (zs.take k).length ≤ 5 := by simp; omega
  have hp : (256 : Int) ^ (zs.take k).length ≤ 256 ^ 5 := pow_le hl
  have : (256 : Int) ^ 5 = 1099511627776 := by decide
  omega

theorem dig_length : ∀ (k : Nat) (n : Int), (dig n k).length = k
  | 0, _ => rfl
  | k + 1, n => by simp [dig, dig_length k]
theorem dig_all : ∀ (k : Nat) (n : Int), AllB (dig n k)
  | 0, _ => AllB.nil
  | k + 1, n => (dig_all k _).append (AllB.cons (by omega) (by omega) AllB.nil)
theorem val_dig : ∀ (k : Nat) (n : Int), 0 ≤ n → n < 256 ^ k → val (dig n k) = n
  | 0, n, h0, h1 => by simp at h1; have : n = 0 := by omega
                       subst this; rfl
  | k + 1, n, h0, h1 => by
    rw [Int.pow_succ] at h1
    rw [dig, val_snoc, val_dig k (n / 256) (by omega) (by omega)]
    omega
theorem dig_cons : ∀ (k : Nat) (n : Int), dig n (k + 1) = (n / 256 ^ k % 256) :: dig n k
  | 0, n => by simp [dig]
  | k + 1, n => by
    rw [dig, dig_cons k (n / 256), List.cons_append]
    have h : n / 256 / 256 ^ k = n / 256 ^ (k + 1) := by
      rw [Int.ediv_ediv_of_nonneg (by decide), Int.pow_succ, Int.mul_comm]
    rw [h]; rfl
theorem or_byte (v z : Int) (h0 : 0 ≤ v) (h1 : v < 1099511627776) (h2 : 0 ≤ z) (h3 : z ≤ 255) : bits .or .i64 (v * 256) (wrap64 z) = 256 * v + z := by
  have hw : wrap64 z = z := by unfold wrap64; omega
  have hk : ∀ n : Int, 0 ≤ n → n < 2 ^ 62 → IntKind.i64.wrap n = n := by
    intro n a b
    have : (2 : Int) ^ 62 = 4611686018427387904 := by decide
    rw [IntKind.wrap_i64]; omega
  have p : (2 : Int) ^ 62 = 4611686018427387904 := by decide
  have q : (2 : Int) ^ 8 = 256 := by decide
  rw [hw, bits_join .i64 62 (by decide) hk 8 (v * 256) z (by omega) (by omega) (by omega) h2 (by omega) (by omega)]
  omega
end Go.Proofs.YtpmhilaochfpaaaDoor
