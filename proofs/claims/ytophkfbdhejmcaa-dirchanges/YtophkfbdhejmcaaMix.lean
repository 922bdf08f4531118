/- mix's functions and the document's: contracts of single calls. -/
import Derived.Test.YtophkfbdhejmcaaChecked
import Derived.WalkKit
import Derived.Laws.BitsAllLaws
namespace Go.Proofs.Ytophkfbdhejmcaa.M
set_option maxRecDepth 20000
open Go.RowKit

def putB (h z : Nat) : Nat := (h ^^^ z) * 16777619 % 4294967296
def mulX (h s c : Nat) : Nat := (h ^^^ (h / s)) * c % 4294967296
def finB (h : Nat) : Nat := h ^^^ (h / 65536)
def fin (h : Nat) : Nat := finB (mulX (mulX h 65536 2246822507) 8192 3266489909)
def fold (l : List UInt8) : Nat := l.foldl (fun h b => putB h b.toNat) 2166136261
def ofS (s : ByteArray) : Nat := fin (fold s.data.toList)

theorem xor_lt {a b : Nat} (ha : a < 4294967296) (hb : b < 4294967296) : a ^^^ b < 4294967296 := Nat.xor_lt_two_pow (n := 32) ha hb
theorem mulX_lt (h s c : Nat) : mulX h s c < 4294967296 := Nat.mod_lt _ (by decide)
theorem putB_lt (h z : Nat) : putB h z < 4294967296 := Nat.mod_lt _ (by decide)
theorem div_lt {h : Nat} (s : Nat) (hh : h < 4294967296) : h / s < 4294967296 := Nat.lt_of_le_of_lt (Nat.div_le_self _ _) hh
theorem fold_lt (l : List UInt8) : fold l < 4294967296 := by
  unfold fold
  suffices H : ∀ (l : List UInt8) (h : Nat), h < 4294967296 → l.foldl (fun h b => putB h b.toNat) h < 4294967296 from H l _ (by decide)
  intro l
  induction l with
  | nil => intro h hh; exact hh
  | cons a l ih => intro h _; exact ih _ (putB_lt _ _)
theorem foldl_take {α β : Type} (f : β → α → β) (a : β) (z : α) (l : List α) (k : Nat) (h : k < l.length) : (l.take (k + 1)).foldl f a = f ((l.take k).foldl f a) (l.getD k z) := by
  rw [List.take_succ_eq_append_getElem h, List.foldl_append, List.getD_eq_getElem?_getD, List.getElem?_eq_getElem h]
  rfl
theorem fold_eq (l : List UInt8) : fold l = l.foldl (fun h b => putB h b.toNat) 2166136261 := rfl
theorem fold_take (l : List UInt8) (k : Nat) (h : k < l.length) : fold (l.take (k + 1)) = putB (fold (l.take k)) (l.getD k 0).toNat := by
  have e := foldl_take (fun (h : Nat) (b : UInt8) => putB h b.toNat) 2166136261 0 l k h
  simp only [← fold_eq] at e
  exact e
theorem finB_lt {h : Nat} (hh : h < 4294967296) : finB h < 4294967296 := xor_lt hh (div_lt _ hh)
theorem fin_lt (h : Nat) : fin h < 4294967296 := finB_lt (mulX_lt _ _ _)

set_option maxHeartbeats 400000 in
theorem finish_any (h : Nat) (w : World) (hh : h < 4294967296) :
    Calls Try.prog 55 #[.int .u32 h] w fun e w' => e = .returned (.int .u32 (fin h)) ∧ w' = w := by
  have X1 := u32_xor_nat h (h / 65536) hh (div_lt _ hh)
  have e1 : ((mulX h 65536 2246822507 : Nat) : Int) = ((h ^^^ (h / 65536) : Nat) : Int) * 2246822507 % 4294967296 := by unfold mulX; omega
  unfold fin
  have l1 := mulX_lt h 65536 2246822507
  generalize mulX h 65536 2246822507 = h1 at *
  have X2 := u32_xor_nat h1 (h1 / 8192) l1 (div_lt _ l1)
  have e2 : ((mulX h1 8192 3266489909 : Nat) : Int) = ((h1 ^^^ (h1 / 8192) : Nat) : Int) * 3266489909 % 4294967296 := by unfold mulX; omega
  have l2 := mulX_lt h1 8192 3266489909
  generalize mulX h1 8192 3266489909 = h2 at *
  have X3 := u32_xor_nat h2 (h2 / 65536) l2 (div_lt _ l2)
  unfold finB
  generalize h ^^^ (h / 65536) = y1 at *
  generalize h1 ^^^ (h1 / 8192) = y2 at *
  generalize h2 ^^^ (h2 / 65536) = y3 at *
  rw [show ((h / 65536 : Nat) : Int) = (h : Int) / 65536 by omega] at X1
  rw [show ((h1 / 8192 : Nat) : Int) = (h1 : Int) / 8192 by omega, e1] at X2
  rw [show ((h2 / 65536 : Nat) : Int) = (h2 : Int) / 65536 by omega, e2] at X3
  clear e1 e2
  go_enter Try.func55, Try.ntmps55
  go_wp2
  go_ret
  exact ⟨rfl, rfl⟩
theorem times_any (a b : Nat) (w : World) (ha : a < 4294967296) (hb : b < 4294967296) :
    Calls Try.prog 50 #[.int .u64 a, .int .u64 b] w fun e w' => e = .returned (.int .u64 ((a * b % 4294967296 : Nat) : Int)) ∧ w' = w := by
  have e1 : (IntKind.u64.wrap ((a : Int) * b)).tmod 4294967296 = ((a * b % 4294967296 : Nat) : Int) := by
    have h1 : a * b < 4294967296 * 4294967296 := Nat.mul_lt_mul'' ha hb
    rw [show (a : Int) * b = ((a * b : Nat) : Int) by simp]
    generalize a * b = c at *
    rw [show IntKind.u64.wrap (c : Int) = c from by rw [IntKind.wrap_u64]; omega]
    rw [Int.tmod_eq_emod_of_nonneg (by omega)]; omega
  generalize a * b % 4294967296 = c at *
  go_enter Try.func50, Try.ntmps50
  go_wp2
  go_ret
  exact ⟨rfl, rfl⟩

def topN (h i : Nat) : Nat := h / 2 ^ (32 - i)
def bitN (h i : Nat) : Nat := h / 2 ^ (31 - i) % 2
theorem top_next (h i : Nat) (hi : i < 32) : topN h (i + 1) = 2 * topN h i + bitN h i := by
  unfold topN bitN
  rw [show 32 - i = (31 - i) + 1 by omega, Nat.pow_succ, ← Nat.div_div_eq_div_mul, show 32 - (i + 1) = 31 - i by omega]
  omega
theorem topN_lt (h i : Nat) (hh : h < 4294967296) : topN h i < 4294967296 := div_lt _ hh
theorem topN_all (h : Nat) : topN h 32 = h := by simp [topN]
theorem topN_none (h : Nat) (hh : h < 4294967296) : topN h 0 = 0 := Nat.div_eq_of_lt hh
theorem bitN_lt (h i : Nat) : bitN h i < 2 := Nat.mod_lt _ (by decide)
def topS (h : Nat) (d : Int) : Nat := if d < 1 then 0 else if d ≤ 32 then topN h d.toNat else h
def bitS (h : Nat) (i : Int) : Nat := if i < 0 ∨ 32 ≤ i then 0 else bitN h i.toNat

theorem and_one (x : Nat) (h : x < 4294967296) : bits .and .u32 (x : Int) 1 = ((x % 2 : Nat) : Int) := by
  rw [show (1 : Int) = ((1 : Nat) : Int) from rfl, u32_and_nat x 1 h (by decide), nat_mask1]
theorem topS_none (h : Nat) : topS h 0 = 0 := rfl
theorem topS_nat (h i : Nat) (hh : h < 4294967296) (hi : i ≤ 32) : topS h i = topN h i := by
  unfold topS
  by_cases h0 : i = 0
  · subst h0; rw [topN_none h hh]; rfl
  · rw [if_neg (by omega), if_pos (by omega)]; rfl

theorem top_any (h : Nat) (d : Int) (w : World) (hh : h < 4294967296) (hd : -9223372036854775808 ≤ d) (hd2 : d ≤ 9223372036854775807) :
    Calls Try.prog 47 #[.int .u32 h, .int .i64 d] w fun e w' => e = .returned (.int .i64 (topS h d)) ∧ w' = w := by
  by_cases h1 : d < 1
  · rw [show topS h d = 0 from if_pos h1]
    go_enter Try.func47, Try.ntmps47
    go_wp2
    go_ret
    exact ⟨rfl, rfl⟩
  · by_cases h2 : d ≤ 32
    · rw [show topS h d = topN h d.toNat by unfold topS; rw [if_neg h1, if_pos h2]]
      have hl := topN_lt h d.toNat hh
      have e1 : (h : Int) / 2 ^ (32 - d).toNat = (topN h d.toNat : Int) := by
        unfold topN
        rw [show (32 - d).toNat = 32 - d.toNat by omega]
        simp
      generalize topN h d.toNat = x at *
      go_enter Try.func47, Try.ntmps47
      go_wp2
      go_ret
      exact ⟨rfl, rfl⟩
    · rw [show topS h d = h by unfold topS; rw [if_neg h1, if_neg h2]]
      go_enter Try.func47, Try.ntmps47
      go_wp2
      go_ret
      exact ⟨rfl, rfl⟩
theorem half_next (h k : Nat) : ((h / 2 ^ k : Nat) : Int) / 2 = ((h / 2 ^ (k + 1) : Nat) : Int) := by
  rw [Nat.pow_succ, ← Nat.div_div_eq_div_mul]
  omega
theorem rbit_any (h : Nat) (d : Int) (w : World) (hh : h < 4294967296) (hd : -9223372036854775808 ≤ d) (hd2 : d ≤ 9223372036854775807) :
    Calls Try.prog 49 #[.int .u32 h, .int .i64 d] w fun e w' => e = .returned (.int .i64 (bitS h d)) ∧ w' = w := by
  by_cases h1 : d < 0 ∨ 32 ≤ d
  · rw [show bitS h d = 0 from if_pos h1]
    rcases h1 with h1 | h1
    · go_enter Try.func49, Try.ntmps49
      go_wp2
      go_ret
      exact ⟨rfl, rfl⟩
    · go_enter Try.func49, Try.ntmps49
      go_wp2
      go_ret
      exact ⟨rfl, rfl⟩
  · rw [show bitS h d = bitN h d.toNat from if_neg h1]
    obtain ⟨i, rfl⟩ := Int.eq_ofNat_of_zero_le (show 0 ≤ d by omega)
    rw [show ((i : Int)).toNat = i from rfl]
    have h3 : i < 32 := by omega
    clear h1
    obtain ⟨y, hy0⟩ : ∃ y, y = bitN h i := ⟨_, rfl⟩
    have hy : Hid (y = bitN h i) := hy0
    rw [← hy0]
    clear hy0
    go_enter Try.func49, Try.ntmps49
    go_wp2
    go_loop [0, 5] (fun x j => ∃ k : Nat, i + k ≤ 31 ∧ j = .int .i64 ((i + k : Nat) : Int) ∧ x = .int .u32 ((h / 2 ^ k : Nat) : Int)) (fun _ j => 31 - (intOf j).toNat)
    case atStart => exact ⟨0, by omega, rfl, by simp⟩
    case round =>
      obtain ⟨k, hk, rfl, rfl⟩ := hrel
      have hl := div_lt (2 ^ k) hh
      by_cases hlt : i + k < 31
      · have hn : Hid _ := half_next h k
        generalize h / 2 ^ k = x at *
        go_wp2
        go_round
        case rel => exact ⟨k + 1, by omega, by go_num, by rw [← hn.out]⟩
        case measure => simp [intOf]; omega
      · have e1 : ((h / 2 ^ k : Nat) : Int) % 2 = (bitN h i : Int) := by
          unfold bitN; rw [show 31 - i = k by omega]; omega
        have hb := bitN_lt h i
        rw [← hy.out] at e1 hb
        generalize h / 2 ^ k = x at *
        go_wp2
        go_ret
        exact ⟨rfl, rfl⟩
theorem rtop_any (h : Nat) (d : Int) (w : World) (hh : h < 4294967296) (hd : -9223372036854775808 ≤ d) (hd2 : d ≤ 9223372036854775807) :
    Calls Try.prog 38 #[.int .u32 h, .int .i64 d] w fun e w' => e = .returned (.int .i64 (topS h d)) ∧ w' = w := by
  obtain ⟨z, hz0⟩ : ∃ z, z = topS h d := ⟨_, rfl⟩
  have hz : Hid (z = topS h d) := hz0
  rw [← hz0]
  clear hz0
  go_enter Try.func38, Try.ntmps38
  go_wp2
  go_loop [5, 6] (fun n j => ∃ k : Nat, k ≤ 32 ∧ (k = 0 ∨ (k : Int) ≤ d) ∧ j = .int .i64 k ∧ n = .int .i64 (topN h k)) (fun _ j => 32 - (intOf j).toNat)
  case atStart => exact ⟨0, by omega, Or.inl rfl, rfl, by rw [topN_none h hh]; rfl⟩
  case round =>
    obtain ⟨k, hk, hkd, rfl, rfl⟩ := hrel
    have hl := topN_lt h k hh
    by_cases hlt : (k : Int) < d ∧ k < 32
    · obtain ⟨g1, g2⟩ := hlt
      have hn : Hid _ := top_next h k g2
      have hb := bitN_lt h k
      have hB := fun wx => rbit_any h k wx hh (by omega) (by omega)
      rw [show bitS h (k : Int) = bitN h k from if_neg (by omega)] at hB
      generalize topN h k = x at *
      generalize bitN h k = z at *
      go_wp2_with (go_at_call 49; refine (hB _).mono ?_; rintro e w' ⟨rfl, hw⟩; obtain rfl := hw.symm)
      go_round
      case rel => exact ⟨k + 1, by omega, Or.inr (by omega), by go_num, by rw [hn.out]; simp⟩
      case measure => simp [intOf]; omega
    · have e1 : topN h k = z := by
        rw [hz.out]
        unfold topS
        by_cases h1 : d < 1
        · rw [if_pos h1]
          have : k = 0 := by omega
          subst this; exact topN_none h hh
        · rw [if_neg h1]
          by_cases h2 : d ≤ 32
          · rw [if_pos h2, show k = d.toNat by omega]
          · rw [if_neg h2, show k = 32 by omega, topN_all]
      rw [e1] at hl ⊢
      clear e1
      by_cases g1 : (k : Int) < d
      · have g2 : ¬ k < 32 := fun h => hlt ⟨g1, h⟩
        clear hlt
        go_wp2
        go_ret
        exact ⟨rfl, rfl⟩
      · clear hlt
        go_wp2
        go_ret
        exact ⟨rfl, rfl⟩

theorem str_at (s : ByteArray) (k : Nat) (h : k < s.size) : s.data.toList.getD k 0 = s[k] := by
  have hl : k < s.data.toList.length := by rw [Array.length_toList]; exact h
  rw [List.getD_eq_getElem?_getD, List.getElem?_eq_getElem hl]
  rfl
theorem put_x' (h z : Nat) (hh : h < 4294967296) (hz : z < 256) : bits .xor .u32 (h : Int) (z : Int) * 16777619 % 4294967296 = (putB h z : Int) := by
  rw [u32_xor_nat h z hh (by omega)]; unfold putB; omega
set_option maxHeartbeats 400000 in
theorem of_any (s : ByteArray) (w : World) (hs : s.size ≤ maxLen) :
    Calls Try.prog 48 #[.string s] w fun e w' => e = .returned (.int .u32 (ofS s)) ∧ w' = w := by
  unfold maxLen at hs
  have hsz : s.data.toList.length = s.size := Array.length_toList
  have HL : Hid (s.data.toList.length = s.size) := hsz
  clear hsz
  unfold ofS
  obtain ⟨r, hr0⟩ : ∃ r, r = fold s.data.toList := ⟨_, rfl⟩
  have hr : Hid (r = fold s.data.toList) := hr0
  rw [← hr0]
  clear hr0
  go_enter Try.func48, Try.ntmps48
  go_wp2
  go_loop [3, 7] (fun x i => ∃ k : Nat, k ≤ s.size ∧ i = .int .i64 k ∧ x = .int .u32 (fold (s.data.toList.take k) : Nat)) (fun _ i => s.size - (intOf i).toNat)
  case atStart => exact ⟨0, Nat.zero_le _, rfl, rfl⟩
  case round =>
    obtain ⟨k, hk, rfl, rfl⟩ := hrel
    have hl := fold_lt (s.data.toList.take k)
    by_cases hlt : k < s.size
    · have hn : Hid _ := fold_take s.data.toList k (by have := HL.out; omega)
      rw [str_at s k hlt] at hn
      have hz : s[k].toNat < 256 := s[k].toNat_lt
      have hX' := put_x' _ _ hl hz
      generalize fold (s.data.toList.take k) = x at *
      go_wp2
      go_round
      case rel => exact ⟨k + 1, by omega, by go_num, by rw [hn.out, hX']⟩
      case measure => simp [intOf]; omega
    · have : k = s.size := by omega
      subst this
      have hL := HL.out
      rw [List.take_of_length_le (by omega), ← hr.out] at hl ⊢
      clear hL
      go_wp2_with (go_at_call 55; refine (finish_any r _ hl).mono ?_; rintro e w' ⟨rfl, hw⟩; obtain rfl := hw.symm)
      go_ret
      exact ⟨rfl, rfl⟩
theorem put_x64 (h z : Nat) (hh : h < 4294967296) (hz : z < 256) : bits .xor .u64 (h : Int) (z : Int) = ((h ^^^ z : Nat) : Int) := by
  rw [u64_xor_nat h z (by omega) (by omega)]
set_option maxHeartbeats 800000 in
theorem rof_any (s : ByteArray) (w : World) (hs : s.size ≤ maxLen) :
    Calls Try.prog 39 #[.string s] w fun e w' => e = .returned (.int .u32 (ofS s)) ∧ w' = w := by
  unfold maxLen at hs
  have hsz : s.data.toList.length = s.size := Array.length_toList
  have HL : Hid (s.data.toList.length = s.size) := hsz
  clear hsz
  unfold ofS
  obtain ⟨r, hr0⟩ : ∃ r, r = fold s.data.toList := ⟨_, rfl⟩
  have hr : Hid (r = fold s.data.toList) := hr0
  rw [← hr0]
  clear hr0
  go_enter Try.func39, Try.ntmps39
  go_wp2
  go_loop [3, 4] (fun x i => ∃ k : Nat, k ≤ s.size ∧ i = .int .i64 k ∧ x = .int .u64 (fold (s.data.toList.take k) : Nat)) (fun _ i => s.size - (intOf i).toNat)
  case atStart => exact ⟨0, Nat.zero_le _, rfl, rfl⟩
  case round =>
    obtain ⟨k, hk, rfl, rfl⟩ := hrel
    have hl := fold_lt (s.data.toList.take k)
    by_cases hlt : k < s.size
    · have hn : Hid _ := fold_take s.data.toList k (by have := HL.out; omega)
      rw [str_at s k hlt] at hn
      have hz : s[k].toNat < 256 := s[k].toNat_lt
      have hX := put_x64 _ _ hl hz
      have hT := fun wx => times_any _ 16777619 wx (xor_lt hl (show s[k].toNat < 4294967296 by omega)) (by decide)
      rw [show (fold (s.data.toList.take k) ^^^ s[k].toNat) * 16777619 % 4294967296 = putB (fold (s.data.toList.take k)) s[k].toNat from rfl] at hT
      generalize fold (s.data.toList.take k) = x at *
      generalize x ^^^ s[k].toNat = y at *
      generalize putB x s[k].toNat = z at *
      go_wp2_with (go_at_call 50; refine (hT _).mono ?_; rintro e w' ⟨rfl, hw⟩; obtain rfl := hw.symm)
      go_round
      case rel => exact ⟨k + 1, by omega, by go_num, by rw [hn.out]⟩
      case measure => simp [intOf]; omega
    · have : k = s.size := by omega
      subst this
      have hL := HL.out
      rw [List.take_of_length_le (by omega), ← hr.out] at hl ⊢
      clear hL hr HL
      have X1 := u64_xor_nat r (r / 65536) (by omega) (by omega)
      have T1 := fun wx => times_any (r ^^^ r / 65536) 2246822507 wx (xor_lt hl (div_lt _ hl)) (by decide)
      have l1 := mulX_lt r 65536 2246822507
      have F0 : fin r = finB (mulX (mulX r 65536 2246822507) 8192 3266489909) := rfl
      rw [show (r ^^^ r / 65536) * 2246822507 % 4294967296 = mulX r 65536 2246822507 from rfl] at T1
      generalize mulX r 65536 2246822507 = r1 at *
      have X2 := u64_xor_nat r1 (r1 / 8192) (by omega) (by omega)
      have T2 := fun wx => times_any (r1 ^^^ r1 / 8192) 3266489909 wx (xor_lt l1 (div_lt _ l1)) (by decide)
      have l2 := mulX_lt r1 8192 3266489909
      rw [show (r1 ^^^ r1 / 8192) * 3266489909 % 4294967296 = mulX r1 8192 3266489909 from rfl] at T2
      generalize mulX r1 8192 3266489909 = r2 at *
      have X3 := u64_xor_nat r2 (r2 / 65536) (by omega) (by omega)
      have l3 := finB_lt l2
      unfold finB at *
      generalize r ^^^ r / 65536 = y1 at *
      generalize r1 ^^^ r1 / 8192 = y2 at *
      generalize r2 ^^^ r2 / 65536 = y3 at *
      have F : Hid (fin r = y3) := F0
      clear F0
      rw [show ((r / 65536 : Nat) : Int) = (r : Int) / 65536 by omega] at X1
      rw [show ((r1 / 8192 : Nat) : Int) = (r1 : Int) / 8192 by omega] at X2
      rw [show ((r2 / 65536 : Nat) : Int) = (r2 : Int) / 65536 by omega] at X3
      go_wp2_with (first
        | (go_at_call 50; refine (T1 _).mono ?_; rintro e w' ⟨rfl, hw⟩; obtain rfl := hw.symm; clear T1)
        | (go_at_call 50; refine (T2 _).mono ?_; rintro e w' ⟨rfl, hw⟩; obtain rfl := hw.symm; clear T2))
      go_ret
      exact ⟨by rw [F.out]; rfl, rfl⟩

theorem ofS_a : ofS { data := #[97] } ≠ 0 := by decide +kernel
end Go.Proofs.Ytophkfbdhejmcaa.M
