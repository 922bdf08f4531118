/- Of. -/
import Derived.Test.YtcegahmjegjckaaStep
namespace Go.Proofs.Ytcegahmjegjckaa
open Go.RowKit
set_option linter.unusedVariables false
def mores (c : Nat) (zss : List (List Int)) : Nat := zss.foldl more c
theorem mores_take (c : Nat) (zss : List (List Int)) (k : Nat) (h : k < zss.length) : mores c (zss.take (k + 1)) = more (mores c (zss.take k)) (zss.getD k []) := by
  unfold mores
  rw [List.take_succ_eq_append_getElem h, List.foldl_append, List.getD_eq_getElem?_getD, List.getElem?_eq_getElem h]; rfl
theorem mores_lt : ∀ (zss : List (List Int)) {c : Nat}, c < 4294967296 → (∀ zs ∈ zss, AllB zs) → mores c zss < 4294967296
  | [], _, h, _ => h
  | zs :: zss, _, h, hz => mores_lt zss (more_lt h (hz zs (by simp))) (fun y hy => hz y (by simp [hy]))
theorem mem_getD {zss : List (List Int)} {zs : List Int} (h : zs ∈ zss) : ∃ i, i < zss.length ∧ zss.getD i [] = zs := by
  obtain ⟨i, hi, e⟩ := List.mem_iff_getElem.1 h
  exact ⟨i, hi, by rw [List.getD_eq_getElem?_getD, List.getElem?_eq_getElem hi]; exact e⟩
/-- The slices of the bytes zss lie one behind the other at g, off. -/
def Parts (w : World) (g off : Nat) (zss : List (List Int)) : Prop :=
  ∀ i, i < zss.length → ∃ a c, w.cell? ⟨g, off + i, none⟩ = some (.slice a (zss.getD i []).length c) ∧ (a = none → c = 0) ∧ BV w a (zss.getD i []) ∧ (zss.getD i []).length ≤ 9223372036854775807
set_option maxHeartbeats 400000 in
theorem of_any (g off n cap : Nat) (zss : List (List Int)) (w : World) (hl : zss.length = n) (hn : n ≤ 9223372036854775807) (hp : Parts w g off zss) :
    Calls Try.prog 36 #[.slice (some ⟨g, off, none⟩) n cap] w fun e w' => e = .returned (.int .u32 (mores 0 zss)) ∧ w' = w := by
  have hall : ∀ zs ∈ zss, AllB zs := by
    intro zs hzs
    obtain ⟨i, hi, rfl⟩ := mem_getD hzs
    obtain ⟨a, c, _, _, hb, _⟩ := hp i hi
    exact hb.1
  have HL : Hid (zss.length = n) := hl
  clear hl
  go_enter Try.func36, Try.ntmps36
  go_wp2
  go_loop [3, 8] (fun x i => ∃ k : Nat, k ≤ n ∧ i = .int .i64 k ∧ x = .int .u32 (mores 0 (zss.take k) : Nat)) (fun _ i => n - (intOf i).toNat)
  case atStart => exact ⟨0, Nat.zero_le _, rfl, rfl⟩
  case round =>
    obtain ⟨k, hk, rfl, rfl⟩ := hrel
    by_cases hlt : k < n
    · have hb := mores_lt (zss.take k) (c := 0) (by decide) (fun y hy => hall y (List.mem_of_mem_take hy))
      obtain ⟨a, c, hck, _, hbv, hm⟩ := hp k (by have := HL.out; omega)
      have hnx := mores_take 0 zss k (by have := HL.out; omega)
      have hS := fun cc => more_any _ a _ cc _ w hb hbv rfl hm
      generalize mores 0 (zss.take k) = x at *
      generalize zss.getD k [] = zs at *
      go_wp2_with (go_at_call 44; refine (hS _).mono ?_; rintro e w' ⟨rfl, hw⟩; obtain rfl := hw.symm)
      go_round
      case rel => exact ⟨k + 1, by omega, by go_num, by rw [hnx]⟩
      case measure => simp [intOf]; omega
    · have : k = n := by omega
      subst this
      have hL := HL.out
      rw [List.take_of_length_le (by omega)]
      go_wp2
      go_ret
      exact ⟨rfl, rfl⟩
theorem flip_in (x : Nat) (h : x < 4294967296) : bits .xor .u32 (x : Int) 4294967295 = ((flip x : Nat) : Int) := by
  rw [show (4294967295 : Int) = ((4294967295 : Nat) : Int) from rfl, u32_xor_nat x _ h (by decide)]; rfl
set_option maxHeartbeats 400000 in
theorem rof_ok (b off len cap : Nat) (zs : List Int) (w : World) (hm : len ≤ 9223372036854775807)
   (hz : AllB zs) (hlen : zs.length = len) (hc : ∀ i, i < zs.length → w.cell? ⟨b, off + i, none⟩ = some (.int .u8 (zs.getD i 0))) :
    Calls Try.prog 38 #[.slice (some ⟨b, off, none⟩) len cap] w fun e w' => e = .returned (.int .u32 (more 0 zs)) ∧ w' = w := by
  have HL : Hid (zs.length = len) := hlen
  clear hlen
  go_enter Try.func38, Try.ntmps38
  go_wp2
  go_loop [3, 4] (fun x i => ∃ k : Nat, k ≤ len ∧ i = .int .i64 k ∧ x = .int .u32 (reg (flip 0) (zs.take k) : Nat)) (fun _ i => len - (intOf i).toNat)
  case atStart => exact ⟨0, Nat.zero_le _, rfl, rfl⟩
  case round =>
    obtain ⟨k, hk, rfl, rfl⟩ := hrel
    by_cases hlt : k < len
    · have hb := reg_lt (zs.take k) (show flip 0 < 4294967296 by decide) (hz.take k)
      have hck := hc k (by have := HL.out; omega)
      obtain ⟨hz0, hz1⟩ := hz.getD k
      have hnx := reg_take (flip 0) zs k (by have := HL.out; omega)
      have hX := xor_in _ hb _ hz0 hz1
      have hxl := xor_lt hb (show (zs.getD k 0).toNat < 4294967296 by omega)
      generalize reg (flip 0) (zs.take k) = x at *
      generalize zs.getD k 0 = z at *
      generalize hy : x ^^^ z.toNat = y at *
      go_wp2
      go_loop [3, 5] (fun x i => ∃ k : Nat, k ≤ 8 ∧ i = .int .i64 k ∧ x = .int .u32 (bitN k y : Nat)) (fun _ i => 8 - (intOf i).toNat)
      case atStart => exact ⟨0, Nat.zero_le _, rfl, rfl⟩
      case round =>
        obtain ⟨j, hj, rfl, rfl⟩ := hrel
        by_cases hjt : j < 8
        · have hb := bitN_lt j hxl
          have hny : bitN (j + 1) y = bit1 (bitN j y) := rfl
          by_cases hodd : bitN j y % 2 = 1
          · have hA := and_one _ hb
            rw [hodd] at hA
            have hX := odd_xor _ hb hodd
            generalize bitN j y = x at *
            go_wp2
            go_round
            case rel => exact ⟨j + 1, by omega, by go_num, by rw [hny]⟩
            case measure => simp [intOf]; omega
          · have hA := and_one _ hb
            rw [show bitN j y % 2 = 0 by omega] at hA
            have hX := even_half _ hodd
            generalize bitN j y = x at *
            go_wp2
            go_round
            case rel => exact ⟨j + 1, by omega, by go_num, by rw [hny, ← hX]⟩
            case measure => simp [intOf]; omega
        · have : j = 8 := by omega
          subst this
          go_wp2
          go_round
          case rel => exact ⟨k + 1, by omega, by go_num, by rw [hnx]; rfl⟩
          case measure => simp [intOf]; omega
    · have : k = len := by omega
      subst this
      have hL := HL.out
      rw [List.take_of_length_le (by omega)]
      have hf := flip_in _ (reg_lt zs (show flip 0 < 4294967296 by decide) hz)
      go_wp2
      go_ret
      exact ⟨rfl, rfl⟩
theorem rof_zero_ok (cap : Nat) (a : Option Addr) (w : World) : Calls Try.prog 38 #[.slice a 0 cap] w fun e w' => e = .returned (.int .u32 0) ∧ w' = w := by
  have hf := flip_in 4294967295 (by decide)
  rw [show flip 4294967295 = 0 by decide] at hf
  go_enter Try.func38, Try.ntmps38
  go_wp2
  go_loop [3, 4] (fun x i => i = .int .i64 0 ∧ x = .int .u32 4294967295) (fun _ _ => 0)
  case atStart => exact ⟨rfl, rfl⟩
  case round =>
    obtain ⟨rfl, rfl⟩ := hrel
    go_wp2
    go_ret
    exact ⟨rfl, rfl⟩
theorem rof_any (a : Option Addr) (len cap : Nat) (zs : List Int) (w : World) (hb : BV w a zs) (hl : zs.length = len) (hm : len ≤ 9223372036854775807) :
    Calls Try.prog 38 #[.slice a len cap] w fun e w' => e = .returned (.int .u32 (more 0 zs)) ∧ w' = w := by
  obtain ⟨hz, rfl | ⟨b, off, rfl, _, hc⟩⟩ := hb
  · subst hl
    rw [more_nil]
    exact rof_zero_ok cap a w
  · exact rof_ok b off len cap zs w hm hz hl hc
end Go.Proofs.Ytcegahmjegjckaa
