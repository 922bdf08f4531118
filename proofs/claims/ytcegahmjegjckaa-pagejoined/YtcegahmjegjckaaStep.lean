/- step and More. -/
import Derived.Test.YtcegahmjegjckaaBytes
import Derived.Laws.BitsAllLaws
namespace Go.Proofs.Ytcegahmjegjckaa
open Go.RowKit
set_option linter.unusedVariables false
theorem and_one (x : Nat) (h : x < 4294967296) : bits .and .u32 (x : Int) 1 = ((x % 2 : Nat) : Int) := by
  rw [show (1 : Int) = ((1 : Nat) : Int) from rfl, u32_and_nat x 1 h (by decide), nat_mask1]
theorem odd_xor (x : Nat) (h : x < 4294967296) (ho : x % 2 = 1) : bits .xor .u32 ((x : Int) / 2) 2197175160 = ((bit1 x : Nat) : Int) := by
  rw [show (2197175160 : Int) = ((2197175160 : Nat) : Int) from rfl, show (x : Int) / 2 = ((x / 2 : Nat) : Int) by omega, u32_xor_nat (x / 2) _ (by omega) (by decide)]
  unfold bit1
  rw [if_pos ho]
theorem even_half (x : Nat) (ho : ¬ x % 2 = 1) : (x : Int) / 2 = ((bit1 x : Nat) : Int) := by
  unfold bit1
  rw [if_neg ho]; omega
set_option maxHeartbeats 400000 in
theorem step_ok (r : Nat) (w : World) (h : r < 4294967296) : Calls Try.prog 45 #[.int .u32 r] w fun e w' => e = .returned (.int .u32 (stp r)) ∧ w' = w := by
  go_enter Try.func45, Try.ntmps45
  go_wp2
  go_loop [0, 4] (fun x i => ∃ k : Nat, k ≤ 8 ∧ i = .int .i64 k ∧ x = .int .u32 (bitN k r : Nat)) (fun _ i => 8 - (intOf i).toNat)
  case atStart => exact ⟨0, Nat.zero_le _, rfl, rfl⟩
  case round =>
    obtain ⟨k, hk, rfl, rfl⟩ := hrel
    by_cases hlt : k < 8
    · have hb := bitN_lt k h
      have hnx : bitN (k + 1) r = bit1 (bitN k r) := rfl
      by_cases hodd : bitN k r % 2 = 1
      · have hA := and_one _ hb
        rw [hodd] at hA
        have hX := odd_xor _ hb hodd
        generalize bitN k r = x at *
        go_wp2
        go_round
        case rel => exact ⟨k + 1, by omega, by go_num, by rw [hnx]⟩
        case measure => simp [intOf]; omega
      · have hA := and_one _ hb
        rw [show bitN k r % 2 = 0 by omega] at hA
        have hX := even_half _ hodd
        generalize bitN k r = x at *
        go_wp2
        go_round
        case rel => exact ⟨k + 1, by omega, by go_num, by rw [hnx, ← hX]⟩
        case measure => simp [intOf]; omega
    · have : k = 8 := by omega
      subst this
      go_wp2
      go_ret
      exact ⟨rfl, rfl⟩
theorem inv_u32 (x : Nat) (h : x < 4294967296) : bits .xor .u32 IntKind.u32.max (x : Int) = ((flip x : Nat) : Int) := by
  rw [show IntKind.u32.max = ((4294967295 : Nat) : Int) from rfl, u32_xor_nat _ x (by decide) h, Nat.xor_comm]; rfl
theorem xor_in (x : Nat) (h : x < 4294967296) (z : Int) (h0 : 0 ≤ z) (h1 : z ≤ 255) : bits .xor .u32 (x : Int) z = ((x ^^^ z.toNat : Nat) : Int) := by
  obtain ⟨y, rfl⟩ := Int.eq_ofNat_of_zero_le h0
  rw [u32_xor_nat x y h (by omega)]; rfl
set_option maxHeartbeats 400000 in
theorem more_ok (c b off len cap : Nat) (zs : List Int) (w : World) (hcl : c < 4294967296) (hm : len ≤ 9223372036854775807)
   (hz : AllB zs) (hlen : zs.length = len) (hc : ∀ i, i < zs.length → w.cell? ⟨b, off + i, none⟩ = some (.int .u8 (zs.getD i 0))) :
    Calls Try.prog 44 #[.int .u32 c, .slice (some ⟨b, off, none⟩) len cap] w fun e w' => e = .returned (.int .u32 (more c zs)) ∧ w' = w := by
  have HL : Hid (zs.length = len) := hlen
  clear hlen
  have hi := inv_u32 c hcl
  go_enter Try.func44, Try.ntmps44
  go_wp2
  go_loop [5, 12] (fun x i => ∃ k : Nat, k ≤ len ∧ i = .int .i64 k ∧ x = .int .u32 (reg (flip c) (zs.take k) : Nat)) (fun _ i => len - (intOf i).toNat)
  case atStart => exact ⟨0, Nat.zero_le _, rfl, rfl⟩
  case round =>
    obtain ⟨k, hk, rfl, rfl⟩ := hrel
    by_cases hlt : k < len
    · have hb := reg_lt (zs.take k) (flip_lt hcl) (hz.take k)
      have hck := hc k (by have := HL.out; omega)
      obtain ⟨hz0, hz1⟩ := hz.getD k
      have hnx := reg_take (flip c) zs k (by have := HL.out; omega)
      have hX := xor_in _ hb _ hz0 hz1
      have hS := fun wx => step_ok _ wx (xor_lt hb (show (zs.getD k 0).toNat < 4294967296 by omega))
      generalize reg (flip c) (zs.take k) = x at *
      generalize zs.getD k 0 = z at *
      go_wp2_with (go_at_call 45; refine (hS _).mono ?_; rintro e w' ⟨rfl, hw⟩; obtain rfl := hw.symm)
      go_round
      case rel => exact ⟨k + 1, by omega, by go_num, by rw [hnx]⟩
      case measure => simp [intOf]; omega
    · have : k = len := by omega
      subst this
      have hL := HL.out
      rw [List.take_of_length_le (by omega)]
      have hf := inv_u32 _ (reg_lt zs (flip_lt hcl) hz)
      go_wp2
      go_ret
      exact ⟨rfl, rfl⟩
theorem more_zero_ok (c cap : Nat) (a : Option Addr) (w : World) (hcl : c < 4294967296) : Calls Try.prog 44 #[.int .u32 c, .slice a 0 cap] w fun e w' => e = .returned (.int .u32 c) ∧ w' = w := by
  have hi := inv_u32 c hcl
  have hf := inv_u32 _ (flip_lt hcl)
  rw [flip_flip] at hf
  go_enter Try.func44, Try.ntmps44
  go_wp2
  go_loop [5, 12] (fun x i => i = .int .i64 0 ∧ x = .int .u32 (flip c : Nat)) (fun _ _ => 0)
  case atStart => exact ⟨rfl, rfl⟩
  case round =>
    obtain ⟨rfl, rfl⟩ := hrel
    go_wp2
    go_ret
    exact ⟨rfl, rfl⟩
theorem more_any (c : Nat) (a : Option Addr) (len cap : Nat) (zs : List Int) (w : World) (hcl : c < 4294967296) (hb : BV w a zs) (hl : zs.length = len) (hm : len ≤ 9223372036854775807) :
    Calls Try.prog 44 #[.int .u32 c, .slice a len cap] w fun e w' => e = .returned (.int .u32 (more c zs)) ∧ w' = w := by
  obtain ⟨hz, rfl | ⟨b, off, rfl, _, hc⟩⟩ := hb
  · subst hl
    rw [more_nil]
    exact more_zero_ok c cap a w hcl
  · exact more_ok c b off len cap zs w hcl hm hz hl hc
end Go.Proofs.Ytcegahmjegjckaa
