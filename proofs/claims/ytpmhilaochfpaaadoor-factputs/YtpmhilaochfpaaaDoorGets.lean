/- What num.Get, num.Signed and the document's Get, Signed answer at any bytes and any width: contracts of single calls. -/
import Derived.Test.YtpmhilaochfpaaaDoorRows
import Derived.Test.YtpmhilaochfpaaaDoorMath
import Derived.WalkSpells
import Derived.WalkLawsBesides
namespace Go.Proofs.YtpmhilaochfpaaaDoor
set_option maxRecDepth 20000
set_option maxRecDepth 20000
open Go.RowKit

/-- The bytes zs lie at the address a. -/
def BV (w : World) (a : Option Addr) (zs : List Int) : Prop :=
  AllB zs ∧ (zs = [] ∨ ∃ b off, a = some ⟨b, off, none⟩ ∧ b < w.heap.size ∧ ∀ i, i < zs.length → w.cell? ⟨b, off + i, none⟩ = some (.int .u8 (zs.getD i 0)))

def getE (zs : List Int) (x : Int) : Int := if x < 1 ∨ 6 < x then 2 else if (zs.length : Int) < x then 3 else 0
def getV (zs : List Int) (x : Int) : Int := if x < 1 ∨ 6 < x then 0 else if (zs.length : Int) < x then 0 else val (zs.take x.toNat)

theorem ret2 {a b c d : Int} (h1 : a = c) (h2 : b = d) : Ending.returned (.tuple #[.int .i64 a, .int .i64 b]) = .returned (.tuple #[.int .i64 c, .int .i64 d]) := by rw [h1, h2]

set_option maxHeartbeats 400000 in
theorem mayBe_yes (x : Int) (w : World) (h1 : 1 ≤ x) (h6 : x ≤ 6) : Calls Tryd.prog 33 #[.int .i64 x] w fun e w' => e = .returned (.bool true) ∧ w' = w := by
  have hd : decide (x ≤ 6) = true := by simpa using h6
  go_enter Tryd.func33, Tryd.ntmps33
  go_wp2
  go_ret
  exact ⟨rfl, rfl⟩
set_option maxHeartbeats 400000 in
theorem mayBe_no (x : Int) (w : World) (h1 : x < 1 ∨ 6 < x) : Calls Tryd.prog 33 #[.int .i64 x] w fun e w' => e = .returned (.bool false) ∧ w' = w := by
  rcases h1 with h1 | h1
  · go_enter Tryd.func33, Tryd.ntmps33
    go_wp2
    go_ret
    exact ⟨rfl, rfl⟩
  · have hd : decide (x ≤ 6) = false := by simp; omega
    go_enter Tryd.func33, Tryd.ntmps33
    go_wp2
    go_ret
    exact ⟨rfl, rfl⟩

set_option maxHeartbeats 400000 in
theorem get_arg (a : Option Addr) (len cap : Nat) (x : Int) (w : World) (h : x < 1 ∨ 6 < x) :
    Calls Tryd.prog 21 #[.slice a len cap, .int .i64 x] w fun e w' => e = .returned (.tuple #[.int .i64 0, .int .i64 2]) ∧ w' = w := by
  go_enter Tryd.func21, Tryd.ntmps21
  go_wp2_with (go_at_call 33; refine (mayBe_no _ _ h).mono ?_; rintro e w' ⟨rfl, rfl⟩)
  go_ret2
  exact ⟨rfl, rfl⟩
set_option maxHeartbeats 400000 in
theorem get_cut (a : Option Addr) (len cap : Nat) (x : Int) (w : World) (h1 : 1 ≤ x) (h6 : x ≤ 6) (hl : (len : Int) < x) :
    Calls Tryd.prog 21 #[.slice a len cap, .int .i64 x] w fun e w' => e = .returned (.tuple #[.int .i64 0, .int .i64 3]) ∧ w' = w := by
  go_enter Tryd.func21, Tryd.ntmps21
  go_wp2_with (go_at_call 33; refine (mayBe_yes _ _ (by omega) (by omega)).mono ?_; rintro e w' ⟨rfl, rfl⟩)
  go_ret2
  exact ⟨rfl, rfl⟩
set_option maxHeartbeats 400000 in
theorem get_ok (b off len cap : Nat) (zs : List Int) (x : Nat) (w : World) (h1 : 1 ≤ x) (h6 : x ≤ 6) (hl : x ≤ len) (hm : len ≤ 9223372036854775807)
   (hz : AllB zs) (hlen : zs.length = len) (hc : ∀ i, i < zs.length → w.cell? ⟨b, off + i, none⟩ = some (.int .u8 (zs.getD i 0))) :
    Calls Tryd.prog 21 #[.slice (some ⟨b, off, none⟩) len cap, .int .i64 x] w fun e w' => e = .returned (.tuple #[.int .i64 (val (zs.take x)), .int .i64 0]) ∧ w' = w := by
  have HL : Hid (zs.length = len) := hlen
  clear hlen
  go_enter Tryd.func21, Tryd.ntmps21
  go_wp2_with (go_at_call 33; refine (mayBe_yes _ _ (by omega) (by omega)).mono ?_; rintro e w' ⟨rfl, rfl⟩)
  go_loop [6, 16] (fun n i => ∃ k : Nat, k ≤ x ∧ i = .int .i64 k ∧ n = .int .i64 (val (zs.take k))) (fun _ i => x - (intOf i).toNat)
  case atStart => exact ⟨0, Nat.zero_le _, rfl, rfl⟩
  case round =>
    obtain ⟨k, hk, rfl, rfl⟩ := hrel
    by_cases hlt : k < x
    · obtain ⟨hv0, hv1⟩ := val_take_bound5 zs k (by omega) hz
      have hck := hc k (by have := HL.out; omega)
      obtain ⟨hz0, hz1⟩ := hz.getD k
      go_wp2
      go_round
      case rel =>
        refine ⟨k + 1, by omega, by go_num, ?_⟩
        rw [val_take zs k (by have := HL.out; omega), ← List.getD_eq_getElem?_getD, or_byte _ _ hv0 hv1 hz0 hz1]
      case measure => simp [intOf]; omega
    · go_wp2
      go_ret2
      exact ⟨ret2 (by rw [show k = x from by omega]) rfl, rfl⟩

theorem get_any (a : Option Addr) (len cap : Nat) (zs : List Int) (x : Int) (w : World) (hb : BV w a zs) (hl : zs.length = len) (hm : len ≤ 9223372036854775807) :
    Calls Tryd.prog 21 #[.slice a len cap, .int .i64 x] w fun e w' => e = .returned (.tuple #[.int .i64 (getV zs x), .int .i64 (getE zs x)]) ∧ w' = w := by
  unfold getV getE
  by_cases h : x < 1 ∨ 6 < x
  · rw [if_pos h, if_pos h]; exact get_arg a len cap x w h
  · rw [if_neg h, if_neg h, hl]
    by_cases h2 : (len : Int) < x
    · rw [if_pos h2, if_pos h2]; exact get_cut a len cap x w (by omega) (by omega) h2
    · rw [if_neg h2, if_neg h2]
      obtain ⟨y, rfl⟩ := Int.eq_ofNat_of_zero_le (show 0 ≤ x by omega)
      rw [Int.toNat_natCast]
      obtain ⟨hz, h3 | ⟨b, off, rfl, _, hc⟩⟩ := hb
      · subst h3; simp at hl; omega
      · exact get_ok b off len cap zs y w (by omega) (by omega) (by omega) hm hz hl hc
end Go.Proofs.YtpmhilaochfpaaaDoor
