/- What every right program tells of one set: the call 'awake' of the statements answers true. -/
import Derived.Test.YtfbmpnhoohfcgaaRJoin
namespace Go.Proofs.Ytfbmpnhoohfcgaa
open Go.RowKit

theorem aw_with : withI (List.replicate (makeN 9) 0) 1 true = [64, 0] := by decide +kernel
theorem aw_all : AllB [64, 0] := by intro z hz; revert z; decide
theorem aw_first : IsFirst [64, 0] 1 2 true := by
  refine .inl ⟨rfl, by decide, by decide, by decide, fun j h1 h2 => ?_⟩
  obtain rfl : j = 1 := by omega
  decide
theorem aw_count : (listS [64, 0]).length = 1 := by decide +kernel
theorem aw_has1 : hasI [64, 0] 1 = true := by decide +kernel
theorem aw_has9 : hasI [64, 0] 9 = false := by decide +kernel
theorem conv_bv {w : World} {a : Option Addr} {zs : List Int} {n cap : Nat} (h : BV w a zs) (hn : zs.length = n) : (convert 22 9 (.slice a n cap)).run Try.prog w = .ok (.string (strOfNums zs)) w := by
  subst hn
  rcases h.2 with rfl | ⟨b, off, rfl, _, hc⟩
  · cases a with
    | none => exact run_convert_bytes_nil (P := Try.prog) w 22 5 Try.underlying22 Try.underlying5 0 cap 9 Try.underlying9
    | some x =>
      show (convert 22 9 (.slice (some x) 0 cap)).run Try.prog w = _
      rw [run_convert_bytes_string w 22 9 5 _ 0 cap Try.underlying22 Try.underlying5 Try.underlying9, run_bytesToString w x 0 cap [] (by simp [loadCells, loadCellsFrom])]
      rfl
  · exact run_convert_bytes_arg (P := Try.prog) w 22 5 Try.underlying22 Try.underlying5 b off zs.length cap zs rfl hc 9 Try.underlying9
theorem aw_str : strOfNums [64, 0] = ⟨#[64, 0]⟩ := by decide +kernel
set_option maxHeartbeats 1600000 in
theorem awake_any (w : World) : Calls Try.prog 8 #[] w fun e w' => e = .returned (.bool true) ∧ Below w.heap.size w w' := by
  have HM : Hid (∀ w, Calls Try.prog 17 #[.int .i64 9] w fun e w' => ∃ a cap, e = .returned (.slice a 2 cap) ∧ BV w' a (List.replicate (makeN 9) 0) ∧ (a = none → cap = 0) ∧ Below w.heap.size w w') := fun w => by
    refine (make_any 9 w).mono ?_
    rintro e w' ⟨v, rfl, ho, hb⟩
    obtain ⟨a, cap, rfl, h1, h2⟩ := ho.split (AllB.zeros _)
    exact ⟨a, cap, rfl, h1, h2, hb⟩
  have HW : Hid (∀ w a cap, BV w a (List.replicate (makeN 9) 0) → (a = none → cap = 0) → Calls Try.prog 19 #[.slice a 2 cap, .int .i64 1, .bool true] w fun e w' => ∃ a cap, e = .returned (.slice a 2 cap) ∧ BV w' a [64, 0] ∧ Below w.heap.size w w') := fun w a cap hb hn => by
    refine (with_any a cap (List.replicate (makeN 9) 0) 1 true w hb (by decide) hn).mono ?_
    rintro e w' ⟨v, rfl, ho, hb⟩
    rw [aw_with] at ho
    obtain ⟨a, cap, rfl, h1, h2⟩ := ho.split aw_all
    exact ⟨a, cap, rfl, h1, hb⟩
  have HF : Hid (∀ w a cap, BV w a [64, 0] → Calls Try.prog 9 #[.slice a 2 cap, .int .i64 1] w fun e w' => e = .returned (.tuple #[.int .i64 2, .bool true]) ∧ Below w.heap.size w w') := fun w a cap hb => by
    refine (first_any a cap [64, 0] 1 w hb (by decide) (by decide)).mono ?_
    rintro e w' ⟨k, ok, rfl, hf, m, rfl⟩
    obtain ⟨rfl, rfl⟩ := hf.one aw_first
    exact ⟨rfl, below_drewN (Below.refl _ _) _⟩
  have HC : Hid (∀ w a cap, BV w a [64, 0] → Calls Try.prog 16 #[.slice a 2 cap] w fun e w' => e = .returned (.int .i64 1) ∧ Below w.heap.size w w') := fun w a cap hb => by
    refine (count_any a cap [64, 0] w hb (by decide)).mono ?_
    rintro e w' ⟨rfl, m, rfl⟩
    rw [aw_count]
    exact ⟨rfl, below_drewN (Below.refl _ _) _⟩
  have HH : Hid (∀ w a cap i, BV w a [64, 0] → Calls Try.prog 11 #[.slice a 2 cap, .int .i64 i] w fun e w' => e = .returned (.bool (hasI [64, 0] i)) ∧ Below w.heap.size w w') := fun w a cap i hb => by
    refine (has_any a cap [64, 0] i w hb (by decide)).mono ?_
    rintro e w' ⟨rfl, m, rfl⟩
    exact ⟨rfl, below_drewN (Below.refl _ _) _⟩
  have H1 := aw_has1
  have H9 := aw_has9
  have hstr := aw_str
  go_enter Try.func8, Try.ntmps8
  go_wp2_with (first
    | (go_at_call 17; refine (HM.out _).mono ?_; rintro e w1 ⟨a1, cap1, rfl, hv1, hn1, hb1⟩; have HV1 : Hid (BV w1 a1 (List.replicate (makeN 9) 0) ∧ (a1 = none → cap1 = 0) ∧ Below w.heap.size w w1) := ⟨hv1, hn1, hb1⟩; clear hv1 hn1 hb1 HM)
    | (go_at_call 19; refine (HW.out _ _ _ HV1.out.1 HV1.out.2.1).mono ?_; rintro e w2 ⟨a2, cap2, rfl, hv2, hb2⟩; have HV2 : Hid (BV w2 a2 [64, 0] ∧ Below w.heap.size w w2) := ⟨hv2, HV1.out.2.2.trans (hb2.mono HV1.out.2.2.size)⟩; clear hv2 hb2 HW)
    | (go_at_call 9; refine (HF.out _ _ _ HV2.out.1).mono ?_; rintro e w3 ⟨rfl, hb3⟩; have HV3 : Hid (BV w3 a2 [64, 0] ∧ Below w.heap.size w w3) := ⟨HV2.out.1.below hb3, HV2.out.2.trans (hb3.mono HV2.out.2.size)⟩; have hconv := conv_bv (cap := cap2) HV3.out.1 (n := 2) rfl; rw [hstr] at hconv; clear hb3 HF)
    | (go_at_call 16; refine (HC.out _ _ _ HV3.out.1).mono ?_; rintro e w4 ⟨rfl, hb4⟩; have HV4 : Hid (BV w4 a2 [64, 0] ∧ Below w.heap.size w w4) := ⟨HV3.out.1.below hb4, HV3.out.2.trans (hb4.mono HV3.out.2.size)⟩; clear hb4 HC)
    | (go_at_call_of 11 (9 : Int); refine (HH.out _ _ _ _ HV5.out.1).mono ?_; rw [H9]; rintro e w6 ⟨rfl, hb6⟩; have HV6 : Hid (Below w.heap.size w w6) := HV5.out.2.trans (hb6.mono HV5.out.2.size); clear hb6)
    | (go_at_call 11; refine (HH.out _ _ _ _ HV4.out.1).mono ?_; rw [H1]; rintro e w5 ⟨rfl, hb5⟩; have HV5 : Hid (BV w5 a2 [64, 0] ∧ Below w.heap.size w w5) := ⟨HV4.out.1.below hb5, HV4.out.2.trans (hb5.mono HV4.out.2.size)⟩; clear hb5)
    | fail)
  go_ret
  exact ⟨rfl, HV6.out⟩
end Go.Proofs.Ytfbmpnhoohfcgaa
