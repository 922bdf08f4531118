/- What every right program sums: the call 'awake' of the statements answers true. -/
import Derived.Test.YtekhjljlhoeknaaOpen
import Derived.Lib.SlBytesConst
import Derived.Lib.SmallJoins
namespace Go.Proofs.Ytekhjljlhoeknaa
open Go.RowKit

theorem seal_good (zs : List Int) : Good (zs ++ dig (more 0 zs) 4) := by
  have h4 := dig_length 4 (more 0 zs)
  unfold Good
  rw [List.length_append, h4, Nat.add_sub_cancel, List.drop_left, List.take_left]
theorem open_sealE (zs : List Int) : openE (zs ++ dig (more 0 zs) 4) = 0 := by
  have h4 := dig_length 4 (more 0 zs)
  unfold openE
  rw [if_neg (by rw [List.length_append, h4]; omega), if_pos (seal_good zs)]
theorem open_sealL (zs : List Int) : openL (zs ++ dig (more 0 zs) 4) = zs := by
  have h4 := dig_length 4 (more 0 zs)
  unfold openL
  rw [if_neg (by rw [List.length_append, h4]; omega), if_pos (seal_good zs), List.length_append, h4, Nat.add_sub_cancel, List.take_left]
theorem seal_all {zs : List Int} (h : AllB zs) : AllB (zs ++ dig (more 0 zs) 4) := h.append (dig_all _ _)
theorem awake_sum : mores 0 [[49, 50, 51, 52], [53, 54, 55, 56, 57]] = 3808858755 := by decide +kernel

/-- A literal of bytes. -/
theorem bv_lit (w : World) (zs : List Int) (hz : AllB zs) (fr : Nat × Nat) : BV (w.alloc (.cells (zs.map (Value.int .u8)).toArray 5 fr)) (some ⟨w.heap.size, 0, none⟩) zs := by
  refine ⟨hz, .inr ⟨w.heap.size, 0, rfl, by simp, fun i hi => ?_⟩⟩
  rw [Nat.zero_add, World.cell?_alloc_mark]
  simp [List.getD_eq_getElem?_getD, List.getElem?_eq_getElem hi]

theorem awake_of (w : World) : Calls Try.prog 10 #[.slice (some ⟨w.heap.size + 1 + 1, 0, none⟩) 2 2]
    (((w.alloc (.cells #[.int .u8 49, .int .u8 50, .int .u8 51, .int .u8 52] 5 (4, 5))).alloc (.cells #[.int .u8 53, .int .u8 54, .int .u8 55, .int .u8 56, .int .u8 57] 5 (5, 6))).alloc (.cells #[.slice (some ⟨w.heap.size, 0, none⟩) 4 4, .slice (some ⟨w.heap.size + 1, 0, none⟩) 5 5] 22))
    fun e w' => e = .returned (.int .u32 3808858755) ∧ Below w.heap.size w w' := by
  have h1 : AllB [49, 50, 51, 52] := by intro z hz; revert z; decide
  have h2 : AllB [53, 54, 55, 56, 57] := by intro z hz; revert z; decide
  have b1 := bv_lit w [49, 50, 51, 52] h1 (4, 5)
  have b2 := bv_lit (w.alloc (.cells ([49, 50, 51, 52].map (Value.int .u8)).toArray 5 (4, 5))) [53, 54, 55, 56, 57] h2 (5, 6)
  rw [show (w.alloc (.cells ([49, 50, 51, 52].map (Value.int .u8)).toArray 5 (4, 5))).heap.size = w.heap.size + 1 by simp] at b2
  have P2 := parts2 (cap := 4) (cap2 := 5) (b1.alloc (.cells ([53, 54, 55, 56, 57].map (Value.int .u8)).toArray 5 (5, 6))) (by intro h; cases h) (by decide) b2 (by intro h; cases h) (by decide)
  have H := of_any _ 0 2 2 _ _ rfl (by decide) P2
  rw [awake_sum] at H
  simp only [World.size_alloc] at H
  refine Calls.mono H ?_
  rintro e w' ⟨rfl, rfl⟩
  refine ⟨rfl, ?_⟩
  exact (((Below.refl _ _).alloc (Nat.le_refl _) _).alloc (by simp) _).alloc (by simp; omega) _

set_option maxHeartbeats 1000000 in
theorem awake_any (w : World) : Calls Try.prog 8 #[] w fun e w' => e = .returned (.bool true) ∧ Below w.heap.size w w' := by
  have hx : AllB [120] := by intro z hz; revert z; decide
  have hc1 := Lib.run_convert_bytes_const (P := Try.prog) w 22 5 #[.int .u8 120] 1 1 Try.underlying22 Try.underlying5
  have H1 : Calls Try.prog 14 #[.slice (some ⟨w.heap.size, 0, none⟩) 1 1] (w.alloc (.cells #[.int .u8 120] 5 (1, 2))) _ := seal_any (some ⟨w.heap.size, 0, none⟩) 1 [120] _ (bv_lit w [120] hx (1, 2)) (by decide) (by intro h; cases h)
  have B0 : Below w.heap.size w (w.alloc (.cells #[.int .u8 120] 5 (1, 2))) := (Below.refl _ _).alloc (Nat.le_refl _) _
  go_enter Try.func8, Try.ntmps8
  go_wp2_with fail
  refine H1.mono ?_
  rintro e w1 ⟨v, rfl, ho, hb1⟩
  clear H1
  obtain ⟨a, cap, rfl, hn, hbv, hc, hcm⟩ := ho.slice (seal_all hx)
  have B1 : Below w.heap.size w w1 := B0.trans (hb1.mono B0.size)
  have H2 := open_any a cap _ w1 hbv (by rw [List.length_append, dig_length]; decide) hc
  rw [open_sealE, open_sealL] at H2
  clear hb1 ho B0 hbv
  generalize ([120] ++ dig (more 0 [120]) 4).length = n at *
  go_wp2_with fail
  refine H2.mono ?_
  rintro e w2 ⟨v, rfl, ho, hb2⟩
  clear H2 hc1
  have B2 : Below w.heap.size w w2 := B1.trans (hb2.mono B1.size)
  clear hb2 B1
  have hc2 := Lib.run_convert_bytes_const (P := Try.prog) w2 22 5 #[.int .u8 49, .int .u8 50, .int .u8 51, .int .u8 52] 4 4 Try.underlying22 Try.underlying5
  have hc3 := Go.Joins.run_convert_bytes_const_at (P := Try.prog) (w2.alloc (.cells #[.int .u8 49, .int .u8 50, .int .u8 51, .int .u8 52] 5 (4, 5))) 22 5 #[.int .u8 53, .int .u8 54, .int .u8 55, .int .u8 56, .int .u8 57] 5 5 (w2.heap.size + 1) (by simp) Try.underlying22 Try.underlying5
  go_wp2_with fail
  refine (awake_of w2).mono ?_
  rintro e w3 ⟨rfl, hb3⟩
  have s1 := conv_own (ho.below hb3) hx
  rw [show strOfNums [120] = ⟨#[120]⟩ from rfl] at s1
  have HB : Hid (Below w.heap.size w w3) := B2.trans (hb3.mono B2.size)
  clear B2 hb3 ho hc2 hc3
  go_wp2
  go_ret
  exact ⟨rfl, HB.out⟩
end Go.Proofs.Ytekhjljlhoeknaa
