/- awake: what every right program makes of one slot. -/
import Derived.Test.YtophkfbdhejmcaaGt
import Derived.Test.YtophkfbdhejmcaaSm
import Derived.Test.YtophkfbdhejmcaaDb
import Derived.Test.YtophkfbdhejmcaaPt
import Derived.Lib.SlBytesConst
import Derived.Lib.SmallJoins
namespace Go.Proofs.Ytophkfbdhejmcaa
open Go.RowKit
set_option linter.unusedVariables false
set_option maxRecDepth 20000

theorem s4 : strOfNums [0, 7, 0, 9] = ⟨#[0, 7, 0, 9]⟩ := by decide
theorem ab4 : AllB [0, 7, 0, 9] := by intro z hz; revert z; decide
theorem aw_at (W : World) (g : Nat) (h : IV W (some ⟨g, 0, none⟩) [7]) : Calls Try.prog 13 #[.agg #[.int .i64 0, .slice (some ⟨g, 0, none⟩) 1 1], .string ⟨#[120]⟩] W fun e w' => e = .returned (.int .i64 7) ∧ Below W.heap.size W w' := by
  have := at_any 0 (some ⟨g, 0, none⟩) 1 [7] ⟨#[120]⟩ W h (by decide) (by decide)
  rw [show atS 0 [7] ⟨#[120]⟩ = 7 by
    unfold atS
    rw [if_pos (by decide)]
    have : topK 0 ⟨#[120]⟩ = 0 := M.topS_none _
    rw [this]; rfl] at this
  exact this
theorem aw_double (W : World) (g : Nat) (h : IV W (some ⟨g, 0, none⟩) [7]) : Calls Try.prog 22 #[.agg #[.int .i64 0, .slice (some ⟨g, 0, none⟩) 1 1]] W fun e w' => ∃ a c, e = .returned (.tuple #[.agg #[.int .i64 1, .slice a 2 c], .bool true]) ∧ (a = none → c = 0) ∧ IV w' a [7, 7] ∧ Below W.heap.size W w' := by
  have := double_any 0 (some ⟨g, 0, none⟩) 1 [7] W h (by decide) (by intro h; cases h)
  rw [show dblB 0 [7] = true by decide, show dblD 0 [7] = 1 by decide, show dblL 0 [7] = [7, 7] by decide] at this
  refine this.mono ?_
  rintro e w' ⟨v, rfl, ⟨a, c, rfl, h1, h2⟩, h3⟩
  exact ⟨a, c, rfl, h1, h2, h3⟩
theorem aw_set (W : World) (a : Option Addr) (c : Nat) (hn : a = none → c = 0) (h : IV W a [7, 7]) : Calls Try.prog 26 #[.agg #[.int .i64 1, .slice a 2 c], .int .i64 1, .int .i64 1, .int .i64 9] W fun e w' => ∃ a c, e = .returned (.agg #[.int .i64 1, .slice a 2 c]) ∧ (a = none → c = 0) ∧ IV w' a [7, 9] ∧ Below W.heap.size W w' := by
  have := set_any 1 a c [7, 7] 1 1 9 W h (by decide) hn
  rw [show setL 1 [7, 7] 1 1 9 = [7, 9] by decide] at this
  refine this.mono ?_
  rintro e w' ⟨v, rfl, ⟨a, c, rfl, h1, h2⟩, h3⟩
  exact ⟨a, c, rfl, h1, h2, h3⟩
theorem aw_halve (W : World) (a : Option Addr) (c : Nat) (hn : a = none → c = 0) (h : IV W a [7, 9]) : Calls Try.prog 24 #[.agg #[.int .i64 1, .slice a 2 c]] W fun e w' => ∃ a c, e = .returned (.tuple #[.agg #[.int .i64 1, .slice a 2 c], .bool false]) ∧ Below W.heap.size W w' := by
  have := halve_any 1 a c [7, 9] W h (by decide) hn
  rw [show hlvB 1 [7, 9] = false by decide, show hlvD 1 [7, 9] = 1 by decide, show hlvL 1 [7, 9] = [7, 9] by decide] at this
  refine this.mono ?_
  rintro e w' ⟨v, rfl, ⟨a, c, rfl, h1, h2⟩, h3⟩
  exact ⟨a, c, rfl, h3⟩
theorem aw_put (W : World) (a : Option Addr) (c : Nat) (h : IV W a [7, 9]) : Calls Try.prog 9 #[.agg #[.int .i64 1, .slice a 2 c]] W fun e w' => ∃ a c, e = .returned (.tuple #[.slice a 4 c, .int .i64 0]) ∧ (a = none → c = 0) ∧ BV w' a [0, 7, 0, 9] ∧ Below W.heap.size W w' := by
  have := put_d 1 a c [7, 9] W h (by decide)
  rw [show putDE 1 [7, 9] = 0 by decide, show putDL 1 [7, 9] = [0, 7, 0, 9] by decide] at this
  refine this.mono ?_
  rintro e w' ⟨v, rfl, h1, h2⟩
  obtain ⟨a', c', rfl, q1, q2, _, _⟩ := h1.slice ab4
  exact ⟨a', c', rfl, q1, q2, h2⟩
theorem aw_get (W : World) (a : Option Addr) (c : Nat) (hn : a = none → c = 0) (h : BV W a [0, 7, 0, 9]) : Calls Try.prog 28 #[.int .i64 1, .slice a 4 c] W fun e w' => ∃ a c, e = .returned (.tuple #[.agg #[.int .i64 1, .slice a 2 c], .int .i64 0]) ∧ IV w' a [7, 9] ∧ Below W.heap.size W w' := by
  have := get_main 1 a c [0, 7, 0, 9] W h hn (by decide)
  rw [show gtE 1 [0, 7, 0, 9] = 0 by decide, show gtD 1 [0, 7, 0, 9] = 1 by decide, show gtL 1 [0, 7, 0, 9] = [7, 9] by decide] at this
  refine this.mono ?_
  rintro e w' ⟨v, rfl, ⟨a, c, rfl, h1, h2⟩, h3⟩
  exact ⟨a, c, rfl, h2, h3⟩
theorem aw_same (W : World) (a b : Option Addr) (c e : Nat) (h : IV W a [7, 9]) (h2 : IV W b [7, 9]) : Calls Try.prog 20 #[.agg #[.int .i64 1, .slice a 2 c], .agg #[.int .i64 1, .slice b 2 e]] W fun e w' => e = .returned (.bool true) ∧ Below W.heap.size W w' := by
  have := same_any 1 1 a b c e [7, 9] [7, 9] W h h2 (by decide) (by decide)
  rw [sameD_refl] at this
  exact this
theorem aw_ids (W : World) (a : Option Addr) (c : Nat) (h : IV W a [7, 9]) : Calls Try.prog 18 #[.agg #[.int .i64 1, .slice a 2 c]] W fun e w' => ∃ a c, e = .returned (.slice a 2 c) ∧ Below W.heap.size W w' := by
  have := ids_any 1 a c [7, 9] W h (by decide) (by intro z hz; unfold WfI; revert z; decide)
  rw [show idsK [7, 9] ([7, 9] : List Int).length = [7, 9] by decide] at this
  refine this.mono ?_
  rintro e w' ⟨v, rfl, h1, h2⟩
  obtain ⟨a', c', rfl, _⟩ := h1.view
  exact ⟨a', c', rfl, h2⟩
theorem IV.shape {w : World} {a : Option Addr} {zs : List Int} (h : IV w a zs) (h0 : 1 ≤ zs.length) : ∃ b off, a = some ⟨b, off, none⟩ ∧ b < w.heap.size ∧ ∀ i, i < zs.length → w.cell? ⟨b, off + i, none⟩ = some (.int .i64 (zs.getD i 0)) := by
  obtain rfl | h := h
  · simp at h0
  · exact h
set_option maxHeartbeats 8000000 in
theorem awake_any (w : World) : Calls Try.prog 8 #[] w fun e w' => e = .returned (.bool true) ∧ Below w.heap.size w w' := by
  have H1 : Hid (∀ W, Calls Try.prog 30 #[.int .i64 7] W fun e w' => ∃ g, e = .returned (.agg #[.int .i64 0, .slice (some ⟨g, 0, none⟩) 1 1]) ∧ IV w' (some ⟨g, 0, none⟩) [7] ∧ W.heap.size ≤ g ∧ Below W.heap.size W w') := fun W => one_any 7 W
  go_enter Try.func8, Try.ntmps8
  go_wp2_with fail
  refine (H1.out w).mono ?_
  rintro e w1 ⟨g1, rfl, iv1, _, b1⟩
  have B1 : Hid (Below w.heap.size w w1) := b1
  have V1 : Hid (IV w1 (some ⟨g1, 0, none⟩) [7]) := iv1
  clear iv1 b1
  go_wp2_with fail
  refine (aw_double w1 g1 V1.out).mono ?_
  rintro e w2 ⟨a2, c2, rfl, n2, iv2, b2⟩
  have B2 : Hid (Below w.heap.size w w2) := bt B1.out b2
  obtain ⟨X2, hX2⟩ : ∃ X2, X2 = w2.alloc (.cells #[.int .i64 1, .slice a2 2 c2] 26) := ⟨_, rfl⟩
  have BX2 : Hid (Below w.heap.size w X2) := by rw [hX2]; exact bt B2.out (one_block _ _)
  have V2 : Hid (IV X2 a2 [7, 7]) := by rw [hX2]; exact iv2.below (one_block _ _)
  have K2 : Hid (∀ W, Below X2.heap.size X2 W → W.cell? ⟨w2.heap.size, 0, none⟩ = some (.int .i64 1) ∧ W.cell? ⟨w2.heap.size, 1, none⟩ = some (.slice a2 2 c2)) := fun W hW => by rw [hX2] at hW; exact box2 hW
  clear iv2 b2 V1
  go_wp2_with fail
  rw [← hX2]
  clear hX2
  refine (aw_set X2 a2 c2 n2 V2.out).mono ?_
  rintro e w4 ⟨a4, c4, rfl, n4, iv4, b4⟩
  obtain ⟨X4, hX4⟩ : ∃ X4, X4 = w4.alloc (.cells #[.int .i64 1, .slice a4 2 c4] 26) := ⟨_, rfl⟩
  have D4 : Hid (Below X2.heap.size X2 X4) := by rw [hX4]; exact bt b4 (one_block _ _)
  have V4 : Hid (IV X4 a4 [7, 9]) := by rw [hX4]; exact iv4.below (one_block _ _)
  have K4 : Hid (∀ W, Below X4.heap.size X4 W → W.cell? ⟨w4.heap.size, 0, none⟩ = some (.int .i64 1) ∧ W.cell? ⟨w4.heap.size, 1, none⟩ = some (.slice a4 2 c4)) := fun W hW => by rw [hX4] at hW; exact box2 hW
  clear iv4 b4
  obtain ⟨k0, k1⟩ := K4.out X4 (Below.refl _ _)
  go_wp2_with fail
  rw [← hX4]
  clear hX4
  refine (aw_halve X4 a4 c4 n4 V4.out).mono ?_
  rintro e w6 ⟨a6, c6, rfl, b6⟩
  obtain ⟨X6, hX6⟩ : ∃ X6, X6 = w6.alloc (.cells #[.int .i64 1, .slice a6 2 c6] 26) := ⟨_, rfl⟩
  have D6 : Hid (Below X4.heap.size X4 X6) := by rw [hX6]; exact bt b6 (one_block _ _)
  have hz6 : w4.heap.size < w6.heap.size := by
    have := World.block_lt_of_cell? _ _ ((K4.out w6 b6).1); simpa using this
  clear k0 k1
  obtain ⟨k0, k1⟩ := K4.out w6 b6
  clear b6
  go_wp2_with fail
  rw [← hX6]
  clear hX6 k0 k1
  refine (aw_put X6 a4 c4 (V4.out.below D6.out)).mono ?_
  rintro e w8 ⟨a8, c8, rfl, n8, bv8, b8⟩
  have BV8 : Hid (BV w8 a8 [0, 7, 0, 9]) := bv8
  have D8 : Hid (Below X4.heap.size X4 w8) := bt D6.out b8
  clear bv8 b8
  go_wp2_with fail
  refine (aw_get w8 a8 c8 n8 BV8.out).mono ?_
  rintro e w9 ⟨a9, c9, rfl, iv9, b9⟩
  have D9 : Hid (Below X4.heap.size X4 w9) := bt D8.out b9
  have OB := one_block w9 (.cells #[.int .i64 1, .slice a9 2 c9] 26)
  have HOB : Hid (Below w9.heap.size w9 (w9.alloc (.cells #[.int .i64 1, .slice a9 2 c9] 26))) := OB
  have V9 : Hid (IV w9 a9 [7, 9]) := iv9
  have V4' : Hid (IV w9 a4 [7, 9]) := V4.out.below D9.out
  have q8 : (convert 27 9 (.slice a8 4 c8)).run Try.prog (w9.alloc (.cells #[.int .i64 1, .slice a9 2 c9] 26)) = .ok (.string ⟨#[0, 7, 0, 9]⟩) (w9.alloc (.cells #[.int .i64 1, .slice a9 2 c9] 26)) := by
    have h := conv_bv (cap := c8) ((BV8.out.below b9).below OB) n8
    rw [s4] at h
    exact h
  obtain ⟨g4, o4, rfl, h4, x4⟩ := V4'.out.shape (by decide)
  have y4 := x4 1 (by decide)
  obtain ⟨g2, o2, rfl, h2, x2⟩ := (V2.out.below (bt D4.out D9.out)).shape (by decide)
  have y2 := x2 1 (by decide)
  obtain ⟨k0, k1⟩ := K4.out w9 D9.out
  obtain ⟨l0, l1⟩ := K2.out w9 (bt D4.out D9.out)
  have hz4 : w4.heap.size < w9.heap.size := by have := World.block_lt_of_cell? _ _ k0; simpa using this
  have hz2 : w2.heap.size < w9.heap.size := by have := World.block_lt_of_cell? _ _ l0; simpa using this
  simp only [List.getD_cons_succ, List.getD_cons_zero] at y2 y4
  clear x2 x4 iv9 OB b9 V4 V2 K2 hz6
  have S1 := aw_same (w9.alloc (.cells #[.int .i64 1, .slice a9 2 c9] 26)) (some ⟨g4, o4, none⟩) a9 c4 c9 (V4'.out.below HOB.out) (V9.out.below HOB.out)
  have HBW : Hid (Below w.heap.size w (w9.alloc (.cells #[.int .i64 1, .slice a9 2 c9] 26))) := bt BX2.out (bt D4.out (bt D9.out HOB.out))
  go_wp2_with (first
    | (go_at_call 20; refine S1.mono ?_; rintro e w11 ⟨rfl, b11⟩; clear S1 k0 k1 l0 l1; obtain ⟨k0, k1⟩ := K4.out w11 (bt D9.out (bt HOB.out b11)))
    | (go_at_call 18; refine (aw_ids w11 _ c4 (V4'.out.below (bt HOB.out b11))).mono ?_; rintro e w12 ⟨a12, c12, rfl, b12⟩)
    | (go_at_call 30; refine (H1.out w12).mono ?_; rintro e w13 ⟨g13, rfl, iv13, _, b13⟩)
    | (go_at_call 13; refine (aw_at w13 g13 iv13).mono ?_; rintro e w14 ⟨rfl, b14⟩))
  go_ret
  exact ⟨rfl, bt HBW.out (bt b11 (bt b12 (bt b13 b14)))⟩
end Go.Proofs.Ytophkfbdhejmcaa
