/- awake: one page, laid and read. -/
import Derived.Test.YtcegahmjegjckaaBack
import Derived.Test.YtcegahmjegjckaaWords
import Derived.Test.YtcegahmjegjckaaUnw
import Derived.Test.YtcegahmjegjckaaSplit
import Derived.Test.YtcegahmjegjckaaRSplit
import Derived.Lib.SlBytesConst
import Derived.Lib.SmallJoins
namespace Go.Proofs.Ytcegahmjegjckaa
open Go.RowKit
set_option linter.unusedVariables false
set_option linter.unusedSimpArgs false
def ab : List Int := [97, 98]
theorem ab_all : AllB [97, 98] := by intro z hz; revert z; decide
theorem abcde_all : AllB [97, 98, 99, 100, 101] := by intro z hz; revert z; decide
theorem ab_E : sealE 5 258 ([97, 98] : List Int).length = 0 := by decide
theorem ab_take : (sealS 5 258 [97, 98]).take 8 = [5, 0, 1, 2, 0, 2, 97, 98] := by
  obtain ⟨rest, e⟩ := seal_shape 5 258 [97, 98]
  rw [e]
  have e2 : dig 5 1 ++ (dig 258 3 ++ (dig (([97, 98] : List Int).length : Nat) 2 ++ ([97, 98] ++ rest))) = [5, 0, 1, 2, 0, 2, 97, 98] ++ rest := by
    rw [show dig 5 1 = [5] by decide, show dig 258 3 = [0, 1, 2] by decide, show dig (([97, 98] : List Int).length : Nat) 2 = [0, 2] by decide]; rfl
  rw [e2]
  exact take_pre rfl
theorem s8 : strOfNums [5, 0, 1, 2, 0, 2, 97, 98] = ⟨#[5, 0, 1, 2, 0, 2, 97, 98]⟩ := by decide
theorem s2 : strOfNums [97, 98] = ⟨#[97, 98]⟩ := by decide
theorem s4 : strOfNums [0, 1, 1, 2] = ⟨#[0, 1, 1, 2]⟩ := by decide
theorem s1 : strOfNums [101] = ⟨#[101]⟩ := by decide
theorem aw1 (w : World) : Calls Try.prog 9 #[.int .i64 5, .int .i64 258, .slice (some ⟨w.heap.size, 0, none⟩) 2 2] (w.alloc (.cells #[.int .u8 97, .int .u8 98] 5 (2, 3))) fun e w' => ∃ g c, e = .returned (.tuple #[.slice (some ⟨g, 0, none⟩) 256 c, .int .i64 0]) ∧ 256 ≤ c ∧ c ≤ 9223372036854775807 ∧ Hid (BV w' (some ⟨g, 0, none⟩) (sealS 5 258 [97, 98])) ∧ Hid (Below w.heap.size w w') := by
  have hb := bv_lit w [97, 98] ab_all (2, 3)
  have B0 : Below w.heap.size w (w.alloc (.cells #[.int .u8 97, .int .u8 98] 5 (2, 3))) := (Below.refl _ _).alloc (Nat.le_refl _) _
  refine (pseal_good 5 258 (some ⟨w.heap.size, 0, none⟩) 2 [97, 98] _ ab_E hb (by intro h; cases h)).mono ?_
  rintro e w' ⟨v, rfl, ho, hbl⟩
  have hl : (sealS 5 258 [97, 98]).length = 256 := seal_len (by decide)
  obtain ⟨g, c, rfl, h1, h2, h3⟩ := ho.shape 256 hl (by decide)
  obtain ⟨_, c', e', _, _, _, q⟩ := ho.slice (sealS_all ab_all)
  obtain ⟨_, _, rfl⟩ := Value.slice.inj e'
  exact ⟨g, c, rfl, h1, by unfold maxLen at q; omega, ho.bv (sealS_all ab_all), B0.trans (hbl.mono B0.size)⟩
theorem aw2 (W : World) (g c : Nat) (hb : BV W (some ⟨g, 0, none⟩) (sealS 5 258 [97, 98])) (hc : 256 ≤ c) : Calls Try.prog 11 #[.slice (some ⟨g, 0, none⟩) 256 c] W fun e w' => ∃ a c, e = .returned (.tuple #[.int .i64 5, .int .i64 258, .slice a 2 c, .int .i64 0]) ∧ Hid (BV w' a [97, 98] ∧ (a = none → c = 0) ∧ Below W.heap.size W w') := by
  have hl : (sealS 5 258 [97, 98]).length = 256 := seal_len (by decide)
  have h := popen_any (some ⟨g, 0, none⟩) c _ W hb (by intro h; cases h) (by omega) (by omega)
  rw [hl] at h
  obtain ⟨e1, e2, e3, e4⟩ := op_seal ab_E
  refine h.mono ?_
  rintro e w' ⟨v, rfl, ho, hbl⟩
  rw [e4] at ho
  obtain ⟨a, c', rfl, q1, q2, _, _⟩ := ho.slice ab_all
  exact ⟨a, c', by rw [e1, e2, e3]; rfl, q2, q1, hbl⟩
theorem iv_lit (w : World) (zs : List Int) (fr : Nat × Nat) : IV (w.alloc (.cells (zs.map (Value.int .i64)).toArray 3 fr)) (some ⟨w.heap.size, 0, none⟩) zs := by
  refine .inr ⟨w.heap.size, 0, rfl, by simp, fun i hi => ?_⟩
  rw [cell_of_row _ _ _ _ _ _ (heap_alloc_last _ _), Nat.zero_add]
  simp [List.getD_eq_getElem?_getD, List.getElem?_eq_getElem hi]
theorem aw3 (W : World) : Calls Try.prog 13 #[.slice (some ⟨W.heap.size, 0, none⟩) 2 2] (W.alloc (.cells #[.int .i64 1, .int .i64 258] 3)) fun e w' => ∃ a c, e = .returned (.tuple #[.slice a 4 c, .int .i64 0]) ∧ Hid (BV w' a [0, 1, 1, 2] ∧ (a = none → c = 0) ∧ 4 ≤ c ∧ Below W.heap.size W w') := by
  have B0 : Below W.heap.size W (W.alloc (.cells #[.int .i64 1, .int .i64 258] 3)) := (Below.refl _ _).alloc (Nat.le_refl _) _
  refine (words_any (some ⟨W.heap.size, 0, none⟩) 2 [1, 258] _ (iv_lit W [1, 258] (0, 0)) (by decide)).mono ?_
  rintro e w' ⟨v, rfl, ho, hbl⟩
  have e1 : wordsL [1, 258] = [0, 1, 1, 2] := by decide
  have e2 : wordsE [1, 258] = 0 := by decide
  rw [e1] at ho
  obtain ⟨a, c', rfl, q1, q2, q3, _⟩ := ho.slice (by intro z hz; revert z; decide)
  exact ⟨a, c', by rw [e2]; rfl, q2, q1, q3, B0.trans (hbl.mono B0.size)⟩
theorem aw4 (W : World) (a : Option Addr) (c : Nat) (hb : BV W a [0, 1, 1, 2]) (hn : a = none → c = 0) : Calls Try.prog 15 #[.slice a 4 c] W fun e w' => ∃ g off c, e = .returned (.tuple #[.slice (some ⟨g, off, none⟩) 2 c, .int .i64 0]) ∧ Hid (w'.cell? ⟨g, off + 1, none⟩ = some (.int .i64 258) ∧ g < w'.heap.size ∧ Below W.heap.size W w') := by
  refine (unw_any a c [0, 1, 1, 2] W hb hn (by decide)).mono ?_
  rintro e w' ⟨v, rfl, ho, hbl⟩
  have e1 : unL [0, 1, 1, 2] = [1, 258] := by decide
  have e2 : unE [0, 1, 1, 2] = 0 := by decide
  rw [e1] at ho
  obtain ⟨a', c', rfl, _, h | ⟨b, off, rfl, _, hlt, hc⟩, _, _⟩ := ho.view
  · cases h
  · exact ⟨b, off, c', by rw [e2]; rfl, hc 1 (by decide), hlt, hbl⟩
theorem aw5 (W : World) : Calls Try.prog 17 #[.slice (some ⟨W.heap.size, 0, none⟩) 5 5, .int .i64 2] (W.alloc (.cells #[.int .u8 97, .int .u8 98, .int .u8 99, .int .u8 100, .int .u8 101] 5 (5, 6))) fun e w' => ∃ g c x xc, e = .returned (.slice (some ⟨g, 0, none⟩) 3 c) ∧ w'.cell? ⟨g, 2, none⟩ = some (.slice x 1 xc) ∧ (convert 22 9 (.slice x 1 xc)).run Try.prog w' = .ok (.string ⟨#[101]⟩) w' ∧ Hid (Below W.heap.size W w') := by
  have hb := bv_lit W [97, 98, 99, 100, 101] abcde_all (5, 6)
  have B0 : Below W.heap.size W (W.alloc (.cells #[.int .u8 97, .int .u8 98, .int .u8 99, .int .u8 100, .int .u8 101] 5 (5, 6))) := (Below.refl _ _).alloc (Nat.le_refl _) _
  refine (split_any (some ⟨W.heap.size, 0, none⟩) 5 [97, 98, 99, 100, 101] 2 _ hb (by intro h; cases h) (by decide)).mono ?_
  rintro e w' ⟨v, rfl, ho, hbl⟩
  rw [show splitS [97, 98, 99, 100, 101] 2 = [[97, 98], [99, 100], [101]] by decide] at ho
  obtain ⟨a, c, rfl, _, _, h | ⟨g, rfl, _, _, hc⟩⟩ := ho.view
  · cases h
  · obtain ⟨x, xc, q1, q2, q3⟩ := hc 2 (by decide)
    have h := conv_bv (cap := xc) q3.bv q2
    rw [show ([[97, 98], [99, 100], [101]] : List (List Int)).getD 2 [] = [101] from rfl, s1] at h
    exact ⟨g, c, x, xc, rfl, q1, h, B0.trans (hbl.mono B0.size)⟩
set_option maxHeartbeats 1600000 in
theorem awake_any (w : World) : Calls Try.prog 8 #[] w fun e w' => e = .returned (.bool true) ∧ Below w.heap.size w w' := by
  have hc0 := Lib.run_convert_bytes_const (P := Try.prog) w 22 5 #[.int .u8 97, .int .u8 98] 2 2 Try.underlying22 Try.underlying5
  have A1 := aw1 w
  have A2 : Hid (∀ (W : World) (g c : Nat), BV W (some ⟨g, 0, none⟩) (sealS 5 258 [97, 98]) → 256 ≤ c → _) := aw2
  have A3 : Hid (∀ W : World, _) := aw3
  have A4 : Hid (∀ (W : World) (a : Option Addr) (c : Nat), BV W a [0, 1, 1, 2] → (a = none → c = 0) → _) := aw4
  have A5 : Hid (∀ W : World, _) := aw5
  go_enter Try.func8, Try.ntmps8
  go_wp2_with fail
  refine A1.mono ?_
  rintro e w1 ⟨g, c, rfl, hc1, hc2, V1, B1⟩
  clear A1 hc0
  go_wp2_with fail
  refine (A2.out w1 g c V1.out hc1).mono ?_
  rintro e w2 ⟨xa, xc, rfl, H2⟩
  clear A2
  go_wp2_with fail
  refine (A3.out w2).mono ?_
  rintro e w3 ⟨wa, wc, rfl, H3⟩
  clear A3
  go_wp2_with fail
  refine (A4.out w3 wa wc H3.out.1 H3.out.2.1).mono ?_
  rintro e w4 ⟨lg, lo, lc, rfl, H4⟩
  clear A4
  have hc0 := Lib.run_convert_bytes_const (P := Try.prog) w4 22 5 #[.int .u8 97, .int .u8 98, .int .u8 99, .int .u8 100, .int .u8 101] 5 5 Try.underlying22 Try.underlying5
  go_wp2_with fail
  refine (A5.out w4).mono ?_
  rintro e w5 ⟨pg, pc, px, pxc, rfl, p1, p2, H5⟩
  clear A5 hc0
  have E4 : Below w3.heap.size w3 w5 := H4.out.2.2.trans (H5.out.mono H4.out.2.2.size)
  have E3 : Below w2.heap.size w2 w5 := H3.out.2.2.2.trans (E4.mono H3.out.2.2.2.size)
  have E2 : Below w1.heap.size w1 w5 := H2.out.2.2.trans (E3.mono H2.out.2.2.size)
  have EF : Hid (Below w.heap.size w w5) := B1.out.trans (E2.mono B1.out.size)
  have k1 : (convert 22 9 (.slice (some ⟨g, 0, none⟩) 8 c)).run Try.prog w5 = .ok (.string ⟨#[5, 0, 1, 2, 0, 2, 97, 98]⟩) w5 := by
    have h := conv_bv (cap := c) ((V1.out.below E2).upto 8) (by intro h; cases h)
    rw [ab_take, s8] at h
    exact h
  have k2 : (convert 22 9 (.slice xa 2 xc)).run Try.prog w5 = .ok (.string ⟨#[97, 98]⟩) w5 := by
    have h := conv_bv (cap := xc) (H2.out.1.below E3) H2.out.2.1
    rw [s2] at h
    exact h
  have k3 : (convert 22 9 (.slice wa 4 wc)).run Try.prog w5 = .ok (.string ⟨#[0, 1, 1, 2]⟩) w5 := by
    have h := conv_bv (cap := wc) (H3.out.1.below E4) H3.out.2.1
    rw [s4] at h
    exact h
  have k4 : w5.cell? ⟨lg, lo + 1, none⟩ = some (.int .i64 258) := (H5.out.cell (p := ⟨lg, lo + 1, none⟩) H4.out.2.1).trans H4.out.1
  have hc8 : (8 : Int) ≤ (c : Int) := by omega
  have hc9 : ¬ c = 0 := by omega
  clear E2 E3 E4
  go_wp2_with fail
  go_ret
  exact ⟨rfl, EF.out⟩
end Go.Proofs.Ytcegahmjegjckaa
