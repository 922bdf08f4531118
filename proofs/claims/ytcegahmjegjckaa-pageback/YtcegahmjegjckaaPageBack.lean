/- For every kind, id, body, place and change the call PageBack of the statements returns true and its arguments read as they did: no condition. -/
import Derived.Test.YtcegahmjegjckaaRows
import Derived.Test.YtcegahmjegjckaaArg
import Derived.WalkKit
import Derived.ProofKit
import Derived.OpenShut
import Derived.ShutString
import Derived.ChangeOld
import Derived.Below
import Derived.StillTailTactics
namespace Go.Proofs.Ytcegahmjegjckaa.pageBack
open Go.ChangeShapes Go.WideShapes Go.ChangeAt Go.RowKit
set_option linter.unusedVariables false
set_option linter.unusedSimpArgs false
set_option maxRecDepth 20000

theorem own : ownKnob Try.prog.godebug = none := by kernel_rfl
theorem laidOut : laidOutB Try.prog = true := by kernel_rfl
theorem turned {zs : List Int} (hz : AllB zs) (i : Nat) (hi : i < zs.length + 4) (z : Int) (h0 : 0 ≤ z) (h1 : z ≤ 255) (hne : z ≠ (zs ++ dig (more 0 zs) 4).getD i 0) : openE ((zs ++ dig (more 0 zs) 4).set i z) = 13 := by
  have h4 := dig_length 4 (more 0 zs)
  have hl : ((zs ++ dig (more 0 zs) 4).set i z).length = zs.length + 4 := by rw [List.length_set, List.length_append, h4]
  unfold openE
  rw [if_neg (by omega), if_neg]
  unfold Good
  rw [hl, Nat.add_sub_cancel]
  rcases Nat.lt_or_ge i zs.length with h | h
  · rw [List.set_append_left _ _ h, List.drop_left' (by simp), List.take_left' (by simp)]
    rw [List.getD_eq_getElem?_getD, List.getElem?_append_left h, ← List.getD_eq_getElem?_getD] at hne
    have hall : AllB (zs.set i z) := by
      intro y hy
      rcases List.mem_or_eq_of_mem_set hy with h' | rfl
      · exact hz y h'
      · exact ⟨h0, h1⟩
    intro he
    have hv := congrArg val he
    have m1 := more_lt (show 0 < 4294967296 by decide) hz
    have m2 := more_lt (show 0 < 4294967296 by decide) hall
    have p4 : (256 : Int) ^ 4 = 4294967296 := by decide
    rw [val_dig 4 _ (by omega) (by omega), val_dig 4 _ (by omega) (by omega)] at hv
    exact more_set hz i h h0 h1 hne (by omega)
  · rw [List.set_append_right _ _ h, List.drop_left, List.take_left]
    rw [List.getD_eq_getElem?_getD, List.getElem?_append_right h, ← List.getD_eq_getElem?_getD] at hne
    intro he
    apply hne
    rw [← he, List.getD_eq_getElem?_getD, List.getElem?_set_self (by omega)]
    rfl
theorem u8_turn (z y : Int) (h0 : 0 ≤ z) (h1 : z ≤ 255) (h2 : 0 ≤ y) (h3 : y ≤ 255) : bits .xor .u8 z y = ((z.toNat ^^^ y.toNat : Nat) : Int) := u8_xor z y h0 (by omega) h2 (by omega)
theorem turn_bounds (z y : Int) (h0 : 0 ≤ z) (h1 : z ≤ 255) (h2 : 1 ≤ y) (h3 : y ≤ 255) : (0 : Int) ≤ ((z.toNat ^^^ y.toNat : Nat) : Int) ∧ ((z.toNat ^^^ y.toNat : Nat) : Int) ≤ 255 ∧ ((z.toNat ^^^ y.toNat : Nat) : Int) ≠ z := by
  have h := Nat.xor_lt_two_pow (n := 8) (show z.toNat < 2 ^ 8 by omega) (show y.toNat < 2 ^ 8 by omega)
  refine ⟨by omega, by omega, fun e => ?_⟩
  have e2 : z.toNat ^^^ y.toNat = z.toNat ^^^ 0 := by rw [Nat.xor_zero]; omega
  have := xor_left_inj e2
  omega

set_option maxHeartbeats 800000 in
theorem walk_long (a0 : Int) (a1 : Int) (a2 : Option Addr) (len2 cap2 : Nat) (y2 : List Int) (x2 z2 : Int) (w : World) (w0 : (Lit.int .i64 a0).wf = true) (w1 : (Lit.int .i64 a1).wf = true) (w2 : (y2.length = len2 ∧ BV w a2 y2 ∧ (a2 = none → cap2 = 0) ∧ len2 ≤ cap2 ∧ cap2 ≤ 9223372036854775807) ∧ (0 ≤ x2 ∧ x2 ≤ 255) ∧ (0 ≤ z2 ∧ z2 ≤ 255)) (h : 300 < len2) :
    Calls Try.prog 6 #[.int .i64 a0, .int .i64 a1, .agg #[.slice a2 len2 cap2, .int .u8 x2, .int .u8 z2]] w fun e w' => e = .returned (.bool true) ∧ Below w.heap.size w w' := by
  obtain ⟨W, hW⟩ : ∃ W, W = w.alloc (.cells #[.slice a2 len2 cap2, .int .u8 x2, .int .u8 z2] 46) := ⟨_, rfl⟩
  have c0 : W.cell? ⟨w.heap.size, 0, none⟩ = some (.slice a2 len2 cap2) := by rw [hW]; go_simp
  have HB : Hid (Below w.heap.size w W) := by rw [hW]; exact (Below.refl _ _).alloc (Nat.le_refl _) _
  have HA := awake_any W
  clear w0 w1 w2
  go_enter Try.func6, Try.ntmps6
  go_wp2_with fail
  rw [← hW]
  clear hW
  refine HA.mono ?_
  rintro e w2 ⟨rfl, hb2⟩
  clear HA
  go_wp2_with fail
  go_ret
  exact ⟨rfl, HB.out.trans (hb2.mono HB.out.size)⟩
set_option maxHeartbeats 1600000 in
theorem walk_bad (a0 : Int) (a1 : Int) (a2 : Option Addr) (len2 cap2 : Nat) (y2 : List Int) (x2 z2 : Int) (w : World) (w0 : (Lit.int .i64 a0).wf = true) (w1 : (Lit.int .i64 a1).wf = true) (w2 : (y2.length = len2 ∧ BV w a2 y2 ∧ (a2 = none → cap2 = 0) ∧ len2 ≤ cap2 ∧ cap2 ≤ 9223372036854775807) ∧ (0 ≤ x2 ∧ x2 ≤ 255) ∧ (0 ≤ z2 ∧ z2 ≤ 255)) (h : ¬ 300 < len2) (he : sealE a0 a1 len2 ≠ 0) :
    Calls Try.prog 6 #[.int .i64 a0, .int .i64 a1, .agg #[.slice a2 len2 cap2, .int .u8 x2, .int .u8 z2]] w fun e w' => e = .returned (.bool true) ∧ Below w.heap.size w w' := by
  obtain ⟨⟨rfl, hb, hn, hc, hm⟩, _, _⟩ := w2
  obtain ⟨W, hW⟩ : ∃ W, W = w.alloc (.cells #[.slice a2 y2.length cap2, .int .u8 x2, .int .u8 z2] 46) := ⟨_, rfl⟩
  have c0 : W.cell? ⟨w.heap.size, 0, none⟩ = some (.slice a2 y2.length cap2) := by rw [hW]; go_simp
  have HB : Hid (Below w.heap.size w W) := by rw [hW]; exact (Below.refl _ _).alloc (Nat.le_refl _) _
  have H1 := pseal_bad a0 a1 a2 y2.length cap2 W he (by omega)
  have HA := awake_any W
  have hd : (sealE a0 a1 y2.length == 0) = false := by simpa using he
  have hl : (y2.length : Int) ≤ 300 := by omega
  clear w0 w1 hb hn hc hm h
  generalize sealE a0 a1 y2.length = se at *
  generalize y2.length = n2 at *
  go_enter Try.func6, Try.ntmps6
  go_wp2_with fail
  rw [← hW]
  rw [hW] at c0
  refine H1.mono ?_
  rintro e w1 ⟨rfl, hw⟩
  obtain rfl := hw.symm
  clear H1 hW c0
  go_wp2_with (first | (go_at_call 8; refine HA.mono ?_; rintro e w2 ⟨rfl, hb2⟩; clear HA) | fail)
  go_ret
  exact ⟨rfl, HB.out.trans (hb2.mono HB.out.size)⟩
set_option maxHeartbeats 3200000 in
theorem walk_good (a0 : Int) (a1 : Int) (a2 : Option Addr) (len2 cap2 : Nat) (y2 : List Int) (x2 z2 : Int) (w : World) (w0 : (Lit.int .i64 a0).wf = true) (w1 : (Lit.int .i64 a1).wf = true) (w2 : (y2.length = len2 ∧ BV w a2 y2 ∧ (a2 = none → cap2 = 0) ∧ len2 ≤ cap2 ∧ cap2 ≤ 9223372036854775807) ∧ (0 ≤ x2 ∧ x2 ≤ 255) ∧ (0 ≤ z2 ∧ z2 ≤ 255)) (h : ¬ 300 < len2) (he : sealE a0 a1 len2 = 0) :
    Calls Try.prog 6 #[.int .i64 a0, .int .i64 a1, .agg #[.slice a2 len2 cap2, .int .u8 x2, .int .u8 z2]] w fun e w' => e = .returned (.bool true) ∧ Below w.heap.size w w' := by
  obtain ⟨⟨rfl, hb, hn, hc, hm⟩, ⟨x0, x1⟩, z0, z1⟩ := w2
  obtain ⟨x, rfl⟩ := Int.eq_ofNat_of_zero_le x0
  have hx : x ≤ 255 := by omega
  obtain ⟨W, hW⟩ : ∃ W, W = w.alloc (.cells #[.slice a2 y2.length cap2, .int .u8 x, .int .u8 z2] 46) := ⟨_, rfl⟩
  have HX : Hid (W.heap[w.heap.size]? = some (.cells #[.slice a2 y2.length cap2, .int .u8 x, .int .u8 z2] 46 (0, 0))) := by rw [hW]; exact heap_alloc_last _ _
  have HB : Hid (Below w.heap.size w W) := by rw [hW]; exact (Below.refl _ _).alloc (Nat.le_refl _) _
  have c0 : W.cell? ⟨w.heap.size, 0, none⟩ = some (.slice a2 y2.length cap2) := by rw [hW]; go_simp
  have H1 := pseal_good a0 a1 a2 cap2 y2 W he (hb.below HB.out) hn
  obtain ⟨q1, q2, q3, q4⟩ := op_seal he
  have hle := (sealE_zero he).2.2.2.2
  have hSL : (sealS a0 a1 y2).length = 256 := seal_len hle
  have HSA : Hid (AllB (sealS a0 a1 y2)) := sealS_all hb.1
  have HYA : Hid (AllB y2) := hb.1
  have H2 : Hid (∀ (W : World) (g c : Nat), BV W (some ⟨g, 0, none⟩) (sealS a0 a1 y2) → 256 ≤ c → Calls Try.prog 11 #[.slice (some ⟨g, 0, none⟩) 256 c] W fun e w' => ∃ v, e = .returned (.tuple #[.int .i64 a0, .int .i64 a1, v, .int .i64 0]) ∧ Own w' W.heap.size v y2 ∧ Below W.heap.size W w') := by
    intro W g c q5 q6
    have := popen_any (some ⟨g, 0, none⟩) c (sealS a0 a1 y2) W q5 (by intro h; cases h) (by omega) (by omega)
    rw [hSL] at this
    refine this.mono ?_
    rintro e w' ⟨v, rfl, r1, r2⟩
    rw [q4] at r1
    exact ⟨v, by rw [q1, q2, q3], r1, r2⟩
  have HT : Hid (∀ X : Int, 0 ≤ X → X ≤ 255 → X ≠ (sealS a0 a1 y2).getD x 0 → openE ((sealS a0 a1 y2).set x X) = 13) := by
    intro X r0 r1 r2
    exact turned (front_all hb.1) x (by rw [front_len hle]; omega) X r0 r1 r2
  have HCV : Hid (∀ W', Below w.heap.size w W' → (convert 22 9 (.slice a2 y2.length cap2)).run Try.prog W' = .ok (.string (strOfNums y2)) W') := fun W' hW' => conv_bv (hb.below hW') hn
  have HA := awake_any
  have hl : (y2.length : Int) ≤ 300 := by omega
  have HSL : Hid ((sealS a0 a1 y2).length = 256) := hSL
  clear w0 w1 hb hn hc hm h he q1 q2 q3 q4 hle hSL
  generalize sealS a0 a1 y2 = ss at *
  go_enter Try.func6, Try.ntmps6
  go_wp2_with fail
  rw [← hW]
  rw [hW] at c0
  refine H1.mono ?_
  rintro e w1 ⟨v1, rfl, o1, b1⟩
  obtain ⟨g, c, rfl, hc1, hg0, hg1⟩ := o1.shape 256 HSL.out (by decide)
  have B1 : Hid (Below w.heap.size w w1) := HB.out.trans (b1.mono HB.out.size)
  have X1 : Hid (w1.heap[w.heap.size]? = some (.cells #[.slice a2 y2.length cap2, .int .u8 x, .int .u8 z2] 46 (0, 0))) := (b1.block w.heap.size (Array.getElem?_eq_some_iff.1 HX.out).1).trans HX.out
  have O1 : Hid (Own w1 W.heap.size (.slice (some ⟨g, 0, none⟩) 256 c) ss) := o1
  have HWS : Hid (w.heap.size < W.heap.size) := (Array.getElem?_eq_some_iff.1 HX.out).1
  clear H1 o1 b1 c0 hW HX
  go_wp2_with fail
  refine (H2.out w1 g c (O1.out.bv HSA.out) hc1).mono ?_
  rintro e w2 ⟨v2, rfl, o2, b2⟩
  have B2 : Hid (Below w.heap.size w w2) := B1.out.trans (b2.mono B1.out.size)
  have X2 : Hid (w2.heap[w.heap.size]? = some (.cells #[.slice a2 y2.length cap2, .int .u8 x, .int .u8 z2] 46 (0, 0))) := (b2.block w.heap.size (Array.getElem?_eq_some_iff.1 X1.out).1).trans X1.out
  have O2 : Hid (Own w2 W.heap.size (.slice (some ⟨g, 0, none⟩) 256 c) ss) := O1.out.below b2
  have c0 : w2.cell? ⟨w.heap.size, 0, none⟩ = some (.slice a2 y2.length cap2) := by rw [cell_of_row _ _ _ _ _ _ X2.out]; rfl
  have k1 := conv_own o2 HYA.out
  have k2 := HCV.out w2 B2.out
  generalize strOfNums y2 = sy at *
  generalize y2.length = n2 at *
  clear o2 b2 B1 X1 O1 HCV HYA H2
  go_wp2_with fail
  clear k1 k2 c0
  have c1 : w2.cell? ⟨w.heap.size, 1, none⟩ = some (.int .u8 x) := by rw [cell_of_row _ _ _ _ _ _ X2.out]; rfl
  have c2 : w2.cell? ⟨w.heap.size, 2, none⟩ = some (.int .u8 z2) := by rw [cell_of_row _ _ _ _ _ _ X2.out]; rfl
  obtain ⟨Z, hZ⟩ : ∃ Z, Z = ss.getD x 0 := ⟨_, rfl⟩
  have ho4 : w2.ownsRow W.heap.size 5 1 (.slice (some ⟨g, 0, none⟩) 256 c) 256 (ss.map (Value.int .u8)) := by
    have h := O2.out
    unfold Own at h
    rwa [HSL.out] at h
  have fz := ho4.frozenAt x
  have cz : w2.cell? ⟨g, x, none⟩ = some (.int .u8 Z) := by
    have hlt : x < ss.length := by have := HSL.out; omega
    have hc := ho4.cellAt x (by omega)
    rw [hc, List.getElem?_map, List.getElem?_eq_getElem hlt, hZ, List.getD_eq_getElem?_getD, List.getElem?_eq_getElem hlt]
    rfl
  have hZb := byte_at HSA.out x
  rw [← hZ] at hZb
  obtain ⟨y, hy, hy1, hy2⟩ : ∃ y : Int, 1 + z2 % 255 = y ∧ 1 ≤ y ∧ y ≤ 255 := ⟨_, rfl, by omega, by omega⟩
  have hX := u8_turn Z y hZb.1 hZb.2 (by omega) hy2
  obtain ⟨hx0, hx1, hx2⟩ := turn_bounds Z y hZb.1 hZb.2 hy1 hy2
  generalize ((Z.toNat ^^^ y.toNat : Nat) : Int) = X at *
  have HO : Hid (Own (w2.drew.setCell ⟨g, x, none⟩ (.int .u8 X)) W.heap.size (.slice (some ⟨g, 0, none⟩) 256 c) (ss.set x X)) := by
    have ho5 : w2.drew.ownsRow W.heap.size 5 1 (.slice (some ⟨g, 0, none⟩) 256 c) 256 (ss.map (Value.int .u8)) := ho4
    have hst := ho5.stored x (.int .u8 X)
    show Own _ _ _ _
    unfold Own
    rw [List.length_set, HSL.out, List.map_set]
    exact hst.1
  have HTX : Hid (openE (ss.set x X) = 13) := HT.out X hx0 hx1 (by rw [← hZ]; exact hx2)
  have HALL : Hid (AllB (ss.set x X)) := by
    intro u hu
    rcases List.mem_or_eq_of_mem_set hu with h' | rfl
    · exact HSA.out u h'
    · exact ⟨hx0, hx1⟩
  have HB3 : Hid (Below w.heap.size w (w2.drew.setCell ⟨g, x, none⟩ (.int .u8 X))) := B2.out.drew.setCell (show w.heap.size ≤ (⟨g, x, none⟩ : Addr).block from Nat.le_trans (Nat.le_of_lt HWS.out) hg0) _
  have H5 : Hid (Calls Try.prog 11 #[.slice (some ⟨g, 0, none⟩) 256 c] (w2.drew.setCell ⟨g, x, none⟩ (.int .u8 X)) fun e w' => e = .returned (.tuple #[.int .i64 0, .int .i64 0, .slice none 0 0, .int .i64 13]) ∧ Below w.heap.size w w') := by
    have hl2 : (ss.set x X).length = 256 := by rw [List.length_set]; exact HSL.out
    have hng : ¬ Good (ss.set x X) := by
      intro hg
      have := HTX.out
      unfold openE at this
      rw [if_neg (by omega), if_pos hg] at this
      cases this
    refine (popen_sum (some ⟨g, 0, none⟩) c (ss.set x X) _ (HO.out.bv HALL.out) hl2 (by rw [hl2]; exact hc1) hng).mono ?_
    rintro e w' ⟨rfl, hbl⟩
    exact ⟨rfl, HB3.out.trans (hbl.mono HB3.out.size)⟩
  have t1 : Int.tmod z2 255 = z2 % 255 := Int.tmod_eq_emod_of_nonneg z0
  have u1 : IntKind.u8.wrap (z2 % 255) = z2 % 255 := by show (z2 % 255) % 256 = z2 % 255; omega
  have u2 : IntKind.u8.wrap (1 + z2 % 255) = y := by show (1 + z2 % 255) % 256 = y; omega
  have u4 : IntKind.u8.wrap y = y := by show y % 256 = y; omega
  have hx6 : (x : Int) < 256 := by omega
  have u3 : IntKind.u8.wrap X = X := by show X % 256 = X; omega
  clear hZ ho4 HO HTX HALL HSA HSL HT O2 X2 hx2 HB3 B2
  go_wp2_with fail
  refine wp_region_still_tail 14 (by kernel_rfl) (by kernel_rfl) ?_
  simp only [List.take_succ_cons, List.take_zero, List.drop_succ_cons, List.drop_zero]
  iterate 14 still_step
  refine wpStill_nil ?_
  go_wp2_with fail
  refine H5.out.mono ?_
  rintro e w3 ⟨rfl, hb3⟩
  have HA3 := HA w3
  clear H5 HA
  go_wp2_with (first | (go_at_call 8; refine HA3.mono ?_; rintro e w4 ⟨rfl, hb4⟩; clear HA3) | fail)
  go_ret
  exact ⟨rfl, hb3.trans (hb4.mono hb3.size)⟩
theorem walk (a0 : Int) (a1 : Int) (a2 : Option Addr) (len2 cap2 : Nat) (y2 : List Int) (x2 z2 : Int) (w : World) (w0 : (Lit.int .i64 a0).wf = true) (w1 : (Lit.int .i64 a1).wf = true) (w2 : (y2.length = len2 ∧ BV w a2 y2 ∧ (a2 = none → cap2 = 0) ∧ len2 ≤ cap2 ∧ cap2 ≤ 9223372036854775807) ∧ (0 ≤ x2 ∧ x2 ≤ 255) ∧ (0 ≤ z2 ∧ z2 ≤ 255)) :
    Calls Try.prog 6 #[.int .i64 a0, .int .i64 a1, .agg #[.slice a2 len2 cap2, .int .u8 x2, .int .u8 z2]] w fun e w' => e = .returned (.bool true) ∧ Below w.heap.size w w' := by
  by_cases h : 300 < len2
  · exact walk_long a0 a1 a2 len2 cap2 y2 x2 z2 w w0 w1 w2 h
  · by_cases he : sealE a0 a1 len2 = 0
    · exact walk_good a0 a1 a2 len2 cap2 y2 x2 z2 w w0 w1 w2 h he
    · exact walk_bad a0 a1 a2 len2 cap2 y2 x2 z2 w w0 w1 w2 h he
set_option maxRecDepth 100000 in
theorem lifted (os : Os) (started : os.Started) (H : Type) (enc : TypeId × Value → H) :
    ReturnsInHanded {} Try.checked os 6 .any (Rows.pageBackSpec.pre6 enc Try.prog Try.f6 Rows.pageBackRow.domain false) (Rows.pageBackSpec.post enc Try.prog Try.f6 false true false false) := by
  refine returnsInHanded_of_change (C := Try.checked) own started (by kernel_rfl) Try.func6
    (ChangeSpec.witness6 (enc := enc) (C := Try.checked) false ⟨#[], #[.int .i64 0, .int .i64 0, .agg #[.slice none 0 0, .int .u8 0, .int .u8 0]], []⟩ 8 (by kernel_rfl) (by kernel_rfl) (by kernel_rfl) (by kernel_rfl)) ?_
  intro W base args ds gs before hval0 hW hcnd _
  have hval : ∀ (j : Nat) t v, Try.f6.params[j]? = some t → args[j]? = some v → Value.okWide Try.prog W .any base t v := hval0
  have hW' := hW
  obtain ⟨p, q, hA0, hV, rfl, hfz, hnd⟩ := hW
  have hA : DataW.TrodAll enc Try.prog W 0 (fun _ => true) true Try.f6.params.toList args.toList ds p := hA0
  rw [Try.params6] at hA hval
  obtain ⟨v0, vs0, d0, ds0, p0, q0, hargs, rfl, rfl, h0, r0⟩ := trodAll_cons hA
  obtain ⟨v1, vs1, d1, ds1, p1, q1, rfl, rfl, rfl, h1, r1⟩ := trodAll_cons r0
  obtain ⟨v2, vs2, d2, ds2, p2, q2, rfl, rfl, rfl, h2, r2⟩ := trodAll_cons r1
  obtain ⟨rfl, rfl, rfl⟩ := trodAll_nil r2
  obtain rfl : args = #[v0, v1, v2] := by cases args; simp_all
  obtain ⟨rfl, rfl⟩ := trodVars_none hV
  obtain ⟨a0, rfl, rfl, rfl, w0⟩ := open_int Try.underlying3 (hval 0 3 v0 rfl rfl) h0
  obtain ⟨a1, rfl, rfl, rfl, w1⟩ := open_int Try.underlying3 (hval 1 3 v1 rfl rfl) h1
  have k2 := h2
  have lt2 : ∀ x ∈ p2, x.block < W.heap.size := by obtain ⟨m, hm⟩ := k2; exact DataW.trod_lt m _ _ _ hm
  obtain ⟨a2, len2, cap2, y2, x2, z2, rfl, w2⟩ := open_turn (hval 2 46 v2 rfl rfl) h2
  clear hA0 hval0
  refine (walk a0 a1 a2 len2 cap2 y2 x2 z2 W w0 w1 w2).mono fun e W' ⟨he, bel⟩ => ?_
  subst he
  exact ⟨_, rfl, _, _, _, [], _, [], hW', trodAll_mk1 (shut_bool Try.underlying4 _), (trodAll_cons_mk (shut_int Try.underlying3 w0) (trodAll_cons_mk (shut_int Try.underlying3 w1) (trodAll_cons_mk (Below.trod laidOut (by kernel_rfl) (of_decide_eq_true (by kernel_rfl)) k2 bel lt2) trodAll_mk0))), rfl, bel.frame _, fun h => by cases h⟩

theorem over : Rows.pageBackRow.holds Try.pinned (OpenSpec.ofChange Rows.pageBackSpec) :=
  OpenClaim.holds_of_wide 6 Try.f6 rfl rfl rfl rfl rfl rfl rfl ⟨rfl, rfl, rfl, rfl, rfl⟩ rfl rfl rfl rfl rfl (by kernel_rfl) Try.func6 (by kernel_rfl)
    (of_decide_eq_true (by kernel_rfl)) (by unfold Func.isWrapper; first | (rw [if_pos (by decide +kernel)]; kernel_rfl) | (rw [if_neg (by decide +kernel)]; exact ⟨rfl, rfl⟩))
    (fun os started H enc _ => lifted os started H enc)
end Go.Proofs.Ytcegahmjegjckaa.pageBack

namespace Go.Proofs.Ytcegahmjegjckaa
theorem pageBack_holds : Rows.PageBackSaid := pageBack.over
#print axioms pageBack_holds
end Go.Proofs.Ytcegahmjegjckaa
