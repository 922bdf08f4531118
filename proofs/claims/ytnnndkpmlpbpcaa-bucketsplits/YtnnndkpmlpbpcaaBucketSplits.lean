/- For all pairs, every place and every pair the call BucketSplits of the statements returns true and its arguments read as they did: no condition. -/
import Derived.Test.YtnnndkpmlpbpcaaRows
import Derived.Test.YtnnndkpmlpbpcaaArg
import Derived.Test.YtnnndkpmlpbpcaaSp
import Derived.WalkKit
import Derived.ProofKit
import Derived.OpenShut
import Derived.ShutString
import Derived.ChangeOld
import Derived.Below
namespace Go.Proofs.Ytnnndkpmlpbpcaa.bucketSplits
open Go.ChangeShapes Go.WideShapes Go.ChangeAt Go.RowKit
set_option linter.unusedVariables false
set_option linter.unusedSimpArgs false
set_option maxRecDepth 20000

theorem own : ownKnob Try.prog.godebug = none := by kernel_rfl
theorem laidOut : laidOutB Try.prog = true := by kernel_rfl
theorem filter_le0 (q : PR → Bool) (ps : List PR) : (ps.filter q).length ≤ ps.length := List.length_filter_le _ _
set_option maxHeartbeats 2000000 in
theorem walk_dark (a0 : Option Addr) (len0 cap0 : Nat) (y0 : List PR) (a1 : Int) (p2 : PR) (w : World) (w0 : Prs w a0 len0 cap0 y0) (w1 : (Lit.int .i64 a1).wf = true) (w2 : p2.1.size ≤ maxLen ∧ p2.2.size ≤ maxLen) (hl : lightB y0 100 = false) :
    Calls Try.prog 5 #[.slice a0 len0 cap0, .int .i64 a1, pv p2] w fun e w' => e = .returned (.bool true) ∧ Below w.heap.size w w' := by
  obtain ⟨rfl, hp, hn, hcl, hcap, _, _⟩ := w0
  obtain ⟨pk, pw⟩ := p2
  obtain ⟨W0, hW0⟩ : ∃ W0, W0 = (w.alloc (.cells #[.string pk, .string pw] 45)) := ⟨_, rfl⟩
  have HB0 : Hid (Below w.heap.size w W0) := by rw [hW0]; exact one_block _ _
  have CL : Hid (∀ W, Below W0.heap.size W0 W → W.cell? ⟨w.heap.size, 0, none⟩ = some (.string pk) ∧ W.cell? ⟨w.heap.size, 1, none⟩ = some (.string pw)) := fun W hW => by
    rw [hW0] at hW
    exact ⟨(hW.cell (p := ⟨w.heap.size, 0, none⟩) (by simp)).trans (by go_simp), (hW.cell (p := ⟨w.heap.size, 1, none⟩) (by simp)).trans (by go_simp)⟩
  have HW0 : Hid (W0 = (w.alloc (.cells #[.string pk, .string pw] 45))) := hW0
  have LT : Hid (Calls Try.prog 8 #[.slice a0 y0.length cap0, .int .i64 100] W0 fun e w' => e = .returned (.bool (lightB y0 100)) ∧ Below W0.heap.size W0 w') := light_any a0 cap0 100 y0 W0 (hp.below HB0.out) (by decide)
  have LP : Hid (∀ W, Calls Try.prog 8 #[.slice (some ⟨W.heap.size, 0, none⟩) 1 1, .int .i64 1] (W.alloc (.cells #[.string pk, .string pw] 45)) fun e w' => e = .returned (.bool (lightB [(pk, pw)] 1)) ∧ Below W.heap.size W w') := fun W => by
    refine (light_any (some ⟨W.heap.size, 0, none⟩) 1 1 [(pk, pw)] _ (pv_lit W (pk, pw)) (by decide)).mono ?_
    rintro e w' ⟨rfl, h⟩
    exact ⟨rfl, bt (one_block _ _) h⟩
  rw [hl] at LT
  unfold pv
  clear hW0 hp
  go_enter Try.func5, Try.ntmps5
  go_wp2_with (first | (go_at_call 8; rw [← HW0.out]; refine LT.out.mono ?_; rintro e w1 ⟨rfl, hb1⟩; clear LT; obtain ⟨x0, x1⟩ := CL.out _ hb1) | (go_at_call 9; refine (awake_any _).mono ?_; rintro e w9 ⟨rfl, hb9⟩))
  go_ret
  exact ⟨rfl, bt HB0.out (bt hb1 hb9)⟩
set_option maxHeartbeats 2000000 in
theorem walk_dim (a0 : Option Addr) (len0 cap0 : Nat) (y0 : List PR) (a1 : Int) (p2 : PR) (w : World) (w0 : Prs w a0 len0 cap0 y0) (w1 : (Lit.int .i64 a1).wf = true) (w2 : p2.1.size ≤ maxLen ∧ p2.2.size ≤ maxLen) (hl : lightB y0 100 = true) (hq : lightB [p2] 1 = false) :
    Calls Try.prog 5 #[.slice a0 len0 cap0, .int .i64 a1, pv p2] w fun e w' => e = .returned (.bool true) ∧ Below w.heap.size w w' := by
  obtain ⟨rfl, hp, hn, hcl, hcap, _, _⟩ := w0
  obtain ⟨pk, pw⟩ := p2
  obtain ⟨W0, hW0⟩ : ∃ W0, W0 = (w.alloc (.cells #[.string pk, .string pw] 45)) := ⟨_, rfl⟩
  have HB0 : Hid (Below w.heap.size w W0) := by rw [hW0]; exact one_block _ _
  have CL : Hid (∀ W, Below W0.heap.size W0 W → W.cell? ⟨w.heap.size, 0, none⟩ = some (.string pk) ∧ W.cell? ⟨w.heap.size, 1, none⟩ = some (.string pw)) := fun W hW => by
    rw [hW0] at hW
    exact ⟨(hW.cell (p := ⟨w.heap.size, 0, none⟩) (by simp)).trans (by go_simp), (hW.cell (p := ⟨w.heap.size, 1, none⟩) (by simp)).trans (by go_simp)⟩
  have HW0 : Hid (W0 = (w.alloc (.cells #[.string pk, .string pw] 45))) := hW0
  have LT : Hid (Calls Try.prog 8 #[.slice a0 y0.length cap0, .int .i64 100] W0 fun e w' => e = .returned (.bool (lightB y0 100)) ∧ Below W0.heap.size W0 w') := light_any a0 cap0 100 y0 W0 (hp.below HB0.out) (by decide)
  have LP : Hid (∀ W, Calls Try.prog 8 #[.slice (some ⟨W.heap.size, 0, none⟩) 1 1, .int .i64 1] (W.alloc (.cells #[.string pk, .string pw] 45)) fun e w' => e = .returned (.bool (lightB [(pk, pw)] 1)) ∧ Below W.heap.size W w') := fun W => by
    refine (light_any (some ⟨W.heap.size, 0, none⟩) 1 1 [(pk, pw)] _ (pv_lit W (pk, pw)) (by decide)).mono ?_
    rintro e w' ⟨rfl, h⟩
    exact ⟨rfl, bt (one_block _ _) h⟩
  rw [hl] at LT
  rw [hq] at LP
  unfold pv
  clear hW0 hp
  go_enter Try.func5, Try.ntmps5
  go_wp2_with (first | (go_at_call 8; rw [← HW0.out]; refine LT.out.mono ?_; rintro e w1 ⟨rfl, hb1⟩; clear LT; obtain ⟨x0, x1⟩ := CL.out _ hb1) | (go_at_call 8; refine (LP.out _).mono ?_; rintro e w2 ⟨rfl, hb2⟩; clear LP) | (go_at_call 9; refine (awake_any _).mono ?_; rintro e w9 ⟨rfl, hb9⟩))
  go_ret
  exact ⟨rfl, bt HB0.out (bt (bt hb1 hb2) hb9)⟩
set_option maxHeartbeats 8000000 in
theorem walk_light (a0 : Option Addr) (len0 cap0 : Nat) (y0 : List PR) (a1 : Int) (p2 : PR) (w : World) (w0 : Prs w a0 len0 cap0 y0) (w1 : (Lit.int .i64 a1).wf = true) (w2 : p2.1.size ≤ maxLen ∧ p2.2.size ≤ maxLen) (hl : lightB y0 100 = true) (hq : lightB [p2] 1 = true) :
    Calls Try.prog 5 #[.slice a0 len0 cap0, .int .i64 a1, pv p2] w fun e w' => e = .returned (.bool true) ∧ Below w.heap.size w w' := by
  obtain ⟨rfl, hp, hn, hcl, hcap, _, _⟩ := w0
  obtain ⟨pk, pw⟩ := p2
  obtain ⟨W0, hW0⟩ : ∃ W0, W0 = (w.alloc (.cells #[.string pk, .string pw] 45)) := ⟨_, rfl⟩
  have HB0 : Hid (Below w.heap.size w W0) := by rw [hW0]; exact one_block _ _
  have CL : Hid (∀ W, Below W0.heap.size W0 W → W.cell? ⟨w.heap.size, 0, none⟩ = some (.string pk) ∧ W.cell? ⟨w.heap.size, 1, none⟩ = some (.string pw)) := fun W hW => by
    rw [hW0] at hW
    exact ⟨(hW.cell (p := ⟨w.heap.size, 0, none⟩) (by simp)).trans (by go_simp), (hW.cell (p := ⟨w.heap.size, 1, none⟩) (by simp)).trans (by go_simp)⟩
  have HW0 : Hid (W0 = (w.alloc (.cells #[.string pk, .string pw] 45))) := hW0
  have LT : Hid (Calls Try.prog 8 #[.slice a0 y0.length cap0, .int .i64 100] W0 fun e w' => e = .returned (.bool (lightB y0 100)) ∧ Below W0.heap.size W0 w') := light_any a0 cap0 100 y0 W0 (hp.below HB0.out) (by decide)
  have LP : Hid (∀ W, Calls Try.prog 8 #[.slice (some ⟨W.heap.size, 0, none⟩) 1 1, .int .i64 1] (W.alloc (.cells #[.string pk, .string pw] 45)) fun e w' => e = .returned (.bool (lightB [(pk, pw)] 1)) ∧ Below W.heap.size W w') := fun W => by
    refine (light_any (some ⟨W.heap.size, 0, none⟩) 1 1 [(pk, pw)] _ (pv_lit W (pk, pw)) (by decide)).mono ?_
    rintro e w' ⟨rfl, h⟩
    exact ⟨rfl, bt (one_block _ _) h⟩
  rw [hl] at LT
  rw [hq] at LP
  obtain ⟨hlen, hL⟩ := light_of hl
  have hat := bounds_i64 w1
  have SP : Hid (∀ W, Below W0.heap.size W0 W → Calls Try.prog 28 #[.slice a0 y0.length cap0, .int .i64 a1] W fun e w' => ∃ a8 c8 a9 c9, e = .returned (.tuple #[.slice a8 (y0.filter (bitB 0 a1)).length c8, .slice a9 (y0.filter (bitB 1 a1)).length c9]) ∧ PV w' a8 (y0.filter (bitB 0 a1)) ∧ PV w' a9 (y0.filter (bitB 1 a1)) ∧ Below W.heap.size W w') := fun W hW => by
    refine (split_any a0 cap0 y0 a1 W ((hp.below HB0.out).below hW) (by omega) hL hcl hcap (by omega) (by omega)).mono ?_
    rintro e w' ⟨v1, v2, rfl, h1, h2, h3⟩
    obtain ⟨a8, c8, rfl, _, q1, _⟩ := h1.view
    obtain ⟨a9, c9, rfl, _, q2, _⟩ := h2.view
    exact ⟨a8, c8, a9, c9, rfl, q1, q2, h3⟩
  have RS : Hid (∀ W, Below W0.heap.size W0 W → Calls Try.prog 29 #[.slice a0 y0.length cap0, .int .i64 a1] W fun e w' => ∃ a8 c8 a9 c9, e = .returned (.tuple #[.slice a8 (y0.filter (bitB 0 a1)).length c8, .slice a9 (y0.filter (bitB 1 a1)).length c9]) ∧ PV w' a8 (y0.filter (bitB 0 a1)) ∧ PV w' a9 (y0.filter (bitB 1 a1)) ∧ Below W.heap.size W w') := fun W hW => by
    refine (rsplit_any a0 cap0 y0 a1 W ((hp.below HB0.out).below hW) (by omega) hL (by omega) (by omega)).mono ?_
    rintro e w' ⟨v1, v2, rfl, h1, h2, h3⟩
    obtain ⟨a8, c8, rfl, _, q1, _⟩ := h1.view
    obtain ⟨a9, c9, rfl, _, q2, _⟩ := h2.view
    exact ⟨a8, c8, a9, c9, rfl, q1, q2, h3⟩
  have hf0 := filter_le0 (bitB 0 a1) y0
  have hf1 := filter_le0 (bitB 1 a1) y0
  generalize y0.filter (bitB 0 a1) = f0 at *
  generalize y0.filter (bitB 1 a1) = f1 at *
  have SA : Hid (∀ W (fs : List PR) a8 c8 a9 c9, fs.length ≤ y0.length → PV W a8 fs → PV W a9 fs → Calls Try.prog 27 #[.slice a8 fs.length c8, .slice a9 fs.length c9] W fun e w' => e = .returned (.bool true) ∧ Below W.heap.size W w') := fun W fs a8 c8 a9 c9 hfl h1 h2 => by
    have := spairs_any a8 a9 c8 c9 fs fs W h1 h2 (by omega) (by omega)
    rw [show decide (fs = fs) = true by simp] at this
    exact this
  unfold pv
  clear hW0
  go_enter Try.func5, Try.ntmps5
  go_wp2_with (first | (go_at_call 8; rw [← HW0.out]; refine LT.out.mono ?_; rintro e w1 ⟨rfl, hb1⟩; clear LT; obtain ⟨x0, x1⟩ := CL.out _ hb1) | (go_at_call 8; refine (LP.out _).mono ?_; rintro e w2 ⟨rfl, hb2⟩; clear LP) | (go_at_call 28; refine (SP.out _ (bt hb1 hb2)).mono ?_; rintro e w3 ⟨a3, c3, a4, c4, rfl, pv3, pv4, hb3⟩; clear SP) | (go_at_call 29; refine (RS.out _ (bt (bt hb1 hb2) hb3)).mono ?_; rintro e w4 ⟨a5, c5, a6, c6, rfl, pv5, pv6, hb4⟩; clear RS))
  have HB4 : Hid (Below W0.heap.size W0 w4) := bt (bt (bt hb1 hb2) hb3) hb4
  have Q3 : Hid (PV w4 a3 f0) := pv3.below hb4
  have Q4 : Hid (PV w4 a4 f1) := pv4.below hb4
  have Q5 : Hid (PV w4 a5 f0) := pv5
  have Q6 : Hid (PV w4 a6 f1) := pv6
  clear hb1 hb2 hb3 hb4 pv3 pv4 pv5 pv6 x0 x1
  go_loopw [11] (fun i wr => ∃ k : Nat, k ≤ y0.length ∧ i = .int .i64 k ∧ Hid (Below w4.heap.size w4 wr)) (fun i _ => y0.length - (intOf i).toNat)
  case atStart => exact ⟨0, Nat.zero_le _, rfl, Below.refl _ _⟩
  case round =>
    obtain ⟨k, hk, rfl, HB⟩ := hrel
    by_cases hlt : k < y0.length
    · obtain h0 | ⟨b, off, rfl, hbl, hc⟩ := ((hp.below HB0.out).below HB4.out).below HB.out
      · subst h0; simp at hlt
      obtain ⟨c0, c1⟩ := hc k hlt
      have hlt2 : (k : Int) < (y0.length : Int) := by omega
      have SL : Hid (∀ W, Below wr.heap.size wr W → W.cell? ⟨b, off + k * 2, none⟩ = some (.string (y0.getD k default).1) ∧ W.cell? ⟨b, off + k * 2 + 1, none⟩ = some (.string (y0.getD k default).2) ∧ W.cell? ⟨w.heap.size, 0, none⟩ = some (.string pk) ∧ W.cell? ⟨w.heap.size, 1, none⟩ = some (.string pw)) := fun W hW =>
        ⟨(hW.cell (p := ⟨b, off + k * 2, none⟩) hbl).trans c0, (hW.cell (p := ⟨b, off + k * 2 + 1, none⟩) hbl).trans c1, (CL.out _ (bt HB4.out (bt HB.out hW))).1, (CL.out _ (bt HB4.out (bt HB.out hW))).2⟩
      have L1 : Hid (∀ W, Calls Try.prog 30 #[pv (y0.getD k default), pv (pk, pw)] W fun e w' => e = .returned (.bool (lessP (y0.getD k default) (pk, pw))) ∧ Below W.heap.size W w') := fun W => less_any _ _ W
      have L2 : Hid (∀ W, Calls Try.prog 31 #[pv (y0.getD k default), pv (pk, pw)] W fun e w' => e = .returned (.bool (lessP (y0.getD k default) (pk, pw))) ∧ Below W.heap.size W w') := fun W => rless_any _ _ W
      have L3 : Hid (∀ W, Calls Try.prog 30 #[pv (pk, pw), pv (y0.getD k default)] W fun e w' => e = .returned (.bool (lessP (pk, pw) (y0.getD k default))) ∧ Below W.heap.size W w') := fun W => less_any _ _ W
      have L4 : Hid (∀ W, Calls Try.prog 31 #[pv (pk, pw), pv (y0.getD k default)] W fun e w' => e = .returned (.bool (lessP (pk, pw) (y0.getD k default))) ∧ Below W.heap.size W w') := fun W => rless_any _ _ W
      unfold pv at L1 L2 L3 L4
      clear hc
      generalize lessP (y0.getD k default) (pk, pw) = r1 at *
      generalize lessP (pk, pw) (y0.getD k default) = r2 at *
      generalize (y0.getD k default).1 = sk at *
      generalize (y0.getD k default).2 = sv at *
      go_wp2_with fail
      go_region_held3 (fun W => W.cell? ⟨b, off + k * 2, none⟩ = some (.string sk) ∧ W.cell? ⟨b, off + k * 2 + 1, none⟩ = some (.string sv) ∧ W.cell? ⟨w.heap.size, 0, none⟩ = some (.string pk) ∧ W.cell? ⟨w.heap.size, 1, none⟩ = some (.string pw)) (first | exact SL.out _ (Below.refl _ _).drew | exact SL.out _ (Below.trans (Below.refl _ _).drew h5) | exact SL.out _ (bt (Below.trans (Below.refl _ _).drew h5) h6) | exact SL.out _ (bt (bt (Below.trans (Below.refl _ _).drew h5) h6) h7) | exact SL.out _ (bt (bt (bt (Below.trans (Below.refl _ _).drew h5) h6) h7) h8)) (first | (go_at_call 30; refine (L1.out _).mono ?_; rintro e z5 ⟨rfl, h5⟩; clear L1) | (go_at_call 31; refine (L2.out _).mono ?_; rintro e z6 ⟨rfl, h6⟩; clear L2) | (go_at_call 30; refine (L3.out _).mono ?_; rintro e z7 ⟨rfl, h7⟩; clear L3) | (go_at_call 31; refine (L4.out _).mono ?_; rintro e z8 ⟨rfl, h8⟩; clear L4))
      go_wp2
      go_roundw
      case rel => exact ⟨k + 1, by omega, by go_num, bt HB.out (bt (bt (bt (Below.trans (Below.refl _ _).drew h5) h6) h7) h8)⟩
      case measure => simp [intOf]; omega
    · have e1 : k = y0.length := by omega
      subst e1
      have hxx : ¬ ((y0.length : Int) < (y0.length : Int)) := by omega
      have S1 := SA.out wr f0 a3 c3 a5 c5 hf0 (Q3.out.below HB.out) (Q5.out.below HB.out)
      go_wp2_with (first | (go_at_call 27; refine S1.mono ?_; rintro e z1 ⟨rfl, h1⟩; clear S1) | (go_at_call 27; refine (SA.out _ f1 a4 c4 a6 c6 hf1 ((Q4.out.below HB.out).below h1) ((Q6.out.below HB.out).below h1)).mono ?_; rintro e z2 ⟨rfl, h2⟩) | (go_at_call 9; refine (awake_any _).mono ?_; rintro e w9 ⟨rfl, hb9⟩))
      go_ret
      exact ⟨rfl, bt HB0.out (bt HB4.out (bt (bt (bt HB.out h1) h2) hb9))⟩
theorem walk (a0 : Option Addr) (len0 cap0 : Nat) (y0 : List PR) (a1 : Int) (p2 : PR) (w : World) (w0 : Prs w a0 len0 cap0 y0) (w1 : (Lit.int .i64 a1).wf = true) (w2 : p2.1.size ≤ maxLen ∧ p2.2.size ≤ maxLen) :
    Calls Try.prog 5 #[.slice a0 len0 cap0, .int .i64 a1, pv p2] w fun e w' => e = .returned (.bool true) ∧ Below w.heap.size w w' := by
  cases hl : lightB y0 100
  · exact walk_dark a0 len0 cap0 y0 a1 p2 w w0 w1 w2 hl
  · cases hq : lightB [p2] 1
    · exact walk_dim a0 len0 cap0 y0 a1 p2 w w0 w1 w2 hl hq
    · exact walk_light a0 len0 cap0 y0 a1 p2 w w0 w1 w2 hl hq
set_option maxRecDepth 100000 in
theorem lifted (os : Os) (started : os.Started) (H : Type) (enc : TypeId × Value → H) :
    ReturnsInHanded {} Try.checked os 5 .any (Rows.bucketSplitsSpec.pre6 enc Try.prog Try.f5 Rows.bucketSplitsRow.domain false) (Rows.bucketSplitsSpec.post enc Try.prog Try.f5 false true false false) := by
  refine returnsInHanded_of_change (C := Try.checked) own started (by kernel_rfl) Try.func5
    (ChangeSpec.witness6 (enc := enc) (C := Try.checked) false ⟨#[], #[.slice none 0 0, .int .i64 0, .agg #[.string ByteArray.empty, .string ByteArray.empty]], []⟩ 8 (by kernel_rfl) (by kernel_rfl) (by kernel_rfl) (by kernel_rfl)) ?_
  intro W base args ds gs before hval0 hW hcnd _
  have hval : ∀ (j : Nat) t v, Try.f5.params[j]? = some t → args[j]? = some v → Value.okWide Try.prog W .any base t v := hval0
  have hW' := hW
  obtain ⟨p, q, hA0, hV, rfl, hfz, hnd⟩ := hW
  have hA : DataW.TrodAll enc Try.prog W 0 (fun _ => true) true Try.f5.params.toList args.toList ds p := hA0
  rw [Try.params5] at hA hval
  obtain ⟨v0, vs0, d'0, ds0, q0, r'0, hargs, rfl, rfl, h0, r0⟩ := trodAll_cons hA
  obtain ⟨v1, vs1, d'1, ds1, q1, r'1, rfl, rfl, rfl, h1, r1⟩ := trodAll_cons r0
  obtain ⟨v2, vs2, d'2, ds2, q2, r'2, rfl, rfl, rfl, h2, r2⟩ := trodAll_cons r1
  obtain ⟨rfl, rfl, rfl⟩ := trodAll_nil r2
  obtain rfl : args = #[v0, v1, v2] := by cases args; simp_all
  obtain ⟨rfl, rfl⟩ := trodVars_none hV
  obtain ⟨a0, len0, cap0, rfl⟩ := okWide_slice Try.underlying22 (hval 0 22 v0 rfl rfl)
  have k0 := h0
  have lt0 : ∀ x ∈ q0, x.block < W.heap.size := by obtain ⟨m, hm⟩ := k0; exact DataW.trod_lt m _ _ _ hm
  obtain ⟨y0, w0⟩ : ∃ ps, Prs W a0 len0 cap0 ps := by
    obtain ⟨fuel, hf⟩ := h0
    exact open_pairs hf
  obtain ⟨a1, rfl, rfl, rfl, w1⟩ := open_int Try.underlying3 (hval 1 3 v1 rfl rfl) h1
  have k2 := h2
  have lt2 : ∀ x ∈ q2, x.block < W.heap.size := by obtain ⟨m, hm⟩ := k2; exact DataW.trod_lt m _ _ _ hm
  obtain ⟨p2, rfl, w2⟩ := open_p (hval 2 45 v2 rfl rfl) h2
  clear hA0 hval0
  refine (walk a0 len0 cap0 y0 a1 p2 W w0 w1 w2).mono fun e W' ⟨he, bel⟩ => ?_
  subst he
  exact ⟨_, rfl, _, _, _, [], _, [], hW', trodAll_mk1 (shut_bool Try.underlying4 _), (trodAll_cons_mk (Below.trod laidOut (by kernel_rfl) (of_decide_eq_true (by kernel_rfl)) k0 bel lt0) (trodAll_cons_mk (shut_int Try.underlying3 w1) (trodAll_cons_mk (Below.trod laidOut (by kernel_rfl) (of_decide_eq_true (by kernel_rfl)) k2 bel lt2) trodAll_mk0))), rfl, bel.frame _, fun h => by cases h⟩

theorem over : Rows.bucketSplitsRow.holds Try.pinned (OpenSpec.ofChange Rows.bucketSplitsSpec) :=
  OpenClaim.holds_of_wide 5 Try.f5 rfl rfl rfl rfl rfl rfl rfl ⟨rfl, rfl, rfl, rfl, rfl⟩ rfl rfl rfl rfl rfl (by kernel_rfl) Try.func5 (by kernel_rfl)
    (of_decide_eq_true (by kernel_rfl)) (by unfold Func.isWrapper; first | (rw [if_pos (by decide +kernel)]; kernel_rfl) | (rw [if_neg (by decide +kernel)]; exact ⟨rfl, rfl⟩))
    (fun os started H enc _ => lifted os started H enc)
end Go.Proofs.Ytnnndkpmlpbpcaa.bucketSplits

namespace Go.Proofs.Ytnnndkpmlpbpcaa
theorem bucketSplits_holds : Rows.BucketSplitsSaid := bucketSplits.over
#print axioms bucketSplits_holds
end Go.Proofs.Ytnnndkpmlpbpcaa
