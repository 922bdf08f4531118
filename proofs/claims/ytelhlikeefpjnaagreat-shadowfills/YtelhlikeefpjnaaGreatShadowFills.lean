/- For every number of blocks and every body the call ShadowFills of the statements returns true and its arguments read as they did: no condition. -/
import Derived.Test.YtelhlikeefpjnaaGreatM26
import Derived.Test.YtelhlikeefpjnaaGreatM27
import Derived.Test.YtelhlikeefpjnaaGreatM22
import Derived.Test.YtelhlikeefpjnaaGreatM21
import Derived.Test.YtelhlikeefpjnaaGreatRows
import Derived.WalkKit
import Derived.ProofKit
import Derived.OpenShut
import Derived.ShutString
import Derived.ChangeOld
import Derived.Below
namespace Go.Proofs.YtelhlikeefpjnaaGreat.shadowFills
open Go.ChangeShapes Go.WideShapes Go.ChangeAt Go.RowKit
set_option linter.unusedVariables false
set_option linter.unusedSimpArgs false
set_option maxRecDepth 20000

theorem own : ownKnob Tryz.prog.godebug = none := by kernel_rfl
theorem laidOut : laidOutB Tryz.prog = true := by kernel_rfl
set_option maxHeartbeats 800000 in
theorem walk_long (a0 : Int) (a1 : Option Addr) (len1 cap1 : Nat) (y1 : List Int) (w : World) (w0 : (Lit.int .u8 a0).wf = true) (w1 : y1.length = len1 ∧ BV w a1 y1 ∧ (a1 = none → cap1 = 0) ∧ len1 ≤ cap1 ∧ cap1 ≤ 9223372036854775807) (h : 246 < len1) :
    Calls Tryz.prog 7 #[.int .u8 a0, .slice a1 len1 cap1] w fun e w' => e = .returned (.bool true) ∧ Below w.heap.size w w' := by
  have HA := awake_any w
  clear w0 w1
  have h' : (246 : Int) < len1 := by omega
  go_enter Tryz.func7, Tryz.ntmps7
  go_wp2_with (first | (go_at_call 9; refine HA.mono ?_; rintro e w2 ⟨rfl, hb2⟩; clear HA) | fail)
  go_ret
  exact ⟨rfl, hb2⟩
set_option maxHeartbeats 3200000 in
theorem core (a0 : Int) (a1 : Option Addr) (cap1 : Nat) (y1 : List Int) (w : World) (n : Nat) (hn53 : n < 53) (hnv : Int.tmod a0 53 = n) (hu : 0 ≤ a0 ∧ a0 ≤ 255) (hle : (y1.length : Int) ≤ 246) (st : Nat → SS) (s0 s1 s2 s3 s4 : SS)
    (H30 : Hid (Calls Tryz.prog 30 #[.int .i64 ((n + 8 : Nat) : Int)] w fun e w' => ∃ dp nb mb, e = .returned (.pointer (some ⟨dp, 0, none⟩)) ∧ D.Dk w' dp nb mb (D.newS ((n + 8 : Nat) : Int)) ∧ w.heap.size ≤ dp ∧ w.heap.size ≤ nb ∧ w.heap.size ≤ mb ∧ Below w.heap.size w w'))
    (H16 : Hid (∀ w1 dp nb mb, (D.Dk w1 dp nb mb (D.newS ((n + 8 : Nat) : Int)) ∧ w.heap.size ≤ dp ∧ w.heap.size ≤ nb ∧ w.heap.size ≤ mb ∧ Below w.heap.size w w1) → Calls Tryz.prog 16 #[.pointer (some ⟨dp, 0, none⟩)] w1 fun e w' => ∃ p, e = .returned (.tuple #[.pointer (some ⟨p, 0, none⟩), .int .i64 0]) ∧ Qi w w' ⟨p, dp, nb, mb⟩ (st 0))) (HAL : Hid (∀ W p dp nb mb i, i < n + 5 → Qi w W ⟨p, dp, nb, mb⟩ (st i) → Calls Tryz.prog 17 #[.pointer (some ⟨p, 0, none⟩), .int .i64 5, .slice a1 y1.length cap1] W fun e w' => e = .returned (.tuple #[.int .i64 ((i + 1 : Nat) : Int), .int .i64 0]) ∧ Qi w w' ⟨p, dp, nb, mb⟩ (st (i + 1)))) (HFU : Hid (∀ W p dp nb mb, Qi w W ⟨p, dp, nb, mb⟩ (st (n + 5)) → Calls Tryz.prog 17 #[.pointer (some ⟨p, 0, none⟩), .int .i64 5, .slice a1 y1.length cap1] W fun e w' => e = .returned (.tuple #[.int .i64 0, .int .i64 10]) ∧ Qi w w' ⟨p, dp, nb, mb⟩ s0)) (HCF : Hid (∀ W p dp nb mb, Qi w W ⟨p, dp, nb, mb⟩ s0 → Calls Tryz.prog 22 #[.pointer (some ⟨p, 0, none⟩)] W fun e w' => e = .returned (.int .i64 10) ∧ Qi w w' ⟨p, dp, nb, mb⟩ s0)) (HI0 : Hid (∀ W p dp nb mb, Qi w W ⟨p, dp, nb, mb⟩ s0 → Calls Tryz.prog 27 #[.pointer (some ⟨p, 0, none⟩)] W fun e w' => ∃ a c, e = .returned (.slice a (n + 5) c) ∧ Qi w w' ⟨p, dp, nb, mb⟩ s0)) (HDI : Hid (∀ W p dp nb mb, Qi w W ⟨p, dp, nb, mb⟩ s0 → Calls Tryz.prog 28 #[.pointer (some ⟨p, 0, none⟩)] W fun e w' => e = .returned (.bool true) ∧ w' = W)) (HF1 : Hid (∀ W p dp nb mb, Qi w W ⟨p, dp, nb, mb⟩ s0 → Calls Tryz.prog 20 #[.pointer (some ⟨p, 0, none⟩), .int .i64 1] W fun e w' => e = .returned (.int .i64 0) ∧ Qi w w' ⟨p, dp, nb, mb⟩ s1)) (HF2 : Hid (∀ W p dp nb mb, Qi w W ⟨p, dp, nb, mb⟩ s1 → Calls Tryz.prog 20 #[.pointer (some ⟨p, 0, none⟩), .int .i64 2] W fun e w' => e = .returned (.int .i64 0) ∧ Qi w w' ⟨p, dp, nb, mb⟩ s2)) (HCO : Hid (∀ W p dp nb mb, Qi w W ⟨p, dp, nb, mb⟩ s2 → Calls Tryz.prog 22 #[.pointer (some ⟨p, 0, none⟩)] W fun e w' => e = .returned (.int .i64 0) ∧ Qi w w' ⟨p, dp, nb, mb⟩ s3)) (HUS : Hid (∀ W p dp nb mb, Qi w W ⟨p, dp, nb, mb⟩ s3 → Calls Tryz.prog 26 #[.pointer (some ⟨p, 0, none⟩)] W fun e w' => e = .returned (.int .i64 ((n + 7 : Nat) : Int)) ∧ Qi w w' ⟨p, dp, nb, mb⟩ s3)) (HA1 : Hid (∀ W p dp nb mb, Qi w W ⟨p, dp, nb, mb⟩ s3 → Calls Tryz.prog 17 #[.pointer (some ⟨p, 0, none⟩), .int .i64 5, .slice a1 y1.length cap1] W fun e w' => e = .returned (.tuple #[.int .i64 1, .int .i64 0]) ∧ Qi w w' ⟨p, dp, nb, mb⟩ s4)) (HA2 : Hid (∀ W p dp nb mb, Qi w W ⟨p, dp, nb, mb⟩ s4 → Calls Tryz.prog 17 #[.pointer (some ⟨p, 0, none⟩), .int .i64 5, .slice a1 y1.length cap1] W fun e w' => e = .returned (.tuple #[.int .i64 0, .int .i64 10]) ∧ Qi w w' ⟨p, dp, nb, mb⟩ s4)) (HAB : Hid (∀ W p dp nb mb, Qi w W ⟨p, dp, nb, mb⟩ s4 → Calls Tryz.prog 23 #[.pointer (some ⟨p, 0, none⟩)] W fun e w' => e = .returned (.int .i64 0) ∧ ∃ s5 : SS, s5.c = s3.c ∧ Qi w w' ⟨p, dp, nb, mb⟩ s5)) (HI5 : Hid (∀ W p dp nb mb (s5 : SS), s5.c = s3.c → Qi w W ⟨p, dp, nb, mb⟩ s5 → Calls Tryz.prog 27 #[.pointer (some ⟨p, 0, none⟩)] W fun e w' => ∃ a c, e = .returned (.slice a (n + 3) c) ∧ Qi w w' ⟨p, dp, nb, mb⟩ s5)) :
    Calls Tryz.prog 7 #[.int .u8 a0, .slice a1 y1.length cap1] w fun e w' => e = .returned (.bool true) ∧ Below w.heap.size w w' := by
  have HA := awake_any
  generalize y1.length = len at *
  have hu1 := hu.1
  have hu2 := hu.2
  have HN53 : Hid (n < 53) := hn53
  have a8 : wrap64 (8 + (n : Int)) = ((n + 8 : Nat) : Int) := by unfold wrap64; omega
  clear hu hn53
  go_enter Tryz.func7, Tryz.ntmps7
  go_wp2_with (first
    | (go_at_call 30; refine H30.out.mono ?_; rintro e w1 ⟨dp, nb, mb, rfl, h1⟩; have M1 : Hid _ := h1; clear h1 H30)
    | (go_at_call 16; refine (H16.out _ _ _ _ M1.out).mono ?_; rintro e w2 ⟨p, rfl, h2⟩; have M2 : Hid (Qi w w2 ⟨p, dp, nb, mb⟩ (st 0)) := h2; clear h2 H16 M1)
    | fail)
  go_loopw [9, 10] (fun cv iv wr => ∃ i : Nat, i ≤ n + 5 ∧ cv = .int .i64 i ∧ iv = .int .i64 i ∧ Hid (Qi w wr ⟨p, dp, nb, mb⟩ (st i))) (fun _ iv _ => 70 - (iOf iv).toNat)
  case atStart => exact ⟨0, Nat.zero_le _, rfl, rfl, M2⟩
  case round =>
    clear M2
    obtain ⟨i, hi, rfl, rfl, HQ⟩ := hrel
    have hn53 := HN53.out
    have h70 : (i : Int) < 70 := by omega
    by_cases hlt : i < n + 5
    · go_wp2_with (first
        | (go_at_call 17; refine (HAL.out _ _ _ _ _ i hlt HQ.out).mono ?_; rintro e w3 ⟨rfl, h3⟩; have M3 : Hid (Qi w w3 ⟨p, dp, nb, mb⟩ (st (i + 1))) := h3; clear h3)
        | fail)
      go_roundw
      case rel => exact ⟨i + 1, by omega, by go_num, by go_num, M3⟩
      case measure => simp [iOf]; omega
    · obtain rfl : i = n + 5 := by omega
      clear HAL hi hlt
      go_wp2_with (first
        | (go_at_call 17; refine (HFU.out _ _ _ _ _ HQ.out).mono ?_; rintro e w3 ⟨rfl, h3⟩; have M3 : Hid (Qi w w3 ⟨p, dp, nb, mb⟩ s0) := h3; clear h3 HFU HQ)
        | (go_at_call 22; refine (HCF.out _ _ _ _ _ M3.out).mono ?_; rintro e w4 ⟨rfl, h4⟩; have M4 : Hid (Qi w w4 ⟨p, dp, nb, mb⟩ s0) := h4; clear h4 HCF M3)
        | (go_at_call 27; refine (HI0.out _ _ _ _ _ M4.out).mono ?_; rintro e w5 ⟨ia, ic, rfl, h5⟩; have M5 : Hid (Qi w w5 ⟨p, dp, nb, mb⟩ s0) := h5; clear h5 HI0 M4)
        | (go_at_call 28; refine (HDI.out _ _ _ _ _ M5.out).mono ?_; rintro e w' ⟨rfl, hw⟩; obtain rfl := hw.symm; clear HDI)
        | (go_at_call 20; refine (HF1.out _ _ _ _ _ M5.out).mono ?_; rintro e w6 ⟨rfl, h6⟩; have M6 : Hid (Qi w w6 ⟨p, dp, nb, mb⟩ s1) := h6; clear h6 HF1 M5)
        | (go_at_call 20; refine (HF2.out _ _ _ _ _ M6.out).mono ?_; rintro e w7 ⟨rfl, h7⟩; have M7 : Hid (Qi w w7 ⟨p, dp, nb, mb⟩ s2) := h7; clear h7 HF2 M6)
        | (go_at_call 22; refine (HCO.out _ _ _ _ _ M7.out).mono ?_; rintro e w8 ⟨rfl, h8⟩; have M8 : Hid (Qi w w8 ⟨p, dp, nb, mb⟩ s3) := h8; clear h8 HCO M7)
        | (go_at_call 26; refine (HUS.out _ _ _ _ _ M8.out).mono ?_; rintro e w9 ⟨rfl, h9⟩; have M9 : Hid (Qi w w9 ⟨p, dp, nb, mb⟩ s3) := h9; clear h9 HUS M8)
        | (go_at_call 17; refine (HA1.out _ _ _ _ _ M9.out).mono ?_; rintro e w10 ⟨rfl, h10⟩; have M10 : Hid (Qi w w10 ⟨p, dp, nb, mb⟩ s4) := h10; clear h10 HA1 M9)
        | (go_at_call 17; refine (HA2.out _ _ _ _ _ M10.out).mono ?_; rintro e w11 ⟨rfl, h11⟩; have M11 : Hid (Qi w w11 ⟨p, dp, nb, mb⟩ s4) := h11; clear h11 HA2 M10)
        | (go_at_call 23; refine (HAB.out _ _ _ _ _ M11.out).mono ?_; rintro e w12 ⟨rfl, s5, hs5, h12⟩; have M12 : Hid (s5.c = s3.c ∧ Qi w w12 ⟨p, dp, nb, mb⟩ s5) := ⟨hs5, h12⟩; clear hs5 h12 HAB M11)
        | (go_at_call 27; refine (HI5.out _ _ _ _ _ s5 M12.out.1 M12.out.2).mono ?_; rintro e w13 ⟨ja, jc, rfl, h13⟩; have M13 : Hid (Qi w w13 ⟨p, dp, nb, mb⟩ s5) := h13; clear h13 HI5 M12)
        | (go_at_call 9; refine (HA _).mono ?_; rintro e w14 ⟨rfl, hb14⟩; clear HA)
        | fail)
      go_ret
      exact ⟨rfl, M13.out.be.trans (hb14.mono M13.out.be.size)⟩
theorem walk_short (a0 : Int) (a1 : Option Addr) (len1 cap1 : Nat) (y1 : List Int) (w : World) (w0 : (Lit.int .u8 a0).wf = true) (w1 : y1.length = len1 ∧ BV w a1 y1 ∧ (a1 = none → cap1 = 0) ∧ len1 ≤ cap1 ∧ cap1 ≤ 9223372036854775807) (h : ¬ 246 < len1) :
    Calls Tryz.prog 7 #[.int .u8 a0, .slice a1 len1 cap1] w fun e w' => e = .returned (.bool true) ∧ Below w.heap.size w w' := by
  obtain ⟨rfl, hb, hn, hc, hm⟩ := w1
  have hu := bounds_u8 w0
  obtain ⟨n, hn53, hnv⟩ : ∃ n : Nat, n < 53 ∧ Int.tmod a0 53 = n := ⟨(Int.tmod a0 53).toNat, by have := Int.tmod_lt_of_pos a0 (b := 53) (by decide); omega, by have := Int.tmod_nonneg 53 (a := a0) (by omega); omega⟩
  exact core a0 a1 cap1 y1 w n hn53 hnv (by omega) (by omega) (stt (n + 8)) (fs0 (n + 8)) (fs1 (n + 8)) (fs2 (n + 8)) (fs3 (n + 8)) (fs4 (n + 8)) (D.new_any _ w) (q_format n hn53) (fx_HAL hn53 hb hn (by omega)) (fx_HFU hn53 hb hn (by omega)) (fx_HCF hn53 hb hn (by omega)) (fx_HI0 hn53 hb hn (by omega)) (fx_HDI hn53 hb hn (by omega)) (fx_HF1 hn53 hb hn (by omega)) (fx_HF2 hn53 hb hn (by omega)) (fx_HCO hn53 hb hn (by omega)) (fx_HUS hn53 hb hn (by omega)) (fx_HA1 hn53 hb hn (by omega)) (fx_HA2 hn53 hb hn (by omega)) (fx_HAB hn53 hb hn (by omega)) (fx_HI5 hn53 hb hn (by omega))
theorem walk (a0 : Int) (a1 : Option Addr) (len1 cap1 : Nat) (y1 : List Int) (w : World) (w0 : (Lit.int .u8 a0).wf = true) (w1 : y1.length = len1 ∧ BV w a1 y1 ∧ (a1 = none → cap1 = 0) ∧ len1 ≤ cap1 ∧ cap1 ≤ 9223372036854775807) :
    Calls Tryz.prog 7 #[.int .u8 a0, .slice a1 len1 cap1] w fun e w' => e = .returned (.bool true) ∧ Below w.heap.size w w' := by
  by_cases h : 246 < len1
  · exact walk_long a0 a1 len1 cap1 y1 w w0 w1 h
  · exact walk_short a0 a1 len1 cap1 y1 w w0 w1 h
set_option maxRecDepth 100000 in
theorem lifted (os : Os) (started : os.Started) (H : Type) (enc : TypeId × Value → H) :
    ReturnsInHanded {} Tryz.checked os 7 .any (Rows.shadowFillsSpec.pre6 enc Tryz.prog Tryz.f7 Rows.shadowFillsRow.domain false) (Rows.shadowFillsSpec.post enc Tryz.prog Tryz.f7 false true false false) := by
  refine returnsInHanded_of_change (C := Tryz.checked) own started (by kernel_rfl) Tryz.func7
    (ChangeSpec.witness6 (enc := enc) (C := Tryz.checked) false ⟨#[], #[.int .u8 0, .slice none 0 0], []⟩ 8 (by kernel_rfl) (by kernel_rfl) (by kernel_rfl) (by kernel_rfl)) ?_
  intro W base args ds gs before hval0 hW hcnd _
  have hval : ∀ (j : Nat) t v, Tryz.f7.params[j]? = some t → args[j]? = some v → Value.okWide Tryz.prog W .any base t v := hval0
  have hW' := hW
  obtain ⟨p, q, hA0, hV, rfl, hfz, hnd⟩ := hW
  have hA : DataW.TrodAll enc Tryz.prog W 0 (fun _ => true) true Tryz.f7.params.toList args.toList ds p := hA0
  rw [Tryz.params7] at hA hval
  obtain ⟨v0, vs0, d0, ds0, p0, q0, hargs, rfl, rfl, h0, r0⟩ := trodAll_cons hA
  obtain ⟨v1, vs1, d1, ds1, p1, q1, rfl, rfl, rfl, h1, r1⟩ := trodAll_cons r0
  obtain ⟨rfl, rfl, rfl⟩ := trodAll_nil r1
  obtain rfl : args = #[v0, v1] := by cases args; simp_all
  obtain ⟨rfl, rfl⟩ := trodVars_none hV
  obtain ⟨a0, rfl, rfl, rfl, w0⟩ := open_int Tryz.underlying5 (hval 0 5 v0 rfl rfl) h0
  obtain ⟨a1, len1, cap1, rfl⟩ := okWide_slice Tryz.underlying29 (hval 1 29 v1 rfl rfl)
  have k1 := h1
  have lt1 : ∀ x ∈ p1, x.block < W.heap.size := by obtain ⟨m, hm⟩ := k1; exact DataW.trod_lt m _ _ _ hm
  obtain ⟨y1, w1⟩ : ∃ ys : List Int, ys.length = len1 ∧ BV W a1 ys ∧ (a1 = none → cap1 = 0) ∧ len1 ≤ cap1 ∧ cap1 ≤ 9223372036854775807 := by
    obtain ⟨fuel, hf⟩ := h1
    rcases open_ints Tryz.underlying29 Tryz.underlying5 (by kernel_rfl) hf with ⟨hcs, _⟩ | ⟨x, l, c, zs, hcs, _, hl, hm, hz, _, hcell, hwz⟩
    · simp [Value.cells] at hcs
      obtain ⟨rfl, rfl, rfl⟩ := hcs
      exact D.bytes_in (zs := []) (.inl ⟨rfl, rfl, rfl, rfl⟩)
    · simp [Value.cells] at hcs
      obtain ⟨rfl, rfl, rfl⟩ := hcs
      exact D.bytes_in (.inr ⟨_, rfl, hl, hm, by simpa using hz, hcell, hwz⟩)
  clear hA0 hval0
  refine (walk a0 a1 len1 cap1 y1 W w0 w1).mono fun e W' ⟨he, bel⟩ => ?_
  subst he
  exact ⟨_, rfl, _, _, _, [], _, [], hW', trodAll_mk1 (shut_bool Tryz.underlying4 _), (trodAll_cons_mk (shut_int Tryz.underlying5 w0) (trodAll_cons_mk (Below.trod laidOut (by kernel_rfl) (of_decide_eq_true (by kernel_rfl)) k1 bel lt1) trodAll_mk0)), rfl, bel.frame _, fun h => by cases h⟩

theorem over : Rows.shadowFillsRow.holds Tryz.pinned (OpenSpec.ofChange Rows.shadowFillsSpec) :=
  OpenClaim.holds_of_wide 7 Tryz.f7 rfl rfl rfl rfl rfl rfl rfl ⟨rfl, rfl, rfl, rfl, rfl⟩ rfl rfl rfl rfl rfl (by kernel_rfl) Tryz.func7 (by kernel_rfl)
    (of_decide_eq_true (by kernel_rfl)) (by unfold Func.isWrapper; first | (rw [if_pos (by decide +kernel)]; kernel_rfl) | (rw [if_neg (by decide +kernel)]; exact ⟨rfl, rfl⟩))
    (fun os started H enc _ => lifted os started H enc)
end Go.Proofs.YtelhlikeefpjnaaGreat.shadowFills

namespace Go.Proofs.YtelhlikeefpjnaaGreat
theorem shadowFills_holds : Rows.ShadowFillsSaid := shadowFills.over
#print axioms shadowFills_holds
end Go.Proofs.YtelhlikeefpjnaaGreat
