/- For every number of frames the call PoolNews of the statements returns true and its argument reads as it did: no condition. -/
import Derived.Test.YtbklnadlbcndlaaGreatM23
import Derived.Test.YtbklnadlbcndlaaGreatRows
import Derived.WalkKit
import Derived.ProofKit
import Derived.OpenShut
import Derived.ShutString
import Derived.ChangeOld
import Derived.Below
namespace Go.Proofs.YtbklnadlbcndlaaGreat.poolNews
open Go.ChangeShapes Go.WideShapes Go.ChangeAt Go.RowKit
set_option linter.unusedVariables false
set_option linter.unusedSimpArgs false
set_option maxRecDepth 20000

theorem own : ownKnob Tryz.prog.godebug = none := by kernel_rfl
theorem laidOut : laidOutB Tryz.prog = true := by kernel_rfl
noncomputable def w9 : Int × SS × D.DS := fmtS (D.newS 9)
set_option maxRecDepth 100000 in
theorem pw_n1 : w9.1 = 0 := by decide +kernel
set_option maxHeartbeats 3200000 in
theorem walk_low (a0 : Int) (w : World) (w0 : (Lit.int .i64 a0).wf = true) (h1 : a0 < 1) :
    Calls Tryz.prog 4 #[.int .i64 a0] w fun e w' => e = .returned (.bool true) ∧ Below w.heap.size w w' := by
  have HA := awake_any
  have H13 : Hid (Calls Tryz.prog 13 #[.int .i64 9] w fun e w' => ∃ dp nb mb, e = .returned (.pointer (some ⟨dp, 0, none⟩)) ∧ D.Dk w' dp nb mb (D.newS 9) ∧ w.heap.size ≤ dp ∧ w.heap.size ≤ nb ∧ w.heap.size ≤ mb ∧ Below w.heap.size w w') := D.new_any 9 w
  have H12 : Hid (∀ w1 dp nb mb, (D.Dk w1 dp nb mb (D.newS 9) ∧ w.heap.size ≤ dp ∧ w.heap.size ≤ nb ∧ w.heap.size ≤ mb ∧ Below w.heap.size w w1) → Calls Tryz.prog 12 #[.pointer (some ⟨dp, 0, none⟩)] w1 fun e w' => ∃ k : Pl, e = .returned (.tuple #[.pointer (some ⟨k.p, 0, none⟩), .int .i64 0]) ∧ Hid (Mi w w' k w9.2.1 w9.2.2 ∧ k.z = [])) := fun w1 dp nb mb h => v_format 9 (by decide) pw_n1 dp nb mb h
  have HB : Hid (∀ p W, Calls Tryz.prog 14 #[.pointer (some ⟨p, 0, none⟩), .int .i64 a0] W fun e w' => e = .returned (.tuple #[.pointer none, .int .i64 12]) ∧ w' = W) := fun p W => pnew_bad p a0 W (by omega)
  clear w0
  go_enter Tryz.func4, Tryz.ntmps4
  go_wp2_with (first
    | (go_at_call 13; refine H13.out.mono ?_; rintro e w1 ⟨dp, nb, mb, rfl, h1⟩; have M1 : Hid (D.Dk w1 dp nb mb (D.newS 9) ∧ w.heap.size ≤ dp ∧ w.heap.size ≤ nb ∧ w.heap.size ≤ mb ∧ Below w.heap.size w w1) := h1; clear h1 H13)
    | (go_at_call 12; refine (H12.out _ _ _ _ M1.out).mono ?_; rintro e w2 ⟨k2, rfl, M2⟩; clear H12 M1)
    | (go_at_call 14; refine (HB.out _ _).mono ?_; rintro e w' ⟨rfl, hw⟩; obtain rfl := hw.symm; have M3 : Hid (Below w.heap.size w w2) := M2.out.1.be; clear HB M2 hw)
    | (go_at_call 14; refine (pnew_nil _ _).mono ?_; rintro e w' ⟨rfl, hw⟩; obtain rfl := hw.symm; clear hw)
    | (go_at_call 15; refine (pget_nil _ _).mono ?_; rintro e w' ⟨rfl, hw⟩; obtain rfl := hw.symm; clear hw)
    | (go_at_call 16; refine (palloc_nil _ _ _).mono ?_; rintro e w' ⟨rfl, hw⟩; obtain rfl := hw.symm; clear hw)
    | (go_at_call 17; refine (pset_nil _ _ _ _).mono ?_; rintro e w' ⟨rfl, hw⟩; obtain rfl := hw.symm; clear hw)
    | (go_at_call 18; refine (pfree_nil _ _).mono ?_; rintro e w' ⟨rfl, hw⟩; obtain rfl := hw.symm; clear hw)
    | (go_at_call 19; refine (ppin_nil _ _).mono ?_; rintro e w' ⟨rfl, hw⟩; obtain rfl := hw.symm; clear hw)
    | (go_at_call 20; refine (punpin_nil _ _).mono ?_; rintro e w' ⟨rfl, hw⟩; obtain rfl := hw.symm; clear hw)
    | (go_at_call 21; refine (pflush_nil _).mono ?_; rintro e w' ⟨rfl, hw⟩; obtain rfl := hw.symm; clear hw)
    | (go_at_call 22; refine (pcommit_nil _).mono ?_; rintro e w' ⟨rfl, hw⟩; obtain rfl := hw.symm; clear hw)
    | (go_at_call 23; refine (pabort_nil _).mono ?_; rintro e w' ⟨rfl, hw⟩; obtain rfl := hw.symm; clear hw)
    | (go_at_call 24; refine (pheld_nil _).mono ?_; rintro e w' ⟨rfl, hw⟩; obtain rfl := hw.symm; clear hw)
    | (go_at_call 25; refine (ppins_nil _ _).mono ?_; rintro e w' ⟨rfl, hw⟩; obtain rfl := hw.symm; clear hw)
    | (go_at_call 26; refine (phits_nil _).mono ?_; rintro e w' ⟨rfl, hw⟩; obtain rfl := hw.symm; clear hw)
    | (go_at_call 27; refine (pmiss_nil _).mono ?_; rintro e w' ⟨rfl, hw⟩; obtain rfl := hw.symm; clear hw)
    | (go_at_call 28; refine (punder_nil _).mono ?_; rintro e w' ⟨rfl, hw⟩; obtain rfl := hw.symm; clear hw)
    | (go_at_call 8; refine (HA _).mono ?_; rintro e w9 ⟨rfl, h9⟩; have M9 : Hid (Below w.heap.size w w9) := M3.out.trans (h9.mono M3.out.size); clear h9 HA)
    | fail)
  go_ret
  exact ⟨rfl, M9.out⟩
set_option maxHeartbeats 3200000 in
theorem walk_high (a0 : Int) (w : World) (w0 : (Lit.int .i64 a0).wf = true) (h1 : ¬ a0 < 1) (h2 : 64 < a0) :
    Calls Tryz.prog 4 #[.int .i64 a0] w fun e w' => e = .returned (.bool true) ∧ Below w.heap.size w w' := by
  have HA := awake_any
  have H13 : Hid (Calls Tryz.prog 13 #[.int .i64 9] w fun e w' => ∃ dp nb mb, e = .returned (.pointer (some ⟨dp, 0, none⟩)) ∧ D.Dk w' dp nb mb (D.newS 9) ∧ w.heap.size ≤ dp ∧ w.heap.size ≤ nb ∧ w.heap.size ≤ mb ∧ Below w.heap.size w w') := D.new_any 9 w
  have H12 : Hid (∀ w1 dp nb mb, (D.Dk w1 dp nb mb (D.newS 9) ∧ w.heap.size ≤ dp ∧ w.heap.size ≤ nb ∧ w.heap.size ≤ mb ∧ Below w.heap.size w w1) → Calls Tryz.prog 12 #[.pointer (some ⟨dp, 0, none⟩)] w1 fun e w' => ∃ k : Pl, e = .returned (.tuple #[.pointer (some ⟨k.p, 0, none⟩), .int .i64 0]) ∧ Hid (Mi w w' k w9.2.1 w9.2.2 ∧ k.z = [])) := fun w1 dp nb mb h => v_format 9 (by decide) pw_n1 dp nb mb h
  have HB : Hid (∀ p W, Calls Tryz.prog 14 #[.pointer (some ⟨p, 0, none⟩), .int .i64 a0] W fun e w' => e = .returned (.tuple #[.pointer none, .int .i64 12]) ∧ w' = W) := fun p W => pnew_bad p a0 W (by omega)
  clear w0
  go_enter Tryz.func4, Tryz.ntmps4
  go_wp2_with (first
    | (go_at_call 13; refine H13.out.mono ?_; rintro e w1 ⟨dp, nb, mb, rfl, h1⟩; have M1 : Hid (D.Dk w1 dp nb mb (D.newS 9) ∧ w.heap.size ≤ dp ∧ w.heap.size ≤ nb ∧ w.heap.size ≤ mb ∧ Below w.heap.size w w1) := h1; clear h1 H13)
    | (go_at_call 12; refine (H12.out _ _ _ _ M1.out).mono ?_; rintro e w2 ⟨k2, rfl, M2⟩; clear H12 M1)
    | (go_at_call 14; refine (HB.out _ _).mono ?_; rintro e w' ⟨rfl, hw⟩; obtain rfl := hw.symm; have M3 : Hid (Below w.heap.size w w2) := M2.out.1.be; clear HB M2 hw)
    | (go_at_call 14; refine (pnew_nil _ _).mono ?_; rintro e w' ⟨rfl, hw⟩; obtain rfl := hw.symm; clear hw)
    | (go_at_call 15; refine (pget_nil _ _).mono ?_; rintro e w' ⟨rfl, hw⟩; obtain rfl := hw.symm; clear hw)
    | (go_at_call 16; refine (palloc_nil _ _ _).mono ?_; rintro e w' ⟨rfl, hw⟩; obtain rfl := hw.symm; clear hw)
    | (go_at_call 17; refine (pset_nil _ _ _ _).mono ?_; rintro e w' ⟨rfl, hw⟩; obtain rfl := hw.symm; clear hw)
    | (go_at_call 18; refine (pfree_nil _ _).mono ?_; rintro e w' ⟨rfl, hw⟩; obtain rfl := hw.symm; clear hw)
    | (go_at_call 19; refine (ppin_nil _ _).mono ?_; rintro e w' ⟨rfl, hw⟩; obtain rfl := hw.symm; clear hw)
    | (go_at_call 20; refine (punpin_nil _ _).mono ?_; rintro e w' ⟨rfl, hw⟩; obtain rfl := hw.symm; clear hw)
    | (go_at_call 21; refine (pflush_nil _).mono ?_; rintro e w' ⟨rfl, hw⟩; obtain rfl := hw.symm; clear hw)
    | (go_at_call 22; refine (pcommit_nil _).mono ?_; rintro e w' ⟨rfl, hw⟩; obtain rfl := hw.symm; clear hw)
    | (go_at_call 23; refine (pabort_nil _).mono ?_; rintro e w' ⟨rfl, hw⟩; obtain rfl := hw.symm; clear hw)
    | (go_at_call 24; refine (pheld_nil _).mono ?_; rintro e w' ⟨rfl, hw⟩; obtain rfl := hw.symm; clear hw)
    | (go_at_call 25; refine (ppins_nil _ _).mono ?_; rintro e w' ⟨rfl, hw⟩; obtain rfl := hw.symm; clear hw)
    | (go_at_call 26; refine (phits_nil _).mono ?_; rintro e w' ⟨rfl, hw⟩; obtain rfl := hw.symm; clear hw)
    | (go_at_call 27; refine (pmiss_nil _).mono ?_; rintro e w' ⟨rfl, hw⟩; obtain rfl := hw.symm; clear hw)
    | (go_at_call 28; refine (punder_nil _).mono ?_; rintro e w' ⟨rfl, hw⟩; obtain rfl := hw.symm; clear hw)
    | (go_at_call 8; refine (HA _).mono ?_; rintro e w9 ⟨rfl, h9⟩; have M9 : Hid (Below w.heap.size w w9) := M3.out.trans (h9.mono M3.out.size); clear h9 HA)
    | fail)
  go_ret
  exact ⟨rfl, M9.out⟩
set_option maxHeartbeats 3200000 in
theorem walk_ok (a0 : Int) (w : World) (w0 : (Lit.int .i64 a0).wf = true) (h1 : 1 ≤ a0) (h2 : a0 ≤ 64) :
    Calls Tryz.prog 4 #[.int .i64 a0] w fun e w' => e = .returned (.bool true) ∧ Below w.heap.size w w' := by
  have HA := awake_any
  have H13 : Hid (Calls Tryz.prog 13 #[.int .i64 9] w fun e w' => ∃ dp nb mb, e = .returned (.pointer (some ⟨dp, 0, none⟩)) ∧ D.Dk w' dp nb mb (D.newS 9) ∧ w.heap.size ≤ dp ∧ w.heap.size ≤ nb ∧ w.heap.size ≤ mb ∧ Below w.heap.size w w') := D.new_any 9 w
  have H12 : Hid (∀ w1 dp nb mb, (D.Dk w1 dp nb mb (D.newS 9) ∧ w.heap.size ≤ dp ∧ w.heap.size ≤ nb ∧ w.heap.size ≤ mb ∧ Below w.heap.size w w1) → Calls Tryz.prog 12 #[.pointer (some ⟨dp, 0, none⟩)] w1 fun e w' => ∃ k : Pl, e = .returned (.tuple #[.pointer (some ⟨k.p, 0, none⟩), .int .i64 0]) ∧ Hid (Mi w w' k w9.2.1 w9.2.2 ∧ k.z = [])) := fun w1 dp nb mb h => v_format 9 (by decide) pw_n1 dp nb mb h
  have HG : Hid (∀ w1 k, (Mi w w1 k w9.2.1 w9.2.2 ∧ k.z = []) → Calls Tryz.prog 14 #[.pointer (some ⟨k.p, 0, none⟩), .int .i64 a0] w1 fun e w' => ∃ q, e = .returned (.tuple #[.pointer (some ⟨q, 0, none⟩), .int .i64 0]) ∧ Pv w w' q ⟨a0, [], 0, 0⟩ w9.2.1 w9.2.2 []) := fun w1 k h => v_new a0 h1 h2 h
  clear w0
  go_enter Tryz.func4, Tryz.ntmps4
  go_wp2_with (first
    | (go_at_call 13; refine H13.out.mono ?_; rintro e w1 ⟨dp, nb, mb, rfl, h1⟩; have M1 : Hid (D.Dk w1 dp nb mb (D.newS 9) ∧ w.heap.size ≤ dp ∧ w.heap.size ≤ nb ∧ w.heap.size ≤ mb ∧ Below w.heap.size w w1) := h1; clear h1 H13)
    | (go_at_call 12; refine (H12.out _ _ _ _ M1.out).mono ?_; rintro e w2 ⟨k2, rfl, M2⟩; clear H12 M1)
    | (go_at_call 14; refine (HG.out _ _ M2.out).mono ?_; rintro e w3 ⟨q, rfl, h3⟩; have M3 : Hid (Below w.heap.size w w3) := h3.be; clear HG M2 h3)
    | (go_at_call 14; refine (pnew_nil _ _).mono ?_; rintro e w' ⟨rfl, hw⟩; obtain rfl := hw.symm; clear hw)
    | (go_at_call 15; refine (pget_nil _ _).mono ?_; rintro e w' ⟨rfl, hw⟩; obtain rfl := hw.symm; clear hw)
    | (go_at_call 16; refine (palloc_nil _ _ _).mono ?_; rintro e w' ⟨rfl, hw⟩; obtain rfl := hw.symm; clear hw)
    | (go_at_call 17; refine (pset_nil _ _ _ _).mono ?_; rintro e w' ⟨rfl, hw⟩; obtain rfl := hw.symm; clear hw)
    | (go_at_call 18; refine (pfree_nil _ _).mono ?_; rintro e w' ⟨rfl, hw⟩; obtain rfl := hw.symm; clear hw)
    | (go_at_call 19; refine (ppin_nil _ _).mono ?_; rintro e w' ⟨rfl, hw⟩; obtain rfl := hw.symm; clear hw)
    | (go_at_call 20; refine (punpin_nil _ _).mono ?_; rintro e w' ⟨rfl, hw⟩; obtain rfl := hw.symm; clear hw)
    | (go_at_call 21; refine (pflush_nil _).mono ?_; rintro e w' ⟨rfl, hw⟩; obtain rfl := hw.symm; clear hw)
    | (go_at_call 22; refine (pcommit_nil _).mono ?_; rintro e w' ⟨rfl, hw⟩; obtain rfl := hw.symm; clear hw)
    | (go_at_call 23; refine (pabort_nil _).mono ?_; rintro e w' ⟨rfl, hw⟩; obtain rfl := hw.symm; clear hw)
    | (go_at_call 24; refine (pheld_nil _).mono ?_; rintro e w' ⟨rfl, hw⟩; obtain rfl := hw.symm; clear hw)
    | (go_at_call 25; refine (ppins_nil _ _).mono ?_; rintro e w' ⟨rfl, hw⟩; obtain rfl := hw.symm; clear hw)
    | (go_at_call 26; refine (phits_nil _).mono ?_; rintro e w' ⟨rfl, hw⟩; obtain rfl := hw.symm; clear hw)
    | (go_at_call 27; refine (pmiss_nil _).mono ?_; rintro e w' ⟨rfl, hw⟩; obtain rfl := hw.symm; clear hw)
    | (go_at_call 28; refine (punder_nil _).mono ?_; rintro e w' ⟨rfl, hw⟩; obtain rfl := hw.symm; clear hw)
    | (go_at_call 8; refine (HA _).mono ?_; rintro e w9 ⟨rfl, h9⟩; have M9 : Hid (Below w.heap.size w w9) := M3.out.trans (h9.mono M3.out.size); clear h9 HA)
    | fail)
  go_ret
  exact ⟨rfl, M9.out⟩
theorem walk (a0 : Int) (w0 : (Lit.int .i64 a0).wf = true) (w : World) : Calls Tryz.prog 4 #[.int .i64 a0] w fun e w' => e = .returned (.bool true) ∧ Below w.heap.size w w' := by
  by_cases h1 : a0 < 1
  · exact walk_low a0 w w0 h1
  · by_cases h2 : 64 < a0
    · exact walk_high a0 w w0 h1 h2
    · exact walk_ok a0 w w0 (by omega) (by omega)

theorem lifted (os : Os) (started : os.Started) (H : Type) (enc : TypeId × Value → H) :
    ReturnsInHanded {} Tryz.checked os 4 .any (Rows.poolNewsSpec.pre6 enc Tryz.prog Tryz.f4 Rows.poolNewsRow.domain false) (Rows.poolNewsSpec.post enc Tryz.prog Tryz.f4 false true false false) := by
  refine returnsInHanded_of_change (C := Tryz.checked) own started (by kernel_rfl) Tryz.func4
    (ChangeSpec.witness6 (enc := enc) (C := Tryz.checked) false ⟨#[], #[.int .i64 0], []⟩ 8 (by kernel_rfl) (by kernel_rfl) (by kernel_rfl) (by kernel_rfl)) ?_
  intro W base args ds gs before hval0 hW hcnd _
  have hval : ∀ (j : Nat) t v, Tryz.f4.params[j]? = some t → args[j]? = some v → Value.okWide Tryz.prog W .any base t v := hval0
  have hW' := hW
  obtain ⟨p, q, hA0, hV, rfl, hfz, hnd⟩ := hW
  have hA : DataW.TrodAll enc Tryz.prog W 0 (fun _ => true) true Tryz.f4.params.toList args.toList ds p := hA0
  rw [Tryz.params4] at hA hval
  obtain ⟨v0, vs0, d0, ds0, p0, q0, hargs, rfl, rfl, h0, r0⟩ := trodAll_cons hA
  obtain ⟨rfl, rfl, rfl⟩ := trodAll_nil r0
  obtain rfl : args = #[v0] := by cases args; simp_all
  obtain ⟨rfl, rfl⟩ := trodVars_none hV
  obtain ⟨a0, rfl, rfl, rfl, w0⟩ := open_int Tryz.underlying3 (hval 0 3 v0 rfl rfl) h0
  clear hA0 hval0
  refine (walk a0 w0 W).mono fun e W' ⟨he, bel⟩ => ?_
  subst he
  exact ⟨_, rfl, _, _, _, [], _, [], hW', trodAll_mk1 (shut_bool Tryz.underlying4 _), (trodAll_cons_mk (shut_int Tryz.underlying3 w0) trodAll_mk0), rfl, bel.frame _, fun h => by cases h⟩

theorem over : Rows.poolNewsRow.holds Tryz.pinned (OpenSpec.ofChange Rows.poolNewsSpec) :=
  OpenClaim.holds_of_wide 4 Tryz.f4 rfl rfl rfl rfl rfl rfl rfl ⟨rfl, rfl, rfl, rfl, rfl⟩ rfl rfl rfl rfl rfl (by kernel_rfl) Tryz.func4 (by kernel_rfl)
    (of_decide_eq_true (by kernel_rfl)) (by unfold Func.isWrapper; first | (rw [if_pos (by decide +kernel)]; kernel_rfl) | (rw [if_neg (by decide +kernel)]; exact ⟨rfl, rfl⟩))
    (fun os started H enc _ => lifted os started H enc)
end Go.Proofs.YtbklnadlbcndlaaGreat.poolNews

namespace Go.Proofs.YtbklnadlbcndlaaGreat
theorem poolNews_holds : Rows.PoolNewsSaid := poolNews.over
#print axioms poolNews_holds
end Go.Proofs.YtbklnadlbcndlaaGreat
