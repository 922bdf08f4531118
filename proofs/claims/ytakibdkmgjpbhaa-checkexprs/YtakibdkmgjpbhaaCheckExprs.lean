/- For every row of items and every row of names the call CheckExprs of the statements returns true and its arguments read as they did: no condition. -/
import Derived.Test.YtakibdkmgjpbhaaRows
import Derived.Test.YtakibdkmgjpbhaaArg
import Derived.Test.YtakibdkmgjpbhaaAw
import Derived.WalkKit
import Derived.ProofKit
import Derived.OpenShut
import Derived.ShutString
import Derived.ChangeOld
import Derived.Below
namespace Go.Proofs.Ytakibdkmgjpbhaa.checkExprs
open Go.ChangeShapes Go.WideShapes Go.ChangeAt Go.RowKit
set_option linter.unusedVariables false
set_option linter.unusedSimpArgs false
set_option maxRecDepth 20000

theorem own : ownKnob Try.prog.godebug = none := by kernel_rfl
theorem laidOut : laidOutB Try.prog = true := by kernel_rfl
set_option maxHeartbeats 8000000 in
theorem walk (v0 : Value) (x0 : List ItemD) (v1 : Value) (x1 : List Str) (w : World) (w0 : SlW 5 w (fun _ => True) v0 (x0.map clI) ∧ ∀ y ∈ x0, ItemD.Ok y) (w1 : SlW 1 w (fun _ => True) v1 (x1.map clS) ∧ ∀ y ∈ x1, okS y) : Calls Try.prog 5 #[v0, v1] w fun e w' => e = .returned (.bool true) ∧ Below w.heap.size w w' := by
  have HA : Hid (∀ W, Below w.heap.size w W → Calls Try.prog 9 #[] W fun e w' => e = .returned (.bool true) ∧ Below W.heap.size W w') := fun W _ => awake_any W
  obtain ⟨w0, k0⟩ := w0
  obtain ⟨w1, k1⟩ := w1
  have C1 : Hid (x1.length ≤ 30 → Calls Try.prog 23 #[v0, v1] w fun e w' => e = .returned (.int .i64 (exE x1 x0)) ∧ Below w.heap.size w w') := fun h => exprX_any v0 v1 x0 x1 w w0 w1 h (fun s hs => by have := k1 s hs; unfold okS maxLen at this; omega) (fun y hy => by have := (k0 y hy).2.2; unfold okS maxLen at this; omega)
  have C2 : Hid (∀ W, Below w.heap.size w W → Calls Try.prog 24 #[v0, v1] W fun e w' => e = .returned (.int .i64 (exE x1 x0)) ∧ Below W.heap.size W w') := fun W hW => rexpr_any v0 v1 x0 x1 W (w0.bl hW) (w1.bl hW)
  obtain ⟨a0, c0, rfl⟩ := w0.shape
  obtain ⟨a1, c1, rfl⟩ := w1.shape
  simp only [List.length_map] at *
  clear w0 w1 k0 k1
  generalize exE x1 x0 = ex at C1 C2
  go_enter Try.func5, Try.ntmps5
  go_wp2_with (first
    | (go_at_call 23; refine (C1.out (by omega)).mono ?_; rintro e w2 ⟨rfl, hb2⟩; have B2 : Hid (Below w.heap.size w w2) := hb2; have CC := C2.out w2 hb2; clear C1 hb2)
    | (go_at_call 24; refine CC.mono ?_; rintro e w3 ⟨rfl, hb3⟩; have B3 : Hid (Below w.heap.size w w3) := bt B2.out hb3; clear CC hb3)
    | (go_at_call 9; refine (HA.out _ (by first | exact B3.out | exact Below.refl _ _)).mono ?_; rintro e w4 ⟨rfl, hb4⟩; have B4 : Hid (Below w.heap.size w w4) := (by first | exact bt B3.out hb4 | exact hb4)))
  all_goals (go_ret; exact ⟨rfl, B4.out⟩)
set_option maxRecDepth 100000 in
theorem lifted (os : Os) (started : os.Started) (H : Type) (enc : TypeId × Value → H) :
    ReturnsInHanded {} Try.checked os 5 .any (Rows.checkExprsSpec.pre6 enc Try.prog Try.f5 Rows.checkExprsRow.domain false) (Rows.checkExprsSpec.post enc Try.prog Try.f5 false true false false) := by
  refine returnsInHanded_of_change (C := Try.checked) own started (by kernel_rfl) Try.func5
    (ChangeSpec.witness6 (enc := enc) (C := Try.checked) false ⟨#[], #[.slice none 0 0, .slice none 0 0], []⟩ 8 (by kernel_rfl) (by kernel_rfl) (by kernel_rfl) (by kernel_rfl)) ?_
  intro W base args ds gs before hval0 hW hcnd _
  have hval : ∀ (j : Nat) t v, Try.f5.params[j]? = some t → args[j]? = some v → Value.okWide Try.prog W .any base t v := hval0
  have hW' := hW
  obtain ⟨p, q, hA0, hV, rfl, hfz, hnd⟩ := hW
  have hA : DataW.TrodAll enc Try.prog W 0 (fun _ => true) true Try.f5.params.toList args.toList ds p := hA0
  rw [Try.params5] at hA hval
  obtain ⟨v0, vs0, d'0, ds0, q0, r'0, hargs, rfl, rfl, h0, r0⟩ := trodAll_cons hA
  obtain ⟨v1, vs1, d'1, ds1, q1, r'1, rfl, rfl, rfl, h1, r1⟩ := trodAll_cons r0
  obtain ⟨rfl, rfl, rfl⟩ := trodAll_nil r1
  obtain rfl : args = #[v0, v1] := by cases args; simp_all
  obtain ⟨rfl, rfl⟩ := trodVars_none hV
  have k0' := h0
  have lt0 : ∀ x ∈ q0, x.block < W.heap.size := by obtain ⟨m, hm⟩ := k0'; exact DataW.trod_lt m _ _ _ hm
  obtain ⟨x0, w0⟩ := arg_items (hval 0 55 v0 rfl rfl) h0
  have k1' := h1
  have lt1 : ∀ x ∈ q1, x.block < W.heap.size := by obtain ⟨m, hm⟩ := k1'; exact DataW.trod_lt m _ _ _ hm
  obtain ⟨x1, w1⟩ := arg_names (hval 1 39 v1 rfl rfl) h1
  clear hA0 hval0
  refine (walk v0 x0 v1 x1 W w0 w1).mono fun e W' ⟨he, bel⟩ => ?_
  subst he
  exact ⟨_, rfl, _, _, _, [], _, [], hW', trodAll_mk1 (shut_bool Try.underlying4 _), (trodAll_cons_mk (Below.trod laidOut (by kernel_rfl) (of_decide_eq_true (by kernel_rfl)) k0' bel lt0) (trodAll_cons_mk (Below.trod laidOut (by kernel_rfl) (of_decide_eq_true (by kernel_rfl)) k1' bel lt1) trodAll_mk0)), rfl, bel.frame _, fun h => by cases h⟩

theorem over : Rows.checkExprsRow.holds Try.pinned (OpenSpec.ofChange Rows.checkExprsSpec) :=
  OpenClaim.holds_of_wide 5 Try.f5 rfl rfl rfl rfl rfl rfl rfl ⟨rfl, rfl, rfl, rfl, rfl⟩ rfl rfl rfl rfl rfl (by kernel_rfl) Try.func5 (by kernel_rfl)
    (of_decide_eq_true (by kernel_rfl)) (by unfold Func.isWrapper; first | (rw [if_pos (by decide +kernel)]; kernel_rfl) | (rw [if_neg (by decide +kernel)]; exact ⟨rfl, rfl⟩))
    (fun os started H enc _ => lifted os started H enc)
end Go.Proofs.Ytakibdkmgjpbhaa.checkExprs

namespace Go.Proofs.Ytakibdkmgjpbhaa
theorem checkExprs_holds : Rows.CheckExprsSaid := checkExprs.over
#print axioms checkExprs_holds
end Go.Proofs.Ytakibdkmgjpbhaa
