/- For every uint32 and every byte the call MixDeeper of the statements returns true and its arguments read as they did: no condition. -/
import Derived.Test.YtgnmekdohkmdkaaMix
import Derived.Test.YtgnmekdohkmdkaaRows
import Derived.WalkKit
import Derived.ProofKit
import Derived.OpenShut
namespace Go.Proofs.Ytgnmekdohkmdkaa.mixDeeper
open Go.ChangeShapes Go.WideShapes Go.ChangeAt Go.RowKit
set_option linter.unusedVariables false      -- a walk need not use every 'w<i>' (that an integer argument fits its kind)

theorem own : ownKnob Try.prog.godebug = none := by kernel_rfl

set_option maxHeartbeats 800000 in
theorem walk (a0 : Int) (a1 : Int) (w0 : (Lit.int .u32 a0).wf = true) (w1 : (Lit.int .u8 a1).wf = true) (w : World) :
    Calls Try.prog 5 #[.int .u32 a0, .int .u8 a1] w fun e w' => e = .returned (.bool true) ∧ Below w.heap.size w w' := by
  have h0 : 0 ≤ a0 ∧ a0 ≤ 4294967295 := by simp only [Lit.wf, Bool.and_eq_true, decide_eq_true_eq] at w0; exact w0
  have h1 : 0 ≤ a1 ∧ a1 ≤ 255 := by simp only [Lit.wf, Bool.and_eq_true, decide_eq_true_eq] at w1; exact w1
  obtain ⟨h, rfl⟩ := Int.eq_ofNat_of_zero_le h0.1
  obtain ⟨d, hd⟩ : ∃ d : Nat, a1 % 32 = d := ⟨(a1 % 32).toNat, by omega⟩
  have hd2 : d < 32 := by omega
  have hh : h < 4294967296 := by omega
  have A1 := fun wx => top_any h ((d : Int) + 1) wx hh (by omega) (by omega)
  have A2 := fun wx => top_any h d wx hh (by omega) (by omega)
  have A3 := fun wx => bit_any h d wx hh (by omega) (by omega)
  have A4 := fun wx => top_any h 32 wx hh (by omega) (by omega)
  have A5 := fun wx => top_any h 0 wx hh (by omega) (by omega)
  rw [show topS h ((d : Int) + 1) = topN h (d + 1) by rw [show (d : Int) + 1 = ((d + 1 : Nat) : Int) by omega]; exact topS_nat h _ hh (by omega), top_next h d hd2] at A1
  rw [topS_nat h d hh (by omega)] at A2
  rw [show bitS h (d : Int) = bitN h d from if_neg (by omega)] at A3
  rw [show topS h 32 = h by rw [show (32 : Int) = ((32 : Nat) : Int) from rfl, topS_nat h 32 hh (by omega), topN_all]] at A4
  rw [topS_none] at A5
  have l1 := topN_lt h d hh
  have l2 := bitN_lt h d
  generalize topN h d = x at *
  generalize bitN h d = y at *
  go_enter Try.func5, Try.ntmps5
  go_wp2_with (first
    | (go_at_call 9; refine (A1 _).mono ?_; rintro e w' ⟨rfl, hw⟩; obtain rfl := hw.symm; clear A1)
    | (go_at_call 9; refine (A2 _).mono ?_; rintro e w' ⟨rfl, hw⟩; obtain rfl := hw.symm; clear A2)
    | (go_at_call 11; refine (A3 _).mono ?_; rintro e w' ⟨rfl, hw⟩; obtain rfl := hw.symm; clear A3)
    | (go_at_call 9; refine (A4 _).mono ?_; rintro e w' ⟨rfl, hw⟩; obtain rfl := hw.symm; clear A4)
    | (go_at_call 9; refine (A5 _).mono ?_; rintro e w' ⟨rfl, hw⟩; obtain rfl := hw.symm; clear A5)
    | (go_at_call 6; refine (awake_any _).mono ?_; rintro e w' ⟨rfl, hw⟩; obtain rfl := hw.symm))
  go_ret
  exact ⟨rfl, Below.refl _ _⟩

set_option maxRecDepth 100000 in
theorem lifted (os : Os) (started : os.Started) (H : Type) (enc : TypeId × Value → H) :
    ReturnsInHanded {} Try.checked os 5 .any (Rows.mixDeeperSpec.pre6 enc Try.prog Try.f5 Rows.mixDeeperRow.domain false) (Rows.mixDeeperSpec.post enc Try.prog Try.f5 false true false false) := by
  refine returnsInHanded_of_change (C := Try.checked) own started (by kernel_rfl) Try.func5
    (ChangeSpec.witness6 (enc := enc) (C := Try.checked) false ⟨#[], #[.int .u32 0, .int .u8 0], []⟩ 8 (by kernel_rfl) (by kernel_rfl) (by kernel_rfl) (by kernel_rfl)) ?_
  intro W base args ds gs before hval0 hW hcnd _
  have hval : ∀ (j : Nat) t v, Try.f5.params[j]? = some t → args[j]? = some v → Value.okWide Try.prog W .any base t v := hval0
  have hW' := hW
  obtain ⟨p, q, hA0, hV, rfl, hfz, hnd⟩ := hW
  have hA : DataW.TrodAll enc Try.prog W 0 (fun _ => true) true Try.f5.params.toList args.toList ds p := hA0
  rw [Try.params5] at hA hval
  obtain ⟨v0, vs0, d0, ds0, p0, q0, hargs, rfl, rfl, h0, r0⟩ := trodAll_cons hA
  obtain ⟨v1, vs1, d1, ds1, p1, q1, rfl, rfl, rfl, h1, r1⟩ := trodAll_cons r0
  obtain ⟨rfl, rfl, rfl⟩ := trodAll_nil r1
  obtain rfl : args = #[v0, v1] := by cases args; simp_all
  obtain ⟨rfl, rfl⟩ := trodVars_none hV
  obtain ⟨a0, rfl, rfl, rfl, w0⟩ := open_int Try.underlying23 (hval 0 23 v0 rfl rfl) h0
  obtain ⟨a1, rfl, rfl, rfl, w1⟩ := open_int Try.underlying5 (hval 1 5 v1 rfl rfl) h1
  clear hA0 hval0
  refine (walk a0 a1 w0 w1 W).mono fun e W' ⟨he, bel⟩ => ?_
  subst he
  exact ⟨_, rfl, _, _, _, [], _, [], hW', trodAll_mk1 (shut_bool Try.underlying4 _), (trodAll_cons_mk (shut_int Try.underlying23 w0) (trodAll_cons_mk (shut_int Try.underlying5 w1) trodAll_mk0)), rfl, bel.frame _, fun h => by cases h⟩

theorem over : Rows.mixDeeperRow.holds Try.pinned (OpenSpec.ofChange Rows.mixDeeperSpec) :=
  OpenClaim.holds_of_wide 5 Try.f5 rfl rfl rfl rfl rfl rfl rfl ⟨rfl, rfl, rfl, rfl, rfl⟩ rfl rfl rfl rfl rfl (by kernel_rfl) Try.func5 (by kernel_rfl)
    (of_decide_eq_true (by kernel_rfl)) (by unfold Func.isWrapper; first | (rw [if_pos (by decide +kernel)]; kernel_rfl) | (rw [if_neg (by decide +kernel)]; exact ⟨rfl, rfl⟩))
    (fun os started H enc _ => lifted os started H enc)

end Go.Proofs.Ytgnmekdohkmdkaa.mixDeeper

namespace Go.Proofs.Ytgnmekdohkmdkaa
theorem mixDeeper_holds : Rows.MixDeeperSaid := mixDeeper.over
#print axioms mixDeeper_holds
end Go.Proofs.Ytgnmekdohkmdkaa
