/- For any tag and any text the call FactKeys of the statements returns true and its arguments read as they did: no condition but that the library's listed variables lie as the program's text lays them. -/
import Derived.Test.YtpmhilaochfpaaaDoorV13
import Derived.Test.YtpmhilaochfpaaaDoorV10
import Derived.Test.YtpmhilaochfpaaaDoorV19
import Derived.Test.YtpmhilaochfpaaaDoorV20
import Derived.Test.YtpmhilaochfpaaaDoorV12
import Derived.Test.YtpmhilaochfpaaaDoorRows
import Derived.Test.YtpmhilaochfpaaaDoorCards
import Derived.Test.YtpmhilaochfpaaaDoorTie
import Derived.SevenTiedAt
import Derived.SizedLaws
import Derived.ChangeSame
import Derived.ChangeVars
import Derived.ChangeMaps5
import Derived.JoinedOf
import Derived.JoinedAt
import Derived.RowKit3
import Derived.LaidLaws
import Derived.WalkKit
import Derived.ProofKit
import Derived.OpenShut
import Derived.ShutString
import Derived.ChangeOld
import Derived.Below
namespace Go.Proofs.YtpmhilaochfpaaaDoor.factKeys
open Go.ChangeShapes Go.WideShapes Go.ChangeAt Go.RowKit
set_option linter.unusedVariables false
set_option linter.unusedSimpArgs false
set_option maxRecDepth 20000

set_option maxHeartbeats 8000000 in
theorem core (n : Int) (k : Str) (w : World) (hV : Vars w) (hk : okS k) : Calls Tryd.prog 3 #[.int .i64 n, .string (st k)] w fun e w' => e = .returned (.bool true) ∧ Below w.heap.size w w' := by
  have hsz := st_size k
  have HA : Hid (∀ W, Below w.heap.size w W → Calls Tryd.prog 6 #[] W fun e w' => e = .returned (.bool true) ∧ Below W.heap.size W w') := fun W hb => awake_any W (hV.below hb)
  have hkk : (k.length : Int) ≤ 9223372036854775807 := by have : k.length ≤ maxLen := hk; unfold maxLen at this; omega
  by_cases hl : 100 < k.length
  · have hl1 : (k.length : Int) > 100 := by omega
    clear hV hk
    go_enter Tryd.func3, Tryd.ntmps3
    go_wp2_with (go_at_call 6; refine (HA.out _ (Below.refl _ _)).mono ?_; rintro e w1 ⟨rfl, hb1⟩)
    all_goals (go_ret; exact ⟨rfl, hb1⟩)
  · have hl1 : ¬ (k.length : Int) > 100 := by omega
    have C7 := fun W => key_any n W
    have C8 := fun W => rkey_any n W
    have C9 := fun W => tag_any k W (by omega)
    have C10 := fun W => rtag_any k W (by omega)
    clear hV hk
    generalize keyS n = ks at *
    generalize keyE n = ke at *
    generalize tagV k = tv at *
    generalize tagE k = te at *
    go_enter Tryd.func3, Tryd.ntmps3
    go_wp2_with (first
      | (go_at_call 7; refine (C7 _).mono ?_; rintro e w1 ⟨rfl, hb1⟩; have B1 : Hid (Below w.heap.size w w1) := hb1; clear C7 hb1)
      | (go_at_call 8; refine (C8 _).mono ?_; rintro e w2 ⟨rfl, hb2⟩; have B2 : Hid (Below w.heap.size w w2) := bt B1.out hb2; clear C8 hb2)
      | (go_at_call 9; refine (C9 _).mono ?_; rintro e w3 ⟨rfl, hb3⟩; have B3 : Hid (Below w.heap.size w w3) := bt B2.out hb3; clear C9 hb3)
      | (go_at_call 10; refine (C10 _).mono ?_; rintro e w4 ⟨rfl, hb4⟩; have B4 : Hid (Below w.heap.size w w4) := bt B3.out hb4; clear C10 hb4)
      | (go_at_call 6; refine (HA.out _ B4.out).mono ?_; rintro e w5 ⟨rfl, hb5⟩; have B5 : Hid (Below w.heap.size w w5) := bt B4.out hb5; clear hb5))
    all_goals (go_ret; exact ⟨rfl, B5.out⟩)
theorem walk (x0 : Int) (x1 : Str) (w : World) (hV : Vars w) (w0 : (Lit.int IntKind.i64 x0).wf = true) (w1 : okS x1) : Calls Tryd.prog 3 #[.int .i64 x0, .string (st x1)] w fun e w' => e = .returned (.bool true) ∧ Below w.heap.size w w' := core x0 x1 w hV w1
set_option maxRecDepth 100000 in
theorem lifted (os : Os) (started : os.Started) (H : Type) (enc : TypeId × Value → H) :
    ReturnsInHanded {} Tryd.checked os 3 .any (fun w args => (Rows.factKeysSpec.pre enc Tryd.prog Tryd.f3 Rows.factKeysRow.domain false w args ∧ laidMet Tryd.prog laids w) ∧ sizedMet enc Tryd.prog Tryd.f3 (OpenSpec.ofChange Rows.factKeysSpec) false w args)
      (Rows.factKeysSpec.post enc Tryd.prog Tryd.f3 false true false false) := by
  refine returnsInHanded_of_change_and (C := Tryd.checked) (X := fun w _ => laidMet Tryd.prog laids w) (fun _ _ _ hh h => h.of_heap hh) own started (by kernel_rfl) Tryd.func3
    (ChangeSpec.witness_at (enc := enc) (C := Tryd.checked) (os := os) (X := fun w _ => laidMet Tryd.prog laids w) false (laidWorld os) #[.int .i64 0, .string ByteArray.empty] 8 rfl (by kernel_rfl) (by kernel_rfl) (by kernel_rfl) (by kernel_rfl) (by kernel_rfl) (laidWorld_met os _)) ?_
  intro W base args ds gs before hval0 hW _ hsz0 hL _
  have hval : ∀ (j : Nat) t v, Tryd.f3.params[j]? = some t → args[j]? = some v → Value.okWide Tryd.prog W .any base t v := hval0
  have hW' := hW
  obtain ⟨p, q, hA0, hV, rfl, hfz, hnd⟩ := hW
  have hA : DataW.TrodAll enc Tryd.prog W 0 (fun _ => true) true Tryd.f3.params.toList args.toList ds p := hA0
  rw [Tryd.params3] at hA hval
  have hVars := vars_of hL
  obtain ⟨v0, vs0, d'0, ds0, q0, r'0, hargs, rfl, rfl, h0, r0⟩ := trodAll_cons hA
  obtain ⟨v1, vs1, d'1, ds1, q1, r'1, rfl, rfl, rfl, h1, r1⟩ := trodAll_cons r0
  obtain ⟨rfl, rfl, rfl⟩ := trodAll_nil r1
  obtain rfl : args = #[v0, v1] := by cases args; simp_all
  obtain ⟨rfl, rfl⟩ := trodVars_none hV
  obtain ⟨x0, rfl, rfl, rfl, w0⟩ := open_int Tryd.underlying3 (hval 0 3 v0 rfl rfl) h0
  obtain ⟨s1, rfl, rfl, rfl, z1⟩ := Go.ChangeMaps.open_string Tryd.underlying9 (hval 1 9 v1 rfl rfl) h1
  obtain ⟨x1, rfl⟩ : ∃ y : Str, s1 = st y := ⟨s1.data.toList, (st_of s1).symm⟩
  have w1 : okS x1 := by unfold okS; rw [← st_size]; exact z1
  clear hA0 hval0
  refine (walk x0 x1 W hVars w0 w1).mono fun e W' ⟨he, bel⟩ => ?_
  subst he
  exact ⟨_, rfl, _, _, _, [], _, [], hW', trodAll_mk1 (shut_bool Tryd.underlying4 _), (trodAll_cons_mk (shut_int Tryd.underlying3 w0) (trodAll_cons_mk (Go.ChangeMaps.shut_string Tryd.underlying9 z1) trodAll_mk0)), rfl, bel.frame _, fun h => by cases h⟩

theorem over : Rows.factKeysRow.holds Tryd.pinned (OpenSpec.ofChange Rows.factKeysSpec) :=
  OpenClaim.holds_of_wide 3 Tryd.f3 rfl rfl rfl rfl rfl rfl rfl ⟨rfl, rfl, rfl, rfl, rfl⟩ rfl rfl rfl rfl rfl (by kernel_rfl) Tryd.func3 (by kernel_rfl)
    (of_decide_eq_true (by kernel_rfl)) (by unfold Func.isWrapper; first | (rw [if_pos (by decide +kernel)]; kernel_rfl) | (rw [if_neg (by decide +kernel)]; exact ⟨rfl, rfl⟩))
    (fun os started H enc _ => lifted os started H enc)
theorem stand (j : Nat) (t : TypeId) (ht : Tryd.f3.params[j]? = some t) : Tryd.prog.wantsStandIn t = false := by
  rw [Tryd.params3] at ht
  rcases j with _ | j
  · obtain rfl : 3 = t := by simpa using ht
    kernel_rfl
  rcases j with _ | j
  · obtain rfl : 9 = t := by simpa using ht
    kernel_rfl
  simp at ht
end Go.Proofs.YtpmhilaochfpaaaDoor.factKeys

namespace Go.Proofs.YtpmhilaochfpaaaDoor
theorem factKeys_holds : Rows.FactKeysCardSaid :=
  Claim7.holds_tied_plain_at .later [] [.data, .pinned] true (true, "577d7b892059d4355981c2189e22092bb02f9b333ae6065a85ab26dae50afba3") false
    factKeys.over (fun _ h => by cases h) (by kernel_rfl) (fun _ h => by cases h) factKeys_row_tie rfl ⟨rfl, rfl⟩ (by kernel_rfl) rfl
    (fun f fn hf hfn => by
      obtain rfl : f = 3 := Option.some.inj ((show Tryd.prog.funcNamed Rows.factKeysRow.func = some 3 by kernel_rfl).symm.trans hf) |>.symm
      obtain rfl : fn = Tryd.f3 := (Option.some.inj (Tryd.func3.symm.trans hfn)).symm
      exact ⟨by kernel_rfl, factKeys.stand⟩)
    (by kernel_rfl)
#print axioms factKeys_holds
end Go.Proofs.YtpmhilaochfpaaaDoor
