/- For every text the call ShowBack of the statements returns true and its argument reads as it did: no condition but that the library's listed variables lie as the program's text lays them. -/
import Derived.Test.YtemacdimdpnkeaaGreatDoorB9
import Derived.Test.YtemacdimdpnkeaaGreatDoorB10
import Derived.Test.YtemacdimdpnkeaaGreatDoorB17
import Derived.Test.YtemacdimdpnkeaaGreatDoorB24
import Derived.Test.YtemacdimdpnkeaaGreatDoorB12
import Derived.Test.YtemacdimdpnkeaaGreatDoorRows
import Derived.Test.YtemacdimdpnkeaaGreatDoorCards
import Derived.Test.YtemacdimdpnkeaaGreatDoorTie
import Derived.SevenTiedAt
import Derived.SizedLaws
import Derived.ChangeSame
import Derived.ChangeVars
import Derived.ChangeMaps5
import Derived.JoinedOf
import Derived.JoinedAt
import Derived.RowKit3
import Derived.LaidLaws
import Derived.WalkKit
import Derived.ProofKit
import Derived.OpenShut
import Derived.ShutString
import Derived.ChangeOld
import Derived.Below
namespace Go.Proofs.YtemacdimdpnkeaaGreatDoor.showBack
open Go.ChangeShapes Go.WideShapes Go.ChangeAt Go.RowKit
set_option linter.unusedVariables false
set_option linter.unusedSimpArgs false
set_option maxRecDepth 20000

theorem five {w : World} (h : Vars w) : 5 ≤ w.heap.size := by
  obtain ⟨v, hc, -⟩ := h.rng
  exact cell_lt hc
/-- A program in memory, somehow. -/
def RProgE (W : World) (cs : List Value) (p : ProgD) : Prop := ∃ P : Nat → Nat → Prop, ReP P W cs p
set_option maxHeartbeats 8000000 in
theorem walk (s0 : ByteArray) (w : World) (hV : Vars w) (w0 : s0.size ≤ maxLen) : Calls Tryz.prog 3 #[.string s0] w fun e w' => e = .returned (.bool true) ∧ Below w.heap.size w w' := by
  have h5 := five hV
  have HA : Hid (∀ W, Below w.heap.size w W → Calls Tryz.prog 4 #[] W fun e w' => e = .returned (.bool true) ∧ Below W.heap.size W w') := fun W hb => awake_any W (hV.below hb) (Nat.le_trans h5 hb.size)
  by_cases hl : 1500 < s0.size
  · have hz : (1500 : Int) < s0.size := by omega
    go_enter Tryz.func3, Tryz.ntmps3
    go_wp2_with (go_at_call 4; refine (HA.out _ (Below.refl _ _)).mono ?_; rintro e wz ⟨rfl, bz⟩)
    go_ret
    exact ⟨rfl, bz⟩
  · have hz : ¬ (1500 : Int) < s0.size := by omega
    have hll : s0.data.toList.length ≤ 1500 := by rw [lenL]; omega
    have CP := pparse_any s0 w (by omega) hV
    have HV : Hid (Vars w) := hV
    by_cases hp : (parP s0.data.toList).2 = 0
    · obtain ⟨hb1, hb2⟩ := back_par hp
      have hg := gP_par (by omega) hp
      have CS : Hid (∀ W, Vars W → Calls Tryz.prog 5 #[.string (st (shText svd (parP s0.data.toList).1))] W (PaPost W ((parP s0.data.toList).1, 0))) := fun W hW => by
        have := pparse_any (st (shText svd (parP s0.data.toList).1)) W (by rw [st_size]; omega) hW
        rw [st_list, hb1] at this
        exact this
      have CT : Hid (∀ W cs, RProgE W cs (parP s0.data.toList).1 → Vars W → Calls Tryz.prog 6 #[.agg cs.toArray] W (Says W (shText svd (parP s0.data.toList).1))) := fun W cs hR hW => by
        obtain ⟨P, hR⟩ := hR
        exact text_any cs _ W hR (by omega) hg hW (five hW)
      have CQ : Hid (∀ W cs1 cs2, RProgE W cs1 (parP s0.data.toList).1 → RProgE W cs2 (parP s0.data.toList).1 → Calls Tryz.prog 7 #[.agg cs1.toArray, .agg cs2.toArray] W fun e w' => e = .returned (.bool true) ∧ Below W.heap.size W w') := fun W cs1 cs2 hR1 hR2 => by
        obtain ⟨P1, hR1⟩ := hR1
        obtain ⟨P2, hR2⟩ := hR2
        have := same_any cs1 cs2 _ _ W hR1 hR2
        rw [decide_eq_true rfl] at this
        exact this
      rw [show parP s0.data.toList = ((parP s0.data.toList).1, 0) from Prod.ext rfl hp] at CP
      generalize shText svd (parP s0.data.toList).1 = tx at CS CT
      generalize (parP s0.data.toList).1 = pr at CP CS CT CQ
      have hbe : ((st tx).toList == (st tx).toList) = true := by simp
      clear hp hb1 hb2 hg hll hV
      unfold PaPost at CP CS
      unfold Says at CT
      have tk1 : Hid True := trivial
      have tk2 : Hid True := trivial
      have tk3 : Hid True := trivial
      have tk4 : Hid True := trivial
      go_enter Tryz.func3, Tryz.ntmps3
      go_wp2_with (first
        | (go_at_call 5; have tku := tk1; clear tku tk1; refine CP.mono ?_; rintro e w1 ⟨a1, n1, c1, a2, n2, c2, rfl, hR1, hb1⟩
           have R1 : Hid (∀ W, Below w1.heap.size w1 W → RProgE W [.slice a1 n1 c1, .slice a2 n2 c2] pr) := fun W hW => ⟨_, ReP.keep (Stays.below hW) hR1⟩
           have B1 : Hid (Below w.heap.size w w1) := hb1
           have B1' : Hid (Below w.heap.size w (w1.alloc (.cells #[.slice a1 n1 c1, .slice a2 n2 c2] 26))) := bt hb1 (bxn _ _)
           have X1 : Hid (∀ W, Below (w1.alloc (.cells #[.slice a1 n1 c1, .slice a2 n2 c2] 26)).heap.size (w1.alloc (.cells #[.slice a1 n1 c1, .slice a2 n2 c2] 26)) W → W.cell? ⟨w1.heap.size, 0, none⟩ = some (.slice a1 n1 c1) ∧ W.cell? ⟨w1.heap.size, 1, none⟩ = some (.slice a2 n2 c2) ∧ w1.heap.size < W.heap.size ∧ RProgE W [.slice a1 n1 c1, .slice a2 n2 c2] pr ∧ Vars W ∧ Below w.heap.size w W) := fun W hW =>
             ⟨by rw [hW.cell (p := ⟨w1.heap.size, 0, none⟩) (by simp)]; simp, by rw [hW.cell (p := ⟨w1.heap.size, 1, none⟩) (by simp)]; simp, by have := hW.size; simp at this; omega, R1.out W (bt (bxn _ _) hW), HV.out.below (bt B1'.out hW), bt B1'.out hW⟩
           clear CP hR1 hb1)
        | (go_at_call 6; have tku := tk2; clear tku tk2; refine (CT.out _ _ (R1.out _ (bxn _ _)) (HV.out.below B1'.out)).mono ?_; rintro e w2 ⟨rfl, hb2⟩
           have B2 : Hid (Below (w1.alloc (.cells #[.slice a1 n1 c1, .slice a2 n2 c2] 26)).heap.size (w1.alloc (.cells #[.slice a1 n1 c1, .slice a2 n2 c2] 26)) w2) := hb2
           clear hb2)
        | (go_at_call 5; have tku := tk3; clear tku tk3; refine (CS.out _ (X1.out _ B2.out).2.2.2.2.1).mono ?_; rintro e w3 ⟨a3, n3, c3, a4, n4, c4, rfl, hR3, hb3⟩
           have B3 : Hid (Below (w1.alloc (.cells #[.slice a1 n1 c1, .slice a2 n2 c2] 26)).heap.size (w1.alloc (.cells #[.slice a1 n1 c1, .slice a2 n2 c2] 26)) (w3.alloc (.cells #[.slice a3 n3 c3, .slice a4 n4 c4] 26))) := bt (bt B2.out hb3) (bxn _ _)
           obtain ⟨y0, y1, y2, y3, y4, y5⟩ := X1.out _ (bt B2.out hb3)
           have R3 : Hid (∀ W, Below w3.heap.size w3 W → RProgE W [.slice a3 n3 c3, .slice a4 n4 c4] pr) := fun W hW => ⟨_, ReP.keep (Stays.below hW) hR3⟩
           have X3 : Hid (∀ W, Below (w3.alloc (.cells #[.slice a3 n3 c3, .slice a4 n4 c4] 26)).heap.size (w3.alloc (.cells #[.slice a3 n3 c3, .slice a4 n4 c4] 26)) W → W.cell? ⟨w3.heap.size, 0, none⟩ = some (.slice a3 n3 c3) ∧ W.cell? ⟨w3.heap.size, 1, none⟩ = some (.slice a4 n4 c4) ∧ RProgE W [.slice a3 n3 c3, .slice a4 n4 c4] pr) := fun W hW =>
             ⟨by rw [hW.cell (p := ⟨w3.heap.size, 0, none⟩) (by simp)]; simp, by rw [hW.cell (p := ⟨w3.heap.size, 1, none⟩) (by simp)]; simp, R3.out W (bt (bxn _ _) hW)⟩
           clear hR3 hb3)
        | (go_at_call 7; refine (CQ.out _ _ _ (X1.out _ B3.out).2.2.2.1 (R3.out _ (bxn _ _))).mono ?_; rintro e w4 ⟨rfl, hb4⟩
           have B4 : Hid (Below (w1.alloc (.cells #[.slice a1 n1 c1, .slice a2 n2 c2] 26)).heap.size (w1.alloc (.cells #[.slice a1 n1 c1, .slice a2 n2 c2] 26)) w4) := bt B3.out hb4
           obtain ⟨z0, z1, z2⟩ := X3.out w4 hb4
           have R4 : Hid (RProgE w4 [.slice a3 n3 c3, .slice a4 n4 c4] pr) := z2
           clear hb4)
        | (go_at_call 6; have tku := tk4; clear tku tk4; refine (CT.out _ _ R4.out (X1.out _ B4.out).2.2.2.2.1).mono ?_; rintro e w5 ⟨rfl, hb5⟩
           have B5 : Hid (Below (w1.alloc (.cells #[.slice a1 n1 c1, .slice a2 n2 c2] 26)).heap.size (w1.alloc (.cells #[.slice a1 n1 c1, .slice a2 n2 c2] 26)) w5) := bt B4.out hb5
           clear hb5)
        | (go_at_call 4; refine (HA.out _ (X1.out _ B5.out).2.2.2.2.2).mono ?_; rintro e w6 ⟨rfl, hb6⟩
           have B6 : Hid (Below w.heap.size w w6) := bt (X1.out _ B5.out).2.2.2.2.2 hb6))
      go_ret
      exact ⟨rfl, B6.out⟩
    · have hpz : ¬ ((parP s0.data.toList).2 : Int) = 0 := by omega
      generalize parP s0.data.toList = G at *
      unfold PaPost at CP
      clear hp
      go_enter Tryz.func3, Tryz.ntmps3
      go_wp2_with (first
        | (go_at_call 5; refine CP.mono ?_; rintro e w1 ⟨a1, n1, c1, a2, n2, c2, rfl, hR1, hb1⟩; have B1 : Hid (Below w.heap.size w w1) := hb1; clear CP hR1 hb1)
        | (go_at_call 4; refine (HA.out _ (bt B1.out (bxn _ _))).mono ?_; rintro e wz ⟨rfl, bz⟩))
      go_ret
      exact ⟨rfl, bt (bt B1.out (bxn _ _)) bz⟩
set_option maxRecDepth 100000 in
theorem lifted (os : Os) (started : os.Started) (H : Type) (enc : TypeId × Value → H) :
    ReturnsInHanded {} Tryz.checked os 3 .any (fun w args => (Rows.showBackSpec.pre enc Tryz.prog Tryz.f3 Rows.showBackRow.domain false w args ∧ laidMet Tryz.prog laids w) ∧ sizedMet enc Tryz.prog Tryz.f3 (OpenSpec.ofChange Rows.showBackSpec) false w args)
      (Rows.showBackSpec.post enc Tryz.prog Tryz.f3 false true false false) := by
  refine returnsInHanded_of_change_and (C := Tryz.checked) (X := fun w _ => laidMet Tryz.prog laids w) (fun _ _ _ hh h => h.of_heap hh) own started (by kernel_rfl) Tryz.func3
    (ChangeSpec.witness_at (enc := enc) (C := Tryz.checked) (os := os) (X := fun w _ => laidMet Tryz.prog laids w) false (laidWorld os) #[.string ByteArray.empty] 8 rfl (by kernel_rfl) (by kernel_rfl) (by kernel_rfl) (by kernel_rfl) (by kernel_rfl) (laidWorld_met os _)) ?_
  intro W base args ds gs before hval0 hW _ hsz0 hL _
  have hval : ∀ (j : Nat) t v, Tryz.f3.params[j]? = some t → args[j]? = some v → Value.okWide Tryz.prog W .any base t v := hval0
  have hW' := hW
  obtain ⟨p, q, hA0, hV, rfl, hfz, hnd⟩ := hW
  have hA : DataW.TrodAll enc Tryz.prog W 0 (fun _ => true) true Tryz.f3.params.toList args.toList ds p := hA0
  rw [Tryz.params3] at hA hval
  have hVars := vars_of hL
  obtain ⟨v0, vs0, d'0, ds0, q0, r'0, hargs, rfl, rfl, h0, r0⟩ := trodAll_cons hA
  obtain ⟨rfl, rfl, rfl⟩ := trodAll_nil r0
  obtain rfl : args = #[v0] := by cases args; simp_all
  obtain ⟨rfl, rfl⟩ := trodVars_none hV
  obtain ⟨s0, rfl, rfl, rfl, w0⟩ := Go.ChangeMaps.open_string Tryz.underlying9 (hval 0 9 v0 rfl rfl) h0
  clear hA0 hval0
  refine (walk s0 W hVars w0).mono fun e W' ⟨he, bel⟩ => ?_
  subst he
  exact ⟨_, rfl, _, _, _, [], _, [], hW', trodAll_mk1 (shut_bool Tryz.underlying4 _), (trodAll_cons_mk (Go.ChangeMaps.shut_string Tryz.underlying9 w0) trodAll_mk0), rfl, bel.frame _, fun h => by cases h⟩

theorem over : Rows.showBackRow.holds Tryz.pinned (OpenSpec.ofChange Rows.showBackSpec) :=
  OpenClaim.holds_of_wide 3 Tryz.f3 rfl rfl rfl rfl rfl rfl rfl ⟨rfl, rfl, rfl, rfl, rfl⟩ rfl rfl rfl rfl rfl (by kernel_rfl) Tryz.func3 (by kernel_rfl)
    (of_decide_eq_true (by kernel_rfl)) (by unfold Func.isWrapper; first | (rw [if_pos (by decide +kernel)]; kernel_rfl) | (rw [if_neg (by decide +kernel)]; exact ⟨rfl, rfl⟩))
    (fun os started H enc _ => lifted os started H enc)
theorem stand (j : Nat) (t : TypeId) (ht : Tryz.f3.params[j]? = some t) : Tryz.prog.wantsStandIn t = false := by
  rw [Tryz.params3] at ht
  rcases j with _ | j
  · obtain rfl : 9 = t := by simpa using ht
    kernel_rfl
  simp at ht
end Go.Proofs.YtemacdimdpnkeaaGreatDoor.showBack

namespace Go.Proofs.YtemacdimdpnkeaaGreatDoor
theorem showBack_holds : Rows.ShowBackCardSaid :=
  Claim7.holds_tied_plain_at .later [] [.data, .data, .data, .data, .sentinel, .sentinel, .pinned] true (true, "cbc5ef850d888f6542fb85bdf45c6fab85387404c0c60558aa33166cbe4fe21f") true
    showBack.over (fun _ h => by cases h) (by kernel_rfl) (fun _ h => by cases h) showBack_row_tie rfl ⟨rfl, rfl⟩ (by kernel_rfl) rfl
    (fun f fn hf hfn => by
      obtain rfl : f = 3 := Option.some.inj ((show Tryz.prog.funcNamed Rows.showBackRow.func = some 3 by kernel_rfl).symm.trans hf) |>.symm
      obtain rfl : fn = Tryz.f3 := (Option.some.inj (Tryz.func3.symm.trans hfn)).symm
      exact ⟨by kernel_rfl, showBack.stand⟩)
    (by kernel_rfl)
#print axioms showBack_holds
end Go.Proofs.YtemacdimdpnkeaaGreatDoor
