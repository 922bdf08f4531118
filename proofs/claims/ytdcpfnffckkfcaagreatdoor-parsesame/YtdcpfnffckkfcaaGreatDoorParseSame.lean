/- For every two programs the call ParseSame of the statements returns true and its arguments read as they did: no condition but that the library's listed variables lie as the program's text lays them. -/
import Derived.Test.YtdcpfnffckkfcaaGreatDoorX8
import Derived.Test.YtdcpfnffckkfcaaGreatDoorX9
import Derived.Test.YtdcpfnffckkfcaaGreatDoorX18
import Derived.Test.YtdcpfnffckkfcaaGreatDoorX19
import Derived.Test.YtdcpfnffckkfcaaGreatDoorX14
import Derived.Test.YtdcpfnffckkfcaaGreatDoorX11
import Derived.Test.YtdcpfnffckkfcaaGreatDoorRows
import Derived.Test.YtdcpfnffckkfcaaGreatDoorCards
import Derived.Test.YtdcpfnffckkfcaaGreatDoorTie
import Derived.SevenTiedAt
import Derived.SizedLaws
import Derived.ChangeSame
import Derived.ChangeVars
import Derived.ChangeMaps5
import Derived.JoinedOf
import Derived.JoinedAt
import Derived.RowKit3
import Derived.LaidLaws
import Derived.WalkKit
import Derived.ProofKit
import Derived.OpenShut
import Derived.ShutString
import Derived.ChangeOld
import Derived.Below
namespace Go.Proofs.YtdcpfnffckkfcaaGreatDoor.parseSame
open Go.ChangeShapes Go.WideShapes Go.ChangeAt Go.RowKit
set_option linter.unusedVariables false
set_option linter.unusedSimpArgs false
set_option maxRecDepth 20000

set_option maxHeartbeats 8000000 in
theorem core (D : Bool) (a0 b0 a1 b1 : Option Addr) (n0 c0 m0 d0 n1 c1 m1 d1 : Nat) (x0 x1 : ProgD) (w : World) (hV : Vars w) (hD : D = decide (x0 = x1)) (h0 : ReP (fun _ _ => True) w [.slice a0 n0 c0, .slice b0 m0 d0] x0) (h1 : ReP (fun _ _ => True) w [.slice a1 n1 c1, .slice b1 m1 d1] x1) :
    Calls Tryz.prog 4 #[.agg #[.slice a0 n0 c0, .slice b0 m0 d0], .agg #[.slice a1 n1 c1, .slice b1 m1 d1]] w fun e w' => e = .returned (.bool true) ∧ Below w.heap.size w w' := by
  have HA : Hid (∀ W, Below w.heap.size w W → Calls Tryz.prog 8 #[] W fun e w' => e = .returned (.bool true) ∧ Below W.heap.size W w') := fun W hb => awake_any W (hV.below hb)
  have CL0 : Hid (∀ W, Below w.heap.size w W → Calls Tryz.prog 12 #[.agg #[.slice a0 n0 c0, .slice b0 m0 d0]] W (Some1 W)) := fun W hb => light_any [.slice a0 n0 c0, .slice b0 m0 d0] x0 W (ReP.keep (Stays.below hb) h0)
  have CL1 : Hid (∀ W, Below w.heap.size w W → Calls Tryz.prog 12 #[.agg #[.slice a1 n1 c1, .slice b1 m1 d1]] W (Some1 W)) := fun W hb => light_any [.slice a1 n1 c1, .slice b1 m1 d1] x1 W (ReP.keep (Stays.below hb) h1)
  have CP : Hid (∀ W, Below w.heap.size w W → Calls Tryz.prog 13 #[.agg #[.slice a0 n0 c0, .slice b0 m0 d0], .agg #[.slice a1 n1 c1, .slice b1 m1 d1]] W fun e w' => e = .returned (.bool (decide (x0 = x1))) ∧ Below W.heap.size W w') := fun W hb => psameP_any [.slice a0 n0 c0, .slice b0 m0 d0] [.slice a1 n1 c1, .slice b1 m1 d1] x0 x1 W (ReP.keep (Stays.below hb) h0) (ReP.keep (Stays.below hb) h1)
  have CR : Hid (∀ W, Below w.heap.size w W → Calls Tryz.prog 11 #[.agg #[.slice a0 n0 c0, .slice b0 m0 d0], .agg #[.slice a1 n1 c1, .slice b1 m1 d1]] W fun e w' => e = .returned (.bool (decide (x0 = x1))) ∧ Below W.heap.size W w') := fun W hb => same_any [.slice a0 n0 c0, .slice b0 m0 d0] [.slice a1 n1 c1, .slice b1 m1 d1] x0 x1 W (ReP.keep (Stays.below hb) h0) (ReP.keep (Stays.below hb) h1)
  have CQ : Hid (∀ W, Below w.heap.size w W → Calls Tryz.prog 13 #[.agg #[.slice a0 n0 c0, .slice b0 m0 d0], .agg #[.slice a0 n0 c0, .slice b0 m0 d0]] W fun e w' => e = .returned (.bool true) ∧ Below W.heap.size W w') := fun W hb => by
    have := psameP_any [.slice a0 n0 c0, .slice b0 m0 d0] [.slice a0 n0 c0, .slice b0 m0 d0] x0 x0 W (ReP.keep (Stays.below hb) h0) (ReP.keep (Stays.below hb) h0)
    rw [decide_eq_true rfl] at this
    exact this
  rw [← hD] at CP CR
  have tk1 : Hid True := trivial
  have tk2 : Hid True := trivial
  have tk3 : Hid True := trivial
  have tk4 : Hid True := trivial
  clear h0 h1 hD hV
  go_enter Tryz.func4, Tryz.ntmps4
  go_wp2_with (first
    | (go_at_call 12; have tku := tk1; clear tku tk1; refine (CL0.out _ (bt (bt (bxn _ _) (bxn _ _)) (Below.refl _ _))).mono ?_; rintro e w1 ⟨z1, rfl, hb1⟩; have B1 : Hid (Below w.heap.size w w1) := bt (bt (bxn _ _) (bxn _ _)) hb1; obtain ⟨hc, hf⟩ := bcell hb1; clear hb1; have pw10 : w1.cell? ⟨w.heap.size, 0, none⟩ = some (.slice a0 n0 c0) := by { rw [hc _ _ (by simp <;> omega)]; go_simp }; have pw11 : w1.cell? ⟨w.heap.size, 1, none⟩ = some (.slice b0 m0 d0) := by { rw [hc _ _ (by simp <;> omega)]; go_simp }; have pw12 : w1.cell? ⟨w.heap.size + 1, 0, none⟩ = some (.slice a1 n1 c1) := by { rw [hc _ _ (by simp <;> omega)]; go_simp }; have pw13 : w1.cell? ⟨w.heap.size + 1, 1, none⟩ = some (.slice b1 m1 d1) := by { rw [hc _ _ (by simp <;> omega)]; go_simp }; clear hc hf)
    | (go_at_call 12; have tku := tk2; clear tku tk2; refine (CL1.out _ (B1.out)).mono ?_; rintro e w2 ⟨z2, rfl, hb2⟩; have B2 : Hid (Below w.heap.size w w2) := bt B1.out hb2; have SZ2 : Hid (w1.heap.size ≤ w2.heap.size) := hb2.size; obtain ⟨hc, hf⟩ := bcell hb2; clear hb2; have pw20 : w2.cell? ⟨w.heap.size, 0, none⟩ = some (.slice a0 n0 c0) := by { rw [hc _ _ (World.block_lt_of_cell? _ _ pw10)]; exact pw10 }; have pw21 : w2.cell? ⟨w.heap.size, 1, none⟩ = some (.slice b0 m0 d0) := by { rw [hc _ _ (World.block_lt_of_cell? _ _ pw11)]; exact pw11 }; have pw22 : w2.cell? ⟨w.heap.size + 1, 0, none⟩ = some (.slice a1 n1 c1) := by { rw [hc _ _ (World.block_lt_of_cell? _ _ pw12)]; exact pw12 }; have pw23 : w2.cell? ⟨w.heap.size + 1, 1, none⟩ = some (.slice b1 m1 d1) := by { rw [hc _ _ (World.block_lt_of_cell? _ _ pw13)]; exact pw13 }; clear pw10; clear pw11; clear pw12; clear pw13; clear hc hf)
    | (go_at_call 8; refine (HA.out _ (by first | exact B2.out | exact B1.out)).mono ?_; rintro e wz ⟨rfl, bz⟩))
  all_goals try (go_ret; exact ⟨rfl, bt B2.out bz⟩)
  all_goals try (go_ret; exact ⟨rfl, bt B1.out bz⟩)
  have SL : Hid (∀ W, Below w2.heap.size w2 W → W.cell? ⟨w.heap.size, 0, none⟩ = some (.slice a0 n0 c0) ∧ W.cell? ⟨w.heap.size, 1, none⟩ = some (.slice b0 m0 d0) ∧ W.cell? ⟨w.heap.size + 1, 0, none⟩ = some (.slice a1 n1 c1) ∧ W.cell? ⟨w.heap.size + 1, 1, none⟩ = some (.slice b1 m1 d1)) := fun W hW => ⟨(hW.cell (World.block_lt_of_cell? _ _ pw20)).trans pw20, (hW.cell (World.block_lt_of_cell? _ _ pw21)).trans pw21, (hW.cell (World.block_lt_of_cell? _ _ pw22)).trans pw22, (hW.cell (World.block_lt_of_cell? _ _ pw23)).trans pw23⟩
  clear pw20 pw21 pw22 pw23
  go_region_held3 (fun W => W.cell? ⟨w.heap.size, 0, none⟩ = some (.slice a0 n0 c0) ∧ W.cell? ⟨w.heap.size, 1, none⟩ = some (.slice b0 m0 d0) ∧ W.cell? ⟨w.heap.size + 1, 0, none⟩ = some (.slice a1 n1 c1) ∧ W.cell? ⟨w.heap.size + 1, 1, none⟩ = some (.slice b1 m1 d1)) (first | exact SL.out _ (Below.refl _ _).drew | exact SL.out _ BW3.out | exact SL.out _ BW4.out | exact SL.out _ BW5.out | exact SL.out _ BWz.out) (first
    | (go_at_call 13; have tku := tk3; clear tku tk3; refine (CP.out _ (B2.out.drew)).mono ?_; clear CP; rintro e w3 ⟨rfl, hb3⟩; have BW3 : Hid (Below w2.heap.size w2 w3) := (Below.refl _ _).drew.trans hb3; have B3 : Hid (Below w.heap.size w w3) := bt B2.out BW3.out; clear hb3)
    | (go_at_call 11; refine (CR.out _ (B3.out)).mono ?_; clear CR; rintro e w4 ⟨rfl, hb4⟩; have BW4 : Hid (Below w2.heap.size w2 w4) := bt BW3.out hb4; have B4 : Hid (Below w.heap.size w w4) := bt B3.out hb4; clear hb4)
    | (go_at_call 13; have tku := tk4; clear tku tk4; refine (CQ.out _ (B4.out)).mono ?_; clear CQ; rintro e w5 ⟨rfl, hb5⟩; have BW5 : Hid (Below w2.heap.size w2 w5) := bt BW4.out hb5; have B5 : Hid (Below w.heap.size w w5) := bt B4.out hb5; clear hb5)
    | (go_at_call 8; refine (HA.out _ B5.out).mono ?_; clear HA; rintro e wz ⟨rfl, bz⟩; have BWz : Hid (Below w2.heap.size w2 wz) := bt BW5.out bz))
  all_goals (go_wp2; go_ret; exact ⟨rfl, bt B5.out bz⟩)
theorem walk (cs0 : List Value) (x0 : ProgD) (cs1 : List Value) (x1 : ProgD) (w : World) (hV : Vars w) (w0 : ReP (fun _ _ => True) w cs0 x0 ∧ x0.Ok) (w1 : ReP (fun _ _ => True) w cs1 x1 ∧ x1.Ok) : Calls Tryz.prog 4 #[.agg cs0.toArray, .agg cs1.toArray] w fun e w' => e = .returned (.bool true) ∧ Below w.heap.size w w' := by
  obtain ⟨w0, -⟩ := w0
  obtain ⟨w1, -⟩ := w1
  obtain ⟨v0, v0', rfl, r0, r0'⟩ := w0
  obtain ⟨v1, v1', rfl, r1, r1'⟩ := w1
  obtain ⟨a0, n0, c0, rfl⟩ := r0.like
  obtain ⟨b0, m0, d0, rfl⟩ := r0'.like
  obtain ⟨a1, n1, c1, rfl⟩ := r1.like
  obtain ⟨b1, m1, d1, rfl⟩ := r1'.like
  exact core _ _ _ _ _ _ _ _ _ _ _ _ _ x0 x1 w hV rfl ⟨_, _, rfl, r0, r0'⟩ ⟨_, _, rfl, r1, r1'⟩
set_option maxRecDepth 100000 in
theorem lifted (os : Os) (started : os.Started) (H : Type) (enc : TypeId × Value → H) :
    ReturnsInHanded {} Tryz.checked os 4 .any (fun w args => (Rows.parseSameSpec.pre enc Tryz.prog Tryz.f4 Rows.parseSameRow.domain false w args ∧ laidMet Tryz.prog laids w) ∧ sizedMet enc Tryz.prog Tryz.f4 (OpenSpec.ofChange Rows.parseSameSpec) false w args)
      (Rows.parseSameSpec.post enc Tryz.prog Tryz.f4 false true false false) := by
  refine returnsInHanded_of_change_and (C := Tryz.checked) (X := fun w _ => laidMet Tryz.prog laids w) (fun _ _ _ hh h => h.of_heap hh) own started (by kernel_rfl) Tryz.func4
    (ChangeSpec.witness_at (enc := enc) (C := Tryz.checked) (os := os) (X := fun w _ => laidMet Tryz.prog laids w) false (laidWorld os) #[.agg #[.slice none 0 0, .slice none 0 0], .agg #[.slice none 0 0, .slice none 0 0]] 8 rfl (by kernel_rfl) (by kernel_rfl) (by kernel_rfl) (by kernel_rfl) (by kernel_rfl) (laidWorld_met os _)) ?_
  intro W base args ds gs before hval0 hW _ hsz0 hL _
  have hval : ∀ (j : Nat) t v, Tryz.f4.params[j]? = some t → args[j]? = some v → Value.okWide Tryz.prog W .any base t v := hval0
  have hW' := hW
  obtain ⟨p, q, hA0, hV, rfl, hfz, hnd⟩ := hW
  have hA : DataW.TrodAll enc Tryz.prog W 0 (fun _ => true) true Tryz.f4.params.toList args.toList ds p := hA0
  rw [Tryz.params4] at hA hval
  have hVars := vars_of hL
  obtain ⟨v0, vs0, d'0, ds0, q0, r'0, hargs, rfl, rfl, h0, r0⟩ := trodAll_cons hA
  obtain ⟨v1, vs1, d'1, ds1, q1, r'1, rfl, rfl, rfl, h1, r1⟩ := trodAll_cons r0
  obtain ⟨rfl, rfl, rfl⟩ := trodAll_nil r1
  obtain rfl : args = #[v0, v1] := by cases args; simp_all
  obtain ⟨rfl, rfl⟩ := trodVars_none hV
  have k0' := h0
  have lt0 : ∀ x ∈ q0, x.block < W.heap.size := by obtain ⟨m, hm⟩ := k0'; exact DataW.trod_lt m _ _ _ hm
  obtain ⟨cs0, x0, rfl, w0⟩ := arg_prog (hval 0 26 v0 rfl rfl) h0
  have k1' := h1
  have lt1 : ∀ x ∈ q1, x.block < W.heap.size := by obtain ⟨m, hm⟩ := k1'; exact DataW.trod_lt m _ _ _ hm
  obtain ⟨cs1, x1, rfl, w1⟩ := arg_prog (hval 1 26 v1 rfl rfl) h1
  clear hA0 hval0
  refine (walk cs0 x0 cs1 x1 W hVars w0 w1).mono fun e W' ⟨he, bel⟩ => ?_
  subst he
  exact ⟨_, rfl, _, _, _, [], _, [], hW', trodAll_mk1 (shut_bool Tryz.underlying4 _), (trodAll_cons_mk (Below.trod laidOut (by kernel_rfl) (of_decide_eq_true (by kernel_rfl)) k0' bel lt0) (trodAll_cons_mk (Below.trod laidOut (by kernel_rfl) (of_decide_eq_true (by kernel_rfl)) k1' bel lt1) trodAll_mk0)), rfl, bel.frame _, fun h => by cases h⟩

theorem over : Rows.parseSameRow.holds Tryz.pinned (OpenSpec.ofChange Rows.parseSameSpec) :=
  OpenClaim.holds_of_wide 4 Tryz.f4 rfl rfl rfl rfl rfl rfl rfl ⟨rfl, rfl, rfl, rfl, rfl⟩ rfl rfl rfl rfl rfl (by kernel_rfl) Tryz.func4 (by kernel_rfl)
    (of_decide_eq_true (by kernel_rfl)) (by unfold Func.isWrapper; first | (rw [if_pos (by decide +kernel)]; kernel_rfl) | (rw [if_neg (by decide +kernel)]; exact ⟨rfl, rfl⟩))
    (fun os started H enc _ => lifted os started H enc)
theorem stand (j : Nat) (t : TypeId) (ht : Tryz.f4.params[j]? = some t) : Tryz.prog.wantsStandIn t = false := by
  rw [Tryz.params4] at ht
  rcases j with _ | j
  · obtain rfl : 26 = t := by simpa using ht
    kernel_rfl
  rcases j with _ | j
  · obtain rfl : 26 = t := by simpa using ht
    kernel_rfl
  simp at ht
end Go.Proofs.YtdcpfnffckkfcaaGreatDoor.parseSame

namespace Go.Proofs.YtdcpfnffckkfcaaGreatDoor
theorem parseSame_holds : Rows.ParseSameCardSaid :=
  Claim7.holds_tied_plain_at .later [] [.data, .data, .data, .data, .sentinel, .sentinel, .pinned] true (true, "eac5dfe871dd8c8697ebc408eddb0b9f7814784c1ba684075d0b799b768a7caf") true
    parseSame.over (fun _ h => by cases h) (by kernel_rfl) (fun _ h => by cases h) parseSame_row_tie rfl ⟨rfl, rfl⟩ (by kernel_rfl) rfl
    (fun f fn hf hfn => by
      obtain rfl : f = 4 := Option.some.inj ((show Tryz.prog.funcNamed Rows.parseSameRow.func = some 4 by kernel_rfl).symm.trans hf) |>.symm
      obtain rfl : fn = Tryz.f4 := (Option.some.inj (Tryz.func4.symm.trans hfn)).symm
      exact ⟨by kernel_rfl, parseSame.stand⟩)
    (by kernel_rfl)
#print axioms parseSame_holds
end Go.Proofs.YtdcpfnffckkfcaaGreatDoor
