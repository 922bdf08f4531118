/- For every list of items the call ShowExprs of the statements returns true and its argument reads as it did: no condition but that the library's listed variables lie as the program's text lays them. -/
import Derived.Test.YtemacdimdpnkeaaDoorE13
import Derived.Test.YtemacdimdpnkeaaDoorE8
import Derived.Test.YtemacdimdpnkeaaDoorE17
import Derived.Test.YtemacdimdpnkeaaDoorE18
import Derived.Test.YtemacdimdpnkeaaDoorE19
import Derived.Test.YtemacdimdpnkeaaDoorE9
import Derived.Test.YtemacdimdpnkeaaDoorRows
import Derived.Test.YtemacdimdpnkeaaDoorCards
import Derived.Test.YtemacdimdpnkeaaDoorTie
import Derived.SevenTiedAt
import Derived.SizedLaws
import Derived.ChangeSame
import Derived.ChangeVars
import Derived.ChangeMaps5
import Derived.JoinedOf
import Derived.JoinedAt
import Derived.RowKit3
import Derived.LaidLaws
import Derived.WalkKit
import Derived.ProofKit
import Derived.OpenShut
import Derived.ShutString
import Derived.ChangeOld
import Derived.Below
namespace Go.Proofs.YtemacdimdpnkeaaDoor.showExprs
open Go.ChangeShapes Go.WideShapes Go.ChangeAt Go.RowKit
set_option linter.unusedVariables false
set_option linter.unusedSimpArgs false
set_option maxRecDepth 20000

set_option maxHeartbeats 8000000 in
theorem core (v1 : Value) (xs : List ItemD) (w : World) (hV : Vars w) (h5 : 5 ≤ w.heap.size) (h1 : SlW 5 w (fun _ => True) v1 (xs.map clI)) (hOk : ∀ y ∈ xs, y.Ok) :
    Calls Tryd.prog 3 #[v1] w fun e w' => e = .returned (.bool true) ∧ Below w.heap.size w w' := by
  have HA : Hid (∀ W, Below w.heap.size w W → Calls Tryd.prog 6 #[] W fun e w' => e = .returned (.bool true) ∧ Below W.heap.size W w') := fun W hb => awake_any W (hV.below hb) (Nat.le_trans h5 hb.size)
  obtain ⟨a1, c1, rfl⟩ := h1.shape
  obtain ⟨-, l1, m1, r1⟩ := h1.row
  have CE : Hid (∀ W, Below w.heap.size w W → itemsL xs → Calls Tryd.prog 7 #[.slice a1 (xs.map clI).length c1] W fun e w' => e = .returned (.tuple #[.string (st (shE svd xs)), .bool (shExpr svd xs).isSome]) ∧ Below W.heap.size W w') := fun W hb hl => exp_any _ xs W (h1.keep (P := fun _ _ => True) (k := 0) (Stays.below hb)) (by have := expr_len hl; omega) (gE_of hOk hl) (hV.below hb) (Nat.le_trans h5 hb.size)
  have CX : Hid (∀ W, Below w.heap.size w W → itemsL xs → Calls Tryd.prog 8 #[.slice a1 (xs.map clI).length c1] W (ExPost W xs)) := fun W hb hl => rexp_any _ xs W (h1.keep (P := fun _ _ => True) (k := 0) (Stays.below hb)) hl (gE_of hOk hl).1
  simp only [List.length_map] at *
  have R1 : Hid (∀ i, i < xs.length → ∃ b off, a1 = some ⟨b, off, none⟩ ∧ b < w.heap.size ∧ ∀ j, j < 5 → w.cell? ⟨b, off + (i * 5 + j), none⟩ = ((xs.map clI).getD i [])[j]?) := r1
  clear r1 h1 hV hOk
  have hnn : (xs.length : Int) ≤ 9223372036854775807 := by omega
  go_enter Tryd.func3, Tryd.ntmps3
  go_wp2_with (go_at_call 6; refine (HA.out _ (Below.refl _ _)).mono ?_; rintro e wz ⟨rfl, bz⟩)
  all_goals try (go_ret; exact ⟨rfl, bz⟩)
  have HL : Hid (xs.length ≤ 40) := by show _ ≤ _; omega
  go_loopw [3] (fun v wr => ∃ i : Nat, v = .int .i64 i ∧ i ≤ xs.length ∧ Below w.heap.size w wr ∧ (∀ j, j < i → itemL (xs.getD j ⟨0, v0, []⟩))) (fun v _ => (xs.length - intOf v).toNat)
  case atStart => exact ⟨0, rfl, Nat.zero_le _, Below.refl _ _, fun j hj => absurd hj (Nat.not_lt_zero _)⟩
  case round =>
    obtain ⟨i, rfl, hi, hbr, hno⟩ := hrel
    have NO : Hid (∀ j, j < i → itemL (xs.getD j ⟨0, v0, []⟩)) := hno
    have HB : Hid (Below w.heap.size w wr) := hbr
    clear hno
    by_cases hlt : i < xs.length
    · have hiz : (i : Int) < xs.length := by omega
      obtain ⟨b1, o1, rfl, hb1, q1⟩ := R1.out i hlt
      rw [getD_map clI xs i ⟨0, v0, []⟩ hlt] at q1
      have NX : Hid (itemL (xs.getD i ⟨0, v0, []⟩) → ∀ j, j < i + 1 → itemL (xs.getD j ⟨0, v0, []⟩)) := fun hx => idx_next NO.out hx
      generalize xs.getD i ⟨0, v0, []⟩ = x at q1 NX
      have c3 : wr.cell? ⟨b1, o1 + i * 5 + 3, none⟩ = some (.string (st x.x.s)) := (hbr.cell (p := ⟨b1, o1 + i * 5 + 3, none⟩) hb1).trans (q1 3 (by decide))
      have c4 : wr.cell? ⟨b1, o1 + i * 5 + 4, none⟩ = some (.string (st x.v)) := (hbr.cell (p := ⟨b1, o1 + i * 5 + 4, none⟩) hb1).trans (q1 4 (by decide))
      clear q1 hbr
      go_wp2_with (go_at_call 6; refine (HA.out _ HB.out).mono ?_; rintro e wz ⟨rfl, bz⟩)
      all_goals first | (go_ret; exact ⟨rfl, bt HB.out bz⟩) | skip
      all_goals
        go_roundw
        case rel => exact ⟨i + 1, by simp, by omega, HB.out, NX.out ⟨by have := st_size x.v; omega, by have := st_size x.x.s; omega⟩⟩
        case measure => simp [intOf]; omega
    · have hiz : ¬ (i : Int) < xs.length := by omega
      have HI : itemsL xs := ⟨HL.out, all_idx ⟨0, v0, []⟩ fun j hj => NO.out j (by omega)⟩
      have C7 := fun W (hb : Below w.heap.size w W) => CE.out W hb HI
      have C8 := fun W (hb : Below w.heap.size w W) => CX.out W hb HI
      unfold ExPost at C8
      clear HI hbr
      generalize shE svd xs = sE at *
      generalize (shExpr svd xs).isSome = bE at *
      go_wp2_with (first | (go_at_call 7; refine (C7 _ HB.out).mono ?_; rintro e w1 ⟨rfl, hb1⟩; have B1 : Hid (Below w.heap.size w w1) := bt HB.out hb1; clear hb1 C7) | (go_at_call 8; refine (C8 _ B1.out).mono ?_; rintro e w2 ⟨rfl, hb2⟩; have B2 : Hid (Below w.heap.size w w2) := bt B1.out hb2; clear hb2 C8) | (go_at_call 6; refine (HA.out _ B2.out).mono ?_; rintro e wz ⟨rfl, bz⟩))
      all_goals (go_ret; exact ⟨rfl, bt B2.out bz⟩)
theorem walk (v0 : Value) (x0 : List ItemD) (w : World) (hV : Vars w) (h5 : 5 ≤ w.heap.size) (w0 : SlW 5 w (fun _ => True) v0 (x0.map clI) ∧ ∀ y ∈ x0, y.Ok) : Calls Tryd.prog 3 #[v0] w fun e w' => e = .returned (.bool true) ∧ Below w.heap.size w w' := core v0 x0 w hV h5 w0.1 w0.2
set_option maxRecDepth 100000 in
theorem lifted (os : Os) (started : os.Started) (H : Type) (enc : TypeId × Value → H) :
    ReturnsInHanded {} Tryd.checked os 3 .any (fun w args => (Rows.showExprsSpec.pre enc Tryd.prog Tryd.f3 Rows.showExprsRow.domain false w args ∧ laidMet Tryd.prog laids w) ∧ sizedMet enc Tryd.prog Tryd.f3 (OpenSpec.ofChange Rows.showExprsSpec) false w args)
      (Rows.showExprsSpec.post enc Tryd.prog Tryd.f3 false true false false) := by
  refine returnsInHanded_of_change_and (C := Tryd.checked) (X := fun w _ => laidMet Tryd.prog laids w) (fun _ _ _ hh h => h.of_heap hh) own started (by kernel_rfl) Tryd.func3
    (ChangeSpec.witness_at (enc := enc) (C := Tryd.checked) (os := os) (X := fun w _ => laidMet Tryd.prog laids w) false (laidWorld os) #[.slice none 0 0] 8 rfl (by kernel_rfl) (by kernel_rfl) (by kernel_rfl) (by kernel_rfl) (by kernel_rfl) (laidWorld_met os _)) ?_
  intro W base args ds gs before hval0 hW _ hsz0 hL _
  have hval : ∀ (j : Nat) t v, Tryd.f3.params[j]? = some t → args[j]? = some v → Value.okWide Tryd.prog W .any base t v := hval0
  have hW' := hW
  obtain ⟨p, q, hA0, hV, rfl, hfz, hnd⟩ := hW
  have hA : DataW.TrodAll enc Tryd.prog W 0 (fun _ => true) true Tryd.f3.params.toList args.toList ds p := hA0
  rw [Tryd.params3] at hA hval
  have hVars := vars_of hL
  have hFive := five_of hL
  obtain ⟨v0, vs0, d'0, ds0, q0, r'0, hargs, rfl, rfl, h0, r0⟩ := trodAll_cons hA
  obtain ⟨rfl, rfl, rfl⟩ := trodAll_nil r0
  obtain rfl : args = #[v0] := by cases args; simp_all
  obtain ⟨rfl, rfl⟩ := trodVars_none hV
  have k0' := h0
  have lt0 : ∀ x ∈ q0, x.block < W.heap.size := by obtain ⟨m, hm⟩ := k0'; exact DataW.trod_lt m _ _ _ hm
  obtain ⟨x0, w0⟩ : ∃ x0 : List ItemD, SlW 5 W (fun _ => True) v0 (x0.map clI) ∧ ∀ y ∈ x0, y.Ok := by
    obtain ⟨a0, len0, cap0, rfl⟩ := okWide_slice Tryd.underlying22 (hval 0 22 v0 rfl rfl)
    obtain ⟨fuel, hf⟩ := h0
    exact open_items hf
  clear hA0 hval0
  refine (walk v0 x0 W hVars hFive w0).mono fun e W' ⟨he, bel⟩ => ?_
  subst he
  exact ⟨_, rfl, _, _, _, [], _, [], hW', trodAll_mk1 (shut_bool Tryd.underlying4 _), (trodAll_cons_mk (Below.trod laidOut (by kernel_rfl) (of_decide_eq_true (by kernel_rfl)) k0' bel lt0) trodAll_mk0), rfl, bel.frame _, fun h => by cases h⟩

theorem over : Rows.showExprsRow.holds Tryd.pinned (OpenSpec.ofChange Rows.showExprsSpec) :=
  OpenClaim.holds_of_wide 3 Tryd.f3 rfl rfl rfl rfl rfl rfl rfl ⟨rfl, rfl, rfl, rfl, rfl⟩ rfl rfl rfl rfl rfl (by kernel_rfl) Tryd.func3 (by kernel_rfl)
    (of_decide_eq_true (by kernel_rfl)) (by unfold Func.isWrapper; first | (rw [if_pos (by decide +kernel)]; kernel_rfl) | (rw [if_neg (by decide +kernel)]; exact ⟨rfl, rfl⟩))
    (fun os started H enc _ => lifted os started H enc)
theorem stand (j : Nat) (t : TypeId) (ht : Tryd.f3.params[j]? = some t) : Tryd.prog.wantsStandIn t = false := by
  rw [Tryd.params3] at ht
  rcases j with _ | j
  · obtain rfl : 22 = t := by simpa using ht
    kernel_rfl
  simp at ht
end Go.Proofs.YtemacdimdpnkeaaDoor.showExprs

namespace Go.Proofs.YtemacdimdpnkeaaDoor
theorem showExprs_holds : Rows.ShowExprsCardSaid :=
  Claim7.holds_tied_plain_at .later [] [.data, .data, .data, .data, .pinned] true (true, "3b92d108b1ddcc1272640af032ccb9ef2ee98019ba8daa6ce8a69391fe05a110") false
    showExprs.over (fun _ h => by cases h) (by kernel_rfl) (fun _ h => by cases h) showExprs_row_tie rfl ⟨rfl, rfl⟩ (by kernel_rfl) rfl
    (fun f fn hf hfn => by
      obtain rfl : f = 3 := Option.some.inj ((show Tryd.prog.funcNamed Rows.showExprsRow.func = some 3 by kernel_rfl).symm.trans hf) |>.symm
      obtain rfl : fn = Tryd.f3 := (Option.some.inj (Tryd.func3.symm.trans hfn)).symm
      exact ⟨by kernel_rfl, showExprs.stand⟩)
    (by kernel_rfl)
#print axioms showExprs_holds
end Go.Proofs.YtemacdimdpnkeaaDoor
