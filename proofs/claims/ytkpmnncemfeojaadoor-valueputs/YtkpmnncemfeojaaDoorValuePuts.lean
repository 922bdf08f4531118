/- For every value and every bytes the call ValuePuts of the statements returns true and its arguments read as they did: no condition but that the library's listed variables lie as the program's text lays them. -/
import Derived.Test.YtkpmnncemfeojaaDoorRows
import Derived.Test.YtkpmnncemfeojaaDoorCards
import Derived.Test.YtkpmnncemfeojaaDoorTie
import Derived.Test.YtkpmnncemfeojaaDoorArg
import Derived.Test.YtkpmnncemfeojaaDoorRn
import Derived.Test.YtkpmnncemfeojaaDoorAw
import Derived.SevenTiedAt
import Derived.SizedLaws
import Derived.ChangeSame
import Derived.ChangeVars
import Derived.ChangeMaps5
import Derived.JoinedOf
import Derived.JoinedAt
import Derived.RowKit3
import Derived.LaidLaws
import Derived.WalkKit
import Derived.ProofKit
import Derived.OpenShut
import Derived.ShutString
import Derived.ChangeOld
import Derived.Below
import Derived.Test.YtkpmnncemfeojaaDoorRh
namespace Go.Proofs.YtkpmnncemfeojaaDoor.valuePuts
open Go.ChangeShapes Go.WideShapes Go.ChangeAt Go.RowKit
set_option linter.unusedVariables false
set_option linter.unusedSimpArgs false
set_option maxRecDepth 20000

set_option maxHeartbeats 1600000 in
theorem walk_a (k0 n0 : Int) (s0 : ByteArray) (a1 : Option Addr) (len1 cap1 : Nat) (y1 : List Int) (w : World) (hV : Vars w) (w0 : WfV k0 n0 s0) (w1 : y1.length = len1 ∧ BV w a1 y1 ∧ (a1 = none → cap1 = 0) ∧ len1 ≤ cap1 ∧ cap1 ≤ 9223372036854775807) (h : 200 < s0.size) : Calls Tryd.prog 5 #[vv k0 n0 s0, .slice a1 len1 cap1] w fun e w' => e = .returned (.bool true) ∧ Below w.heap.size w w' := by
  have HA := awake_any
  obtain ⟨hk0, hk1, hn0, hn1, hs1⟩ := w0
  obtain ⟨hyl, hbv, hnn, hlc, hcm⟩ := w1
  unfold maxLen at hs1
  unfold vv
  have h3 : decide ((200 : Int) < (s0.size : Int)) = true := by simp; omega
  go_enter Tryd.func5, Tryd.ntmps5
  go_wp2_with (first | (go_at_call 9; refine (HA _ (hV.below (box1 _ _))).mono ?_; rintro e wz ⟨rfl, bz⟩; clear HA))
  go_ret
  exact ⟨rfl, bt (box1 _ _) bz⟩
set_option maxHeartbeats 1600000 in
theorem walk_b (k0 n0 : Int) (s0 : ByteArray) (a1 : Option Addr) (len1 cap1 : Nat) (y1 : List Int) (w : World) (hV : Vars w) (w0 : WfV k0 n0 s0) (w1 : y1.length = len1 ∧ BV w a1 y1 ∧ (a1 = none → cap1 = 0) ∧ len1 ≤ cap1 ∧ cap1 ≤ 9223372036854775807) (h : ¬ 200 < s0.size) (h2 : 200 < len1) : Calls Tryd.prog 5 #[vv k0 n0 s0, .slice a1 len1 cap1] w fun e w' => e = .returned (.bool true) ∧ Below w.heap.size w w' := by
  have HA := awake_any
  obtain ⟨hk0, hk1, hn0, hn1, hs1⟩ := w0
  obtain ⟨hyl, hbv, hnn, hlc, hcm⟩ := w1
  unfold maxLen at hs1
  unfold vv
  have h3 : decide ((200 : Int) < (s0.size : Int)) = false := by simp; omega
  have h4 : decide ((200 : Int) < (len1 : Int)) = true := by simp; omega
  go_enter Tryd.func5, Tryd.ntmps5
  go_wp2_with (first | (go_at_call 9; refine (HA _ (hV.below (box1 _ _))).mono ?_; rintro e wz ⟨rfl, bz⟩; clear HA))
  go_ret
  exact ⟨rfl, bt (box1 _ _) bz⟩
set_option maxHeartbeats 8000000 in
theorem walk_d (k0 n0 : Int) (s0 : ByteArray) (a1 : Option Addr) (len1 cap1 : Nat) (y1 : List Int) (w : World) (hV : Vars w) (w0 : WfV k0 n0 s0) (w1 : y1.length = len1 ∧ BV w a1 y1 ∧ (a1 = none → cap1 = 0) ∧ len1 ≤ cap1 ∧ cap1 ≤ 9223372036854775807) (h : ¬ 200 < s0.size) (h2 : ¬ 200 < len1) : Calls Tryd.prog 5 #[vv k0 n0 s0, .slice a1 len1 cap1] w fun e w' => e = .returned (.bool true) ∧ Below w.heap.size w w' := by
  have HA := awake_any
  obtain ⟨hk0, hk1, hn0, hn1, hs1⟩ := w0
  obtain ⟨hyl, hbv, hnn, hlc, hcm⟩ := w1
  unfold maxLen at hs1
  unfold vv
  have h3 : decide ((200 : Int) < (s0.size : Int)) = false := by simp; omega
  have h4 : decide ((200 : Int) < (len1 : Int)) = false := by simp; omega
  obtain ⟨gk, gn, gs, gm, ge, hgt⟩ := gt_is y1
  have CP : ∀ W, Vars W → Calls Tryd.prog 24 #[.agg #[.int .u8 k0, .int .i64 n0, .string s0]] W fun e w' => ∃ v, e = .returned (.tuple #[v, .int .i64 (chkE k0 n0 s0.data.toList)]) ∧ Own w' W.heap.size v (putL13 k0 n0 s0) ∧ Below W.heap.size W w' := fun W hv => put_any13 k0 n0 s0 W hk0 hk1 (by omega) hv
  have CQ : ∀ W, Calls Tryd.prog 25 #[.agg #[.int .u8 k0, .int .i64 n0, .string s0]] W fun e w' => ∃ v, e = .returned (.tuple #[v, .int .i64 (chkE k0 n0 s0.data.toList)]) ∧ Own w' W.heap.size v (putL13 k0 n0 s0) ∧ Below W.heap.size W w' := fun W => rput_any13 k0 n0 s0 W hk0 hk1 (by omega)
  have CG : ∀ W, Below w.heap.size w W → Calls Tryd.prog 26 #[.slice a1 len1 cap1] W fun e w' => e = .returned (.tuple #[.agg #[.int .u8 gk, .int .i64 gn, .string gs], .int .i64 gm, .int .i64 ge]) ∧ Below W.heap.size W w' := fun W hW => by
    have := get_any13 a1 len1 cap1 y1 W (hbv.below hW) hyl (by omega) hlc hcm hnn (hV.below hW)
    rw [hgt] at this; exact this
  have CH : ∀ W, Below w.heap.size w W → Calls Tryd.prog 27 #[.slice a1 len1 cap1] W fun e w' => e = .returned (.tuple #[.agg #[.int .u8 gk, .int .i64 gn, .string gs], .int .i64 gm, .int .i64 ge]) ∧ Below W.heap.size W w' := fun W hW => by
    have := rget_all a1 len1 cap1 y1 W (hbv.below hW) hyl (by omega) hlc hcm
    rw [hgt] at this; exact this
  have HAL : Hid (AllB (putL13 k0 n0 s0)) := put_all13 hk0 hk1
  generalize chkE k0 n0 s0.data.toList = ce at *
  generalize putL13 k0 n0 s0 = pl at *
  clear hgt hbv hyl hnn hlc
  go_enter Tryd.func5, Tryd.ntmps5
  go_wp2_with (first | (go_at_call 24; refine (CP _ (hV.below (box1 _ _))).mono ?_; rintro e w1 ⟨v1, rfl, o1, hb1⟩; clear CP; have B1 : Hid (Below w.heap.size w w1) := up1 hb1; have K1 := (Bk.new w k0 n0 s0).below hb1; obtain ⟨x1, x2, x3⟩ := K1.cells) | (go_at_call 25; refine (CQ _).mono ?_; rintro e w2 ⟨v2, rfl, o2, hb2⟩; clear CQ; have B2 : Hid (Below w.heap.size w w2) := bt B1.out hb2) | (go_at_call 26; refine (CG _ B2.out).mono ?_; rintro e w3 ⟨rfl, hb3⟩; clear CG; have B3 : Hid (Below w.heap.size w (w3.alloc (.cells #[.int .u8 gk, .int .i64 gn, .string gs] 23))) := bt (bt B2.out hb3) (box1 _ _)) | (go_at_call 27; refine (CH _ B3.out).mono ?_; rintro e w4 ⟨rfl, hb4⟩; clear CH; have B4 : Hid (Below w.heap.size w (w4.alloc (.cells #[.int .u8 gk, .int .i64 gn, .string gs] 23))) := bt (bt B3.out hb4) (box1 _ _); have c1 := conv_own ((((o1.below hb2).below hb3).below (box1 w3 (.cells #[.int .u8 gk, .int .i64 gn, .string gs] 23))).below hb4 |>.below (box1 w4 (.cells #[.int .u8 gk, .int .i64 gn, .string gs] 23))) HAL.out; have c2 := conv_own ((((o2.below hb3).below (box1 w3 (.cells #[.int .u8 gk, .int .i64 gn, .string gs] 23))).below hb4).below (box1 w4 (.cells #[.int .u8 gk, .int .i64 gn, .string gs] 23))) HAL.out; obtain ⟨y1', y2', y3'⟩ := (((Bk.new w3 gk gn gs).below hb4).below (box1 w4 (.cells #[.int .u8 gk, .int .i64 gn, .string gs] 23))).cells; obtain ⟨z1, z2, z3⟩ := (Bk.new w4 gk gn gs).cells) | (go_at_call 9; refine (HA _ (hV.below B4.out)).mono ?_; rintro e wz ⟨rfl, bz⟩; clear HA))
  go_ret
  exact ⟨rfl, bt B4.out bz⟩
theorem walk (k0 n0 : Int) (s0 : ByteArray) (a1 : Option Addr) (len1 cap1 : Nat) (y1 : List Int) (w : World) (hV : Vars w) (w0 : WfV k0 n0 s0) (w1 : y1.length = len1 ∧ BV w a1 y1 ∧ (a1 = none → cap1 = 0) ∧ len1 ≤ cap1 ∧ cap1 ≤ 9223372036854775807) : Calls Tryd.prog 5 #[vv k0 n0 s0, .slice a1 len1 cap1] w fun e w' => e = .returned (.bool true) ∧ Below w.heap.size w w' := by
  by_cases h : 200 < s0.size
  · exact walk_a k0 n0 s0 a1 len1 cap1 y1 w hV w0 w1 h
  · by_cases h2 : 200 < len1
    · exact walk_b k0 n0 s0 a1 len1 cap1 y1 w hV w0 w1 h h2
    · exact walk_d k0 n0 s0 a1 len1 cap1 y1 w hV w0 w1 h h2
set_option maxRecDepth 100000 in
theorem lifted (os : Os) (started : os.Started) (H : Type) (enc : TypeId × Value → H) :
    ReturnsInHanded {} Tryd.checked os 5 .any (fun w args => (Rows.valuePutsSpec.pre enc Tryd.prog Tryd.f5 Rows.valuePutsRow.domain false w args ∧ laidMet Tryd.prog laids w) ∧ sizedMet enc Tryd.prog Tryd.f5 (OpenSpec.ofChange Rows.valuePutsSpec) false w args)
      (Rows.valuePutsSpec.post enc Tryd.prog Tryd.f5 false true false false) := by
  refine returnsInHanded_of_change_and (C := Tryd.checked) (X := fun w _ => laidMet Tryd.prog laids w) (fun _ _ _ hh h => h.of_heap hh) own started (by kernel_rfl) Tryd.func5
    (ChangeSpec.witness_at (enc := enc) (C := Tryd.checked) (os := os) (X := fun w _ => laidMet Tryd.prog laids w) false (laidWorld os) #[.agg #[.int .u8 0, .int .i64 0, .string ByteArray.empty], .slice none 0 0] 8 rfl (by kernel_rfl) (by kernel_rfl) (by kernel_rfl) (by kernel_rfl) (by kernel_rfl) (laidWorld_met os _)) ?_
  intro W base args ds gs before hval0 hW _ hsz0 hL _
  have hval : ∀ (j : Nat) t v, Tryd.f5.params[j]? = some t → args[j]? = some v → Value.okWide Tryd.prog W .any base t v := hval0
  have hW' := hW
  obtain ⟨p, q, hA0, hV, rfl, hfz, hnd⟩ := hW
  have hA : DataW.TrodAll enc Tryd.prog W 0 (fun _ => true) true Tryd.f5.params.toList args.toList ds p := hA0
  rw [Tryd.params5] at hA hval
  have hVars := vars_of hL
  obtain ⟨v0, vs0, d'0, ds0, q0, r'0, hargs, rfl, rfl, h0, r0⟩ := trodAll_cons hA
  obtain ⟨v1, vs1, d'1, ds1, q1, r'1, rfl, rfl, rfl, h1, r1⟩ := trodAll_cons r0
  obtain ⟨rfl, rfl, rfl⟩ := trodAll_nil r1
  obtain rfl : args = #[v0, v1] := by cases args; simp_all
  obtain ⟨rfl, rfl⟩ := trodVars_none hV
  have k0' := h0
  have lt0 : ∀ x ∈ q0, x.block < W.heap.size := by obtain ⟨m, hm⟩ := k0'; exact DataW.trod_lt m _ _ _ hm
  obtain ⟨k0, n0, s0, rfl, w0⟩ := open_v (hval 0 23 v0 rfl rfl) h0
  obtain ⟨a1, len1, cap1, rfl⟩ := okWide_slice Tryd.underlying39 (hval 1 39 v1 rfl rfl)
  have k1' := h1
  have lt1 : ∀ x ∈ q1, x.block < W.heap.size := by obtain ⟨m, hm⟩ := k1'; exact DataW.trod_lt m _ _ _ hm
  obtain ⟨y1, w1⟩ : ∃ ys : List Int, ys.length = len1 ∧ BV W a1 ys ∧ (a1 = none → cap1 = 0) ∧ len1 ≤ cap1 ∧ cap1 ≤ 9223372036854775807 := by
    obtain ⟨fuel, hf⟩ := h1
    rcases open_ints Tryd.underlying39 Tryd.underlying5 (by kernel_rfl) hf with ⟨hcs, _⟩ | ⟨x, l, c, zs, hcs, _, hl, hm, hz, _, hcell, hwz⟩
    · simp [Value.cells] at hcs
      obtain ⟨rfl, rfl, rfl⟩ := hcs
      exact bytes_of (zs := []) (.inl ⟨rfl, rfl, rfl, rfl⟩)
    · simp [Value.cells] at hcs
      obtain ⟨rfl, rfl, rfl⟩ := hcs
      exact bytes_of (.inr ⟨_, rfl, hl, hm, by simpa using hz, hcell, hwz⟩)
  clear hA0 hval0
  refine (walk k0 n0 s0 a1 len1 cap1 y1 W hVars w0 w1).mono fun e W' ⟨he, bel⟩ => ?_
  subst he
  exact ⟨_, rfl, _, _, _, [], _, [], hW', trodAll_mk1 (shut_bool Tryd.underlying4 _), (trodAll_cons_mk (Below.trod laidOut (by kernel_rfl) (of_decide_eq_true (by kernel_rfl)) k0' bel lt0) (trodAll_cons_mk (Below.trod laidOut (by kernel_rfl) (of_decide_eq_true (by kernel_rfl)) k1' bel lt1) trodAll_mk0)), rfl, bel.frame _, fun h => by cases h⟩

theorem over : Rows.valuePutsRow.holds Tryd.pinned (OpenSpec.ofChange Rows.valuePutsSpec) :=
  OpenClaim.holds_of_wide 5 Tryd.f5 rfl rfl rfl rfl rfl rfl rfl ⟨rfl, rfl, rfl, rfl, rfl⟩ rfl rfl rfl rfl rfl (by kernel_rfl) Tryd.func5 (by kernel_rfl)
    (of_decide_eq_true (by kernel_rfl)) (by unfold Func.isWrapper; first | (rw [if_pos (by decide +kernel)]; kernel_rfl) | (rw [if_neg (by decide +kernel)]; exact ⟨rfl, rfl⟩))
    (fun os started H enc _ => lifted os started H enc)
theorem stand (j : Nat) (t : TypeId) (ht : Tryd.f5.params[j]? = some t) : Tryd.prog.wantsStandIn t = false := by
  rw [Tryd.params5] at ht
  rcases j with _ | j
  · obtain rfl : 23 = t := by simpa using ht
    kernel_rfl
  rcases j with _ | j
  · obtain rfl : 39 = t := by simpa using ht
    kernel_rfl
  simp at ht
end Go.Proofs.YtkpmnncemfeojaaDoor.valuePuts

namespace Go.Proofs.YtkpmnncemfeojaaDoor
theorem valuePuts_holds : Rows.ValuePutsCardSaid :=
  Claim7.holds_tied_plain_at .later [] [.data, .data, .data, .data, .sentinel, .sentinel, .pinned] true (true, "e4d62b0632140ea89e0acb3428217e710b04108508a205674bbccda6bfe6ec4f") true
    valuePuts.over (fun _ h => by cases h) (by kernel_rfl) (fun _ h => by cases h) valuePuts_row_tie rfl ⟨rfl, rfl⟩ (by kernel_rfl) rfl
    (fun f fn hf hfn => by
      obtain rfl : f = 5 := Option.some.inj ((show Tryd.prog.funcNamed Rows.valuePutsRow.func = some 5 by kernel_rfl).symm.trans hf) |>.symm
      obtain rfl : fn = Tryd.f5 := (Option.some.inj (Tryd.func5.symm.trans hfn)).symm
      exact ⟨by kernel_rfl, valuePuts.stand⟩)
    (by kernel_rfl)
#print axioms valuePuts_holds
end Go.Proofs.YtkpmnncemfeojaaDoor
