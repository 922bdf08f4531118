/- For any two numbers the call NumOrder of the statements returns true and its arguments read as they did: no condition. -/
import Derived.Test.YtfldbcolfdofaaaLess
import Derived.Test.YtfldbcolfdofaaaRows
import Derived.WalkKit
import Derived.ProofKit
import Derived.OpenShut
import Derived.ShutString
namespace Go.Proofs.Ytfldbcolfdofaaa.numOrder
open Go.ChangeShapes Go.WideShapes Go.ChangeAt Go.RowKit
open Go.ChangeMaps (open_string shut_string)
set_option linter.unusedVariables false      -- a walk need not use every 'w<i>' (that an integer argument fits its kind)

theorem own : ownKnob Try.prog.godebug = none := by kernel_rfl

theorem signE_out (n : Int) (h : n < -1099511627776 ∨ 1099511627776 < n) : signE n = 12 := by unfold signE; rw [if_pos h]
theorem signE_in (n : Int) (h0 : -1099511627776 ≤ n) (h1 : n ≤ 1099511627776) : signE n = 0 ∧ signL n = dig (n + 1099511627776) 6 := by
  constructor
  · unfold signE; rw [if_neg (by omega)]
  · unfold signL; rw [if_neg (by omega)]
theorem sg_dig (n : Int) (h0 : -1099511627776 ≤ n) (h1 : n ≤ 1099511627776) : sgV (dig (n + 1099511627776) 6) = n ∧ sgE (dig (n + 1099511627776) 6) = 0 := by
  have q : (256 : Int) ^ 6 = 281474976710656 := by decide
  have l := dig_length 6 (n + 1099511627776)
  have t : (dig (n + 1099511627776) 6).take 6 = dig (n + 1099511627776) 6 := List.take_of_length_le (by omega)
  have v := val_dig 6 (n + 1099511627776) (by omega) (by omega)
  constructor
  · unfold sgV; rw [if_neg (by omega), t, v, if_neg (by omega)]; omega
  · unfold sgE; rw [if_neg (by omega), t, v, if_neg (by omega)]

set_option maxHeartbeats 800000 in
theorem walk_out (a b : Int) (w : World) (h : a < -1099511627776 ∨ 1099511627776 < a ∨ (-1099511627776 ≤ a ∧ a ≤ 1099511627776 ∧ b < -1099511627776) ∨ (-1099511627776 ≤ a ∧ a ≤ 1099511627776 ∧ 1099511627776 < b)) :
    Calls Try.prog 8 #[.int .i64 a, .int .i64 b] w fun e w' => e = .returned (.bool true) ∧ Below w.heap.size w w' := by
  have HS := sign_any a w
  rcases h with h | h | ⟨h1, h2, h3⟩ | ⟨h1, h2, h3⟩
  · rw [signE_out a (.inl h)] at HS
    go_enter Try.func8, Try.ntmps8
    go_wp2_with fail
    refine HS.mono ?_
    rintro e w1 ⟨v1, rfl, _, hb1⟩
    clear HS
    go_wp2_with fail
    refine (sign_any b w1).mono ?_
    rintro e w2 ⟨v2, rfl, _, hb2⟩
    have hb := hb1.trans (hb2.mono hb1.size)
    go_wp2_with fail
    refine (awake_any w2).mono ?_
    rintro e w3 ⟨rfl, hb3⟩
    go_wp2
    go_ret
    exact ⟨rfl, hb.trans (hb3.mono hb.size)⟩
  · rw [signE_out a (.inr h)] at HS
    have d : ¬ a < -1099511627776 := by omega
    go_enter Try.func8, Try.ntmps8
    go_wp2_with fail
    refine HS.mono ?_
    rintro e w1 ⟨v1, rfl, _, hb1⟩
    clear HS
    go_wp2_with fail
    refine (sign_any b w1).mono ?_
    rintro e w2 ⟨v2, rfl, _, hb2⟩
    have hb := hb1.trans (hb2.mono hb1.size)
    go_wp2_with fail
    refine (awake_any w2).mono ?_
    rintro e w3 ⟨rfl, hb3⟩
    go_wp2
    go_ret
    exact ⟨rfl, hb.trans (hb3.mono hb.size)⟩
  all_goals
    rw [(signE_in a h1 h2).1] at HS
    have d1 : decide (a < -1099511627776) = false := by simp; omega
    have d2 : decide (1099511627776 < a) = false := by simp; omega
    go_enter Try.func8, Try.ntmps8
    go_wp2_with fail
    refine HS.mono ?_
    rintro e w1 ⟨v1, rfl, _, hb1⟩
    clear HS
    go_wp2_with fail
    have HT := sign_any b w1
    rw [signE_out b (by omega)] at HT
    refine HT.mono ?_
    rintro e w2 ⟨v2, rfl, _, hb2⟩
    have hb := hb1.trans (hb2.mono hb1.size)
    go_wp2_with fail
    refine (awake_any w2).mono ?_
    rintro e w3 ⟨rfl, hb3⟩
    go_wp2
    go_ret
    exact ⟨rfl, hb.trans (hb3.mono hb.size)⟩

set_option maxHeartbeats 800000 in
theorem walk_in (a b : Int) (w : World) (ha0 : -1099511627776 ≤ a) (ha1 : a ≤ 1099511627776) (hb0 : -1099511627776 ≤ b) (hb1 : b ≤ 1099511627776) :
    Calls Try.prog 8 #[.int .i64 a, .int .i64 b] w fun e w' => e = .returned (.bool true) ∧ Below w.heap.size w w' := by
  have HS := sign_any a w
  rw [(signE_in a ha0 ha1).1, (signE_in a ha0 ha1).2] at HS
  have hl := less_str (a + 1099511627776) (b + 1099511627776) (by omega) (by omega) (by omega) (by omega)
  have hd : decide (a + 1099511627776 < b + 1099511627776) = decide (a < b) := by rw [decide_eq_decide]; omega
  rw [hd] at hl
  clear hd
  obtain ⟨g1, g2⟩ := sg_dig a ha0 ha1
  have z1 := dig_all 6 (a + 1099511627776)
  have z2 := dig_all 6 (b + 1099511627776)
  have l1 := dig_length 6 (a + 1099511627776)
  have l2 := dig_length 6 (b + 1099511627776)
  have HT := fun w => sign_any b w
  rw [(signE_in b hb0 hb1).1, (signE_in b hb0 hb1).2] at HT
  generalize dig (a + 1099511627776) 6 = xs at *
  generalize dig (b + 1099511627776) 6 = ys at *
  have HL : Hid (Op.bytesLess (strOfNums xs).toList (strOfNums ys).toList = decide (a < b)) := hl
  have HTT : Hid (∀ w, Calls Try.prog 11 #[.int .i64 b] w fun e w' => ∃ v, e = .returned (.tuple #[v, .int .i64 0]) ∧ Own w' w.heap.size v ys ∧ Below w.heap.size w w') := HT
  have L1 : Hid (xs.length = 6) := l1
  have L2 : Hid (ys.length = 6) := l2
  have G1 : Hid (sgV xs = a) := g1
  have G2 : Hid (sgE xs = 0) := g2
  clear hl HT l1 l2 g1 g2 ha0 ha1 hb0 hb1
  go_enter Try.func8, Try.ntmps8
  go_wp2_with fail
  refine HS.mono ?_
  rintro e w1 ⟨v1, rfl, ho1, hw1⟩
  clear HS
  obtain ⟨c1, p1, rfl, _, _, _⟩ := ho1.shape 6 L1.out (by decide)
  go_wp2_with fail
  refine (HTT.out w1).mono ?_
  rintro e w2 ⟨v2, rfl, ho2, hw2⟩
  obtain ⟨c2, p2, rfl, _, _, _⟩ := ho2.shape 6 L2.out (by decide)
  replace ho1 := ho1.below hw2
  have hb := hw1.trans (hw2.mono hw1.size)
  clear hw1 hw2
  have s1 := conv_own ho1 z1
  have s2 := conv_own ho2 z2
  have HG := signed_any _ 6 p1 xs w2 (ho1.bv z1) L1.out (by decide)
  rw [G1.out, G2.out] at HG
  clear ho1 ho2
  go_wp2_with (go_at_call 16; refine HG.mono ?_; rintro e w' ⟨rfl, hw⟩; obtain rfl := hw.symm; clear HG; have hl := HL.out)
  refine (awake_any w2).mono ?_
  rintro e w3 ⟨rfl, hb3⟩
  go_wp2
  go_ret
  exact ⟨rfl, hb.trans (hb3.mono hb.size)⟩

theorem walk (a b : Int) (_w0 : (Lit.int .i64 a).wf = true) (_w1 : (Lit.int .i64 b).wf = true) (w : World) :
    Calls Try.prog 8 #[.int .i64 a, .int .i64 b] w fun e w' => e = .returned (.bool true) ∧ Below w.heap.size w w' := by
  by_cases h : -1099511627776 ≤ a ∧ a ≤ 1099511627776 ∧ -1099511627776 ≤ b ∧ b ≤ 1099511627776
  · exact walk_in a b w h.1 h.2.1 h.2.2.1 h.2.2.2
  · exact walk_out a b w (by omega)

set_option maxRecDepth 100000 in
theorem lifted (os : Os) (started : os.Started) (H : Type) (enc : TypeId × Value → H) :
    ReturnsInHanded {} Try.checked os 8 .any (Rows.numOrderSpec.pre6 enc Try.prog Try.f8 Rows.numOrderRow.domain false) (Rows.numOrderSpec.post enc Try.prog Try.f8 false true false false) := by
  refine returnsInHanded_of_change (C := Try.checked) own started (by kernel_rfl) Try.func8
    (ChangeSpec.witness6 (enc := enc) (C := Try.checked) false ⟨#[], #[.int .i64 0, .int .i64 0], []⟩ 8 (by kernel_rfl) (by kernel_rfl) (by kernel_rfl) (by kernel_rfl)) ?_
  intro W base args ds gs before hval0 hW hcnd _
  have hval : ∀ (j : Nat) t v, Try.f8.params[j]? = some t → args[j]? = some v → Value.okWide Try.prog W .any base t v := hval0
  have hW' := hW
  obtain ⟨p, q, hA0, hV, rfl, hfz, hnd⟩ := hW
  have hA : DataW.TrodAll enc Try.prog W 0 (fun _ => true) true Try.f8.params.toList args.toList ds p := hA0
  rw [Try.params8] at hA hval
  obtain ⟨v0, vs0, d0, ds0, p0, q0, hargs, rfl, rfl, h0, r0⟩ := trodAll_cons hA
  obtain ⟨v1, vs1, d1, ds1, p1, q1, rfl, rfl, rfl, h1, r1⟩ := trodAll_cons r0
  obtain ⟨rfl, rfl, rfl⟩ := trodAll_nil r1
  obtain rfl : args = #[v0, v1] := by cases args; simp_all
  obtain ⟨rfl, rfl⟩ := trodVars_none hV
  obtain ⟨a0, rfl, rfl, rfl, w0⟩ := open_int Try.underlying3 (hval 0 3 v0 rfl rfl) h0
  obtain ⟨a1, rfl, rfl, rfl, w1⟩ := open_int Try.underlying3 (hval 1 3 v1 rfl rfl) h1
  clear hA0 hval0
  refine (walk a0 a1 w0 w1 W).mono fun e W' ⟨he, bel⟩ => ?_
  subst he
  exact ⟨_, rfl, _, _, _, [], _, [], hW', trodAll_mk1 (shut_bool Try.underlying4 _), (trodAll_cons_mk (shut_int Try.underlying3 w0) (trodAll_cons_mk (shut_int Try.underlying3 w1) trodAll_mk0)), rfl, bel.frame _, fun h => by cases h⟩

theorem over : Rows.numOrderRow.holds Try.pinned (OpenSpec.ofChange Rows.numOrderSpec) :=
  OpenClaim.holds_of_wide 8 Try.f8 rfl rfl rfl rfl rfl rfl rfl ⟨rfl, rfl, rfl, rfl, rfl⟩ rfl rfl rfl rfl rfl (by kernel_rfl) Try.func8 (by kernel_rfl)
    (of_decide_eq_true (by kernel_rfl)) (by unfold Func.isWrapper; first | (rw [if_pos (by decide +kernel)]; kernel_rfl) | (rw [if_neg (by decide +kernel)]; exact ⟨rfl, rfl⟩))
    (fun os started H enc _ => lifted os started H enc)

end Go.Proofs.Ytfldbcolfdofaaa.numOrder

namespace Go.Proofs.Ytfldbcolfdofaaa
theorem numOrder_holds : Rows.NumOrderSaid := numOrder.over
#print axioms numOrder_holds
end Go.Proofs.Ytfldbcolfdofaaa
