/- Put and Get: the program's and the document's. -/
import Derived.Test.YtophkfbdhejmcaaPl
namespace Go.Proofs.Ytophkfbdhejmcaa
open Go.RowKit
set_option linter.unusedVariables false
set_option maxRecDepth 20000

theorem words_good {zs : List Int} (h : zs.all isP = true) : wordsB zs = true := by
  unfold wordsB
  rw [List.all_eq_true] at h ⊢
  intro x hx
  have := h x hx
  unfold isP at this
  unfold wordB
  simp only [Bool.and_eq_true, decide_eq_true_eq] at this ⊢
  omega
def putDE (d : Int) (zs : List Int) : Int := chkE d zs
def putDL (d : Int) (zs : List Int) : List Int := if chkE d zs = 0 then wordsS zs else []
theorem putDL_all (d : Int) (zs : List Int) : AllB (putDL d zs) := by
  unfold putDL
  split
  · exact wordsS_all _
  · exact AllB.nil
set_option maxHeartbeats 800000 in
theorem put_d (d : Int) (a : Option Addr) (cap : Nat) (zs : List Int) (w : World) (hp : IV w a zs) (hl : zs.length ≤ 100000) :
    Calls Try.prog 9 #[dv d a zs.length cap] w fun e w' => ∃ v, e = .returned (.tuple #[v, .int .i64 (putDE d zs)]) ∧ Own w' w.heap.size v (putDL d zs) ∧ Below w.heap.size w w' := by
  have HC : Hid (∀ W, Below w.heap.size w W → Calls Try.prog 11 #[.agg #[.int .i64 d, .slice a zs.length cap]] W fun e w' => e = .returned (.int .i64 (chkE d zs)) ∧ Below W.heap.size W w') := fun W hW => check_any d a cap zs W (hp.below hW) (by omega)
  unfold putDE putDL
  by_cases h0 : chkE d zs = 0
  · rw [if_pos h0, h0]
    rw [h0] at HC
    have hg := words_good (chkE_ok h0).2.2
    have HW : Hid (∀ W, Below w.heap.size w W → Calls Try.prog 31 #[.slice a zs.length cap] W fun e w' => ∃ v, e = .returned (.tuple #[v, .int .i64 0]) ∧ Own w' W.heap.size v (wordsS zs) ∧ Below W.heap.size W w') := fun W hW => by
      have := words_any a cap zs W (hp.below hW) hl
      unfold wordsE wordsL at this
      rw [hg] at this
      exact this
    clear h0 hp hg
    unfold dv
    generalize wordsS zs = r at *
    go_enter Try.func9, Try.ntmps9
    go_wp2_with (first
      | (go_at_call 11; refine (HC.out _ (one_block _ _)).mono ?_; rintro e w1 ⟨rfl, b1⟩; obtain ⟨c0, c1⟩ := box2 b1)
      | (go_at_call 31; refine (HW.out _ (bt (one_block _ _) b1)).mono ?_; rintro e w2 ⟨v, rfl, o2, b2⟩))
    go_ret2
    exact ⟨v, rfl, o2.mono (bt (one_block _ _) b1).size, bt (one_block _ _) (bt b1 b2)⟩
  · rw [if_neg h0]
    generalize chkE d zs = x at *
    unfold dv
    go_enter Try.func9, Try.ntmps9
    go_wp2_with (first
      | (go_at_call 11; refine (HC.out _ (one_block _ _)).mono ?_; rintro e w1 ⟨rfl, b1⟩))
    go_ret2
    exact ⟨.slice none 0 0, rfl, Own.nil _ _, bt (one_block _ _) b1⟩
set_option maxHeartbeats 800000 in
theorem rput_d (d : Int) (a : Option Addr) (cap : Nat) (zs : List Int) (w : World) (hp : IV w a zs) (hl : zs.length ≤ 100000) :
    Calls Try.prog 10 #[dv d a zs.length cap] w fun e w' => ∃ v, e = .returned (.tuple #[v, .int .i64 (putDE d zs)]) ∧ Own w' w.heap.size v (putDL d zs) ∧ Below w.heap.size w w' := by
  have HC : Hid (∀ W, Below w.heap.size w W → Calls Try.prog 12 #[.agg #[.int .i64 d, .slice a zs.length cap]] W fun e w' => e = .returned (.int .i64 (chkE d zs)) ∧ Below W.heap.size W w') := fun W hW => rcheck_any d a cap zs W (hp.below hW) (by omega)
  unfold putDE putDL
  by_cases h0 : chkE d zs = 0
  · rw [if_pos h0, h0]
    rw [h0] at HC
    have hg := words_good (chkE_ok h0).2.2
    have HW : Hid (∀ W, Below w.heap.size w W → Calls Try.prog 32 #[.slice a zs.length cap] W fun e w' => ∃ v, e = .returned (.tuple #[v, .int .i64 0]) ∧ Own w' W.heap.size v (wordsS zs) ∧ Below W.heap.size W w') := fun W hW => by
      have := rwords_any a cap zs W (hp.below hW) hl
      unfold wordsE wordsL at this
      rw [hg] at this
      exact this
    clear h0 hp hg
    unfold dv
    generalize wordsS zs = r at *
    go_enter Try.func10, Try.ntmps10
    go_wp2_with (first
      | (go_at_call 12; refine (HC.out _ (one_block _ _)).mono ?_; rintro e w1 ⟨rfl, b1⟩; obtain ⟨c0, c1⟩ := box2 b1)
      | (go_at_call 32; refine (HW.out _ (bt (one_block _ _) b1)).mono ?_; rintro e w2 ⟨v, rfl, o2, b2⟩))
    go_ret2
    exact ⟨v, rfl, o2.mono (bt (one_block _ _) b1).size, bt (one_block _ _) (bt b1 b2)⟩
  · rw [if_neg h0]
    generalize chkE d zs = x at *
    unfold dv
    go_enter Try.func10, Try.ntmps10
    go_wp2_with (first
      | (go_at_call 12; refine (HC.out _ (one_block _ _)).mono ?_; rintro e w1 ⟨rfl, b1⟩))
    go_ret2
    exact ⟨.slice none 0 0, rfl, Own.nil _ _, bt (one_block _ _) b1⟩
end Go.Proofs.Ytophkfbdhejmcaa
