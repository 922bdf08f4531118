/- bytes.Equal. -/
import Derived.Test.YtnnndkpmlpbpcaaRopen
namespace Go.Proofs.Ytnnndkpmlpbpcaa
set_option maxRecDepth 20000
open Go.RowKit
set_option linter.unusedVariables false
theorem str_eq (xs ys : List Int) (hx : AllB xs) (hy : AllB ys) : ((strOfNums xs).toList == (strOfNums ys).toList) = decide (xs = ys) := by
  by_cases h : xs = ys
  · subst h; simp
  · rw [str_ne hx hy h, decide_eq_false h]
set_option maxHeartbeats 400000 in
theorem beq_any (a b : Option Addr) (c d : Nat) (xs ys : List Int) (w : World) (hx : BV w a xs) (hy : BV w b ys) (hn : a = none → c = 0) (hm : b = none → d = 0) :
    Calls Try.prog 38 #[.slice a xs.length c, .slice b ys.length d] w fun e w' => e = .returned (.bool (decide (xs = ys))) ∧ Below w.heap.size w w' := by
  have SL : Hid (∀ W, Below w.heap.size w W → Below w.heap.size w W ∧ (convert 25 9 (.slice a xs.length c)).run Try.prog W = .ok (.string (strOfNums xs)) W ∧ (convert 25 9 (.slice b ys.length d)).run Try.prog W = .ok (.string (strOfNums ys)) W) := fun W hW => ⟨hW, conv_bv (hx.below hW) hn, conv_bv (hy.below hW) hm⟩
  have HE := str_eq xs ys hx.1 hy.1
  obtain ⟨_, c1, c2⟩ := SL.out w (Below.refl _ _)
  generalize strOfNums xs = sx at *
  generalize strOfNums ys = sy at *
  generalize decide (xs = ys) = bq at *
  go_enter Try.func38, Try.ntmps38
  go_wp2_with fail
  go_ret
  exact ⟨rfl, Below.refl _ _⟩
end Go.Proofs.Ytnnndkpmlpbpcaa
