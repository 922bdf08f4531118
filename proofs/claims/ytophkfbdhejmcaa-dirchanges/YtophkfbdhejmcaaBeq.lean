/- bytes.Equal. -/
import Derived.Test.YtophkfbdhejmcaaRopen
namespace Go.Proofs.Ytophkfbdhejmcaa
set_option maxRecDepth 20000
open Go.RowKit
set_option linter.unusedVariables false
theorem str_eq (xs ys : List Int) (hx : AllB xs) (hy : AllB ys) : ((strOfNums xs).toList == (strOfNums ys).toList) = decide (xs = ys) := by
  by_cases h : xs = ys
  · subst h; simp
  · rw [str_ne hx hy h, decide_eq_false h]
end Go.Proofs.Ytophkfbdhejmcaa
