import Derived.Test.YtophkfbdhejmcaaSeal2
import Derived.Deep.QuietTactic
import Derived.BigQuiet
namespace Go.Proofs.Ytophkfbdhejmcaa
set_option maxRecDepth 20000
open Go.RowKit
set_option linter.unusedVariables false
theorem take_eq {xs ys : List Int} (h : xs.length = ys.length) (k : Nat) (hk : k < xs.length) (ht : xs.take k = ys.take k) (he : xs.getD k 0 = ys.getD k 0) : xs.take (k + 1) = ys.take (k + 1) := by
  rw [take_snoc xs k hk, take_snoc ys k (by omega), ht, he]
theorem below_drewN {n : Nat} {w w' : World} (h : Below n w w') : ∀ k, Below n w (w'.drewN k)
  | 0 => h
  | k + 1 => (below_drewN h k).drew
end Go.Proofs.Ytophkfbdhejmcaa
