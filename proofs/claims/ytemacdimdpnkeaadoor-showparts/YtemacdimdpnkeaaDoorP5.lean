import Derived.Test.YtemacdimdpnkeaaDoorP3
import Derived.Test.YtemacdimdpnkeaaDoorP2
import Derived.Deep.LoopGhost
namespace Go.Proofs.YtemacdimdpnkeaaDoor
set_option maxRecDepth 20000
set_option maxRecDepth 20000
set_option maxRecDepth 20000
open Go.RowKit
set_option linter.unusedVariables false
set_option linter.unusedSimpArgs false
set_option maxRecDepth 20000
theorem ret_str {a b : ByteArray} (h : a = b) : Ending.returned (.string a) = .returned (.string b) := by rw [h]
end Go.Proofs.YtemacdimdpnkeaaDoor
