import Derived.Test.YtemacdimdpnkeaaGreatDoorB3
import Derived.Test.YtemacdimdpnkeaaGreatDoorB2
import Derived.Deep.LoopGhost
namespace Go.Proofs.YtemacdimdpnkeaaGreatDoor
set_option maxRecDepth 20000
open Go.RowKit
set_option linter.unusedVariables false
set_option linter.unusedSimpArgs false
theorem ret_str {a b : ByteArray} (h : a = b) : Ending.returned (.string a) = .returned (.string b) := by rw [h]
end Go.Proofs.YtemacdimdpnkeaaGreatDoor
