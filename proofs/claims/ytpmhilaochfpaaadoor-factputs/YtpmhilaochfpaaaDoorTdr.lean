import Derived.Test.YtpmhilaochfpaaaDoorTd
import Derived.Test.YtpmhilaochfpaaaDoorWd
import Derived.Deep.LoopGhost
namespace Go.Proofs.YtpmhilaochfpaaaDoor
set_option maxRecDepth 20000
set_option maxRecDepth 20000
set_option maxRecDepth 20000
open Go.RowKit
set_option linter.unusedVariables false
set_option linter.unusedSimpArgs false
set_option maxRecDepth 20000
end Go.Proofs.YtpmhilaochfpaaaDoor
