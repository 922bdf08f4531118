import Derived.Test.YtpmhilaochfpaaaDoorTx
import Derived.Test.YtpmhilaochfpaaaDoorCkr
import Derived.Test.YtpmhilaochfpaaaDoorTdr
namespace Go.Proofs.YtpmhilaochfpaaaDoor
set_option maxRecDepth 20000
set_option maxRecDepth 20000
set_option maxRecDepth 20000
open Go.RowKit
set_option linter.unusedVariables false
set_option linter.unusedSimpArgs false
set_option maxRecDepth 20000
end Go.Proofs.YtpmhilaochfpaaaDoor
