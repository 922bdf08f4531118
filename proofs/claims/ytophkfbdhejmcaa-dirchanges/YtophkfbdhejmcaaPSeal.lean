import Derived.Test.YtophkfbdhejmcaaSpec
namespace Go.Proofs.Ytophkfbdhejmcaa
set_option maxRecDepth 20000
open Go.RowKit
set_option linter.unusedVariables false
end Go.Proofs.Ytophkfbdhejmcaa
