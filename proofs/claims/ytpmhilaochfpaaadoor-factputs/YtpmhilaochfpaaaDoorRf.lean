/- A new block. -/
import Derived.Test.YtpmhilaochfpaaaDoorTv
import Derived.Below
namespace Go.Proofs.YtpmhilaochfpaaaDoor
set_option maxRecDepth 20000
set_option maxRecDepth 20000
open Go.RowKit
theorem st0 : st [] = ⟨#[]⟩ := rfl
theorem bxn (w : World) (o : Obj) : Below w.heap.size w (w.alloc o) := (Below.refl _ _).alloc (Nat.le_refl _) _
end Go.Proofs.YtpmhilaochfpaaaDoor
