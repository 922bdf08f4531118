/- A new block. -/
import Derived.Test.YtbbjhiijialfoaaDoorTv
import Derived.Below
namespace Go.Proofs.YtbbjhiijialfoaaDoor
set_option maxRecDepth 20000
open Go.RowKit
theorem st0 : st [] = ⟨#[]⟩ := rfl
theorem bxn (w : World) (o : Obj) : Below w.heap.size w (w.alloc o) := (Below.refl _ _).alloc (Nat.le_refl _) _
end Go.Proofs.YtbbjhiijialfoaaDoor
