import Derived.Test.YtpmhilaochfpaaaDoorV7
import Derived.Test.YtpmhilaochfpaaaDoorV4
import Derived.Deep.QuietTactic
import Derived.BigQuiet
import Derived.Below
namespace Go.Proofs.YtpmhilaochfpaaaDoor
set_option maxRecDepth 20000
set_option maxRecDepth 20000
set_option maxRecDepth 20000
open Go.RowKit
set_option linter.unusedVariables false
def st (l : List UInt8) : ByteArray := ⟨l.toArray⟩
theorem st_list (l : List UInt8) : (st l).data.toList = l := by simp [st]
theorem st_of (s : ByteArray) : st s.data.toList = s := by cases s; simp [st]
theorem st_size (l : List UInt8) : (st l).size = l.length := by show l.toArray.size = l.length; simp
theorem eq_list (a b : ByteArray) : (a.toList == b.toList) = decide (a.data.toList = b.data.toList) := by
  rw [Go.ByteArray.toList_eq, Go.ByteArray.toList_eq, Bool.eq_iff_iff, beq_iff_eq, decide_eq_true_eq]
end Go.Proofs.YtpmhilaochfpaaaDoor
namespace Go.Proofs.YtpmhilaochfpaaaDoor
set_option maxRecDepth 20000
set_option maxRecDepth 20000
open Go.RowKit
theorem bxn (w : World) (o : Obj) : Below w.heap.size w (w.alloc o) := (Below.refl _ _).alloc (Nat.le_refl _) _
end Go.Proofs.YtpmhilaochfpaaaDoor
