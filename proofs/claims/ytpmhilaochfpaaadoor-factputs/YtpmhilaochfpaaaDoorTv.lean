/- A text of these bytes. -/
import Derived.Test.YtpmhilaochfpaaaDoorGa
import Derived.Test.YtpmhilaochfpaaaDoorWg
import Derived.Deep.QuietTactic
import Derived.BigQuiet
namespace Go.Proofs.YtpmhilaochfpaaaDoor
set_option maxRecDepth 20000
set_option maxRecDepth 20000
set_option maxRecDepth 20000
open Go.RowKit
set_option linter.unusedVariables false

def st (l : List UInt8) : ByteArray := ⟨l.toArray⟩
theorem st_list (l : List UInt8) : (st l).data.toList = l := by simp [st]
theorem st_of (s : ByteArray) : st s.data.toList = s := by cases s; simp [st]
theorem st_size (l : List UInt8) : (st l).size = l.length := by show l.toArray.size = l.length; simp
theorem st_inj {a b : List UInt8} (h : st a = st b) : a = b := by rw [← st_list a, h, st_list]
theorem eq_list (a b : ByteArray) : (a.toList == b.toList) = decide (a.data.toList = b.data.toList) := by
  rw [Go.ByteArray.toList_eq, Go.ByteArray.toList_eq, Bool.eq_iff_iff, beq_iff_eq, decide_eq_true_eq]
end Go.Proofs.YtpmhilaochfpaaaDoor
