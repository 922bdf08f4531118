import Derived.Test.YtpmhilaochfpaaaDoorLf
namespace Go.Proofs.YtpmhilaochfpaaaDoor
set_option maxRecDepth 20000
set_option maxRecDepth 20000
open Go.RowKit
set_option linter.unusedVariables false
set_option linter.unusedSimpArgs false
set_option maxRecDepth 20000
theorem foldZ_mem (l zs : List Str) (s : Str) : s ∈ l.foldl addZ zs ↔ s ∈ zs ∨ s ∈ l := by
  induction l generalizing zs with
  | nil => simp
  | cons x l ih => rw [List.foldl_cons, ih, mem_addZ, List.mem_cons, or_assoc]
end Go.Proofs.YtpmhilaochfpaaaDoor
