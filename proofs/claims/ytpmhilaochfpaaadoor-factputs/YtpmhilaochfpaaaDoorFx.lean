/- Find, Attr: the program's and the document's; In. -/
import Derived.Test.YtpmhilaochfpaaaDoorLf
namespace Go.Proofs.YtpmhilaochfpaaaDoor
set_option maxRecDepth 20000
set_option maxRecDepth 20000
open Go.RowKit
set_option linter.unusedVariables false
set_option linter.unusedSimpArgs false
set_option maxRecDepth 20000

def idxC (cs : List ClassD) (s : Str) : Int := match cs.findIdx? (fun x => decide (x.nm = s)) with | some i => (i : Int) | none => -1
theorem idxC_at {cs : List ClassD} {s : Str} {k : Nat} (hk : k < cs.length) (h : (cs.getD k ⟨[], []⟩).nm = s) (hn : ∀ j, j < k → (cs.getD j ⟨[], []⟩).nm ≠ s) : idxC cs s = k ∧ findC cs s = some (cs.getD k ⟨[], []⟩) := by
  have h1 : cs.findIdx? (fun x => decide (x.nm = s)) = some k := by
    rw [List.findIdx?_eq_some_iff_getElem]
    refine ⟨hk, ?_, fun j hj => ?_⟩
    · rw [List.getD_eq_getElem?_getD, List.getElem?_eq_getElem hk] at h
      simpa using h
    · have := hn j hj
      rw [List.getD_eq_getElem?_getD, List.getElem?_eq_getElem (by omega)] at this
      simpa using this
  constructor
  · unfold idxC; rw [h1]
  · unfold findC
    rw [List.find?_eq_some_iff_getElem]
    rw [List.getD_eq_getElem?_getD, List.getElem?_eq_getElem hk] at h ⊢
    refine ⟨by simpa using h, k, hk, rfl, fun j hj => ?_⟩
    have := hn j hj
    rw [List.getD_eq_getElem?_getD, List.getElem?_eq_getElem (by omega)] at this
    simpa using this
theorem idxC_no {cs : List ClassD} {s : Str} (hn : ∀ j, j < cs.length → (cs.getD j ⟨[], []⟩).nm ≠ s) : idxC cs s = -1 ∧ findC cs s = none := by
  have h2 : ∀ x ∈ cs, x.nm ≠ s := fun x hx => by
    obtain ⟨j, hj, rfl⟩ := List.mem_iff_getElem.1 hx
    have := hn j hj
    rw [List.getD_eq_getElem?_getD, List.getElem?_eq_getElem hj] at this
    simpa using this
  constructor
  · unfold idxC
    rw [List.findIdx?_eq_none_iff.2 (fun x hx => by simpa using h2 x hx)]
  · unfold findC
    rw [List.find?_eq_none]
    intro x hx; simpa using h2 x hx
end Go.Proofs.YtpmhilaochfpaaaDoor
