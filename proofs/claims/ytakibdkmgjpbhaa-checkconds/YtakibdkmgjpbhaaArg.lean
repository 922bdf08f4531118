/- What came in: rows of names and items, a name. -/
import Derived.Test.YtakibdkmgjpbhaaOpn
namespace Go.Proofs.Ytakibdkmgjpbhaa
open Go.ChangeShapes Go.WideShapes Go.ChangeAt Go.RowKit
set_option linter.unusedVariables false
set_option linter.unusedSimpArgs false
set_option maxRecDepth 20000
section
variable {H : Type} {enc : TypeId × Value → H}
theorem arg_items {W : World} {base : Nat} {v : Value} {d : DataW H} {ps : List MemPlace} (hv : Value.okWide Try.prog W .any base 55 v) (h : DataW.Trod enc Try.prog W 0 (fun _ => true) true 55 v d ps) : ∃ x : List ItemD, SlW 5 W (fun _ => True) v (x.map clI) ∧ ∀ y ∈ x, ItemD.Ok y := by
  obtain ⟨a, n, c, rfl⟩ := okWide_slice Try.underlying55 hv
  obtain ⟨fuel, hf⟩ := h
  exact open_items hf
theorem arg_names {W : World} {base : Nat} {v : Value} {d : DataW H} {ps : List MemPlace} (hv : Value.okWide Try.prog W .any base 39 v) (h : DataW.Trod enc Try.prog W 0 (fun _ => true) true 39 v d ps) : ∃ x : List Str, SlW 1 W (fun _ => True) v (x.map clS) ∧ ∀ y ∈ x, okS y := by
  obtain ⟨a, n, c, rfl⟩ := okWide_slice Try.underlying39 hv
  obtain ⟨fuel, hf⟩ := h
  exact open_strs hf
theorem arg_str {W : World} {base : Nat} {v : Value} {d : DataW H} {ps : List MemPlace} (hv : Value.okWide Try.prog W .any base 9 v) (h : DataW.Trod enc Try.prog W 0 (fun _ => true) true 9 v d ps) : ∃ x : Str, v = .string (st x) ∧ okS x := by
  obtain ⟨s, rfl, rfl, rfl, hs⟩ := Go.ChangeMaps.open_string Try.underlying9 hv h
  exact ⟨s.data.toList, by rw [st_of], by unfold okS; rw [lenL]; exact hs⟩
end
end Go.Proofs.Ytakibdkmgjpbhaa
