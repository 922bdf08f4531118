/- Once, an expression, tests: what is asked against a scope. -/
import Derived.Test.YtpmhilaochfpaaaDoorWs
import Derived.Test.YtpmhilaochfpaaaDoorSp
namespace Go.Proofs.YtpmhilaochfpaaaDoor
set_option maxRecDepth 20000
set_option maxRecDepth 20000
open Go.RowKit
set_option linter.unusedVariables false
set_option linter.unusedSimpArgs false
set_option maxRecDepth 20000

theorem NV.below {w w' : World} {v : Value} {zs : List Str} {B : Nat} (h : NV w v zs) (hb : Below B w w') (hB : ∀ b, v = .map (some b) → b < B) : NV w' v zs := by
  rcases h with h | ⟨b, n, rfl, h⟩
  · exact .inl h
  · exact .inr ⟨b, n, rfl, h.below hb (hB b rfl)⟩
theorem NV.bl {w w' : World} {v : Value} {zs : List Str} (h : NV w v zs) (hb : Below w.heap.size w w') : NV w' v zs := by
  rcases h with h | ⟨b, n, rfl, h⟩
  · exact .inl h
  · exact .inr ⟨b, n, rfl, h.below hb h.lt⟩
theorem one_s (w : World) (x : Str) : SlW 1 (w.alloc (.cells #[.string (st x)] 9)) (fun _ => True) (.slice (some ⟨w.heap.size, 0, none⟩) 1 1) ([x].map clS) :=
  ⟨_, 1, rfl, Nat.le_refl _, by decide, .inr ⟨w.heap.size, 0, rfl, by simp, trivial, fun i j hi hj => by
    have hi0 : i = 0 := by simpa using hi
    have hj0 : j = 0 := by omega
    subst hi0; subst hj0
    go_simp; rfl⟩⟩
theorem any_take {α : Type} {p : α → Bool} {l : List α} {d : α} {i : Nat} (hlt : i < l.length) (h : p (l.getD i d) = true) : l.any p = true := by
  rw [List.any_eq_true]
  rw [List.getD_eq_getElem?_getD, List.getElem?_eq_getElem hlt] at h
  exact ⟨_, List.getElem_mem hlt, h⟩
theorem any_none {α : Type} {p : α → Bool} {l : List α} {d : α} (h : ∀ j, j < l.length → p (l.getD j d) = false) : l.any p = false := by
  rw [Bool.eq_false_iff]
  intro hc
  rw [List.any_eq_true] at hc
  obtain ⟨x, hx, hp⟩ := hc
  obtain ⟨j, hj, rfl⟩ := List.mem_iff_getElem.1 hx
  have := h j hj
  rw [List.getD_eq_getElem?_getD, List.getElem?_eq_getElem hj] at this
  exact absurd hp (by simpa using this)
theorem Fx.low {b B : Nat} {w w1 w2 : World} (h : Fx b w w1) (k : Below B w1 w2) (hB : w.heap.size ≤ B) : Fx b w w2 :=
  ⟨k.os.trans h.os, k.tape.trans h.tape, k.output.trans h.output, Nat.le_trans h.size k.size, fun i hi hn => (k.block i (Nat.lt_of_lt_of_le hi hB)).trans (h.block i hi hn)⟩
end Go.Proofs.YtpmhilaochfpaaaDoor
