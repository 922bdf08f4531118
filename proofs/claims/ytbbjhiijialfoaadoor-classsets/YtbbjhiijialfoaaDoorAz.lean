/- The classes, facts of awake: plain, and in memory. -/
import Derived.Test.YtbbjhiijialfoaaDoorCx
import Derived.Test.YtbbjhiijialfoaaDoorCu
namespace Go.Proofs.YtbbjhiijialfoaaDoor
set_option maxRecDepth 20000
open Go.RowKit
set_option linter.unusedVariables false
set_option linter.unusedSimpArgs false

def TWO : List ClassD := [⟨[99], [[112], [113]]⟩, ⟨[100], [[113]]⟩]
def F1 : FactD := ⟨3, [99], [v00, ⟨1, 5, []⟩]⟩
def F3 : FactD := ⟨4, [99], [⟨2, 0, [97]⟩, ⟨1, 5, []⟩]⟩
theorem two_make : makeR TWO 3 [99] [⟨[113], ⟨1, 5, []⟩⟩] = .ok F1 := by rfl
theorem two_with : withR TWO F1 4 [⟨[112], ⟨2, 0, [97]⟩⟩] = .ok F3 := by rfl
theorem two_get : getR TWO F3 [113] = some ⟨1, 5, []⟩ := by rfl
theorem two_text1 : textR TWO F1 = [40, 99, 32, 94, 113, 32, 53, 41] := by decide +kernel
theorem two_text3 : textR TWO F3 = [40, 99, 32, 94, 112, 32, 97, 32, 94, 113, 32, 53, 41] := by decide +kernel
theorem two_check : factE TWO F3 = 0 := by rfl
theorem two_ne : decide (F1 = F3) = false := by decide
theorem twoL : ∀ c ∈ TWO, classL c := by
  intro c hc
  simp only [TWO, List.mem_cons, List.not_mem_nil, or_false] at hc
  rcases hc with rfl | rfl <;> (refine ⟨by decide, by decide, fun y hy => ?_⟩; simp at hy; (try rcases hy with rfl | rfl) <;> (try subst hy) <;> decide)
theorem two_any (w : World) : Calls Tryd.prog 23 #[] w fun e w' => ∃ v, e = .returned v ∧ Row 2 (ReK (fun _ _ => True)) w' (fun _ => True) v TWO ∧ Below w.heap.size w w' := by
  go_enter Tryd.func23, Tryd.ntmps23
  go_wp2
  go_ret
  refine ⟨_, rfl, ⟨[[.string (st [99]), .slice (some ⟨w.heap.size, 0, none⟩) 2 2], [.string (st [100]), .slice (some ⟨w.heap.size + 1, 0, none⟩) 1 1]], ⟨_, 2, rfl, Nat.le_refl _, by decide, .inr ⟨w.heap.size + 2, 0, by simp, by simp, trivial, fun i j hi hj => ?_⟩⟩, ?_⟩, bt (bt (bxn _ _) (bxn _ _)) (bxn _ _)⟩
  · have hi' : i < 2 := hi
    have h1 : i = 0 ∨ i = 1 := by omega
    have h2 : j = 0 ∨ j = 1 := by omega
    rcases h1 with rfl | rfl <;> rcases h2 with rfl | rfl <;> (go_simp; try rfl)
  · refine ⟨⟨_, rfl, ⟨_, 2, rfl, Nat.le_refl _, by decide, .inr ⟨w.heap.size, 0, rfl, by simp; omega, trivial, fun i j hi hj => ?_⟩⟩⟩, ⟨_, rfl, ⟨_, 1, rfl, Nat.le_refl _, by decide, .inr ⟨w.heap.size + 1, 0, rfl, by simp, trivial, fun i j hi hj => ?_⟩⟩⟩, trivial⟩
    · have hi' : i < 2 := hi
      have h1 : i = 0 ∨ i = 1 := by omega
      have h2 : j = 0 := by omega
      subst h2
      rcases h1 with rfl | rfl <;> (go_simp; try rfl)
    · have hi' : i < 1 := hi
      have h1 : i = 0 := by omega
      have h2 : j = 0 := by omega
      subst h1; subst h2
      go_simp; try rfl
end Go.Proofs.YtbbjhiijialfoaaDoor
