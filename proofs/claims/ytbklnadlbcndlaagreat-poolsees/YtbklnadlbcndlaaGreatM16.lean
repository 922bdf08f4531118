import Derived.Test.YtbklnadlbcndlaaGreatM15
import Derived.Laws.EntriesVeiled
namespace Go.Proofs.YtbklnadlbcndlaaGreat
set_option maxRecDepth 20000
open Go.RowKit
set_option linter.unusedVariables false
set_option linter.unusedSimpArgs false
def StepPost (w : World) (k : Pl) (c0 c1 c2 c3 c4 c5 c6 c7 c8 c9 c10 c11 : Value) (w' : World) : Prop :=
  ∃ sb db nx, ShB w' k.p c0 c1 c2 c3 c4 c5 c6 c7 c8 c9 c10 c11 (rdF db nx) (wrF db nx) (syF db nx) ∧ Bx w' k sb db nx ∧ D.Off [k.p] w w'
theorem step_w {w : World} {k : Pl} {c0 c1 c2 c3 c4 c5 c6 c7 c8 c9 c10 c11 c12 c13 c14 : Value} (h : ShB w k.p c0 c1 c2 c3 c4 c5 c6 c7 c8 c9 c10 c11 c12 c13 c14) (hX : ∀ x ∈ k.X, x < w.heap.size) : StepPost w k c0 c1 c2 c3 c4 c5 c6 c7 c8 c9 c10 c11 ((((((w.setCell ⟨k.p, 12, none⟩ (rdF (w.heap.size + 1) (w.heap.size + 1 + 1))).setCell ⟨k.p, 13, none⟩ (wrF (w.heap.size + 1) (w.heap.size + 1 + 1))).setCell ⟨k.p, 14, none⟩ (syF (w.heap.size + 1) (w.heap.size + 1 + 1))).alloc (.cells #[.pointer (some ⟨k.p, 0, none⟩)] 36)).alloc (.cells #[.pointer (some ⟨k.dp, 0, none⟩)] 40)).alloc (.cells #[.func (.func 164) #[] #[.pointer (some ⟨w.heap.size, 0, none⟩)]] 194)) := by
  have hs : (((w.setCell ⟨k.p, 12, none⟩ (rdF (w.heap.size + 1) (w.heap.size + 1 + 1))).setCell ⟨k.p, 13, none⟩ (wrF (w.heap.size + 1) (w.heap.size + 1 + 1))).setCell ⟨k.p, 14, none⟩ (syF (w.heap.size + 1) (w.heap.size + 1 + 1))).heap.size = w.heap.size := by simp [World.setCell]
  have h1 := ((ShB.set12 h (rdF (w.heap.size + 1) (w.heap.size + 1 + 1))).set13 (wrF (w.heap.size + 1) (w.heap.size + 1 + 1))).set14 (syF (w.heap.size + 1) (w.heap.size + 1 + 1))
  have ho : D.Off [k.p] w (((w.setCell ⟨k.p, 12, none⟩ (rdF (w.heap.size + 1) (w.heap.size + 1 + 1))).setCell ⟨k.p, 13, none⟩ (wrF (w.heap.size + 1) (w.heap.size + 1 + 1))).setCell ⟨k.p, 14, none⟩ (syF (w.heap.size + 1) (w.heap.size + 1 + 1))) := (((D.Off.refl _ _).setCell (by simp) _).setCell (by simp) _).setCell (by simp) _
  generalize (((w.setCell ⟨k.p, 12, none⟩ (rdF (w.heap.size + 1) (w.heap.size + 1 + 1))).setCell ⟨k.p, 13, none⟩ (wrF (w.heap.size + 1) (w.heap.size + 1 + 1))).setCell ⟨k.p, 14, none⟩ (syF (w.heap.size + 1) (w.heap.size + 1 + 1))) = v at *
  have hp := h1.lt
  refine ⟨w.heap.size, w.heap.size + 1, (w.heap.size + 1 + 1), ?_, ⟨?_, ?_, ?_, by simp; omega, by simp; omega, by simp; omega, fun hm => by have := hX _ hm; omega, fun hm => by have := hX _ hm; omega, fun hm => by have := hX _ hm; omega, fun x hx => by have := hX x (by simp [Pl.X, hx]); simp; omega⟩, ?_⟩
  · have hb : Below v.heap.size v (((v.alloc (.cells #[.pointer (some ⟨k.p, 0, none⟩)] 36)).alloc (.cells #[.pointer (some ⟨k.dp, 0, none⟩)] 40)).alloc (.cells #[.func (.func 164) #[] #[.pointer (some ⟨w.heap.size, 0, none⟩)]] 194)) := (((Below.refl _ _).alloc (Nat.le_refl _) _).alloc (by simp) _).alloc (by simp; omega) _
    exact (hb.block k.p hp).trans h1
  · rw [← hs]; go_simp
  · rw [← hs]; go_simp
  · rw [← hs]; go_simp
  · exact ((ho.alloc _).alloc _).alloc _
set_option maxHeartbeats 800000 in
theorem step_s (w : World) (k : Pl) (c0 c1 c2 c3 c4 c5 c6 c7 c8 c9 c10 c11 c12 c13 c14 : Value) (h : ShB w k.p c0 c1 c2 c3 c4 c5 c6 c7 c8 c9 c10 c11 c12 c13 c14) (hX : ∀ x ∈ k.X, x < w.heap.size) :
    Calls Tryz.prog 102 #[.pointer (some ⟨k.p, 0, none⟩), .pointer (some ⟨k.dp, 0, none⟩)] w fun e w' => e = .returned (.tuple #[]) ∧ StepPost w k c0 c1 c2 c3 c4 c5 c6 c7 c8 c9 c10 c11 w' := by
  have hcs := h.cells
  have hc12 := hcs.c12
  have hc13 := hcs.c13
  have hc14 := hcs.c14
  have f12 := hcs.f 12
  have f13 := hcs.f 13
  have f14 := hcs.f 14
  have hplt := h.lt
  have hpne : k.p ≠ w.heap.size := by omega
  have hpne1 : k.p ≠ w.heap.size + 1 := by omega
  have hpne2 : k.p ≠ w.heap.size + 1 + 1 := by omega
  have hplt1 : k.p < w.heap.size + 1 := by omega
  have hplt2 : k.p < w.heap.size + 1 + 1 := by omega
  have hzz : w.heap.size < w.heap.size + 1 + 1 := by omega
  have HE : Hid _ := step_w h hX
  have hmf : ∀ (fn : Fn) (first cap : Array Value) (w : World), (Instr.makeFunc fn first cap).run Tryz.prog w = .ok (.func fn first cap) w := fun _ _ _ _ => rfl
  clear hcs h hX
  go_enter Tryz.func102, Tryz.ntmps102
  go_wp2
  refine bodyPost_end (v := .tuple #[]) (results_none rfl _ _ _) rfl ?_
  exact ⟨rfl, HE.out⟩
end Go.Proofs.YtbklnadlbcndlaaGreat
