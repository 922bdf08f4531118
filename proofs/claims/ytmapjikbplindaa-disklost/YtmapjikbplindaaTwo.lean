/- Two disks beside each other. -/
import Derived.Test.YtmapjikbplindaaForkA
namespace Go.Proofs.Ytmapjikbplindaa
open Go.RowKit Go.Maps
set_option maxRecDepth 20000
set_option linter.unusedVariables false

def Two (w W : World) (p nb mb : Nat) (s : DS) (q qb qm : Nat) (t : DS) : Prop := Mine w W p nb mb s ∧ Mine w W q qb qm t ∧ ∀ x ∈ [q, qb, qm], x ∉ [p, nb, mb]
theorem Mine.keep {w W W' : World} {q qb qm : Nat} {t : DS} {X : List Nat} (h : Mine w W q qb qm t) (ho : Off X W W') (hx : ∀ x ∈ [q, qb, qm], x ∉ X) (hw : ∀ x ∈ X, w.heap.size ≤ x) : Mine w W' q qb qm t :=
  ⟨h.1.off ho (hx q (by simp)) (hx qb (by simp)) (hx qm (by simp)), h.2.1, h.2.2.1, h.2.2.2.1, h.2.2.2.2.trans (ho.below h.2.2.2.2.size hw)⟩
theorem Mine.from {w W : World} {p nb mb : Nat} {s : DS} (h : Mine w W p nb mb s) : ∀ x ∈ [p, nb, mb], w.heap.size ≤ x := by
  intro x hx
  have := h.2.1; have := h.2.2.1; have := h.2.2.2.1
  simp at hx; omega
theorem Two.left {w W W' : World} {p nb mb q qb qm : Nat} {s s' t : DS} (h : Two w W p nb mb s q qb qm t) (hm : Mine w W' p nb mb s') (ho : Off [p, nb, mb] W W') : Two w W' p nb mb s' q qb qm t := ⟨hm, h.2.1.keep ho h.2.2 h.1.from, h.2.2⟩
theorem Two.right {w W W' : World} {p nb mb q qb qm : Nat} {s t t' : DS} (h : Two w W p nb mb s q qb qm t) (hm : Mine w W' q qb qm t') (ho : Off [q, qb, qm] W W') : Two w W' p nb mb s q qb qm t' := ⟨h.1.keep ho (fun x hx hy => h.2.2 x hy hx) h.2.1.from, hm, h.2.2⟩
theorem Two.below {w W W' : World} {p nb mb q qb qm : Nat} {s t : DS} (h : Two w W p nb mb s q qb qm t) (hb : Below W.heap.size W W') : Two w W' p nb mb s q qb qm t := ⟨h.1.below hb, h.2.1.below hb, h.2.2⟩
theorem mfork {w : World} {p nb mb : Nat} {s : DS} (W : World) (h : Mine w W p nb mb s) : Calls Try.prog 13 #[.pointer (some ⟨p, 0, none⟩)] W fun e w' => ∃ q qb qm, e = .returned (.pointer (some ⟨q, 0, none⟩)) ∧ Two w w' p nb mb s q qb qm s ∧ Below W.heap.size W w' := by
  refine (fork_any p nb mb s W h.1).mono ?_
  rintro e w' ⟨q, qb, qm, rfl, hd, h1, h2, h3, hb⟩
  have := h.2.2.2.2.size
  refine ⟨q, qb, qm, rfl, ⟨h.below hb, ⟨hd, by omega, by omega, by omega, h.2.2.2.2.trans (hb.mono h.2.2.2.2.size)⟩, fun x hx hy => ?_⟩, hb⟩
  have := h.lt x hy
  simp at hx
  omega
/-- A read of a disk: the bytes in a block of the call's own. -/
theorem mread_ok {w : World} {p nb mb : Nat} {s : DS} (W : World) (n : Int) (zs : List Int) (h : Mine w W p nb mb s) (h1 : reachE s n = 0) (h2 : readB s n = zs) (h3 : zs.length = 256) : Calls Try.prog 15 #[.pointer (some ⟨p, 0, none⟩), .int .i64 n] W fun e w' => ∃ g cg, e = .returned (.tuple #[.slice (some ⟨g, 0, none⟩) 256 cg, .int .i64 0]) ∧ BV w' (some ⟨g, 0, none⟩) zs ∧ W.heap.size ≤ g ∧ Mine w w' p nb mb (readS s n) ∧ Off [p, nb, mb] W w' := by
  have := mread n W h
  rw [h1, h2] at this
  refine this.mono ?_
  rintro e w' ⟨v, rfl, hown, hm2, ho⟩
  have hz : AllB zs := by rw [← h2]; exact readB_allB h.1.1 n
  obtain ⟨g, cg, rfl, _, hgb, hgs⟩ := hown.shape 256 h3 (by decide)
  exact ⟨g, cg, rfl, hown.bv hz, hgb, hm2, ho⟩
end Go.Proofs.Ytmapjikbplindaa
