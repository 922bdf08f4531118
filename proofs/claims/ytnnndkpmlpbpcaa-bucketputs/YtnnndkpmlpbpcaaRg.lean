/- Get of the document. -/
import Derived.Test.YtnnndkpmlpbpcaaGg
import Derived.Test.YtnnndkpmlpbpcaaRp
import Derived.Test.YtnnndkpmlpbpcaaRefT
namespace Go.Proofs.Ytnnndkpmlpbpcaa
open Go.RowKit
set_option linter.unusedVariables false
set_option maxRecDepth 20000

theorem isB_len {zs : List Int} (h : isB zs = true) : zs.length ≤ 246 := by
  unfold isB at h
  rw [decide_eq_true_eq] at h
  have := putB_len (readD zs) (readN zs) (readP zs)
  rw [h.2] at this
  exact this
theorem tstep_err {p : RS} (h : p.2 ≠ 0) : (tstep p).2 = p.2 := by
  show rtxE p.1 p.2 = p.2
  unfold rtxE
  rw [if_neg h]
theorem sticky {p : RS} {j k : Nat} (h : (itT j p).2 ≠ 0) (hk : j ≤ k) : (itT k p).2 ≠ 0 := by
  induction k with
  | zero => obtain rfl : j = 0 := by omega
            exact h
  | succ k ih =>
    by_cases e : j = k + 1
    · subst e; exact h
    · have h1 := ih (by omega)
      show (tstep (tstep (itT k p))).2 ≠ 0
      rw [tstep_err (by rw [tstep_err h1]; exact h1), tstep_err h1]
      exact h1
/-- The blocks of the document's Get. -/
structure RgI (w W : World) (X : Nat) (cv : Value) (e d n : Int) (v : Value) (qs : List PR) : Prop where
  hX : W.heap[X]? = some (.cells #[cv, .int .i64 e] 71 (0, 0))
  hT : W.heap[w.heap.size + 1]? = some (.cells #[.int .i64 d, .int .i64 n, v] 24 (0, 0))
  hR : W.heap[w.heap.size]? = some (.cells #[.int .i64 0, .int .i64 0, .slice none 0 0] 24 (0, 0))
  own : OwnQ W (X + 1) v qs
  ord : w.heap.size + 2 ≤ X
  bl : Below w.heap.size w W
theorem blk_lt {w : World} {k : Nat} {o : Obj} (h : w.heap[k]? = some o) : k < w.heap.size := (Array.getElem?_eq_some_iff.1 h).1
theorem cells3 {w : World} {T : Nat} {x y z : Value} {t : TypeId} (h : w.heap[T]? = some (.cells #[x, y, z] t (0, 0))) : w.cell? ⟨T, 0, none⟩ = some x ∧ w.cell? ⟨T, 1, none⟩ = some y ∧ w.cell? ⟨T, 2, none⟩ = some z ∧ w.frozen? ⟨T, 0, none⟩ = false ∧ w.frozen? ⟨T, 1, none⟩ = false ∧ w.frozen? ⟨T, 2, none⟩ = false :=
  ⟨by simp [World.cell?, h], by simp [World.cell?, h], by simp [World.cell?, h], by simp [World.frozen?, h], by simp [World.frozen?, h], by simp [World.frozen?, h]⟩
theorem cells2 {w : World} {T : Nat} {x y : Value} {t : TypeId} (h : w.heap[T]? = some (.cells #[x, y] t (0, 0))) : w.cell? ⟨T, 0, none⟩ = some x ∧ w.cell? ⟨T, 1, none⟩ = some y ∧ w.frozen? ⟨T, 0, none⟩ = false ∧ w.frozen? ⟨T, 1, none⟩ = false :=
  ⟨by simp [World.cell?, h], by simp [World.cell?, h], by simp [World.frozen?, h], by simp [World.frozen?, h]⟩
theorem set_blk {w : World} {T i : Nat} {cs : Array Value} {t : TypeId} {u : Value} (h : w.heap[T]? = some (.cells cs t (0, 0))) : (w.setCell ⟨T, i, none⟩ u).heap[T]? = some (.cells (cs.setIfInBounds i u) t (0, 0)) := by
  unfold World.setCell
  simp [Array.getElem?_modify, h]
theorem set_far {w : World} {T i k : Nat} {u : Value} (h : k ≠ T) : (w.setCell ⟨T, i, none⟩ u).heap[k]? = w.heap[k]? := Below.heap_setCell _ _ _ _ (by simpa using h)
variable {w W W' : World} {X : Nat} {cv cv' v v' u : Value} {e e' d n : Int} {qs qs' : List PR}
theorem RgI.below (h : RgI w W X cv e d n v qs) (hb : Below W.heap.size W W') : RgI w W' X cv e d n v qs :=
  ⟨(hb.block _ (blk_lt h.hX)).trans h.hX, (hb.block _ (blk_lt h.hT)).trans h.hT, (hb.block _ (blk_lt h.hR)).trans h.hR, h.own.below hb, h.ord, bt h.bl hb⟩
theorem RgI.setX (h : RgI w W X cv e d n v qs) : RgI w ((W.setCell ⟨X, 0, none⟩ cv').setCell ⟨X, 1, none⟩ (.int .i64 e')) X cv' e' d n v qs := by
  have ho := h.ord
  refine ⟨?_, ?_, ?_, ?_, h.ord, (h.bl.setCell (by simp; omega) _).setCell (by simp; omega) _⟩
  · exact set_blk (set_blk h.hX)
  · rw [set_far (by omega), set_far (by omega)]; exact h.hT
  · rw [set_far (by omega), set_far (by omega)]; exact h.hR
  · exact h.own.keep (fun k hk _ => by rw [set_far (by omega), set_far (by omega)])
theorem RgI.setP {P i : Nat} (h : RgI w W X cv e d n v qs) (hP : ∀ g, v.ownBlock = some g → g ≠ P) (hX : X < P) : RgI w (W.setCell ⟨P, i, none⟩ u) X cv e d n v qs := by
  have ho := h.ord
  refine ⟨?_, ?_, ?_, ?_, h.ord, h.bl.setCell (by simp; omega) _⟩
  · rw [set_far (by omega)]; exact h.hX
  · rw [set_far (by omega)]; exact h.hT
  · rw [set_far (by omega)]; exact h.hR
  · refine ⟨h.own.1, ?_⟩
    rcases h.own.2 with hn | ⟨g, cap, cur, rfl, hbb, hg, rest⟩
    · exact .inl hn
    · exact .inr ⟨g, cap, cur, rfl, hbb, (set_far (hP g rfl)).trans hg, rest⟩
theorem RgI.app (h : RgI w W X cv e d n v qs) (ho : OwnQ W' (X + 1) v' qs') (hb : Below (X + 1) W W') : RgI w (W'.setCell ⟨w.heap.size + 1, 2, none⟩ v') X cv e d n v' qs' := by
  have h1 := h.ord
  refine ⟨?_, ?_, ?_, ?_, h.ord, (h.bl.trans (hb.mono (by omega))).setCell (by simp) _⟩
  · rw [set_far (by omega)]; exact (hb.block _ (by omega)).trans h.hX
  · exact set_blk ((hb.block _ (by omega)).trans h.hT)
  · rw [set_far (by omega)]; exact (hb.block _ (by omega)).trans h.hR
  · exact ho.keep (fun k hk _ => set_far (by omega))
theorem RgI.setT (h : RgI w W X cv e d n v qs) (d' n' : Int) : RgI w ((W.setCell ⟨w.heap.size + 1, 0, none⟩ (.int .i64 d')).setCell ⟨w.heap.size + 1, 1, none⟩ (.int .i64 n')) X cv e d' n' v qs := by
  have h1 := h.ord
  refine ⟨?_, ?_, ?_, ?_, h.ord, (h.bl.setCell (by simp) _).setCell (by simp) _⟩
  · rw [set_far (by omega), set_far (by omega)]; exact h.hX
  · exact set_blk (set_blk h.hT)
  · rw [set_far (by omega), set_far (by omega)]; exact h.hR
  · exact h.own.keep (fun k hk _ => by rw [set_far (by omega), set_far (by omega)])
/-- A reader's slice, whose bytes lie in w. -/
def Sl (w : World) (c : Option Addr) (cap : Nat) (p : RS) : Prop := BV w c p.1 ∧ p.1.length ≤ cap ∧ cap ≤ 9223372036854775807
theorem sl_num {a : Option Addr} {cap : Nat} {p : RS} (x : Int) (h : Sl w a cap p) (hb : Below w.heap.size w W) :
    Calls Try.prog 39 #[.agg #[.slice a p.1.length cap, .int .i64 p.2], .int .i64 x] W fun r w' => ∃ c cap', r = .returned (.tuple #[.agg #[.slice c (nstep x p).1.length cap', .int .i64 (nstep x p).2], .int .i64 (nval x p)]) ∧ Sl w c cap' (nstep x p) ∧ Below W.heap.size W w' := by
  refine (rnum_any a cap p.1 p.2 x W (h.1.below hb) (by have := h.2; omega) h.2.1).mono ?_
  rintro r w' ⟨c, cap', rfl, h1, h2, h3, h4⟩
  exact ⟨c, cap', rfl, ⟨h3 w h.1, h1, by have := h.2.2; omega⟩, h4⟩
theorem sl_text {a : Option Addr} {cap : Nat} {p : RS} (h : Sl w a cap p) (hb : Below w.heap.size w W) :
    Calls Try.prog 40 #[.agg #[.slice a p.1.length cap, .int .i64 p.2]] W fun r w' => ∃ c cap', r = .returned (.tuple #[.agg #[.slice c (tstep p).1.length cap', .int .i64 (tstep p).2], .string (tval p)]) ∧ Sl w c cap' (tstep p) ∧ Below W.heap.size W w' := by
  refine (rtxt_any a cap p.1 p.2 W (h.1.below hb) (by have := h.2; omega) h.2.1).mono ?_
  rintro r w' ⟨c, cap', rfl, h1, h2, h3, h4⟩
  exact ⟨c, cap', rfl, ⟨h3 w h.1, h1, by have := h.2.2; omega⟩, h4⟩
end Go.Proofs.Ytnnndkpmlpbpcaa
