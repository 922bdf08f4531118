/- Two calls of a region that draws, in either order: the ways meet again. -/
import Derived.Test.YtophkfbdhejmcaaAw
namespace Go.Proofs.Ytophkfbdhejmcaa
open Go.RowKit
set_option linter.unusedVariables false

theorem put_comm (a : Act) {x y : Nat} (h : x ≠ y) (u v : Value) : (a.put (some x) u).put (some y) v = (a.put (some y) v).put (some x) u := by
  unfold Act.put
  simp only [Act.mk.injEq, and_true]
  exact Array.setIfInBounds_comm _ _ h
theorem list_comm (l : Array Bool) (i j : Nat) : (l.setIfInBounds i true).setIfInBounds j true = (l.setIfInBounds j true).setIfInBounds i true := by
  by_cases h : i = j
  · subst h; rfl
  · exact Array.setIfInBounds_comm _ _ h
section
variable {P : Program} {ops : Array Oper} {Q : Exit → Act → World → Prop} {md : Region.Mode}
/-- One operation is carried out. -/
def Steps (P : Program) (ops : Array Oper) (Q : Exit → Act → World → Prop) (o : Oper) (a : Act) (w : World) (K : Act → World → Prop) : Prop :=
  if Region.wanted o (yielded ops a.tmps) = true then Oper.wp P o a w K Q else K (a.put o.dst undef) w
/-- What a call tells: a value as R says, in a world that keeps what was there. -/
def Tells (P : Program) (ops : Array Oper) (Q : Exit → Act → World → Prop) (o : Oper) (a : Act) (w : World) (x : Nat) (R : Value → World → Prop) : Prop :=
  ∀ K : Act → World → Prop, (∀ v W, R v W → Below w.heap.size w W → K (a.put (some x) v) W) → Steps P ops Q o a w K
theorem wpAnyH_one {w0 : World} {i : Nat} {oi : Oper} {x fuel : Nat} {listed : Array Bool} {a : Act} {w : World} {R : Value → World → Prop} (hi : ops[i]? = some oi)
    (hr : Region.ready md ops listed = [i]) (hS : Below w0.heap.size w0 w) (c : Tells P ops Q oi a w x R)
    (rest : ∀ v W, R v W → Below w.heap.size w W → Below w0.heap.size w0 W → wpAnyH P md ops Q (fun W => Below w0.heap.size w0 W) fuel (listed.setIfInBounds i true) (a.put (some x) v) W) :
    wpAnyH P md ops Q (fun W => Below w0.heap.size w0 W) (fuel + 1) listed a w := by
  refine wpAnyH_ready hr (by simp) ?_
  refine AllReadyH.cons hi (fun K hK => ?_) AllReadyH.nil
  exact c K (fun v W hR hB => hK.out _ _ (bt hS hB) (fun h => rest v W hR hB h))
theorem wpAnyH_two {w0 : World} {i j : Nat} {oi oj : Oper} {x y fuel : Nat} {listed : Array Bool} {a : Act} {w : World} {Ri Rj : Value → World → Prop} (hi : ops[i]? = some oi) (hj : ops[j]? = some oj) (hxy : x ≠ y)
    (hr : Region.ready md ops listed = [i, j]) (hr1 : Region.ready md ops (listed.setIfInBounds i true) = [j]) (hr2 : Region.ready md ops (listed.setIfInBounds j true) = [i])
    (hS : Below w0.heap.size w0 w) (si : ∀ v W W', Ri v W → Below W.heap.size W W' → Ri v W') (sj : ∀ v W W', Rj v W → Below W.heap.size W W' → Rj v W')
    (c1 : Tells P ops Q oi a w x Ri) (c2 : ∀ v W, Ri v W → Below w0.heap.size w0 W → Tells P ops Q oj (a.put (some x) v) W y Rj)
    (d1 : Tells P ops Q oj a w y Rj) (d2 : ∀ u W, Rj u W → Below w0.heap.size w0 W → Tells P ops Q oi (a.put (some y) u) W x Ri)
    (rest : ∀ v u W, Ri v W → Rj u W → Below w0.heap.size w0 W → wpAnyH P md ops Q (fun W => Below w0.heap.size w0 W) fuel ((listed.setIfInBounds i true).setIfInBounds j true) ((a.put (some x) v).put (some y) u) W) :
    wpAnyH P md ops Q (fun W => Below w0.heap.size w0 W) (fuel + 1 + 1) listed a w := by
  refine wpAnyH_ready hr (by simp) ?_
  refine AllReadyH.cons hi (fun K hK => ?_) (AllReadyH.cons hj (fun K hK => ?_) AllReadyH.nil)
  · refine c1 K (fun v W hR hB => hK.out _ _ (bt hS hB) (fun h => ?_))
    refine wpAnyH_one hj hr1 h (c2 v W hR h) (fun u W' hR' hB' h' => ?_)
    exact rest v u W' (si v W W' hR hB') hR' h'
  · refine d1 K (fun u W hR hB => hK.out _ _ (bt hS hB) (fun h => ?_))
    refine wpAnyH_one hi hr2 h (d2 u W hR h) (fun v W' hR' hB' h' => ?_)
    rw [put_comm a (Ne.symm hxy), list_comm]
    exact rest v u W' hR' (sj u W W' hR hB') h'
end
end Go.Proofs.Ytophkfbdhejmcaa
