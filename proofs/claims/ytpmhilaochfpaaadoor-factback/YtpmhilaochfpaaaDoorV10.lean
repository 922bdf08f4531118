import Derived.Deep.RegionHeld3
import Derived.WalkKit
import Derived.Below
namespace Go.Proofs.YtpmhilaochfpaaaDoor
set_option maxRecDepth 20000
set_option maxRecDepth 20000
set_option maxRecDepth 20000
set_option maxRecDepth 20000
set_option maxRecDepth 20000
set_option maxRecDepth 20000
open Go.RowKit
set_option linter.unusedVariables false
theorem bt {w w1 w2 : World} (h : Below w.heap.size w w1) (k : Below w1.heap.size w1 w2) : Below w.heap.size w w2 := h.trans (k.mono h.size)
theorem name_ops {P : Program} {id : Nat} {ops : Array Oper} {Q : Exit → Act → World → Prop} {a : Act} {w : World} (h : ∀ (O : Array Oper) (QQ : Exit → Act → World → Prop), Hid (O = ops) → Hid (QQ = Q) → (Code.region id O true).wp P QQ a w) : (Code.region id ops true).wp P Q a w := h _ _ rfl rfl
section
variable {P : Program} {ops : Array Oper} {Q : Exit → Act → World → Prop} {md : Region.Mode}
def Steps (P : Program) (ops : Array Oper) (Q : Exit → Act → World → Prop) (o : Oper) (a : Act) (w : World) (K : Act → World → Prop) : Prop :=
  if Region.wanted o (yielded ops a.tmps) = true then Oper.wp P o a w K Q else K (a.put o.dst undef) w
def Tells (P : Program) (ops : Array Oper) (Q : Exit → Act → World → Prop) (o : Oper) (a : Act) (w : World) (x : Nat) (R : Value → World → Prop) : Prop :=
  ∀ K : Act → World → Prop, (∀ v W, R v W → Below w.heap.size w W → K (a.put (some x) v) W) → Steps P ops Q o a w K
theorem wpAnyH_one {w0 : World} {i : Nat} {oi : Oper} {x fuel : Nat} {listed : Array Bool} {a : Act} {w : World} {R : Value → World → Prop} (hi : ops[i]? = some oi)
    (hr : Region.ready md ops listed = [i]) (hS : Below w0.heap.size w0 w) (c : Tells P ops Q oi a w x R)
    (rest : ∀ v W, R v W → Below w.heap.size w W → Below w0.heap.size w0 W → wpAnyH P md ops Q (fun W => Below w0.heap.size w0 W) fuel (listed.setIfInBounds i true) (a.put (some x) v) W) :
    wpAnyH P md ops Q (fun W => Below w0.heap.size w0 W) (fuel + 1) listed a w := by
  refine wpAnyH_ready hr (by simp) ?_
  refine AllReadyH.cons hi (fun K hK => ?_) AllReadyH.nil
  exact c K (fun v W hR hB => hK.out _ _ (bt hS hB) (fun h => rest v W hR hB h))
end
end Go.Proofs.YtpmhilaochfpaaaDoor
