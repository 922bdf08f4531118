import Derived.Test.YtpmhilaochfpaaaDoorV12
import Derived.Test.YtpmhilaochfpaaaDoorV8
import Derived.Test.YtpmhilaochfpaaaDoorV3
import Derived.Test.YtpmhilaochfpaaaDoorV2
import Derived.Deep.LoopGhost
namespace Go.Proofs.YtpmhilaochfpaaaDoor
set_option maxRecDepth 20000
set_option maxRecDepth 20000
set_option linter.unusedVariables false
set_option linter.unusedSimpArgs false
def chkV (x : VD) : Int := chkE x.k x.n x.s
def valsE : List VD → Int
  | [] => 0
  | x :: l => if chkV x = 0 then valsE l else chkV x
def tagB (t : Int) : Bool := decide (1 ≤ t ∧ t ≤ 1099511627776)
def factE (cs : List ClassD) (f : FactD) : Int :=
  if tagB f.t = false then 22 else match findC cs f.c with
  | none => 18
  | some k => if f.vs.length ≠ k.attrs.length then 4 else valsE f.vs
theorem valsE_app : ∀ {l m : List VD}, valsE l = 0 → valsE (l ++ m) = valsE m
  | [], _, _ => rfl
  | x :: l, m, h => by
    have h' : (if chkV x = 0 then valsE l else chkV x) = 0 := h
    show (if chkV x = 0 then valsE (l ++ m) else chkV x) = _
    by_cases hx : chkV x = 0
    · rw [if_pos hx] at h' ⊢; exact valsE_app h'
    · rw [if_neg hx] at h'; exact absurd h' hx
theorem valsE_next {l : List VD} {i : Nat} (hi : i < l.length) (h : valsE (l.take i) = 0) : valsE (l.take (i + 1)) = chkV (l.getD i v00) := by
  rw [take_snocD l i v00 hi, valsE_app h]
  show (if chkV (l.getD i v00) = 0 then 0 else _) = _
  split
  · rename_i e; exact e.symm
  · rfl
theorem valsE_err {l : List VD} {i : Nat} (hi : i < l.length) (h : valsE (l.take i) = 0) (hx : chkV (l.getD i v00) ≠ 0) : valsE l = chkV (l.getD i v00) := by
  have e : l[i] = l.getD i v00 := by rw [List.getD_eq_getElem?_getD, List.getElem?_eq_getElem hi]; rfl
  have h2 : valsE l = valsE (l.drop i) := by
    have := valsE_app (m := l.drop i) h
    rwa [List.take_append_drop] at this
  rw [h2, List.drop_eq_getElem_cons hi]
  show (if chkV l[i] = 0 then _ else chkV l[i]) = _
  rw [e, if_neg hx]
theorem valsE_all {l : List VD} {i : Nat} (hi : i = l.length) (h : valsE (l.take i) = 0) : valsE l = 0 := by subst hi; rwa [List.take_length] at h
theorem valsE_mem : ∀ {l : List VD}, valsE l = 0 ↔ ∀ x ∈ l, chkV x = 0
  | [] => by simp [valsE]
  | x :: l => by
    show (if chkV x = 0 then valsE l else chkV x) = 0 ↔ _
    rw [List.forall_mem_cons, ← valsE_mem (l := l)]
    by_cases hx : chkV x = 0
    · rw [if_pos hx]; simp [hx]
    · rw [if_neg hx]; simp [hx]
end Go.Proofs.YtpmhilaochfpaaaDoor
