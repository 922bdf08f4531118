/- What is asked of a program's names: plain mathematics, no program. -/
import Derived.Test.YtpmhilaochfpaaaDoorGa
namespace Go.Proofs.YtpmhilaochfpaaaDoor
set_option maxRecDepth 20000
set_option maxRecDepth 20000
set_option linter.unusedVariables false

def bindE {σ τ : Type} (x : Except Int σ) (f : σ → Except Int τ) : Except Int τ := match x with
  | .error e => .error e
  | .ok a => f a
/-- Step by step; the first error ends it. -/
def runE {σ α : Type} (step : σ → α → Except Int σ) : σ → List α → Except Int σ
  | s, [] => .ok s
  | s, x :: l => bindE (step s x) fun s' => runE step s' l
section
variable {σ α : Type} {step : σ → α → Except Int σ}
theorem runE_app (s : σ) (l m : List α) : runE step s (l ++ m) = bindE (runE step s l) fun s' => runE step s' m := by
  induction l generalizing s with
  | nil => rfl
  | cons x l ih =>
    rw [List.cons_append]
    show bindE (step s x) (fun s' => runE step s' (l ++ m)) = bindE (bindE (step s x) fun s' => runE step s' l) fun s' => runE step s' m
    cases step s x with
    | error e => rfl
    | ok s' => exact ih s'
theorem runE_one (s : σ) (x : α) : runE step s [x] = step s x := by
  show bindE (step s x) (fun s' => Except.ok s') = _
  cases step s x <;> rfl
theorem take_snocD (l : List α) (k : Nat) (d : α) (h : k < l.length) : l.take (k + 1) = l.take k ++ [l.getD k d] := by
  rw [List.take_succ_eq_append_getElem h, List.getD_eq_getElem?_getD, List.getElem?_eq_getElem h]; rfl
theorem runE_next {s t : σ} {l : List α} {k : Nat} (d : α) (h : k < l.length) (hk : runE step s (l.take k) = .ok t) : runE step s (l.take (k + 1)) = step t (l.getD k d) := by
  rw [take_snocD l k d h, runE_app, hk]; exact runE_one t _
theorem runE_err {s t : σ} {l : List α} {k : Nat} {e : Int} (d : α) (h : k < l.length) (hk : runE step s (l.take k) = .ok t) (he : step t (l.getD k d) = .error e) : runE step s l = .error e := by
  have h1 := runE_next d h hk
  rw [he] at h1
  rw [← List.take_append_drop (k + 1) l, runE_app, h1]; rfl
theorem runE_all {s t : σ} {l : List α} {k : Nat} (h : k = l.length) (hk : runE step s (l.take k) = .ok t) : runE step s l = .ok t := by
  subst h; rw [List.take_length] at hk; exact hk
end
def errE {σ : Type} : Except Int σ → Int
  | .error e => e
  | .ok _ => 0
def findC (cs : List ClassD) (s : Str) : Option ClassD := cs.find? fun c => decide (c.nm = s)
theorem findC_snoc (cs : List ClassD) (c : ClassD) (s : Str) : findC (cs ++ [c]) s = match findC cs s with | some x => some x | none => if c.nm = s then some c else none := by
  unfold findC
  rw [List.find?_append]
  cases cs.find? fun c => decide (c.nm = s) with
  | some x => rfl
  | none =>
    rw [Option.none_or, List.find?_cons]
    by_cases h : c.nm = s
    · rw [decide_eq_true h, if_pos h]
    · rw [decide_eq_false h, if_neg h]; rfl
def atK (cs : List ClassD) (s : Str) : List Str := match findC cs s with
  | some c => c.attrs
  | none => []
def onceE (has met : List Str) (s : Str) : Int := if s ∉ has then 19 else if s ∈ met then 7 else 0
def tstS (zs f : List Str) (t : TestD) : Except Int (List Str) := if t.v = [] ∨ t.v ∈ zs ++ f then .ok f else if t.p ≠ 0 then .error 20 else .ok (f ++ [t.v])
def tstR (zs : List Str) (ts : List TestD) : Except Int (List Str) := runE (tstS zs) [] ts
/-- An attribute of a condition: names met, variables bound here. -/
def attS (has zs : List Str) (st : List Str × List Str) (a : AttrD) : Except Int (List Str × List Str) :=
  if onceE has st.1 a.a ≠ 0 then .error (onceE has st.1 a.a) else bindE (tstR (zs ++ st.2) a.tests) fun g => .ok (st.1 ++ [a.a], st.2 ++ g)
/-- What a condition binds. -/
def condR (cs : List ClassD) (zs : List Str) (c : CondD) : Except Int (List Str) := match findC cs c.c with
  | none => .error 18
  | some k => bindE (runE (attS k.attrs zs) ([], []) c.attrs) fun st => .ok (if c.neg then [] else st.2)
def itemE (zs : List Str) (x : ItemD) : Bool := decide (x.k = 1) && decide (x.v ∉ zs)
def exE (zs : List Str) (l : List ItemD) : Int := if l.any (itemE zs) then 20 else 0
def setS (has zs met : List Str) (x : SetD) : Except Int (List Str) :=
  if onceE has met x.a ≠ 0 then .error (onceE has met x.a) else if exE zs x.e ≠ 0 then .error (exE zs x.e) else .ok (met ++ [x.a])
/-- The class of an act. -/
def clsR (cs : List ClassD) (conds : List CondD) (a : ActD) : Except Int Str :=
  if a.k = 0 ∧ findC cs a.c = none then .error 18
  else if (a.k = 1 ∨ a.k = 2) ∧ (a.n < 1 ∨ a.n > conds.length ∨ (conds.getD (a.n.toNat - 1) ⟨false, [], []⟩).neg = true) then .error 12
  else .ok (if a.k = 1 then (conds.getD (a.n.toNat - 1) ⟨false, [], []⟩).c else a.c)
def exprS (zs : List Str) (_ : Unit) (l : List ItemD) : Except Int Unit := if exE zs l ≠ 0 then .error (exE zs l) else .ok ()
def actR (cs : List ClassD) (conds : List CondD) (zs : List Str) (a : ActD) : Except Int (List Str) :=
  bindE (clsR cs conds a) fun s => bindE (runE (setS (atK cs s) zs) [] a.sets) fun _ => bindE (runE (exprS zs) () a.exprs) fun _ => .ok (if a.k = 3 then zs ++ [a.v] else zs)
def condS (cs : List ClassD) (zs : List Str) (c : CondD) : Except Int (List Str) := bindE (condR cs zs c) fun f => .ok (zs ++ f)
def ruleE (cs : List ClassD) (r : RuleD) : Int :=
  if r.conds = [] ∨ (r.conds.getD 0 ⟨false, [], []⟩).neg = true then 9
  else errE (bindE (runE (condS cs) [] r.conds) fun zs => runE (actR cs r.conds) zs r.acts)
def nodup : List Str → List Str → Bool
  | _, [] => true
  | zs, s :: l => decide (s ∉ zs) && nodup (zs ++ [s]) l
def clsS (met : List Str) (c : ClassD) : Except Int (List Str) := if c.nm ∈ met ∨ nodup [] c.attrs = false then .error 7 else .ok (met ++ [c.nm])
def clsE (cs : List ClassD) : Int := errE (runE clsS [] cs)
def progS (cs : List ClassD) (met : List Str) (r : RuleD) : Except Int (List Str) := if r.nm ∈ met then .error 7 else if ruleE cs r ≠ 0 then .error (ruleE cs r) else .ok (met ++ [r.nm])
def progE (p : ProgD) : Int := if clsE p.cs ≠ 0 then clsE p.cs else errE (runE (progS p.cs) [] p.rs)
end Go.Proofs.YtpmhilaochfpaaaDoor
