/- Facts by their classes: what is told, as plain mathematics. -/
import Derived.Test.YtpmhilaochfpaaaDoorFx
import Derived.Test.YtpmhilaochfpaaaDoorFa
import Derived.Test.YtpmhilaochfpaaaDoorTxr
namespace Go.Proofs.YtpmhilaochfpaaaDoor
set_option maxRecDepth 20000
set_option maxRecDepth 20000
set_option linter.unusedVariables false
set_option linter.unusedSimpArgs false

/-- A value's error, a value's text. -/
def chkV (x : VD) : Int := chkE x.k x.n x.s
def svd (x : VD) : Str := (txtS x.k x.n (st x.s)).data.toList
/-- The first error of some values. -/
def valsE : List VD → Int
  | [] => 0
  | x :: l => if chkV x = 0 then valsE l else chkV x
def tagB (t : Int) : Bool := decide (1 ≤ t ∧ t ≤ 1099511627776)
/-- Check. -/
def factE (cs : List ClassD) (f : FactD) : Int :=
  if tagB f.t = false then 22 else match findC cs f.c with
  | none => 18
  | some k => if f.vs.length ≠ k.attrs.length then 4 else valsE f.vs
def setsS (k : ClassD) (s : List Str × List VD) (b : BoundD) : Except Int (List Str × List VD) :=
  if idxS k.attrs b.nm < 0 then .error 19 else if b.nm ∈ s.1 then .error 7 else if chkV b.x ≠ 0 then .error (chkV b.x) else .ok (s.1 ++ [b.nm], s.2.set (idxS k.attrs b.nm).toNat b.x)
/-- With. -/
def withR (cs : List ClassD) (f : FactD) (t : Int) (bs : List BoundD) : Except Int FactD :=
  if factE cs f ≠ 0 then .error (factE cs f) else if tagB t = false then .error 22 else match findC cs f.c with
  | none => .error 18
  | some k => bindE (runE (setsS k) ([], f.vs) bs) fun s => .ok ⟨t, f.c, s.2⟩
/-- Make. -/
def makeR (cs : List ClassD) (t : Int) (nm : Str) (bs : List BoundD) : Except Int FactD := match findC cs nm with
  | none => .error 18
  | some k => withR cs ⟨1, nm, List.replicate k.attrs.length v00⟩ t bs
/-- Get. -/
def getR (cs : List ClassD) (f : FactD) (a : Str) : Option VD :=
  if factE cs f ≠ 0 then none else match findC cs f.c with
  | none => none
  | some k => if idxS k.attrs a < 0 then none else some (f.vs.getD (idxS k.attrs a).toNat v00)
/-- What of an attribute is laid. -/
def piece (a : Str) (x : VD) : Str := if x.k = 0 then [] else [32, 94] ++ a ++ [32] ++ svd x
def pcs : List Str → List VD → Str
  | a :: as_, x :: xs => piece a x ++ pcs as_ xs
  | _, _ => []
/-- Text. -/
def textR (cs : List ClassD) (f : FactD) : Str := if factE cs f ≠ 0 then [] else match findC cs f.c with
  | none => []
  | some k => [40] ++ f.c ++ pcs k.attrs f.vs ++ [41]
theorem pcs_snoc : ∀ {as_ : List Str} {xs : List VD} (a : Str) (x : VD), as_.length = xs.length → pcs (as_ ++ [a]) (xs ++ [x]) = pcs as_ xs ++ piece a x
  | [], [], a, x, _ => by simp [pcs]
  | b :: as_, y :: xs, a, x, h => by
    rw [List.cons_append, List.cons_append]
    show piece b y ++ pcs (as_ ++ [a]) (xs ++ [x]) = piece b y ++ pcs as_ xs ++ piece a x
    rw [pcs_snoc a x (by simpa using h), List.append_assoc]
  | [], _ :: _, _, _, h => by simp at h
  | _ :: _, [], _, _, h => by simp at h
theorem pcs_next {as_ : List Str} {xs : List VD} {i : Nat} (h1 : i < as_.length) (h2 : i < xs.length) : pcs (as_.take (i + 1)) (xs.take (i + 1)) = pcs (as_.take i) (xs.take i) ++ piece (as_.getD i []) (xs.getD i v00) := by
  rw [take_snocD as_ i [] h1, take_snocD xs i v00 h2, pcs_snoc _ _ (by simp; omega)]
theorem valsE_app : ∀ {l m : List VD}, valsE l = 0 → valsE (l ++ m) = valsE m
  | [], _, _ => rfl
  | x :: l, m, h => by
    have h' : (if chkV x = 0 then valsE l else chkV x) = 0 := h
    show (if chkV x = 0 then valsE (l ++ m) else chkV x) = _
    by_cases hx : chkV x = 0
    · rw [if_pos hx] at h' ⊢; exact valsE_app h'
    · rw [if_neg hx] at h'; exact absurd h' hx
theorem valsE_next {l : List VD} {i : Nat} (hi : i < l.length) (h : valsE (l.take i) = 0) : valsE (l.take (i + 1)) = chkV (l.getD i v00) := by
  rw [take_snocD l i v00 hi, valsE_app h]
  show (if chkV (l.getD i v00) = 0 then 0 else _) = _
  split
  · rename_i e; exact e.symm
  · rfl
theorem valsE_err {l : List VD} {i : Nat} (hi : i < l.length) (h : valsE (l.take i) = 0) (hx : chkV (l.getD i v00) ≠ 0) : valsE l = chkV (l.getD i v00) := by
  have e : l[i] = l.getD i v00 := by rw [List.getD_eq_getElem?_getD, List.getElem?_eq_getElem hi]; rfl
  have h2 : valsE l = valsE (l.drop i) := by
    have := valsE_app (m := l.drop i) h
    rwa [List.take_append_drop] at this
  rw [h2, List.drop_eq_getElem_cons hi]
  show (if chkV l[i] = 0 then _ else chkV l[i]) = _
  rw [e, if_neg hx]
theorem valsE_all {l : List VD} {i : Nat} (hi : i = l.length) (h : valsE (l.take i) = 0) : valsE l = 0 := by subst hi; rwa [List.take_length] at h
theorem valsE_mem : ∀ {l : List VD}, valsE l = 0 ↔ ∀ x ∈ l, chkV x = 0
  | [] => by simp [valsE]
  | x :: l => by
    show (if chkV x = 0 then valsE l else chkV x) = 0 ↔ _
    rw [List.forall_mem_cons, ← valsE_mem (l := l)]
    by_cases hx : chkV x = 0
    · rw [if_pos hx]; simp [hx]
    · rw [if_neg hx]; simp [hx]
theorem idxS_lt {ss : List Str} {s : Str} (h : 0 ≤ idxS ss s) : (idxS ss s).toNat < ss.length ∧ ss.getD (idxS ss s).toNat [] = s := by
  unfold idxS at h ⊢
  split at h
  · rename_i i hi
    obtain ⟨hlt, h1, _⟩ := List.findIdx?_eq_some_iff_getElem.1 hi
    refine ⟨by simpa using hlt, ?_⟩
    show ss.getD ((i : Int)).toNat [] = s
    rw [Int.toNat_natCast, List.getD_eq_getElem?_getD, List.getElem?_eq_getElem hlt]
    exact of_decide_eq_true h1
  · exact absurd h (by decide)
theorem setsS_len {k : ClassD} {s t : List Str × List VD} {b : BoundD} (h : setsS k s b = .ok t) : t.2.length = s.2.length ∧ t.1 = s.1 ++ [b.nm] := by
  unfold setsS at h
  split at h
  · cases h
  split at h
  · cases h
  split at h
  · cases h
  injection h with h; subst h; simp
/-- What a run of sets keeps. -/
theorem sets_inv {k : ClassD} {P : VD → Prop} : ∀ {bs : List BoundD} {s t : List Str × List VD}, (∀ b ∈ bs, P b.x) → (∀ x ∈ s.2, P x) → runE (setsS k) s bs = .ok t → t.2.length = s.2.length ∧ (∀ x ∈ t.2, P x) ∧ t.1 = s.1 ++ bs.map (·.nm)
  | [], s, t, _, hs, h => by
    have h : Except.ok s = Except.ok t := h
    injection h with h; subst h; exact ⟨rfl, hs, by simp⟩
  | b :: bs, s, t, hb, hs, h => by
    have h : bindE (setsS k s b) (fun s' => runE (setsS k) s' bs) = .ok t := h
    cases hx : setsS k s b with
    | error e => rw [hx] at h; cases h
    | ok u =>
      rw [hx] at h
      have hl := setsS_len hx
      have hu : ∀ x ∈ u.2, P x := by
        unfold setsS at hx
        split at hx
        · cases hx
        split at hx
        · cases hx
        split at hx
        · cases hx
        injection hx with hx; subst hx
        intro x hm
        rcases List.mem_or_eq_of_mem_set hm with hm | rfl
        · exact hs x hm
        · exact hb b (List.mem_cons_self ..)
      obtain ⟨h1, h2, h3⟩ := sets_inv (fun c hc => hb c (List.mem_cons_of_mem _ hc)) hu h
      exact ⟨h1.trans hl.1, h2, by rw [h3, hl.2]; simp⟩
end Go.Proofs.YtpmhilaochfpaaaDoor
