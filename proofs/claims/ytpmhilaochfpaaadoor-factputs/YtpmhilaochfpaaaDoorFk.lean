/- (for stage 19) Facts as bytes, over any laying of values: plain mathematics. -/
import Derived.Test.YtpmhilaochfpaaaDoorFn
import Derived.Test.YtpmhilaochfpaaaDoorPl
namespace Go.Proofs.YtpmhilaochfpaaaDoor
set_option maxRecDepth 20000
set_option maxRecDepth 20000
set_option linter.unusedVariables false
set_option linter.unusedSimpArgs false

section
variable (pv : VD → List Int) (gv : List Int → Option (VD × Nat))
/-- Values laid one behind the other. -/
def putVs : List VD → List Int
  | [] => []
  | x :: l => pv x ++ putVs l
/-- Put of a fact. -/
def putF (cs : List ClassD) (f : FactD) : Except Int (List Int) :=
  if factE cs f ≠ 0 then .error (factE cs f) else if 255 < idxC cs f.c ∨ 160 < 1 + (putVs pv f.vs).length then .error 5 else .ok (idxC cs f.c :: putVs pv f.vs)
/-- So many values, read. -/
def readN : Nat → List Int → Option (List VD)
  | 0, _ => some []
  | n + 1, bs => match gv bs with
    | none => none
    | some (x, m) => (readN n (bs.drop m)).map (x :: ·)
instance : DecidableEq (Except Int (List Int)) := fun a b => match a, b with
  | .error x, .error y => if h : x = y then isTrue (by rw [h]) else isFalse (fun e => h (by injection e))
  | .ok x, .ok y => if h : x = y then isTrue (by rw [h]) else isFalse (fun e => h (by injection e))
  | .error _, .ok _ => isFalse (fun e => by cases e)
  | .ok _, .error _ => isFalse (fun e => by cases e)
/-- Get of a fact. -/
def getF (cs : List ClassD) (t : Int) : List Int → Option FactD
  | [] => none
  | b :: r => if (cs.length : Int) ≤ b then none else match readN gv (cs.getD b.toNat ⟨[], []⟩).attrs.length r with
    | none => none
    | some vs => if putF pv cs ⟨t, (cs.getD b.toNat ⟨[], []⟩).nm, vs⟩ = .ok (b :: r) then some ⟨t, (cs.getD b.toNat ⟨[], []⟩).nm, vs⟩ else none
variable {pv gv}
theorem putVs_snoc (l : List VD) (x : VD) : putVs pv (l ++ [x]) = putVs pv l ++ pv x := by
  induction l with
  | nil => simp [putVs]
  | cons y l ih => rw [List.cons_append]; show pv y ++ putVs pv (l ++ [x]) = pv y ++ putVs pv l ++ pv x; rw [ih, List.append_assoc]
theorem read_put (hg : ∀ x ys, chkV x = 0 → gv (pv x ++ ys) = some (x, (pv x).length)) : ∀ (vs : List VD) (ys : List Int), (∀ x ∈ vs, chkV x = 0) → readN gv vs.length (putVs pv vs ++ ys) = some vs
  | [], ys, _ => rfl
  | x :: vs, ys, h => by
    have h1 := hg x (putVs pv vs ++ ys) (h x (List.mem_cons_self ..))
    have ih := read_put hg vs ys fun y hy => h y (List.mem_cons_of_mem _ hy)
    show (match gv (pv x ++ putVs pv vs ++ ys) with | none => none | some (x', m) => (readN gv vs.length ((pv x ++ putVs pv vs ++ ys).drop m)).map (x' :: ·)) = _
    rw [List.append_assoc, h1]
    show (readN gv vs.length ((pv x ++ (putVs pv vs ++ ys)).drop (pv x).length)).map (x :: ·) = _
    rw [List.drop_left, ih]; rfl
theorem read_cut (hg : ∀ x ys, chkV x = 0 → gv (pv x ++ ys) = some (x, (pv x).length)) (hc : ∀ x, chkV x = 0 → gv ((pv x).take ((pv x).length - 1)) = none) (hp : ∀ x, chkV x = 0 → 1 ≤ (pv x).length) :
    ∀ (vs : List VD), vs ≠ [] → (∀ x ∈ vs, chkV x = 0) → readN gv vs.length ((putVs pv vs).take ((putVs pv vs).length - 1)) = none
  | [], h, _ => absurd rfl h
  | [x], _, h => by
    have h1 := hc x (h x (List.mem_cons_self ..))
    have e : putVs pv [x] = pv x := by simp [putVs]
    rw [e]
    show (match gv ((pv x).take ((pv x).length - 1)) with | none => none | some (x', m) => _) = none
    rw [h1]
  | x :: y :: vs, _, h => by
    have hx := h x (List.mem_cons_self ..)
    have ih := read_cut hg hc hp (y :: vs) (by simp) fun z hz => h z (List.mem_cons_of_mem _ hz)
    have hy := hp y (h y (List.mem_cons_of_mem _ (List.mem_cons_self ..)))
    have hl : 1 ≤ (putVs pv (y :: vs)).length := by show 1 ≤ (pv y ++ putVs pv vs).length; rw [List.length_append]; omega
    have e : (putVs pv (x :: y :: vs)).take ((putVs pv (x :: y :: vs)).length - 1) = pv x ++ (putVs pv (y :: vs)).take ((putVs pv (y :: vs)).length - 1) := by
      show (pv x ++ putVs pv (y :: vs)).take ((pv x ++ putVs pv (y :: vs)).length - 1) = _
      rw [List.length_append, List.take_append]
      have e1 : (pv x).length + (putVs pv (y :: vs)).length - 1 - (pv x).length = (putVs pv (y :: vs)).length - 1 := by omega
      rw [List.take_of_length_le (by omega), e1]
    rw [e]
    have h1 := hg x ((putVs pv (y :: vs)).take ((putVs pv (y :: vs)).length - 1)) hx
    show (match gv (pv x ++ (putVs pv (y :: vs)).take ((putVs pv (y :: vs)).length - 1)) with | none => none | some (x', m) => (readN gv (y :: vs).length ((pv x ++ (putVs pv (y :: vs)).take ((putVs pv (y :: vs)).length - 1)).drop m)).map (x' :: ·)) = none
    rw [h1]
    show (readN gv (y :: vs).length ((pv x ++ (putVs pv (y :: vs)).take ((putVs pv (y :: vs)).length - 1)).drop (pv x).length)).map (x :: ·) = none
    rw [List.drop_left, ih]; rfl
theorem putF_ok {cs : List ClassD} {f : FactD} {bs : List Int} (h : putF pv cs f = .ok bs) : factE cs f = 0 ∧ bs = idxC cs f.c :: putVs pv f.vs ∧ idxC cs f.c ≤ 255 ∧ bs.length ≤ 160 := by
  unfold putF at h
  by_cases h1 : factE cs f = 0
  · rw [if_neg (Classical.not_not.2 h1)] at h
    by_cases h2 : 255 < idxC cs f.c ∨ 160 < 1 + (putVs pv f.vs).length
    · rw [if_pos h2] at h; cases h
    · rw [if_neg h2] at h
      injection h with h
      subst h
      refine ⟨h1, rfl, by omega, ?_⟩
      rw [List.length_cons]; omega
  · rw [if_pos h1] at h; cases h
theorem putF_err {cs : List ClassD} {f : FactD} {e : Int} (h : putF pv cs f = .error e) : e ≠ 0 ∧ (e = factE cs f ∨ e = 5) := by
  unfold putF at h
  by_cases h1 : factE cs f = 0
  · rw [if_neg (Classical.not_not.2 h1)] at h
    by_cases h2 : 255 < idxC cs f.c ∨ 160 < 1 + (putVs pv f.vs).length
    · rw [if_pos h2] at h; injection h with h; subst h; exact ⟨by decide, .inr rfl⟩
    · rw [if_neg h2] at h; cases h
  · rw [if_pos h1] at h; injection h with h; subst h; exact ⟨h1, .inl rfl⟩
/-- The class of a fact that may be: its place. -/
theorem place_of {cs : List ClassD} {f : FactD} (h : factE cs f = 0) : ∃ k, k < cs.length ∧ idxC cs f.c = (k : Int) ∧ (cs.getD k ⟨[], []⟩).nm = f.c ∧ (cs.getD k ⟨[], []⟩).attrs.length = f.vs.length ∧ ∀ x ∈ f.vs, chkV x = 0 := by
  obtain ⟨_, c, hc, hl, hv⟩ := factE_fit h
  rcases idxC_cases cs f.c with ⟨_, hn⟩ | ⟨k, hk, hi, hf, hnm⟩
  · rw [hn] at hc; cases hc
  · rw [hf] at hc
    obtain rfl := Option.some.inj hc
    exact ⟨k, hk, hi, hnm, hl.symm, valsE_mem.1 hv⟩
theorem getF_put (hg : ∀ x ys, chkV x = 0 → gv (pv x ++ ys) = some (x, (pv x).length)) {cs : List ClassD} {f : FactD} {bs : List Int} (h : putF pv cs f = .ok bs) : getF pv gv cs f.t bs = some f := by
  obtain ⟨hE, rfl, _, _⟩ := putF_ok h
  obtain ⟨k, hk, hi, hnm, hl, hv⟩ := place_of hE
  have hr := read_put hg f.vs [] hv
  rw [List.append_nil] at hr
  rw [hi] at h ⊢
  unfold getF
  dsimp only
  rw [if_neg (by omega), Int.toNat_natCast, hl, hr, hnm]
  show (if putF pv cs ⟨f.t, f.c, f.vs⟩ = _ then some (⟨f.t, f.c, f.vs⟩ : FactD) else none) = some f
  rw [if_pos h]
theorem getF_more (hg : ∀ x ys, chkV x = 0 → gv (pv x ++ ys) = some (x, (pv x).length)) {cs : List ClassD} {f : FactD} {bs : List Int} (h : putF pv cs f = .ok bs) (z : Int) : getF pv gv cs f.t (bs ++ [z]) = none := by
  obtain ⟨hE, e, _, _⟩ := putF_ok h
  obtain ⟨k, hk, hi, hnm, hl, hv⟩ := place_of hE
  have hr := read_put hg f.vs [z] hv
  subst e
  rw [hi] at h ⊢
  rw [List.cons_append]
  unfold getF
  dsimp only
  rw [if_neg (by omega), Int.toNat_natCast, hl, hr, hnm]
  show (if putF pv cs ⟨f.t, f.c, f.vs⟩ = _ then some (⟨f.t, f.c, f.vs⟩ : FactD) else none) = none
  rw [if_neg]
  intro e
  have e2 : (Except.ok ((k : Int) :: putVs pv f.vs) : Except Int (List Int)) = .ok ((k : Int) :: (putVs pv f.vs ++ [z])) := h.symm.trans e
  injection e2 with e2
  have := congrArg List.length e2
  simp at this
theorem getF_less (hg : ∀ x ys, chkV x = 0 → gv (pv x ++ ys) = some (x, (pv x).length)) (hc : ∀ x, chkV x = 0 → gv ((pv x).take ((pv x).length - 1)) = none) (hp : ∀ x, chkV x = 0 → 1 ≤ (pv x).length) {cs : List ClassD} {f : FactD} {bs : List Int} (h : putF pv cs f = .ok bs) : getF pv gv cs f.t (bs.take (bs.length - 1)) = none := by
  obtain ⟨hE, e, _, _⟩ := putF_ok h
  obtain ⟨k, hk, hi, hnm, hl, hv⟩ := place_of hE
  subst e
  rw [hi]
  by_cases hne : f.vs = []
  · rw [hne]; rfl
  · have hr := read_cut hg hc hp f.vs hne hv
    have h1 : 1 ≤ (putVs pv f.vs).length := by
      cases hvs : f.vs with
      | nil => exact absurd hvs hne
      | cons x l =>
        have := hp x (hv x (by rw [hvs]; exact List.mem_cons_self ..))
        show 1 ≤ (pv x ++ putVs pv l).length
        rw [List.length_append]; omega
    have e : ((k : Int) :: putVs pv f.vs).take (((k : Int) :: putVs pv f.vs).length - 1) = (k : Int) :: (putVs pv f.vs).take ((putVs pv f.vs).length - 1) := by
      rw [List.length_cons, show (putVs pv f.vs).length + 1 - 1 = ((putVs pv f.vs).length - 1) + 1 by omega, List.take_succ_cons]
    rw [e]
    unfold getF
    dsimp only
    rw [if_neg (by omega), Int.toNat_natCast, hl, hr]
end
end Go.Proofs.YtpmhilaochfpaaaDoor
