/- What is set is got, all else is as it was; a fact made anew of its values: plain mathematics. -/
import Derived.Test.YtpmhilaochfpaaaDoorCh
import Derived.Test.YtpmhilaochfpaaaDoorPg
namespace Go.Proofs.YtpmhilaochfpaaaDoor
set_option maxRecDepth 20000
set_option maxRecDepth 20000
set_option linter.unusedVariables false
set_option linter.unusedSimpArgs false

theorem setsS_ok {k : ClassD} {s t : List Str × List VD} {b : BoundD} (h : setsS k s b = .ok t) : 0 ≤ idxS k.attrs b.nm ∧ b.nm ∉ s.1 ∧ chkV b.x = 0 ∧ t = (s.1 ++ [b.nm], s.2.set (idxS k.attrs b.nm).toNat b.x) := by
  unfold setsS at h
  split at h
  · cases h
  · split at h
    · cases h
    · split at h
      · cases h
      · rename_i h1 h2 h3
        injection h with h
        exact ⟨by omega, h2, Classical.not_not.1 h3, h.symm⟩
theorem idx_inj {ss : List Str} {a b : Str} (ha : 0 ≤ idxS ss a) (hb : 0 ≤ idxS ss b) (h : (idxS ss a).toNat = (idxS ss b).toNat) : a = b := by
  have h1 := (idxS_lt ha).2
  have h2 := (idxS_lt hb).2
  rw [h] at h1
  exact h1.symm.trans h2
theorem getD_set_self (l : List VD) (j : Nat) (x : VD) (h : j < l.length) : (l.set j x).getD j v00 = x := by
  rw [List.getD_eq_getElem?_getD, List.getElem?_set_self h]; rfl
theorem getD_set_ne (l : List VD) (i j : Nat) (x : VD) (h : i ≠ j) : (l.set i x).getD j v00 = l.getD j v00 := by
  rw [List.getD_eq_getElem?_getD, List.getElem?_set_ne h, List.getD_eq_getElem?_getD]
theorem sets_run {k : ClassD} : ∀ {bs : List BoundD} {s t : List Str × List VD}, s.2.length = k.attrs.length → runE (setsS k) s bs = .ok t →
    (∀ b ∈ bs, 0 ≤ idxS k.attrs b.nm ∧ b.nm ∉ s.1 ∧ chkV b.x = 0) ∧ (∀ b ∈ bs, t.2.getD (idxS k.attrs b.nm).toNat v00 = b.x) ∧ (∀ j, (∀ b ∈ bs, (idxS k.attrs b.nm).toNat ≠ j) → t.2.getD j v00 = s.2.getD j v00)
  | [], s, t, _, h => by
    have h : Except.ok s = Except.ok t := h
    injection h with h; subst h
    exact ⟨by simp, by simp, fun _ _ => rfl⟩
  | b :: bs, s, t, hl, h => by
    have h : bindE (setsS k s b) (fun s' => runE (setsS k) s' bs) = .ok t := h
    cases hx : setsS k s b with
    | error e => rw [hx] at h; cases h
    | ok u =>
      rw [hx] at h
      obtain ⟨h1, h2, h3, rfl⟩ := setsS_ok hx
      obtain ⟨i1, i2, i3⟩ := sets_run (by simpa using hl) h
      have hlt := (idxS_lt h1).1
      have hne : ∀ c ∈ bs, (idxS k.attrs c.nm).toNat ≠ (idxS k.attrs b.nm).toNat := fun c hc e => by
        have := idx_inj (i1 c hc).1 h1 e
        exact (i1 c hc).2.1 (by rw [this]; simp)
      refine ⟨fun c hc => ?_, fun c hc => ?_, fun j hj => ?_⟩
      · rcases List.mem_cons.1 hc with rfl | hc
        · exact ⟨h1, h2, h3⟩
        · exact ⟨(i1 c hc).1, fun hm => (i1 c hc).2.1 (List.mem_append_left _ hm), (i1 c hc).2.2⟩
      · rcases List.mem_cons.1 hc with rfl | hc
        · rw [i3 _ hne]; exact getD_set_self _ _ _ (by omega)
        · exact i2 c hc
      · rw [i3 j fun c hc => hj c (List.mem_cons_of_mem _ hc)]
        exact getD_set_ne _ _ _ _ (hj b (List.mem_cons_self ..))
theorem with_ok {cs : List ClassD} {f g : FactD} {t : Int} {bs : List BoundD} (h : withR cs f t bs = .ok g) : factE cs f = 0 ∧ tagB t = true ∧ ∃ k s, findC cs f.c = some k ∧ f.vs.length = k.attrs.length ∧ valsE f.vs = 0 ∧ runE (setsS k) ([], f.vs) bs = .ok s ∧ g = ⟨t, f.c, s.2⟩ := by
  unfold withR at h
  by_cases hfe : factE cs f = 0
  · rw [if_neg (Classical.not_not.2 hfe)] at h
    cases htg : tagB t with
    | false => rw [htg, if_pos rfl] at h; cases h
    | true =>
      rw [htg, if_neg (by decide)] at h
      obtain ⟨_, k, hk, hl, hv⟩ := factE_fit hfe
      rw [hk] at h
      have h : bindE (runE (setsS k) ([], f.vs) bs) (fun s => Except.ok (⟨t, f.c, s.2⟩ : FactD)) = .ok g := h
      cases hr : runE (setsS k) ([], f.vs) bs with
      | error e => rw [hr] at h; cases h
      | ok s =>
        rw [hr] at h
        injection h with h
        exact ⟨hfe, rfl, k, s, hk, hl, hv, hr, h.symm⟩
  · rw [if_pos hfe] at h; cases h
theorem fits {cs : List ClassD} {f : FactD} {k : ClassD} (h1 : tagB f.t = true) (h2 : findC cs f.c = some k) (h3 : f.vs.length = k.attrs.length) (h4 : valsE f.vs = 0) : factE cs f = 0 := by
  unfold factE
  rw [h1, if_neg (by decide), h2]
  show (if f.vs.length ≠ k.attrs.length then (4 : Int) else valsE f.vs) = 0
  rw [if_neg (Classical.not_not.2 h3), h4]
/-- What With tells may be, and is as it was set. -/
theorem with_is {cs : List ClassD} {f g : FactD} {t : Int} {bs : List BoundD} (h : withR cs f t bs = .ok g) : factE cs g = 0 ∧ g.t = t ∧ g.c = f.c ∧
    ∀ a, (getR cs g a).isSome = (getR cs f a).isSome ∧ (∀ b ∈ bs, b.nm = a → getR cs g a = some b.x) ∧ ((∀ b ∈ bs, b.nm ≠ a) → getR cs g a = getR cs f a) := by
  obtain ⟨hfe, ht, k, s, hk, hl, hv, hr, rfl⟩ := with_ok h
  obtain ⟨h1, h2, h3⟩ := sets_run (by exact hl) hr
  have hinv := sets_inv (P := fun x => chkV x = 0) (fun b hb => (h1 b hb).2.2) (valsE_mem.1 hv) hr
  have hg : factE cs ⟨t, f.c, s.2⟩ = 0 := fits ht hk (hinv.1.trans hl) (valsE_mem.2 hinv.2.1)
  refine ⟨hg, rfl, rfl, fun a => ?_⟩
  rw [getR_of (f := ⟨t, f.c, s.2⟩) hg hk, getR_of hfe hk]
  by_cases hi : idxS k.attrs a < 0
  · rw [if_pos hi, if_pos hi]
    exact ⟨rfl, fun b hb e => absurd (h1 b hb).1 (by rw [e]; omega), fun _ => rfl⟩
  · rw [if_neg hi, if_neg hi]
    refine ⟨rfl, fun b hb e => ?_, fun hn => ?_⟩
    · have := h2 b hb
      rw [e] at this
      exact congrArg some this
    · refine congrArg some (h3 _ fun b hb e => ?_)
      exact hn b hb (idx_inj (h1 b hb).1 (by omega) e)
theorem with_self {cs : List ClassD} {f : FactD} (h : factE cs f = 0) : withR cs f f.t [] = .ok f := by
  obtain ⟨ht, k, hk, _⟩ := factE_fit h
  unfold withR
  rw [if_neg (Classical.not_not.2 h), ht, if_neg (by decide), hk]
  rfl
theorem step_err {k : ClassD} {s : List Str × List VD} {b : BoundD} {e : Int} (h : setsS k s b = .error e) : e ≠ 0 := by
  unfold setsS at h
  split at h
  · injection h with h; subst h; decide
  · split at h
    · injection h with h; subst h; decide
    · split at h
      · rename_i h3; injection h with h; subst h; exact h3
      · cases h
theorem sets_err {k : ClassD} : ∀ {bs : List BoundD} {s : List Str × List VD} {e : Int}, runE (setsS k) s bs = .error e → e ≠ 0
  | [], s, e, h => by
    have h : Except.ok s = Except.error e := h
    cases h
  | b :: bs, s, e, h => by
    have h : bindE (setsS k s b) (fun s' => runE (setsS k) s' bs) = .error e := h
    cases hx : setsS k s b with
    | error e' => rw [hx] at h; injection h with h; subst h; exact step_err hx
    | ok u => rw [hx] at h; exact sets_err h
theorem with_err {cs : List ClassD} {f : FactD} {t : Int} {bs : List BoundD} {e : Int} (h : withR cs f t bs = .error e) : e ≠ 0 := by
  unfold withR at h
  by_cases hfe : factE cs f = 0
  · rw [if_neg (Classical.not_not.2 hfe)] at h
    cases htg : tagB t with
    | false => rw [htg, if_pos rfl] at h; injection h with h; subst h; decide
    | true =>
      rw [htg, if_neg (by decide)] at h
      obtain ⟨_, k, hk, _⟩ := factE_fit hfe
      rw [hk] at h
      have h : bindE (runE (setsS k) ([], f.vs) bs) (fun s => Except.ok (⟨t, f.c, s.2⟩ : FactD)) = .error e := h
      cases hr : runE (setsS k) ([], f.vs) bs with
      | error e' => rw [hr] at h; injection h with h; subst h; exact sets_err hr
      | ok s => rw [hr] at h; cases h
  · rw [if_pos hfe] at h; injection h with h; subst h; exact hfe
theorem runE_clsS : ∀ {cs : List ClassD} {s t : List Str}, runE clsS s cs = .ok t → ∀ c ∈ cs, nodup [] c.attrs = true
  | [], _, _, _, c, hc => by simp at hc
  | c :: cs, s, t, h, d, hd => by
    have h : bindE (clsS s c) (fun s' => runE clsS s' cs) = .ok t := h
    cases hx : clsS s c with
    | error e => rw [hx] at h; cases h
    | ok u =>
      rw [hx] at h
      rcases List.mem_cons.1 hd with rfl | hd
      · unfold clsS at hx
        split at hx
        · cases hx
        · rename_i hn
          cases hb : nodup [] d.attrs with
          | true => rfl
          | false => exact absurd (Or.inr hb) hn
      · exact runE_clsS h d hd
theorem runE_clsE : ∀ {cs : List ClassD} {s : List Str} {e : Int}, runE clsS s cs = .error e → e = 7
  | [], s, e, h => by
    have h : Except.ok s = Except.error e := h
    cases h
  | c :: cs, s, e, h => by
    have h : bindE (clsS s c) (fun s' => runE clsS s' cs) = .error e := h
    cases hx : clsS s c with
    | error e' => rw [hx] at h; injection h with h; subst h; exact clsS_bad hx
    | ok u => rw [hx] at h; exact runE_clsE h
theorem clsE_nodup {cs : List ClassD} (h : clsE cs = 0) : ∀ c ∈ cs, nodup [] c.attrs = true := by
  unfold clsE at h
  cases hr : runE clsS [] cs with
  | error e => rw [hr] at h; have h' : e = 0 := h; have := runE_clsE hr; omega
  | ok t => exact runE_clsS hr
/-- A fact's values as sets. -/
def selfB (as_ : List Str) (vs : List VD) : List BoundD := (List.range as_.length).map fun i => ⟨as_.getD i [], vs.getD i v00⟩
theorem self_at {as_ : List Str} {vs : List VD} {i : Nat} (h : i < as_.length) : (selfB as_ vs).getD i ⟨[], v00⟩ = ⟨as_.getD i [], vs.getD i v00⟩ := by
  unfold selfB
  rw [List.getD_eq_getElem?_getD, List.getElem?_map, List.getElem?_range h]; rfl
theorem self_run {k : ClassD} {vs : List VD} (hn : nodup [] k.attrs = true) (hl : vs.length = k.attrs.length) (hv : valsE vs = 0) : ∀ i, i ≤ k.attrs.length →
    runE (setsS k) ([], List.replicate k.attrs.length v00) ((selfB k.attrs vs).take i) = .ok (k.attrs.take i, vs.take i ++ List.replicate (k.attrs.length - i) v00) := by
  intro i
  have hd := (nodup_iff k.attrs []).1 hn
  induction i with
  | zero => intro _; simp; rfl
  | succ i ih =>
    intro hi
    have hlt : i < (selfB k.attrs vs).length := by unfold selfB; simp; omega
    rw [runE_next ⟨[], v00⟩ hlt (ih (by omega)), self_at (by omega)]
    have hni := hd i (by omega)
    rw [List.nil_append] at hni
    have hidx : idxS k.attrs (k.attrs.getD i []) = i := idxS_at (by omega) rfl fun j hj e => hni (by
      rw [← e, List.mem_take_iff_getElem]
      refine ⟨j, by omega, ?_⟩
      rw [List.getD_eq_getElem?_getD, List.getElem?_eq_getElem (by omega)]; rfl)
    have hmem : vs.getD i v00 ∈ vs := by rw [List.getD_eq_getElem?_getD, List.getElem?_eq_getElem (by omega)]; exact List.getElem_mem _
    have hck := valsE_mem.1 hv _ hmem
    unfold setsS
    simp only
    rw [if_neg (by rw [hidx]; omega), if_neg hni, if_neg (Classical.not_not.2 hck), hidx, Int.toNat_natCast, ← take_snocD k.attrs i [] (by omega)]
    congr 2
    have e : k.attrs.length - i = (k.attrs.length - (i + 1)) + 1 := by omega
    rw [e, List.replicate_succ, take_snocD vs i v00 (by omega)]
    have hlen : (vs.take i).length = i := by rw [List.length_take]; omega
    rw [List.set_append_right _ _ (by omega), hlen, Nat.sub_self, List.set_cons_zero, List.append_assoc]; rfl
theorem make_self {cs : List ClassD} {f : FactD} (h : factE cs f = 0) (hc : clsE cs = 0) : ∃ k, findC cs f.c = some k ∧ f.vs.length = k.attrs.length ∧ makeR cs f.t f.c (selfB k.attrs f.vs) = .ok f := by
  obtain ⟨ht, k, hk, hl, hv⟩ := factE_fit h
  refine ⟨k, hk, hl, ?_⟩
  have hn := clsE_nodup hc k (List.mem_of_find?_eq_some hk)
  have hr := self_run hn hl hv k.attrs.length (Nat.le_refl _)
  have hsl : (selfB k.attrs f.vs).length = k.attrs.length := by unfold selfB; simp
  rw [List.take_of_length_le (by omega), Nat.sub_self, List.replicate_zero, List.append_nil, List.take_of_length_le (by omega), List.take_of_length_le (by omega)] at hr
  unfold makeR
  rw [hk]
  have hb : factE cs ⟨1, f.c, List.replicate k.attrs.length v00⟩ = 0 := fits (show tagB 1 = true by decide) hk (by simp) (valsE_mem.2 fun x hx => by rw [(List.mem_replicate.1 hx).2]; decide)
  show withR cs ⟨1, f.c, List.replicate k.attrs.length v00⟩ f.t (selfB k.attrs f.vs) = .ok f
  unfold withR
  rw [if_neg (Classical.not_not.2 hb), ht, if_neg (by decide), hk]
  show bindE (runE (setsS k) ([], List.replicate k.attrs.length v00) (selfB k.attrs f.vs)) _ = _
  rw [hr]
  rfl
end Go.Proofs.YtpmhilaochfpaaaDoor
