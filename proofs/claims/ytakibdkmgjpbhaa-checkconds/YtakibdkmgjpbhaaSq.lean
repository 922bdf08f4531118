/- More of what is asked of names: what is bound is fresh, and how much. -/
import Derived.Test.YtakibdkmgjpbhaaSp
import Derived.Test.YtakibdkmgjpbhaaLia
namespace Go.Proofs.Ytakibdkmgjpbhaa
set_option linter.unusedVariables false
section
variable {σ α : Type} {step : σ → α → Except Int σ}
theorem bindE_ok {σ τ : Type} {x : Except Int σ} {f : σ → Except Int τ} {t : τ} (h : bindE x f = .ok t) : ∃ s, x = .ok s ∧ f s = .ok t := by
  cases x with
  | error e => cases h
  | ok s => exact ⟨s, rfl, h⟩
theorem bindE_error {σ τ : Type} {x : Except Int σ} {f : σ → Except Int τ} {e : Int} (h : bindE x f = .error e) : x = .error e ∨ ∃ s, x = .ok s ∧ f s = .error e := by
  cases x with
  | error e' =>
    have h : (Except.error e' : Except Int τ) = Except.error e := h
    injection h with h; exact .inl (by rw [h])
  | ok s => exact .inr ⟨s, rfl, h⟩
theorem runE_inv {P : σ → Prop} {t : σ} : ∀ {l : List α} {s : σ}, P s → (∀ s x s', x ∈ l → P s → step s x = .ok s' → P s') → runE step s l = .ok t → P t
  | [], s, h0, hs, h => by
    have h : Except.ok s = Except.ok t := h
    injection h with h; exact h ▸ h0
  | x :: l, s, h0, hs, h => by
    obtain ⟨s', h1, h2⟩ := bindE_ok h
    exact runE_inv (hs s x s' (List.mem_cons_self ..) h0 h1) (fun s y s' hy => hs s y s' (List.mem_cons_of_mem _ hy)) h2
theorem runE_len {m : σ → Nat} {c : Nat} {t : σ} : ∀ {l : List α} {s : σ}, (∀ s x s', x ∈ l → step s x = .ok s' → m s' ≤ m s + c) → runE step s l = .ok t → m t ≤ m s + c * l.length
  | [], s, hs, h => by
    have h : Except.ok s = Except.ok t := h
    injection h with h; subst h; simp
  | x :: l, s, hs, h => by
    obtain ⟨s', h1, h2⟩ := bindE_ok h
    have h3 := runE_len (fun s y s' hy => hs s y s' (List.mem_cons_of_mem _ hy)) h2
    have h4 := hs s x s' (List.mem_cons_self ..) h1
    rw [List.length_cons, Nat.mul_add]; omega
theorem runE_bad {t : Int} : ∀ {l : List α} {s : σ}, runE step s l = .error t → ∃ s' x, x ∈ l ∧ step s' x = .error t
  | [], s, h => by cases h
  | x :: l, s, h => by
    rcases bindE_error h with h1 | ⟨s', _, h2⟩
    · exact ⟨s, x, List.mem_cons_self .., h1⟩
    · obtain ⟨s'', y, hy, h3⟩ := runE_bad h2
      exact ⟨s'', y, List.mem_cons_of_mem _ hy, h3⟩
end
theorem tstS_ok {zs f g : List Str} {t : TestD} (h : tstS zs f t = .ok g) : g = f ∨ (g = f ++ [t.v] ∧ t.v ∉ zs ++ f ∧ t.p = 0 ∧ t.v ≠ []) := by
  unfold tstS at h
  split at h
  · injection h with h; exact .inl h.symm
  · rename_i hn
    split at h
    · cases h
    · rename_i hp
      injection h with h
      exact .inr ⟨h.symm, fun hm => hn (.inr hm), Classical.not_not.1 hp, fun he => hn (.inl he)⟩
theorem tstS_bad {zs f : List Str} {t : TestD} {e : Int} (h : tstS zs f t = .error e) : e = 20 := by
  unfold tstS at h
  split at h
  · cases h
  · split at h
    · injection h with h; exact h.symm
    · cases h
theorem tstR_bad {zs : List Str} {ts : List TestD} {e : Int} (h : tstR zs ts = .error e) : e = 20 := by
  obtain ⟨s, x, _, h⟩ := runE_bad h
  exact tstS_bad h
theorem tstR_len {zs f : List Str} {ts : List TestD} (h : tstR zs ts = .ok f) : f.length ≤ ts.length := by
  have := runE_len (step := tstS zs) (m := List.length) (c := 1) (fun s x s' _ h => by
    rcases tstS_ok h with rfl | ⟨rfl, _⟩
    · omega
    · simp) h
  simpa using this
theorem tstR_new {zs f : List Str} {ts : List TestD} (h : tstR zs ts = .ok f) : ∀ x ∈ f, x ∉ zs ∧ ∃ t ∈ ts, t.v = x ∧ t.p = 0 ∧ t.v ≠ [] :=
  runE_inv (step := tstS zs) (P := fun f => ∀ x ∈ f, x ∉ zs ∧ ∃ t ∈ ts, t.v = x ∧ t.p = 0 ∧ t.v ≠ []) (by simp) (fun s t s' ht h0 hs => by
    rcases tstS_ok hs with rfl | ⟨rfl, hn, hp, hv⟩
    · exact h0
    · intro x hx
      rcases List.mem_append.1 hx with hx | hx
      · exact h0 x hx
      · obtain rfl := List.mem_singleton.1 hx
        exact ⟨fun hm => hn (List.mem_append_left _ hm), t, ht, rfl, hp, hv⟩) h
theorem attS_ok {has zs : List Str} {s s' : List Str × List Str} {a : AttrD} (h : attS has zs s a = .ok s') : onceE has s.1 a.a = 0 ∧ ∃ g, tstR (zs ++ s.2) a.tests = .ok g ∧ s' = (s.1 ++ [a.a], s.2 ++ g) := by
  unfold attS at h
  split at h
  · cases h
  · rename_i hn
    obtain ⟨g, h1, h2⟩ := bindE_ok h
    injection h2 with h2
    exact ⟨Classical.not_not.1 hn, g, h1, h2.symm⟩
theorem onceE_bad (has met : List Str) (s : Str) : onceE has met s = 0 ∨ onceE has met s = 7 ∨ onceE has met s = 19 := by
  unfold onceE; split
  · simp
  · split <;> simp
theorem attR_new {has zs : List Str} {l : List AttrD} {t : List Str × List Str} (h : runE (attS has zs) ([], []) l = .ok t) : ∀ x ∈ t.2, x ∉ zs ∧ ∃ a ∈ l, ∃ t ∈ a.tests, t.v = x ∧ t.p = 0 ∧ t.v ≠ [] :=
  runE_inv (step := attS has zs) (P := fun (t : List Str × List Str) => ∀ x ∈ t.2, x ∉ zs ∧ ∃ a ∈ l, ∃ t ∈ a.tests, t.v = x ∧ t.p = 0 ∧ t.v ≠ []) (by simp) (fun s a s' ha h0 hs => by
    obtain ⟨_, g, hg, rfl⟩ := attS_ok hs
    intro x hx
    rcases List.mem_append.1 hx with hx | hx
    · exact h0 x hx
    · obtain ⟨h1, t, h2⟩ := tstR_new hg x hx
      exact ⟨fun hm => h1 (List.mem_append_left _ hm), a, ha, t, h2⟩) h
theorem attR_len {has zs : List Str} {l : List AttrD} {t : List Str × List Str} (hl : ∀ a ∈ l, a.tests.length ≤ 12) (h : runE (attS has zs) ([], []) l = .ok t) : t.2.length ≤ 12 * l.length := by
  have := runE_len (step := attS has zs) (m := fun (t : List Str × List Str) => t.2.length) (c := 12) (fun s a s' ha hs => by
    obtain ⟨_, g, hg, rfl⟩ := attS_ok hs
    have := tstR_len hg
    have := hl a ha
    show (s.2 ++ g).length ≤ _
    rw [List.length_append]; omega) h
  simpa using this
theorem attS_bad {has zs : List Str} {s : List Str × List Str} {a : AttrD} {e : Int} (h : attS has zs s a = .error e) : e ≠ 0 := by
  unfold attS at h
  split at h
  · rename_i hn; injection h with h; exact h ▸ hn
  · rcases bindE_error h with h | ⟨g, _, h⟩
    · rw [tstR_bad h]; decide
    · cases h
theorem condR_bad {cs : List ClassD} {zs : List Str} {c : CondD} {e : Int} (h : condR cs zs c = .error e) : e ≠ 0 := by
  unfold condR at h
  split at h
  · injection h with h; subst h; decide
  · rcases bindE_error h with h | ⟨g, _, h⟩
    · obtain ⟨s, x, _, h⟩ := runE_bad h
      exact attS_bad h
    · cases h
theorem condR_len {cs : List ClassD} {zs f : List Str} {c : CondD} (hc : condL c) (h : condR cs zs c = .ok f) : f.length ≤ 120 := by
  unfold condR at h
  split at h
  · cases h
  · obtain ⟨s, h1, h2⟩ := bindE_ok h
    injection h2 with h2
    have := attR_len (fun a ha => (hc.2.2 a ha).2.2.1) h1
    have := hc.2.1
    subst h2
    split
    · simp
    · omega
theorem condR_new {cs : List ClassD} {zs f : List Str} {c : CondD} (h : condR cs zs c = .ok f) : ∀ x ∈ f, x ∉ zs ∧ c.neg = false ∧ ∃ a ∈ c.attrs, ∃ t ∈ a.tests, t.v = x ∧ t.p = 0 ∧ t.v ≠ [] := by
  unfold condR at h
  split at h
  · cases h
  · obtain ⟨s, h1, h2⟩ := bindE_ok h
    injection h2 with h2
    have := attR_new h1
    subst h2
    split
    · simp
    · rename_i hn
      intro x hx
      exact ⟨(this x hx).1, by simpa using hn, (this x hx).2⟩
theorem clsR_bad {cs : List ClassD} {conds : List CondD} {a : ActD} {e : Int} (h : clsR cs conds a = .error e) : e = 18 ∨ e = 12 := by
  unfold clsR at h
  split at h
  · injection h with h; exact .inl h.symm
  · split at h
    · injection h with h; exact .inr h.symm
    · cases h
theorem exE_bad (zs : List Str) (l : List ItemD) : exE zs l = 0 ∨ exE zs l = 20 := by unfold exE; split <;> simp
theorem setS_bad {has zs met : List Str} {x : SetD} {e : Int} (h : setS has zs met x = .error e) : e ≠ 0 := by
  unfold setS at h
  split at h
  · rename_i hn; injection h with h; exact h ▸ hn
  · split at h
    · rename_i hn; injection h with h; exact h ▸ hn
    · cases h
theorem exprS_bad {zs : List Str} {x : List ItemD} {u : Unit} {e : Int} (h : exprS zs u x = .error e) : e ≠ 0 := by
  unfold exprS at h
  split at h
  · rename_i hn; injection h with h; exact h ▸ hn
  · cases h
theorem actR_bad {cs : List ClassD} {conds : List CondD} {zs : List Str} {a : ActD} {e : Int} (h : actR cs conds zs a = .error e) : e ≠ 0 := by
  unfold actR at h
  rcases bindE_error h with h | ⟨s, _, h⟩
  · rcases clsR_bad h with rfl | rfl <;> decide
  · rcases bindE_error h with h | ⟨_, _, h⟩
    · obtain ⟨s, x, _, h⟩ := runE_bad h
      exact setS_bad h
    · rcases bindE_error h with h | ⟨_, _, h⟩
      · obtain ⟨s, x, _, h⟩ := runE_bad h
        exact exprS_bad h
      · cases h
end Go.Proofs.Ytakibdkmgjpbhaa
