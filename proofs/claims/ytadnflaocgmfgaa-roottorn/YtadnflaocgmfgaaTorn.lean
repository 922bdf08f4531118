/- A torn block: plain mathematics. -/
import Derived.Test.YtadnflaocgmfgaaArg
namespace Go.Proofs.Ytadnflaocgmfgaa
open Go.RowKit
set_option linter.unusedVariables false
theorem ext_getD {a b : List Int} (h : a.length = b.length) (hi : ∀ i, i < a.length → a.getD i 0 = b.getD i 0) : a = b := by
  refine List.ext_getElem h (fun i h1 h2 => ?_)
  have := hi i h1
  rw [List.getD_eq_getElem?_getD, List.getD_eq_getElem?_getD, List.getElem?_eq_getElem h1, List.getElem?_eq_getElem h2] at this
  exact this
theorem torn_at (a b : List Int) (k i : Nat) (ha : a.length = 256) (hb : b.length = 256) (hk : k ≤ 256) (hi : i < 256) : (a.take k ++ b.drop k).getD i 0 = if i < k then a.getD i 0 else b.getD i 0 := by
  rw [List.getD_eq_getElem?_getD, List.getElem?_append]
  have hl : (a.take k).length = k := by rw [List.length_take]; omega
  rw [hl]
  by_cases h : i < k
  · rw [if_pos h, if_pos h, List.getElem?_take, if_pos h, ← List.getD_eq_getElem?_getD]
  · rw [if_neg h, if_neg h, List.getElem?_drop, show k + (i - k) = i by omega, ← List.getD_eq_getElem?_getD]
theorem torn_len (a b : List Int) (k : Nat) (ha : a.length = 256) (hb : b.length = 256) (hk : k ≤ 256) : (a.take k ++ b.drop k).length = 256 := by
  rw [List.length_append, List.length_take, List.length_drop]; omega
/-- Both ends of a root's block. -/
theorem ends {r : RD} (h : r.Ok) : ∀ j, j < 6 → (putS r).getD (250 + j) 0 = (putS r).getD (4 + j) 0 := by
  intro j hj
  have h1 := (put_take h).2.2.1
  have h2 := (put_take h).2.2.2
  have e1 : (putS r).getD (250 + j) 0 = (dig r.E 6).getD j 0 := by rw [← h1, getD_drop]
  have e2 : (putS r).getD (4 + j) 0 = (dig r.E 6).getD j 0 := by rw [← h2, getD_take _ _ _ hj, getD_drop]
  rw [e1, e2]
theorem mark_at {r : RD} (h : r.Ok) : ∀ i, i < 4 → (putS r).getD i 0 = ([114, 111, 111, 116] : List Int).getD i 0 := by
  intro i hi
  have e : (putS r).take 4 = [114, 111, 111, 116] := by
    have h1 := put_front r
    have h2 : ((putS r).take (frontS r).length).take 4 = (frontS r).take 4 := by rw [h1]
    rw [List.take_take, show min 4 (frontS r).length = 4 by rw [front_len]; omega] at h2
    rw [h2]
    unfold frontS
    simp only [List.append_assoc]
    rfl
  rw [← e, getD_take _ _ _ hi]
theorem ep_differ {r o : RD} (hr : r.Ok) (ho : o.Ok) (hne : r.E ≠ o.E) (h : ∀ j, j < 6 → (putS r).getD (4 + j) 0 = (putS o).getD (4 + j) 0) : False := by
  have e1 := (put_take hr).2.2.2
  have e2 := (put_take ho).2.2.2
  have : dig r.E 6 = dig o.E 6 := by
    refine ext_getD (by rw [dig_length, dig_length]) (fun j hj => ?_)
    rw [dig_length] at hj
    have := h j hj
    rw [← e1, ← e2, getD_take _ _ _ hj, getD_take _ _ _ hj, getD_drop, getD_drop]
    exact this
  have v1 := val_dig 6 r.E hr.e0 (by have := hr.e1; show r.E < 281474976710656; omega)
  have v2 := val_dig 6 o.E ho.e0 (by have := ho.e1; show o.E < 281474976710656; omega)
  rw [this, v2] at v1
  exact hne v1.symm
theorem torn_is {r o : RD} (hr : r.Ok) (ho : o.Ok) (hne : r.E ≠ o.E) (k : Nat) (hk : k ≤ 256) (h : (getS ((putS r).take k ++ (putS o).drop k)).2 = 0) : (getS ((putS r).take k ++ (putS o).drop k)).1 = r ∨ (getS ((putS r).take k ++ (putS o).drop k)).1 = o := by
  have la := put_len hr
  have lb := put_len ho
  obtain ⟨hok, heq⟩ := gets_ok h
  have hE := ends hok
  rw [heq] at hE
  have at' := fun i hi => torn_at (putS r) (putS o) k i la lb hk hi
  by_cases hk2 : k ≤ 250
  · have hB : ∀ j, j < 6 → 4 + j < k → (putS r).getD (4 + j) 0 = (putS o).getD (4 + j) 0 := by
      intro j hj hlt
      have e := hE j hj
      rw [at' (250 + j) (by omega), at' (4 + j) (by omega), if_neg (by omega), if_pos hlt, ends ho j hj] at e
      exact e.symm
    have hk10 : k < 10 := by
      apply Nat.lt_of_not_le
      intro hge
      exact ep_differ hr ho hne (fun j hj => hB j hj (by omega))
    right
    have : (putS r).take k ++ (putS o).drop k = putS o := by
      refine ext_getD (by rw [torn_len _ _ _ la lb hk, lb]) (fun i hi => ?_)
      rw [torn_len _ _ _ la lb hk] at hi
      rw [at' i hi]
      by_cases hik : i < k
      · rw [if_pos hik]
        by_cases h4 : i < 4
        · rw [mark_at hr i h4, mark_at ho i h4]
        · have := hB (i - 4) (by omega) (by omega)
          rw [show 4 + (i - 4) = i by omega] at this
          exact this
      · rw [if_neg hik]
    rw [this, get_put ho]
  · left
    have : (putS r).take k ++ (putS o).drop k = putS r := by
      refine ext_getD (by rw [torn_len _ _ _ la lb hk, la]) (fun i hi => ?_)
      rw [torn_len _ _ _ la lb hk] at hi
      rw [at' i hi]
      by_cases hik : i < k
      · rw [if_pos hik]
      · rw [if_neg hik]
        have e := hE (i - 250) (by omega)
        rw [show 250 + (i - 250) = i by omega, at' i hi, at' (4 + (i - 250)) (by omega), if_neg hik, if_pos (by omega)] at e
        rw [e]
        have := ends hr (i - 250) (by omega)
        rw [show 250 + (i - 250) = i by omega] at this
        exact this.symm
    rw [this, get_put hr]
theorem torn_odd {r o m : RD} {ts cs : List Int} (hc : getS cs = (m, 0)) (hm : m.E.tmod 2 = 0) (hr : r.E.tmod 2 = 1) (ho : o.E.tmod 2 = 1) (h1 : m.E < r.E) (h2 : ¬ m.E < o.E) (ht : (getS ts).2 = 0 → (getS ts).1 = r ∨ (getS ts).1 = o) : (chS cs ts 2).e = 0 ∧ ((chS cs ts 2).r = r ∨ (chS cs ts 2).r = m) := by
  have e1 : pick 0 cs ⟨zero, 0, 4⟩ = ⟨m, 0, 0⟩ := by rw [pick_take (by rw [hc]) (by rw [hc]; exact hm) (Or.inl (by decide)), hc]
  show (pick 1 ts (pick 0 cs ⟨zero, 0, 4⟩)).e = 0 ∧ _
  have e2 : chS cs ts 2 = pick 1 ts ⟨m, 0, 0⟩ := by show pick 1 ts (pick 0 cs ⟨zero, 0, 4⟩) = _; rw [e1]
  rw [e2, e1]
  by_cases h : (getS ts).2 = 0
  · rcases ht h with e | e
    · rw [pick_take h (by rw [e]; exact hr) (Or.inr (by rw [e]; exact h1))]
      exact ⟨rfl, .inl e⟩
    · rw [pick_keep (by rw [e]; rintro (q | q); exact q rfl; exact h2 q)]
      exact ⟨rfl, .inr rfl⟩
  · rw [pick_skip1 h]
    exact ⟨rfl, .inr rfl⟩
theorem torn_even {r o m : RD} {ts cs : List Int} (hc : getS cs = (m, 0)) (hm : m.E.tmod 2 = 1) (hr : r.E.tmod 2 = 0) (ho : o.E.tmod 2 = 0) (h1 : ¬ r.E < m.E) (h2 : o.E < m.E) (ht : (getS ts).2 = 0 → (getS ts).1 = r ∨ (getS ts).1 = o) : (chS ts cs 2).e = 0 ∧ ((chS ts cs 2).r = r ∨ (chS ts cs 2).r = m) := by
  have e2 : chS ts cs 2 = pick 1 cs (pick 0 ts ⟨zero, 0, 4⟩) := rfl
  rw [e2]
  by_cases h : (getS ts).2 = 0
  · rcases ht h with e | e
    · rw [pick_take (c := ⟨zero, 0, 4⟩) h (by rw [e]; exact hr) (Or.inl (by decide)), e, pick_keep (by rw [hc]; rintro (q | q); exact q rfl; exact h1 q)]
      exact ⟨rfl, .inl rfl⟩
    · rw [pick_take (c := ⟨zero, 0, 4⟩) h (by rw [e]; exact ho) (Or.inl (by decide)), e, pick_take (by rw [hc]) (by rw [hc]; exact hm) (Or.inr (by rw [hc]; exact h2)), hc]
      exact ⟨rfl, .inr rfl⟩
  · rw [pick_skip1 h, pick_take (by rw [hc]) (by rw [hc]; exact hm) (Or.inl (by decide)), hc]
    exact ⟨rfl, .inr rfl⟩
end Go.Proofs.Ytadnflaocgmfgaa
