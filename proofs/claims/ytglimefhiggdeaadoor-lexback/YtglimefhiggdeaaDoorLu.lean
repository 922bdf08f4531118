/- Tokens' places: plain mathematics, no program. (For lex; carry it by its Name.) -/
import Derived.Test.YtglimefhiggdeaaDoorLv
namespace Go.Proofs.YtglimefhiggdeaaDoor
set_option maxRecDepth 20000
open Go.Lib
set_option linter.unusedVariables false

/-- Places rise, and each token's text stands there, but for a number's. -/
def Placed (txt : List UInt8) : Nat → List (Tk × Nat) → Prop
  | _, [] => True
  | lo, (t, p) :: rest => lo ≤ p ∧ p < txt.length ∧ (t.k ≠ 11 ∨ t.vk ≠ 1 → (txtL t).length ≤ txt.length - p ∧ (txt.drop p).take (txtL t).length = txtL t) ∧ Placed txt (p + 1) rest
theorem Placed.low {txt : List UInt8} {a b : Nat} {ts : List (Tk × Nat)} (h : Placed txt b ts) (hab : a ≤ b) : Placed txt a ts := by
  cases ts with
  | nil => trivial
  | cons x rest => obtain ⟨t, p⟩ := x; exact ⟨Nat.le_trans hab h.1, h.2⟩
theorem scan_places : ∀ (n a : Nat) (l txt : List UInt8), l.length ≤ n → txt.drop a = l → Placed txt a (scanGo n a l).1 ∧
    ((scanGo n a l).2 = (0, 0) ∨ ((scanGo n a l).2.2 = 16 ∧ a ≤ (scanGo n a l).2.1 ∧ (∀ x ∈ (scanGo n a l).1, x.2 < (scanGo n a l).2.1) ∧ (scanGo n a l).2.1 < txt.length))
  | 0, a, l, txt, h, ht => ⟨trivial, .inl rfl⟩
  | n + 1, a, l, txt, h, ht => by
    by_cases hl : l = []
    · subst hl; rw [scanGo_nil]; exact ⟨trivial, .inl rfl⟩
    · have hl1 : 0 < l.length := List.length_pos_iff.2 hl
      have hlen : l.length = txt.length - a := by rw [← ht, List.length_drop]
      simp only [scanGo, if_neg hl]
      cases ho : oneL l with
      | none => exact ⟨trivial, .inr ⟨rfl, Nat.le_refl _, fun x hx => (by cases hx), by show a < txt.length; omega⟩⟩
      | some x =>
        obtain ⟨t, k⟩ := x
        obtain ⟨i1, i2, i3, i4⟩ := one_is hl ho
        obtain ⟨p1, p2⟩ := scan_places n (a + k + whN (l.drop k)) ((l.drop k).drop (whN (l.drop k))) txt (by rw [List.length_drop, List.length_drop]; omega) (by rw [← ht, List.drop_drop, List.drop_drop])
        simp only
        refine ⟨⟨Nat.le_refl _, by omega, fun hk => ?_, p1.low (by omega)⟩, ?_⟩
        · have e := i4 hk
          have hk2 : (txtL t).length = k := by rw [← e, List.length_take]; omega
          rw [ht, hk2]
          exact ⟨by omega, e⟩
        · rcases p2 with e | ⟨e1, e2, e3, e4⟩
          · exact .inl e
          · refine .inr ⟨e1, by omega, fun x hx => ?_, e4⟩
            rcases List.mem_cons.1 hx with rfl | hx
            · show a < _; omega
            · exact e3 x hx
theorem scan_placed (l : List UInt8) : Placed l 0 (scanL l).1 ∧ ((scanL l).2 = (0, 0) ∨ ((scanL l).2.2 = 16 ∧ (∀ x ∈ (scanL l).1, x.2 < (scanL l).2.1) ∧ (scanL l).2.1 < l.length)) := by
  have hw := wh_le _ l (Nat.le_refl _)
  obtain ⟨h1, h2⟩ := scan_places l.length (whN l) (l.drop (whN l)) l (by rw [List.length_drop]; omega) rfl
  refine ⟨h1.low (Nat.zero_le _), ?_⟩
  rcases h2 with h | ⟨h, _, h', h''⟩
  · exact .inl h
  · exact .inr ⟨h, h', h''⟩
/-! ### How long a token's text is -/
theorem nd_le : ∀ (k u : Nat), u < 10 ^ (k + 1) → nDigits u ≤ k + 1
  | 0, u, h => by rw [nDigits_small (by simpa using h)]; exact Nat.le_refl _
  | k + 1, u, h => by
    by_cases hu : u < 10
    · rw [nDigits_small hu]; omega
    · rw [nDigits_big hu]
      have := nd_le k (u / 10) (by rw [Nat.pow_succ] at h; omega)
      omega
theorem decA_lt : ∀ (l : List UInt8) (a : Nat), l.all isDig = true → decA a l < (a + 1) * 10 ^ l.length
  | [], a, _ => by simp [decA]
  | b :: t, a, h => by
    simp only [List.all_cons, Bool.and_eq_true] at h
    have hb : 48 ≤ b.toNat ∧ b.toNat ≤ 57 := by have := h.1; unfold isDig at this; simpa using this
    have ih := decA_lt t (10 * a + (b.toNat - 48)) h.2
    show decA (10 * a + (b.toNat - 48)) t < (a + 1) * 10 ^ (t.length + 1)
    refine Nat.lt_of_lt_of_le ih ?_
    rw [Nat.pow_succ, Nat.mul_comm (10 ^ t.length) 10, ← Nat.mul_assoc]
    exact Nat.mul_le_mul_right _ (by omega)
theorem strip_cons (a : UInt8) (t : List UInt8) : strip (a :: t) = if isSg a = true then t else a :: t := rfl
theorem num_txt {w : List UInt8} (h : numB w = true) : (itoa (nbV w)).length ≤ w.length := by
  have hne := strip_ne h
  have h1 : 0 < (strip w).length := List.length_pos_iff.2 hne
  have hall : (strip w).all isDig = true := by unfold numB at h; simp only [Bool.and_eq_true] at h; exact h.2
  have hlt : decV w < 10 ^ (strip w).length := by have := decA_lt (strip w) 0 hall; unfold decV; omega
  obtain ⟨k, hk⟩ : ∃ k, (strip w).length = k + 1 := ⟨(strip w).length - 1, by omega⟩
  rw [hk] at hlt
  have hnd := nd_le k _ hlt
  have hsw : (strip w).length ≤ w.length := by
    cases w with
    | nil => exact Nat.le_refl _
    | cons a t => rw [strip_cons]; split <;> simp
  have ha := nb_abs w
  unfold itoa
  split
  · rename_i hn
    have hneg : negB w = true := by
      cases hx : negB w with
      | true => rfl
      | false => unfold nbV at hn; rw [hx] at hn; simp at hn; omega
    have hs2 : w.length = (strip w).length + 1 := by
      cases w with
      | nil => cases hneg
      | cons a t =>
        have : a.toNat = 45 := by unfold negB at hneg; simpa using hneg
        rw [strip_cons, if_pos (by unfold isSg; simp [this])]
        rfl
    rw [List.length_cons, decDigits_length, ha]
    omega
  · rename_i hn
    rw [decDigits_length, show (nbV w).toNat = decV w by omega]
    omega
theorem txt_len {l : List UInt8} {t : Tk} {n : Nat} (hl : l ≠ []) (h : oneL l = some (t, n)) : (txtL t).length ≤ n := by
  obtain ⟨i1, i2, i3, i4⟩ := one_is hl h
  by_cases hk : t.k ≠ 11 ∨ t.vk ≠ 1
  · rw [← i4 hk, List.length_take]; omega
  · have hk11 : t.k = 11 := by rcases Int.decEq t.k 11 with e | e; exact absurd (.inl e) hk; exact e
    have hk1 : t.vk = 1 := by rcases Int.decEq t.vk 1 with e | e; exact absurd (.inr e) hk; exact e
    have hpar : ∃ w, parL w = some t ∧ w.length = n := by
      unfold oneL at h
      split at h
      · rename_i x hx
        obtain rfl := Option.some.inj h
        unfold fixL at hx
        split at hx
        all_goals first
          | (cases hx; done)
          | (simp only [Option.some.injEq, Prod.mk.injEq] at hx
             obtain ⟨rfl, rfl⟩ := hx
             exfalso; revert hk11; decide)
      · simp only at h
        split at h
        · split at h
          · cases h
          · simp only [Option.some.injEq, Prod.mk.injEq] at h
            obtain ⟨rfl, rfl⟩ := h
            exact absurd hk11 (by show ¬ (9 : Int) = 11; decide)
        · split at h
          · rename_i x hx
            obtain rfl := Option.some.inj h
            unfold sglL at hx
            split at hx
            all_goals first
              | (cases hx; done)
              | (simp only [Option.some.injEq, Prod.mk.injEq] at hx
                 obtain ⟨rfl, rfl⟩ := hx
                 exfalso; revert hk11; decide)
          · split at h
            · split at h
              · cases h
              · simp only [Option.some.injEq, Prod.mk.injEq] at h
                obtain ⟨rfl, rfl⟩ := h
                exact absurd hk11 (by show ¬ (8 : Int) = 11; decide)
            · split at h
              · cases h
              · rename_i t' hp
                simp only [Option.some.injEq, Prod.mk.injEq] at h
                obtain ⟨rfl, rfl⟩ := h
                exact ⟨_, hp, by rw [List.length_take]; omega⟩
    obtain ⟨w, hp, rfl⟩ := hpar
    unfold parL at hp
    split at hp
    · cases hp
    · split at hp
      · obtain rfl := Option.some.inj hp; cases hk1
      · split at hp
        · rename_i hb
          split at hp
          · cases hp
          · obtain rfl := Option.some.inj hp
            exact num_txt hb
        · obtain rfl := Option.some.inj hp; cases hk1
theorem back_len : ∀ (n a : Nat) (l : List UInt8), l.length ≤ n → (backL ((scanGo n a l).1.map Prod.fst)).length ≤ 2 * l.length
  | 0, a, l, h => Nat.zero_le _
  | n + 1, a, l, h => by
    by_cases hl : l = []
    · subst hl; rw [scanGo_nil]; exact Nat.zero_le _
    · simp only [scanGo, if_neg hl]
      cases ho : oneL l with
      | none => exact Nat.zero_le _
      | some x =>
        obtain ⟨t, k⟩ := x
        obtain ⟨i1, i2, i3, -⟩ := one_is hl ho
        have ht := txt_len hl ho
        have ih := back_len n (a + k + whN (l.drop k)) ((l.drop k).drop (whN (l.drop k))) (by rw [List.length_drop, List.length_drop]; omega)
        rw [List.length_drop, List.length_drop] at ih
        simp only [List.map_cons, backL]
        split
        · rw [List.length_append]; omega
        · rw [List.length_append, List.length_cons]; omega
theorem back_short (l : List UInt8) : (backL ((scanL l).1.map Prod.fst)).length ≤ 2 * l.length := by
  have := back_len l.length (whN l) (l.drop (whN l)) (by rw [List.length_drop]; omega)
  rw [List.length_drop] at this
  unfold scanL
  omega
end Go.Proofs.YtglimefhiggdeaaDoor
