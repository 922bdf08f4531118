/- Scanning, as data: plain mathematics, no program. (For lex; carry it by its Name.) -/
import Derived.Test.YtglimefhiggdeaaDoorLy
namespace Go.Proofs.YtglimefhiggdeaaDoor
set_option maxRecDepth 20000
open Go.Lib
set_option linter.unusedVariables false

theorem getD_hd {l : List UInt8} (h : l ≠ []) : l = l.getD 0 0 :: l.drop 1 := by cases l with
  | nil => exact absurd rfl h
  | cons a t => rfl
/-- What a text's first token is: its text stands there, but for a number's. -/
theorem one_is {l : List UInt8} {t : Tk} {n : Nat} (hl : l ≠ []) (h : oneL l = some (t, n)) : IsTok t ∧ 1 ≤ n ∧ n ≤ l.length ∧ (t.k ≠ 11 ∨ t.vk ≠ 1 → l.take n = txtL t) := by
  unfold oneL at h
  have hl1 : 0 < l.length := List.length_pos_iff.2 hl
  split at h
  · rename_i x hx
    obtain rfl := Option.some.inj h
    unfold fixL at hx
    split at hx
    all_goals first
      | (cases hx; done)
      | (simp only [Option.some.injEq, Prod.mk.injEq] at hx
         obtain ⟨rfl, rfl⟩ := hx
         refine ⟨?_, by omega, by simp, fun _ => rfl⟩
         first | exact IsTok.fix _ (by simp) | exact IsTok.prd _ (by simp))
  · rename_i hf
    have hrun := run_front (l.drop 1)
    have hd : (l.drop 1).length = l.length - 1 := List.length_drop
    have hrl : ((l.drop 1).take (runN (l.drop 1))).length = runN (l.drop 1) := by rw [List.length_take]; omega
    simp only at h
    split at h
    · rename_i hc
      split at h
      · cases h
      · rename_i h24
        simp only [Option.some.injEq, Prod.mk.injEq] at h
        obtain ⟨rfl, rfl⟩ := h
        obtain ⟨c1, c2, c3⟩ := hc
        have hr1 : 1 ≤ ((l.drop 1).take (runN (l.drop 1))).length := by
          rcases Nat.eq_zero_or_pos ((l.drop 1).take (runN (l.drop 1))).length with e | e
          · exact absurd (List.length_eq_zero_iff.1 e) c2
          · exact e
        have hlen : ((l.drop 1).take (runN (l.drop 1))).length + 2 ≤ l.length := by
          rcases Nat.lt_or_ge (1 + ((l.drop 1).take (runN (l.drop 1))).length) l.length with e | e
          · omega
          · rw [List.drop_of_length_le e] at c3; cases c3
        refine ⟨.nam 9 _ (.inr rfl) hrun.2 hr1 (by omega), by omega, hlen, fun _ => ?_⟩
        show l.take _ = 60 :: ((l.drop 1).take (runN (l.drop 1)) ++ [62])
        have e1 : l = 60 :: l.drop 1 := by rw [← c1]; exact getD_hd hl
        have e2 : (l.drop 1).drop (runN (l.drop 1)) = 62 :: (l.drop 1).drop (runN (l.drop 1) + 1) := by
          rw [List.drop_drop]
          rw [hrl] at c3 hlen
          have hne : l.drop (1 + runN (l.drop 1)) ≠ [] := fun e => by rw [e] at c3; cases c3
          have := getD_hd hne
          rw [c3, List.drop_drop] at this
          rw [this, List.drop_drop]
          congr 2
        have e3 : l.drop 1 = (l.drop 1).take (runN (l.drop 1)) ++ 62 :: (l.drop 1).drop (runN (l.drop 1) + 1) := by rw [← e2, List.take_append_drop]
        generalize (l.drop 1).take (runN (l.drop 1)) = r at *
        generalize (l.drop 1).drop (runN (l.drop 1) + 1) = u at *
        rw [e1, e3]
        show (60 :: (r ++ 62 :: u)).take (r.length + 1 + 1) = _
        rw [List.take_succ_cons, List.take_append, List.take_of_length_le (by omega), show r.length + 1 - r.length = 1 by omega]
        rfl
    · split at h
      · rename_i x hx
        obtain rfl := Option.some.inj h
        unfold sglL at hx
        split at hx
        all_goals first
          | (cases hx; done)
          | (simp only [Option.some.injEq, Prod.mk.injEq] at hx
             obtain ⟨rfl, rfl⟩ := hx
             exact ⟨IsTok.prd _ (by simp), by omega, by simp, fun _ => rfl⟩)
      · split at h
        · rename_i c94
          split at h
          · cases h
          · rename_i hc
            simp only [Option.some.injEq, Prod.mk.injEq] at h
            obtain ⟨rfl, rfl⟩ := h
            have hr1 : 1 ≤ ((l.drop 1).take (runN (l.drop 1))).length := by
              rcases Nat.eq_zero_or_pos ((l.drop 1).take (runN (l.drop 1))).length with e | e
              · exact absurd (.inl (List.length_eq_zero_iff.1 e)) hc
              · exact e
            refine ⟨.nam 8 _ (.inl rfl) hrun.2 hr1 (by have := fun e => hc (.inr e); omega), by omega, by omega, fun _ => ?_⟩
            show l.take _ = 94 :: (l.drop 1).take (runN (l.drop 1))
            rw [hrl]
            have e1 : l = 94 :: l.drop 1 := by rw [← c94]; exact getD_hd hl
            conv => lhs; rw [e1]
            rw [List.take_succ_cons]
            rfl
        · split at h
          · cases h
          · rename_i t' hp
            simp only [Option.some.injEq, Prod.mk.injEq] at h
            obtain ⟨rfl, rfl⟩ := h
            have hr := run_front l
            obtain ⟨ho, h1, h2⟩ := word_ok (par_word hp)
            rw [List.length_take] at h1
            refine ⟨.val _ _ hp, by omega, hr.1, fun hk => ?_⟩
            unfold parL at hp
            repeat' split at hp
            all_goals first
              | (cases hp; done)
              | (rename_i hn; obtain rfl := Option.some.inj hp; exact hn)
              | (obtain rfl := Option.some.inj hp; rcases hk with hk | hk <;> exact absurd rfl hk)
              | (obtain rfl := Option.some.inj hp; rfl)
/-! ### White, and scanning -/
def isW (b : UInt8) : Bool := b == 32 || b == 9 || b == 10 || b == 13
def cmN (l : List UInt8) : Nat := (l.takeWhile (fun b => b != 10)).length
def whGo : Nat → List UInt8 → Nat
  | 0, _ => 0
  | n + 1, l => if l = [] then 0 else if isW (l.getD 0 0) = true then 1 + whGo n (l.drop 1) else if l.getD 0 0 = 59 then cmN l + whGo n (l.drop (cmN l)) else 0
def whN (l : List UInt8) : Nat := whGo l.length l
theorem cm_pos {l : List UInt8} (h : l.getD 0 0 = 59) : 1 ≤ cmN l ∧ cmN l ≤ l.length := by
  unfold cmN
  cases l with
  | nil => cases h
  | cons a t =>
    have : a = 59 := h
    subst this
    refine ⟨by simp [List.takeWhile], (List.takeWhile_sublist _).length_le⟩
theorem whGo_nil : ∀ n, whGo n [] = 0
  | 0 => rfl
  | _ + 1 => by simp [whGo]
theorem whGo_fuel : ∀ (n m : Nat) (l : List UInt8), l.length ≤ n → l.length ≤ m → whGo n l = whGo m l
  | 0, m, l, h, _ => by
    have : l = [] := List.length_eq_zero_iff.1 (by omega)
    subst this; rw [whGo_nil, whGo_nil]
  | n + 1, 0, l, _, h => by
    have : l = [] := List.length_eq_zero_iff.1 (by omega)
    subst this; rw [whGo_nil, whGo_nil]
  | n + 1, m + 1, l, h1, h2 => by
    by_cases hl : l = []
    · subst hl; rw [whGo_nil, whGo_nil]
    · have hp : 0 < l.length := List.length_pos_iff.2 hl
      simp only [whGo, if_neg hl]
      rw [whGo_fuel n m (l.drop 1) (by rw [List.length_drop]; omega) (by rw [List.length_drop]; omega)]
      by_cases hc : l.getD 0 0 = 59
      · have := cm_pos hc
        rw [whGo_fuel n m (l.drop (cmN l)) (by rw [List.length_drop]; omega) (by rw [List.length_drop]; omega)]
      · rw [if_neg hc, if_neg hc]
theorem wh_step (l : List UInt8) (hl : l ≠ []) : whN l = if isW (l.getD 0 0) = true then 1 + whN (l.drop 1) else if l.getD 0 0 = 59 then cmN l + whN (l.drop (cmN l)) else 0 := by
  have hp : 0 < l.length := List.length_pos_iff.2 hl
  obtain ⟨m, hm⟩ : ∃ m, l.length = m + 1 := ⟨l.length - 1, by omega⟩
  unfold whN
  conv => lhs; rw [hm]
  simp only [whGo, if_neg hl]
  rw [whGo_fuel m (l.drop 1).length _ (by rw [List.length_drop]; omega) (Nat.le_refl _)]
  by_cases hc : l.getD 0 0 = 59
  · have := cm_pos hc
    rw [whGo_fuel m (l.drop (cmN l)).length _ (by rw [List.length_drop]; omega) (Nat.le_refl _)]
  · rw [if_neg hc, if_neg hc]
theorem wh_le : ∀ (n : Nat) (l : List UInt8), l.length ≤ n → whN l ≤ l.length
  | 0, l, h => by
    have : l = [] := List.length_eq_zero_iff.1 (by omega)
    subst this; exact Nat.le_refl _
  | n + 1, l, h => by
    by_cases hl : l = []
    · subst hl; exact Nat.le_refl _
    · have hp : 0 < l.length := List.length_pos_iff.2 hl
      rw [wh_step l hl]
      split
      · have := wh_le n (l.drop 1) (by rw [List.length_drop]; omega)
        rw [List.length_drop] at this
        omega
      · split
        · rename_i hc
          have hcm := cm_pos hc
          have := wh_le n (l.drop (cmN l)) (by rw [List.length_drop]; omega)
          rw [List.length_drop] at this
          omega
        · omega
/-- Tokens with their places, the place of what is no token, and the error. -/
def scanGo : Nat → Nat → List UInt8 → List (Tk × Nat) × Nat × Nat
  | 0, _, _ => ([], 0, 0)
  | n + 1, at_, l => if l = [] then ([], 0, 0) else match oneL l with
    | none => ([], at_, 16)
    | some (t, k) => ((t, at_) :: (scanGo n (at_ + k + whN (l.drop k)) ((l.drop k).drop (whN (l.drop k)))).1, (scanGo n (at_ + k + whN (l.drop k)) ((l.drop k).drop (whN (l.drop k)))).2)
def scanL (l : List UInt8) : List (Tk × Nat) × Nat × Nat := scanGo l.length (whN l) (l.drop (whN l))
theorem scanGo_nil : ∀ n a, scanGo n a [] = ([], 0, 0)
  | 0, _ => rfl
  | _ + 1, _ => by simp [scanGo]
theorem scanGo_fuel : ∀ (n m a : Nat) (l : List UInt8), l.length ≤ n → l.length ≤ m → scanGo n a l = scanGo m a l
  | 0, m, a, l, h, _ => by
    have : l = [] := List.length_eq_zero_iff.1 (by omega)
    subst this; rw [scanGo_nil, scanGo_nil]
  | n + 1, 0, a, l, _, h => by
    have : l = [] := List.length_eq_zero_iff.1 (by omega)
    subst this; rw [scanGo_nil, scanGo_nil]
  | n + 1, m + 1, a, l, h1, h2 => by
    by_cases hl : l = []
    · subst hl; rw [scanGo_nil, scanGo_nil]
    · simp only [scanGo, if_neg hl]
      cases ho : oneL l with
      | none => rfl
      | some x =>
        obtain ⟨t, k⟩ := x
        have := one_is hl ho
        simp only
        rw [scanGo_fuel n m _ _ (by rw [List.length_drop, List.length_drop]; omega) (by rw [List.length_drop, List.length_drop]; omega)]
end Go.Proofs.YtglimefhiggdeaaDoor
