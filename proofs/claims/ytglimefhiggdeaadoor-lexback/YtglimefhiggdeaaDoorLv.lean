/- Tokens' texts are scanned as these tokens; tokens' places: plain mathematics, no program. (For lex; carry it by its Name.) -/
import Derived.Test.YtglimefhiggdeaaDoorLw
namespace Go.Proofs.YtglimefhiggdeaaDoor
set_option maxRecDepth 20000
open Go.Lib
set_option linter.unusedVariables false

theorem hd_word {w : List UInt8} (ho : okR w = true) (hw : w ≠ []) : isW (w.getD 0 0) = false ∧ w.getD 0 0 ≠ 59 := by
  have hm : w.getD 0 0 ∈ w := by cases w with
    | nil => exact absurd rfl hw
    | cons a t => simp
  have hs := ok_mem ho hm
  generalize w.getD 0 0 = b at *
  constructor
  · unfold isW
    rw [Bool.eq_false_iff]
    intro h
    simp only [Bool.or_eq_true, beq_iff_eq] at h
    rcases h with ((h | h) | h) | h <;> (subst h; revert hs; decide)
  · intro h; subst h; revert hs; decide
/-- A token's text begins with no white. -/
theorem hd_tok {t : Tk} (h : IsTok t) : txtL t ≠ [] ∧ isW ((txtL t).getD 0 0) = false ∧ (txtL t).getD 0 0 ≠ 59 := by
  cases h with
  | fix k hk => rcases hk with rfl | rfl | rfl | rfl | rfl | rfl | rfl | rfl <;> decide
  | prd p hp => rcases hp with rfl | rfl | rfl | rfl | rfl | rfl <;> decide
  | nam k r hk ho h1 h2 =>
    rcases hk with rfl | rfl
    · exact ⟨by show 94 :: r ≠ []; simp, by show isW 94 = false; decide, by show (94 : UInt8) ≠ 59; decide⟩
    · exact ⟨by show 60 :: (r ++ [62]) ≠ []; simp, by show isW 60 = false; decide, by show (60 : UInt8) ≠ 59; decide⟩
  | val w t h =>
    obtain ⟨ho, h1, h2⟩ := word_ok (par_word (par_text h))
    have hv : txtL t ≠ [] := fun e => by rw [e] at h1; simp at h1
    exact ⟨hv, hd_word ho hv⟩
theorem wh_tok {t : Tk} (h : IsTok t) (r : List UInt8) : whN (txtL t ++ r) = 0 := by
  obtain ⟨h1, h2, h3⟩ := hd_tok h
  have h0 : (txtL t ++ r).getD 0 0 = (txtL t).getD 0 0 := by
    cases hx : txtL t with
    | nil => exact absurd hx h1
    | cons a u => rfl
  rw [wh_step _ (by simp [h1]), h0, if_neg (by rw [h2]; simp), if_neg h3]
theorem not_is {t : Tk} (h : IsTok t) (h7 : t.k = 7) : t = tok0 7 := by
  cases h with
  | fix k hk => have : k = 7 := h7; subst this; rfl
  | prd p hp => cases h7
  | nam k r hk ho h1 h2 => have : k = 7 := h7; omega
  | val w t h => have := par_kind h; omega
/-- Each Not stands ahead of an Open. -/
def Chain : List Tk → Prop
  | [] => True
  | t :: rest => IsTok t ∧ (t.k = 7 → ∃ u, rest = tok0 0 :: u) ∧ Chain rest
theorem one_not {l : List UInt8} {t : Tk} {n : Nat} (hl : l ≠ []) (h : oneL l = some (t, n)) (h7 : t.k = 7) : n = 1 ∧ ∃ r, l = 45 :: 40 :: r := by
  have hi := (one_is hl h).1
  unfold oneL at h
  split at h
  · rename_i x hx
    obtain rfl := Option.some.inj h
    unfold fixL at hx
    split at hx
    all_goals first
      | (cases hx; done)
      | (simp only [Option.some.injEq, Prod.mk.injEq] at hx
         obtain ⟨rfl, rfl⟩ := hx
         first | exact ⟨rfl, _, rfl⟩ | (exfalso; revert h7; decide))
  · simp only at h
    split at h
    · split at h
      · cases h
      · simp only [Option.some.injEq, Prod.mk.injEq] at h
        obtain ⟨rfl, rfl⟩ := h
        exact absurd h7 (by show ¬ (9 : Int) = 7; decide)
    · split at h
      · rename_i x hx
        obtain rfl := Option.some.inj h
        unfold sglL at hx
        split at hx
        all_goals first
          | (cases hx; done)
          | (simp only [Option.some.injEq, Prod.mk.injEq] at hx
             obtain ⟨rfl, rfl⟩ := hx
             exfalso; revert h7; decide)
      · split at h
        · split at h
          · cases h
          · simp only [Option.some.injEq, Prod.mk.injEq] at h
            obtain ⟨rfl, rfl⟩ := h
            exact absurd h7 (by show ¬ (8 : Int) = 7; decide)
        · split at h
          · cases h
          · rename_i t' hp
            simp only [Option.some.injEq, Prod.mk.injEq] at h
            obtain ⟨rfl, rfl⟩ := h
            have := par_kind hp
            omega
theorem scan_chain : ∀ (n a : Nat) (l : List UInt8), l.length ≤ n → Chain ((scanGo n a l).1.map Prod.fst)
  | 0, a, l, h => trivial
  | n + 1, a, l, h => by
    by_cases hl : l = []
    · subst hl; rw [scanGo_nil]; trivial
    · simp only [scanGo, if_neg hl]
      cases ho : oneL l with
      | none => trivial
      | some x =>
        obtain ⟨t, k⟩ := x
        obtain ⟨i1, i2, i3, -⟩ := one_is hl ho
        have ih := scan_chain n (a + k + whN (l.drop k)) ((l.drop k).drop (whN (l.drop k))) (by rw [List.length_drop, List.length_drop]; omega)
        simp only [List.map_cons]
        refine ⟨i1, fun h7 => ?_, ih⟩
        obtain ⟨rfl, r, rfl⟩ := one_not hl ho h7
        have hw : whN (40 :: r) = 0 := by rw [wh_step _ (by simp)]; exact (if_neg (show ¬ isW 40 = true by decide)).trans (if_neg (show ¬ (40 : UInt8) = 59 by decide))
        show ∃ u, ((scanGo n (a + 1 + whN (40 :: r)) ((40 :: r).drop (whN (40 :: r)))).1).map Prod.fst = tok0 0 :: u
        rw [hw]
        obtain ⟨m, rfl⟩ : ∃ m, n = m + 1 := ⟨n - 1, by simp at h; omega⟩
        show ∃ u, ((scanGo (m + 1) _ (40 :: r)).1).map Prod.fst = tok0 0 :: u
        rw [scanGo, if_neg (by simp), show oneL (40 :: r) = some (tok0 0, 1) from one_fix rfl]
        exact ⟨_, rfl⟩
/-- Tokens' texts, with a blank between each two, but none behind a Not. -/
def backL : List Tk → List UInt8
  | [] => []
  | t :: rest => if t.k = 7 then txtL t ++ backL rest else txtL t ++ 32 :: backL rest
theorem wh_back {ts : List Tk} (h : Chain ts) : whN (backL ts) = 0 := by
  cases ts with
  | nil => rfl
  | cons t rest =>
    unfold backL
    split
    · exact wh_tok h.1 _
    · exact wh_tok h.1 _
theorem wh_blank (r : List UInt8) : whN (32 :: r) = 1 + whN r := by rw [wh_step _ (by simp)]; exact if_pos (show isW ((32 :: r).getD 0 0) = true from rfl)
theorem chain_back : ∀ (ts : List Tk), Chain ts → ∀ N a, (backL ts).length ≤ N → (scanGo N a (backL ts)).1.map Prod.fst = ts ∧ (scanGo N a (backL ts)).2 = (0, 0)
  | [], _, N, a, _ => by rw [show backL [] = [] from rfl, scanGo_nil]; exact ⟨rfl, rfl⟩
  | t :: rest, h, N, a, hN => by
    obtain ⟨h1, h2, h3⟩ := h
    obtain ⟨hne, -, -⟩ := hd_tok h1
    have hlt : 0 < (txtL t).length := List.length_pos_iff.2 hne
    by_cases h7 : t.k = 7
    · obtain ⟨u, rfl⟩ := h2 h7
      obtain rfl := not_is h1 h7
      have e : backL (tok0 7 :: tok0 0 :: u) = 45 :: backL (tok0 0 :: u) := rfl
      have e2 : backL (tok0 0 :: u) = 40 :: 32 :: backL u := rfl
      rw [e, List.length_cons] at hN
      obtain ⟨M, rfl⟩ : ∃ M, N = M + 1 := ⟨N - 1, by omega⟩
      have ih := chain_back (tok0 0 :: u) h3 M (a + 1 + 0) (by omega)
      have hw := wh_back h3
      rw [e, scanGo, if_neg (by simp), show oneL (45 :: backL (tok0 0 :: u)) = some (tok0 7, 1) by rw [e2]; exact back_not _]
      simp only [List.drop_succ_cons, List.drop_zero, hw, List.map_cons]
      exact ⟨by rw [ih.1], ih.2⟩
    · have e : backL (t :: rest) = txtL t ++ 32 :: backL rest := by rw [backL, if_neg h7]
      rw [e, List.length_append, List.length_cons] at hN
      obtain ⟨M, rfl⟩ : ∃ M, N = M + 1 := ⟨N - 1, by omega⟩
      have hw := wh_back h3
      have ih := chain_back rest h3 M (a + (txtL t).length + 1) (by omega)
      have hd : (txtL t ++ 32 :: backL rest).drop (txtL t).length = 32 :: backL rest := by rw [List.drop_append_of_le_length (Nat.le_refl _), List.drop_length, List.nil_append]
      rw [e, scanGo, if_neg (by simp), back_one h1 h7]
      simp only [hd, wh_blank, hw, List.map_cons, Nat.add_zero, List.drop_succ_cons, List.drop_zero]
      exact ⟨by rw [ih.1], ih.2⟩
/-- The texts of a text's tokens are scanned as these tokens. -/
theorem scan_back (l : List UInt8) : (scanL (backL ((scanL l).1.map Prod.fst))).1.map Prod.fst = (scanL l).1.map Prod.fst ∧ (scanL (backL ((scanL l).1.map Prod.fst))).2 = (0, 0) := by
  have hw := wh_le _ l (Nat.le_refl _)
  have hc : Chain ((scanL l).1.map Prod.fst) := scan_chain _ _ _ (by rw [List.length_drop]; omega)
  generalize (scanL l).1.map Prod.fst = ts at *
  have := chain_back ts hc (backL ts).length 0 (Nat.le_refl _)
  unfold scanL
  rw [wh_back hc, List.drop_zero]
  exact this
end Go.Proofs.YtglimefhiggdeaaDoor
