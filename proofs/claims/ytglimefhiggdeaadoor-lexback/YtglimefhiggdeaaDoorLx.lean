/- Runs of word signs at a text's beginning: plain mathematics, no program. (For lex; carry it by its Name.) -/
import Derived.Test.YtglimefhiggdeaaDoorWo
import Derived.Lib.TrimUEq
import Derived.Lib.MapLaws
namespace Go.Proofs.YtglimefhiggdeaaDoor
set_option maxRecDepth 20000
open Go.Lib
set_option linter.unusedVariables false

theorem ubyte_lt (u : UInt8) : u.toNat < 256 := u.toNat_lt
theorem bad_of {l : List UInt8} (h : decodeL l = (65533, 1)) : badR l = true := by unfold badR; rw [h]; rfl
/-- A code point is read from its own bytes: what stands behind doesn't matter. -/
theorem dec_same {l m : List UInt8} (hne : l ≠ []) (hb : badR l = false) (h : ∀ i, i < (decodeL l).2 → m[i]? = l[i]?) : decodeL m = decodeL l := by
  have hk1 := decodeL_width l
  have hkl := decodeL_le l hne
  have hg : ∀ i, i < (decodeL l).2 → m.getD i 0 = l.getD i 0 := fun i hi => by
    rw [List.getD_eq_getElem?_getD, List.getD_eq_getElem?_getD, h i hi]
  have hlen : (decodeL l).2 ≤ m.length := by
    have h1 := h ((decodeL l).2 - 1) (by omega)
    rw [List.getElem?_eq_getElem (show (decodeL l).2 - 1 < l.length by omega)] at h1
    have := (List.getElem?_eq_some_iff.1 h1).1
    omega
  have hno : ¬ decodeL l = (65533, 1) := fun e => by rw [bad_of e] at hb; cases hb
  have e0 := hg 0 (by omega)
  have u1 := ubyte_lt (l.getD 1 0)
  have u2 := ubyte_lt (l.getD 2 0)
  have u3 := ubyte_lt (l.getD 3 0)
  have v1 := ubyte_lt (m.getD 1 0)
  have v2 := ubyte_lt (m.getD 2 0)
  have v3 := ubyte_lt (m.getD 3 0)
  have hL := decodeL_N l
  have hM := decodeL_N m
  rw [e0] at hM
  have ub := ubyte_lt (l.getD 0 0)
  by_cases c1 : (l.getD 0 0).toNat < 128
  · rw [hM, hL, rr1 _ _ _ _ _ c1, rr1 _ _ _ _ _ c1]
  by_cases c2 : (l.getD 0 0).toNat < 194 ∨ 245 ≤ (l.getD 0 0).toNat
  · exact absurd (by rw [hL, rr0 _ _ _ _ _ (by omega) c2 ub]) hno
  by_cases c3 : (l.getD 0 0).toNat < 224
  · rw [rr2 _ _ _ _ _ (by omega) c3 u1] at hL
    rw [rr2 _ _ _ _ _ (by omega) c3 v1] at hM
    split at hL
    · exact absurd hL hno
    · rename_i hc
      rw [hL] at hg hlen
      rw [hg 1 (by simp)] at hM
      rw [if_neg (by simp at hlen; omega)] at hM
      rw [hM, hL]
  by_cases c4 : (l.getD 0 0).toNat < 240
  · rw [rr3 _ _ _ _ _ (by omega) c4 u1 u2] at hL
    rw [rr3 _ _ _ _ _ (by omega) c4 v1 v2] at hM
    split at hL
    · exact absurd hL hno
    · rename_i hc
      rw [hL] at hg hlen
      rw [hg 1 (by simp), hg 2 (by simp)] at hM
      rw [if_neg (by simp at hlen; omega)] at hM
      rw [hM, hL]
  · rw [rr4 _ _ _ _ _ (by omega) (by omega) u1 u2 u3] at hL
    rw [rr4 _ _ _ _ _ (by omega) (by omega) v1 v2 v3] at hM
    split at hL
    · exact absurd hL hno
    · rename_i hc
      rw [hL] at hg hlen
      rw [hg 1 (by simp), hg 2 (by simp), hg 3 (by simp)] at hM
      rw [if_neg (by simp at hlen; omega)] at hM
      rw [hM, hL]
theorem bad_same {l m : List UInt8} (h : decodeL m = decodeL l) : badR m = badR l := by unfold badR; rw [h]
theorem dec_app {l : List UInt8} (r : List UInt8) (hne : l ≠ []) (hb : badR l = false) : decodeL (l ++ r) = decodeL l :=
  dec_same hne hb (fun i hi => by rw [List.getElem?_append_left (by have := decodeL_le l hne; omega)])
theorem dec_take {l : List UInt8} (n : Nat) (hne : l ≠ []) (hb : badR l = false) (hn : (decodeL l).2 ≤ n) : decodeL (l.take n) = decodeL l :=
  dec_same hne hb (fun i hi => by rw [List.getElem?_take, if_pos (by omega)])

/-- How long a run a text begins with. -/
def runGo : Nat → List UInt8 → Nat
  | 0, _ => 0
  | n + 1, l => if l = [] then 0 else if badR l = true ∨ stands (decodeL l).1 = false then 0 else (decodeL l).2 + runGo n (l.drop (decodeL l).2)
def runN (l : List UInt8) : Nat := runGo l.length l
theorem runGo_nil : ∀ n, runGo n [] = 0
  | 0 => rfl
  | _ + 1 => by simp [runGo]
theorem runGo_fuel : ∀ (n m : Nat) (l : List UInt8), l.length ≤ n → l.length ≤ m → runGo n l = runGo m l
  | 0, m, l, h, _ => by
    have : l = [] := List.length_eq_zero_iff.1 (by omega)
    subst this; rw [runGo_nil, runGo_nil]
  | n + 1, 0, l, _, h => by
    have : l = [] := List.length_eq_zero_iff.1 (by omega)
    subst this; rw [runGo_nil, runGo_nil]
  | n + 1, m + 1, l, h1, h2 => by
    by_cases hl : l = []
    · subst hl; rw [runGo_nil, runGo_nil]
    · have := drop_lt l hl
      simp only [runGo, if_neg hl]
      rw [runGo_fuel n m _ (by omega) (by omega)]
theorem runN_nil : runN [] = 0 := rfl
theorem runN_stop {l : List UInt8} (h : badR l = true ∨ stands (decodeL l).1 = false) : runN l = 0 := by
  unfold runN
  cases l with
  | nil => rfl
  | cons a t => show runGo (t.length + 1) (a :: t) = 0; unfold runGo; rw [if_neg (by simp), if_pos h]
theorem runN_step {l : List UInt8} (hne : l ≠ []) (hb : badR l = false) (hs : stands (decodeL l).1 = true) : runN l = (decodeL l).2 + runN (l.drop (decodeL l).2) := by
  unfold runN
  have hl := drop_lt l hne
  cases l with
  | nil => exact absurd rfl hne
  | cons a t =>
    show runGo (t.length + 1) (a :: t) = _
    rw [runGo, if_neg (by simp), if_neg (by simp [hb, hs]), runGo_fuel t.length _ _ (by simp at hl ⊢; omega) (Nat.le_refl _)]
theorem runN_le : ∀ (n : Nat) (l : List UInt8), l.length ≤ n → runN l ≤ l.length
  | 0, l, h => by
    have : l = [] := List.length_eq_zero_iff.1 (by omega)
    subst this; exact Nat.le_refl _
  | n + 1, l, h => by
    by_cases hl : l = []
    · subst hl; exact Nat.le_refl _
    by_cases hb : badR l = true ∨ stands (decodeL l).1 = false
    · rw [runN_stop hb]; exact Nat.zero_le _
    · have hb1 : badR l = false := by cases hx : badR l; rfl; exact absurd (.inl hx) hb
      have hb2 : stands (decodeL l).1 = true := by cases hx : stands (decodeL l).1; exact absurd (.inr hx) hb; rfl
      have hd := drop_lt l hl
      have := runN_le n _ (show (l.drop (decodeL l).2).length ≤ n by omega)
      rw [runN_step hl hb1 hb2]
      rw [List.length_drop] at this
      have := decodeL_le l hl
      omega
/-- A run is a text of signs of words alone. -/
theorem run_ok : ∀ (n : Nat) (l : List UInt8), l.length ≤ n → okR (l.take (runN l)) = true
  | 0, l, h => by
    have : l = [] := List.length_eq_zero_iff.1 (by omega)
    subst this; rfl
  | n + 1, l, h => by
    by_cases hl : l = []
    · subst hl; rfl
    by_cases hb : badR l = true ∨ stands (decodeL l).1 = false
    · rw [runN_stop hb]; exact okR_nil
    · have hb1 : badR l = false := by cases hx : badR l; rfl; exact absurd (.inl hx) hb
      have hb2 : stands (decodeL l).1 = true := by cases hx : stands (decodeL l).1; exact absurd (.inr hx) hb; rfl
      have hd := drop_lt l hl
      have ih := run_ok n _ (show (l.drop (decodeL l).2).length ≤ n by omega)
      have hk := decodeL_width l
      have hlp : 0 < l.length := List.length_pos_iff.2 hl
      rw [runN_step hl hb1 hb2]
      have hdt := dec_take ((decodeL l).2 + runN (l.drop (decodeL l).2)) hl hb1 (Nat.le_add_right _ _)
      have hne : l.take ((decodeL l).2 + runN (l.drop (decodeL l).2)) ≠ [] := by
        intro e
        have := congrArg List.length e
        rw [List.length_take, List.length_nil] at this
        omega
      rw [okR_step _ hne, bad_same hdt, hdt, hb1, hb2]
      simp only [Bool.not_false, Bool.true_and]
      rw [List.drop_take, Nat.add_sub_cancel_left]
      exact ih
/-- A run with an end behind it is told whole. -/
def ends (r : List UInt8) : Prop := r = [] ∨ badR r = true ∨ stands (decodeL r).1 = false
theorem run_app : ∀ (n : Nat) (l r : List UInt8), l.length ≤ n → okR l = true → ends r → runN (l ++ r) = l.length
  | 0, l, r, h, ho, he => by
    have : l = [] := List.length_eq_zero_iff.1 (by omega)
    subst this
    rcases he with e | e
    · subst e; rfl
    · exact runN_stop e
  | n + 1, l, r, h, ho, he => by
    by_cases hl : l = []
    · subst hl
      rcases he with e | e
      · subst e; rfl
      · exact runN_stop e
    · rw [okR_step l hl] at ho
      simp only [Bool.and_eq_true, Bool.not_eq_true'] at ho
      obtain ⟨h1, h2, h3⟩ := ho
      have hd := drop_lt l hl
      have hk := decodeL_le l hl
      have ha := dec_app r hl h1
      rw [runN_step (by simp [hl]) (by rw [bad_same ha]; exact h1) (by rw [ha]; exact h2), ha, List.drop_append_of_le_length hk, run_app n _ r (by omega) h3 he, List.length_drop]
      omega
theorem ends_ascii (b : UInt8) (t : List UInt8) (h : b.toNat < 128) (hs : stands b.toNat = false) : ends (b :: t) := .inr (.inr (by rw [decodeL_ascii b t h]; exact hs))
/-- What is read of a text up to a run's end doesn't hang on what stands behind an end. -/
theorem run_is {l r : List UInt8} (ho : okR l = true) (he : ends r) : runN (l ++ r) = l.length := run_app l.length l r (Nat.le_refl _) ho he
theorem run_front (l : List UInt8) : runN l ≤ l.length ∧ okR (l.take (runN l)) = true := ⟨runN_le l.length l (Nat.le_refl _), run_ok l.length l (Nat.le_refl _)⟩
theorem stands_hi {c : Nat} (h : 128 ≤ c) : stands c = true := by unfold stands; simp; omega
/-- The bytes of a code point that may stand in a word may stand there themselves. -/
theorem dec_bytes {l : List UInt8} (hne : l ≠ []) (hb : badR l = false) (hs : stands (decodeL l).1 = true) : ∀ i, i < (decodeL l).2 → stands (l.getD i 0).toNat = true := by
  have hno : ¬ decodeL l = (65533, 1) := fun e => by rw [bad_of e] at hb; cases hb
  have u1 := ubyte_lt (l.getD 1 0)
  have u2 := ubyte_lt (l.getD 2 0)
  have u3 := ubyte_lt (l.getD 3 0)
  have ub := ubyte_lt (l.getD 0 0)
  have hL := decodeL_N l
  intro i hi
  by_cases c1 : (l.getD 0 0).toNat < 128
  · rw [rr1 _ _ _ _ _ c1] at hL
    rw [hL] at hs hi
    obtain rfl : i = 0 := by simp at hi; omega
    exact hs
  by_cases c2 : (l.getD 0 0).toNat < 194 ∨ 245 ≤ (l.getD 0 0).toNat
  · exact absurd (by rw [hL, rr0 _ _ _ _ _ (by omega) c2 ub]) hno
  refine stands_hi ?_
  by_cases c3 : (l.getD 0 0).toNat < 224
  · rw [rr2 _ _ _ _ _ (by omega) c3 u1] at hL
    split at hL
    · exact absurd hL hno
    · rw [hL] at hi
      simp at hi
      obtain rfl | rfl : i = 0 ∨ i = 1 := by omega
      all_goals omega
  by_cases c4 : (l.getD 0 0).toNat < 240
  · rw [rr3 _ _ _ _ _ (by omega) c4 u1 u2] at hL
    split at hL
    · exact absurd hL hno
    · rw [hL] at hi
      simp at hi
      obtain rfl | rfl | rfl : i = 0 ∨ i = 1 ∨ i = 2 := by omega
      all_goals omega
  · rw [rr4 _ _ _ _ _ (by omega) (by omega) u1 u2 u3] at hL
    split at hL
    · exact absurd hL hno
    · rw [hL] at hi
      simp at hi
      obtain rfl | rfl | rfl | rfl : i = 0 ∨ i = 1 ∨ i = 2 ∨ i = 3 := by omega
      all_goals omega
theorem ok_bytes : ∀ (n : Nat) (l : List UInt8), l.length ≤ n → okR l = true → ∀ b ∈ l, stands b.toNat = true
  | 0, l, h, _, b, hb => by
    have : l = [] := List.length_eq_zero_iff.1 (by omega)
    subst this; cases hb
  | n + 1, l, h, ho, b, hb => by
    by_cases hl : l = []
    · subst hl; cases hb
    · rw [okR_step l hl] at ho
      simp only [Bool.and_eq_true, Bool.not_eq_true'] at ho
      obtain ⟨h1, h2, h3⟩ := ho
      have hd := drop_lt l hl
      rw [← List.take_append_drop (decodeL l).2 l] at hb
      rcases List.mem_append.1 hb with hb | hb
      · obtain ⟨i, hi, rfl⟩ := List.mem_iff_getElem.1 hb
        rw [List.length_take] at hi
        have := dec_bytes hl h1 h2 i (by omega)
        rw [List.getD_eq_getElem?_getD, List.getElem?_eq_getElem (by omega)] at this
        rw [List.getElem_take]
        exact this
      · exact ok_bytes n _ (by omega) h3 b hb
theorem ok_mem {l : List UInt8} (ho : okR l = true) {b : UInt8} (hb : b ∈ l) : stands b.toNat = true := ok_bytes l.length l (Nat.le_refl _) ho b hb
/-- A byte that stands in no word is none of a run's. -/
theorem ok_ne {l : List UInt8} (ho : okR l = true) {b c : UInt8} (hb : b ∈ l) (hc : stands c.toNat = false) : b ≠ c := fun e => by
  have := ok_mem ho hb
  rw [e, hc] at this; cases this
end Go.Proofs.YtglimefhiggdeaaDoor
