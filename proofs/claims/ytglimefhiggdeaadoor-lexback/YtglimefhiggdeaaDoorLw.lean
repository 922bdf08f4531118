/- Two texts with a line end between, scanned: plain mathematics, no program. (For lex; carry it by its Name.) -/
import Derived.Test.YtglimefhiggdeaaDoorLz
namespace Go.Proofs.YtglimefhiggdeaaDoor
set_option maxRecDepth 20000
open Go.Lib
set_option linter.unusedVariables false

/-- The bytes of a code point of several bytes are none of ASCII's. -/
theorem dec_hi2 {l : List UInt8} (hne : l ≠ []) (hb : badR l = false) (hk : 2 ≤ (decodeL l).2) : ∀ i, i < (decodeL l).2 → 128 ≤ (l.getD i 0).toNat := by
  have hno : ¬ decodeL l = (65533, 1) := fun e => by rw [bad_of e] at hb; cases hb
  have u1 := ubyte_lt (l.getD 1 0)
  have u2 := ubyte_lt (l.getD 2 0)
  have u3 := ubyte_lt (l.getD 3 0)
  have ub := ubyte_lt (l.getD 0 0)
  have hL := decodeL_N l
  intro i hi
  by_cases c1 : (l.getD 0 0).toNat < 128
  · rw [rr1 _ _ _ _ _ c1] at hL
    rw [hL] at hk; simp at hk
  by_cases c2 : (l.getD 0 0).toNat < 194 ∨ 245 ≤ (l.getD 0 0).toNat
  · exact absurd (by rw [hL, rr0 _ _ _ _ _ (by omega) c2 ub]) hno
  by_cases c3 : (l.getD 0 0).toNat < 224
  · rw [rr2 _ _ _ _ _ (by omega) c3 u1] at hL
    split at hL
    · exact absurd hL hno
    · rw [hL] at hi
      simp at hi
      obtain rfl | rfl : i = 0 ∨ i = 1 := by omega
      all_goals omega
  by_cases c4 : (l.getD 0 0).toNat < 240
  · rw [rr3 _ _ _ _ _ (by omega) c4 u1 u2] at hL
    split at hL
    · exact absurd hL hno
    · rw [hL] at hi
      simp at hi
      obtain rfl | rfl | rfl : i = 0 ∨ i = 1 ∨ i = 2 := by omega
      all_goals omega
  · rw [rr4 _ _ _ _ _ (by omega) (by omega) u1 u2 u3] at hL
    split at hL
    · exact absurd hL hno
    · rw [hL] at hi
      simp at hi
      obtain rfl | rfl | rfl | rfl : i = 0 ∨ i = 1 ∨ i = 2 ∨ i = 3 := by omega
      all_goals omega
/-- No line end makes a code point whole. -/
theorem bad_nl {l : List UInt8} (r : List UInt8) (hne : l ≠ []) : badR (l ++ 10 :: r) = badR l := by
  cases hb : badR l with
  | false => rw [bad_same (dec_app _ hne hb)]; exact hb
  | true =>
    cases hx : badR (l ++ 10 :: r) with
    | true => rfl
    | false =>
      have hn2 : l ++ 10 :: r ≠ [] := by simp
      by_cases hk : (decodeL (l ++ 10 :: r)).2 ≤ l.length
      · have := dec_same (m := l) hn2 hx (fun i hi => by rw [List.getElem?_append_left (by omega)])
        rw [bad_same this, hx] at hb; cases hb
      · have hl1 : 0 < l.length := List.length_pos_iff.2 hne
        have := dec_hi2 hn2 hx (by omega) l.length (by omega)
        rw [List.getD_eq_getElem?_getD, List.getElem?_append_right (Nat.le_refl _), Nat.sub_self] at this
        simp at this
theorem run_nl : ∀ (n : Nat) (l r : List UInt8), l.length ≤ n → runN (l ++ 10 :: r) = runN l
  | 0, l, r, h => by
    have : l = [] := List.length_eq_zero_iff.1 (by omega)
    subst this
    exact runN_stop (.inr (by rw [List.nil_append, decodeL_ascii 10 r (by decide)]; decide))
  | n + 1, l, r, h => by
    by_cases hl : l = []
    · subst hl
      exact runN_stop (.inr (by rw [List.nil_append, decodeL_ascii 10 r (by decide)]; decide))
    have hbn := bad_nl r hl
    by_cases hb : badR l = true
    · rw [runN_stop (.inl hb), runN_stop (.inl (hbn.trans hb))]
    · have hb1 : badR l = false := by cases hx : badR l; rfl; exact absurd hx hb
      have ha := dec_app (10 :: r) hl hb1
      cases hs : stands (decodeL l).1 with
      | false => rw [runN_stop (.inr hs), runN_stop (.inr (by rw [ha]; exact hs))]
      | true =>
        have hd := drop_lt l hl
        have hk := decodeL_le l hl
        rw [runN_step hl hb1 hs, runN_step (by simp) (hbn.trans hb1) (by rw [ha]; exact hs), ha, List.drop_append_of_le_length hk, run_nl n _ r (by omega)]
theorem run_line (l r : List UInt8) : runN (l ++ 10 :: r) = runN l := run_nl l.length l r (Nat.le_refl _)
theorem fix3 (a b c : UInt8) (t u : List UInt8) : fixL (a :: b :: c :: t) = fixL (a :: b :: c :: u) := by
  by_cases a1 : a = 40; (subst a1; rfl)
  by_cases a2 : a = 41; (subst a2; rfl)
  by_cases a3 : a = 123; (subst a3; rfl)
  by_cases a4 : a = 125; (subst a4; rfl)
  by_cases a5 : a = 60
  · subst a5
    by_cases b1 : b = 60; (subst b1; rfl)
    by_cases b2 : b = 61; (subst b2; rfl)
    by_cases b3 : b = 62; (subst b3; rfl)
    simp [fixL, b1, b2, b3]
  by_cases a6 : a = 62
  · subst a6
    by_cases b1 : b = 62; (subst b1; rfl)
    by_cases b2 : b = 61; (subst b2; rfl)
    simp [fixL, b1, b2]
  by_cases a7 : a = 45
  · subst a7
    by_cases b1 : b = 40; (subst b1; rfl)
    by_cases b2 : b = 45
    · subst b2
      by_cases c1 : c = 62; (subst c1; rfl)
      simp [fixL, c1]
    simp [fixL, b1, b2]
  simp [fixL, a1, a2, a3, a4, a5, a6, a7]
theorem fix_line {l : List UInt8} (r : List UInt8) (hl : l ≠ []) : fixL (l ++ 10 :: r) = fixL l := by
  match l, hl with
  | [a], _ =>
    show fixL (a :: 10 :: r) = fixL [a]
    unfold fixL
    split <;> simp_all
  | [a, b], _ =>
    show fixL (a :: b :: 10 :: r) = fixL [a, b]
    unfold fixL
    split <;> simp_all
  | a :: b :: c :: t, _ =>
    exact fix3 a b c _ _
theorem sgl_line {l : List UInt8} (r : List UInt8) (hl : l ≠ []) : sglL (l ++ 10 :: r) = sglL l := by
  match l, hl with
  | a :: t, _ =>
    show sglL (a :: (t ++ 10 :: r)) = sglL (a :: t)
    unfold sglL
    split <;> simp_all
/-- A text's first token is the same with a line end behind the text. -/
theorem one_line {l : List UInt8} (r : List UInt8) (hl : l ≠ []) : oneL (l ++ 10 :: r) = oneL l := by
  have hl1 : 0 < l.length := List.length_pos_iff.2 hl
  have hd : (l ++ 10 :: r).drop 1 = l.drop 1 ++ 10 :: r := List.drop_append_of_le_length (by omega)
  have h0 : (l ++ 10 :: r).getD 0 0 = l.getD 0 0 := by
    cases l with
    | nil => exact absurd rfl hl
    | cons a t => rfl
  have hr1 := (run_front (l.drop 1)).1
  have hr := (run_front l).1
  have ht1 : (l.drop 1 ++ 10 :: r).take (runN (l.drop 1)) = (l.drop 1).take (runN (l.drop 1)) := List.take_append_of_le_length hr1
  have ht : (l ++ 10 :: r).take (runN l) = l.take (runN l) := List.take_append_of_le_length hr
  have hv : ((l ++ 10 :: r).drop (1 + ((l.drop 1).take (runN (l.drop 1))).length)).getD 0 0 = 62 ↔ (l.drop (1 + ((l.drop 1).take (runN (l.drop 1))).length)).getD 0 0 = 62 := by
    have hx : ((l.drop 1).take (runN (l.drop 1))).length ≤ l.length - 1 := by rw [List.length_take, List.length_drop]; omega
    generalize ((l.drop 1).take (runN (l.drop 1))).length = x at *
    rcases Nat.lt_or_ge (1 + x) l.length with e | e
    · rw [List.drop_append_of_le_length (by omega)]
      cases hq : l.drop (1 + x) with
      | nil => have := congrArg List.length hq; rw [List.length_drop, List.length_nil] at this; omega
      | cons a t => rfl
    · rw [List.drop_append_of_le_length (by omega), List.drop_of_length_le e]
      simp
  unfold oneL
  rw [fix_line r hl, sgl_line r hl, hd, run_line, run_line, ht1, ht, h0]
  simp only [hv]
theorem wh_nl (r : List UInt8) : whN (10 :: r) = 1 + whN r := by rw [wh_step _ (by simp)]; exact if_pos (show isW ((10 :: r).getD 0 0) = true from rfl)
/-- White of a text with a line end behind it. -/
theorem wh_line : ∀ (n : Nat) (l r : List UInt8), l.length ≤ n → whN (l ++ 10 :: r) = if whN l < l.length then whN l else l.length + 1 + whN r
  | 0, l, r, h => by
    have : l = [] := List.length_eq_zero_iff.1 (by omega)
    subst this
    rw [List.nil_append, wh_nl, if_neg (by decide)]
    simp
  | n + 1, l, r, h => by
    by_cases hl : l = []
    · subst hl
      rw [List.nil_append, wh_nl, if_neg (by decide)]
      simp
    have hl1 : 0 < l.length := List.length_pos_iff.2 hl
    have h0 : (l ++ 10 :: r).getD 0 0 = l.getD 0 0 := by
      cases l with
      | nil => exact absurd rfl hl
      | cons a t => rfl
    rw [wh_step (l ++ 10 :: r) (by simp), h0, wh_step l hl]
    by_cases hw : isW (l.getD 0 0) = true
    · rw [if_pos hw, if_pos hw, List.drop_append_of_le_length (by omega), wh_line n (l.drop 1) r (by rw [List.length_drop]; omega), List.length_drop]
      split <;> split <;> omega
    · rw [if_neg hw, if_neg hw]
      by_cases hc : l.getD 0 0 = 59
      · rw [if_pos hc, if_pos hc]
        have hcm := cm_pos hc
        by_cases hlt : cmN l < l.length
        · have hcl : cmN (l ++ 10 :: r) = cmN l := by
            unfold cmN
            rw [List.takeWhile_append]
            rw [if_neg (by unfold cmN at hlt; omega)]
          rw [hcl, List.drop_append_of_le_length (by omega), wh_line n (l.drop (cmN l)) r (by rw [List.length_drop]; omega), List.length_drop]
          split <;> split <;> omega
        · have hcl : cmN (l ++ 10 :: r) = l.length := by
            unfold cmN at hlt hcm ⊢
            rw [List.takeWhile_append, if_pos (by omega), List.length_append]
            simp
          have e2 : cmN l = l.length := by omega
          rw [hcl, e2, List.drop_append_of_le_length (Nat.le_refl _), List.drop_length, List.nil_append, wh_nl, if_neg (by have : whN ([] : List UInt8) = 0 := rfl; omega)]
          omega
      · rw [if_neg hc, if_neg hc, if_pos (by omega)]
theorem wh_end (l r : List UInt8) : whN (l ++ 10 :: r) = if whN l < l.length then whN l else l.length + 1 + whN r := wh_line l.length l r (Nat.le_refl _)
/-- Behind white no white stands. -/
def sh (d : Nat) (x : Tk × Nat) : Tk × Nat := (x.1, x.2 + d)
/-- The same text further behind. -/
theorem scan_shift : ∀ (n a d : Nat) (l : List UInt8), scanGo n (a + d) l = ((scanGo n a l).1.map (sh d), (if (scanGo n a l).2.2 = 16 then (scanGo n a l).2.1 + d else (scanGo n a l).2.1), (scanGo n a l).2.2)
  | 0, a, d, l => rfl
  | n + 1, a, d, l => by
    by_cases hl : l = []
    · subst hl; rw [scanGo_nil, scanGo_nil]; rfl
    · simp only [scanGo, if_neg hl]
      cases ho : oneL l with
      | none => rfl
      | some x =>
        obtain ⟨t, k⟩ := x
        simp only
        rw [show a + d + k + whN (l.drop k) = a + k + whN (l.drop k) + d by omega, scan_shift n]
        rfl
/-- Two texts with a line end between, from a token on. -/
theorem scan_join : ∀ (n N a : Nat) (l r : List UInt8), l ≠ [] → l.length ≤ n → l.length + 1 + r.length ≤ N →
    scanGo N a (l ++ 10 :: r) = if (scanGo n a l).2.2 = 16 then scanGo n a l else ((scanGo n a l).1 ++ (scanGo r.length (a + l.length + 1 + whN r) (r.drop (whN r))).1, (scanGo r.length (a + l.length + 1 + whN r) (r.drop (whN r))).2)
  | 0, N, a, l, r, hl, h1, h2 => absurd (List.length_eq_zero_iff.1 (by omega)) hl
  | n + 1, 0, a, l, r, hl, h1, h2 => by omega
  | n + 1, N + 1, a, l, r, hl, h1, h2 => by
    have hl2 : l ++ 10 :: r ≠ [] := by simp
    simp only [scanGo, if_neg hl, if_neg hl2, one_line r hl]
    cases ho : oneL l with
    | none => simp
    | some x =>
      obtain ⟨t, k⟩ := x
      obtain ⟨-, k1, k2, -⟩ := one_is hl ho
      simp only
      rw [List.drop_append_of_le_length k2]
      have hd : (l.drop k).length = l.length - k := List.length_drop
      have hw := wh_le _ (l.drop k) (Nat.le_refl _)
      rw [wh_end]
      by_cases hc : whN (l.drop k) < (l.drop k).length
      · rw [if_pos hc, List.drop_append_of_le_length (by omega)]
        have hne : (l.drop k).drop (whN (l.drop k)) ≠ [] := fun e => by
          have := congrArg List.length e
          rw [List.length_drop, List.length_nil] at this
          omega
        rw [scan_join n N _ _ r hne (by rw [List.length_drop]; omega) (by rw [List.length_drop]; omega)]
        have e2 : a + k + whN (l.drop k) + ((l.drop k).drop (whN (l.drop k))).length + 1 + whN r = a + l.length + 1 + whN r := by rw [List.length_drop]; omega
        rw [e2]
        split <;> rfl
      · rw [if_neg hc]
        have e0 : (l.drop k).drop (whN (l.drop k)) = [] := List.drop_of_length_le (by omega)
        rw [e0, scanGo_nil]
        have e1 : (l.drop k ++ 10 :: r).drop ((l.drop k).length + 1 + whN r) = r.drop (whN r) := by
          rw [List.drop_append, List.drop_of_length_le (by omega), List.nil_append, show (l.drop k).length + 1 + whN r - (l.drop k).length = whN r + 1 by omega, List.drop_succ_cons]
        have e2 : a + k + ((l.drop k).length + 1 + whN r) = a + l.length + 1 + whN r := by omega
        rw [e1, e2, scanGo_fuel N r.length _ _ (by rw [List.length_drop]; omega) (by rw [List.length_drop]; omega)]
        simp
/-- Two texts with a line end between are scanned as the one, if it is right, and the other. -/
theorem scan_two (l r : List UInt8) : scanL (l ++ 10 :: r) = if (scanL l).2.2 = 16 then scanL l else ((scanL l).1 ++ (scanL r).1.map (sh (l.length + 1)), (if (scanL r).2.2 = 16 then (scanL r).2.1 + (l.length + 1) else (scanL r).2.1), (scanL r).2.2) := by
  have hw := wh_le _ l (Nat.le_refl _)
  have hs := scan_shift r.length (whN r) (l.length + 1) (r.drop (whN r))
  have hsr : scanL r = scanGo r.length (whN r) (r.drop (whN r)) := rfl
  rw [← hsr] at hs
  unfold scanL at hs ⊢
  rw [wh_end]
  by_cases hc : whN l < l.length
  · rw [if_pos hc, List.drop_append_of_le_length (by omega)]
    have hne : l.drop (whN l) ≠ [] := fun e => by
      have := congrArg List.length e
      rw [List.length_drop, List.length_nil] at this
      omega
    rw [scan_join l.length _ _ _ r hne (by rw [List.length_drop]; omega) (by rw [List.length_drop, List.length_append, List.length_cons]; omega)]
    have e2 : whN l + (l.drop (whN l)).length + 1 + whN r = whN r + (l.length + 1) := by rw [List.length_drop]; omega
    rw [e2, hs]
  · rw [if_neg hc]
    have e0 : l.drop (whN l) = [] := List.drop_of_length_le (by omega)
    have e1 : (l ++ 10 :: r).drop (l.length + 1 + whN r) = r.drop (whN r) := by
      rw [List.drop_append, List.drop_of_length_le (by omega), List.nil_append, show l.length + 1 + whN r - l.length = whN r + 1 by omega, List.drop_succ_cons]
    rw [e0, scanGo_nil, e1, scanGo_fuel _ r.length _ _ (by rw [List.length_drop, List.length_append, List.length_cons]; omega) (by rw [List.length_drop]; omega), show l.length + 1 + whN r = whN r + (l.length + 1) by omega, hs]
    simp
end Go.Proofs.YtglimefhiggdeaaDoor
