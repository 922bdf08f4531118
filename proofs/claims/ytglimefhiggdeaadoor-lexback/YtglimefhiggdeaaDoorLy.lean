/- A text's tokens, as data: plain mathematics, no program. (For lex; carry it by its Name.) -/
import Derived.Test.YtglimefhiggdeaaDoorLx
namespace Go.Proofs.YtglimefhiggdeaaDoor
set_option maxRecDepth 20000
open Go.Lib
set_option linter.unusedVariables false

/-- A token without its place: kind, name, sign, and a value's kind, number and text. -/
structure Tk where
  k : Int
  nm : List UInt8
  p : Int
  vk : Int
  vn : Int
  vs : List UInt8
deriving DecidableEq
def tok0 (k : Int) : Tk := ⟨k, [], 0, 0, 0, []⟩
def tokP (p : Int) : Tk := ⟨10, [], p, 0, 0, []⟩
def tokN (k : Int) (nm : List UInt8) : Tk := ⟨k, nm, 0, 0, 0, []⟩
def tokV (vk vn : Int) (vs : List UInt8) : Tk := ⟨11, [], 0, vk, vn, vs⟩
/-- What Parse tells of a text: none, or a value. -/
def parL (l : List UInt8) : Option Tk :=
  if wordB l = false then none else if l = nil3 then some (tokV 0 0 []) else if numB l = true then (if 1099511627776 < decV l then none else some (tokV 1 (nbV l) [])) else some (tokV 2 0 l)
/-- The signs that are tried ahead of a variable. -/
def fixL : List UInt8 → Option (Tk × Nat)
  | 40 :: _ => some (tok0 0, 1)
  | 41 :: _ => some (tok0 1, 1)
  | 123 :: _ => some (tok0 2, 1)
  | 125 :: _ => some (tok0 3, 1)
  | 60 :: 60 :: _ => some (tok0 4, 2)
  | 62 :: 62 :: _ => some (tok0 5, 2)
  | 45 :: 45 :: 62 :: _ => some (tok0 6, 3)
  | 45 :: 40 :: _ => some (tok0 7, 1)
  | 60 :: 61 :: _ => some (tokP 3, 2)
  | 60 :: 62 :: _ => some (tokP 1, 2)
  | 62 :: 61 :: _ => some (tokP 5, 2)
  | _ => none
/-- The signs that are tried behind it. -/
def sglL : List UInt8 → Option (Tk × Nat)
  | 60 :: _ => some (tokP 2, 1)
  | 62 :: _ => some (tokP 4, 1)
  | 61 :: _ => some (tokP 0, 1)
  | _ => none
/-- The token that a text that isn't empty begins with, and its length. -/
def oneL (l : List UInt8) : Option (Tk × Nat) :=
  match fixL l with
  | some x => some x
  | none =>
    let r := (l.drop 1).take (runN (l.drop 1))
    if l.getD 0 0 = 60 ∧ r ≠ [] ∧ (l.drop (1 + r.length)).getD 0 0 = 62 then (if 24 < r.length then none else some (tokN 9 r, r.length + 2))
    else match sglL l with
      | some x => some x
      | none =>
        if l.getD 0 0 = 94 then (if r = [] ∨ 24 < r.length then none else some (tokN 8 r, r.length + 1))
        else match parL (l.take (runN l)) with
          | none => none
          | some t => some (t, runN l)
/-- A token's text. -/
def sgnL (p : Int) : List UInt8 := if p = 0 then [61] else if p = 1 then [60, 62] else if p = 2 then [60] else if p = 3 then [60, 61] else if p = 4 then [62] else if p = 5 then [62, 61] else []
def valL (k n : Int) (s : List UInt8) : List UInt8 := if k = 1 then itoa n else if k = 2 then s else nil3
def txtL (t : Tk) : List UInt8 :=
  if t.k = 0 then [40] else if t.k = 1 then [41] else if t.k = 2 then [123] else if t.k = 3 then [125] else if t.k = 4 then [60, 60] else if t.k = 5 then [62, 62] else if t.k = 6 then [45, 45, 62] else if t.k = 7 then [45]
  else if t.k = 8 then 94 :: t.nm else if t.k = 9 then 60 :: (t.nm ++ [62]) else if t.k = 10 then sgnL t.p else valL t.vk t.vn t.vs
theorem no_sign {l : List UInt8} (ho : okR l = true) : 40 ∉ l ∧ 41 ∉ l ∧ 123 ∉ l ∧ 125 ∉ l ∧ 60 ∉ l ∧ 61 ∉ l ∧ 62 ∉ l ∧ 94 ∉ l ∧ 32 ∉ l ∧ 59 ∉ l := by
  refine ⟨?_, ?_, ?_, ?_, ?_, ?_, ?_, ?_, ?_, ?_⟩ <;> (intro h; exact absurd (ok_mem ho h) (by decide))
/-- A word with an end behind it begins with no sign, but a blank or the like must stand behind. -/
theorem fix_word {w r : List UInt8} (ho : okR w = true) (hw : w ≠ []) : fixL (w ++ 32 :: r) = none := by
  obtain ⟨h1, h2, h3, h4, h5, h6, h7, h8, h9, h10⟩ := no_sign ho
  match w, hw with
  | [a], _ =>
    simp at h1 h2 h3 h4 h5 h6 h7 h8 h9 h10
    show fixL (a :: 32 :: r) = none
    unfold fixL
    split <;> simp_all
  | [a, b], _ =>
    simp at h1 h2 h3 h4 h5 h6 h7 h8 h9 h10
    show fixL (a :: b :: 32 :: r) = none
    unfold fixL
    split <;> simp_all
  | a :: b :: c :: t, _ =>
    simp at h1 h2 h3 h4 h5 h6 h7 h8 h9 h10
    show fixL (a :: b :: c :: (t ++ 32 :: r)) = none
    unfold fixL
    split <;> simp_all
theorem sgl_word {w r : List UInt8} (ho : okR w = true) (hw : w ≠ []) : sglL (w ++ r) = none := by
  obtain ⟨h1, h2, h3, h4, h5, h6, h7, h8, h9, h10⟩ := no_sign ho
  match w, hw with
  | a :: t, _ =>
    simp at h5 h6 h7
    show sglL (a :: (t ++ r)) = none
    unfold sglL
    split <;> simp_all
theorem itoa_dec2 (n : Int) : decV (itoa n) = n.natAbs := by unfold decV; rw [itoa_strip, dd_val]
theorem nb_abs (l : List UInt8) : (nbV l).natAbs = decV l := by unfold nbV; split <;> omega
theorem par_word {w : List UInt8} {t : Tk} (h : parL w = some t) : wordB w = true := by
  unfold parL at h
  split at h
  · cases h
  · rename_i hc; cases hx : wordB w; exact absurd hx hc; rfl
theorem word_ok {w : List UInt8} (h : wordB w = true) : okR w = true ∧ 1 ≤ w.length ∧ w.length ≤ 24 := by
  unfold wordB at h
  simp only [Bool.and_eq_true, decide_eq_true_eq] at h
  exact ⟨h.2, h.1.1, h.1.2⟩
/-- A value's text is parsed as that value. -/
theorem par_text {w : List UInt8} {t : Tk} (h : parL w = some t) : parL (txtL t) = some t := by
  have hw := par_word h
  unfold parL at h
  rw [if_neg (by rw [hw]; simp)] at h
  split at h
  · obtain rfl := Option.some.inj h
    show parL nil3 = _
    unfold parL
    rw [if_neg (by rw [nil_word]; simp), if_pos rfl]
  · split at h
    · rename_i hn hb
      split at h
      · cases h
      · rename_i hd
        obtain rfl := Option.some.inj h
        show parL (itoa (nbV w)) = _
        have ha := nb_abs w
        have hl := itoa_len (nbV w) (by omega) (by omega)
        unfold parL
        rw [if_neg (by rw [num_word _ (itoa_num _) (by omega)]; simp), if_neg (itoa_not_nil _), if_pos (itoa_num _), itoa_dec2, if_neg (by omega), itoa_val]
    · rename_i hn hb
      obtain rfl := Option.some.inj h
      show parL w = _
      unfold parL
      rw [if_neg (by rw [hw]; simp), if_neg hn, if_neg hb]
theorem par_kind {w : List UInt8} {t : Tk} (h : parL w = some t) : t.k = 11 := by
  unfold parL at h
  repeat' split at h
  all_goals first | (cases h; done) | (obtain rfl := Option.some.inj h; rfl)
/-- What a token is. -/
inductive IsTok : Tk → Prop
  | fix (k : Int) (h : k = 0 ∨ k = 1 ∨ k = 2 ∨ k = 3 ∨ k = 4 ∨ k = 5 ∨ k = 6 ∨ k = 7) : IsTok (tok0 k)
  | prd (p : Int) (h : p = 0 ∨ p = 1 ∨ p = 2 ∨ p = 3 ∨ p = 4 ∨ p = 5) : IsTok (tokP p)
  | nam (k : Int) (r : List UInt8) (hk : k = 8 ∨ k = 9) (ho : okR r = true) (h1 : 1 ≤ r.length) (h2 : r.length ≤ 24) : IsTok (tokN k r)
  | val (w : List UInt8) (t : Tk) (h : parL w = some t) : IsTok t
theorem run_blank (r : List UInt8) : runN (32 :: r) = 0 := runN_stop (.inr (by rw [decodeL_ascii 32 r (by decide)]; decide))
theorem ends_blank (r : List UInt8) : ends (32 :: r) := ends_ascii 32 r (by decide) (by decide)
theorem ends_more (r : List UInt8) : ends (62 :: r) := ends_ascii 62 r (by decide) (by decide)
theorem one_fix {l : List UInt8} {x : Tk × Nat} (h : fixL l = some x) : oneL l = some x := by unfold oneL; rw [h]
/-- A value's text with a blank behind it is that value. -/
theorem back_val {w : List UInt8} {t : Tk} (h : parL w = some t) (r : List UInt8) : oneL (txtL t ++ 32 :: r) = some (t, (txtL t).length) := by
  have hp := par_text h
  obtain ⟨ho, h1, h2⟩ := word_ok (par_word hp)
  generalize txtL t = v at *
  have hv : v ≠ [] := fun e => by subst e; simp at h1
  obtain ⟨n1, n2, n3, n4, n5, n6, n7, n8, n9, n10⟩ := no_sign ho
  have hr : runN (v ++ 32 :: r) = v.length := run_is ho (ends_blank r)
  have hh : (v ++ 32 :: r).getD 0 0 ∈ v := by
    cases v with
    | nil => exact absurd rfl hv
    | cons a t => simp
  have g60 : ¬ (v ++ 32 :: r).getD 0 0 = 60 := fun e => n5 (by rw [← e]; exact hh)
  have g94 : ¬ (v ++ 32 :: r).getD 0 0 = 94 := fun e => n8 (by rw [← e]; exact hh)
  unfold oneL
  rw [fix_word ho hv, sgl_word ho hv]
  simp only
  rw [if_neg (by intro h; exact g60 h.1), if_neg g94, hr, List.take_append_of_le_length (Nat.le_refl _), List.take_of_length_le (Nat.le_refl _), hp]
/-- A token's text with a blank behind it is that token. -/
theorem back_one {t : Tk} (h : IsTok t) (h7 : t.k ≠ 7) (r : List UInt8) : oneL (txtL t ++ 32 :: r) = some (t, (txtL t).length) := by
  cases h with
  | fix k hk =>
    rcases hk with rfl | rfl | rfl | rfl | rfl | rfl | rfl | rfl
    all_goals first | exact one_fix rfl | exact absurd rfl h7
  | prd p hp =>
    rcases hp with rfl | rfl | rfl | rfl | rfl | rfl
    · show oneL (61 :: 32 :: r) = _
      unfold oneL
      rw [show fixL (61 :: 32 :: r) = none from rfl]
      simp only [List.drop_succ_cons, List.drop_zero, run_blank, List.take_zero]
      rw [if_neg (by simp)]; rfl
    · exact one_fix rfl
    · show oneL (60 :: 32 :: r) = _
      unfold oneL
      rw [show fixL (60 :: 32 :: r) = none from rfl]
      simp only [List.drop_succ_cons, List.drop_zero, run_blank, List.take_zero]
      rw [if_neg (by simp)]; rfl
    · exact one_fix rfl
    · show oneL (62 :: 32 :: r) = _
      unfold oneL
      rw [show fixL (62 :: 32 :: r) = none from rfl]
      simp only [List.drop_succ_cons, List.drop_zero, run_blank, List.take_zero]
      rw [if_neg (by simp)]; rfl
    · exact one_fix rfl
  | val w t h => exact back_val h r
  | nam k v hk ho h1 h2 =>
    obtain ⟨n1, n2, n3, n4, n5, n6, n7, n8, n9, n10⟩ := no_sign ho
    have hv : v ≠ [] := fun e => by subst e; simp at h1
    rcases hk with rfl | rfl
    · show oneL (94 :: (v ++ 32 :: r)) = some (tokN 8 v, (94 :: v).length)
      have hf : fixL (94 :: (v ++ 32 :: r)) = none := by unfold fixL; split <;> simp_all
      have hr : runN (v ++ 32 :: r) = v.length := run_is ho (ends_blank r)
      unfold oneL
      rw [hf]
      simp only [List.drop_succ_cons, List.drop_zero, hr, List.take_append_of_le_length (Nat.le_refl v.length), List.take_length]
      rw [if_neg (by simp), show sglL (94 :: (v ++ 32 :: r)) = none from rfl]
      simp only
      rw [if_pos (by simp), if_neg (by simp [hv]; omega)]
      simp
    · show oneL (60 :: (v ++ [62] ++ 32 :: r)) = some (tokN 9 v, (60 :: (v ++ [62])).length)
      have ea : v ++ [62] ++ 32 :: r = v ++ 62 :: 32 :: r := by simp
      rw [ea]
      have hf : fixL (60 :: (v ++ 62 :: 32 :: r)) = none := by
        match v, hv with
        | a :: t, _ =>
          simp at n1 n2 n3 n4 n5 n6 n7 n8 n9 n10
          show fixL (60 :: a :: (t ++ 62 :: 32 :: r)) = none
          unfold fixL
          split <;> simp_all
      have hr : runN (v ++ 62 :: 32 :: r) = v.length := run_is ho (ends_more _)
      unfold oneL
      rw [hf]
      simp only [List.drop_succ_cons, List.drop_zero, hr, List.take_append_of_le_length (Nat.le_refl v.length), List.take_length]
      rw [if_pos ⟨by simp, hv, by rw [show 1 + v.length = v.length + 1 by omega, List.drop_succ_cons, List.drop_append_of_le_length (Nat.le_refl _), List.drop_length]; rfl⟩, if_neg (by omega)]
      simp
theorem back_not (r : List UInt8) : oneL (45 :: 40 :: r) = some (tok0 7, 1) := one_fix rfl
end Go.Proofs.YtglimefhiggdeaaDoor
