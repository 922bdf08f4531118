/- What the program's take tells of a text's beginning: plain mathematics, no program. -/
import Derived.Test.YtglimefhiggdeaaDoorLz
namespace Go.Proofs.YtglimefhiggdeaaDoor
open Go.Lib
set_option linter.unusedVariables false

/-- Does a text begin with another one? -/
def preB (p l : List UInt8) : Bool := decide (l.take p.length = p)
theorem pre_nil (l : List UInt8) : preB [] l = true := by unfold preB; simp
theorem pre_of_nil (a : UInt8) (p : List UInt8) : preB (a :: p) [] = false := by unfold preB; simp
theorem pre_cons (a b : UInt8) (p l : List UInt8) : preB (a :: p) (b :: l) = (decide (b = a) && preB p l) := by
  unfold preB
  simp [Bool.decide_and]
theorem pre_len {p l : List UInt8} (h : preB p l = true) : p.length ≤ l.length := by
  unfold preB at h
  have := congrArg List.length (of_decide_eq_true h)
  rw [List.length_take] at this
  omega
/-- The text of a kind that has one text. -/
def mkL (k : Nat) : List UInt8 := if k = 0 then [40] else if k = 1 then [41] else if k = 2 then [123] else if k = 3 then [125] else if k = 4 then [60, 60] else if k = 5 then [62, 62] else if k = 6 then [45, 45, 62] else if k = 7 then [45] else []
def mkFrom (l : List UInt8) : Nat → Nat → Option (Tk × Nat)
  | 0, _ => none
  | n + 1, k => if preB (mkL k) l = true then some (tok0 k, (mkL k).length) else mkFrom l n (k + 1)
/-- The first pred, from k on, whose sign has m bytes and stands there. -/
def prFrom (l : List UInt8) (m : Nat) : Nat → Nat → Option (Tk × Nat)
  | 0, _ => none
  | n + 1, k => if (sgnL k).length = m ∧ preB (sgnL k) l = true then some (tokP k, m) else prFrom l m n (k + 1)
/-- A run between two texts. -/
def nmL (l : List UInt8) (k : Int) (a b : List UInt8) : Option (Tk × Nat) :=
  if preB a l = false then none
  else if runN (l.drop a.length) = 0 ∨ preB b (l.drop (a.length + runN (l.drop a.length))) = false then none
  else some (tokN k ((l.drop a.length).take (runN (l.drop a.length))), a.length + runN (l.drop a.length) + b.length)
def vlL (l : List UInt8) : Option (Tk × Nat) := match parL (l.take (runN l)) with
  | none => none
  | some t => some (t, runN l)
def ntL (l : List UInt8) : Option (Tk × Nat) := if preB [45, 40] l = true then some (tok0 7, 1) else none
/-- One of the seven. -/
def seven (l : List UInt8) : Nat → Option (Tk × Nat)
  | 0 => mkFrom l 7 0
  | 1 => ntL l
  | 2 => prFrom l 2 6 0
  | 3 => nmL l 9 [60] [62]
  | 4 => prFrom l 1 6 0
  | 5 => nmL l 8 [94] []
  | _ => vlL l
def svFrom (l : List UInt8) : Nat → Nat → Option (Tk × Nat)
  | 0, _ => none
  | n + 1, k => match seven l k with
    | some x => some x
    | none => svFrom l n (k + 1)
def tkL (l : List UInt8) : Option (Tk × Nat) := svFrom l 7 0
/-- Names that are not too long. -/
def cutL (x : Option (Tk × Nat)) : Option (Tk × Nat) := match x with
  | none => none
  | some (t, n) => if 24 < t.nm.length then none else some (t, n)
set_option linter.unusedSimpArgs false
theorem fix_seven (l : List UInt8) : fixL l = (mkFrom l 7 0).or ((ntL l).or (prFrom l 2 6 0)) := by
  unfold ntL
  simp only [mkFrom, prFrom, mkL, sgnL]
  simp only [Nat.reduceAdd, Nat.zero_add, Nat.one_ne_zero, if_true, if_false, Nat.reduceEqDiff, List.length_cons, List.length_nil, Int.reduceEq, Int.cast_ofNat_Int]
  match l with
  | [] => simp [fixL, pre_of_nil]
  | [a] =>
    simp only [pre_cons, pre_of_nil, pre_nil, Bool.and_true, Bool.and_false, decide_eq_true_eq]
    unfold fixL
    split <;> simp_all
  | [a, b] =>
    simp only [pre_cons, pre_of_nil, pre_nil, Bool.and_true, Bool.and_false, Bool.and_eq_true, decide_eq_true_eq]
    unfold fixL
    split
    all_goals try (simp_all; done)
    rename_i q1 q2 q3 q4 p1 p2 _ p3 p4 p5 p6
    have g1 : ¬ a = 40 := fun h => q1 [b] (by rw [h])
    have g2 : ¬ a = 41 := fun h => q2 [b] (by rw [h])
    have g3 : ¬ a = 123 := fun h => q3 [b] (by rw [h])
    have g4 : ¬ a = 125 := fun h => q4 [b] (by rw [h])
    have e1 : ¬ (a = 60 ∧ b = 60) := fun h => p1 [] (by rw [h.1, h.2])
    have e2 : ¬ (a = 62 ∧ b = 62) := fun h => p2 [] (by rw [h.1, h.2])
    have e3 : ¬ (a = 45 ∧ b = 40) := fun h => p3 [] (by rw [h.1, h.2])
    have e4 : ¬ (a = 60 ∧ b = 61) := fun h => p4 [] (by rw [h.1, h.2])
    have e5 : ¬ (a = 60 ∧ b = 62) := fun h => p5 [] (by rw [h.1, h.2])
    have e6 : ¬ (a = 62 ∧ b = 61) := fun h => p6 [] (by rw [h.1, h.2])
    clear p1 p2 p3 p4 p5 p6
    simp only [g1, g2, g3, g4, e1, e2, e3, e4, e5, e6, if_false, Option.or_none]; simp
  | a :: b :: c :: t =>
    simp only [pre_cons, pre_of_nil, pre_nil, Bool.and_true, Bool.and_false, Bool.and_eq_true, decide_eq_true_eq]
    unfold fixL
    split
    all_goals try (simp_all; done)
    rename_i q1 q2 q3 q4 p1 p2 p7 p3 p4 p5 p6
    have g1 : ¬ a = 40 := fun h => q1 (b :: c :: t) (by rw [h])
    have g2 : ¬ a = 41 := fun h => q2 (b :: c :: t) (by rw [h])
    have g3 : ¬ a = 123 := fun h => q3 (b :: c :: t) (by rw [h])
    have g4 : ¬ a = 125 := fun h => q4 (b :: c :: t) (by rw [h])
    have e1 : ¬ (a = 60 ∧ b = 60) := fun h => p1 (c :: t) (by rw [h.1, h.2])
    have e2 : ¬ (a = 62 ∧ b = 62) := fun h => p2 (c :: t) (by rw [h.1, h.2])
    have e3 : ¬ (a = 45 ∧ b = 40) := fun h => p3 (c :: t) (by rw [h.1, h.2])
    have e4 : ¬ (a = 60 ∧ b = 61) := fun h => p4 (c :: t) (by rw [h.1, h.2])
    have e5 : ¬ (a = 60 ∧ b = 62) := fun h => p5 (c :: t) (by rw [h.1, h.2])
    have e6 : ¬ (a = 62 ∧ b = 61) := fun h => p6 (c :: t) (by rw [h.1, h.2])
    have e7 : ¬ (a = 45 ∧ b = 45 ∧ c = 62) := fun h => p7 t (by rw [h.1, h.2.1, h.2.2])
    clear p1 p2 p3 p4 p5 p6 p7
    simp only [g1, g2, g3, g4, e1, e2, e3, e4, e5, e6, e7, if_false, Option.or_none]; simp
theorem sgl_seven (l : List UInt8) : sglL l = if l.getD 0 0 = 60 then some (tokP 2, 1) else if l.getD 0 0 = 62 then some (tokP 4, 1) else if l.getD 0 0 = 61 then some (tokP 0, 1) else none := by
  match l with
  | [] => simp [sglL]
  | a :: t =>
    unfold sglL
    split <;> simp_all
theorem pr1_seven (l : List UInt8) (hl : l ≠ []) : prFrom l 1 6 0 = sglL l := by
  rw [sgl_seven]
  simp only [prFrom, sgnL]
  simp only [Nat.reduceAdd, Nat.zero_add, Nat.one_ne_zero, if_true, if_false, Nat.reduceEqDiff, List.length_cons, List.length_nil, Int.reduceEq, Int.cast_ofNat_Int]
  match l, hl with
  | a :: t, _ =>
    simp only [pre_cons, pre_of_nil, pre_nil, Bool.and_true, Bool.and_false, Bool.and_eq_true, decide_eq_true_eq]
    by_cases h1 : a = 60
    · subst h1; simp
    · by_cases h2 : a = 62
      · subst h2; simp
      · by_cases h3 : a = 61
        · subst h3; simp
        · simp [h1, h2, h3]
theorem fix_nm {l : List UInt8} {x : Tk × Nat} (h : fixL l = some x) : x.1.nm = [] := by
  unfold fixL at h
  split at h <;> first | (cases h; done) | (obtain rfl := Option.some.inj h; rfl)
theorem sgl_nm {l : List UInt8} {x : Tk × Nat} (h : sglL l = some x) : x.1.nm = [] := by
  unfold sglL at h
  split at h <;> first | (cases h; done) | (obtain rfl := Option.some.inj h; rfl)
theorem par_nm {l : List UInt8} {t : Tk} (h : parL l = some t) : t.nm = [] := by
  unfold parL at h
  repeat' split at h
  all_goals first | (cases h; done) | (obtain rfl := Option.some.inj h; rfl)
theorem tk_or (l : List UInt8) : tkL l = (mkFrom l 7 0).or ((ntL l).or ((prFrom l 2 6 0).or ((nmL l 9 [60] [62]).or ((prFrom l 1 6 0).or ((nmL l 8 [94] []).or (vlL l)))))) := by
  unfold tkL
  simp only [svFrom, seven]
  repeat' split
  all_goals simp_all
/-- What take tells, names cut, is what one tells. -/
theorem one_take {l : List UInt8} (hl : l ≠ []) : oneL l = cutL (tkL l) := by
  rw [tk_or]
  rw [show (mkFrom l 7 0).or ((ntL l).or ((prFrom l 2 6 0).or ((nmL l 9 [60] [62]).or ((prFrom l 1 6 0).or ((nmL l 8 [94] []).or (vlL l)))))) = (fixL l).or ((nmL l 9 [60] [62]).or ((prFrom l 1 6 0).or ((nmL l 8 [94] []).or (vlL l)))) by rw [fix_seven, Option.or_assoc, Option.or_assoc]]
  unfold oneL
  rw [pr1_seven l hl]
  cases hf : fixL l with
  | some x =>
    obtain ⟨t, n⟩ := x
    have := fix_nm hf
    simp only at this
    simp [cutL, this]
  | none =>
    simp only [Option.none_or]
    have hlen : ((l.drop 1).take (runN (l.drop 1))).length = runN (l.drop 1) := by
      rw [List.length_take]; have := runN_le _ (l.drop 1) (Nat.le_refl _); omega
    obtain ⟨a, t, rfl⟩ : ∃ a t, l = a :: t := by cases l with
      | nil => exact absurd rfl hl
      | cons a t => exact ⟨a, t, rfl⟩
    have hg : ∀ (m : List UInt8) (u : UInt8), u ≠ 0 → preB [u] m = decide (m.getD 0 0 = u) := by
      intro m u hu
      cases m with
      | nil => rw [pre_of_nil]; simp; exact fun h => hu h.symm
      | cons b m => rw [pre_cons, pre_nil]; simp
    have hr0 : ((List.drop 1 (a :: t)).take (runN (List.drop 1 (a :: t))) = []) ↔ runN (List.drop 1 (a :: t)) = 0 := by
      rw [← List.length_eq_zero_iff, hlen]
    unfold nmL
    rw [hg _ 60 (by decide), hg _ 94 (by decide), hg _ 62 (by decide), pre_nil]
    simp only [List.length_cons, List.length_nil, Nat.zero_add, hlen, ne_eq, hr0, decide_eq_false_iff_not, Bool.true_eq_false, or_false, Nat.add_zero]
    generalize hR : runN (List.drop 1 (a :: t)) = r at *
    generalize (List.drop 1 (a :: t)).take r = nm at *
    generalize hd : (a :: t).getD 0 0 = u at *
    have hda : a = u := hd
    generalize (List.drop (1 + r) (a :: t)).getD 0 0 = v at *
    by_cases c1 : u = 60
    · have hs2 : sglL (a :: t) = some (tokP 2, 1) := by rw [sgl_seven, if_pos (hd.trans c1)]
      by_cases c2 : r = 0
      · simp [c1, c2, hs2, cutL, tokP]
      · by_cases c3 : v = 62
        · by_cases c4 : 24 < r
          · simp [c1, c2, c3, c4, cutL, tokN, hlen]
          · simp [c1, c2, c3, c4, cutL, tokN, hlen]; omega
        · simp [c1, c2, c3, hs2, cutL, tokP]
    · simp only [c1, false_and, if_false, not_false_eq_true, if_true, Option.none_or]
      cases hs : sglL (a :: t) with
      | some x =>
        obtain ⟨t', n⟩ := x
        have := sgl_nm hs
        simp only at this
        simp [cutL, this]
      | none =>
        simp only [Option.none_or]
        by_cases c5 : u = 94
        · simp only [c5, if_true, not_true_eq_false, if_false]
          by_cases c2 : r = 0
          · have hp : parL ((a :: t).take (runN (a :: t))) = none := by
              have h0 : runN (a :: t) = 0 := runN_stop (.inr (by
                rw [hda, c5, decodeL_ascii 94 t (by decide)]; decide))
              rw [h0]; rfl
            unfold vlL
            rw [hp]
            simp [c2, cutL]
          · by_cases c4 : 24 < r
            · simp [c2, c4, cutL, tokN, hlen]
            · simp [c2, c4, cutL, tokN, hlen]; omega
        · simp only [c5, if_false, not_false_eq_true, if_true, Option.none_or]
          unfold vlL
          cases hp : parL ((a :: t).take (runN (a :: t))) with
          | none => rfl
          | some t' => simp [cutL, par_nm hp]
end Go.Proofs.YtglimefhiggdeaaDoor
