/- What a word is, what a number, and the digits of one: plain mathematics, no program. -/
import Derived.Lib.ValidLaws
import Derived.Lib.AtoiAllCases
import Derived.Lib.ItoaLen
import Derived.Lib.ItoaNum
namespace Go.Proofs.YtpmhilaochfpaaaDoor
set_option maxRecDepth 20000
set_option maxRecDepth 20000
set_option maxRecDepth 20000
set_option maxRecDepth 20000
set_option maxRecDepth 20000
open Go.Lib

/-- May a code point stand in a word? -/
def stands (c : Nat) : Bool := decide (128 ≤ c ∨ (97 ≤ c ∧ c ≤ 122) ∨ (65 ≤ c ∧ c ≤ 90) ∨ (48 ≤ c ∧ c ≤ 57) ∨ c = 95 ∨ c = 45 ∨ c = 63 ∨ c = 33 ∨ c = 43 ∨ c = 42 ∨ c = 46)
/-- Does a text begin with no code point? -/
def badR (l : List UInt8) : Bool := decide ((decodeL l).1 = 65533 ∧ (decodeL l).2 = 1)
def allGo : Nat → List UInt8 → Bool
  | 0, _ => true
  | n + 1, l => if l = [] then true else stands (decodeL l).1 && allGo n (l.drop (decodeL l).2)
def allR (l : List UInt8) : Bool := allGo l.length l
def okGo : Nat → List UInt8 → Bool
  | 0, _ => true
  | n + 1, l => if l = [] then true else !badR l && (stands (decodeL l).1 && okGo n (l.drop (decodeL l).2))
def okR (l : List UInt8) : Bool := okGo l.length l
/-- A word. -/
def wordB (l : List UInt8) : Bool := decide (1 ≤ l.length ∧ l.length ≤ 24) && okR l

theorem drop_lt (l : List UInt8) (h : l ≠ []) : (l.drop (decodeL l).2).length < l.length := by
  have := decodeL_width l
  have hl : 0 < l.length := List.length_pos_iff.2 h
  rw [List.length_drop]; omega
theorem allGo_nil : ∀ n, allGo n [] = true
  | 0 => rfl
  | _ + 1 => by simp [allGo]
theorem okGo_nil : ∀ n, okGo n [] = true
  | 0 => rfl
  | _ + 1 => by simp [okGo]
theorem allGo_fuel : ∀ (n m : Nat) (l : List UInt8), l.length ≤ n → l.length ≤ m → allGo n l = allGo m l
  | 0, m, l, hn, _ => by
    have : l = [] := List.eq_nil_of_length_eq_zero (by omega)
    subst this; rw [allGo_nil, allGo_nil]
  | n + 1, 0, l, _, hm => by
    have : l = [] := List.eq_nil_of_length_eq_zero (by omega)
    subst this; rw [allGo_nil, allGo_nil]
  | n + 1, m + 1, l, hn, hm => by
    unfold allGo
    by_cases hne : l = []
    · simp [hne]
    · have hd := drop_lt l hne
      rw [if_neg hne, if_neg hne, allGo_fuel n m _ (by omega) (by omega)]
theorem okGo_fuel : ∀ (n m : Nat) (l : List UInt8), l.length ≤ n → l.length ≤ m → okGo n l = okGo m l
  | 0, m, l, hn, _ => by
    have : l = [] := List.eq_nil_of_length_eq_zero (by omega)
    subst this; rw [okGo_nil, okGo_nil]
  | n + 1, 0, l, _, hm => by
    have : l = [] := List.eq_nil_of_length_eq_zero (by omega)
    subst this; rw [okGo_nil, okGo_nil]
  | n + 1, m + 1, l, hn, hm => by
    unfold okGo
    by_cases hne : l = []
    · simp [hne]
    · have hd := drop_lt l hne
      rw [if_neg hne, if_neg hne, okGo_fuel n m _ (by omega) (by omega)]
theorem allR_nil : allR [] = true := rfl
theorem okR_nil : okR [] = true := rfl
theorem allR_step (l : List UInt8) (hne : l ≠ []) : allR l = (stands (decodeL l).1 && allR (l.drop (decodeL l).2)) := by
  have hd := drop_lt l hne
  obtain ⟨n, hn⟩ : ∃ n, l.length = n + 1 := ⟨l.length - 1, by have := List.length_pos_iff.2 hne; omega⟩
  unfold allR; rw [hn]
  show (if l = [] then true else _) = _
  rw [if_neg hne, allGo_fuel n _ _ (by omega) (Nat.le_refl _)]
theorem okR_step (l : List UInt8) (hne : l ≠ []) : okR l = (!badR l && (stands (decodeL l).1 && okR (l.drop (decodeL l).2))) := by
  have hd := drop_lt l hne
  obtain ⟨n, hn⟩ : ∃ n, l.length = n + 1 := ⟨l.length - 1, by have := List.length_pos_iff.2 hne; omega⟩
  unfold okR; rw [hn]
  show (if l = [] then true else _) = _
  rw [if_neg hne, okGo_fuel n _ _ (by omega) (Nat.le_refl _)]
theorem okR_eq : ∀ (n : Nat) (l : List UInt8), l.length ≤ n → okR l = (validD l && allR l)
  | 0, l, h => by
    have : l = [] := List.eq_nil_of_length_eq_zero (by omega)
    subst this; rfl
  | n + 1, l, h => by
    by_cases hne : l = []
    · subst hne; rfl
    · have hd := drop_lt l hne
      rw [okR_step l hne, validD_step l hne, allR_step l hne, okR_eq n _ (by omega)]
      unfold badR
      by_cases hb : (decodeL l).1 = 65533 ∧ (decodeL l).2 = 1
      · rw [if_pos hb, decide_eq_true hb]; rfl
      · rw [if_neg hb, decide_eq_false hb]
        cases stands (decodeL l).1 <;> cases validD (l.drop (decodeL l).2) <;> rfl
theorem okR_is (l : List UInt8) : okR l = (validD l && allR l) := okR_eq l.length l (Nat.le_refl _)

/-! ### What the document's Rune tells -/
theorem rr1 (n b0 b1 b2 b3 : Nat) (h : b0 < 128) : decodeN n b0 b1 b2 b3 = (b0, 1) := by unfold decodeN; rw [if_pos h]
theorem rr0 (n b0 b1 b2 b3 : Nat) (h : 128 ≤ b0) (h' : b0 < 194 ∨ 245 ≤ b0) (hb : b0 < 256) : decodeN n b0 b1 b2 b3 = (65533, 1) := decodeN_bad n b0 b1 b2 b3 (by omega)
set_option maxRecDepth 100000 in
set_option maxHeartbeats 4000000 in
theorem rr2 (n b0 b1 b2 b3 : Nat) (h : 194 ≤ b0) (h' : b0 < 224) (h1 : b1 < 256) : decodeN n b0 b1 b2 b3 = if n < 2 ∨ b1 < 128 ∨ 191 < b1 then (65533, 1) else (64 * (b0 - 192) + (b1 - 128), 2) := by
  unfold decodeN
  repeat' split
  all_goals first | rfl | (exfalso; omega) | (apply Prod.ext <;> simp only <;> omega)
set_option maxRecDepth 100000 in
set_option maxHeartbeats 4000000 in
theorem rr3 (n b0 b1 b2 b3 : Nat) (h : 224 ≤ b0) (h' : b0 < 240) (h1 : b1 < 256) (h2 : b2 < 256) : decodeN n b0 b1 b2 b3 = if n < 3 ∨ b1 < 128 ∨ 191 < b1 ∨ b2 < 128 ∨ 191 < b2 ∨ 64 * (64 * (b0 - 224) + (b1 - 128)) + (b2 - 128) < 2048 ∨ (55296 ≤ 64 * (64 * (b0 - 224) + (b1 - 128)) + (b2 - 128) ∧ 64 * (64 * (b0 - 224) + (b1 - 128)) + (b2 - 128) < 57344) then (65533, 1) else (64 * (64 * (b0 - 224) + (b1 - 128)) + (b2 - 128), 3) := by
  unfold decodeN
  repeat' split
  all_goals first | rfl | (exfalso; omega) | (apply Prod.ext <;> simp only <;> omega)
set_option maxRecDepth 100000 in
set_option maxHeartbeats 4000000 in
theorem rr4 (n b0 b1 b2 b3 : Nat) (h : 240 ≤ b0) (h' : b0 < 245) (h1 : b1 < 256) (h2 : b2 < 256) (h3 : b3 < 256) : decodeN n b0 b1 b2 b3 = if n < 4 ∨ b1 < 128 ∨ 191 < b1 ∨ b2 < 128 ∨ 191 < b2 ∨ b3 < 128 ∨ 191 < b3 ∨ 64 * (64 * (64 * (b0 - 240) + (b1 - 128)) + (b2 - 128)) + (b3 - 128) < 65536 ∨ 1114111 < 64 * (64 * (64 * (b0 - 240) + (b1 - 128)) + (b2 - 128)) + (b3 - 128) then (65533, 1) else (64 * (64 * (64 * (b0 - 240) + (b1 - 128)) + (b2 - 128)) + (b3 - 128), 4) := by
  unfold decodeN
  repeat' split
  all_goals first | rfl | (exfalso; omega) | (apply Prod.ext <;> simp only <;> omega)
/-- What Rune tells. -/
def runeR (l : List UInt8) : Nat × Nat := if badR l then (0, 0) else decodeL l

/-! ### Numbers -/
def isDig (b : UInt8) : Bool := decide (48 ≤ b.toNat ∧ b.toNat ≤ 57)
def isSg (b : UInt8) : Bool := decide (b.toNat = 45 ∨ b.toNat = 43)
def strip : List UInt8 → List UInt8
  | [] => []
  | c :: r => if isSg c then r else c :: r
def numB (l : List UInt8) : Bool := !(strip l).isEmpty && (strip l).all isDig
def decA (a : Nat) (l : List UInt8) : Nat := l.foldl (fun n b => 10 * n + (b.toNat - 48)) a
def decV (l : List UInt8) : Nat := decA 0 (strip l)
def negB (l : List UInt8) : Bool := decide ((l.getD 0 0).toNat = 45)
def nbV (l : List UInt8) : Int := if negB l then -(decV l : Int) else decV l
theorem decA_le : ∀ (l : List UInt8) (a : Nat), a ≤ decA a l
  | [], a => Nat.le_refl _
  | c :: r, a => Nat.le_trans (by omega) (decA_le r (10 * a + (c.toNat - 48)))
theorem decA_mono : ∀ (l : List UInt8) (a b : Nat), a ≤ b → decA a l ≤ decA b l
  | [], _, _, h => h
  | c :: r, a, b, h => decA_mono r (10 * a + (c.toNat - 48)) (10 * b + (c.toNat - 48)) (by omega)
theorem decA_snoc (l : List UInt8) (a : Nat) (c : UInt8) : decA a (l ++ [c]) = 10 * decA a l + (c.toNat - 48) := by simp [decA]
theorem pu_dec : ∀ (l : List UInt8) (a : Nat), l.all isDig = true → a < 18446744073709551616 → (parseUint10 a l = .ok (decA a l) ∧ decA a l < 18446744073709551616) ∨ (parseUint10 a l = .range ∧ 18446744073709551616 ≤ decA a l)
  | [], a, _, ha => .inl ⟨rfl, ha⟩
  | c :: r, a, h, ha => by
    simp only [List.all_cons, Bool.and_eq_true, isDig, decide_eq_true_eq] at h
    obtain ⟨hc, hr⟩ := h
    have hle := decA_le r (10 * a + (c.toNat - 48))
    have e : decA a (c :: r) = decA (10 * a + (c.toNat - 48)) r := rfl
    rw [e]
    unfold parseUint10
    rw [if_pos hc]
    by_cases h1 : 1844674407370955162 ≤ a
    · rw [if_pos h1]; right; exact ⟨rfl, by omega⟩
    · rw [if_neg h1]
      by_cases h2 : 18446744073709551616 ≤ a * 10 + (c.toNat - 48)
      · rw [if_pos h2]; right; exact ⟨rfl, by omega⟩
      · rw [if_neg h2, Nat.mul_comm a 10]
        exact pu_dec r _ (by simpa [isDig] using hr) (by omega)
theorem strip_ne {l : List UInt8} (h : numB l = true) : strip l ≠ [] := by
  unfold numB at h; intro e; rw [e] at h; simp at h
theorem pm_dec (l : List UInt8) (h : numB l = true) : (parseMag (strip l) = .ok (decV l) ∧ decV l < 18446744073709551616) ∨ (parseMag (strip l) = .range ∧ 18446744073709551616 ≤ decV l) := by
  unfold parseMag; rw [if_neg (strip_ne h)]
  unfold numB at h
  exact pu_dec _ 0 (by simp only [Bool.and_eq_true] at h; exact h.2) (by omega)
/-- strconv.Atoi of a text that is a number: its value, or it is too great. -/
theorem atoi_num (l : List UInt8) (h : numB l = true) : atoiAll l = .ok (nbV l) ∨ (atoiAll l = .range ∧ 1099511627776 < decV l) := by
  have hm := pm_dec l h
  cases l with
  | nil => simp [numB, strip] at h
  | cons c r =>
    have hs : strip (c :: r) = if isSg c then r else c :: r := rfl
    by_cases hp : c.toNat = 43 ∨ c.toNat = 45
    · have e1 : isSg c = true := by simp [isSg]; omega
      rw [hs, e1, if_pos rfl] at hm
      unfold atoiAll nbV negB
      simp only [if_pos hp, List.getD_cons_zero]
      rcases hm with ⟨e, hb⟩ | ⟨e, hb⟩
      · rw [e]; dsimp only
        by_cases hn : c.toNat = 45
        · simp only [hn, not_true_eq_false, false_and, if_false, true_and, if_true, decide_true]
          by_cases hb2 : 9223372036854775808 < decV (c :: r)
          · rw [if_pos hb2]; right; exact ⟨rfl, by omega⟩
          · rw [if_neg hb2]; left; rfl
        · simp only [hn, not_false_eq_true, true_and, false_and, if_false, decide_false, Bool.false_eq_true]
          by_cases hb2 : 9223372036854775808 ≤ decV (c :: r)
          · rw [if_pos hb2]; right; exact ⟨rfl, by omega⟩
          · rw [if_neg hb2]; left; rfl
      · rw [e]; right; exact ⟨rfl, by omega⟩
    · have e1 : isSg c = false := by simp [isSg]; omega
      rw [hs, e1, if_neg (by simp)] at hm
      have hn : ¬ c.toNat = 45 := by omega
      unfold atoiAll nbV negB
      simp only [if_neg hp, List.getD_cons_zero]
      rcases hm with ⟨e, hb⟩ | ⟨e, hb⟩
      · rw [e]; dsimp only
        simp only [hn, not_false_eq_true, true_and, false_and, if_false, decide_false, Bool.false_eq_true]
        by_cases hb2 : 9223372036854775808 ≤ decV (c :: r)
        · rw [if_pos hb2]; right; exact ⟨rfl, by omega⟩
        · rw [if_neg hb2]; left; rfl
      · rw [e]; right; exact ⟨rfl, by omega⟩

/-! ### The digits of a number -/
theorem dig_toNat (k : Nat) (h : k < 10) : (UInt8.ofNat (48 + k)).toNat = 48 + k := by
  rw [UInt8.toNat_ofNat']; omega
theorem dd_all (u : Nat) : (decDigits u).all isDig = true := by
  induction u using Nat.strongRecOn with
  | _ u ih =>
    rw [decDigits]
    by_cases h : u < 10
    · rw [dif_pos h]; simp [isDig]; omega
    · rw [dif_neg h, List.all_append, ih _ (by omega)]
      simp [isDig]; omega
theorem dd_val (u : Nat) : decA 0 (decDigits u) = u := by
  induction u using Nat.strongRecOn with
  | _ u ih =>
    rw [decDigits]
    by_cases h : u < 10
    · rw [dif_pos h]; simp [decA]; omega
    · rw [dif_neg h, decA_snoc, ih _ (by omega), dig_toNat (u % 10) (by omega)]; omega
theorem dd_ne (u : Nat) : decDigits u ≠ [] := by
  intro e; have := decDigits_length u; have := nDigits_pos u; rw [e] at *; simp at *; omega
theorem dd_strip (u : Nat) : strip (decDigits u) = decDigits u := by
  have ha := dd_all u
  cases hd : decDigits u with
  | nil => rfl
  | cons c r =>
    rw [hd] at ha
    simp only [List.all_cons, Bool.and_eq_true, isDig, decide_eq_true_eq] at ha
    have : isSg c = false := by simp [isSg]; omega
    simp [strip, this]
theorem dd_neg (u : Nat) : negB (decDigits u) = false := by
  have ha := dd_all u
  cases hd : decDigits u with
  | nil => rfl
  | cons c r =>
    rw [hd] at ha
    simp only [List.all_cons, Bool.and_eq_true, isDig, decide_eq_true_eq] at ha
    simp [negB]; omega
theorem itoa_strip (n : Int) : strip (itoa n) = decDigits n.natAbs := by
  unfold itoa
  by_cases h : n < 0
  · rw [if_pos h]; rfl
  · rw [if_neg h, dd_strip, show n.toNat = n.natAbs by omega]
theorem itoa_num (n : Int) : numB (itoa n) = true := by
  unfold numB; rw [itoa_strip, dd_all]
  simp [dd_ne]
theorem itoa_val (n : Int) : nbV (itoa n) = n := by
  unfold nbV decV
  rw [itoa_strip, dd_val]
  unfold itoa
  by_cases h : n < 0
  · rw [if_pos h]
    have : negB (45 :: decDigits n.natAbs) = true := rfl
    rw [if_pos this]; omega
  · rw [if_neg h, dd_neg]; simp; omega
theorem itoa_len (n : Int) (h0 : -1099511627776 ≤ n) (h1 : n ≤ 1099511627776) : 1 ≤ (itoa n).length ∧ (itoa n).length ≤ 22 := by
  have := itoa_length_le n (by omega) (by omega)
  refine ⟨?_, by omega⟩
  have h := strip_ne (itoa_num n)
  cases hi : itoa n with
  | nil => rw [hi] at h; exact absurd rfl h
  | cons c r => simp
theorem okR_ascii : ∀ (l : List UInt8), (∀ b ∈ l, b.toNat < 128 ∧ stands b.toNat = true) → okR l = true
  | [], _ => rfl
  | b :: t, h => by
    obtain ⟨hb, hs⟩ := h b (by simp)
    rw [okR_step _ (by simp), badR, decodeL_ascii b t hb]
    simp only [List.drop_succ_cons, List.drop_zero, hs, okR_ascii t (fun c hc => h c (by simp [hc])), Bool.and_true, Bool.not_eq_true', decide_eq_false_iff_not]
    omega
theorem num_all (l : List UInt8) (h : numB l = true) : ∀ b ∈ l, isDig b = true ∨ isSg b = true := by
  intro b hb
  unfold numB at h
  simp only [Bool.and_eq_true, List.all_eq_true] at h
  cases l with
  | nil => simp at hb
  | cons c r =>
    by_cases hc : isSg c = true
    · simp only [strip, hc, if_true] at h
      rcases List.mem_cons.1 hb with e | e
      · rw [e]; exact .inr hc
      · exact .inl (h.2 b e)
    · simp only [strip, hc, if_false, Bool.false_eq_true] at h
      exact .inl (h.2 b hb)
theorem num_word (l : List UInt8) (h : numB l = true) (hl : l.length ≤ 24) : wordB l = true := by
  have hne : 1 ≤ l.length := by
    cases l with
    | nil => simp [numB, strip] at h
    | cons c r => simp
  unfold wordB
  rw [decide_eq_true ⟨hne, hl⟩, Bool.true_and]
  refine okR_ascii l fun b hb => ?_
  have := num_all l h b hb
  simp only [isDig, isSg, decide_eq_true_eq] at this
  refine ⟨by omega, ?_⟩
  unfold stands; rw [decide_eq_true_eq]; omega
def nil3 : List UInt8 := [110, 105, 108]
theorem nil_not_num : numB nil3 = false := by decide +kernel
theorem nil_word : wordB nil3 = true := by
  unfold wordB
  rw [decide_eq_true (by decide), Bool.true_and]
  refine okR_ascii _ fun b hb => ?_
  simp only [nil3, List.mem_cons, List.not_mem_nil, or_false] at hb
  rcases hb with rfl | rfl | rfl <;> decide
theorem itoa_not_nil (n : Int) : itoa n ≠ nil3 := fun e => by
  have := itoa_num n; rw [e, nil_not_num] at this; cases this
theorem itoa_inj {n m : Int} (h : itoa n = itoa m) : n = m := by rw [← itoa_val n, h, itoa_val]
/-- What is read, at most 2^40 + 1. -/
def satA (a : Nat) (l : List UInt8) : Nat := l.foldl (fun n b => min (10 * n + (b.toNat - 48)) 1099511627777) a
theorem satA_snoc (l : List UInt8) (a : Nat) (c : UInt8) : satA a (l ++ [c]) = min (10 * satA a l + (c.toNat - 48)) 1099511627777 := by simp [satA]
theorem satA_eq : ∀ (l : List UInt8) (a : Nat), satA (min a 1099511627777) l = min (decA a l) 1099511627777
  | [], a => rfl
  | c :: r, a => by
    show satA (min (10 * min a 1099511627777 + (c.toNat - 48)) 1099511627777) r = min (decA (10 * a + (c.toNat - 48)) r) 1099511627777
    rw [← satA_eq r (10 * a + (c.toNat - 48))]
    congr 1; omega
theorem sat_dec (l : List UInt8) : satA 0 l = min (decA 0 l) 1099511627777 := satA_eq l 0
theorem satA_le (l : List UInt8) : satA 0 l ≤ 1099511627777 := by rw [sat_dec]; omega
end Go.Proofs.YtpmhilaochfpaaaDoor
