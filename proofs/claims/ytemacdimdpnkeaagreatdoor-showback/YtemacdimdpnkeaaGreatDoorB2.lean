import Derived.Lib.ValidLaws
import Derived.Lib.AtoiAllCases
import Derived.Lib.ItoaLen
import Derived.Lib.ItoaNum
import Derived.Lib.TrimUEq
import Derived.Lib.MapLaws
namespace Go.Proofs.YtemacdimdpnkeaaGreatDoor
set_option maxRecDepth 20000
open Go.Lib
def stands (c : Nat) : Bool := decide (128 ≤ c ∨ (97 ≤ c ∧ c ≤ 122) ∨ (65 ≤ c ∧ c ≤ 90) ∨ (48 ≤ c ∧ c ≤ 57) ∨ c = 95 ∨ c = 45 ∨ c = 63 ∨ c = 33 ∨ c = 43 ∨ c = 42 ∨ c = 46)
def badR (l : List UInt8) : Bool := decide ((decodeL l).1 = 65533 ∧ (decodeL l).2 = 1)
def allGo : Nat → List UInt8 → Bool
  | 0, _ => true
  | n + 1, l => if l = [] then true else stands (decodeL l).1 && allGo n (l.drop (decodeL l).2)
def allR (l : List UInt8) : Bool := allGo l.length l
def okGo : Nat → List UInt8 → Bool
  | 0, _ => true
  | n + 1, l => if l = [] then true else !badR l && (stands (decodeL l).1 && okGo n (l.drop (decodeL l).2))
def okR (l : List UInt8) : Bool := okGo l.length l
def wordB (l : List UInt8) : Bool := decide (1 ≤ l.length ∧ l.length ≤ 24) && okR l

theorem drop_lt (l : List UInt8) (h : l ≠ []) : (l.drop (decodeL l).2).length < l.length := by
  have := decodeL_width l
  have hl : 0 < l.length := List.length_pos_iff.2 h
  rw [List.length_drop]; omega
theorem allGo_nil : ∀ n, allGo n [] = true
  | 0 => rfl
  | _ + 1 => by simp [allGo]
theorem okGo_nil : ∀ n, okGo n [] = true
  | 0 => rfl
  | _ + 1 => by simp [okGo]
theorem allGo_fuel : ∀ (n m : Nat) (l : List UInt8), l.length ≤ n → l.length ≤ m → allGo n l = allGo m l
  | 0, m, l, hn, _ => by
    have : l = [] := List.eq_nil_of_length_eq_zero (by omega)
    subst this; rw [allGo_nil, allGo_nil]
  | n + 1, 0, l, _, hm => by
    have : l = [] := List.eq_nil_of_length_eq_zero (by omega)
    subst this; rw [allGo_nil, allGo_nil]
  | n + 1, m + 1, l, hn, hm => by
    unfold allGo
    by_cases hne : l = []
    · simp [hne]
    · have hd := drop_lt l hne
      rw [if_neg hne, if_neg hne, allGo_fuel n m _ (by omega) (by omega)]
theorem okGo_fuel : ∀ (n m : Nat) (l : List UInt8), l.length ≤ n → l.length ≤ m → okGo n l = okGo m l
  | 0, m, l, hn, _ => by
    have : l = [] := List.eq_nil_of_length_eq_zero (by omega)
    subst this; rw [okGo_nil, okGo_nil]
  | n + 1, 0, l, _, hm => by
    have : l = [] := List.eq_nil_of_length_eq_zero (by omega)
    subst this; rw [okGo_nil, okGo_nil]
  | n + 1, m + 1, l, hn, hm => by
    unfold okGo
    by_cases hne : l = []
    · simp [hne]
    · have hd := drop_lt l hne
      rw [if_neg hne, if_neg hne, okGo_fuel n m _ (by omega) (by omega)]
theorem okR_nil : okR [] = true := rfl
theorem allR_step (l : List UInt8) (hne : l ≠ []) : allR l = (stands (decodeL l).1 && allR (l.drop (decodeL l).2)) := by
  have hd := drop_lt l hne
  obtain ⟨n, hn⟩ : ∃ n, l.length = n + 1 := ⟨l.length - 1, by have := List.length_pos_iff.2 hne; omega⟩
  unfold allR; rw [hn]
  show (if l = [] then true else _) = _
  rw [if_neg hne, allGo_fuel n _ _ (by omega) (Nat.le_refl _)]
theorem okR_step (l : List UInt8) (hne : l ≠ []) : okR l = (!badR l && (stands (decodeL l).1 && okR (l.drop (decodeL l).2))) := by
  have hd := drop_lt l hne
  obtain ⟨n, hn⟩ : ∃ n, l.length = n + 1 := ⟨l.length - 1, by have := List.length_pos_iff.2 hne; omega⟩
  unfold okR; rw [hn]
  show (if l = [] then true else _) = _
  rw [if_neg hne, okGo_fuel n _ _ (by omega) (Nat.le_refl _)]
theorem okR_eq : ∀ (n : Nat) (l : List UInt8), l.length ≤ n → okR l = (validD l && allR l)
  | 0, l, h => by
    have : l = [] := List.eq_nil_of_length_eq_zero (by omega)
    subst this; rfl
  | n + 1, l, h => by
    by_cases hne : l = []
    · subst hne; rfl
    · have hd := drop_lt l hne
      rw [okR_step l hne, validD_step l hne, allR_step l hne, okR_eq n _ (by omega)]
      unfold badR
      by_cases hb : (decodeL l).1 = 65533 ∧ (decodeL l).2 = 1
      · rw [if_pos hb, decide_eq_true hb]; rfl
      · rw [if_neg hb, decide_eq_false hb]
        cases stands (decodeL l).1 <;> cases validD (l.drop (decodeL l).2) <;> rfl
theorem okR_is (l : List UInt8) : okR l = (validD l && allR l) := okR_eq l.length l (Nat.le_refl _)

theorem rr1 (n b0 b1 b2 b3 : Nat) (h : b0 < 128) : decodeN n b0 b1 b2 b3 = (b0, 1) := by unfold decodeN; rw [if_pos h]
theorem rr0 (n b0 b1 b2 b3 : Nat) (h : 128 ≤ b0) (h' : b0 < 194 ∨ 245 ≤ b0) (hb : b0 < 256) : decodeN n b0 b1 b2 b3 = (65533, 1) := decodeN_bad n b0 b1 b2 b3 (by omega)
set_option maxRecDepth 100000 in
set_option maxHeartbeats 4000000 in
theorem rr2 (n b0 b1 b2 b3 : Nat) (h : 194 ≤ b0) (h' : b0 < 224) (h1 : b1 < 256) : decodeN n b0 b1 b2 b3 = if n < 2 ∨ b1 < 128 ∨ 191 < b1 then (65533, 1) else (64 * (b0 - 192) + (b1 - 128), 2) := by
  unfold decodeN
  repeat' split
  all_goals first | rfl | (exfalso; omega) | (apply Prod.ext <;> simp only <;> omega)
set_option maxRecDepth 100000 in
set_option maxHeartbeats 4000000 in
theorem rr3 (n b0 b1 b2 b3 : Nat) (h : 224 ≤ b0) (h' : b0 < 240) (h1 : b1 < 256) (h2 : b2 < 256) : decodeN n b0 b1 b2 b3 = if n < 3 ∨ b1 < 128 ∨ 191 < b1 ∨ b2 < 128 ∨ 191 < b2 ∨ 64 * (64 * (b0 - 224) + (b1 - 128)) + (b2 - 128) < 2048 ∨ (55296 ≤ 64 * (64 * (b0 - 224) + (b1 - 128)) + (b2 - 128) ∧ 64 * (64 * (b0 - 224) + (b1 - 128)) + (b2 - 128) < 57344) then (65533, 1) else (64 * (64 * (b0 - 224) + (b1 - 128)) + (b2 - 128), 3) := by
  unfold decodeN
  repeat' split
  all_goals first | rfl | (exfalso; omega) | (apply Prod.ext <;> simp only <;> omega)
set_option maxRecDepth 100000 in
set_option maxHeartbeats 4000000 in
theorem rr4 (n b0 b1 b2 b3 : Nat) (h : 240 ≤ b0) (h' : b0 < 245) (h1 : b1 < 256) (h2 : b2 < 256) (h3 : b3 < 256) : decodeN n b0 b1 b2 b3 = if n < 4 ∨ b1 < 128 ∨ 191 < b1 ∨ b2 < 128 ∨ 191 < b2 ∨ b3 < 128 ∨ 191 < b3 ∨ 64 * (64 * (64 * (b0 - 240) + (b1 - 128)) + (b2 - 128)) + (b3 - 128) < 65536 ∨ 1114111 < 64 * (64 * (64 * (b0 - 240) + (b1 - 128)) + (b2 - 128)) + (b3 - 128) then (65533, 1) else (64 * (64 * (64 * (b0 - 240) + (b1 - 128)) + (b2 - 128)) + (b3 - 128), 4) := by
  unfold decodeN
  repeat' split
  all_goals first | rfl | (exfalso; omega) | (apply Prod.ext <;> simp only <;> omega)
def isDig (b : UInt8) : Bool := decide (48 ≤ b.toNat ∧ b.toNat ≤ 57)
def isSg (b : UInt8) : Bool := decide (b.toNat = 45 ∨ b.toNat = 43)
def strip : List UInt8 → List UInt8
  | [] => []
  | c :: r => if isSg c then r else c :: r
def numB (l : List UInt8) : Bool := !(strip l).isEmpty && (strip l).all isDig
def decA (a : Nat) (l : List UInt8) : Nat := l.foldl (fun n b => 10 * n + (b.toNat - 48)) a
def decV (l : List UInt8) : Nat := decA 0 (strip l)
def negB (l : List UInt8) : Bool := decide ((l.getD 0 0).toNat = 45)
def nbV (l : List UInt8) : Int := if negB l then -(decV l : Int) else decV l
theorem decA_le : ∀ (l : List UInt8) (a : Nat), a ≤ decA a l
  | [], a => Nat.le_refl _
  | c :: r, a => Nat.le_trans (by omega) (decA_le r (10 * a + (c.toNat - 48)))
theorem decA_snoc (l : List UInt8) (a : Nat) (c : UInt8) : decA a (l ++ [c]) = 10 * decA a l + (c.toNat - 48) := by simp [decA]
theorem pu_dec : ∀ (l : List UInt8) (a : Nat), l.all isDig = true → a < 18446744073709551616 → (parseUint10 a l = .ok (decA a l) ∧ decA a l < 18446744073709551616) ∨ (parseUint10 a l = .range ∧ 18446744073709551616 ≤ decA a l)
  | [], a, _, ha => .inl ⟨rfl, ha⟩
  | c :: r, a, h, ha => by
    simp only [List.all_cons, Bool.and_eq_true, isDig, decide_eq_true_eq] at h
    obtain ⟨hc, hr⟩ := h
    have hle := decA_le r (10 * a + (c.toNat - 48))
    have e : decA a (c :: r) = decA (10 * a + (c.toNat - 48)) r := rfl
    rw [e]
    unfold parseUint10
    rw [if_pos hc]
    by_cases h1 : 1844674407370955162 ≤ a
    · rw [if_pos h1]; right; exact ⟨rfl, by omega⟩
    · rw [if_neg h1]
      by_cases h2 : 18446744073709551616 ≤ a * 10 + (c.toNat - 48)
      · rw [if_pos h2]; right; exact ⟨rfl, by omega⟩
      · rw [if_neg h2, Nat.mul_comm a 10]
        exact pu_dec r _ (by simpa [isDig] using hr) (by omega)
theorem strip_ne {l : List UInt8} (h : numB l = true) : strip l ≠ [] := by
  unfold numB at h; intro e; rw [e] at h; simp at h
theorem pm_dec (l : List UInt8) (h : numB l = true) : (parseMag (strip l) = .ok (decV l) ∧ decV l < 18446744073709551616) ∨ (parseMag (strip l) = .range ∧ 18446744073709551616 ≤ decV l) := by
  unfold parseMag; rw [if_neg (strip_ne h)]
  unfold numB at h
  exact pu_dec _ 0 (by simp only [Bool.and_eq_true] at h; exact h.2) (by omega)
theorem atoi_num (l : List UInt8) (h : numB l = true) : atoiAll l = .ok (nbV l) ∨ (atoiAll l = .range ∧ 1099511627776 < decV l) := by
  have hm := pm_dec l h
  cases l with
  | nil => simp [numB, strip] at h
  | cons c r =>
    have hs : strip (c :: r) = if isSg c then r else c :: r := rfl
    by_cases hp : c.toNat = 43 ∨ c.toNat = 45
    · have e1 : isSg c = true := by simp [isSg]; omega
      rw [hs, e1, if_pos rfl] at hm
      unfold atoiAll nbV negB
      simp only [if_pos hp, List.getD_cons_zero]
      rcases hm with ⟨e, hb⟩ | ⟨e, hb⟩
      · rw [e]; dsimp only
        by_cases hn : c.toNat = 45
        · simp only [hn, not_true_eq_false, false_and, if_false, true_and, if_true, decide_true]
          by_cases hb2 : 9223372036854775808 < decV (c :: r)
          · rw [if_pos hb2]; right; exact ⟨rfl, by omega⟩
          · rw [if_neg hb2]; left; rfl
        · simp only [hn, not_false_eq_true, true_and, false_and, if_false, decide_false, Bool.false_eq_true]
          by_cases hb2 : 9223372036854775808 ≤ decV (c :: r)
          · rw [if_pos hb2]; right; exact ⟨rfl, by omega⟩
          · rw [if_neg hb2]; left; rfl
      · rw [e]; right; exact ⟨rfl, by omega⟩
    · have e1 : isSg c = false := by simp [isSg]; omega
      rw [hs, e1, if_neg (by simp)] at hm
      have hn : ¬ c.toNat = 45 := by omega
      unfold atoiAll nbV negB
      simp only [if_neg hp, List.getD_cons_zero]
      rcases hm with ⟨e, hb⟩ | ⟨e, hb⟩
      · rw [e]; dsimp only
        simp only [hn, not_false_eq_true, true_and, false_and, if_false, decide_false, Bool.false_eq_true]
        by_cases hb2 : 9223372036854775808 ≤ decV (c :: r)
        · rw [if_pos hb2]; right; exact ⟨rfl, by omega⟩
        · rw [if_neg hb2]; left; rfl
      · rw [e]; right; exact ⟨rfl, by omega⟩

theorem dig_toNat (k : Nat) (h : k < 10) : (UInt8.ofNat (48 + k)).toNat = 48 + k := by
  rw [UInt8.toNat_ofNat']; omega
theorem dd_all (u : Nat) : (decDigits u).all isDig = true := by
  induction u using Nat.strongRecOn with
  | _ u ih =>
    rw [decDigits]
    by_cases h : u < 10
    · rw [dif_pos h]; simp [isDig]; omega
    · rw [dif_neg h, List.all_append, ih _ (by omega)]
      simp [isDig]; omega
theorem dd_val (u : Nat) : decA 0 (decDigits u) = u := by
  induction u using Nat.strongRecOn with
  | _ u ih =>
    rw [decDigits]
    by_cases h : u < 10
    · rw [dif_pos h]; simp [decA]; omega
    · rw [dif_neg h, decA_snoc, ih _ (by omega), dig_toNat (u % 10) (by omega)]; omega
theorem dd_ne (u : Nat) : decDigits u ≠ [] := by
  intro e; have := decDigits_length u; have := nDigits_pos u; rw [e] at *; simp at *; omega
theorem dd_strip (u : Nat) : strip (decDigits u) = decDigits u := by
  have ha := dd_all u
  cases hd : decDigits u with
  | nil => rfl
  | cons c r =>
    rw [hd] at ha
    simp only [List.all_cons, Bool.and_eq_true, isDig, decide_eq_true_eq] at ha
    have : isSg c = false := by simp [isSg]; omega
    simp [strip, this]
theorem dd_neg (u : Nat) : negB (decDigits u) = false := by
  have ha := dd_all u
  cases hd : decDigits u with
  | nil => rfl
  | cons c r =>
    rw [hd] at ha
    simp only [List.all_cons, Bool.and_eq_true, isDig, decide_eq_true_eq] at ha
    simp [negB]; omega
theorem itoa_strip (n : Int) : strip (itoa n) = decDigits n.natAbs := by
  unfold itoa
  by_cases h : n < 0
  · rw [if_pos h]; rfl
  · rw [if_neg h, dd_strip, show n.toNat = n.natAbs by omega]
theorem itoa_num (n : Int) : numB (itoa n) = true := by
  unfold numB; rw [itoa_strip, dd_all]
  simp [dd_ne]
theorem itoa_val (n : Int) : nbV (itoa n) = n := by
  unfold nbV decV
  rw [itoa_strip, dd_val]
  unfold itoa
  by_cases h : n < 0
  · rw [if_pos h]
    have : negB (45 :: decDigits n.natAbs) = true := rfl
    rw [if_pos this]; omega
  · rw [if_neg h, dd_neg]; simp; omega
theorem itoa_len (n : Int) (h0 : -1099511627776 ≤ n) (h1 : n ≤ 1099511627776) : 1 ≤ (itoa n).length ∧ (itoa n).length ≤ 22 := by
  have := itoa_length_le n (by omega) (by omega)
  refine ⟨?_, by omega⟩
  have h := strip_ne (itoa_num n)
  cases hi : itoa n with
  | nil => rw [hi] at h; exact absurd rfl h
  | cons c r => simp
theorem okR_ascii : ∀ (l : List UInt8), (∀ b ∈ l, b.toNat < 128 ∧ stands b.toNat = true) → okR l = true
  | [], _ => rfl
  | b :: t, h => by
    obtain ⟨hb, hs⟩ := h b (by simp)
    rw [okR_step _ (by simp), badR, decodeL_ascii b t hb]
    simp only [List.drop_succ_cons, List.drop_zero, hs, okR_ascii t (fun c hc => h c (by simp [hc])), Bool.and_true, Bool.not_eq_true', decide_eq_false_iff_not]
    omega
theorem num_all (l : List UInt8) (h : numB l = true) : ∀ b ∈ l, isDig b = true ∨ isSg b = true := by
  intro b hb
  unfold numB at h
  simp only [Bool.and_eq_true, List.all_eq_true] at h
  cases l with
  | nil => simp at hb
  | cons c r =>
    by_cases hc : isSg c = true
    · simp only [strip, hc, if_true] at h
      rcases List.mem_cons.1 hb with e | e
      · rw [e]; exact .inr hc
      · exact .inl (h.2 b e)
    · simp only [strip, hc, if_false, Bool.false_eq_true] at h
      exact .inl (h.2 b hb)
theorem num_word (l : List UInt8) (h : numB l = true) (hl : l.length ≤ 24) : wordB l = true := by
  have hne : 1 ≤ l.length := by
    cases l with
    | nil => simp [numB, strip] at h
    | cons c r => simp
  unfold wordB
  rw [decide_eq_true ⟨hne, hl⟩, Bool.true_and]
  refine okR_ascii l fun b hb => ?_
  have := num_all l h b hb
  simp only [isDig, isSg, decide_eq_true_eq] at this
  refine ⟨by omega, ?_⟩
  unfold stands; rw [decide_eq_true_eq]; omega
def nil3 : List UInt8 := [110, 105, 108]
theorem nil_not_num : numB nil3 = false := by decide +kernel
theorem nil_word : wordB nil3 = true := by
  unfold wordB
  rw [decide_eq_true (by decide), Bool.true_and]
  refine okR_ascii _ fun b hb => ?_
  simp only [nil3, List.mem_cons, List.not_mem_nil, or_false] at hb
  rcases hb with rfl | rfl | rfl <;> decide
theorem itoa_not_nil (n : Int) : itoa n ≠ nil3 := fun e => by
  have := itoa_num n; rw [e, nil_not_num] at this; cases this
end Go.Proofs.YtemacdimdpnkeaaGreatDoor
namespace Go.Proofs.YtemacdimdpnkeaaGreatDoor
set_option maxRecDepth 20000
open Go.Lib
set_option maxRecDepth 100000
set_option linter.unusedVariables false
theorem dn_hi (n b0 b1 b2 b3 : Nat) (h : 128 ≤ b0) : 128 ≤ (decodeN n b0 b1 b2 b3).1 := by
  unfold decodeN
  repeat' split
  all_goals first | (exfalso; omega) | (simp only; omega)
theorem dn_le (n b0 b1 b2 b3 : Nat) (h : 1 ≤ n) : (decodeN n b0 b1 b2 b3).2 ≤ n := by
  unfold decodeN
  repeat' split
  all_goals first | (exfalso; omega) | (simp only; omega)
theorem dl_le (l : List UInt8) (h : l ≠ []) : (decodeL l).2 ≤ l.length := by
  rw [decodeL_N]; exact dn_le _ _ _ _ _ (List.length_pos_iff.2 h)
theorem dec_hi (s : ByteArray) (pos : Nat) (h : 128 ≤ (s.data.toList.getD pos 0).toNat) : 128 ≤ (Utf8.decode s pos).1 := by
  rw [← decodeL_drop, decodeL_N]
  refine dn_hi _ _ _ _ _ ?_
  simpa [List.getD] using h
theorem dec_lo (s : ByteArray) (pos : Nat) (hp : pos < s.size) (h : (s.data.toList.getD pos 0).toNat < 128) : Utf8.decode s pos = ((s.data.toList.getD pos 0).toNat, 1) := by
  rw [← decodeL_drop, decodeL_N]
  have e : (s.data.toList.drop pos).getD 0 0 = s.data.toList.getD pos 0 := by simp [List.getD]
  rw [e]; exact rr1 _ _ _ _ _ h

def cnt (l : List UInt8) (k : Nat) : Nat := k - (if isSg (l.getD 0 0) then 1 else 0)
def goodTo (l : List UInt8) (k : Nat) : Prop := ∀ j, j < k → isDig (l.getD j 0) = true ∨ (j = 0 ∧ isSg (l.getD 0 0) = true)
theorem strip_sg {l : List UInt8} (h : isSg (l.getD 0 0) = true) : strip l = l.drop 1 := by
  cases l with
  | nil => rfl
  | cons c r => simp only [List.getD_cons_zero] at h; simp [strip, h]
theorem strip_no {l : List UInt8} (h : isSg (l.getD 0 0) = false) : strip l = l := by
  cases l with
  | nil => rfl
  | cons c r => simp only [List.getD_cons_zero] at h; simp [strip, h]
theorem all_getD (l : List UInt8) : l.all isDig = true ↔ ∀ j, j < l.length → isDig (l.getD j 0) = true := by
  rw [List.all_eq_true]
  constructor
  · intro h j hj
    have : l.getD j 0 = l[j] := by simp [List.getD, hj]
    rw [this]; exact h _ (List.getElem_mem hj)
  · intro h x hx
    obtain ⟨j, hj, rfl⟩ := List.getElem_of_mem hx
    have := h j hj
    simpa [List.getD, hj] using this
theorem getD_drop1 (l : List UInt8) (j : Nat) : (l.drop 1).getD j 0 = l.getD (1 + j) 0 := by simp [List.getD, Nat.add_comm]
theorem nb_iff (l : List UInt8) : numB l = true ↔ strip l ≠ [] ∧ ∀ j, j < (strip l).length → isDig ((strip l).getD j 0) = true := by
  unfold numB
  rw [Bool.and_eq_true, all_getD]
  simp
theorem nb_end (l : List UInt8) (h : goodTo l l.length) : numB l = decide (0 < cnt l l.length) := by
  rw [Bool.eq_iff_iff, nb_iff, decide_eq_true_eq]
  unfold cnt
  by_cases hs : isSg (l.getD 0 0) = true
  · rw [strip_sg hs, if_pos hs]
    constructor
    · rintro ⟨h1, _⟩
      have := List.length_pos_iff.2 h1; simp at this; omega
    · intro h1
      refine ⟨fun e => ?_, fun j hj => ?_⟩
      · have := congrArg List.length e; simp at this; omega
      · rw [getD_drop1]; simp at hj
        rcases h (1 + j) (by omega) with h2 | h2
        · exact h2
        · omega
  · simp only [Bool.not_eq_true] at hs
    rw [strip_no hs]; simp only [hs]
    constructor
    · rintro ⟨h1, _⟩
      have := List.length_pos_iff.2 h1; simp; omega
    · intro h1
      refine ⟨fun e => ?_, fun j hj => ?_⟩
      · rw [e] at h1; simp at h1
      · rcases h j hj with h2 | ⟨_, h2⟩
        · exact h2
        · rw [hs] at h2; cases h2
theorem nb_no (l : List UInt8) (k : Nat) (hk : k < l.length) (h : isDig (l.getD k 0) = false) (h0 : ¬ (k = 0 ∧ isSg (l.getD 0 0) = true)) : numB l = false := by
  rw [Bool.eq_false_iff]
  intro hn
  obtain ⟨h1, h2⟩ := (nb_iff l).1 hn
  by_cases hs : isSg (l.getD 0 0) = true
  · rw [strip_sg hs] at h2
    have hk0 : k ≠ 0 := fun e => h0 ⟨e, hs⟩
    have := h2 (k - 1) (by simp; omega)
    rw [getD_drop1, show 1 + (k - 1) = k by omega, h] at this
    cases this
  · simp only [Bool.not_eq_true] at hs
    rw [strip_no hs] at h2
    have := h2 k hk
    rw [h] at this; cases this
end Go.Proofs.YtemacdimdpnkeaaGreatDoor
namespace Go.Proofs.YtemacdimdpnkeaaGreatDoor
set_option maxRecDepth 20000
open Go.Lib
set_option linter.unusedVariables false
theorem ubyte_lt (u : UInt8) : u.toNat < 256 := u.toNat_lt
theorem bad_of {l : List UInt8} (h : decodeL l = (65533, 1)) : badR l = true := by unfold badR; rw [h]; rfl
theorem dec_same {l m : List UInt8} (hne : l ≠ []) (hb : badR l = false) (h : ∀ i, i < (decodeL l).2 → m[i]? = l[i]?) : decodeL m = decodeL l := by
  have hk1 := decodeL_width l
  have hkl := decodeL_le l hne
  have hg : ∀ i, i < (decodeL l).2 → m.getD i 0 = l.getD i 0 := fun i hi => by
    rw [List.getD_eq_getElem?_getD, List.getD_eq_getElem?_getD, h i hi]
  have hlen : (decodeL l).2 ≤ m.length := by
    have h1 := h ((decodeL l).2 - 1) (by omega)
    rw [List.getElem?_eq_getElem (show (decodeL l).2 - 1 < l.length by omega)] at h1
    have := (List.getElem?_eq_some_iff.1 h1).1
    omega
  have hno : ¬ decodeL l = (65533, 1) := fun e => by rw [bad_of e] at hb; cases hb
  have e0 := hg 0 (by omega)
  have u1 := ubyte_lt (l.getD 1 0)
  have u2 := ubyte_lt (l.getD 2 0)
  have u3 := ubyte_lt (l.getD 3 0)
  have v1 := ubyte_lt (m.getD 1 0)
  have v2 := ubyte_lt (m.getD 2 0)
  have v3 := ubyte_lt (m.getD 3 0)
  have hL := decodeL_N l
  have hM := decodeL_N m
  rw [e0] at hM
  have ub := ubyte_lt (l.getD 0 0)
  by_cases c1 : (l.getD 0 0).toNat < 128
  · rw [hM, hL, rr1 _ _ _ _ _ c1, rr1 _ _ _ _ _ c1]
  by_cases c2 : (l.getD 0 0).toNat < 194 ∨ 245 ≤ (l.getD 0 0).toNat
  · exact absurd (by rw [hL, rr0 _ _ _ _ _ (by omega) c2 ub]) hno
  by_cases c3 : (l.getD 0 0).toNat < 224
  · rw [rr2 _ _ _ _ _ (by omega) c3 u1] at hL
    rw [rr2 _ _ _ _ _ (by omega) c3 v1] at hM
    split at hL
    · exact absurd hL hno
    · rename_i hc
      rw [hL] at hg hlen
      rw [hg 1 (by simp)] at hM
      rw [if_neg (by simp at hlen; omega)] at hM
      rw [hM, hL]
  by_cases c4 : (l.getD 0 0).toNat < 240
  · rw [rr3 _ _ _ _ _ (by omega) c4 u1 u2] at hL
    rw [rr3 _ _ _ _ _ (by omega) c4 v1 v2] at hM
    split at hL
    · exact absurd hL hno
    · rename_i hc
      rw [hL] at hg hlen
      rw [hg 1 (by simp), hg 2 (by simp)] at hM
      rw [if_neg (by simp at hlen; omega)] at hM
      rw [hM, hL]
  · rw [rr4 _ _ _ _ _ (by omega) (by omega) u1 u2 u3] at hL
    rw [rr4 _ _ _ _ _ (by omega) (by omega) v1 v2 v3] at hM
    split at hL
    · exact absurd hL hno
    · rename_i hc
      rw [hL] at hg hlen
      rw [hg 1 (by simp), hg 2 (by simp), hg 3 (by simp)] at hM
      rw [if_neg (by simp at hlen; omega)] at hM
      rw [hM, hL]
theorem bad_same {l m : List UInt8} (h : decodeL m = decodeL l) : badR m = badR l := by unfold badR; rw [h]
theorem dec_app {l : List UInt8} (r : List UInt8) (hne : l ≠ []) (hb : badR l = false) : decodeL (l ++ r) = decodeL l :=
  dec_same hne hb (fun i hi => by rw [List.getElem?_append_left (by have := decodeL_le l hne; omega)])
theorem dec_take {l : List UInt8} (n : Nat) (hne : l ≠ []) (hb : badR l = false) (hn : (decodeL l).2 ≤ n) : decodeL (l.take n) = decodeL l :=
  dec_same hne hb (fun i hi => by rw [List.getElem?_take, if_pos (by omega)])

def runGo : Nat → List UInt8 → Nat
  | 0, _ => 0
  | n + 1, l => if l = [] then 0 else if badR l = true ∨ stands (decodeL l).1 = false then 0 else (decodeL l).2 + runGo n (l.drop (decodeL l).2)
def runN (l : List UInt8) : Nat := runGo l.length l
theorem runGo_nil : ∀ n, runGo n [] = 0
  | 0 => rfl
  | _ + 1 => by simp [runGo]
theorem runGo_fuel : ∀ (n m : Nat) (l : List UInt8), l.length ≤ n → l.length ≤ m → runGo n l = runGo m l
  | 0, m, l, h, _ => by
    have : l = [] := List.length_eq_zero_iff.1 (by omega)
    subst this; rw [runGo_nil, runGo_nil]
  | n + 1, 0, l, _, h => by
    have : l = [] := List.length_eq_zero_iff.1 (by omega)
    subst this; rw [runGo_nil, runGo_nil]
  | n + 1, m + 1, l, h1, h2 => by
    by_cases hl : l = []
    · subst hl; rw [runGo_nil, runGo_nil]
    · have := drop_lt l hl
      simp only [runGo, if_neg hl]
      rw [runGo_fuel n m _ (by omega) (by omega)]
theorem runN_nil : runN [] = 0 := rfl
theorem runN_stop {l : List UInt8} (h : badR l = true ∨ stands (decodeL l).1 = false) : runN l = 0 := by
  unfold runN
  cases l with
  | nil => rfl
  | cons a t => show runGo (t.length + 1) (a :: t) = 0; unfold runGo; rw [if_neg (by simp), if_pos h]
theorem runN_step {l : List UInt8} (hne : l ≠ []) (hb : badR l = false) (hs : stands (decodeL l).1 = true) : runN l = (decodeL l).2 + runN (l.drop (decodeL l).2) := by
  unfold runN
  have hl := drop_lt l hne
  cases l with
  | nil => exact absurd rfl hne
  | cons a t =>
    show runGo (t.length + 1) (a :: t) = _
    rw [runGo, if_neg (by simp), if_neg (by simp [hb, hs]), runGo_fuel t.length _ _ (by simp at hl ⊢; omega) (Nat.le_refl _)]
theorem runN_le : ∀ (n : Nat) (l : List UInt8), l.length ≤ n → runN l ≤ l.length
  | 0, l, h => by
    have : l = [] := List.length_eq_zero_iff.1 (by omega)
    subst this; exact Nat.le_refl _
  | n + 1, l, h => by
    by_cases hl : l = []
    · subst hl; exact Nat.le_refl _
    by_cases hb : badR l = true ∨ stands (decodeL l).1 = false
    · rw [runN_stop hb]; exact Nat.zero_le _
    · have hb1 : badR l = false := by cases hx : badR l; rfl; exact absurd (.inl hx) hb
      have hb2 : stands (decodeL l).1 = true := by cases hx : stands (decodeL l).1; exact absurd (.inr hx) hb; rfl
      have hd := drop_lt l hl
      have := runN_le n _ (show (l.drop (decodeL l).2).length ≤ n by omega)
      rw [runN_step hl hb1 hb2]
      rw [List.length_drop] at this
      have := decodeL_le l hl
      omega
theorem run_ok : ∀ (n : Nat) (l : List UInt8), l.length ≤ n → okR (l.take (runN l)) = true
  | 0, l, h => by
    have : l = [] := List.length_eq_zero_iff.1 (by omega)
    subst this; rfl
  | n + 1, l, h => by
    by_cases hl : l = []
    · subst hl; rfl
    by_cases hb : badR l = true ∨ stands (decodeL l).1 = false
    · rw [runN_stop hb]; exact okR_nil
    · have hb1 : badR l = false := by cases hx : badR l; rfl; exact absurd (.inl hx) hb
      have hb2 : stands (decodeL l).1 = true := by cases hx : stands (decodeL l).1; exact absurd (.inr hx) hb; rfl
      have hd := drop_lt l hl
      have ih := run_ok n _ (show (l.drop (decodeL l).2).length ≤ n by omega)
      have hk := decodeL_width l
      have hlp : 0 < l.length := List.length_pos_iff.2 hl
      rw [runN_step hl hb1 hb2]
      have hdt := dec_take ((decodeL l).2 + runN (l.drop (decodeL l).2)) hl hb1 (Nat.le_add_right _ _)
      have hne : l.take ((decodeL l).2 + runN (l.drop (decodeL l).2)) ≠ [] := by
        intro e
        have := congrArg List.length e
        rw [List.length_take, List.length_nil] at this
        omega
      rw [okR_step _ hne, bad_same hdt, hdt, hb1, hb2]
      simp only [Bool.not_false, Bool.true_and]
      rw [List.drop_take, Nat.add_sub_cancel_left]
      exact ih
def ends (r : List UInt8) : Prop := r = [] ∨ badR r = true ∨ stands (decodeL r).1 = false
theorem run_app : ∀ (n : Nat) (l r : List UInt8), l.length ≤ n → okR l = true → ends r → runN (l ++ r) = l.length
  | 0, l, r, h, ho, he => by
    have : l = [] := List.length_eq_zero_iff.1 (by omega)
    subst this
    rcases he with e | e
    · subst e; rfl
    · exact runN_stop e
  | n + 1, l, r, h, ho, he => by
    by_cases hl : l = []
    · subst hl
      rcases he with e | e
      · subst e; rfl
      · exact runN_stop e
    · rw [okR_step l hl] at ho
      simp only [Bool.and_eq_true, Bool.not_eq_true'] at ho
      obtain ⟨h1, h2, h3⟩ := ho
      have hd := drop_lt l hl
      have hk := decodeL_le l hl
      have ha := dec_app r hl h1
      rw [runN_step (by simp [hl]) (by rw [bad_same ha]; exact h1) (by rw [ha]; exact h2), ha, List.drop_append_of_le_length hk, run_app n _ r (by omega) h3 he, List.length_drop]
      omega
theorem ends_ascii (b : UInt8) (t : List UInt8) (h : b.toNat < 128) (hs : stands b.toNat = false) : ends (b :: t) := .inr (.inr (by rw [decodeL_ascii b t h]; exact hs))
theorem run_is {l r : List UInt8} (ho : okR l = true) (he : ends r) : runN (l ++ r) = l.length := run_app l.length l r (Nat.le_refl _) ho he
theorem run_front (l : List UInt8) : runN l ≤ l.length ∧ okR (l.take (runN l)) = true := ⟨runN_le l.length l (Nat.le_refl _), run_ok l.length l (Nat.le_refl _)⟩
theorem stands_hi {c : Nat} (h : 128 ≤ c) : stands c = true := by unfold stands; simp; omega
theorem dec_bytes {l : List UInt8} (hne : l ≠ []) (hb : badR l = false) (hs : stands (decodeL l).1 = true) : ∀ i, i < (decodeL l).2 → stands (l.getD i 0).toNat = true := by
  have hno : ¬ decodeL l = (65533, 1) := fun e => by rw [bad_of e] at hb; cases hb
  have u1 := ubyte_lt (l.getD 1 0)
  have u2 := ubyte_lt (l.getD 2 0)
  have u3 := ubyte_lt (l.getD 3 0)
  have ub := ubyte_lt (l.getD 0 0)
  have hL := decodeL_N l
  intro i hi
  by_cases c1 : (l.getD 0 0).toNat < 128
  · rw [rr1 _ _ _ _ _ c1] at hL
    rw [hL] at hs hi
    obtain rfl : i = 0 := by simp at hi; omega
    exact hs
  by_cases c2 : (l.getD 0 0).toNat < 194 ∨ 245 ≤ (l.getD 0 0).toNat
  · exact absurd (by rw [hL, rr0 _ _ _ _ _ (by omega) c2 ub]) hno
  refine stands_hi ?_
  by_cases c3 : (l.getD 0 0).toNat < 224
  · rw [rr2 _ _ _ _ _ (by omega) c3 u1] at hL
    split at hL
    · exact absurd hL hno
    · rw [hL] at hi
      simp at hi
      obtain rfl | rfl : i = 0 ∨ i = 1 := by omega
      all_goals omega
  by_cases c4 : (l.getD 0 0).toNat < 240
  · rw [rr3 _ _ _ _ _ (by omega) c4 u1 u2] at hL
    split at hL
    · exact absurd hL hno
    · rw [hL] at hi
      simp at hi
      obtain rfl | rfl | rfl : i = 0 ∨ i = 1 ∨ i = 2 := by omega
      all_goals omega
  · rw [rr4 _ _ _ _ _ (by omega) (by omega) u1 u2 u3] at hL
    split at hL
    · exact absurd hL hno
    · rw [hL] at hi
      simp at hi
      obtain rfl | rfl | rfl | rfl : i = 0 ∨ i = 1 ∨ i = 2 ∨ i = 3 := by omega
      all_goals omega
theorem ok_bytes : ∀ (n : Nat) (l : List UInt8), l.length ≤ n → okR l = true → ∀ b ∈ l, stands b.toNat = true
  | 0, l, h, _, b, hb => by
    have : l = [] := List.length_eq_zero_iff.1 (by omega)
    subst this; cases hb
  | n + 1, l, h, ho, b, hb => by
    by_cases hl : l = []
    · subst hl; cases hb
    · rw [okR_step l hl] at ho
      simp only [Bool.and_eq_true, Bool.not_eq_true'] at ho
      obtain ⟨h1, h2, h3⟩ := ho
      have hd := drop_lt l hl
      rw [← List.take_append_drop (decodeL l).2 l] at hb
      rcases List.mem_append.1 hb with hb | hb
      · obtain ⟨i, hi, rfl⟩ := List.mem_iff_getElem.1 hb
        rw [List.length_take] at hi
        have := dec_bytes hl h1 h2 i (by omega)
        rw [List.getD_eq_getElem?_getD, List.getElem?_eq_getElem (by omega)] at this
        rw [List.getElem_take]
        exact this
      · exact ok_bytes n _ (by omega) h3 b hb
theorem ok_mem {l : List UInt8} (ho : okR l = true) {b : UInt8} (hb : b ∈ l) : stands b.toNat = true := ok_bytes l.length l (Nat.le_refl _) ho b hb
end Go.Proofs.YtemacdimdpnkeaaGreatDoor
namespace Go.Proofs.YtemacdimdpnkeaaGreatDoor
set_option maxRecDepth 20000
open Go.Lib
set_option linter.unusedVariables false
structure Tk where
  k : Int
  nm : List UInt8
  p : Int
  vk : Int
  vn : Int
  vs : List UInt8
deriving DecidableEq
def tok0 (k : Int) : Tk := ⟨k, [], 0, 0, 0, []⟩
def tokP (p : Int) : Tk := ⟨10, [], p, 0, 0, []⟩
def tokN (k : Int) (nm : List UInt8) : Tk := ⟨k, nm, 0, 0, 0, []⟩
def tokV (vk vn : Int) (vs : List UInt8) : Tk := ⟨11, [], 0, vk, vn, vs⟩
def parL (l : List UInt8) : Option Tk :=
  if wordB l = false then none else if l = nil3 then some (tokV 0 0 []) else if numB l = true then (if 1099511627776 < decV l then none else some (tokV 1 (nbV l) [])) else some (tokV 2 0 l)
def fixL : List UInt8 → Option (Tk × Nat)
  | 40 :: _ => some (tok0 0, 1)
  | 41 :: _ => some (tok0 1, 1)
  | 123 :: _ => some (tok0 2, 1)
  | 125 :: _ => some (tok0 3, 1)
  | 60 :: 60 :: _ => some (tok0 4, 2)
  | 62 :: 62 :: _ => some (tok0 5, 2)
  | 45 :: 45 :: 62 :: _ => some (tok0 6, 3)
  | 45 :: 40 :: _ => some (tok0 7, 1)
  | 60 :: 61 :: _ => some (tokP 3, 2)
  | 60 :: 62 :: _ => some (tokP 1, 2)
  | 62 :: 61 :: _ => some (tokP 5, 2)
  | _ => none
def sglL : List UInt8 → Option (Tk × Nat)
  | 60 :: _ => some (tokP 2, 1)
  | 62 :: _ => some (tokP 4, 1)
  | 61 :: _ => some (tokP 0, 1)
  | _ => none
def oneL (l : List UInt8) : Option (Tk × Nat) :=
  match fixL l with
  | some x => some x
  | none =>
    let r := (l.drop 1).take (runN (l.drop 1))
    if l.getD 0 0 = 60 ∧ r ≠ [] ∧ (l.drop (1 + r.length)).getD 0 0 = 62 then (if 24 < r.length then none else some (tokN 9 r, r.length + 2))
    else match sglL l with
      | some x => some x
      | none =>
        if l.getD 0 0 = 94 then (if r = [] ∨ 24 < r.length then none else some (tokN 8 r, r.length + 1))
        else match parL (l.take (runN l)) with
          | none => none
          | some t => some (t, runN l)
def sgnL (p : Int) : List UInt8 := if p = 0 then [61] else if p = 1 then [60, 62] else if p = 2 then [60] else if p = 3 then [60, 61] else if p = 4 then [62] else if p = 5 then [62, 61] else []
def valL (k n : Int) (s : List UInt8) : List UInt8 := if k = 1 then itoa n else if k = 2 then s else nil3
def txtL (t : Tk) : List UInt8 :=
  if t.k = 0 then [40] else if t.k = 1 then [41] else if t.k = 2 then [123] else if t.k = 3 then [125] else if t.k = 4 then [60, 60] else if t.k = 5 then [62, 62] else if t.k = 6 then [45, 45, 62] else if t.k = 7 then [45]
  else if t.k = 8 then 94 :: t.nm else if t.k = 9 then 60 :: (t.nm ++ [62]) else if t.k = 10 then sgnL t.p else valL t.vk t.vn t.vs
theorem no_sign {l : List UInt8} (ho : okR l = true) : 40 ∉ l ∧ 41 ∉ l ∧ 123 ∉ l ∧ 125 ∉ l ∧ 60 ∉ l ∧ 61 ∉ l ∧ 62 ∉ l ∧ 94 ∉ l ∧ 32 ∉ l ∧ 59 ∉ l := by
  refine ⟨?_, ?_, ?_, ?_, ?_, ?_, ?_, ?_, ?_, ?_⟩ <;> (intro h; exact absurd (ok_mem ho h) (by decide))
theorem fix_word {w r : List UInt8} (ho : okR w = true) (hw : w ≠ []) : fixL (w ++ 32 :: r) = none := by
  obtain ⟨h1, h2, h3, h4, h5, h6, h7, h8, h9, h10⟩ := no_sign ho
  match w, hw with
  | [a], _ =>
    simp at h1 h2 h3 h4 h5 h6 h7 h8 h9 h10
    show fixL (a :: 32 :: r) = none
    unfold fixL
    split <;> simp_all
  | [a, b], _ =>
    simp at h1 h2 h3 h4 h5 h6 h7 h8 h9 h10
    show fixL (a :: b :: 32 :: r) = none
    unfold fixL
    split <;> simp_all
  | a :: b :: c :: t, _ =>
    simp at h1 h2 h3 h4 h5 h6 h7 h8 h9 h10
    show fixL (a :: b :: c :: (t ++ 32 :: r)) = none
    unfold fixL
    split <;> simp_all
theorem sgl_word {w r : List UInt8} (ho : okR w = true) (hw : w ≠ []) : sglL (w ++ r) = none := by
  obtain ⟨h1, h2, h3, h4, h5, h6, h7, h8, h9, h10⟩ := no_sign ho
  match w, hw with
  | a :: t, _ =>
    simp at h5 h6 h7
    show sglL (a :: (t ++ r)) = none
    unfold sglL
    split <;> simp_all
theorem itoa_dec2 (n : Int) : decV (itoa n) = n.natAbs := by unfold decV; rw [itoa_strip, dd_val]
theorem nb_abs (l : List UInt8) : (nbV l).natAbs = decV l := by unfold nbV; split <;> omega
theorem par_word {w : List UInt8} {t : Tk} (h : parL w = some t) : wordB w = true := by
  unfold parL at h
  split at h
  · cases h
  · rename_i hc; cases hx : wordB w; exact absurd hx hc; rfl
theorem word_ok {w : List UInt8} (h : wordB w = true) : okR w = true ∧ 1 ≤ w.length ∧ w.length ≤ 24 := by
  unfold wordB at h
  simp only [Bool.and_eq_true, decide_eq_true_eq] at h
  exact ⟨h.2, h.1.1, h.1.2⟩
theorem par_text {w : List UInt8} {t : Tk} (h : parL w = some t) : parL (txtL t) = some t := by
  have hw := par_word h
  unfold parL at h
  rw [if_neg (by rw [hw]; simp)] at h
  split at h
  · obtain rfl := Option.some.inj h
    show parL nil3 = _
    unfold parL
    rw [if_neg (by rw [nil_word]; simp), if_pos rfl]
  · split at h
    · rename_i hn hb
      split at h
      · cases h
      · rename_i hd
        obtain rfl := Option.some.inj h
        show parL (itoa (nbV w)) = _
        have ha := nb_abs w
        have hl := itoa_len (nbV w) (by omega) (by omega)
        unfold parL
        rw [if_neg (by rw [num_word _ (itoa_num _) (by omega)]; simp), if_neg (itoa_not_nil _), if_pos (itoa_num _), itoa_dec2, if_neg (by omega), itoa_val]
    · rename_i hn hb
      obtain rfl := Option.some.inj h
      show parL w = _
      unfold parL
      rw [if_neg (by rw [hw]; simp), if_neg hn, if_neg hb]
theorem par_kind {w : List UInt8} {t : Tk} (h : parL w = some t) : t.k = 11 := by
  unfold parL at h
  repeat' split at h
  all_goals first | (cases h; done) | (obtain rfl := Option.some.inj h; rfl)
inductive IsTok : Tk → Prop
  | fix (k : Int) (h : k = 0 ∨ k = 1 ∨ k = 2 ∨ k = 3 ∨ k = 4 ∨ k = 5 ∨ k = 6 ∨ k = 7) : IsTok (tok0 k)
  | prd (p : Int) (h : p = 0 ∨ p = 1 ∨ p = 2 ∨ p = 3 ∨ p = 4 ∨ p = 5) : IsTok (tokP p)
  | nam (k : Int) (r : List UInt8) (hk : k = 8 ∨ k = 9) (ho : okR r = true) (h1 : 1 ≤ r.length) (h2 : r.length ≤ 24) : IsTok (tokN k r)
  | val (w : List UInt8) (t : Tk) (h : parL w = some t) : IsTok t
theorem run_blank (r : List UInt8) : runN (32 :: r) = 0 := runN_stop (.inr (by rw [decodeL_ascii 32 r (by decide)]; decide))
theorem ends_blank (r : List UInt8) : ends (32 :: r) := ends_ascii 32 r (by decide) (by decide)
theorem ends_more (r : List UInt8) : ends (62 :: r) := ends_ascii 62 r (by decide) (by decide)
theorem one_fix {l : List UInt8} {x : Tk × Nat} (h : fixL l = some x) : oneL l = some x := by unfold oneL; rw [h]
theorem back_val {w : List UInt8} {t : Tk} (h : parL w = some t) (r : List UInt8) : oneL (txtL t ++ 32 :: r) = some (t, (txtL t).length) := by
  have hp := par_text h
  obtain ⟨ho, h1, h2⟩ := word_ok (par_word hp)
  generalize txtL t = v at *
  have hv : v ≠ [] := fun e => by subst e; simp at h1
  obtain ⟨n1, n2, n3, n4, n5, n6, n7, n8, n9, n10⟩ := no_sign ho
  have hr : runN (v ++ 32 :: r) = v.length := run_is ho (ends_blank r)
  have hh : (v ++ 32 :: r).getD 0 0 ∈ v := by
    cases v with
    | nil => exact absurd rfl hv
    | cons a t => simp
  have g60 : ¬ (v ++ 32 :: r).getD 0 0 = 60 := fun e => n5 (by rw [← e]; exact hh)
  have g94 : ¬ (v ++ 32 :: r).getD 0 0 = 94 := fun e => n8 (by rw [← e]; exact hh)
  unfold oneL
  rw [fix_word ho hv, sgl_word ho hv]
  simp only
  rw [if_neg (by intro h; exact g60 h.1), if_neg g94, hr, List.take_append_of_le_length (Nat.le_refl _), List.take_of_length_le (Nat.le_refl _), hp]
theorem back_one {t : Tk} (h : IsTok t) (h7 : t.k ≠ 7) (r : List UInt8) : oneL (txtL t ++ 32 :: r) = some (t, (txtL t).length) := by
  cases h with
  | fix k hk =>
    rcases hk with rfl | rfl | rfl | rfl | rfl | rfl | rfl | rfl
    all_goals first | exact one_fix rfl | exact absurd rfl h7
  | prd p hp =>
    rcases hp with rfl | rfl | rfl | rfl | rfl | rfl
    · show oneL (61 :: 32 :: r) = _
      unfold oneL
      rw [show fixL (61 :: 32 :: r) = none from rfl]
      simp only [List.drop_succ_cons, List.drop_zero, run_blank, List.take_zero]
      rw [if_neg (by simp)]; rfl
    · exact one_fix rfl
    · show oneL (60 :: 32 :: r) = _
      unfold oneL
      rw [show fixL (60 :: 32 :: r) = none from rfl]
      simp only [List.drop_succ_cons, List.drop_zero, run_blank, List.take_zero]
      rw [if_neg (by simp)]; rfl
    · exact one_fix rfl
    · show oneL (62 :: 32 :: r) = _
      unfold oneL
      rw [show fixL (62 :: 32 :: r) = none from rfl]
      simp only [List.drop_succ_cons, List.drop_zero, run_blank, List.take_zero]
      rw [if_neg (by simp)]; rfl
    · exact one_fix rfl
  | val w t h => exact back_val h r
  | nam k v hk ho h1 h2 =>
    obtain ⟨n1, n2, n3, n4, n5, n6, n7, n8, n9, n10⟩ := no_sign ho
    have hv : v ≠ [] := fun e => by subst e; simp at h1
    rcases hk with rfl | rfl
    · show oneL (94 :: (v ++ 32 :: r)) = some (tokN 8 v, (94 :: v).length)
      have hf : fixL (94 :: (v ++ 32 :: r)) = none := by unfold fixL; split <;> simp_all
      have hr : runN (v ++ 32 :: r) = v.length := run_is ho (ends_blank r)
      unfold oneL
      rw [hf]
      simp only [List.drop_succ_cons, List.drop_zero, hr, List.take_append_of_le_length (Nat.le_refl v.length), List.take_length]
      rw [if_neg (by simp), show sglL (94 :: (v ++ 32 :: r)) = none from rfl]
      simp only
      rw [if_pos (by simp), if_neg (by simp [hv]; omega)]
      simp
    · show oneL (60 :: (v ++ [62] ++ 32 :: r)) = some (tokN 9 v, (60 :: (v ++ [62])).length)
      have ea : v ++ [62] ++ 32 :: r = v ++ 62 :: 32 :: r := by simp
      rw [ea]
      have hf : fixL (60 :: (v ++ 62 :: 32 :: r)) = none := by
        match v, hv with
        | a :: t, _ =>
          simp at n1 n2 n3 n4 n5 n6 n7 n8 n9 n10
          show fixL (60 :: a :: (t ++ 62 :: 32 :: r)) = none
          unfold fixL
          split <;> simp_all
      have hr : runN (v ++ 62 :: 32 :: r) = v.length := run_is ho (ends_more _)
      unfold oneL
      rw [hf]
      simp only [List.drop_succ_cons, List.drop_zero, hr, List.take_append_of_le_length (Nat.le_refl v.length), List.take_length]
      rw [if_pos ⟨by simp, hv, by rw [show 1 + v.length = v.length + 1 by omega, List.drop_succ_cons, List.drop_append_of_le_length (Nat.le_refl _), List.drop_length]; rfl⟩, if_neg (by omega)]
      simp
theorem back_not (r : List UInt8) : oneL (45 :: 40 :: r) = some (tok0 7, 1) := one_fix rfl
end Go.Proofs.YtemacdimdpnkeaaGreatDoor
namespace Go.Proofs.YtemacdimdpnkeaaGreatDoor
set_option maxRecDepth 20000
open Go.Lib
set_option linter.unusedVariables false
theorem getD_hd {l : List UInt8} (h : l ≠ []) : l = l.getD 0 0 :: l.drop 1 := by cases l with
  | nil => exact absurd rfl h
  | cons a t => rfl
theorem one_is {l : List UInt8} {t : Tk} {n : Nat} (hl : l ≠ []) (h : oneL l = some (t, n)) : IsTok t ∧ 1 ≤ n ∧ n ≤ l.length ∧ (t.k ≠ 11 ∨ t.vk ≠ 1 → l.take n = txtL t) := by
  unfold oneL at h
  have hl1 : 0 < l.length := List.length_pos_iff.2 hl
  split at h
  · rename_i x hx
    obtain rfl := Option.some.inj h
    unfold fixL at hx
    split at hx
    all_goals first
      | (cases hx; done)
      | (simp only [Option.some.injEq, Prod.mk.injEq] at hx
         obtain ⟨rfl, rfl⟩ := hx
         refine ⟨?_, by omega, by simp, fun _ => rfl⟩
         first | exact IsTok.fix _ (by simp) | exact IsTok.prd _ (by simp))
  · rename_i hf
    have hrun := run_front (l.drop 1)
    have hd : (l.drop 1).length = l.length - 1 := List.length_drop
    have hrl : ((l.drop 1).take (runN (l.drop 1))).length = runN (l.drop 1) := by rw [List.length_take]; omega
    simp only at h
    split at h
    · rename_i hc
      split at h
      · cases h
      · rename_i h24
        simp only [Option.some.injEq, Prod.mk.injEq] at h
        obtain ⟨rfl, rfl⟩ := h
        obtain ⟨c1, c2, c3⟩ := hc
        have hr1 : 1 ≤ ((l.drop 1).take (runN (l.drop 1))).length := by
          rcases Nat.eq_zero_or_pos ((l.drop 1).take (runN (l.drop 1))).length with e | e
          · exact absurd (List.length_eq_zero_iff.1 e) c2
          · exact e
        have hlen : ((l.drop 1).take (runN (l.drop 1))).length + 2 ≤ l.length := by
          rcases Nat.lt_or_ge (1 + ((l.drop 1).take (runN (l.drop 1))).length) l.length with e | e
          · omega
          · rw [List.drop_of_length_le e] at c3; cases c3
        refine ⟨.nam 9 _ (.inr rfl) hrun.2 hr1 (by omega), by omega, hlen, fun _ => ?_⟩
        show l.take _ = 60 :: ((l.drop 1).take (runN (l.drop 1)) ++ [62])
        have e1 : l = 60 :: l.drop 1 := by rw [← c1]; exact getD_hd hl
        have e2 : (l.drop 1).drop (runN (l.drop 1)) = 62 :: (l.drop 1).drop (runN (l.drop 1) + 1) := by
          rw [List.drop_drop]
          rw [hrl] at c3 hlen
          have hne : l.drop (1 + runN (l.drop 1)) ≠ [] := fun e => by rw [e] at c3; cases c3
          have := getD_hd hne
          rw [c3, List.drop_drop] at this
          rw [this, List.drop_drop]
          congr 2
        have e3 : l.drop 1 = (l.drop 1).take (runN (l.drop 1)) ++ 62 :: (l.drop 1).drop (runN (l.drop 1) + 1) := by rw [← e2, List.take_append_drop]
        generalize (l.drop 1).take (runN (l.drop 1)) = r at *
        generalize (l.drop 1).drop (runN (l.drop 1) + 1) = u at *
        rw [e1, e3]
        show (60 :: (r ++ 62 :: u)).take (r.length + 1 + 1) = _
        rw [List.take_succ_cons, List.take_append, List.take_of_length_le (by omega), show r.length + 1 - r.length = 1 by omega]
        rfl
    · split at h
      · rename_i x hx
        obtain rfl := Option.some.inj h
        unfold sglL at hx
        split at hx
        all_goals first
          | (cases hx; done)
          | (simp only [Option.some.injEq, Prod.mk.injEq] at hx
             obtain ⟨rfl, rfl⟩ := hx
             exact ⟨IsTok.prd _ (by simp), by omega, by simp, fun _ => rfl⟩)
      · split at h
        · rename_i c94
          split at h
          · cases h
          · rename_i hc
            simp only [Option.some.injEq, Prod.mk.injEq] at h
            obtain ⟨rfl, rfl⟩ := h
            have hr1 : 1 ≤ ((l.drop 1).take (runN (l.drop 1))).length := by
              rcases Nat.eq_zero_or_pos ((l.drop 1).take (runN (l.drop 1))).length with e | e
              · exact absurd (.inl (List.length_eq_zero_iff.1 e)) hc
              · exact e
            refine ⟨.nam 8 _ (.inl rfl) hrun.2 hr1 (by have := fun e => hc (.inr e); omega), by omega, by omega, fun _ => ?_⟩
            show l.take _ = 94 :: (l.drop 1).take (runN (l.drop 1))
            rw [hrl]
            have e1 : l = 94 :: l.drop 1 := by rw [← c94]; exact getD_hd hl
            conv => lhs; rw [e1]
            rw [List.take_succ_cons]
            rfl
        · split at h
          · cases h
          · rename_i t' hp
            simp only [Option.some.injEq, Prod.mk.injEq] at h
            obtain ⟨rfl, rfl⟩ := h
            have hr := run_front l
            obtain ⟨ho, h1, h2⟩ := word_ok (par_word hp)
            rw [List.length_take] at h1
            refine ⟨.val _ _ hp, by omega, hr.1, fun hk => ?_⟩
            unfold parL at hp
            repeat' split at hp
            all_goals first
              | (cases hp; done)
              | (rename_i hn; obtain rfl := Option.some.inj hp; exact hn)
              | (obtain rfl := Option.some.inj hp; rcases hk with hk | hk <;> exact absurd rfl hk)
              | (obtain rfl := Option.some.inj hp; rfl)
def isW (b : UInt8) : Bool := b == 32 || b == 9 || b == 10 || b == 13
def cmN (l : List UInt8) : Nat := (l.takeWhile (fun b => b != 10)).length
def whGo : Nat → List UInt8 → Nat
  | 0, _ => 0
  | n + 1, l => if l = [] then 0 else if isW (l.getD 0 0) = true then 1 + whGo n (l.drop 1) else if l.getD 0 0 = 59 then cmN l + whGo n (l.drop (cmN l)) else 0
def whN (l : List UInt8) : Nat := whGo l.length l
theorem cm_pos {l : List UInt8} (h : l.getD 0 0 = 59) : 1 ≤ cmN l ∧ cmN l ≤ l.length := by
  unfold cmN
  cases l with
  | nil => cases h
  | cons a t =>
    have : a = 59 := h
    subst this
    refine ⟨by simp [List.takeWhile], (List.takeWhile_sublist _).length_le⟩
theorem whGo_nil : ∀ n, whGo n [] = 0
  | 0 => rfl
  | _ + 1 => by simp [whGo]
theorem whGo_fuel : ∀ (n m : Nat) (l : List UInt8), l.length ≤ n → l.length ≤ m → whGo n l = whGo m l
  | 0, m, l, h, _ => by
    have : l = [] := List.length_eq_zero_iff.1 (by omega)
    subst this; rw [whGo_nil, whGo_nil]
  | n + 1, 0, l, _, h => by
    have : l = [] := List.length_eq_zero_iff.1 (by omega)
    subst this; rw [whGo_nil, whGo_nil]
  | n + 1, m + 1, l, h1, h2 => by
    by_cases hl : l = []
    · subst hl; rw [whGo_nil, whGo_nil]
    · have hp : 0 < l.length := List.length_pos_iff.2 hl
      simp only [whGo, if_neg hl]
      rw [whGo_fuel n m (l.drop 1) (by rw [List.length_drop]; omega) (by rw [List.length_drop]; omega)]
      by_cases hc : l.getD 0 0 = 59
      · have := cm_pos hc
        rw [whGo_fuel n m (l.drop (cmN l)) (by rw [List.length_drop]; omega) (by rw [List.length_drop]; omega)]
      · rw [if_neg hc, if_neg hc]
theorem wh_step (l : List UInt8) (hl : l ≠ []) : whN l = if isW (l.getD 0 0) = true then 1 + whN (l.drop 1) else if l.getD 0 0 = 59 then cmN l + whN (l.drop (cmN l)) else 0 := by
  have hp : 0 < l.length := List.length_pos_iff.2 hl
  obtain ⟨m, hm⟩ : ∃ m, l.length = m + 1 := ⟨l.length - 1, by omega⟩
  unfold whN
  conv => lhs; rw [hm]
  simp only [whGo, if_neg hl]
  rw [whGo_fuel m (l.drop 1).length _ (by rw [List.length_drop]; omega) (Nat.le_refl _)]
  by_cases hc : l.getD 0 0 = 59
  · have := cm_pos hc
    rw [whGo_fuel m (l.drop (cmN l)).length _ (by rw [List.length_drop]; omega) (Nat.le_refl _)]
  · rw [if_neg hc, if_neg hc]
theorem wh_le : ∀ (n : Nat) (l : List UInt8), l.length ≤ n → whN l ≤ l.length
  | 0, l, h => by
    have : l = [] := List.length_eq_zero_iff.1 (by omega)
    subst this; exact Nat.le_refl _
  | n + 1, l, h => by
    by_cases hl : l = []
    · subst hl; exact Nat.le_refl _
    · have hp : 0 < l.length := List.length_pos_iff.2 hl
      rw [wh_step l hl]
      split
      · have := wh_le n (l.drop 1) (by rw [List.length_drop]; omega)
        rw [List.length_drop] at this
        omega
      · split
        · rename_i hc
          have hcm := cm_pos hc
          have := wh_le n (l.drop (cmN l)) (by rw [List.length_drop]; omega)
          rw [List.length_drop] at this
          omega
        · omega
def scanGo : Nat → Nat → List UInt8 → List (Tk × Nat) × Nat × Nat
  | 0, _, _ => ([], 0, 0)
  | n + 1, at_, l => if l = [] then ([], 0, 0) else match oneL l with
    | none => ([], at_, 16)
    | some (t, k) => ((t, at_) :: (scanGo n (at_ + k + whN (l.drop k)) ((l.drop k).drop (whN (l.drop k)))).1, (scanGo n (at_ + k + whN (l.drop k)) ((l.drop k).drop (whN (l.drop k)))).2)
def scanL (l : List UInt8) : List (Tk × Nat) × Nat × Nat := scanGo l.length (whN l) (l.drop (whN l))
theorem scanGo_nil : ∀ n a, scanGo n a [] = ([], 0, 0)
  | 0, _ => rfl
  | _ + 1, _ => by simp [scanGo]
theorem scanGo_fuel : ∀ (n m a : Nat) (l : List UInt8), l.length ≤ n → l.length ≤ m → scanGo n a l = scanGo m a l
  | 0, m, a, l, h, _ => by
    have : l = [] := List.length_eq_zero_iff.1 (by omega)
    subst this; rw [scanGo_nil, scanGo_nil]
  | n + 1, 0, a, l, _, h => by
    have : l = [] := List.length_eq_zero_iff.1 (by omega)
    subst this; rw [scanGo_nil, scanGo_nil]
  | n + 1, m + 1, a, l, h1, h2 => by
    by_cases hl : l = []
    · subst hl; rw [scanGo_nil, scanGo_nil]
    · simp only [scanGo, if_neg hl]
      cases ho : oneL l with
      | none => rfl
      | some x =>
        obtain ⟨t, k⟩ := x
        have := one_is hl ho
        simp only
        rw [scanGo_fuel n m _ _ (by rw [List.length_drop, List.length_drop]; omega) (by rw [List.length_drop, List.length_drop]; omega)]
end Go.Proofs.YtemacdimdpnkeaaGreatDoor
namespace Go.Proofs.YtemacdimdpnkeaaGreatDoor
set_option maxRecDepth 20000
open Go.Lib
set_option linter.unusedVariables false
theorem dec_hi2 {l : List UInt8} (hne : l ≠ []) (hb : badR l = false) (hk : 2 ≤ (decodeL l).2) : ∀ i, i < (decodeL l).2 → 128 ≤ (l.getD i 0).toNat := by
  have hno : ¬ decodeL l = (65533, 1) := fun e => by rw [bad_of e] at hb; cases hb
  have u1 := ubyte_lt (l.getD 1 0)
  have u2 := ubyte_lt (l.getD 2 0)
  have u3 := ubyte_lt (l.getD 3 0)
  have ub := ubyte_lt (l.getD 0 0)
  have hL := decodeL_N l
  intro i hi
  by_cases c1 : (l.getD 0 0).toNat < 128
  · rw [rr1 _ _ _ _ _ c1] at hL
    rw [hL] at hk; simp at hk
  by_cases c2 : (l.getD 0 0).toNat < 194 ∨ 245 ≤ (l.getD 0 0).toNat
  · exact absurd (by rw [hL, rr0 _ _ _ _ _ (by omega) c2 ub]) hno
  by_cases c3 : (l.getD 0 0).toNat < 224
  · rw [rr2 _ _ _ _ _ (by omega) c3 u1] at hL
    split at hL
    · exact absurd hL hno
    · rw [hL] at hi
      simp at hi
      obtain rfl | rfl : i = 0 ∨ i = 1 := by omega
      all_goals omega
  by_cases c4 : (l.getD 0 0).toNat < 240
  · rw [rr3 _ _ _ _ _ (by omega) c4 u1 u2] at hL
    split at hL
    · exact absurd hL hno
    · rw [hL] at hi
      simp at hi
      obtain rfl | rfl | rfl : i = 0 ∨ i = 1 ∨ i = 2 := by omega
      all_goals omega
  · rw [rr4 _ _ _ _ _ (by omega) (by omega) u1 u2 u3] at hL
    split at hL
    · exact absurd hL hno
    · rw [hL] at hi
      simp at hi
      obtain rfl | rfl | rfl | rfl : i = 0 ∨ i = 1 ∨ i = 2 ∨ i = 3 := by omega
      all_goals omega
theorem bad_nl {l : List UInt8} (r : List UInt8) (hne : l ≠ []) : badR (l ++ 10 :: r) = badR l := by
  cases hb : badR l with
  | false => rw [bad_same (dec_app _ hne hb)]; exact hb
  | true =>
    cases hx : badR (l ++ 10 :: r) with
    | true => rfl
    | false =>
      have hn2 : l ++ 10 :: r ≠ [] := by simp
      by_cases hk : (decodeL (l ++ 10 :: r)).2 ≤ l.length
      · have := dec_same (m := l) hn2 hx (fun i hi => by rw [List.getElem?_append_left (by omega)])
        rw [bad_same this, hx] at hb; cases hb
      · have hl1 : 0 < l.length := List.length_pos_iff.2 hne
        have := dec_hi2 hn2 hx (by omega) l.length (by omega)
        rw [List.getD_eq_getElem?_getD, List.getElem?_append_right (Nat.le_refl _), Nat.sub_self] at this
        simp at this
theorem run_nl : ∀ (n : Nat) (l r : List UInt8), l.length ≤ n → runN (l ++ 10 :: r) = runN l
  | 0, l, r, h => by
    have : l = [] := List.length_eq_zero_iff.1 (by omega)
    subst this
    exact runN_stop (.inr (by rw [List.nil_append, decodeL_ascii 10 r (by decide)]; decide))
  | n + 1, l, r, h => by
    by_cases hl : l = []
    · subst hl
      exact runN_stop (.inr (by rw [List.nil_append, decodeL_ascii 10 r (by decide)]; decide))
    have hbn := bad_nl r hl
    by_cases hb : badR l = true
    · rw [runN_stop (.inl hb), runN_stop (.inl (hbn.trans hb))]
    · have hb1 : badR l = false := by cases hx : badR l; rfl; exact absurd hx hb
      have ha := dec_app (10 :: r) hl hb1
      cases hs : stands (decodeL l).1 with
      | false => rw [runN_stop (.inr hs), runN_stop (.inr (by rw [ha]; exact hs))]
      | true =>
        have hd := drop_lt l hl
        have hk := decodeL_le l hl
        rw [runN_step hl hb1 hs, runN_step (by simp) (hbn.trans hb1) (by rw [ha]; exact hs), ha, List.drop_append_of_le_length hk, run_nl n _ r (by omega)]
theorem run_line (l r : List UInt8) : runN (l ++ 10 :: r) = runN l := run_nl l.length l r (Nat.le_refl _)
theorem fix3 (a b c : UInt8) (t u : List UInt8) : fixL (a :: b :: c :: t) = fixL (a :: b :: c :: u) := by
  by_cases a1 : a = 40; (subst a1; rfl)
  by_cases a2 : a = 41; (subst a2; rfl)
  by_cases a3 : a = 123; (subst a3; rfl)
  by_cases a4 : a = 125; (subst a4; rfl)
  by_cases a5 : a = 60
  · subst a5
    by_cases b1 : b = 60; (subst b1; rfl)
    by_cases b2 : b = 61; (subst b2; rfl)
    by_cases b3 : b = 62; (subst b3; rfl)
    simp [fixL, b1, b2, b3]
  by_cases a6 : a = 62
  · subst a6
    by_cases b1 : b = 62; (subst b1; rfl)
    by_cases b2 : b = 61; (subst b2; rfl)
    simp [fixL, b1, b2]
  by_cases a7 : a = 45
  · subst a7
    by_cases b1 : b = 40; (subst b1; rfl)
    by_cases b2 : b = 45
    · subst b2
      by_cases c1 : c = 62; (subst c1; rfl)
      simp [fixL, c1]
    simp [fixL, b1, b2]
  simp [fixL, a1, a2, a3, a4, a5, a6, a7]
theorem fix_line {l : List UInt8} (r : List UInt8) (hl : l ≠ []) : fixL (l ++ 10 :: r) = fixL l := by
  match l, hl with
  | [a], _ =>
    show fixL (a :: 10 :: r) = fixL [a]
    unfold fixL
    split <;> simp_all
  | [a, b], _ =>
    show fixL (a :: b :: 10 :: r) = fixL [a, b]
    unfold fixL
    split <;> simp_all
  | a :: b :: c :: t, _ =>
    exact fix3 a b c _ _
theorem sgl_line {l : List UInt8} (r : List UInt8) (hl : l ≠ []) : sglL (l ++ 10 :: r) = sglL l := by
  match l, hl with
  | a :: t, _ =>
    show sglL (a :: (t ++ 10 :: r)) = sglL (a :: t)
    unfold sglL
    split <;> simp_all
theorem one_line {l : List UInt8} (r : List UInt8) (hl : l ≠ []) : oneL (l ++ 10 :: r) = oneL l := by
  have hl1 : 0 < l.length := List.length_pos_iff.2 hl
  have hd : (l ++ 10 :: r).drop 1 = l.drop 1 ++ 10 :: r := List.drop_append_of_le_length (by omega)
  have h0 : (l ++ 10 :: r).getD 0 0 = l.getD 0 0 := by
    cases l with
    | nil => exact absurd rfl hl
    | cons a t => rfl
  have hr1 := (run_front (l.drop 1)).1
  have hr := (run_front l).1
  have ht1 : (l.drop 1 ++ 10 :: r).take (runN (l.drop 1)) = (l.drop 1).take (runN (l.drop 1)) := List.take_append_of_le_length hr1
  have ht : (l ++ 10 :: r).take (runN l) = l.take (runN l) := List.take_append_of_le_length hr
  have hv : ((l ++ 10 :: r).drop (1 + ((l.drop 1).take (runN (l.drop 1))).length)).getD 0 0 = 62 ↔ (l.drop (1 + ((l.drop 1).take (runN (l.drop 1))).length)).getD 0 0 = 62 := by
    have hx : ((l.drop 1).take (runN (l.drop 1))).length ≤ l.length - 1 := by rw [List.length_take, List.length_drop]; omega
    generalize ((l.drop 1).take (runN (l.drop 1))).length = x at *
    rcases Nat.lt_or_ge (1 + x) l.length with e | e
    · rw [List.drop_append_of_le_length (by omega)]
      cases hq : l.drop (1 + x) with
      | nil => have := congrArg List.length hq; rw [List.length_drop, List.length_nil] at this; omega
      | cons a t => rfl
    · rw [List.drop_append_of_le_length (by omega), List.drop_of_length_le e]
      simp
  unfold oneL
  rw [fix_line r hl, sgl_line r hl, hd, run_line, run_line, ht1, ht, h0]
  simp only [hv]
end Go.Proofs.YtemacdimdpnkeaaGreatDoor
namespace Go.Proofs.YtemacdimdpnkeaaGreatDoor
set_option maxRecDepth 20000
open Go.Lib
set_option linter.unusedVariables false
theorem hd_word {w : List UInt8} (ho : okR w = true) (hw : w ≠ []) : isW (w.getD 0 0) = false ∧ w.getD 0 0 ≠ 59 := by
  have hm : w.getD 0 0 ∈ w := by cases w with
    | nil => exact absurd rfl hw
    | cons a t => simp
  have hs := ok_mem ho hm
  generalize w.getD 0 0 = b at *
  constructor
  · unfold isW
    rw [Bool.eq_false_iff]
    intro h
    simp only [Bool.or_eq_true, beq_iff_eq] at h
    rcases h with ((h | h) | h) | h <;> (subst h; revert hs; decide)
  · intro h; subst h; revert hs; decide
theorem hd_tok {t : Tk} (h : IsTok t) : txtL t ≠ [] ∧ isW ((txtL t).getD 0 0) = false ∧ (txtL t).getD 0 0 ≠ 59 := by
  cases h with
  | fix k hk => rcases hk with rfl | rfl | rfl | rfl | rfl | rfl | rfl | rfl <;> decide
  | prd p hp => rcases hp with rfl | rfl | rfl | rfl | rfl | rfl <;> decide
  | nam k r hk ho h1 h2 =>
    rcases hk with rfl | rfl
    · exact ⟨by show 94 :: r ≠ []; simp, by show isW 94 = false; decide, by show (94 : UInt8) ≠ 59; decide⟩
    · exact ⟨by show 60 :: (r ++ [62]) ≠ []; simp, by show isW 60 = false; decide, by show (60 : UInt8) ≠ 59; decide⟩
  | val w t h =>
    obtain ⟨ho, h1, h2⟩ := word_ok (par_word (par_text h))
    have hv : txtL t ≠ [] := fun e => by rw [e] at h1; simp at h1
    exact ⟨hv, hd_word ho hv⟩
theorem wh_tok {t : Tk} (h : IsTok t) (r : List UInt8) : whN (txtL t ++ r) = 0 := by
  obtain ⟨h1, h2, h3⟩ := hd_tok h
  have h0 : (txtL t ++ r).getD 0 0 = (txtL t).getD 0 0 := by
    cases hx : txtL t with
    | nil => exact absurd hx h1
    | cons a u => rfl
  rw [wh_step _ (by simp [h1]), h0, if_neg (by rw [h2]; simp), if_neg h3]
def Chain : List Tk → Prop
  | [] => True
  | t :: rest => IsTok t ∧ (t.k = 7 → ∃ u, rest = tok0 0 :: u) ∧ Chain rest
theorem one_not {l : List UInt8} {t : Tk} {n : Nat} (hl : l ≠ []) (h : oneL l = some (t, n)) (h7 : t.k = 7) : n = 1 ∧ ∃ r, l = 45 :: 40 :: r := by
  have hi := (one_is hl h).1
  unfold oneL at h
  split at h
  · rename_i x hx
    obtain rfl := Option.some.inj h
    unfold fixL at hx
    split at hx
    all_goals first
      | (cases hx; done)
      | (simp only [Option.some.injEq, Prod.mk.injEq] at hx
         obtain ⟨rfl, rfl⟩ := hx
         first | exact ⟨rfl, _, rfl⟩ | (exfalso; revert h7; decide))
  · simp only at h
    split at h
    · split at h
      · cases h
      · simp only [Option.some.injEq, Prod.mk.injEq] at h
        obtain ⟨rfl, rfl⟩ := h
        exact absurd h7 (by show ¬ (9 : Int) = 7; decide)
    · split at h
      · rename_i x hx
        obtain rfl := Option.some.inj h
        unfold sglL at hx
        split at hx
        all_goals first
          | (cases hx; done)
          | (simp only [Option.some.injEq, Prod.mk.injEq] at hx
             obtain ⟨rfl, rfl⟩ := hx
             exfalso; revert h7; decide)
      · split at h
        · split at h
          · cases h
          · simp only [Option.some.injEq, Prod.mk.injEq] at h
            obtain ⟨rfl, rfl⟩ := h
            exact absurd h7 (by show ¬ (8 : Int) = 7; decide)
        · split at h
          · cases h
          · rename_i t' hp
            simp only [Option.some.injEq, Prod.mk.injEq] at h
            obtain ⟨rfl, rfl⟩ := h
            have := par_kind hp
            omega
theorem scan_chain : ∀ (n a : Nat) (l : List UInt8), l.length ≤ n → Chain ((scanGo n a l).1.map Prod.fst)
  | 0, a, l, h => trivial
  | n + 1, a, l, h => by
    by_cases hl : l = []
    · subst hl; rw [scanGo_nil]; trivial
    · simp only [scanGo, if_neg hl]
      cases ho : oneL l with
      | none => trivial
      | some x =>
        obtain ⟨t, k⟩ := x
        obtain ⟨i1, i2, i3, -⟩ := one_is hl ho
        have ih := scan_chain n (a + k + whN (l.drop k)) ((l.drop k).drop (whN (l.drop k))) (by rw [List.length_drop, List.length_drop]; omega)
        simp only [List.map_cons]
        refine ⟨i1, fun h7 => ?_, ih⟩
        obtain ⟨rfl, r, rfl⟩ := one_not hl ho h7
        have hw : whN (40 :: r) = 0 := by rw [wh_step _ (by simp)]; exact (if_neg (show ¬ isW 40 = true by decide)).trans (if_neg (show ¬ (40 : UInt8) = 59 by decide))
        show ∃ u, ((scanGo n (a + 1 + whN (40 :: r)) ((40 :: r).drop (whN (40 :: r)))).1).map Prod.fst = tok0 0 :: u
        rw [hw]
        obtain ⟨m, rfl⟩ : ∃ m, n = m + 1 := ⟨n - 1, by simp at h; omega⟩
        show ∃ u, ((scanGo (m + 1) _ (40 :: r)).1).map Prod.fst = tok0 0 :: u
        rw [scanGo, if_neg (by simp), show oneL (40 :: r) = some (tok0 0, 1) from one_fix rfl]
        exact ⟨_, rfl⟩
end Go.Proofs.YtemacdimdpnkeaaGreatDoor
namespace Go.Proofs.YtemacdimdpnkeaaGreatDoor
set_option maxRecDepth 20000
open Go.Lib
set_option linter.unusedVariables false
abbrev Str := List UInt8
structure VD where
  k : Int
  n : Int
  s : Str
deriving DecidableEq
structure TestD where
  p : Int
  v : Str
  x : VD
deriving DecidableEq
structure AttrD where
  a : Str
  ones : List VD
  tests : List TestD
deriving DecidableEq
structure CondD where
  neg : Bool
  c : Str
  attrs : List AttrD
deriving DecidableEq
structure ItemD where
  k : Int
  x : VD
  v : Str
deriving DecidableEq
structure SetD where
  a : Str
  e : List ItemD
deriving DecidableEq
structure ActD where
  k : Int
  c : Str
  n : Int
  v : Str
  sets : List SetD
  exprs : List (List ItemD)
deriving DecidableEq
structure RuleD where
  nm : Str
  conds : List CondD
  acts : List ActD
deriving DecidableEq
structure ClassD where
  nm : Str
  attrs : List Str
deriving DecidableEq
structure ProgD where
  cs : List ClassD
  rs : List RuleD
deriving DecidableEq
def v0 : VD := ⟨0, 0, []⟩
def vdT (t : Tk) : VD := ⟨t.vk, t.vn, t.vs⟩

abbrev Rdr (α : Type) := List Tk → Option (α × List Tk)
def isK (k : Int) : List Tk → Bool
  | t :: _ => decide (t.k = k)
  | [] => false
def nxt (k : Int) : Rdr Tk
  | t :: r => if t.k = k then some (t, r) else none
  | [] => none
def thn {α β : Type} (f : Rdr α) (g : α → Rdr β) : Rdr β := fun l => match f l with
  | none => none
  | some (a, r) => g a r
def ret {α : Type} (a : α) : Rdr α := fun l => some (a, l)
def bad {α : Type} : Rdr α := fun _ => none
def nameR : Rdr Str := thn (nxt 11) fun t => if t.vk = 2 then ret t.vs else bad
def numR : Rdr Int := thn (nxt 11) fun t => if t.vk = 1 then ret t.vn else bad
def varR (p : Int) : Rdr TestD := fun l => if isK 9 l = true then thn (nxt 9) (fun t => ret ⟨p, t.nm, v0⟩) l else thn (nxt 11) (fun t => ret ⟨p, [], vdT t⟩) l
def singleR : Rdr TestD := fun l => if isK 10 l = true then thn (nxt 10) (fun t => varR t.p) l else varR 0 l
def whileR {α : Type} (k : Int) (f : Rdr α) : Nat → Rdr (List α)
  | 0, _ => none
  | n + 1, l => if isK k l = true then thn f (fun a => thn (whileR k f n) fun as_ => ret (a :: as_)) l else some ([], l)
def untilR {α : Type} (k : Int) (f : Rdr α) : Nat → Rdr (List α)
  | 0, _ => none
  | n + 1, l => thn f (fun a r => if isK k r = true then some ([a], r) else thn (untilR k f n) (fun as_ => ret (a :: as_)) r) l
def valR : Rdr VD := thn (nxt 11) fun t => ret (vdT t)
def askR (a : Str) : Rdr AttrD := fun l =>
  if isK 4 l = true then thn (nxt 4) (fun _ r => thn (thn valR fun v => thn (whileR 11 valR (r.length + 1)) fun vs => ret (v :: vs)) (fun vs => thn (nxt 5) fun _ => ret ⟨a, vs, []⟩) r) l
  else if isK 2 l = true then thn (nxt 2) (fun _ r => thn (untilR 3 singleR (r.length + 1)) (fun xs => thn (nxt 3) fun _ => ret ⟨a, [], xs⟩) r) l
  else thn singleR (fun x => ret ⟨a, [], [x]⟩) l
def attrR : Rdr AttrD := thn (nxt 8) fun t => askR t.nm
def cond2R (neg : Bool) : Rdr CondD := thn (nxt 0) fun _ => thn nameR fun c r => thn (whileR 8 attrR (r.length + 1)) (fun as_ => thn (nxt 1) fun _ => ret ⟨neg, c, as_⟩) r
def condR : Rdr CondD := fun l => if isK 7 l = true then thn (nxt 7) (fun _ => cond2R true) l else cond2R false l
def opK (s : Str) : Int := if s = [43] then 2 else if s = [45] then 3 else if s = [42] then 4 else 0
def exprR : Nat → Rdr (List ItemD × Nat)
  | 0, _ => none
  | n + 1, l =>
    if isK 9 l = true then thn (nxt 9) (fun t => ret ([⟨1, v0, t.nm⟩], 0)) l
    else if isK 11 l = true then thn (nxt 11) (fun t => ret ([⟨0, vdT t, []⟩], 0)) l
    else thn (nxt 0) (fun _ => thn nameR fun s => if opK s = 0 then bad else thn (exprR n) fun a => thn (exprR n) fun b => thn (nxt 1) fun _ => ret (a.1 ++ b.1 ++ [⟨opK s, v0, []⟩], 1 + max a.2 b.2)) l
def exR : Rdr (List ItemD × Nat) := fun l => exprR (l.length + 1) l
def setR : Rdr (SetD × Nat) := thn (nxt 8) fun t => thn exR fun x => ret (⟨t.nm, x.1⟩, x.2)
def deepOf (l : List Nat) : Nat := l.foldr max 0
def setsR : Rdr (List SetD × Nat) := fun l => thn (whileR 8 setR (l.length + 1)) (fun xs => ret (xs.map Prod.fst, deepOf (xs.map Prod.snd))) l
def exprsR : Nat → Rdr (List (List ItemD) × Nat)
  | 0, _ => none
  | n + 1, l => if l = [] ∨ isK 1 l = true then some (([], 0), l) else thn exR (fun x => thn (exprsR n) fun y => ret (x.1 :: y.1, max x.2 y.2)) l
def sMake : Str := [109, 97, 107, 101]
def sModify : Str := [109, 111, 100, 105, 102, 121]
def sRemove : Str := [114, 101, 109, 111, 118, 101]
def sBind : Str := [98, 105, 110, 100]
def sWrite : Str := [119, 114, 105, 116, 101]
def sHalt : Str := [104, 97, 108, 116]
def sLit : Str := [108, 105, 116, 101, 114, 97, 108, 105, 122, 101]
def sP : Str := [112]
def bodyR (s : Str) : Rdr (ActD × Nat) :=
  if s = sMake then thn nameR fun c => thn setsR fun x => ret (⟨0, c, 0, [], x.1, []⟩, x.2)
  else if s = sModify then thn numR fun n => thn setsR fun x => ret (⟨1, [], n, [], x.1, []⟩, x.2)
  else if s = sRemove then thn numR fun n => ret (⟨2, [], n, [], [], []⟩, 0)
  else if s = sBind then thn (nxt 9) fun t => thn exR fun x => ret (⟨3, [], 0, t.nm, [], [x.1]⟩, x.2)
  else if s = sWrite then fun l => thn (exprsR (l.length + 1)) (fun x => ret (⟨4, [], 0, [], [], x.1⟩, x.2)) l
  else if s = sHalt then ret (⟨5, [], 0, [], [], []⟩, 0)
  else bad
def actR : Rdr (ActD × Nat) := thn (nxt 0) fun _ => thn nameR fun s => thn (bodyR s) fun x => thn (nxt 1) fun _ => ret x
def ruleR : Rdr (RuleD × Nat) := thn nameR fun nm => thn (fun l => untilR 6 condR (l.length + 1) l) fun cs => thn (nxt 6) fun _ => thn (fun l => whileR 0 actR (l.length + 1) l) fun xs => thn (nxt 1) fun _ => ret (⟨nm, cs, xs.map Prod.fst⟩, deepOf (xs.map Prod.snd))
def classR : Rdr ClassD := thn nameR fun nm => thn (fun l => untilR 1 nameR (l.length + 1) l) fun as_ => thn (nxt 1) fun _ => ret ⟨nm, as_⟩
inductive Top
  | cls (c : ClassD)
  | rul (r : RuleD) (d : Nat)
deriving DecidableEq
def topR : Rdr Top := thn (nxt 0) fun _ => thn nameR fun s => if s = sLit then thn classR fun c => ret (.cls c) else if s = sP then thn ruleR fun r => ret (.rul r.1 r.2) else bad
def topsR : Nat → List Tk → Option (List Top)
  | 0, _ => none
  | n + 1, l => if l = [] then some [] else match topR l with
    | none => none
    | some (x, r) => (topsR n r).map (x :: ·)
def topsL (l : List Tk) : Option (List Top) := topsR (l.length + 1) l

def Eats {α : Type} (m : Nat) (f : Rdr α) : Prop := ∀ l x r, f l = some (x, r) → ∃ c, l = c ++ r ∧ m ≤ c.length
theorem isK_app {k : Int} {l : List Tk} (h : l ≠ []) (m : List Tk) : isK k (l ++ m) = isK k l := by
  cases l with
  | nil => exact absurd rfl h
  | cons a t => rfl
theorem nxt_eats (k : Int) : Eats 1 (nxt k) := by
  intro l x r h
  cases l with
  | nil => cases h
  | cons a t =>
    change (if a.k = k then some (a, t) else none) = some (x, r) at h
    split at h
    · obtain ⟨rfl, rfl⟩ := Prod.mk.inj (Option.some.inj h)
      exact ⟨[a], rfl, Nat.le_refl _⟩
    · cases h
theorem ret_eats {α : Type} (a : α) : Eats 0 (ret a) := by
  intro l x r h
  obtain ⟨rfl, rfl⟩ := Prod.mk.inj (Option.some.inj h)
  exact ⟨[], rfl, Nat.le_refl _⟩
theorem bad_eats {α : Type} (m : Nat) : Eats m (bad : Rdr α) := fun l x r h => by cases h
theorem thn_is {α β : Type} {f : Rdr α} {g : α → Rdr β} {l : List Tk} {y : β} {r : List Tk} (h : thn f g l = some (y, r)) : ∃ a s, f l = some (a, s) ∧ g a s = some (y, r) := by
  unfold thn at h
  split at h
  · cases h
  · rename_i a s e; exact ⟨a, s, e, h⟩
theorem thn_of {α β : Type} {f : Rdr α} {g : α → Rdr β} {l : List Tk} {a : α} {s : List Tk} (e : f l = some (a, s)) : thn f g l = g a s := by unfold thn; rw [e]
theorem thn_eats {α β : Type} {m k : Nat} {f : Rdr α} {g : α → Rdr β} (hf : Eats m f) (hg : ∀ a, Eats k (g a)) : Eats (m + k) (thn f g) := by
  intro l y r h
  obtain ⟨a, s, h1, h2⟩ := thn_is h
  obtain ⟨c, rfl, hc⟩ := hf _ _ _ h1
  obtain ⟨d, rfl, hd⟩ := hg a _ _ _ h2
  exact ⟨c ++ d, by simp, by rw [List.length_append]; omega⟩
theorem Eats.less {α : Type} {m k : Nat} {f : Rdr α} (h : Eats m f) (hk : k ≤ m) : Eats k f := fun l x r e => by
  obtain ⟨c, h1, h2⟩ := h l x r e; exact ⟨c, h1, Nat.le_trans hk h2⟩
theorem Eats.len {α : Type} {m : Nat} {f : Rdr α} (h : Eats m f) {l : List Tk} {x : α} {r : List Tk} (e : f l = some (x, r)) : r.length + m ≤ l.length := by
  obtain ⟨c, rfl, hc⟩ := h _ _ _ e
  rw [List.length_append]; omega
theorem if_eats {α : Type} {k : Int} {m : Nat} {f g : Rdr α} (hf : Eats m f) (hg : Eats m g) : Eats m (fun l => if isK k l = true then f l else g l) := by
  intro l x r h
  dsimp only at h
  split at h
  · exact hf _ _ _ h
  · exact hg _ _ _ h
theorem ite_eats {α : Type} {c : Prop} [Decidable c] {m : Nat} {f g : Rdr α} (hf : Eats m f) (hg : Eats m g) : Eats m (if c then f else g) := by split <;> assumption
theorem nameR_eats : Eats 1 nameR := thn_eats (nxt_eats _) fun t => ite_eats (ret_eats _) (bad_eats _)
theorem numR_eats : Eats 1 numR := thn_eats (nxt_eats _) fun t => ite_eats (ret_eats _) (bad_eats _)
theorem varR_eats (p : Int) : Eats 1 (varR p) := if_eats (thn_eats (nxt_eats _) fun t => ret_eats _) (thn_eats (nxt_eats _) fun t => ret_eats _)
theorem singleR_eats : Eats 1 singleR := if_eats ((thn_eats (nxt_eats _) fun t => varR_eats _).less (by decide)) (varR_eats 0)
theorem valR_eats : Eats 1 valR := thn_eats (nxt_eats _) fun t => ret_eats _
theorem whileR_eats {α : Type} {k : Int} {f : Rdr α} (hf : Eats 1 f) : ∀ n, Eats 0 (whileR k f n)
  | 0 => fun l x r h => by cases h
  | n + 1 => fun l x r h => by
    unfold whileR at h
    split at h
    · exact (thn_eats hf fun a => thn_eats (whileR_eats hf n) fun as_ => ret_eats _).less (Nat.zero_le _) _ _ _ h
    · obtain ⟨rfl, rfl⟩ := Prod.mk.inj (Option.some.inj h); exact ⟨[], rfl, Nat.le_refl _⟩
theorem whileR_fuel {α : Type} {k : Int} {f : Rdr α} (hf : Eats 1 f) : ∀ (n m : Nat) (l : List Tk), l.length < n → l.length < m → whileR k f n l = whileR k f m l
  | 0, m, l, h, _ => by omega
  | n + 1, 0, l, _, h => by omega
  | n + 1, m + 1, l, h1, h2 => by
    unfold whileR
    split
    · unfold thn
      cases e : f l with
      | none => rfl
      | some x =>
        obtain ⟨a, r⟩ := x
        have := hf.len e
        dsimp only
        rw [whileR_fuel hf n m r (by omega) (by omega)]
    · rfl
theorem untilR_eats {α : Type} {k : Int} {f : Rdr α} (hf : Eats 1 f) : ∀ n, Eats 1 (untilR k f n)
  | 0 => fun l x r h => by cases h
  | n + 1 => fun l x r h => by
    unfold untilR at h
    obtain ⟨a, s, h1, h2⟩ := thn_is h
    obtain ⟨c, rfl, hc⟩ := hf _ _ _ h1
    split at h2
    · obtain ⟨_, rfl⟩ := Prod.mk.inj (Option.some.inj h2); exact ⟨c, rfl, hc⟩
    · obtain ⟨d, rfl, hd⟩ := (thn_eats (untilR_eats hf n) fun as_ => ret_eats _) _ _ _ h2
      exact ⟨c ++ d, by simp, by rw [List.length_append]; omega⟩
theorem wh_eats {α : Type} {k : Int} {f : Rdr α} (he : Eats 1 f) : Eats 0 (fun l => whileR k f (l.length + 1) l) := fun l x r h => whileR_eats he _ _ _ _ h
theorem un_eats {α : Type} {k : Int} {f : Rdr α} (he : Eats 1 f) : Eats 1 (fun l => untilR k f (l.length + 1) l) := fun l x r h => untilR_eats he _ _ _ _ h
end Go.Proofs.YtemacdimdpnkeaaGreatDoor
namespace Go.Proofs.YtemacdimdpnkeaaGreatDoor
set_option maxRecDepth 20000
open Go.Lib
set_option linter.unusedVariables false
theorem ones_same (a : Str) : (fun r : List Tk => thn (thn valR fun v => thn (whileR 11 valR (r.length + 1)) fun vs => ret (v :: vs)) (fun vs => thn (nxt 5) fun _ => ret (⟨a, vs, []⟩ : AttrD)) r) = thn (thn valR fun v => thn (fun l => whileR 11 valR (l.length + 1) l) fun vs => ret (v :: vs)) (fun vs => thn (nxt 5) fun _ => ret (⟨a, vs, []⟩ : AttrD)) := by
  funext r
  unfold thn
  cases e : valR r with
  | none => rfl
  | some x =>
    obtain ⟨v, s⟩ := x
    have := valR_eats.len e
    dsimp only
    rw [whileR_fuel valR_eats (r.length + 1) (s.length + 1) s (by omega) (by omega)]
theorem askR_eats (a : Str) : Eats 1 (askR a) := by
  refine if_eats ?_ (if_eats ?_ ?_)
  · refine (thn_eats (k := 0) (nxt_eats 4) fun _ => ?_)
    rw [ones_same]
    exact (thn_eats (thn_eats valR_eats fun v => thn_eats (wh_eats valR_eats) fun vs => ret_eats _) fun vs => thn_eats (nxt_eats _) fun _ => ret_eats _).less (Nat.zero_le _)
  · refine (thn_eats (k := 0) (nxt_eats 2) fun _ => ?_)
    exact (thn_eats (un_eats singleR_eats) fun xs => thn_eats (nxt_eats _) fun _ => ret_eats _).less (Nat.zero_le _)
  · exact thn_eats singleR_eats fun x => ret_eats _
theorem attrR_eats : Eats 1 attrR := (thn_eats (nxt_eats _) fun t => askR_eats _).less (by decide)
theorem cond2R_eats (b : Bool) : Eats 1 (cond2R b) := by
  refine (thn_eats (k := 0) (nxt_eats 0) fun _ => ?_)
  exact (thn_eats nameR_eats fun c => thn_eats (wh_eats attrR_eats) fun as_ => thn_eats (nxt_eats _) fun _ => ret_eats _).less (Nat.zero_le _)
theorem condR_eats : Eats 1 condR := if_eats ((thn_eats (nxt_eats _) fun _ => cond2R_eats _).less (by decide)) (cond2R_eats _)
theorem exprR_eats : ∀ n, Eats 1 (exprR n)
  | 0 => fun l x r h => by cases h
  | n + 1 => by
    refine if_eats (thn_eats (nxt_eats _) fun t => ret_eats _) (if_eats (thn_eats (nxt_eats _) fun t => ret_eats _) ?_)
    refine (thn_eats (k := 0) (nxt_eats 0) fun _ => ?_)
    refine (thn_eats (k := 0) nameR_eats fun s => ?_).less (Nat.zero_le _)
    refine ite_eats (bad_eats _) ?_
    exact (thn_eats (exprR_eats n) fun a => thn_eats (exprR_eats n) fun b => thn_eats (nxt_eats _) fun _ => ret_eats _).less (Nat.zero_le _)
theorem exR_eats : Eats 1 exR := fun l x r h => exprR_eats _ _ _ _ h
theorem setR_eats : Eats 1 setR := (thn_eats (nxt_eats _) fun t => thn_eats exR_eats fun x => ret_eats _).less (by decide)
theorem setsR_eats : Eats 0 setsR := thn_eats (wh_eats setR_eats) fun xs => ret_eats _
theorem exprsR_eats : ∀ n, Eats 0 (exprsR n)
  | 0 => fun l x r h => by cases h
  | n + 1 => fun l x r h => by
    unfold exprsR at h
    split at h
    · obtain ⟨rfl, rfl⟩ := Prod.mk.inj (Option.some.inj h); exact ⟨[], rfl, Nat.le_refl _⟩
    · exact (thn_eats exR_eats fun a => thn_eats (exprsR_eats n) fun b => ret_eats _).less (Nat.zero_le _) _ _ _ h
theorem bodyR_eats (s : Str) : Eats 0 (bodyR s) := by
  unfold bodyR
  refine ite_eats ?_ (ite_eats ?_ (ite_eats ?_ (ite_eats ?_ (ite_eats ?_ (ite_eats ?_ (bad_eats _))))))
  · exact (thn_eats nameR_eats fun c => thn_eats setsR_eats fun x => ret_eats _).less (Nat.zero_le _)
  · exact (thn_eats numR_eats fun c => thn_eats setsR_eats fun x => ret_eats _).less (Nat.zero_le _)
  · exact (thn_eats numR_eats fun c => ret_eats _).less (Nat.zero_le _)
  · exact (thn_eats (nxt_eats _) fun c => thn_eats exR_eats fun x => ret_eats _).less (Nat.zero_le _)
  · exact thn_eats (f := fun l => exprsR (l.length + 1) l) (fun l x r h => exprsR_eats _ _ _ _ h) fun x => ret_eats _
  · exact ret_eats _
theorem actR_eats : Eats 1 actR := by
  refine (thn_eats (k := 0) (nxt_eats 0) fun _ => ?_)
  exact (thn_eats nameR_eats fun s => thn_eats (bodyR_eats s) fun x => thn_eats (nxt_eats _) fun _ => ret_eats _).less (Nat.zero_le _)
theorem ruleR_eats : Eats 1 ruleR := by
  refine (thn_eats (k := 0) nameR_eats fun _ => ?_)
  exact (thn_eats (un_eats condR_eats) fun s => thn_eats (nxt_eats _) fun x => thn_eats (wh_eats actR_eats) fun _ => thn_eats (nxt_eats _) fun _ => ret_eats _).less (Nat.zero_le _)
theorem classR_eats : Eats 1 classR := by
  refine (thn_eats (k := 0) nameR_eats fun _ => ?_)
  exact (thn_eats (un_eats nameR_eats) fun s => thn_eats (nxt_eats _) fun _ => ret_eats _).less (Nat.zero_le _)
theorem topR_eats : Eats 2 topR := by
  refine thn_eats (k := 1) (nxt_eats 0) fun _ => ?_
  refine thn_eats (k := 0) nameR_eats fun s => ?_
  exact ite_eats ((thn_eats classR_eats fun c => ret_eats _).less (Nat.zero_le _)) (ite_eats ((thn_eats ruleR_eats fun c => ret_eats _).less (Nat.zero_le _)) (bad_eats _))
theorem topsR_fuel : ∀ (n m : Nat) (l : List Tk), l.length < n → l.length < m → topsR n l = topsR m l
  | 0, m, l, h, _ => by omega
  | n + 1, 0, l, _, h => by omega
  | n + 1, m + 1, l, h1, h2 => by
    unfold topsR
    split
    · rfl
    · cases e : topR l with
      | none => rfl
      | some x =>
        obtain ⟨a, r⟩ := x
        have := topR_eats.len e
        dsimp only
        rw [topsR_fuel n m r (by omega) (by omega)]
theorem tops_nil : topsL [] = some [] := rfl
theorem tops_cons {l : List Tk} (hl : l ≠ []) : topsL l = match topR l with
    | none => none
    | some (x, r) => (topsL r).map (x :: ·) := by
  unfold topsL
  conv => lhs; unfold topsR
  rw [if_neg hl]
  cases e : topR l with
  | none => rfl
  | some x =>
    obtain ⟨a, r⟩ := x
    have := topR_eats.len e
    dsimp only
    rw [topsR_fuel l.length (r.length + 1) r (by omega) (by omega)]
def overA (as_ : List AttrD) : Bool := as_.any fun a => decide (6 < as_.length ∨ 8 < a.ones.length ∨ 8 < a.tests.length)
def overB (r : RuleD) : Bool := decide (5 < r.conds.length ∨ 8 < r.acts.length) || (r.conds.any (fun c => overA c.attrs) || r.acts.any fun a => decide (6 < a.sets.length ∨ 8 < a.exprs.length))
def limB : Top → Bool
  | .cls c => decide (6 < c.attrs.length)
  | .rul r d => overB r || decide (8 < d)
def clsOf : List Top → List ClassD
  | [] => []
  | .cls c :: r => c :: clsOf r
  | .rul _ _ :: r => clsOf r
def rulOf : List Top → List RuleD
  | [] => []
  | .cls _ :: r => rulOf r
  | .rul x _ :: r => x :: rulOf r
theorem cls_app (a b : List Top) : clsOf (a ++ b) = clsOf a ++ clsOf b := by
  induction a with
  | nil => rfl
  | cons x r ih => cases x <;> simp [clsOf, ih]
theorem rul_app (a b : List Top) : rulOf (a ++ b) = rulOf a ++ rulOf b := by
  induction a with
  | nil => rfl
  | cons x r ih => cases x <;> simp [rulOf, ih]
def tooB (ts : List Top) : Bool := ts.any limB || decide (16 < (clsOf ts).length ∨ 16 < (rulOf ts).length)
def p0 : ProgD := ⟨[], []⟩
def parT (l : List Tk) : ProgD × Nat := match topsL l with
  | none => (p0, 17)
  | some ts => if tooB ts = true then (p0, 21) else (⟨clsOf ts, rulOf ts⟩, 0)
def parP (l : List UInt8) : ProgD × Nat := if (scanL l).2.2 ≠ 0 then (p0, (scanL l).2.2) else parT ((scanL l).1.map Prod.fst)
theorem parT_ok {l : List Tk} (h : (parT l).2 = 0) : ∃ ts, topsL l = some ts ∧ tooB ts = false ∧ parT l = (⟨clsOf ts, rulOf ts⟩, 0) := by
  unfold parT at h ⊢
  cases e : topsL l with
  | none => rw [e] at h; cases h
  | some ts =>
    rw [e] at h
    dsimp only at h ⊢
    split at h
    · cases h
    · rename_i hb
      exact ⟨ts, rfl, by simpa using hb, if_neg hb⟩
end Go.Proofs.YtemacdimdpnkeaaGreatDoor
namespace Go.Proofs.YtemacdimdpnkeaaGreatDoor
set_option maxRecDepth 20000
open Go.Lib
set_option linter.unusedVariables false
theorem bad_nlC {l : List UInt8} (r : List UInt8) (hne : l ≠ []) : badR (l ++ 41 :: r) = badR l := by
  cases hb : badR l with
  | false => rw [bad_same (dec_app _ hne hb)]; exact hb
  | true =>
    cases hx : badR (l ++ 41 :: r) with
    | true => rfl
    | false =>
      have hn2 : l ++ 41 :: r ≠ [] := by simp
      by_cases hk : (decodeL (l ++ 41 :: r)).2 ≤ l.length
      · have := dec_same (m := l) hn2 hx (fun i hi => by rw [List.getElem?_append_left (by omega)])
        rw [bad_same this, hx] at hb; cases hb
      · have hl1 : 0 < l.length := List.length_pos_iff.2 hne
        have := dec_hi2 hn2 hx (by omega) l.length (by omega)
        rw [List.getD_eq_getElem?_getD, List.getElem?_append_right (Nat.le_refl _), Nat.sub_self] at this
        simp at this
theorem run_nlC : ∀ (n : Nat) (l r : List UInt8), l.length ≤ n → runN (l ++ 41 :: r) = runN l
  | 0, l, r, h => by
    have : l = [] := List.length_eq_zero_iff.1 (by omega)
    subst this
    exact runN_stop (.inr (by rw [List.nil_append, decodeL_ascii 41 r (by decide)]; decide))
  | n + 1, l, r, h => by
    by_cases hl : l = []
    · subst hl
      exact runN_stop (.inr (by rw [List.nil_append, decodeL_ascii 41 r (by decide)]; decide))
    have hbn := bad_nlC r hl
    by_cases hb : badR l = true
    · rw [runN_stop (.inl hb), runN_stop (.inl (hbn.trans hb))]
    · have hb1 : badR l = false := by cases hx : badR l; rfl; exact absurd hx hb
      have ha := dec_app (41 :: r) hl hb1
      cases hs : stands (decodeL l).1 with
      | false => rw [runN_stop (.inr hs), runN_stop (.inr (by rw [ha]; exact hs))]
      | true =>
        have hd := drop_lt l hl
        have hk := decodeL_le l hl
        rw [runN_step hl hb1 hs, runN_step (by simp) (hbn.trans hb1) (by rw [ha]; exact hs), ha, List.drop_append_of_le_length hk, run_nlC n _ r (by omega)]
theorem run_lineC (l r : List UInt8) : runN (l ++ 41 :: r) = runN l := run_nlC l.length l r (Nat.le_refl _)
theorem fix_lineC {l : List UInt8} (r : List UInt8) (hl : l ≠ []) : fixL (l ++ 41 :: r) = fixL l := by
  match l, hl with
  | [a], _ =>
    show fixL (a :: 41 :: r) = fixL [a]
    unfold fixL
    split <;> simp_all
  | [a, b], _ =>
    show fixL (a :: b :: 41 :: r) = fixL [a, b]
    unfold fixL
    split <;> simp_all
  | a :: b :: c :: t, _ =>
    exact fix3 a b c _ _
theorem sgl_lineC {l : List UInt8} (r : List UInt8) (hl : l ≠ []) : sglL (l ++ 41 :: r) = sglL l := by
  match l, hl with
  | a :: t, _ =>
    show sglL (a :: (t ++ 41 :: r)) = sglL (a :: t)
    unfold sglL
    split <;> simp_all
theorem one_lineC {l : List UInt8} (r : List UInt8) (hl : l ≠ []) : oneL (l ++ 41 :: r) = oneL l := by
  have hl1 : 0 < l.length := List.length_pos_iff.2 hl
  have hd : (l ++ 41 :: r).drop 1 = l.drop 1 ++ 41 :: r := List.drop_append_of_le_length (by omega)
  have h0 : (l ++ 41 :: r).getD 0 0 = l.getD 0 0 := by
    cases l with
    | nil => exact absurd rfl hl
    | cons a t => rfl
  have hr1 := (run_front (l.drop 1)).1
  have hr := (run_front l).1
  have ht1 : (l.drop 1 ++ 41 :: r).take (runN (l.drop 1)) = (l.drop 1).take (runN (l.drop 1)) := List.take_append_of_le_length hr1
  have ht : (l ++ 41 :: r).take (runN l) = l.take (runN l) := List.take_append_of_le_length hr
  have hv : ((l ++ 41 :: r).drop (1 + ((l.drop 1).take (runN (l.drop 1))).length)).getD 0 0 = 62 ↔ (l.drop (1 + ((l.drop 1).take (runN (l.drop 1))).length)).getD 0 0 = 62 := by
    have hx : ((l.drop 1).take (runN (l.drop 1))).length ≤ l.length - 1 := by rw [List.length_take, List.length_drop]; omega
    generalize ((l.drop 1).take (runN (l.drop 1))).length = x at *
    rcases Nat.lt_or_ge (1 + x) l.length with e | e
    · rw [List.drop_append_of_le_length (by omega)]
      cases hq : l.drop (1 + x) with
      | nil => have := congrArg List.length hq; rw [List.length_drop, List.length_nil] at this; omega
      | cons a t => rfl
    · rw [List.drop_append_of_le_length (by omega), List.drop_of_length_le e]
      simp
  unfold oneL
  rw [fix_lineC r hl, sgl_lineC r hl, hd, run_lineC, run_lineC, ht1, ht, h0]
  simp only [hv]
theorem fix_word10 {w r : List UInt8} (ho : okR w = true) (hw : w ≠ []) : fixL (w ++ 10 :: r) = none := by
  obtain ⟨h1, h2, h3, h4, h5, h6, h7, h8, h9, h10⟩ := no_sign ho
  match w, hw with
  | [a], _ =>
    simp at h1 h2 h3 h4 h5 h6 h7 h8 h9 h10
    show fixL (a :: 10 :: r) = none
    unfold fixL
    split <;> simp_all
  | [a, b], _ =>
    simp at h1 h2 h3 h4 h5 h6 h7 h8 h9 h10
    show fixL (a :: b :: 10 :: r) = none
    unfold fixL
    split <;> simp_all
  | a :: b :: c :: t, _ =>
    simp at h1 h2 h3 h4 h5 h6 h7 h8 h9 h10
    show fixL (a :: b :: c :: (t ++ 10 :: r)) = none
    unfold fixL
    split <;> simp_all
theorem run_blank10 (r : List UInt8) : runN (10 :: r) = 0 := runN_stop (.inr (by rw [decodeL_ascii 10 r (by decide)]; decide))
theorem ends_blank10 (r : List UInt8) : ends (10 :: r) := ends_ascii 10 r (by decide) (by decide)
theorem back_val10 {w : List UInt8} {t : Tk} (h : parL w = some t) (r : List UInt8) : oneL (txtL t ++ 10 :: r) = some (t, (txtL t).length) := by
  have hp := par_text h
  obtain ⟨ho, h1, h2⟩ := word_ok (par_word hp)
  generalize txtL t = v at *
  have hv : v ≠ [] := fun e => by subst e; simp at h1
  obtain ⟨n1, n2, n3, n4, n5, n6, n7, n8, n9, n10⟩ := no_sign ho
  have hr : runN (v ++ 10 :: r) = v.length := run_is ho (ends_blank10 r)
  have hh : (v ++ 10 :: r).getD 0 0 ∈ v := by
    cases v with
    | nil => exact absurd rfl hv
    | cons a t => simp
  have g60 : ¬ (v ++ 10 :: r).getD 0 0 = 60 := fun e => n5 (by rw [← e]; exact hh)
  have g94 : ¬ (v ++ 10 :: r).getD 0 0 = 94 := fun e => n8 (by rw [← e]; exact hh)
  unfold oneL
  rw [fix_word10 ho hv, sgl_word ho hv]
  simp only
  rw [if_neg (by intro h; exact g60 h.1), if_neg g94, hr, List.take_append_of_le_length (Nat.le_refl _), List.take_of_length_le (Nat.le_refl _), hp]
theorem back_one10 {t : Tk} (h : IsTok t) (h7 : t.k ≠ 7) (r : List UInt8) : oneL (txtL t ++ 10 :: r) = some (t, (txtL t).length) := by
  cases h with
  | fix k hk =>
    rcases hk with rfl | rfl | rfl | rfl | rfl | rfl | rfl | rfl
    all_goals first | exact one_fix rfl | exact absurd rfl h7
  | prd p hp =>
    rcases hp with rfl | rfl | rfl | rfl | rfl | rfl
    · show oneL (61 :: 10 :: r) = _
      unfold oneL
      rw [show fixL (61 :: 10 :: r) = none from rfl]
      simp only [List.drop_succ_cons, List.drop_zero, run_blank10, List.take_zero]
      rw [if_neg (by simp)]; rfl
    · exact one_fix rfl
    · show oneL (60 :: 10 :: r) = _
      unfold oneL
      rw [show fixL (60 :: 10 :: r) = none from rfl]
      simp only [List.drop_succ_cons, List.drop_zero, run_blank10, List.take_zero]
      rw [if_neg (by simp)]; rfl
    · exact one_fix rfl
    · show oneL (62 :: 10 :: r) = _
      unfold oneL
      rw [show fixL (62 :: 10 :: r) = none from rfl]
      simp only [List.drop_succ_cons, List.drop_zero, run_blank10, List.take_zero]
      rw [if_neg (by simp)]; rfl
    · exact one_fix rfl
  | val w t h => exact back_val10 h r
  | nam k v hk ho h1 h2 =>
    obtain ⟨n1, n2, n3, n4, n5, n6, n7, n8, n9, n10⟩ := no_sign ho
    have hv : v ≠ [] := fun e => by subst e; simp at h1
    rcases hk with rfl | rfl
    · show oneL (94 :: (v ++ 10 :: r)) = some (tokN 8 v, (94 :: v).length)
      have hf : fixL (94 :: (v ++ 10 :: r)) = none := by unfold fixL; split <;> simp_all
      have hr : runN (v ++ 10 :: r) = v.length := run_is ho (ends_blank10 r)
      unfold oneL
      rw [hf]
      simp only [List.drop_succ_cons, List.drop_zero, hr, List.take_append_of_le_length (Nat.le_refl v.length), List.take_length]
      rw [if_neg (by simp), show sglL (94 :: (v ++ 10 :: r)) = none from rfl]
      simp only
      rw [if_pos (by simp), if_neg (by simp [hv]; omega)]
      simp
    · show oneL (60 :: (v ++ [62] ++ 10 :: r)) = some (tokN 9 v, (60 :: (v ++ [62])).length)
      have ea : v ++ [62] ++ 10 :: r = v ++ 62 :: 10 :: r := by simp
      rw [ea]
      have hf : fixL (60 :: (v ++ 62 :: 10 :: r)) = none := by
        match v, hv with
        | a :: t, _ =>
          simp at n1 n2 n3 n4 n5 n6 n7 n8 n9 n10
          show fixL (60 :: a :: (t ++ 62 :: 10 :: r)) = none
          unfold fixL
          split <;> simp_all
      have hr : runN (v ++ 62 :: 10 :: r) = v.length := run_is ho (ends_more _)
      unfold oneL
      rw [hf]
      simp only [List.drop_succ_cons, List.drop_zero, hr, List.take_append_of_le_length (Nat.le_refl v.length), List.take_length]
      rw [if_pos ⟨by simp, hv, by rw [show 1 + v.length = v.length + 1 by omega, List.drop_succ_cons, List.drop_append_of_le_length (Nat.le_refl _), List.drop_length]; rfl⟩, if_neg (by omega)]
      simp
end Go.Proofs.YtemacdimdpnkeaaGreatDoor
namespace Go.Proofs.YtemacdimdpnkeaaGreatDoor
set_option maxRecDepth 20000
open Go.Lib
set_option linter.unusedVariables false
theorem nd_le : ∀ (k u : Nat), u < 10 ^ (k + 1) → nDigits u ≤ k + 1
  | 0, u, h => by rw [nDigits_small (by simpa using h)]; exact Nat.le_refl _
  | k + 1, u, h => by
    by_cases hu : u < 10
    · rw [nDigits_small hu]; omega
    · rw [nDigits_big hu]
      have := nd_le k (u / 10) (by rw [Nat.pow_succ] at h; omega)
      omega
theorem decA_lt : ∀ (l : List UInt8) (a : Nat), l.all isDig = true → decA a l < (a + 1) * 10 ^ l.length
  | [], a, _ => by simp [decA]
  | b :: t, a, h => by
    simp only [List.all_cons, Bool.and_eq_true] at h
    have hb : 48 ≤ b.toNat ∧ b.toNat ≤ 57 := by have := h.1; unfold isDig at this; simpa using this
    have ih := decA_lt t (10 * a + (b.toNat - 48)) h.2
    show decA (10 * a + (b.toNat - 48)) t < (a + 1) * 10 ^ (t.length + 1)
    refine Nat.lt_of_lt_of_le ih ?_
    rw [Nat.pow_succ, Nat.mul_comm (10 ^ t.length) 10, ← Nat.mul_assoc]
    exact Nat.mul_le_mul_right _ (by omega)
theorem strip_cons (a : UInt8) (t : List UInt8) : strip (a :: t) = if isSg a = true then t else a :: t := rfl
theorem num_txt {w : List UInt8} (h : numB w = true) : (itoa (nbV w)).length ≤ w.length := by
  have hne := strip_ne h
  have h1 : 0 < (strip w).length := List.length_pos_iff.2 hne
  have hall : (strip w).all isDig = true := by unfold numB at h; simp only [Bool.and_eq_true] at h; exact h.2
  have hlt : decV w < 10 ^ (strip w).length := by have := decA_lt (strip w) 0 hall; unfold decV; omega
  obtain ⟨k, hk⟩ : ∃ k, (strip w).length = k + 1 := ⟨(strip w).length - 1, by omega⟩
  rw [hk] at hlt
  have hnd := nd_le k _ hlt
  have hsw : (strip w).length ≤ w.length := by
    cases w with
    | nil => exact Nat.le_refl _
    | cons a t => rw [strip_cons]; split <;> simp
  have ha := nb_abs w
  unfold itoa
  split
  · rename_i hn
    have hneg : negB w = true := by
      cases hx : negB w with
      | true => rfl
      | false => unfold nbV at hn; rw [hx] at hn; simp at hn; omega
    have hs2 : w.length = (strip w).length + 1 := by
      cases w with
      | nil => cases hneg
      | cons a t =>
        have : a.toNat = 45 := by unfold negB at hneg; simpa using hneg
        rw [strip_cons, if_pos (by unfold isSg; simp [this])]
        rfl
    rw [List.length_cons, decDigits_length, ha]
    omega
  · rename_i hn
    rw [decDigits_length, show (nbV w).toNat = decV w by omega]
    omega
theorem txt_len {l : List UInt8} {t : Tk} {n : Nat} (hl : l ≠ []) (h : oneL l = some (t, n)) : (txtL t).length ≤ n := by
  obtain ⟨i1, i2, i3, i4⟩ := one_is hl h
  by_cases hk : t.k ≠ 11 ∨ t.vk ≠ 1
  · rw [← i4 hk, List.length_take]; omega
  · have hk11 : t.k = 11 := by rcases Int.decEq t.k 11 with e | e; exact absurd (.inl e) hk; exact e
    have hk1 : t.vk = 1 := by rcases Int.decEq t.vk 1 with e | e; exact absurd (.inr e) hk; exact e
    have hpar : ∃ w, parL w = some t ∧ w.length = n := by
      unfold oneL at h
      split at h
      · rename_i x hx
        obtain rfl := Option.some.inj h
        unfold fixL at hx
        split at hx
        all_goals first
          | (cases hx; done)
          | (simp only [Option.some.injEq, Prod.mk.injEq] at hx
             obtain ⟨rfl, rfl⟩ := hx
             exfalso; revert hk11; decide)
      · simp only at h
        split at h
        · split at h
          · cases h
          · simp only [Option.some.injEq, Prod.mk.injEq] at h
            obtain ⟨rfl, rfl⟩ := h
            exact absurd hk11 (by show ¬ (9 : Int) = 11; decide)
        · split at h
          · rename_i x hx
            obtain rfl := Option.some.inj h
            unfold sglL at hx
            split at hx
            all_goals first
              | (cases hx; done)
              | (simp only [Option.some.injEq, Prod.mk.injEq] at hx
                 obtain ⟨rfl, rfl⟩ := hx
                 exfalso; revert hk11; decide)
          · split at h
            · split at h
              · cases h
              · simp only [Option.some.injEq, Prod.mk.injEq] at h
                obtain ⟨rfl, rfl⟩ := h
                exact absurd hk11 (by show ¬ (8 : Int) = 11; decide)
            · split at h
              · cases h
              · rename_i t' hp
                simp only [Option.some.injEq, Prod.mk.injEq] at h
                obtain ⟨rfl, rfl⟩ := h
                exact ⟨_, hp, by rw [List.length_take]; omega⟩
    obtain ⟨w, hp, rfl⟩ := hpar
    unfold parL at hp
    split at hp
    · cases hp
    · split at hp
      · obtain rfl := Option.some.inj hp; cases hk1
      · split at hp
        · rename_i hb
          split at hp
          · cases hp
          · obtain rfl := Option.some.inj hp
            exact num_txt hb
        · obtain rfl := Option.some.inj hp; cases hk1
end Go.Proofs.YtemacdimdpnkeaaGreatDoor
namespace Go.Proofs.YtemacdimdpnkeaaGreatDoor
set_option maxRecDepth 20000
open Go.Lib
set_option linter.unusedVariables false
theorem wh_w {b : UInt8} (h : isW b = true) (r : List UInt8) : whN (b :: r) = 1 + whN r := by
  rw [wh_step _ (by simp)]
  exact if_pos (show isW ((b :: r).getD 0 0) = true from h)
theorem parP_ok {l : List UInt8} (h : (parP l).2 = 0) : (scanL l).2.2 = 0 ∧ (parT ((scanL l).1.map Prod.fst)).2 = 0 ∧ parP l = parT ((scanL l).1.map Prod.fst) := by
  unfold parP at h ⊢
  by_cases he : (scanL l).2.2 = 0
  · rw [if_neg (by simp [he])] at h ⊢
    exact ⟨he, h, rfl⟩
  · rw [if_pos he] at h; exact absurd h he
end Go.Proofs.YtemacdimdpnkeaaGreatDoor
namespace Go.Proofs.YtemacdimdpnkeaaGreatDoor
set_option maxRecDepth 20000
open Go.Lib
set_option linter.unusedVariables false
theorem one_self {t : Tk} (h : IsTok t) (h7 : t.k ≠ 7) : oneL (txtL t) = some (t, (txtL t).length) := by
  rw [← one_line [] (hd_tok h).1]; exact back_one10 h h7 []
theorem back_close {t : Tk} (h : IsTok t) (h7 : t.k ≠ 7) (r : List UInt8) : oneL (txtL t ++ 41 :: r) = some (t, (txtL t).length) := by
  rw [one_lineC r (hd_tok h).1]; exact one_self h h7
inductive Lays : List Tk → List UInt8 → Prop
  | nil : Lays [] []
  | cons {t : Tk} {sep : List UInt8} {ts : List Tk} {r : List UInt8} (ht : IsTok t) (h1 : oneL (txtL t ++ (sep ++ r)) = some (t, (txtL t).length)) (h2 : whN (sep ++ r) = sep.length) (h3 : sep.length ≤ 1) (h : Lays ts r) : Lays (t :: ts) (txtL t ++ (sep ++ r))
theorem Lays.wh {ts : List Tk} {l : List UInt8} (h : Lays ts l) : whN l = 0 := by
  cases h with
  | nil => rfl
  | cons ht _ _ _ _ => exact wh_tok ht _
theorem Lays.goes {ts : List Tk} {l : List UInt8} (h : Lays ts l) : ∀ N a, l.length ≤ N → (scanGo N a l).1.map Prod.fst = ts ∧ (scanGo N a l).2 = (0, 0) := by
  induction h with
  | nil => intro N a _; rw [scanGo_nil]; exact ⟨rfl, rfl⟩
  | @cons t sep ts r ht h1 h2 h3 h ih =>
    intro N a hN
    obtain ⟨hne, -, -⟩ := hd_tok ht
    have hlt : 0 < (txtL t).length := List.length_pos_iff.2 hne
    rw [List.length_append, List.length_append] at hN
    obtain ⟨M, rfl⟩ : ∃ M, N = M + 1 := ⟨N - 1, by omega⟩
    have hd : (txtL t ++ (sep ++ r)).drop (txtL t).length = sep ++ r := by rw [List.drop_append_of_le_length (Nat.le_refl _), List.drop_length, List.nil_append]
    have hd2 : (sep ++ r).drop sep.length = r := by rw [List.drop_append_of_le_length (Nat.le_refl _), List.drop_length, List.nil_append]
    have ih' := ih M (a + (txtL t).length + sep.length) (by omega)
    rw [scanGo, if_neg (by simp [hne]), h1]
    simp only [hd, h2, hd2, List.map_cons]
    exact ⟨by rw [ih'.1], ih'.2⟩
theorem Lays.scan {ts : List Tk} {l : List UInt8} (h : Lays ts l) : (scanL l).1.map Prod.fst = ts ∧ (scanL l).2 = (0, 0) := by
  unfold scanL
  rw [h.wh, List.drop_zero]
  exact h.goes _ _ (Nat.le_refl _)
def wt (ts : List Tk) : Nat := (ts.map fun t => (txtL t).length + 1).sum
theorem wt_nil : wt [] = 0 := rfl
theorem wt_cons (t : Tk) (ts : List Tk) : wt (t :: ts) = (txtL t).length + 1 + wt ts := by simp [wt]
theorem wt_app (a b : List Tk) : wt (a ++ b) = wt a + wt b := by simp [wt]
theorem Lays.len {ts : List Tk} {l : List UInt8} (h : Lays ts l) : l.length ≤ wt ts := by
  induction h with
  | nil => simp
  | cons ht h1 h2 h3 h ih => rw [wt_cons, List.length_append, List.length_append]; omega
theorem scan_wtGo : ∀ (n a : Nat) (l : List UInt8), l.length ≤ n → wt ((scanGo n a l).1.map Prod.fst) ≤ 2 * l.length
  | 0, a, l, h => by simp [scanGo, wt]
  | n + 1, a, l, h => by
    by_cases hl : l = []
    · subst hl; rw [scanGo_nil]; simp [wt]
    · simp only [scanGo, if_neg hl]
      cases ho : oneL l with
      | none => simp [wt]
      | some x =>
        obtain ⟨t, k⟩ := x
        obtain ⟨i1, i2, i3, i4⟩ := one_is hl ho
        have ht := txt_len hl ho
        have ih := scan_wtGo n (a + k + whN (l.drop k)) ((l.drop k).drop (whN (l.drop k))) (by rw [List.length_drop, List.length_drop]; omega)
        rw [List.length_drop, List.length_drop] at ih
        simp only [List.map_cons]
        rw [wt_cons]
        omega
theorem scan_wt (l : List UInt8) : wt ((scanL l).1.map Prod.fst) ≤ 2 * l.length := by
  have := scan_wtGo l.length (whN l) (l.drop (whN l)) (by rw [List.length_drop]; omega)
  rw [List.length_drop] at this
  unfold scanL
  omega
theorem scan_toks (l : List UInt8) : ∀ t ∈ (scanL l).1.map Prod.fst, IsTok t := by
  have hc : Chain ((scanL l).1.map Prod.fst) := scan_chain _ _ _ (by rw [List.length_drop]; omega)
  generalize (scanL l).1.map Prod.fst = ts at *
  induction ts with
  | nil => intro t ht; simp at ht
  | cons t ts ih =>
    intro x hx
    rcases List.mem_cons.1 hx with rfl | hx
    · exact hc.1
    · exact ih hc.2.2 x hx
theorem wh_1 {b : UInt8} (hb : isW b = true) {ts : List Tk} {r : List UInt8} (h : Lays ts r) : whN ([b] ++ r) = [b].length := by
  show whN (b :: r) = 1
  rw [wh_w hb, h.wh]
theorem lays_bl {t : Tk} {ts : List Tk} {r : List UInt8} (ht : IsTok t) (h7 : t.k ≠ 7) (h : Lays ts r) : Lays (t :: ts) (txtL t ++ 32 :: r) := .cons (sep := [32]) ht (back_one ht h7 r) (wh_1 (by decide) h) (Nat.le_refl _) h
theorem lays_nl {t : Tk} {ts : List Tk} {r : List UInt8} (ht : IsTok t) (h7 : t.k ≠ 7) (h : Lays ts r) : Lays (t :: ts) (txtL t ++ 10 :: r) := .cons (sep := [10]) ht (back_one10 ht h7 r) (wh_1 (by decide) h) (Nat.le_refl _) h
theorem lays_cl {t u : Tk} {ts : List Tk} {r : List UInt8} (ht : IsTok t) (h7 : t.k ≠ 7) (h : Lays (u :: ts) (41 :: r)) : Lays (t :: u :: ts) (txtL t ++ 41 :: r) := .cons (sep := []) ht (back_close ht h7 r) h.wh (Nat.zero_le _) h
theorem lays_open {ts : List Tk} {r : List UInt8} (h : Lays ts r) : Lays (tok0 0 :: ts) (40 :: r) := .cons (t := tok0 0) (sep := []) (.fix 0 (by simp)) (one_fix rfl) h.wh (Nat.zero_le _) h
theorem lays_close {ts : List Tk} {r : List UInt8} (h : Lays ts r) : Lays (tok0 1 :: ts) (41 :: r) := .cons (t := tok0 1) (sep := []) (.fix 1 (by simp)) (one_fix rfl) h.wh (Nat.zero_le _) h
theorem lays_not {ts : List Tk} {r : List UInt8} (h : Lays ts (40 :: r)) : Lays (tok0 7 :: ts) (45 :: 40 :: r) := .cons (t := tok0 7) (sep := []) (.fix 7 (by simp)) (back_not r) h.wh (Nat.zero_le _) h
def Beh (ts : List Tk) (q : List UInt8) : Prop := (∃ r, q = 32 :: r ∧ Lays ts r) ∨ (∃ r, q = 10 :: r ∧ Lays ts r) ∨ (∃ u ts' r, ts = u :: ts' ∧ q = 41 :: r ∧ Lays ts q)
def Pc (a : List Tk) (x : List UInt8) : Prop := ∀ ts q, Beh ts q → Lays (a ++ ts) (x ++ q)
def PcR (a : List Tk) (x : List UInt8) : Prop := ∀ ts q, Beh ts q → Beh (a ++ ts) (x ++ q)
theorem pc_tok {t : Tk} (ht : IsTok t) (h7 : t.k ≠ 7) : Pc [t] (txtL t) := by
  rintro ts q (⟨r, rfl, h⟩ | ⟨r, rfl, h⟩ | ⟨u, ts', r, rfl, rfl, h⟩)
  · exact lays_bl ht h7 h
  · exact lays_nl ht h7 h
  · exact lays_cl ht h7 h
theorem pcr_nil : PcR [] [] := fun ts q h => h
theorem Pc.row {a : List Tk} {x : List UInt8} (h : Pc a x) : PcR a (32 :: x) := fun ts q hq => .inl ⟨_, rfl, h ts q hq⟩
theorem PcR.app {a b : List Tk} {x y : List UInt8} (h : PcR a x) (k : PcR b y) : PcR (a ++ b) (x ++ y) := fun ts q hq => by
  rw [List.append_assoc, List.append_assoc]; exact h _ _ (k ts q hq)
theorem Pc.app {a b : List Tk} {x y : List UInt8} (h : Pc a x) (k : PcR b y) : Pc (a ++ b) (x ++ y) := fun ts q hq => by
  rw [List.append_assoc, List.append_assoc]; exact h _ _ (k ts q hq)
theorem beh_lays {ts : List Tk} {q : List UInt8} (h : Beh ts q) : Lays (tok0 1 :: ts) (41 :: q) := by
  rcases h with ⟨r, rfl, h⟩ | ⟨r, rfl, h⟩ | ⟨u, ts', r, rfl, rfl, h⟩
  · exact lays_bl (t := tok0 1) (.fix 1 (by simp)) (by decide) h
  · exact lays_nl (t := tok0 1) (.fix 1 (by simp)) (by decide) h
  · exact lays_close h
theorem Pc.close {a : List Tk} {x : List UInt8} (h : Pc a x) : Pc (a ++ [tok0 1]) (x ++ [41]) := fun ts q hq => by
  rw [List.append_assoc, List.append_assoc]
  exact h (tok0 1 :: ts) (41 :: q) (.inr (.inr ⟨_, _, _, rfl, rfl, beh_lays hq⟩))
theorem Pc.open {a : List Tk} {x : List UInt8} (h : Pc a x) : Pc (tok0 0 :: a) (40 :: x) := fun ts q hq => lays_open (h ts q hq)
theorem Pc.not {a : List Tk} {x : List UInt8} (h : Pc a (40 :: x)) : Pc (tok0 7 :: a) (45 :: 40 :: x) := fun ts q hq => lays_not (h ts q hq)
end Go.Proofs.YtemacdimdpnkeaaGreatDoor
namespace Go.Proofs.YtemacdimdpnkeaaGreatDoor
set_option maxRecDepth 20000
open Go.Lib
set_option linter.unusedVariables false
def spJ (l : List Str) : Str := (l.map fun x => 32 :: x).flatten
theorem spJ_nil : spJ [] = [] := rfl
theorem spJ_cons (x : Str) (l : List Str) : spJ (x :: l) = 32 :: x ++ spJ l := by simp [spJ]
section
variable (sv : VD → Str)
def shSingle (x : TestD) : Str := (if x.p ≠ 0 then sgnL x.p ++ [32] else []) ++ (if x.v ≠ [] then 60 :: (x.v ++ [62]) else sv x.x)
def shTest (a : AttrD) : Str := 94 :: a.a ++ (if a.ones ≠ [] then [32, 60, 60] ++ spJ (a.ones.map sv) ++ [32, 62, 62] else if a.tests.length = 1 then spJ (a.tests.map (shSingle sv)) else [32, 123] ++ spJ (a.tests.map (shSingle sv)) ++ [32, 125])
def shCond (c : CondD) : Str := (if c.neg = true then [45, 40] else [40]) ++ c.c ++ spJ (c.attrs.map (shTest sv)) ++ [41]
def sgS (k : Int) : Str := if k = 2 then [43] else if k = 3 then [45] else if k = 4 then [42] else []
def shPile : List Str → List ItemD → Option (List Str)
  | P, [] => some P
  | P, it :: l =>
    if it.k = 0 then shPile (P ++ [sv it.x]) l
    else if it.k = 1 then shPile (P ++ [60 :: (it.v ++ [62])]) l
    else if sgS it.k = [] ∨ P.length < 2 then none
    else shPile (P.take (P.length - 2) ++ [40 :: (sgS it.k ++ 32 :: (P.getD (P.length - 2) [] ++ 32 :: (P.getD (P.length - 1) [] ++ [41])))]) l
def shExpr (l : List ItemD) : Option Str := match shPile sv [] l with
  | some [x] => some x
  | _ => none
def shE (l : List ItemD) : Str := (shExpr sv l).getD []
def shSet (x : SetD) : Str := 94 :: x.a ++ 32 :: shE sv x.e
def shAct (a : ActD) : Str :=
  if a.k = 0 then 40 :: sMake ++ 32 :: a.c ++ spJ (a.sets.map (shSet sv)) ++ [41]
  else if a.k = 1 then 40 :: sModify ++ 32 :: itoa a.n ++ spJ (a.sets.map (shSet sv)) ++ [41]
  else if a.k = 2 then 40 :: sRemove ++ 32 :: itoa a.n ++ [41]
  else if a.k = 3 then 40 :: sBind ++ 32 :: 60 :: (a.v ++ [62]) ++ spJ (a.exprs.map (shE sv)) ++ [41]
  else if a.k = 4 then 40 :: sWrite ++ spJ (a.exprs.map (shE sv)) ++ [41]
  else if a.k = 5 then 40 :: sHalt ++ [41]
  else []
def shRule (r : RuleD) : Str := 40 :: sP ++ 32 :: r.nm ++ spJ (r.conds.map (shCond sv)) ++ [32, 45, 45, 62] ++ spJ (r.acts.map (shAct sv)) ++ [41]
def shClass (c : ClassD) : Str := 40 :: sLit ++ 32 :: c.nm ++ spJ c.attrs ++ [41]
def shText (p : ProgD) : Str := (p.cs.map fun c => shClass c ++ [10]).flatten ++ (p.rs.map fun r => shRule sv r ++ [10]).flatten
end
def Can {α : Type} (f : Rdr α) (c : List Tk → Prop) (s : α → Str) : Prop := ∀ l x r, (∀ t ∈ l, IsTok t) → f l = some (x, r) →
  (∃ ts, Pc ts (s x) ∧ (∀ t ∈ ts, IsTok t) ∧ (∀ m, c m → f (ts ++ m) = some (x, m)) ∧ wt ts + wt r ≤ wt l) ∧ ∀ t ∈ r, IsTok t
def CanR {α : Type} (f : Rdr α) (c : List Tk → Prop) (s : α → Str) : Prop := ∀ l x r, (∀ t ∈ l, IsTok t) → f l = some (x, r) →
  (∃ ts, PcR ts (s x) ∧ (∀ t ∈ ts, IsTok t) ∧ (∀ m, c m → f (ts ++ m) = some (x, m)) ∧ wt ts + wt r ≤ wt l) ∧ ∀ t ∈ r, IsTok t
def any_ : List Tk → Prop := fun _ => True
theorem nxt_of {k : Int} {l : List Tk} {t : Tk} {r : List Tk} (h : nxt k l = some (t, r)) : l = t :: r ∧ t.k = k := by
  cases l with
  | nil => cases h
  | cons a u =>
    change (if a.k = k then some (a, u) else none) = some (t, r) at h
    split at h
    · rename_i hk
      obtain ⟨rfl, rfl⟩ := Prod.mk.inj (Option.some.inj h)
      exact ⟨rfl, hk⟩
    · cases h
theorem nxt_put {k : Int} {t : Tk} (h : t.k = k) (r : List Tk) : nxt k (t :: r) = some (t, r) := by
  show (if t.k = k then some (t, r) else none) = _
  rw [if_pos h]
theorem isK_put {k : Int} {t : Tk} (h : t.k = k) (r : List Tk) : isK k (t :: r) = true := by simp [isK, h]
theorem isK_not {k : Int} {t : Tk} (h : t.k ≠ k) (r : List Tk) : ¬ isK k (t :: r) = true := by simp [isK, h]
theorem tok_name {t : Tk} (h : IsTok t) (hk : t.k = 8 ∨ t.k = 9) : t = tokN t.k t.nm ∧ t.nm ≠ [] := by
  cases h with
  | fix k h' => have : (tok0 k).k = k := rfl; omega
  | prd p h' => have : (tokP p).k = 10 := rfl; omega
  | nam k r hk' ho h1 h2 => exact ⟨rfl, fun e => by have e' : r = [] := e; subst e'; simp at h1⟩
  | val w t h' => have := par_kind h'; omega
theorem tok_val {t : Tk} (h : IsTok t) (hk : t.k = 11) : t = tokV t.vk t.vn t.vs ∧ (t.vk = 2 → t.vn = 0) ∧ (t.vk = 1 → t.vs = []) ∧ txtL t = valL t.vk t.vn t.vs := by
  cases h with
  | fix k h' => have : (tok0 k).k = k := rfl; omega
  | prd p h' => have : (tokP p).k = 10 := rfl; omega
  | nam k r hk' ho h1 h2 => have : (tokN k r).k = k := rfl; omega
  | val w t h' =>
    unfold parL at h'
    repeat' split at h'
    all_goals first
      | (cases h'; done)
      | (obtain rfl := Option.some.inj h'; exact ⟨rfl, by simp [tokV], by simp [tokV], rfl⟩)
theorem tok_pred {t : Tk} (h : IsTok t) (hk : t.k = 10) : t = tokP t.p := by
  cases h with
  | fix k h' => have : (tok0 k).k = k := rfl; omega
  | prd p h' => rfl
  | nam k r hk' ho h1 h2 => have : (tokN k r).k = k := rfl; omega
  | val w t h' => have := par_kind h'; omega
theorem tok_sign {t : Tk} (h : IsTok t) {k : Int} (hk : t.k = k) (h8 : k < 8) : t = tok0 k := by
  cases h with
  | fix k' h' => have : k' = k := hk; subst this; rfl
  | prd p h' => have : (tokP p).k = 10 := rfl; omega
  | nam k' r hk' ho h1 h2 => have : (tokN k' r).k = k' := rfl; omega
  | val w t h' => have := par_kind h'; omega
theorem all_cons {p : Tk → Prop} {t : Tk} {l : List Tk} (h : ∀ x ∈ t :: l, p x) : p t ∧ ∀ x ∈ l, p x := ⟨h t (List.mem_cons_self ..), fun x hx => h x (List.mem_cons_of_mem _ hx)⟩
theorem all_app {p : Tk → Prop} {a b : List Tk} (h : ∀ x ∈ a, p x) (k : ∀ x ∈ b, p x) : ∀ x ∈ a ++ b, p x := fun x hx => (List.mem_append.1 hx).elim (h x) (k x)
theorem all_one {p : Tk → Prop} {t : Tk} (h : p t) : ∀ x ∈ [t], p x := fun x hx => by rw [List.mem_singleton.1 hx]; exact h
theorem can_name : Can nameR any_ (fun s => s) := by
  intro l x r hl h
  obtain ⟨t, s, h1, h2⟩ := thn_is h
  obtain ⟨rfl, hk⟩ := nxt_of h1
  obtain ⟨ht, hs⟩ := all_cons hl
  split at h2
  · rename_i hv
    obtain ⟨rfl, rfl⟩ := Prod.mk.inj (Option.some.inj h2)
    obtain ⟨e, e2, -, e4⟩ := tok_val ht hk
    have ep : txtL t = t.vs := by rw [e4, hv]; rfl
    refine ⟨⟨[t], by show Pc [t] t.vs; rw [← ep]; exact pc_tok ht (by omega), all_one ht, fun m _ => ?_, by rw [wt_cons, wt_nil, wt_cons]; omega⟩, hs⟩
    show thn (nxt 11) _ (t :: m) = _
    rw [thn_of (nxt_put hk m), if_pos hv]; rfl
  · cases h2
theorem can_num : Can numR any_ itoa := by
  intro l x r hl h
  obtain ⟨t, s, h1, h2⟩ := thn_is h
  obtain ⟨rfl, hk⟩ := nxt_of h1
  obtain ⟨ht, hs⟩ := all_cons hl
  split at h2
  · rename_i hv
    obtain ⟨rfl, rfl⟩ := Prod.mk.inj (Option.some.inj h2)
    obtain ⟨e, e2, -, e4⟩ := tok_val ht hk
    have ep : txtL t = itoa t.vn := by rw [e4, hv]; rfl
    refine ⟨⟨[t], by show Pc [t] (itoa t.vn); rw [← ep]; exact pc_tok ht (by omega), all_one ht, fun m _ => ?_, by rw [wt_cons, wt_nil, wt_cons]; omega⟩, hs⟩
    show thn (nxt 11) _ (t :: m) = _
    rw [thn_of (nxt_put hk m), if_pos hv]; rfl
  · cases h2
theorem varR_p {p : Int} {l : List Tk} {x : TestD} {r : List Tk} (h : varR p l = some (x, r)) : x.p = p := by
  unfold varR at h
  split at h
  · obtain ⟨t, s, h1, h2⟩ := thn_is h
    obtain ⟨rfl, rfl⟩ := Prod.mk.inj (Option.some.inj h2); rfl
  · obtain ⟨t, s, h1, h2⟩ := thn_is h
    obtain ⟨rfl, rfl⟩ := Prod.mk.inj (Option.some.inj h2); rfl
theorem varR_no10 {p : Int} {l : List Tk} {x : TestD} {r : List Tk} (h : varR p l = some (x, r)) : ¬ isK 10 l = true := by
  unfold varR at h
  split at h
  · obtain ⟨t, s, h1, h2⟩ := thn_is h
    obtain ⟨rfl, hk⟩ := nxt_of h1
    exact isK_not (by omega) _
  · obtain ⟨t, s, h1, h2⟩ := thn_is h
    obtain ⟨rfl, hk⟩ := nxt_of h1
    exact isK_not (by omega) _
section
variable {sv : VD → Str} (hsv : ∀ t, IsTok t → t.k = 11 → sv (vdT t) = txtL t)
include hsv
theorem can_val : Can valR any_ sv := by
  intro l x r hl h
  obtain ⟨t, s, h1, h2⟩ := thn_is h
  obtain ⟨rfl, hk⟩ := nxt_of h1
  obtain ⟨ht, hs⟩ := all_cons hl
  obtain ⟨rfl, rfl⟩ := Prod.mk.inj (Option.some.inj h2)
  refine ⟨⟨[t], by rw [hsv t ht hk]; exact pc_tok ht (by omega), all_one ht, fun m _ => ?_, by rw [wt_cons, wt_nil, wt_cons]; omega⟩, hs⟩
  show thn (nxt 11) _ (t :: m) = _
  rw [thn_of (nxt_put hk m)]; rfl
theorem can_var (p : Int) : Can (varR p) any_ (fun x => if x.v ≠ [] then 60 :: (x.v ++ [62]) else sv x.x) := by
  intro l x r hl h
  unfold varR at h
  split at h
  · rename_i h9
    obtain ⟨t, s, h1, h2⟩ := thn_is h
    obtain ⟨rfl, hk⟩ := nxt_of h1
    obtain ⟨ht, hs⟩ := all_cons hl
    obtain ⟨rfl, rfl⟩ := Prod.mk.inj (Option.some.inj h2)
    obtain ⟨e, hne⟩ := tok_name ht (.inr hk)
    rw [hk] at e
    have ep : txtL t = 60 :: (t.nm ++ [62]) := by rw [e]; rfl
    refine ⟨⟨[t], by show Pc [t] (if t.nm ≠ [] then _ else _); rw [if_pos hne, ← ep]; exact pc_tok ht (by omega), all_one ht, fun m _ => ?_, by rw [wt_cons, wt_nil, wt_cons]; omega⟩, hs⟩
    rw [List.cons_append, List.nil_append]
    unfold varR
    rw [if_pos (isK_put hk m), thn_of (nxt_put hk m)]; rfl
  · rename_i h9
    obtain ⟨t, s, h1, h2⟩ := thn_is h
    obtain ⟨rfl, hk⟩ := nxt_of h1
    obtain ⟨ht, hs⟩ := all_cons hl
    obtain ⟨rfl, rfl⟩ := Prod.mk.inj (Option.some.inj h2)
    refine ⟨⟨[t], by show Pc [t] (if ([] : Str) ≠ [] then _ else sv (vdT t)); rw [if_neg (by simp), hsv t ht hk]; exact pc_tok ht (by omega), all_one ht, fun m _ => ?_, by rw [wt_cons, wt_nil, wt_cons]; omega⟩, hs⟩
    rw [List.cons_append, List.nil_append]
    unfold varR
    rw [if_neg (isK_not (by omega) m), thn_of (nxt_put hk m)]; rfl
theorem can_single : Can singleR any_ (shSingle sv) := by
  intro l x r hl h
  unfold singleR at h
  split at h
  · rename_i h10
    obtain ⟨t, s, h1, h2⟩ := thn_is h
    obtain ⟨rfl, hk⟩ := nxt_of h1
    obtain ⟨ht, hs⟩ := all_cons hl
    have hp := varR_p h2
    obtain ⟨⟨ts, c1, c2, c3, c4⟩, c5⟩ := can_var hsv t.p s x r hs h2
    have e := tok_pred ht hk
    have et : txtL t = sgnL t.p := by rw [e]; rfl
    by_cases h0 : t.p = 0
    · have c3' := c3
      rw [h0] at c3' hp
      refine ⟨⟨ts, ?_, c2, fun m hm => ?_, by rw [wt_cons]; omega⟩, c5⟩
      · unfold shSingle
        rw [if_neg (by rw [hp]; simp), List.nil_append]
        exact c1
      · have := c3' m hm
        unfold singleR
        rw [if_neg (varR_no10 this)]
        exact this
    · refine ⟨⟨t :: ts, ?_, fun y hy => (List.mem_cons.1 hy).elim (fun e => e ▸ ht) (c2 y), fun m hm => ?_, by rw [wt_cons, wt_cons]; omega⟩, c5⟩
      · unfold shSingle
        rw [if_pos (by rw [hp]; exact h0), hp, ← et, List.append_assoc]
        exact (pc_tok ht (by omega)).app c1.row
      · show singleR (t :: (ts ++ m)) = _
        unfold singleR
        rw [if_pos (isK_put hk _), thn_of (nxt_put hk _)]
        exact c3 m hm
  · rename_i h10
    have hp := varR_p h
    obtain ⟨⟨ts, c1, c2, c3, c4⟩, c5⟩ := can_var hsv 0 l x r hl h
    refine ⟨⟨ts, ?_, c2, fun m hm => ?_, c4⟩, c5⟩
    · unfold shSingle
      rw [if_neg (by rw [hp]; simp), List.nil_append]
      exact c1
    · have := c3 m hm
      unfold singleR
      rw [if_neg (varR_no10 this)]
      exact this
end
theorem can_while {α : Type} {k : Int} {f : Rdr α} {s : α → Str} (hc : Can f any_ s) (he : Eats 1 f) (hk : ∀ l x r, f l = some (x, r) → isK k l = true) : ∀ (n : Nat) (l : List Tk) (xs : List α) (r : List Tk), (∀ t ∈ l, IsTok t) → whileR k f n l = some (xs, r) →
    (∃ ts, PcR ts (spJ (xs.map s)) ∧ (∀ t ∈ ts, IsTok t) ∧ (∀ m, isK k m = false → ∀ N, (ts ++ m).length < N → whileR k f N (ts ++ m) = some (xs, m)) ∧ wt ts + wt r ≤ wt l) ∧ ∀ t ∈ r, IsTok t
  | 0, l, xs, r, hl, h => by cases h
  | n + 1, l, xs, r, hl, h => by
    unfold whileR at h
    split at h
    · obtain ⟨a, u, h1, h2⟩ := thn_is h
      obtain ⟨as_, v, h3, h4⟩ := thn_is h2
      obtain ⟨rfl, rfl⟩ := Prod.mk.inj (Option.some.inj h4)
      obtain ⟨⟨ts, c1, c2, c3, c4⟩, c5⟩ := hc l a u hl h1
      obtain ⟨⟨us, d1, d2, d3, d4⟩, d5⟩ := can_while hc he hk n u as_ _ c5 h3
      refine ⟨⟨ts ++ us, by rw [List.map_cons, spJ_cons]; exact c1.row.app d1, all_app c2 d2, fun m hm N hN => ?_, by rw [wt_app]; omega⟩, d5⟩
      have hf := c3 (us ++ m) trivial
      have hlt := he.len hf
      rw [List.append_assoc] at hN ⊢
      obtain ⟨M, rfl⟩ : ∃ M, N = M + 1 := ⟨N - 1, by omega⟩
      unfold whileR
      rw [if_pos (hk _ _ _ hf), thn_of hf, thn_of (d3 m hm M (by omega))]
      rfl
    · obtain ⟨rfl, rfl⟩ := Prod.mk.inj (Option.some.inj h)
      refine ⟨⟨[], pcr_nil, by simp, fun m hm N hN => ?_, by rw [wt_nil]; omega⟩, hl⟩
      obtain ⟨M, rfl⟩ : ∃ M, N = M + 1 := ⟨N - 1, by omega⟩
      unfold whileR
      rw [List.nil_append, if_neg (by rw [hm]; simp)]
theorem can_until {α : Type} {k : Int} {f : Rdr α} {s : α → Str} (hc : Can f any_ s) (he : Eats 1 f) (hk : ∀ l x r, f l = some (x, r) → isK k l = false) : ∀ (n : Nat) (l : List Tk) (xs : List α) (r : List Tk), (∀ t ∈ l, IsTok t) → untilR k f n l = some (xs, r) →
    (∃ ts, xs ≠ [] ∧ PcR ts (spJ (xs.map s)) ∧ (∀ t ∈ ts, IsTok t) ∧ (∀ m, isK k m = true → ∀ N, (ts ++ m).length < N → untilR k f N (ts ++ m) = some (xs, m)) ∧ (∀ m, ∃ x r, f (ts ++ m) = some (x, r)) ∧ wt ts + wt r ≤ wt l) ∧ (∀ t ∈ r, IsTok t)
  | 0, l, xs, r, hl, h => by cases h
  | n + 1, l, xs, r, hl, h => by
    unfold untilR at h
    obtain ⟨a, u, h1, h2⟩ := thn_is h
    obtain ⟨⟨ts, c1, c2, c3, c4⟩, c5⟩ := hc l a u hl h1
    split at h2
    · rename_i hku
      obtain ⟨rfl, rfl⟩ := Prod.mk.inj (Option.some.inj h2)
      refine ⟨⟨ts, by simp, by rw [List.map_cons, spJ_cons, List.map_nil, spJ_nil, List.append_nil]; exact c1.row, c2, fun m hm N hN => ?_, fun m => ⟨_, _, c3 m trivial⟩, c4⟩, c5⟩
      obtain ⟨M, rfl⟩ : ∃ M, N = M + 1 := ⟨N - 1, by omega⟩
      unfold untilR
      rw [thn_of (c3 m trivial), if_pos hm]
    · obtain ⟨as_, v, h3, h4⟩ := thn_is h2
      obtain ⟨rfl, rfl⟩ := Prod.mk.inj (Option.some.inj h4)
      obtain ⟨⟨us, d0, d1, d2, d3, d6, d4⟩, d5⟩ := can_until hc he hk n u as_ _ c5 h3
      refine ⟨⟨ts ++ us, by simp, by rw [List.map_cons, spJ_cons]; exact c1.row.app d1, all_app c2 d2, fun m hm N hN => ?_, fun m => by rw [List.append_assoc]; exact ⟨_, _, c3 _ trivial⟩, by rw [wt_app]; omega⟩, d5⟩
      have hf := c3 (us ++ m) trivial
      have hlt := he.len hf
      rw [List.append_assoc] at hN ⊢
      obtain ⟨M, rfl⟩ : ∃ M, N = M + 1 := ⟨N - 1, by omega⟩
      obtain ⟨y, r', hy⟩ := d6 m
      unfold untilR
      rw [thn_of hf, if_neg (by rw [hk _ _ _ hy]; simp), thn_of (d3 m hm M (by omega))]
      rfl
end Go.Proofs.YtemacdimdpnkeaaGreatDoor
namespace Go.Proofs.YtemacdimdpnkeaaGreatDoor
set_option maxRecDepth 20000
set_option linter.unusedVariables false
def i0 : ItemD := ⟨0, ⟨0, 0, []⟩, []⟩
def headsE : List ItemD → Nat → List (List Int) → List Nat → Option (List (List Int) × List Nat)
  | [], _, A, P => some (A, P)
  | it :: l, i, A, P =>
    if it.k = 0 ∨ it.k = 1 then headsE l (i + 1) A (P ++ [i])
    else if it.k = 2 ∨ it.k = 3 ∨ it.k = 4 then
      if P.length < 2 then none
      else headsE l (i + 1) (A.set (P.getD (P.length - 2) 0) (A.getD (P.getD (P.length - 2) 0) [] ++ [it.k])) (P.take (P.length - 1))
    else none
section
variable (sv : VD → Str)
def itemS (it : ItemD) : Str := if it.k = 1 then 60 :: (it.v ++ [62]) else sv it.x
def opS (k : Int) : Str := 40 :: (sgS k ++ [32])
def placeS (i : Nat) (it : ItemD) (a : List Int) : Str :=
  if sgS it.k ≠ [] then [41] else (if i > 0 then [32] else []) ++ ((a.reverse.map opS).flatten ++ itemS sv it)
def laidS (A : List (List Int)) : List ItemD → Nat → Str
  | [], _ => []
  | it :: l, i => placeS sv i it (A.getD i []) ++ laidS A l (i + 1)
def blS (i : Nat) : Str := if i > 0 then [32] else []
def ChainE (L : List ItemD) (A : List (List Int)) : List Nat → List Str → Nat → Prop
  | [], [], e => e = 0
  | s :: P, x :: X, e => s < e ∧ laidS sv A ((L.take e).drop s) s = blS s ++ x ∧ (∃ it, L[s]? = some it ∧ sgS it.k = []) ∧ ChainE L A P X s
  | _, _, _ => False
variable {sv}
theorem laid_app (A : List (List Int)) : ∀ (l m : List ItemD) (i : Nat), laidS sv A (l ++ m) i = laidS sv A l i ++ laidS sv A m (i + l.length)
  | [], m, i => by simp [laidS]
  | it :: l, m, i => by
    show placeS sv i it (A.getD i []) ++ laidS sv A (l ++ m) (i + 1) = _
    rw [laid_app A l m (i + 1), List.length_cons, show i + (l.length + 1) = i + 1 + l.length by omega, laidS, List.append_assoc]
theorem laid_same {A B : List (List Int)} : ∀ (l : List ItemD) (i : Nat), (∀ j, i ≤ j → j < i + l.length → A.getD j [] = B.getD j []) → laidS sv A l i = laidS sv B l i
  | [], i, h => rfl
  | it :: l, i, h => by
    rw [laidS, laidS, h i (Nat.le_refl _) (by simp), laid_same l (i + 1) fun j h1 h2 => h j (by omega) (by rw [List.length_cons]; omega)]
theorem laid_cut (L : List ItemD) (A : List (List Int)) {s m e : Nat} (h1 : s ≤ m) (h2 : m ≤ e) (h3 : e ≤ L.length) : laidS sv A ((L.take e).drop s) s = laidS sv A ((L.take m).drop s) s ++ laidS sv A ((L.take e).drop m) m := by
  have hl : (L.take m).length = m := by rw [List.length_take]; omega
  have e1 : L.take e = L.take m ++ (L.take e).drop m := by
    conv => lhs; rw [← List.take_append_drop m (L.take e), List.take_take, Nat.min_eq_left h2]
  rw [e1, List.drop_append_of_le_length (by omega), laid_app, List.length_drop, hl, show s + (m - s) = m by omega]
  rw [List.drop_append_of_le_length (by omega), List.drop_eq_nil_of_le (by omega : (L.take m).length ≤ m), List.nil_append]
theorem laid_one (L : List ItemD) (A : List (List Int)) {i : Nat} {it : ItemD} (h : L[i]? = some it) : laidS sv A ((L.take (i + 1)).drop i) i = placeS sv i it (A.getD i []) := by
  obtain ⟨hi, rfl⟩ := List.getElem?_eq_some_iff.1 h
  rw [List.take_succ_eq_append_getElem hi, List.drop_append_of_le_length (by rw [List.length_take]; omega), List.drop_eq_nil_of_le (by rw [List.length_take]; omega)]
  simp [laidS]
theorem ChainE.same {L : List ItemD} {A B : List (List Int)} : ∀ {P : List Nat} {X : List Str} {e : Nat}, (∀ j, j < e → A.getD j [] = B.getD j []) → ChainE sv L A P X e → ChainE sv L B P X e
  | [], [], e, _, h => h
  | s :: P, x :: X, e, hj, ⟨h1, h2, h3, h4⟩ => ⟨h1, by
      rw [← h2]; symm
      refine laid_same _ _ fun j a b => hj j ?_
      rw [List.length_drop, List.length_take] at b; omega, h3, h4.same fun j hj' => hj j (by omega)⟩
  | [], _ :: _, _, _, h => h.elim
  | _ :: _, [], _, _, h => h.elim
theorem ChainE.len {L : List ItemD} {A : List (List Int)} : ∀ {P : List Nat} {X : List Str} {e : Nat}, ChainE sv L A P X e → P.length = X.length
  | [], [], _, _ => rfl
  | _ :: _, _ :: _, _, ⟨_, _, _, h⟩ => by simp [h.len]
  | [], _ :: _, _, h => h.elim
  | _ :: _, [], _, h => h.elim
theorem sgS_op {k : Int} (h : k = 2 ∨ k = 3 ∨ k = 4) : sgS k ≠ [] := by
  rcases h with rfl | rfl | rfl <;> decide
theorem sgS_no {k : Int} (h : ¬ (k = 2 ∨ k = 3 ∨ k = 4)) : sgS k = [] := by
  unfold sgS; rw [if_neg (by omega), if_neg (by omega), if_neg (by omega)]
theorem last_two {α : Type} (l : List α) (h : ¬ l.length < 2) : ∃ m a b, l = m ++ [b, a] := by
  refine ⟨l.take (l.length - 2), l[l.length - 1], l[l.length - 2], ?_⟩
  apply List.ext_getElem?
  intro j
  by_cases hj : j < l.length - 2
  · rw [List.getElem?_append_left (by rw [List.length_take]; omega), List.getElem?_take_of_lt hj]
  · rw [List.getElem?_append_right (by rw [List.length_take]; omega), List.length_take, Nat.min_eq_left (by omega)]
    by_cases h2 : j = l.length - 2
    · subst h2; simp [List.getElem?_eq_getElem (show l.length - 2 < l.length by omega)]
    · by_cases h3 : j = l.length - 1
      · subst h3
        rw [show l.length - 1 - (l.length - 2) = 1 by omega]
        simp [List.getElem?_eq_getElem (show l.length - 1 < l.length by omega)]
      · rw [List.getElem?_eq_none (by omega), List.getElem?_eq_none (by simp; omega)]
theorem heads_pile (L : List ItemD) : ∀ (l : List ItemD) (i : Nat) (A : List (List Int)) (P : List Nat) (X : List Str), L.drop i = l → A.length = L.length → (∀ j, i ≤ j → A.getD j [] = []) → ChainE sv L A P.reverse X.reverse i →
    match headsE l i A P, shPile sv X l with
    | some (A', P'), some X' => ChainE sv L A' P'.reverse X'.reverse L.length ∧ A'.length = L.length
    | none, none => True
    | _, _ => False
  | [], i, A, P, X, hl, hA, h0, h => by
    have hi : L.length ≤ i := by simpa using hl
    refine ⟨?_, hA⟩
    generalize P.reverse = P' at *
    generalize X.reverse = X' at *
    match P', X', h with
    | [], [], h => 
      show L.length = 0
      have : i = 0 := h
      omega
    | s :: P, x :: X, ⟨h1, h2, ⟨it, h3, h5⟩, h4⟩ =>
      obtain ⟨hs, _⟩ := List.getElem?_eq_some_iff.1 h3
      refine ⟨hs, ?_, ⟨it, h3, h5⟩, h4⟩
      rw [List.take_of_length_le hi] at h2
      rw [List.take_of_length_le (Nat.le_refl _)]; exact h2
  | it :: l, i, A, P, X, hl, hA, h0, h => by
    have hi : L[i]? = some it := by
      have := congrArg (·[0]?) hl
      simpa using this
    have hd : L.drop (i + 1) = l := by
      have := congrArg List.tail hl
      simpa using this
    obtain ⟨hiL, -⟩ := List.getElem?_eq_some_iff.1 hi
    have push : ∀ x : Str, sgS it.k = [] → itemS sv it = x → ChainE sv L A (P ++ [i]).reverse (X ++ [x]).reverse (i + 1) := by
      intro x hs hx
      rw [List.reverse_append, List.reverse_append]
      refine ⟨by omega, ?_, ⟨it, hi, hs⟩, h⟩
      rw [laid_one L A hi, h0 i (Nat.le_refl _)]
      unfold placeS
      rw [if_neg (by simp [hs]), hx]; rfl
    unfold headsE shPile
    by_cases k0 : it.k = 0
    · rw [if_pos (.inl k0), if_pos k0]
      exact heads_pile L l (i + 1) A _ _ hd hA (fun j hj => h0 j (by omega)) (push _ (by rw [k0]; decide) (by unfold itemS; rw [if_neg (by omega)]))
    · by_cases k1 : it.k = 1
      · rw [if_pos (.inr k1), if_neg k0, if_pos k1]
        exact heads_pile L l (i + 1) A _ _ hd hA (fun j hj => h0 j (by omega)) (push _ (by rw [k1]; decide) (by unfold itemS; rw [if_pos k1]))
      · rw [if_neg (by omega), if_neg k0, if_neg k1]
        have hlen : P.length = X.length := by have := h.len; simpa using this
        by_cases k2 : it.k = 2 ∨ it.k = 3 ∨ it.k = 4
        · rw [if_pos k2]
          by_cases h2 : P.length < 2
          · rw [if_pos h2, if_pos (.inr (by omega))]; trivial
          · rw [if_neg h2, if_neg (fun e => e.elim (sgS_op k2) (fun e => by omega))]
            obtain ⟨P0, a, b, rfl⟩ := last_two P h2
            obtain ⟨X0, xa, xb, rfl⟩ := last_two X (by omega)
            have eP : (P0 ++ [b, a]).getD ((P0 ++ [b, a]).length - 2) 0 = b := by simp
            have eP2 : (P0 ++ [b, a]).take ((P0 ++ [b, a]).length - 1) = P0 ++ [b] := by
              rw [show P0 ++ [b, a] = (P0 ++ [b]) ++ [a] by simp, List.take_append_of_le_length (by simp), List.take_of_length_le (by simp)]
            have eX : (X0 ++ [xb, xa]).getD ((X0 ++ [xb, xa]).length - 2) [] = xb := by simp
            have eX1 : (X0 ++ [xb, xa]).getD ((X0 ++ [xb, xa]).length - 1) [] = xa := by simp
            have eX2 : (X0 ++ [xb, xa]).take ((X0 ++ [xb, xa]).length - 2) = X0 := by
              rw [List.take_append_of_le_length (by simp), List.take_of_length_le (by simp)]
            rw [eP, eP2, eX, eX1, eX2]
            rw [List.reverse_append, List.reverse_append] at h
            obtain ⟨a1, a2, ⟨ita, a3, a3'⟩, b1, b2, ⟨itb, b3, b3'⟩, hc⟩ := h
            change a < i at a1
            change b < a at b1
            change laidS sv A ((L.take i).drop a) a = blS a ++ xa at a2
            change laidS sv A ((L.take a).drop b) b = blS b ++ xb at b2
            obtain ⟨hbL, -⟩ := List.getElem?_eq_some_iff.1 b3
            have hset : ∀ j, j ≠ b → (A.set b (A.getD b [] ++ [it.k])).getD j [] = A.getD j [] := by
              intro j hj
              rw [List.getD_eq_getElem?_getD, List.getElem?_set_ne (by omega), ← List.getD_eq_getElem?_getD]
            have hsetb : (A.set b (A.getD b [] ++ [it.k])).getD b [] = A.getD b [] ++ [it.k] := by
              rw [List.getD_eq_getElem?_getD, List.getElem?_set_self (by omega)]; rfl
            refine heads_pile L l (i + 1) _ _ _ hd (by rw [List.length_set]; exact hA) (fun j hj => by rw [hset j (by omega)]; exact h0 j (by omega)) ?_
            rw [List.reverse_append, List.reverse_append]
            refine ⟨by omega, ?_, ⟨itb, b3, b3'⟩, hc.same fun j hj => (hset j (by omega)).symm⟩
            generalize hB : A.set b (A.getD b [] ++ [it.k]) = B at *
            rw [laid_cut L B (show b ≤ b + 1 by omega) (show b + 1 ≤ i + 1 by omega) (by omega), laid_cut L B (show b + 1 ≤ a by omega) (show a ≤ i + 1 by omega) (by omega), laid_cut L B (show a ≤ i by omega) (show i ≤ i + 1 by omega) (by omega)]
            rw [laid_one L B b3, laid_one L B hi, hsetb]
            rw [laid_cut L A (show b ≤ b + 1 by omega) (show b + 1 ≤ a by omega) (by omega), laid_one L A b3] at b2
            have s1 : laidS sv B ((L.take a).drop (b + 1)) (b + 1) = laidS sv A ((L.take a).drop (b + 1)) (b + 1) := laid_same _ _ fun j h1 h2 => hset j (by omega)
            have s2 : laidS sv B ((L.take i).drop a) a = laidS sv A ((L.take i).drop a) a := laid_same _ _ fun j h1 h2 => hset j (by omega)
            rw [s1, s2, a2]
            unfold placeS at b2 ⊢
            rw [if_neg (by simp [b3'])] at b2 ⊢
            rw [if_pos (sgS_op k2)]
            have hba : blS a = [32] := by unfold blS; rw [if_pos (by omega)]
            have e3 : ((A.getD b []).reverse.map opS).flatten ++ itemS sv itb ++ laidS sv A ((L.take a).drop (b + 1)) (b + 1) = xb := by
              have := b2
              unfold blS at this
              rw [List.append_assoc] at this
              exact List.append_cancel_left this
            rw [hba, ← e3]
            simp [opS, blS]
        · rw [if_neg k2, if_pos (.inl (sgS_no k2))]; trivial
theorem heads_expr (L : List ItemD) : match headsE L 0 (List.replicate L.length []) [] with
    | some (A, [_]) => shExpr sv L = some (laidS sv A L 0)
    | _ => shExpr sv L = none := by
  have h := heads_pile (sv := sv) L L 0 (List.replicate L.length []) [] [] rfl (by simp) (fun j _ => by
    rw [List.getD_eq_getElem?_getD, List.getElem?_replicate]; split <;> rfl) rfl
  unfold shExpr
  revert h
  cases h1 : headsE L 0 (List.replicate L.length []) [] with
  | none =>
    cases h2 : shPile sv [] L with
    | none => intro _; rfl
    | some X => intro h; exact h.elim
  | some r =>
    obtain ⟨A, P⟩ := r
    cases h2 : shPile sv [] L with
    | none => intro h; exact h.elim
    | some X =>
      rintro ⟨h, -⟩
      have hlen : P.length = X.length := by have := h.len; simpa using this
      match P, X, hlen with
      | [], [], _ => rfl
      | [s], [x], _ =>
        obtain ⟨h3, h4, -, h5⟩ := h
        have h5' : s = 0 := h5
        subst h5'
        rw [List.take_of_length_le (Nat.le_refl _)] at h4
        have h4' : laidS sv A L 0 = [] ++ x := h4
        show some x = _
        rw [h4']; rfl
      | a :: b :: P, c :: d :: X, _ => rfl
theorem sv_pos (hsv : ∀ x, sv x ≠ []) : ∀ (l : List ItemD) (P Q : List Str), (∀ x ∈ P, x ≠ []) → shPile sv P l = some Q → ∀ x ∈ Q, x ≠ []
  | [], P, Q, h, e => by cases e; exact h
  | it :: l, P, Q, h, e => by
    unfold shPile at e
    repeat' split at e
    · exact sv_pos hsv l _ Q (fun x hx => (List.mem_append.1 hx).elim (fun a => h x a) (fun a => by rw [List.mem_singleton.1 a]; exact hsv _)) e
    · exact sv_pos hsv l _ Q (fun x hx => (List.mem_append.1 hx).elim (fun a => h x a) (fun a => by rw [List.mem_singleton.1 a]; simp)) e
    · cases e
    · exact sv_pos hsv l _ Q (fun x hx => (List.mem_append.1 hx).elim (fun a => h x (List.mem_of_mem_take a)) (fun a => by rw [List.mem_singleton.1 a]; simp)) e
theorem expr_pos (hsv : ∀ x, sv x ≠ []) {l : List ItemD} {s : Str} (h : shExpr sv l = some s) : s ≠ [] := by
  unfold shExpr at h
  split at h
  · rename_i x hx
    cases h
    exact sv_pos hsv l [] _ (by simp) hx _ (by simp)
  · cases h
end
end Go.Proofs.YtemacdimdpnkeaaGreatDoor
namespace Go.Proofs.YtemacdimdpnkeaaGreatDoor
set_option maxRecDepth 20000
open Go.Lib
set_option linter.unusedVariables false
def preB (p l : List UInt8) : Bool := decide (l.take p.length = p)
theorem pre_nil (l : List UInt8) : preB [] l = true := by unfold preB; simp
theorem pre_of_nil (a : UInt8) (p : List UInt8) : preB (a :: p) [] = false := by unfold preB; simp
theorem pre_cons (a b : UInt8) (p l : List UInt8) : preB (a :: p) (b :: l) = (decide (b = a) && preB p l) := by
  unfold preB
  simp [Bool.decide_and]
theorem pre_len {p l : List UInt8} (h : preB p l = true) : p.length ≤ l.length := by
  unfold preB at h
  have := congrArg List.length (of_decide_eq_true h)
  rw [List.length_take] at this
  omega
def mkL (k : Nat) : List UInt8 := if k = 0 then [40] else if k = 1 then [41] else if k = 2 then [123] else if k = 3 then [125] else if k = 4 then [60, 60] else if k = 5 then [62, 62] else if k = 6 then [45, 45, 62] else if k = 7 then [45] else []
def mkFrom (l : List UInt8) : Nat → Nat → Option (Tk × Nat)
  | 0, _ => none
  | n + 1, k => if preB (mkL k) l = true then some (tok0 k, (mkL k).length) else mkFrom l n (k + 1)
def prFrom (l : List UInt8) (m : Nat) : Nat → Nat → Option (Tk × Nat)
  | 0, _ => none
  | n + 1, k => if (sgnL k).length = m ∧ preB (sgnL k) l = true then some (tokP k, m) else prFrom l m n (k + 1)
def nmL (l : List UInt8) (k : Int) (a b : List UInt8) : Option (Tk × Nat) :=
  if preB a l = false then none
  else if runN (l.drop a.length) = 0 ∨ preB b (l.drop (a.length + runN (l.drop a.length))) = false then none
  else some (tokN k ((l.drop a.length).take (runN (l.drop a.length))), a.length + runN (l.drop a.length) + b.length)
def vlL (l : List UInt8) : Option (Tk × Nat) := match parL (l.take (runN l)) with
  | none => none
  | some t => some (t, runN l)
def ntL (l : List UInt8) : Option (Tk × Nat) := if preB [45, 40] l = true then some (tok0 7, 1) else none
def seven (l : List UInt8) : Nat → Option (Tk × Nat)
  | 0 => mkFrom l 7 0
  | 1 => ntL l
  | 2 => prFrom l 2 6 0
  | 3 => nmL l 9 [60] [62]
  | 4 => prFrom l 1 6 0
  | 5 => nmL l 8 [94] []
  | _ => vlL l
def svFrom (l : List UInt8) : Nat → Nat → Option (Tk × Nat)
  | 0, _ => none
  | n + 1, k => match seven l k with
    | some x => some x
    | none => svFrom l n (k + 1)
def tkL (l : List UInt8) : Option (Tk × Nat) := svFrom l 7 0
def cutL (x : Option (Tk × Nat)) : Option (Tk × Nat) := match x with
  | none => none
  | some (t, n) => if 24 < t.nm.length then none else some (t, n)
set_option linter.unusedSimpArgs false
theorem fix_seven (l : List UInt8) : fixL l = (mkFrom l 7 0).or ((ntL l).or (prFrom l 2 6 0)) := by
  unfold ntL
  simp only [mkFrom, prFrom, mkL, sgnL]
  simp only [Nat.reduceAdd, Nat.zero_add, Nat.one_ne_zero, if_true, if_false, Nat.reduceEqDiff, List.length_cons, List.length_nil, Int.reduceEq, Int.cast_ofNat_Int]
  match l with
  | [] => simp [fixL, pre_of_nil]
  | [a] =>
    simp only [pre_cons, pre_of_nil, pre_nil, Bool.and_true, Bool.and_false, decide_eq_true_eq]
    unfold fixL
    split <;> simp_all
  | [a, b] =>
    simp only [pre_cons, pre_of_nil, pre_nil, Bool.and_true, Bool.and_false, Bool.and_eq_true, decide_eq_true_eq]
    unfold fixL
    split
    all_goals try (simp_all; done)
    rename_i q1 q2 q3 q4 p1 p2 _ p3 p4 p5 p6
    have g1 : ¬ a = 40 := fun h => q1 [b] (by rw [h])
    have g2 : ¬ a = 41 := fun h => q2 [b] (by rw [h])
    have g3 : ¬ a = 123 := fun h => q3 [b] (by rw [h])
    have g4 : ¬ a = 125 := fun h => q4 [b] (by rw [h])
    have e1 : ¬ (a = 60 ∧ b = 60) := fun h => p1 [] (by rw [h.1, h.2])
    have e2 : ¬ (a = 62 ∧ b = 62) := fun h => p2 [] (by rw [h.1, h.2])
    have e3 : ¬ (a = 45 ∧ b = 40) := fun h => p3 [] (by rw [h.1, h.2])
    have e4 : ¬ (a = 60 ∧ b = 61) := fun h => p4 [] (by rw [h.1, h.2])
    have e5 : ¬ (a = 60 ∧ b = 62) := fun h => p5 [] (by rw [h.1, h.2])
    have e6 : ¬ (a = 62 ∧ b = 61) := fun h => p6 [] (by rw [h.1, h.2])
    clear p1 p2 p3 p4 p5 p6
    simp only [g1, g2, g3, g4, e1, e2, e3, e4, e5, e6, if_false, Option.or_none]; simp
  | a :: b :: c :: t =>
    simp only [pre_cons, pre_of_nil, pre_nil, Bool.and_true, Bool.and_false, Bool.and_eq_true, decide_eq_true_eq]
    unfold fixL
    split
    all_goals try (simp_all; done)
    rename_i q1 q2 q3 q4 p1 p2 p7 p3 p4 p5 p6
    have g1 : ¬ a = 40 := fun h => q1 (b :: c :: t) (by rw [h])
    have g2 : ¬ a = 41 := fun h => q2 (b :: c :: t) (by rw [h])
    have g3 : ¬ a = 123 := fun h => q3 (b :: c :: t) (by rw [h])
    have g4 : ¬ a = 125 := fun h => q4 (b :: c :: t) (by rw [h])
    have e1 : ¬ (a = 60 ∧ b = 60) := fun h => p1 (c :: t) (by rw [h.1, h.2])
    have e2 : ¬ (a = 62 ∧ b = 62) := fun h => p2 (c :: t) (by rw [h.1, h.2])
    have e3 : ¬ (a = 45 ∧ b = 40) := fun h => p3 (c :: t) (by rw [h.1, h.2])
    have e4 : ¬ (a = 60 ∧ b = 61) := fun h => p4 (c :: t) (by rw [h.1, h.2])
    have e5 : ¬ (a = 60 ∧ b = 62) := fun h => p5 (c :: t) (by rw [h.1, h.2])
    have e6 : ¬ (a = 62 ∧ b = 61) := fun h => p6 (c :: t) (by rw [h.1, h.2])
    have e7 : ¬ (a = 45 ∧ b = 45 ∧ c = 62) := fun h => p7 t (by rw [h.1, h.2.1, h.2.2])
    clear p1 p2 p3 p4 p5 p6 p7
    simp only [g1, g2, g3, g4, e1, e2, e3, e4, e5, e6, e7, if_false, Option.or_none]; simp
theorem sgl_seven (l : List UInt8) : sglL l = if l.getD 0 0 = 60 then some (tokP 2, 1) else if l.getD 0 0 = 62 then some (tokP 4, 1) else if l.getD 0 0 = 61 then some (tokP 0, 1) else none := by
  match l with
  | [] => simp [sglL]
  | a :: t =>
    unfold sglL
    split <;> simp_all
theorem pr1_seven (l : List UInt8) (hl : l ≠ []) : prFrom l 1 6 0 = sglL l := by
  rw [sgl_seven]
  simp only [prFrom, sgnL]
  simp only [Nat.reduceAdd, Nat.zero_add, Nat.one_ne_zero, if_true, if_false, Nat.reduceEqDiff, List.length_cons, List.length_nil, Int.reduceEq, Int.cast_ofNat_Int]
  match l, hl with
  | a :: t, _ =>
    simp only [pre_cons, pre_of_nil, pre_nil, Bool.and_true, Bool.and_false, Bool.and_eq_true, decide_eq_true_eq]
    by_cases h1 : a = 60
    · subst h1; simp
    · by_cases h2 : a = 62
      · subst h2; simp
      · by_cases h3 : a = 61
        · subst h3; simp
        · simp [h1, h2, h3]
theorem fix_nm {l : List UInt8} {x : Tk × Nat} (h : fixL l = some x) : x.1.nm = [] := by
  unfold fixL at h
  split at h <;> first | (cases h; done) | (obtain rfl := Option.some.inj h; rfl)
theorem sgl_nm {l : List UInt8} {x : Tk × Nat} (h : sglL l = some x) : x.1.nm = [] := by
  unfold sglL at h
  split at h <;> first | (cases h; done) | (obtain rfl := Option.some.inj h; rfl)
theorem par_nm {l : List UInt8} {t : Tk} (h : parL l = some t) : t.nm = [] := by
  unfold parL at h
  repeat' split at h
  all_goals first | (cases h; done) | (obtain rfl := Option.some.inj h; rfl)
theorem tk_or (l : List UInt8) : tkL l = (mkFrom l 7 0).or ((ntL l).or ((prFrom l 2 6 0).or ((nmL l 9 [60] [62]).or ((prFrom l 1 6 0).or ((nmL l 8 [94] []).or (vlL l)))))) := by
  unfold tkL
  simp only [svFrom, seven]
  repeat' split
  all_goals simp_all
theorem one_take {l : List UInt8} (hl : l ≠ []) : oneL l = cutL (tkL l) := by
  rw [tk_or]
  rw [show (mkFrom l 7 0).or ((ntL l).or ((prFrom l 2 6 0).or ((nmL l 9 [60] [62]).or ((prFrom l 1 6 0).or ((nmL l 8 [94] []).or (vlL l)))))) = (fixL l).or ((nmL l 9 [60] [62]).or ((prFrom l 1 6 0).or ((nmL l 8 [94] []).or (vlL l)))) by rw [fix_seven, Option.or_assoc, Option.or_assoc]]
  unfold oneL
  rw [pr1_seven l hl]
  cases hf : fixL l with
  | some x =>
    obtain ⟨t, n⟩ := x
    have := fix_nm hf
    simp only at this
    simp [cutL, this]
  | none =>
    simp only [Option.none_or]
    have hlen : ((l.drop 1).take (runN (l.drop 1))).length = runN (l.drop 1) := by
      rw [List.length_take]; have := runN_le _ (l.drop 1) (Nat.le_refl _); omega
    obtain ⟨a, t, rfl⟩ : ∃ a t, l = a :: t := by cases l with
      | nil => exact absurd rfl hl
      | cons a t => exact ⟨a, t, rfl⟩
    have hg : ∀ (m : List UInt8) (u : UInt8), u ≠ 0 → preB [u] m = decide (m.getD 0 0 = u) := by
      intro m u hu
      cases m with
      | nil => rw [pre_of_nil]; simp; exact fun h => hu h.symm
      | cons b m => rw [pre_cons, pre_nil]; simp
    have hr0 : ((List.drop 1 (a :: t)).take (runN (List.drop 1 (a :: t))) = []) ↔ runN (List.drop 1 (a :: t)) = 0 := by
      rw [← List.length_eq_zero_iff, hlen]
    unfold nmL
    rw [hg _ 60 (by decide), hg _ 94 (by decide), hg _ 62 (by decide), pre_nil]
    simp only [List.length_cons, List.length_nil, Nat.zero_add, hlen, ne_eq, hr0, decide_eq_false_iff_not, Bool.true_eq_false, or_false, Nat.add_zero]
    generalize hR : runN (List.drop 1 (a :: t)) = r at *
    generalize (List.drop 1 (a :: t)).take r = nm at *
    generalize hd : (a :: t).getD 0 0 = u at *
    have hda : a = u := hd
    generalize (List.drop (1 + r) (a :: t)).getD 0 0 = v at *
    by_cases c1 : u = 60
    · have hs2 : sglL (a :: t) = some (tokP 2, 1) := by rw [sgl_seven, if_pos (hd.trans c1)]
      by_cases c2 : r = 0
      · simp [c1, c2, hs2, cutL, tokP]
      · by_cases c3 : v = 62
        · by_cases c4 : 24 < r
          · simp [c1, c2, c3, c4, cutL, tokN, hlen]
          · simp [c1, c2, c3, c4, cutL, tokN, hlen]; omega
        · simp [c1, c2, c3, hs2, cutL, tokP]
    · simp only [c1, false_and, if_false, not_false_eq_true, if_true, Option.none_or]
      cases hs : sglL (a :: t) with
      | some x =>
        obtain ⟨t', n⟩ := x
        have := sgl_nm hs
        simp only at this
        simp [cutL, this]
      | none =>
        simp only [Option.none_or]
        by_cases c5 : u = 94
        · simp only [c5, if_true, not_true_eq_false, if_false]
          by_cases c2 : r = 0
          · have hp : parL ((a :: t).take (runN (a :: t))) = none := by
              have h0 : runN (a :: t) = 0 := runN_stop (.inr (by
                rw [hda, c5, decodeL_ascii 94 t (by decide)]; decide))
              rw [h0]; rfl
            unfold vlL
            rw [hp]
            simp [c2, cutL]
          · by_cases c4 : 24 < r
            · simp [c2, c4, cutL, tokN, hlen]
            · simp [c2, c4, cutL, tokN, hlen]; omega
        · simp only [c5, if_false, not_false_eq_true, if_true, Option.none_or]
          unfold vlL
          cases hp : parL ((a :: t).take (runN (a :: t))) with
          | none => rfl
          | some t' => simp [cutL, par_nm hp]
end Go.Proofs.YtemacdimdpnkeaaGreatDoor
namespace Go.Proofs.YtemacdimdpnkeaaGreatDoor
set_option maxRecDepth 20000
open Go.Lib
set_option linter.unusedVariables false
theorem nxt_fix (k : Int) (r : List Tk) : nxt k (tok0 k :: r) = some (tok0 k, r) := nxt_put rfl r
theorem isK_fix (k : Int) (r : List Tk) : isK k (tok0 k :: r) = true := isK_put rfl r
theorem isK_nfix {j k : Int} (h : k ≠ j) (r : List Tk) : ¬ isK j (tok0 k :: r) = true := isK_not (t := tok0 k) h r
theorem var_first {p : Int} {l : List Tk} {x : TestD} {r : List Tk} (h : varR p l = some (x, r)) : isK 9 l = true ∨ isK 11 l = true := by
  unfold varR at h
  split at h
  · rename_i h9; exact .inl h9
  · obtain ⟨t, s, h1, h2⟩ := thn_is h
    obtain ⟨rfl, hk⟩ := nxt_of h1
    exact .inr (isK_put hk _)
theorem isK_twoH {j k : Int} (h : j ≠ k) {l : List Tk} (hk : isK k l = true) : isK j l = false := by
  cases l with
  | nil => rfl
  | cons t r =>
    have : t.k = k := by simpa [isK] using hk
    simp [isK, this]; exact fun e => h e.symm
theorem single_first {l : List Tk} {x : TestD} {r : List Tk} (h : singleR l = some (x, r)) : isK 9 l = true ∨ isK 11 l = true ∨ isK 10 l = true := by
  unfold singleR at h
  split at h
  · rename_i h10; exact .inr (.inr h10)
  · rcases var_first h with h | h
    · exact .inl h
    · exact .inr (.inl h)
theorem single_not {k : Int} (hk : k < 9) {l : List Tk} {x : TestD} {r : List Tk} (h : singleR l = some (x, r)) : isK k l = false := by
  rcases single_first h with h | h | h
  · exact isK_twoH (by omega) h
  · exact isK_twoH (by omega) h
  · exact isK_twoH (by omega) h
theorem val_first {l : List Tk} {x : VD} {r : List Tk} (h : valR l = some (x, r)) : isK 11 l = true := by
  obtain ⟨t, s, h1, h2⟩ := thn_is h
  obtain ⟨rfl, hk⟩ := nxt_of h1
  exact isK_put hk _
theorem name_first {l : List Tk} {x : Str} {r : List Tk} (h : nameR l = some (x, r)) : isK 11 l = true := by
  obtain ⟨t, s, h1, h2⟩ := thn_is h
  obtain ⟨rfl, hk⟩ := nxt_of h1
  exact isK_put hk _
theorem pcr_fix {k : Int} (h : k = 2 ∨ k = 3 ∨ k = 4 ∨ k = 5 ∨ k = 6) : PcR [tok0 k] (32 :: txtL (tok0 k)) := (pc_tok (.fix k (by omega)) (by show k ≠ 7; omega)).row
theorem fix_wt {t : Tk} {k : Int} (h : t = tok0 k) (r : List Tk) : wt (t :: r) = (txtL (tok0 k)).length + 1 + wt r := by rw [wt_cons, h]
theorem all_cons' {p : Tk → Prop} {t : Tk} {l : List Tk} (h : p t) (k : ∀ x ∈ l, p x) : ∀ x ∈ t :: l, p x := fun x hx => (List.mem_cons.1 hx).elim (fun e => e ▸ h) (k x)
theorem attr_first {l : List Tk} {x : AttrD} {r : List Tk} (h : attrR l = some (x, r)) : isK 8 l = true := by
  obtain ⟨t, s, h1, h2⟩ := thn_is h
  obtain ⟨rfl, hk⟩ := nxt_of h1
  exact isK_put hk _
section
variable {sv : VD → Str} (hsv : ∀ t, IsTok t → t.k = 11 → sv (vdT t) = txtL t)
include hsv
theorem can_attr : Can attrR any_ (shTest sv) := by
  intro l x r hl h
  obtain ⟨t, s, h1, h2⟩ := thn_is h
  obtain ⟨rfl, hk⟩ := nxt_of h1
  obtain ⟨ht, hs⟩ := all_cons hl
  obtain ⟨e, hne⟩ := tok_name ht (.inl hk)
  rw [hk] at e
  have ep : txtL t = 94 :: t.nm := by rw [e]; rfl
  have put : ∀ m, attrR (t :: m) = askR t.nm m := fun m => by show thn (nxt 8) _ (t :: m) = _; rw [thn_of (nxt_put hk m)]
  have head : Pc [t] (94 :: t.nm) := by rw [← ep]; exact pc_tok ht (by omega)
  -- one single test
  have one : ∀ (y : TestD) (u : List Tk) (ts : List Tk), Pc ts (shSingle sv y) → (∀ t ∈ ts, IsTok t) → (∀ m, singleR (ts ++ m) = some (y, m)) → ∀ m, attrR ((t :: ts) ++ m) = some (⟨t.nm, [], [y]⟩, m) := by
    intro y u ts c1 c2 c3 m
    rw [List.cons_append, put]
    unfold askR
    rw [if_neg (by rw [single_not (by omega) (c3 m)]; simp), if_neg (by rw [single_not (by omega) (c3 m)]; simp), thn_of (c3 m)]
    rfl
  have oneP : ∀ (y : TestD) (ts : List Tk), Pc ts (shSingle sv y) → Pc (t :: ts) (shTest sv ⟨t.nm, [], [y]⟩) := by
    intro y ts c1
    unfold shTest
    rw [if_neg (by simp), if_pos (show [y].length = 1 from rfl)]
    show Pc ([t] ++ ts) (94 :: t.nm ++ spJ [shSingle sv y])
    rw [spJ_cons, spJ_nil, List.append_nil]
    exact head.app c1.row
  unfold askR at h2
  split at h2
  · rename_i h4
    obtain ⟨u, s2, h5, h6⟩ := thn_is h2
    obtain ⟨rfl, hk4⟩ := nxt_of h5
    obtain ⟨hu, hs2⟩ := all_cons hs
    obtain ⟨vs, s3, h7, h8⟩ := thn_is h6
    obtain ⟨v, s4, h9, h10⟩ := thn_is h7
    obtain ⟨ws, s5, h11, h12⟩ := thn_is h10
    obtain ⟨rfl, rfl⟩ := Prod.mk.inj (Option.some.inj h12)
    obtain ⟨u5, s6, h13, h14⟩ := thn_is h8
    obtain ⟨rfl, hk5⟩ := nxt_of h13
    obtain ⟨rfl, rfl⟩ := Prod.mk.inj (Option.some.inj h14)
    obtain ⟨⟨tv, c1, c2, c3, c4⟩, c5⟩ := can_val hsv s2 v s4 hs2 h9
    obtain ⟨⟨tw, d1, d2, d3, d4⟩, d5⟩ := can_while (can_val hsv) valR_eats (fun _ _ _ h => val_first h) _ s4 ws _ c5 h11
    obtain ⟨hu5, hs6⟩ := all_cons d5
    have e4 := tok_sign hu hk4 (by omega)
    have e5 := tok_sign hu5 hk5 (by omega)
    refine ⟨⟨t :: tok0 4 :: (tv ++ (tw ++ [tok0 5])), ?_, ?_, fun m _ => ?_, ?_⟩, hs6⟩
    · unfold shTest
      rw [if_pos (by simp)]
      show Pc ([t] ++ ([tok0 4] ++ (tv ++ (tw ++ [tok0 5])))) (94 :: t.nm ++ ([32, 60, 60] ++ spJ ((v :: ws).map sv) ++ [32, 62, 62]))
      rw [List.map_cons, spJ_cons, List.append_assoc, List.append_assoc]
      exact head.app ((pcr_fix (k := 4) (by simp)).app (c1.row.app (d1.app (pcr_fix (k := 5) (by simp)))))
    · exact all_cons' ht (all_cons' (.fix 4 (by simp)) (all_app c2 (all_app d2 (all_one (.fix 5 (by simp))))))
    · rw [List.cons_append, put, List.cons_append]
      unfold askR
      rw [if_pos (isK_fix 4 _), thn_of (nxt_fix 4 _)]
      rw [List.append_assoc, List.append_assoc]
      have hw := d3 ([tok0 5] ++ m) rfl
      have hc := c3 (tw ++ ([tok0 5] ++ m)) trivial
      have hlt := valR_eats.len hc
      rw [thn_of (a := v :: ws) (s := [tok0 5] ++ m) (by
        rw [thn_of hc, thn_of (hw _ (by omega))]; rfl)]
      rw [List.cons_append, List.nil_append, thn_of (nxt_fix 5 m)]; rfl
    · simp only [wt_cons, wt_app, wt_nil, e4, e5] at c4 d4 ⊢
      omega
  · split at h2
    · rename_i h4 hb
      obtain ⟨u, s2, h5, h6⟩ := thn_is h2
      obtain ⟨rfl, hk2⟩ := nxt_of h5
      obtain ⟨hu, hs2⟩ := all_cons hs
      obtain ⟨xs, s3, h7, h8⟩ := thn_is h6
      obtain ⟨u3, s4, h9, h10⟩ := thn_is h8
      obtain ⟨rfl, hk3⟩ := nxt_of h9
      obtain ⟨rfl, rfl⟩ := Prod.mk.inj (Option.some.inj h10)
      have e2 := tok_sign hu hk2 (by omega)
      by_cases h1l : xs.length = 1
      · obtain ⟨y, rfl⟩ := List.length_eq_one_iff.1 h1l
        have hsi : singleR s2 = some (y, u3 :: s4) := by
          have h7' := h7
          unfold untilR at h7'
          obtain ⟨a, v, g1, g2⟩ := thn_is h7'
          split at g2
          · obtain ⟨g3, g4⟩ := Prod.mk.inj (Option.some.inj g2)
            rw [g1]; simp only [List.cons.injEq, and_true] at g3; rw [g3, g4]
          · obtain ⟨as_, w, g3, g4⟩ := thn_is g2
            obtain ⟨g5, g6⟩ := Prod.mk.inj (Option.some.inj g4)
            simp only [List.cons.injEq] at g5
            have := (can_until (k := 3) (can_single hsv) singleR_eats (fun _ _ _ h => single_not (by omega) h) _ v as_ w (fun t ht => (can_single hsv s2 a v hs2 g1).2 t ht) g3).1
            obtain ⟨_, q, _⟩ := this
            exact absurd g5.2 q
        obtain ⟨⟨ts, c1, c2, c3, c4⟩, c5⟩ := can_single hsv s2 y _ hs2 hsi
        obtain ⟨hu3, hs4⟩ := all_cons c5
        refine ⟨⟨t :: ts, oneP y ts c1, all_cons' ht c2, fun m _ => one y [] ts c1 c2 (fun m => c3 m trivial) m, ?_⟩, hs4⟩
        rw [wt_cons, wt_cons, wt_cons] at *
        omega
      · obtain ⟨⟨ts, c0, c1, c2, c3, c6, c4⟩, c5⟩ := can_until (k := 3) (can_single hsv) singleR_eats (fun _ _ _ h => single_not (by omega) h) _ s2 xs _ hs2 h7
        obtain ⟨hu3, hs4⟩ := all_cons c5
        have e3 := tok_sign hu3 hk3 (by omega)
        refine ⟨⟨t :: tok0 2 :: (ts ++ [tok0 3]), ?_, ?_, fun m _ => ?_, ?_⟩, hs4⟩
        · unfold shTest
          rw [if_neg (by simp), if_neg h1l]
          show Pc ([t] ++ ([tok0 2] ++ (ts ++ [tok0 3]))) (94 :: t.nm ++ ([32, 123] ++ spJ (xs.map (shSingle sv)) ++ [32, 125]))
          rw [List.append_assoc]
          exact head.app ((pcr_fix (k := 2) (by simp)).app (c1.app (pcr_fix (k := 3) (by simp))))
        · exact all_cons' ht (all_cons' (.fix 2 (by simp)) (all_app c2 (all_one (.fix 3 (by simp)))))
        · rw [List.cons_append, put, List.cons_append]
          unfold askR
          rw [if_neg (isK_nfix (k := 2) (by decide) _), if_pos (isK_fix 2 _), thn_of (nxt_fix 2 _)]
          rw [List.append_assoc]
          rw [thn_of (c3 ([tok0 3] ++ m) rfl _ (Nat.lt_succ_self _))]
          rw [List.cons_append, List.nil_append, thn_of (nxt_fix 3 m)]; rfl
        · simp only [wt_cons, wt_app, wt_nil, e2, e3] at c4 ⊢
          omega
    · rename_i h4 hb
      obtain ⟨y, s2, h5, h6⟩ := thn_is h2
      obtain ⟨rfl, rfl⟩ := Prod.mk.inj (Option.some.inj h6)
      obtain ⟨⟨ts, c1, c2, c3, c4⟩, c5⟩ := can_single hsv s y _ hs h5
      refine ⟨⟨t :: ts, oneP y ts c1, all_cons' ht c2, fun m _ => one y [] ts c1 c2 (fun m => c3 m trivial) m, ?_⟩, c5⟩
      rw [wt_cons, wt_cons] at *
      omega
theorem can_cond2 (neg : Bool) : ∀ l x r, (∀ t ∈ l, IsTok t) → cond2R neg l = some (x, r) → x.neg = neg ∧
    (∃ ts, Pc (tok0 0 :: ts) (40 :: x.c ++ spJ (x.attrs.map (shTest sv)) ++ [41]) ∧ (∀ t ∈ ts, IsTok t) ∧ (∀ m, cond2R neg (tok0 0 :: (ts ++ m)) = some (x, m)) ∧ wt (tok0 0 :: ts) + wt r ≤ wt l) ∧ (∀ t ∈ r, IsTok t) ∧ isK 0 l = true := by
  intro l x r hl h
  obtain ⟨t, s, h1, h2⟩ := thn_is h
  obtain ⟨rfl, hk⟩ := nxt_of h1
  obtain ⟨ht, hs⟩ := all_cons hl
  have e0 := tok_sign ht hk (by omega)
  obtain ⟨c, s2, h3, h4⟩ := thn_is h2
  obtain ⟨⟨tn, c1, c2, c3, c4⟩, c5⟩ := can_name s c s2 hs h3
  obtain ⟨as_, s3, h5, h6⟩ := thn_is h4
  obtain ⟨⟨ta, d1, d2, d3, d4⟩, d5⟩ := can_while (can_attr hsv) attrR_eats (fun _ _ _ h => attr_first h) _ s2 as_ _ c5 h5
  obtain ⟨u, s4, h7, h8⟩ := thn_is h6
  obtain ⟨rfl, hk1⟩ := nxt_of h7
  obtain ⟨rfl, rfl⟩ := Prod.mk.inj (Option.some.inj h8)
  obtain ⟨hu, hs4⟩ := all_cons d5
  have e1 := tok_sign hu hk1 (by omega)
  refine ⟨rfl, ⟨tn ++ ta ++ [tok0 1], ?_, all_app (all_app c2 d2) (all_one (.fix 1 (by simp))), fun m => ?_, ?_⟩, hs4, isK_put hk _⟩
  · exact (c1.app d1).close.open
  · unfold cond2R
    rw [thn_of (nxt_fix 0 _)]
    rw [List.append_assoc, List.append_assoc, thn_of (c3 _ trivial)]
    rw [thn_of (d3 ([tok0 1] ++ m) rfl _ (Nat.lt_succ_self _))]
    rw [List.cons_append, List.nil_append, thn_of (nxt_fix 1 m)]; rfl
  · rw [fix_wt e1] at d4
    rw [fix_wt e0, wt_cons, wt_app, wt_app, wt_cons, wt_nil]
    omega
theorem can_cond : Can condR any_ (shCond sv) := by
  intro l x r hl h
  unfold condR at h
  split at h
  · rename_i h7
    obtain ⟨t, s, h1, h2⟩ := thn_is h
    obtain ⟨rfl, hk⟩ := nxt_of h1
    obtain ⟨ht, hs⟩ := all_cons hl
    have e7 := tok_sign ht hk (by omega)
    obtain ⟨c0, ⟨ts, c1, c2, c3, c4⟩, c5, c6⟩ := can_cond2 hsv true s x r hs h2
    refine ⟨⟨tok0 7 :: tok0 0 :: ts, ?_, all_cons' (.fix 7 (by simp)) (all_cons' (.fix 0 (by simp)) c2), fun m _ => ?_, ?_⟩, c5⟩
    · unfold shCond
      rw [if_pos c0]
      exact c1.not
    · rw [List.cons_append, List.cons_append]
      unfold condR
      rw [if_pos (isK_fix 7 _), thn_of (nxt_fix 7 _)]
      exact c3 m
    · rw [fix_wt e7, wt_cons]; omega
  · rename_i h7
    obtain ⟨c0, ⟨ts, c1, c2, c3, c4⟩, c5, c6⟩ := can_cond2 hsv false l x r hl h
    refine ⟨⟨tok0 0 :: ts, ?_, all_cons' (.fix 0 (by simp)) c2, fun m _ => ?_, c4⟩, c5⟩
    · unfold shCond
      rw [if_neg (by rw [c0]; simp)]
      exact c1
    · rw [List.cons_append]
      unfold condR
      rw [if_neg (isK_nfix (k := 0) (by decide) _)]
      exact c3 m
theorem cond_first {l : List Tk} {x : CondD} {r : List Tk} (hl : ∀ t ∈ l, IsTok t) (h : condR l = some (x, r)) : isK 6 l = false := by
  unfold condR at h
  split at h
  · rename_i h7; exact isK_twoH (by decide) h7
  · exact isK_twoH (by decide) (can_cond2 hsv false l x r hl h).2.2.2
end
end Go.Proofs.YtemacdimdpnkeaaGreatDoor
namespace Go.Proofs.YtemacdimdpnkeaaGreatDoor
set_option maxRecDepth 20000
open Go.Lib
set_option linter.unusedVariables false
theorem op_sg {s : Str} (h : opK s ≠ 0) : sgS (opK s) = s ∧ opK s ≠ 1 := by
  unfold opK at *
  repeat' split at h
  all_goals first
    | (exact absurd rfl h)
    | (rename_i e; subst e; exact ⟨rfl, by decide⟩)
    | (rename_i e1 e; subst e; exact ⟨rfl, by decide⟩)
    | (rename_i e1 e2 e; subst e; exact ⟨rfl, by decide⟩)
theorem expr_first {n : Nat} {l : List Tk} {x : List ItemD × Nat} {r : List Tk} (h : exprR n l = some (x, r)) : l ≠ [] ∧ isK 1 l = false := by
  cases n with
  | zero => cases h
  | succ n =>
    unfold exprR at h
    split at h
    · rename_i h9; exact ⟨fun e => by subst e; simp [isK] at h9, isK_twoH (by decide) h9⟩
    · split at h
      · rename_i h9 h11; exact ⟨fun e => by subst e; simp [isK] at h11, isK_twoH (by decide) h11⟩
      · obtain ⟨t, s, h1, h2⟩ := thn_is h
        obtain ⟨rfl, hk⟩ := nxt_of h1
        exact ⟨by simp, isK_twoH (j := 1) (by decide) (isK_put hk _)⟩
theorem act_first {l : List Tk} {x : ActD × Nat} {r : List Tk} (h : actR l = some (x, r)) : isK 0 l = true := by
  obtain ⟨t, s, h1, h2⟩ := thn_is h
  obtain ⟨rfl, hk⟩ := nxt_of h1
  exact isK_put hk _
section
variable {sv : VD → Str} (hsv : ∀ t, IsTok t → t.k = 11 → sv (vdT t) = txtL t)
include hsv
theorem can_expr : ∀ (n : Nat) (l : List Tk) (x : List ItemD × Nat) (r : List Tk), (∀ t ∈ l, IsTok t) → exprR n l = some (x, r) →
    (∃ ts s, (∀ P rest, shPile sv P (x.1 ++ rest) = shPile sv (P ++ [s]) rest) ∧ Pc ts s ∧ (∀ t ∈ ts, IsTok t) ∧ (∀ m N, (ts ++ m).length < N → exprR N (ts ++ m) = some (x, m)) ∧ wt ts + wt r ≤ wt l) ∧ ∀ t ∈ r, IsTok t
  | 0, l, x, r, hl, h => by cases h
  | n + 1, l, x, r, hl, h => by
    unfold exprR at h
    split at h
    · obtain ⟨t, s, h1, h2⟩ := thn_is h
      obtain ⟨rfl, hk⟩ := nxt_of h1
      obtain ⟨ht, hs⟩ := all_cons hl
      obtain ⟨rfl, rfl⟩ := Prod.mk.inj (Option.some.inj h2)
      obtain ⟨e, hne⟩ := tok_name ht (.inr hk)
      rw [hk] at e
      have ep : txtL t = 60 :: (t.nm ++ [62]) := by rw [e]; rfl
      refine ⟨⟨[t], txtL t, fun P rest => ?_, pc_tok ht (by omega), all_one ht, fun m N hN => ?_, by rw [wt_cons, wt_nil, wt_cons]; omega⟩, hs⟩
      · show shPile sv P (⟨1, v0, t.nm⟩ :: rest) = _
        rw [shPile, if_neg (by show ¬ (1 : Int) = 0; decide), if_pos rfl, ep]
      · obtain ⟨M, rfl⟩ : ∃ M, N = M + 1 := ⟨N - 1, by omega⟩
        rw [List.cons_append, List.nil_append]
        unfold exprR
        rw [if_pos (isK_put hk m), thn_of (nxt_put hk m)]; rfl
    · split at h
      · obtain ⟨t, s, h1, h2⟩ := thn_is h
        obtain ⟨rfl, hk⟩ := nxt_of h1
        obtain ⟨ht, hs⟩ := all_cons hl
        obtain ⟨rfl, rfl⟩ := Prod.mk.inj (Option.some.inj h2)
        refine ⟨⟨[t], txtL t, fun P rest => ?_, pc_tok ht (by omega), all_one ht, fun m N hN => ?_, by rw [wt_cons, wt_nil, wt_cons]; omega⟩, hs⟩
        · show shPile sv P (⟨0, vdT t, []⟩ :: rest) = _
          rw [shPile, if_pos rfl, hsv t ht hk]
        · obtain ⟨M, rfl⟩ : ∃ M, N = M + 1 := ⟨N - 1, by omega⟩
          rw [List.cons_append, List.nil_append]
          unfold exprR
          rw [if_neg (isK_not (by omega) m), if_pos (isK_put hk m), thn_of (nxt_put hk m)]; rfl
      · obtain ⟨t, s, h1, h2⟩ := thn_is h
        obtain ⟨rfl, hk⟩ := nxt_of h1
        obtain ⟨ht, hs⟩ := all_cons hl
        have e0 := tok_sign ht hk (by omega)
        obtain ⟨w, s2, h3, h4⟩ := thn_is h2
        obtain ⟨⟨tn, c1, c2, c3, c4⟩, c5⟩ := can_name s w s2 hs h3
        split at h4
        · cases h4
        · rename_i ho
          obtain ⟨hsg, ho1⟩ := op_sg ho
          obtain ⟨a, s3, h5, h6⟩ := thn_is h4
          obtain ⟨b, s4, h7, h8⟩ := thn_is h6
          obtain ⟨u, s5, h9, h10⟩ := thn_is h8
          obtain ⟨rfl, hk1⟩ := nxt_of h9
          obtain ⟨rfl, rfl⟩ := Prod.mk.inj (Option.some.inj h10)
          obtain ⟨⟨ta, sa, a1, a2, a3, a4, a5⟩, a6⟩ := can_expr n s2 a s3 c5 h5
          obtain ⟨⟨tb, sb, b1, b2, b3, b4, b5⟩, b6⟩ := can_expr n s3 b _ a6 h7
          obtain ⟨hu, hs5⟩ := all_cons b6
          have e1 := tok_sign hu hk1 (by omega)
          refine ⟨⟨tok0 0 :: ((tn ++ ta) ++ tb ++ [tok0 1]), 40 :: ((w ++ 32 :: sa) ++ 32 :: sb ++ [41]), fun P rest => ?_, ((c1.app a2.row).app b2.row).close.open, all_cons' (.fix 0 (by simp)) (all_app (all_app (all_app c2 a3) b3) (all_one (.fix 1 (by simp)))), fun m N hN => ?_, ?_⟩, hs5⟩
          · show shPile sv P (a.1 ++ b.1 ++ [⟨opK w, v0, []⟩] ++ rest) = _
            rw [List.append_assoc, List.append_assoc, a1, b1, List.cons_append, List.nil_append, shPile, if_neg ho, if_neg ho1]
            have hw : w ≠ [] := fun e => ho (by rw [e]; rfl)
            have hlen : (P ++ [sa] ++ [sb]).length = P.length + 2 := by simp
            rw [if_neg (by rw [hsg, hlen]; simp [hw]), hlen, hsg]
            have g1 : (P ++ [sa] ++ [sb]).take (P.length + 2 - 2) = P := by simp
            have g2 : (P ++ [sa] ++ [sb]).getD (P.length + 2 - 2) [] = sa := by simp
            have g3 : (P ++ [sa] ++ [sb]).getD (P.length + 2 - 1) [] = sb := by simp
            rw [g1, g2, g3]
            simp
          · obtain ⟨M, rfl⟩ : ∃ M, N = M + 1 := ⟨N - 1, by omega⟩
            rw [List.cons_append, List.append_assoc, List.append_assoc, List.append_assoc] at hN ⊢
            unfold exprR
            rw [if_neg (isK_nfix (k := 0) (by decide) _), if_neg (isK_nfix (k := 0) (by decide) _), thn_of (nxt_fix 0 _)]
            have hn := c3 (ta ++ (tb ++ ([tok0 1] ++ m))) trivial
            have l1 := nameR_eats.len hn
            simp only [List.length_cons] at hN
            have ha := a4 (tb ++ ([tok0 1] ++ m)) M (by omega)
            have l2 := (exprR_eats M).len ha
            have hb := b4 ([tok0 1] ++ m) M (by omega)
            rw [thn_of hn, if_neg ho, thn_of ha, thn_of hb, List.cons_append, List.nil_append, thn_of (nxt_fix 1 m)]
            rfl
          · simp only [wt_cons, wt_app, wt_nil, e0, e1] at c4 a5 b5 ⊢
            omega
theorem can_ex {l : List Tk} {x : List ItemD × Nat} {r : List Tk} (hl : ∀ t ∈ l, IsTok t) (h : exR l = some (x, r)) :
    (∃ ts, Pc ts (shE sv x.1) ∧ (∀ t ∈ ts, IsTok t) ∧ (∀ m, exR (ts ++ m) = some (x, m)) ∧ wt ts + wt r ≤ wt l) ∧ ∀ t ∈ r, IsTok t := by
  obtain ⟨⟨ts, s, a1, a2, a3, a4, a5⟩, a6⟩ := can_expr hsv _ l x r hl h
  refine ⟨⟨ts, ?_, a3, fun m => a4 m _ (Nat.lt_succ_self _), a5⟩, a6⟩
  have : shE sv x.1 = s := by
    have := a1 [] []
    rw [List.append_nil] at this
    unfold shE shExpr
    rw [this]; rfl
  rw [this]; exact a2
theorem can_set : Can setR any_ (fun x => shSet sv x.1) := by
  intro l x r hl h
  obtain ⟨t, s, h1, h2⟩ := thn_is h
  obtain ⟨rfl, hk⟩ := nxt_of h1
  obtain ⟨ht, hs⟩ := all_cons hl
  obtain ⟨e, hne⟩ := tok_name ht (.inl hk)
  rw [hk] at e
  have ep : txtL t = 94 :: t.nm := by rw [e]; rfl
  obtain ⟨y, s2, h3, h4⟩ := thn_is h2
  obtain ⟨rfl, rfl⟩ := Prod.mk.inj (Option.some.inj h4)
  obtain ⟨⟨ts, a2, a3, a4, a5⟩, a6⟩ := can_ex hsv hs h3
  refine ⟨⟨t :: ts, ?_, all_cons' ht a3, fun m _ => ?_, by simp only [wt_cons]; omega⟩, a6⟩
  · have head : Pc [t] (94 :: t.nm) := by rw [← ep]; exact pc_tok ht (by omega)
    exact head.app a2.row
  · rw [List.cons_append]
    unfold setR
    rw [thn_of (nxt_put hk _), thn_of (a4 m)]; rfl
theorem can_sets : CanR setsR (fun m => isK 8 m = false) (fun x => spJ (x.1.map (shSet sv))) := by
  intro l x r hl h
  obtain ⟨xs, s, h1, h2⟩ := thn_is h
  obtain ⟨rfl, rfl⟩ := Prod.mk.inj (Option.some.inj h2)
  obtain ⟨⟨ts, d1, d2, d3, d4⟩, d5⟩ := can_while (can_set hsv) setR_eats (fun l x r h => by
    obtain ⟨t, s, h1, h2⟩ := thn_is h
    obtain ⟨rfl, hk⟩ := nxt_of h1
    exact isK_put hk _) _ l xs _ hl h1
  refine ⟨⟨ts, by show PcR ts (spJ ((xs.map Prod.fst).map (shSet sv))); rw [List.map_map]; exact d1, d2, fun m hm => ?_, d4⟩, d5⟩
  unfold setsR
  rw [thn_of (d3 m hm _ (Nat.lt_succ_self _))]; rfl
theorem can_exprs : ∀ (n : Nat) (l : List Tk) (x : List (List ItemD) × Nat) (r : List Tk), (∀ t ∈ l, IsTok t) → exprsR n l = some (x, r) →
    (∃ ts, PcR ts (spJ (x.1.map (shE sv))) ∧ (∀ t ∈ ts, IsTok t) ∧ (∀ m, isK 1 m = true → ∀ N, (ts ++ m).length < N → exprsR N (ts ++ m) = some (x, m)) ∧ wt ts + wt r ≤ wt l) ∧ ∀ t ∈ r, IsTok t
  | 0, l, x, r, hl, h => by cases h
  | n + 1, l, x, r, hl, h => by
    unfold exprsR at h
    split at h
    · obtain ⟨rfl, rfl⟩ := Prod.mk.inj (Option.some.inj h)
      refine ⟨⟨[], pcr_nil, by simp, fun m hm N hN => ?_, by rw [wt_nil]; omega⟩, hl⟩
      obtain ⟨M, rfl⟩ : ∃ M, N = M + 1 := ⟨N - 1, by omega⟩
      unfold exprsR
      rw [List.nil_append, if_pos (.inr hm)]
    · obtain ⟨a, u, h1, h2⟩ := thn_is h
      obtain ⟨b, v, h3, h4⟩ := thn_is h2
      obtain ⟨rfl, rfl⟩ := Prod.mk.inj (Option.some.inj h4)
      obtain ⟨⟨ts, c1, c2, c3, c4⟩, c5⟩ := can_ex hsv hl h1
      obtain ⟨⟨us, d1, d2, d3, d4⟩, d5⟩ := can_exprs n u b _ c5 h3
      refine ⟨⟨ts ++ us, by rw [List.map_cons, spJ_cons]; exact c1.row.app d1, all_app c2 d2, fun m hm N hN => ?_, by rw [wt_app]; omega⟩, d5⟩
      have hf := c3 (us ++ m)
      have hlt := exR_eats.len hf
      rw [List.append_assoc] at hN ⊢
      obtain ⟨M, rfl⟩ : ∃ M, N = M + 1 := ⟨N - 1, by omega⟩
      have hfi := expr_first hf
      unfold exprsR
      rw [if_neg (by rw [hfi.2]; simp [hfi.1]), thn_of hf, thn_of (d3 m hm M (by omega))]
      rfl
theorem can_act : Can actR any_ (fun x => shAct sv x.1) := by
  intro l x r hl h
  obtain ⟨t, s, h1, h2⟩ := thn_is h
  obtain ⟨rfl, hk⟩ := nxt_of h1
  obtain ⟨ht, hs⟩ := all_cons hl
  have e0 := tok_sign ht hk (by omega)
  obtain ⟨w, s2, h3, h4⟩ := thn_is h2
  obtain ⟨⟨tn, c1, c2, c3, c4⟩, c5⟩ := can_name s w s2 hs h3
  obtain ⟨y, s3, h5, h6⟩ := thn_is h4
  obtain ⟨u, s4, h7, h8⟩ := thn_is h6
  obtain ⟨rfl, hk1⟩ := nxt_of h7
  obtain ⟨rfl, rfl⟩ := Prod.mk.inj (Option.some.inj h8)
  -- what stands between the name and the Close
  have body : (∃ ts q, shAct sv y.1 = 40 :: (w ++ q ++ [41]) ∧ PcR ts q ∧ (∀ t ∈ ts, IsTok t) ∧ (∀ m, isK 1 m = true → isK 8 m = false → bodyR w (ts ++ m) = some (y, m)) ∧ wt ts + wt (u :: s4) ≤ wt s2) ∧ ∀ t ∈ u :: s4, IsTok t := by
    unfold bodyR at h5
    by_cases w1 : w = sMake
    · rw [if_pos w1] at h5
      subst w1
      obtain ⟨c, v, g1, g2⟩ := thn_is h5
      obtain ⟨z, v2, g3, g4⟩ := thn_is g2
      obtain ⟨rfl, rfl⟩ := Prod.mk.inj (Option.some.inj g4)
      obtain ⟨⟨tc, d1, d2, d3, d4⟩, d5⟩ := can_name s2 c v c5 g1
      obtain ⟨⟨tz, f1, f2, f3, f4⟩, f5⟩ := can_sets hsv v z _ d5 g3
      refine ⟨⟨tc ++ tz, (32 :: c) ++ spJ (z.1.map (shSet sv)), ?_, d1.row.app f1, all_app d2 f2, fun m hm h8 => ?_, by rw [wt_app]; omega⟩, f5⟩
      · show 40 :: sMake ++ 32 :: c ++ spJ (z.1.map (shSet sv)) ++ [41] = _
        simp
      · unfold bodyR
        rw [if_pos rfl, List.append_assoc, thn_of (d3 _ trivial), thn_of (f3 m h8)]; rfl
    · rw [if_neg w1] at h5
      by_cases w2 : w = sModify
      · rw [if_pos w2] at h5
        subst w2
        obtain ⟨c, v, g1, g2⟩ := thn_is h5
        obtain ⟨z, v2, g3, g4⟩ := thn_is g2
        obtain ⟨rfl, rfl⟩ := Prod.mk.inj (Option.some.inj g4)
        obtain ⟨⟨tc, d1, d2, d3, d4⟩, d5⟩ := can_num s2 c v c5 g1
        obtain ⟨⟨tz, f1, f2, f3, f4⟩, f5⟩ := can_sets hsv v z _ d5 g3
        refine ⟨⟨tc ++ tz, (32 :: itoa c) ++ spJ (z.1.map (shSet sv)), ?_, d1.row.app f1, all_app d2 f2, fun m hm h8 => ?_, by rw [wt_app]; omega⟩, f5⟩
        · show 40 :: sModify ++ 32 :: itoa c ++ spJ (z.1.map (shSet sv)) ++ [41] = _
          simp
        · unfold bodyR
          rw [if_neg w1, if_pos rfl, List.append_assoc, thn_of (d3 _ trivial), thn_of (f3 m h8)]; rfl
      · rw [if_neg w2] at h5
        by_cases w3 : w = sRemove
        · rw [if_pos w3] at h5
          subst w3
          obtain ⟨c, v, g1, g2⟩ := thn_is h5
          obtain ⟨rfl, rfl⟩ := Prod.mk.inj (Option.some.inj g2)
          obtain ⟨⟨tc, d1, d2, d3, d4⟩, d5⟩ := can_num s2 c _ c5 g1
          refine ⟨⟨tc, 32 :: itoa c, ?_, d1.row, d2, fun m hm h8 => ?_, d4⟩, d5⟩
          · show 40 :: sRemove ++ 32 :: itoa c ++ [41] = _
            simp
          · unfold bodyR
            rw [if_neg w1, if_neg w2, if_pos rfl, thn_of (d3 _ trivial)]; rfl
        · rw [if_neg w3] at h5
          by_cases w4 : w = sBind
          · rw [if_pos w4] at h5
            subst w4
            obtain ⟨c, v, g1, g2⟩ := thn_is h5
            obtain ⟨rfl, hk9⟩ := nxt_of g1
            obtain ⟨hc, hv⟩ := all_cons c5
            obtain ⟨z, v2, g3, g4⟩ := thn_is g2
            obtain ⟨rfl, rfl⟩ := Prod.mk.inj (Option.some.inj g4)
            obtain ⟨e, hne⟩ := tok_name hc (.inr hk9)
            rw [hk9] at e
            have ep : txtL c = 60 :: (c.nm ++ [62]) := by rw [e]; rfl
            have head : Pc [c] (60 :: (c.nm ++ [62])) := by rw [← ep]; exact pc_tok hc (by omega)
            obtain ⟨⟨tz, f1, f2, f3, f4⟩, f5⟩ := can_ex hsv hv g3
            refine ⟨⟨c :: tz, (32 :: 60 :: (c.nm ++ [62])) ++ (32 :: shE sv z.1), ?_, head.row.app f1.row, all_cons' hc f2, fun m hm h8 => ?_, by simp only [wt_cons] at *; omega⟩, f5⟩
            · show 40 :: sBind ++ 32 :: 60 :: (c.nm ++ [62]) ++ spJ [shE sv z.1] ++ [41] = _
              rw [spJ_cons, spJ_nil]
              simp
            · unfold bodyR
              rw [if_neg w1, if_neg w2, if_neg w3, if_pos rfl, List.cons_append, thn_of (nxt_put hk9 _), thn_of (f3 m)]; rfl
          · rw [if_neg w4] at h5
            by_cases w5 : w = sWrite
            · rw [if_pos w5] at h5
              subst w5
              obtain ⟨z, v2, g3, g4⟩ := thn_is h5
              obtain ⟨rfl, rfl⟩ := Prod.mk.inj (Option.some.inj g4)
              obtain ⟨⟨tz, f1, f2, f3, f4⟩, f5⟩ := can_exprs hsv _ s2 z _ c5 g3
              refine ⟨⟨tz, spJ (z.1.map (shE sv)), ?_, f1, f2, fun m hm h8 => ?_, f4⟩, f5⟩
              · show 40 :: sWrite ++ spJ (z.1.map (shE sv)) ++ [41] = _
                simp
              · unfold bodyR
                rw [if_neg w1, if_neg w2, if_neg w3, if_neg w4, if_pos rfl, thn_of (f3 m hm _ (Nat.lt_succ_self _))]; rfl
            · rw [if_neg w5] at h5
              by_cases w6 : w = sHalt
              · rw [if_pos w6] at h5
                subst w6
                obtain ⟨rfl, rfl⟩ := Prod.mk.inj (Option.some.inj h5)
                refine ⟨⟨[], [], rfl, pcr_nil, by simp, fun m hm h8 => ?_, by rw [wt_nil]; omega⟩, c5⟩
                unfold bodyR
                rw [if_neg w1, if_neg w2, if_neg w3, if_neg w4, if_neg w5, if_pos rfl]; rfl
              · rw [if_neg w6] at h5; cases h5
  obtain ⟨⟨ts, q, b1, b2, b3, b4, b5⟩, b6⟩ := body
  obtain ⟨hu, hs4⟩ := all_cons b6
  have e1 := tok_sign hu hk1 (by omega)
  refine ⟨⟨tok0 0 :: (tn ++ ts ++ [tok0 1]), ?_, all_cons' (.fix 0 (by simp)) (all_app (all_app c2 b3) (all_one (.fix 1 (by simp)))), fun m _ => ?_, ?_⟩, hs4⟩
  · show Pc _ (shAct sv y.1)
    rw [b1]
    exact (c1.app b2).close.open
  · rw [List.cons_append, List.append_assoc, List.append_assoc]
    unfold actR
    rw [thn_of (nxt_fix 0 _), thn_of (c3 _ trivial), thn_of (b4 _ rfl rfl), List.cons_append, List.nil_append, thn_of (nxt_fix 1 m)]; rfl
  · simp only [wt_cons, wt_app, wt_nil, e0, e1] at c4 b5 ⊢
    omega
end
end Go.Proofs.YtemacdimdpnkeaaGreatDoor
namespace Go.Proofs.YtemacdimdpnkeaaGreatDoor
set_option maxRecDepth 20000
open Go.Lib
set_option linter.unusedVariables false
theorem can_class : Can classR any_ (fun c => c.nm ++ spJ c.attrs ++ [41]) := by
  intro l x r hl h
  obtain ⟨nm, s, h1, h2⟩ := thn_is h
  obtain ⟨⟨tn, c1, c2, c3, c4⟩, c5⟩ := can_name l nm s hl h1
  obtain ⟨as_, s2, h3, h4⟩ := thn_is h2
  obtain ⟨⟨ts, d0, d1, d2, d3, d6, d4⟩, d5⟩ := can_until (k := 1) can_name nameR_eats (fun _ _ _ h => isK_twoH (by decide) (name_first h)) _ s as_ _ c5 h3
  obtain ⟨u, s3, h5, h6⟩ := thn_is h4
  obtain ⟨rfl, hk1⟩ := nxt_of h5
  obtain ⟨rfl, rfl⟩ := Prod.mk.inj (Option.some.inj h6)
  obtain ⟨hu, hs3⟩ := all_cons d5
  have e1 := tok_sign hu hk1 (by omega)
  rw [show as_.map (fun s : Str => s) = as_ from List.map_id' _] at d1
  refine ⟨⟨tn ++ ts ++ [tok0 1], (c1.app d1).close, all_app (all_app c2 d2) (all_one (.fix 1 (by simp))), fun m _ => ?_, ?_⟩, hs3⟩
  · rw [List.append_assoc, List.append_assoc]
    unfold classR
    rw [thn_of (c3 _ trivial), thn_of (f := fun l : List Tk => untilR 1 nameR (l.length + 1) l) (d3 ([tok0 1] ++ m) rfl _ (Nat.lt_succ_self _)), List.cons_append, List.nil_append, thn_of (nxt_fix 1 m)]; rfl
  · simp only [wt_cons, wt_app, wt_nil, e1] at d4 ⊢
    omega
def isC : Top → Bool
  | .cls _ => true
  | .rul _ _ => false
section
variable (sv : VD → Str)
def shTop : Top → Str
  | .cls c => shClass c
  | .rul r _ => shRule sv r
def shTops (xs : List Top) : Str := (xs.map fun x => shTop sv x ++ [10]).flatten
theorem tops_cls (xs : List Top) : shTops sv (xs.filter isC) = ((clsOf xs).map fun c => shClass c ++ [10]).flatten := by
  induction xs with
  | nil => rfl
  | cons x r ih =>
    cases x with
    | cls c => simp only [List.filter, isC, clsOf, List.map_cons, List.flatten_cons, ← ih]; rfl
    | rul q d => simp only [List.filter, isC, clsOf]; exact ih
theorem tops_rul (xs : List Top) : shTops sv (xs.filter fun x => !isC x) = ((rulOf xs).map fun r => shRule sv r ++ [10]).flatten := by
  induction xs with
  | nil => rfl
  | cons x r ih =>
    cases x with
    | cls c => simp only [List.filter, isC, rulOf, Bool.not_true]; exact ih
    | rul q d => simp only [List.filter, isC, rulOf, Bool.not_false, List.map_cons, List.flatten_cons, ← ih]; rfl
end
theorem cls_fil (xs : List Top) : clsOf (xs.filter isC) = clsOf xs ∧ rulOf (xs.filter isC) = [] := by
  induction xs with
  | nil => exact ⟨rfl, rfl⟩
  | cons x r ih => cases x <;> simp [List.filter, isC, clsOf, rulOf, ih]
theorem rul_fil (xs : List Top) : clsOf (xs.filter fun x => !isC x) = [] ∧ rulOf (xs.filter fun x => !isC x) = rulOf xs := by
  induction xs with
  | nil => exact ⟨rfl, rfl⟩
  | cons x r ih =>
    cases x with
    | cls c => rw [List.filter_cons_of_neg (by simp [isC])]; exact ih
    | rul q d => rw [List.filter_cons_of_pos (by simp [isC])]; exact ⟨ih.1, by rw [rulOf, rulOf, ih.2]⟩
theorem any_fil (xs : List Top) (h : xs.any limB = false) : ((xs.filter isC) ++ xs.filter fun x => !isC x).any limB = false := by
  rw [List.any_append, Bool.or_eq_false_iff, List.any_eq_false, List.any_eq_false]
  rw [List.any_eq_false] at h
  exact ⟨fun x hx => h x (List.mem_filter.1 hx).1, fun x hx => h x (List.mem_filter.1 hx).1⟩
section
variable {sv : VD → Str} (hsv : ∀ t, IsTok t → t.k = 11 → sv (vdT t) = txtL t)
include hsv
theorem can_untilc : ∀ (n : Nat) (l : List Tk) (xs : List CondD) (r : List Tk), (∀ t ∈ l, IsTok t) → untilR 6 condR n l = some (xs, r) →
    (∃ ts, xs ≠ [] ∧ PcR ts (spJ (xs.map (shCond sv))) ∧ (∀ t ∈ ts, IsTok t) ∧ (∀ m, isK 6 m = true → ∀ N, (ts ++ m).length < N → untilR 6 condR N (ts ++ m) = some (xs, m)) ∧ (∀ m, isK 6 (ts ++ m) = false) ∧ wt ts + wt r ≤ wt l) ∧ (∀ t ∈ r, IsTok t)
  | 0, l, xs, r, hl, h => by cases h
  | n + 1, l, xs, r, hl, h => by
    unfold untilR at h
    obtain ⟨a, u, h1, h2⟩ := thn_is h
    obtain ⟨⟨ts, c1, c2, c3, c4⟩, c5⟩ := can_cond hsv l a u hl h1
    have hne : ∀ m, isK 6 (ts ++ m) = false := fun m => by
      have h0 : ts ≠ [] := fun e => by
        have := c3 [] trivial
        rw [e] at this; cases this
      have := cond_first hsv (fun t ht => c2 t (by simpa using ht)) (c3 [] trivial)
      rw [List.append_nil] at this
      rw [isK_app h0]; exact this
    split at h2
    · rename_i hku
      obtain ⟨rfl, rfl⟩ := Prod.mk.inj (Option.some.inj h2)
      refine ⟨⟨ts, by simp, by rw [List.map_cons, spJ_cons, List.map_nil, spJ_nil, List.append_nil]; exact c1.row, c2, fun m hm N hN => ?_, hne, c4⟩, c5⟩
      obtain ⟨M, rfl⟩ : ∃ M, N = M + 1 := ⟨N - 1, by omega⟩
      unfold untilR
      rw [thn_of (c3 m trivial), if_pos hm]
    · obtain ⟨as_, v, h3, h4⟩ := thn_is h2
      obtain ⟨rfl, rfl⟩ := Prod.mk.inj (Option.some.inj h4)
      obtain ⟨⟨us, d0, d1, d2, d3, d6, d4⟩, d5⟩ := can_untilc n u as_ _ c5 h3
      refine ⟨⟨ts ++ us, by simp, by rw [List.map_cons, spJ_cons]; exact c1.row.app d1, all_app c2 d2, fun m hm N hN => ?_, fun m => by rw [List.append_assoc]; exact hne _, by rw [wt_app]; omega⟩, d5⟩
      have hf := c3 (us ++ m) trivial
      have hlt := condR_eats.len hf
      rw [List.append_assoc] at hN ⊢
      obtain ⟨M, rfl⟩ : ∃ M, N = M + 1 := ⟨N - 1, by omega⟩
      unfold untilR
      rw [thn_of hf, if_neg (by rw [d6 m]; simp), thn_of (d3 m hm M (by omega))]
      rfl
theorem can_rule : Can ruleR any_ (fun x => x.1.nm ++ spJ (x.1.conds.map (shCond sv)) ++ [32, 45, 45, 62] ++ spJ (x.1.acts.map (shAct sv)) ++ [41]) := by
  intro l x r hl h
  obtain ⟨nm, s, h1, h2⟩ := thn_is h
  obtain ⟨⟨tn, c1, c2, c3, c4⟩, c5⟩ := can_name l nm s hl h1
  obtain ⟨cs, s2, h3, h4⟩ := thn_is h2
  obtain ⟨⟨ts, d0, d1, d2, d3, d6, d4⟩, d5⟩ := can_untilc hsv _ s cs _ c5 h3
  obtain ⟨u, s3, h5, h6⟩ := thn_is h4
  obtain ⟨rfl, hk6⟩ := nxt_of h5
  obtain ⟨hu, hs3⟩ := all_cons d5
  have e6 := tok_sign hu hk6 (by omega)
  obtain ⟨xs, s4, h7, h8⟩ := thn_is h6
  obtain ⟨⟨ta, f1, f2, f3, f4⟩, f5⟩ := can_while (can_act hsv) actR_eats (fun _ _ _ h => act_first h) _ s3 xs _ hs3 h7
  obtain ⟨v, s5, h9, h10⟩ := thn_is h8
  obtain ⟨rfl, hk1⟩ := nxt_of h9
  obtain ⟨rfl, rfl⟩ := Prod.mk.inj (Option.some.inj h10)
  obtain ⟨hv, hs5⟩ := all_cons f5
  have e1 := tok_sign hv hk1 (by omega)
  refine ⟨⟨tn ++ ts ++ [tok0 6] ++ ta ++ [tok0 1], ?_, all_app (all_app (all_app (all_app c2 d2) (all_one (.fix 6 (by simp)))) f2) (all_one (.fix 1 (by simp))), fun m _ => ?_, ?_⟩, hs5⟩
  · show Pc _ (nm ++ spJ (cs.map (shCond sv)) ++ [32, 45, 45, 62] ++ spJ ((xs.map Prod.fst).map (shAct sv)) ++ [41])
    rw [List.map_map]
    exact (((c1.app d1).app (pcr_fix (k := 6) (by simp))).app f1).close
  · rw [List.append_assoc, List.append_assoc, List.append_assoc, List.append_assoc]
    unfold ruleR
    rw [thn_of (c3 _ trivial)]
    rw [thn_of (f := fun l : List Tk => untilR 6 condR (l.length + 1) l) (d3 ([tok0 6] ++ (ta ++ ([tok0 1] ++ m))) rfl _ (Nat.lt_succ_self _)), List.cons_append, List.nil_append, thn_of (nxt_fix 6 _)]
    rw [thn_of (f := fun l : List Tk => whileR 0 actR (l.length + 1) l) (f3 ([tok0 1] ++ m) rfl _ (Nat.lt_succ_self _)), List.cons_append, List.nil_append, thn_of (nxt_fix 1 m)]; rfl
  · simp only [wt_cons, wt_app, wt_nil, e1, e6] at d4 f4 ⊢
    omega
theorem can_top : Can topR any_ (shTop sv) := by
  intro l x r hl h
  obtain ⟨t, s, h1, h2⟩ := thn_is h
  obtain ⟨rfl, hk⟩ := nxt_of h1
  obtain ⟨ht, hs⟩ := all_cons hl
  have e0 := tok_sign ht hk (by omega)
  obtain ⟨w, s2, h3, h4⟩ := thn_is h2
  obtain ⟨⟨tn, c1, c2, c3, c4⟩, c5⟩ := can_name s w s2 hs h3
  split at h4
  · rename_i hw
    subst hw
    obtain ⟨c, s3, h5, h6⟩ := thn_is h4
    obtain ⟨rfl, rfl⟩ := Prod.mk.inj (Option.some.inj h6)
    obtain ⟨⟨tc, d1, d2, d3, d4⟩, d5⟩ := can_class s2 c _ c5 h5
    refine ⟨⟨tok0 0 :: (tn ++ tc), ?_, all_cons' (.fix 0 (by simp)) (all_app c2 d2), fun m _ => ?_, ?_⟩, d5⟩
    · have := (c1.app d1.row).open
      unfold shTop shClass
      simpa using this
    · rw [List.cons_append, List.append_assoc]
      unfold topR
      rw [thn_of (nxt_fix 0 _), thn_of (c3 _ trivial), if_pos rfl, thn_of (d3 m trivial)]; rfl
    · simp only [wt_cons, wt_app, e0] at c4 ⊢
      omega
  · rename_i hw
    split at h4
    · rename_i hp
      subst hp
      obtain ⟨c, s3, h5, h6⟩ := thn_is h4
      obtain ⟨rfl, rfl⟩ := Prod.mk.inj (Option.some.inj h6)
      obtain ⟨⟨tc, d1, d2, d3, d4⟩, d5⟩ := can_rule hsv s2 c _ c5 h5
      refine ⟨⟨tok0 0 :: (tn ++ tc), ?_, all_cons' (.fix 0 (by simp)) (all_app c2 d2), fun m _ => ?_, ?_⟩, d5⟩
      · have := (c1.app d1.row).open
        unfold shTop shRule
        simpa using this
      · rw [List.cons_append, List.append_assoc]
        unfold topR
        rw [thn_of (nxt_fix 0 _), thn_of (c3 _ trivial), if_neg hw, if_pos rfl, thn_of (d3 m trivial)]; rfl
      · simp only [wt_cons, wt_app, e0] at c4 ⊢
        omega
    · cases h4
def Good (sv : VD → Str) (ys : List Top) (ts : List Tk) : Prop := (∀ rest zs, topsL rest = some zs → topsL (ts ++ rest) = some (ys ++ zs)) ∧ ∀ ts' q, Lays ts' q → Lays (ts ++ ts') (shTops sv ys ++ q)
omit hsv in
theorem good_nil : Good sv [] [] := ⟨fun rest zs h => h, fun ts' q h => h⟩
omit hsv in
theorem good_cons {x : Top} {ys : List Top} {t ts : List Tk} (hp : Pc t (shTop sv x)) (hr : ∀ m, topR (t ++ m) = some (x, m)) (h : Good sv ys ts) : Good sv (x :: ys) (t ++ ts) := by
  refine ⟨fun rest zs hz => ?_, fun ts' q hq => ?_⟩
  · rw [List.append_assoc]
    have hne : t ++ (ts ++ rest) ≠ [] := fun e => by
      have := hr (ts ++ rest)
      rw [e] at this; cases this
    rw [tops_cons hne, hr]
    simp only
    rw [h.1 rest zs hz]; rfl
  · have hb : Beh (ts ++ ts') (10 :: (shTops sv ys ++ q)) := .inr (.inl ⟨_, rfl, h.2 ts' q hq⟩)
    have := hp _ _ hb
    rw [List.append_assoc]
    have e : shTops sv (x :: ys) ++ q = shTop sv x ++ 10 :: (shTops sv ys ++ q) := by unfold shTops; simp
    rw [e]; exact this
theorem can_tops : ∀ (n : Nat) (l : List Tk) (xs : List Top), (∀ t ∈ l, IsTok t) → topsR n l = some xs →
    ∃ tc tr, Good sv (xs.filter isC) tc ∧ Good sv (xs.filter fun x => !isC x) tr ∧ wt tc + wt tr ≤ wt l
  | 0, l, xs, hl, h => by cases h
  | n + 1, l, xs, hl, h => by
    unfold topsR at h
    split at h
    · obtain rfl := Option.some.inj h
      exact ⟨[], [], good_nil, good_nil, Nat.zero_le _⟩
    · split at h
      · cases h
      · rename_i x r hx
        cases hr : topsR n r with
        | none => rw [hr] at h; cases h
        | some ys =>
          rw [hr] at h
          obtain rfl := Option.some.inj h
          obtain ⟨⟨ts, c1, c2, c3, c4⟩, c5⟩ := can_top hsv l x r hl hx
          obtain ⟨tc, tr, g1, g2, g3⟩ := can_tops n r ys c5 hr
          cases hc : isC x with
          | true =>
            refine ⟨ts ++ tc, tr, ?_, ?_, by rw [wt_app]; omega⟩
            · rw [List.filter_cons_of_pos hc]; exact good_cons c1 (fun m => c3 m trivial) g1
            · rw [List.filter_cons_of_neg (by rw [hc]; simp)]; exact g2
          | false =>
            refine ⟨tc, ts ++ tr, ?_, ?_, by rw [wt_app]; omega⟩
            · rw [List.filter_cons_of_neg (by rw [hc]; simp)]; exact g1
            · rw [List.filter_cons_of_pos (by rw [hc]; simp)]; exact good_cons c1 (fun m => c3 m trivial) g2
theorem show_back {l : List UInt8} (h : (parP l).2 = 0) : parP (shText sv (parP l).1) = ((parP l).1, 0) ∧ (shText sv (parP l).1).length ≤ 2 * l.length := by
  obtain ⟨a1, a2, a3⟩ := parP_ok h
  obtain ⟨ts, b1, b2, b3⟩ := parT_ok a2
  have hwt := scan_wt l
  have hto := scan_toks l
  rw [a3, b3]
  generalize (scanL l).1.map Prod.fst = tk at *
  obtain ⟨tc, tr, g1, g2, g3⟩ := can_tops hsv _ tk ts hto b1
  have hL : Lays (tc ++ (tr ++ [])) (shText sv ⟨clsOf ts, rulOf ts⟩) := by
    have := g1.2 _ _ (g2.2 [] [] .nil)
    rw [tops_cls, tops_rul] at this
    unfold shText
    simpa using this
  have hT : topsL (tc ++ (tr ++ [])) = some (ts.filter isC ++ ts.filter fun x => !isC x) := by
    have := g1.1 _ _ (g2.1 [] [] rfl)
    rw [this, List.append_nil]
  obtain ⟨s1, s2⟩ := hL.scan
  have hlen := hL.len
  rw [wt_app, wt_app, wt_nil] at hlen
  refine ⟨?_, by dsimp only; omega⟩
  unfold parP
  rw [if_neg (by rw [s2]; simp), s1]
  unfold parT
  rw [hT]
  simp only
  unfold tooB at b2 ⊢
  rw [Bool.or_eq_false_iff] at b2
  rw [any_fil ts b2.1, cls_app, rul_app, (cls_fil ts).1, (cls_fil ts).2, (rul_fil ts).1, (rul_fil ts).2, List.append_nil, List.nil_append, Bool.false_or, b2.2]
  simp
end
end Go.Proofs.YtemacdimdpnkeaaGreatDoor
namespace Go.Proofs.YtemacdimdpnkeaaGreatDoor
open Go.Lib
set_option linter.unusedVariables false
def okT (t : Tk) : Prop := 0 ≤ t.vk ∧ t.vk ≤ 255 ∧ -1099511627776 ≤ t.vn ∧ t.vn ≤ 1099511627776 ∧ t.vs.length ≤ 100000
def Fit {α : Type} (f : Rdr α) (G : α → Prop) : Prop := ∀ l x r, (∀ t ∈ l, okT t) → l.length ≤ 100000 → f l = some (x, r) → G x ∧ (∀ t ∈ r, okT t) ∧ r.length ≤ l.length
theorem thn_some {α β : Type} {f : Rdr α} {g : α → Rdr β} {l : List Tk} {x : β} {r : List Tk} (h : thn f g l = some (x, r)) : ∃ a r1, f l = some (a, r1) ∧ g a r1 = some (x, r) := by
  unfold thn at h
  split at h
  · cases h
  · rename_i a r1 he; exact ⟨a, r1, he, h⟩
theorem fit_thn {α β : Type} {f : Rdr α} {g : α → Rdr β} {G : α → Prop} {H : β → Prop} (h1 : Fit f G) (h2 : ∀ a, G a → Fit (g a) H) : Fit (thn f g) H := fun l x r hl hn h => by
  unfold thn at h
  split at h
  · cases h
  · rename_i a r1 he
    obtain ⟨a1, a2, a3⟩ := h1 l a r1 hl hn he
    obtain ⟨b1, b2, b3⟩ := h2 a a1 r1 x r a2 (by omega) h
    exact ⟨b1, b2, by omega⟩
theorem fit_ret {α : Type} {a : α} {G : α → Prop} (h : G a) : Fit (ret a) G := fun l x r hl hn e => by
  unfold ret at e; cases e; exact ⟨h, hl, Nat.le_refl _⟩
theorem fit_bad {α : Type} {G : α → Prop} : Fit (bad : Rdr α) G := fun l x r hl hn e => by cases e
theorem fit_nxt (k : Int) : Fit (nxt k) okT := fun l x r hl hn h => by
  obtain ⟨rfl, _⟩ := nxt_of h
  exact ⟨hl x (List.mem_cons_self ..), fun t ht => hl t (List.mem_cons_of_mem _ ht), by simp⟩
theorem fit_if {α : Type} {c : List Tk → Prop} [∀ l, Decidable (c l)] {f g : Rdr α} {G : α → Prop} (h1 : Fit f G) (h2 : Fit g G) : Fit (fun l => if c l then f l else g l) G := fun l x r hl hn h => by
  dsimp only at h
  split at h
  · exact h1 l x r hl hn h
  · exact h2 l x r hl hn h
theorem fit_dep {α : Type} {f : Nat → Rdr α} {G : α → Prop} (h : ∀ n, Fit (f n) G) : Fit (fun l => f (l.length + 1) l) G := fun l x r hl hn e => h _ l x r hl hn e
theorem fit_while {α : Type} {k : Int} {f : Rdr α} {G : α → Prop} (h : Fit f G) : ∀ n, Fit (whileR k f n) (fun xs => ∀ x ∈ xs, G x)
  | 0 => fun l x r hl hn e => by cases e
  | n + 1 => fun l x r hl hn e => by
    unfold whileR at e
    split at e
    · exact fit_thn (H := fun xs => ∀ x ∈ xs, G x) h (fun a ha => fit_thn (fit_while h n) fun as_ has => fit_ret (by
        intro x hx
        rcases List.mem_cons.1 hx with rfl | hx
        · exact ha
        · exact has x hx)) l x r hl hn e
    · cases e; exact ⟨by simp, hl, Nat.le_refl _⟩
theorem fit_until {α : Type} {k : Int} {f : Rdr α} {G : α → Prop} (h : Fit f G) : ∀ n, Fit (untilR k f n) (fun xs => ∀ x ∈ xs, G x)
  | 0 => fun l x r hl hn e => by cases e
  | n + 1 => fun l x r hl hn e => by
    unfold untilR at e
    refine fit_thn (H := fun xs => ∀ x ∈ xs, G x) h (fun a ha => ?_) l x r hl hn e
    refine fit_if (c := fun r => isK k r = true) (f := fun r => some ([a], r)) (fun l x r hl hn e => ?_) (fit_thn (fit_until h n) fun as_ has => fit_ret (by
        intro x hx
        rcases List.mem_cons.1 hx with rfl | hx
        · exact ha
        · exact has x hx))
    cases e
    exact ⟨by intro x hx; obtain rfl := List.mem_singleton.1 hx; exact ha, hl, Nat.le_refl _⟩
def okV (x : VD) : Prop := 0 ≤ x.k ∧ x.k ≤ 255 ∧ x.s.length ≤ 100000
theorem okV0 : okV v0 := ⟨Int.le_refl _, by decide, by decide⟩
theorem okVT {t : Tk} (h : okT t) : okV (vdT t) := ⟨h.1, h.2.1, h.2.2.2.2⟩
def tr_ {α : Type} : α → Prop := fun _ => True
theorem fit_name : Fit nameR tr_ := fit_thn (fit_nxt 11) fun t _ => by
  by_cases h : t.vk = 2
  · rw [if_pos h]; exact fit_ret trivial
  · rw [if_neg h]; exact fit_bad
theorem fit_num : Fit numR (fun n => -1099511627776 ≤ n ∧ n ≤ 1099511627776) := fit_thn (fit_nxt 11) fun t ht => by
  by_cases h : t.vk = 1
  · rw [if_pos h]; exact fit_ret ⟨ht.2.2.1, ht.2.2.2.1⟩
  · rw [if_neg h]; exact fit_bad
theorem fit_var (p : Int) : Fit (varR p) (fun x => okV x.x) := fit_if (c := fun l => isK 9 l = true) (fit_thn (fit_nxt 9) fun t _ => fit_ret okV0) (fit_thn (fit_nxt 11) fun t ht => fit_ret (okVT ht))
theorem fit_single : Fit singleR (fun x => okV x.x) := fit_if (c := fun l => isK 10 l = true) (fit_thn (fit_nxt 10) fun t _ => fit_var t.p) (fit_var 0)
theorem fit_val : Fit valR okV := fit_thn (fit_nxt 11) fun t ht => fit_ret (okVT ht)
def okA (a : AttrD) : Prop := (∀ x ∈ a.ones, okV x) ∧ ∀ x ∈ a.tests, okV x.x
theorem fit_ask (a : Str) : Fit (askR a) okA := by
  refine fit_if (c := fun l => isK 4 l = true) (fit_thn (fit_nxt 4) fun _ _ => ?_) (fit_if (c := fun l => isK 2 l = true) (fit_thn (fit_nxt 2) fun _ _ => ?_) (fit_thn fit_single fun x hx => fit_ret ⟨by simp, by simpa using hx⟩))
  · refine fun l x r hl hn e => fit_thn (G := fun xs => ∀ x ∈ xs, okV x) (fit_thn fit_val fun v hv => fit_thn (fit_while fit_val _) fun vs hvs => fit_ret (by
        intro x hx
        rcases List.mem_cons.1 hx with rfl | hx
        · exact hv
        · exact hvs x hx)) (fun vs hvs => fit_thn (fit_nxt 5) fun _ _ => fit_ret ⟨hvs, by simp⟩) l x r hl hn e
  · refine fun l x r hl hn e => fit_thn (fit_until fit_single _) (fun xs hxs => fit_thn (fit_nxt 3) fun _ _ => fit_ret ⟨by simp, hxs⟩) l x r hl hn e
theorem fit_attr : Fit attrR okA := fit_thn (fit_nxt 8) fun t _ => fit_ask t.nm
def okC (c : CondD) : Prop := ∀ x ∈ c.attrs, okA x
theorem fit_cond2 (neg : Bool) : Fit (cond2R neg) okC := fit_thn (fit_nxt 0) fun _ _ => fit_thn fit_name fun c _ => fun l x r hl hn e => fit_thn (fit_while fit_attr _) (fun as_ has => fit_thn (fit_nxt 1) fun _ _ => fit_ret has) l x r hl hn e
theorem fit_cond : Fit condR okC := fit_if (c := fun l => isK 7 l = true) (fit_thn (fit_nxt 7) fun _ _ => fit_cond2 true) (fit_cond2 false)
def okL (l : List ItemD) : Prop := (∀ x ∈ l, okV x.x) ∧ l.length ≤ 100000
theorem fit_exprN : ∀ n l x r, (∀ t ∈ l, okT t) → exprR n l = some (x, r) → (∀ y ∈ x.1, okV y.x) ∧ (∀ t ∈ r, okT t) ∧ x.1.length + r.length ≤ l.length
  | 0, l, x, r, hl, e => by cases e
  | n + 1, l, x, r, hl, e => by
    unfold exprR at e
    split at e
    · obtain ⟨t, r1, he, e1⟩ := thn_some e
      obtain ⟨rfl, _⟩ := nxt_of he
      unfold ret at e1; cases e1
      exact ⟨by intro y hy; obtain rfl := List.mem_singleton.1 hy; exact okV0, fun t ht => hl t (List.mem_cons_of_mem _ ht), by simp; omega⟩
    · split at e
      · obtain ⟨t, r1, he, e1⟩ := thn_some e
        obtain ⟨rfl, _⟩ := nxt_of he
        unfold ret at e1; cases e1
        exact ⟨by intro y hy; obtain rfl := List.mem_singleton.1 hy; exact okVT (hl t (List.mem_cons_self ..)), fun t ht => hl t (List.mem_cons_of_mem _ ht), by simp; omega⟩
      · obtain ⟨t, r1, he, e1⟩ := thn_some e
        obtain ⟨rfl, _⟩ := nxt_of he
        have hl1 : ∀ t ∈ r1, okT t := fun t ht => hl t (List.mem_cons_of_mem _ ht)
        obtain ⟨s, r2, he2, e2⟩ := thn_some e1
        have h2 : (∀ t ∈ r2, okT t) ∧ r2.length + 1 ≤ r1.length := by
          obtain ⟨t2, r3, he3, e3⟩ := thn_some he2
          obtain ⟨rfl, _⟩ := nxt_of he3
          split at e3
          · unfold ret at e3; cases e3; exact ⟨fun t ht => hl1 t (List.mem_cons_of_mem _ ht), by simp⟩
          · cases e3
        split at e2
        · cases e2
        · obtain ⟨a, r4, ha, e4⟩ := thn_some e2
          obtain ⟨a1, a2, a3⟩ := fit_exprN n _ _ _ h2.1 ha
          obtain ⟨b, r5, hb, e5⟩ := thn_some e4
          obtain ⟨b1, b2, b3⟩ := fit_exprN n _ _ _ a2 hb
          obtain ⟨t5, r6, he5, e6⟩ := thn_some e5
          obtain ⟨rfl, _⟩ := nxt_of he5
          unfold ret at e6; cases e6
          refine ⟨?_, fun t ht => b2 t (List.mem_cons_of_mem _ ht), by simp at *; omega⟩
          intro y hy
          rcases List.mem_append.1 hy with hy | hy
          · rcases List.mem_append.1 hy with hy | hy
            · exact a1 y hy
            · exact b1 y hy
          · obtain rfl := List.mem_singleton.1 hy; exact okV0
theorem fit_ex : Fit exR (fun x => okL x.1) := fun l x r hl hn e => by
  obtain ⟨h1, h2, h3⟩ := fit_exprN _ l x r hl e
  exact ⟨⟨h1, by omega⟩, h2, by omega⟩
theorem fit_set : Fit setR (fun x => okL x.1.e) := fit_thn (fit_nxt 8) fun t _ => fit_thn fit_ex fun x hx => fit_ret hx
theorem fit_sets : Fit setsR (fun x => ∀ y ∈ x.1, okL y.e) := fun l x r hl hn e => fit_thn (H := fun x => ∀ y ∈ x.1, okL y.e) (fit_while fit_set _) (fun xs hxs => fit_ret (by
  intro y hy
  obtain ⟨z, hz, rfl⟩ := List.mem_map.1 hy
  exact hxs z hz)) l x r hl hn e
theorem fit_exprs : ∀ n, Fit (exprsR n) (fun x => ∀ y ∈ x.1, okL y)
  | 0 => fun l x r hl hn e => by cases e
  | n + 1 => fun l x r hl hn e => by
    unfold exprsR at e
    split at e
    · cases e; exact ⟨by simp, hl, Nat.le_refl _⟩
    · exact fit_thn (H := fun x => ∀ y ∈ x.1, okL y) fit_ex (fun a ha => fit_thn (fit_exprs n) fun b hb => fit_ret (by
        intro y hy
        rcases List.mem_cons.1 hy with rfl | hy
        · exact ha
        · exact hb y hy)) l x r hl hn e
theorem le_1 : (-1099511627776 : Int) ≤ 0 := by decide
theorem le_2 : (0 : Int) ≤ 1099511627776 := by decide
def okAct (a : ActD) : Prop := -1099511627776 ≤ a.n ∧ a.n ≤ 1099511627776 ∧ (∀ x ∈ a.sets, okL x.e) ∧ ∀ x ∈ a.exprs, okL x
theorem fit_body (s : Str) : Fit (bodyR s) (fun x => okAct x.1) := by
  unfold bodyR
  split
  · exact fit_thn fit_name fun c _ => fit_thn fit_sets fun x hx => fit_ret ⟨le_1, le_2, hx, by simp⟩
  · split
    · exact fit_thn fit_num fun n hn => fit_thn fit_sets fun x hx => fit_ret ⟨hn.1, hn.2, hx, by simp⟩
    · split
      · exact fit_thn fit_num fun n hn => fit_ret ⟨hn.1, hn.2, by simp, by simp⟩
      · split
        · exact fit_thn (fit_nxt 9) fun t _ => fit_thn fit_ex fun x hx => fit_ret ⟨le_1, le_2, by simp, by simpa using hx⟩
        · split
          · exact fun l x r hl hn e => fit_thn (H := fun x => okAct x.1) (fit_exprs _) (fun x hx => fit_ret ⟨le_1, le_2, by simp, hx⟩) l x r hl hn e
          · split
            · exact fit_ret ⟨le_1, le_2, by simp, by simp⟩
            · exact fit_bad
theorem fit_act : Fit actR (fun x => okAct x.1) := fit_thn (fit_nxt 0) fun _ _ => fit_thn fit_name fun s _ => fit_thn (fit_body s) fun x hx => fit_thn (fit_nxt 1) fun _ _ => fit_ret hx
def okRu (r : RuleD) : Prop := (∀ x ∈ r.conds, okC x) ∧ ∀ x ∈ r.acts, okAct x
theorem fit_rule : Fit ruleR (fun x => okRu x.1) := fit_thn fit_name fun nm _ => fit_thn (fit_dep fun n => fit_until fit_cond n) fun cs hcs => fit_thn (fit_nxt 6) fun _ _ => fit_thn (fit_dep fun n => fit_while fit_act n) fun xs hxs => fit_thn (fit_nxt 1) fun _ _ => fit_ret ⟨hcs, by
  intro y hy
  obtain ⟨z, hz, rfl⟩ := List.mem_map.1 hy
  exact hxs z hz⟩
def okTop : Top → Prop
  | .cls _ => True
  | .rul r _ => okRu r
theorem fit_class : Fit classR tr_ := fit_thn fit_name fun nm _ => fit_thn (fit_dep fun n => fit_until fit_name n) fun as_ _ => fit_thn (fit_nxt 1) fun _ _ => fit_ret trivial
theorem fit_top : Fit topR okTop := fit_thn (fit_nxt 0) fun _ _ => fit_thn fit_name fun s _ => by
  by_cases h : s = sLit
  · rw [if_pos h]; exact fit_thn fit_class fun c _ => fit_ret trivial
  · rw [if_neg h]
    by_cases h : s = sP
    · rw [if_pos h]; exact fit_thn fit_rule fun r hr => fit_ret hr
    · rw [if_neg h]; exact fit_bad
theorem fit_tops : ∀ n l xs, (∀ t ∈ l, okT t) → l.length ≤ 100000 → topsR n l = some xs → ∀ x ∈ xs, okTop x
  | 0, l, xs, hl, hn, h => by cases h
  | n + 1, l, xs, hl, hn, h => by
    unfold topsR at h
    split at h
    · obtain rfl := Option.some.inj h; simp
    · split at h
      · cases h
      · rename_i x r he
        obtain ⟨a1, a2, a3⟩ := fit_top _ _ _ hl hn he
        obtain ⟨ys, hy, rfl⟩ := Option.map_eq_some_iff.1 h
        intro y hy'
        rcases List.mem_cons.1 hy' with rfl | hy'
        · exact a1
        · exact fit_tops n r ys a2 (by omega) hy y hy'
theorem tok_ok {t : Tk} (h : IsTok t) : okT t := by
  cases h with
  | fix k h => exact ⟨by simp [tok0], by simp [tok0], by simp [tok0], by simp [tok0], by simp [tok0]⟩
  | prd p h => exact ⟨by simp [tokP], by simp [tokP], by simp [tokP], by simp [tokP], by simp [tokP]⟩
  | nam k r hk ho h1 h2 => exact ⟨by simp [tokN], by simp [tokN], by simp [tokN], by simp [tokN], by simp [tokN]⟩
  | val w t h =>
    unfold parL at h
    split at h
    · cases h
    · rename_i hw
      split at h
      · obtain rfl := Option.some.inj h; exact ⟨by simp [tokV], by simp [tokV], by simp [tokV], by simp [tokV], by simp [tokV]⟩
      · split at h
        · split at h
          · cases h
          · rename_i hd
            obtain rfl := Option.some.inj h
            have := nb_abs w
            have this : -1099511627776 ≤ nbV w ∧ nbV w ≤ 1099511627776 := by omega
            exact ⟨by simp [tokV], by simp [tokV], this.1, this.2, by simp [tokV]⟩
        · obtain rfl := Option.some.inj h
          unfold wordB at hw
          simp only [Bool.not_eq_false, Bool.and_eq_true, decide_eq_true_eq] at hw
          exact ⟨by simp [tokV], by simp [tokV], by simp [tokV], by simp [tokV], by show w.length ≤ 100000; omega⟩
theorem wt_len : ∀ ts : List Tk, ts.length ≤ wt ts
  | [] => Nat.zero_le _
  | t :: ts => by have := wt_len ts; rw [wt_cons, List.length_cons]; omega
theorem par_ok {l : List UInt8} (hl : l.length ≤ 50000) (h : (parP l).2 = 0) : ∀ x ∈ (parP l).1.rs, okRu x := by
  obtain ⟨a1, a2, a3⟩ := parP_ok h
  obtain ⟨ts, b1, b2, b3⟩ := parT_ok a2
  have hwt := scan_wt l
  have hto := scan_toks l
  have hln := wt_len ((scanL l).1.map Prod.fst)
  rw [a3, b3]
  have ht := fit_tops _ _ ts (fun t ht => tok_ok (hto t ht)) (by omega) b1
  clear b1 b2 b3
  intro x hx
  induction ts with
  | nil => cases hx
  | cons y ts ih =>
    cases y with
    | cls c => exact ih (fun z hz => ht z (List.mem_cons_of_mem _ hz)) hx
    | rul r d =>
      have hx : x ∈ r :: rulOf ts := hx
      rcases List.mem_cons.1 hx with rfl | hx
      · exact ht _ (List.mem_cons_self ..)
      · exact ih (fun z hz => ht z (List.mem_cons_of_mem _ hz)) hx
end Go.Proofs.YtemacdimdpnkeaaGreatDoor
namespace Go.Proofs.YtemacdimdpnkeaaGreatDoor
set_option maxRecDepth 20000
open Go.Lib
set_option linter.unusedVariables false
theorem thn_none {α β : Type} {f : Rdr α} {g : α → Rdr β} {l : List Tk} (e : f l = none) : thn f g l = none := by unfold thn; rw [e]
theorem thn_assoc {α β γ : Type} (f : Rdr α) (g : α → Rdr β) (h : β → Rdr γ) : thn (thn f g) h = thn f (fun a => thn (g a) h) := by
  funext l
  unfold thn
  cases f l with
  | none => rfl
  | some x => rfl
theorem ret_thn {α β : Type} (a : α) (g : α → Rdr β) : thn (ret a) g = g a := rfl
theorem ite_thn {α β : Type} (c : Prop) [Decidable c] (f g : Rdr α) (h : α → Rdr β) : thn (if c then f else g) h = if c then thn f h else thn g h := by split <;> rfl
theorem thn_congr {α β : Type} {f : Rdr α} {g h : α → Rdr β} (e : ∀ a, g a = h a) : thn f g = thn f h := by
  have : g = h := funext e
  rw [this]
theorem nxt_isK {k : Int} {l : List Tk} (h : isK k l = false) : nxt k l = none := by
  cases l with
  | nil => rfl
  | cons a t =>
    have : ¬ a.k = k := by simpa [isK] using h
    show (if _ then _ else _) = _
    rw [if_neg this]
theorem nxt_yes {k : Int} {l : List Tk} (h : isK k l = true) : ∃ t r, l = t :: r ∧ t.k = k ∧ nxt k l = some (t, r) := by
  cases l with
  | nil => cases h
  | cons a t =>
    have : a.k = k := by simpa [isK] using h
    refine ⟨a, t, rfl, this, ?_⟩
    show (if _ then _ else _) = _
    rw [if_pos this]
theorem isK_two {k e : Int} {l : List Tk} (h : isK k l = true) (hke : e ≠ k) : isK e l = false := by
  obtain ⟨t, r, rfl, hk, _⟩ := nxt_yes h
  have : ¬ t.k = e := by rw [hk]; exact fun h => hke h.symm
  simp [isK, this]
theorem nxt_tail {k : Int} {l : List Tk} (h : isK k l = true) : ∃ t, nxt k l = some (t, l.tail) := by
  obtain ⟨t, r, rfl, _, e⟩ := nxt_yes h
  exact ⟨t, e⟩
def sevR {α : Type} (e : Int) (f : Rdr α) : Nat → Rdr (List α)
  | 0, _ => none
  | n + 1, l => if isK e l = true then some ([], l.tail) else thn f (fun x => thn (sevR e f n) fun xs => ret (x :: xs)) l
def sevL {α : Type} (e : Int) (f : Rdr α) : Rdr (List α) := fun l => sevR e f (l.length + 1) l
theorem sevR_fuel {α : Type} {e : Int} {f : Rdr α} (hf : Eats 1 f) : ∀ (n m : Nat) (l : List Tk), l.length < n → l.length < m → sevR e f n l = sevR e f m l
  | 0, m, l, h, _ => by omega
  | n + 1, 0, l, _, h => by omega
  | n + 1, m + 1, l, h1, h2 => by
    unfold sevR
    split
    · rfl
    · unfold thn
      cases ef : f l with
      | none => rfl
      | some x =>
        obtain ⟨a, r⟩ := x
        have := hf.len ef
        dsimp only
        rw [sevR_fuel hf n m r (by omega) (by omega)]
theorem sev_end {α : Type} {e : Int} {f : Rdr α} {l : List Tk} (h : isK e l = true) : sevL e f l = some ([], l.tail) := by
  unfold sevL sevR; rw [if_pos h]
theorem sev_no {α : Type} {e : Int} {f : Rdr α} {l : List Tk} (h : isK e l = false) (hx : f l = none) : sevL e f l = none := by
  unfold sevL sevR; rw [if_neg (by rw [h]; decide), thn_none hx]
theorem sev_go {α : Type} {e : Int} {f : Rdr α} (hf : Eats 1 f) {l r : List Tk} {x : α} (h : isK e l = false) (hx : f l = some (x, r)) : sevL e f l = (sevL e f r).map fun p => (x :: p.1, p.2) := by
  have hl := hf.len hx
  unfold sevL
  conv => lhs; unfold sevR
  rw [if_neg (by rw [h]; decide), thn_of hx]
  unfold thn
  rw [sevR_fuel hf l.length (r.length + 1) r (by omega) (by omega)]
  cases sevR e f (r.length + 1) r with
  | none => rfl
  | some p => rfl
theorem sev_step {α : Type} {e : Int} {f : Rdr α} (hf : Eats 1 f) {l0 l r : List Tk} {xs : List α} {x : α} (h0 : sevL e f l0 = (sevL e f l).map fun p => (xs ++ p.1, p.2)) (h : isK e l = false) (hx : f l = some (x, r)) : sevL e f l0 = (sevL e f r).map fun p => (xs ++ [x] ++ p.1, p.2) := by
  rw [h0, sev_go hf h hx]
  cases sevL e f r with
  | none => rfl
  | some p => simp
theorem sev_stop {α : Type} {e : Int} {f : Rdr α} {l0 l : List Tk} {xs : List α} (h0 : sevL e f l0 = (sevL e f l).map fun p => (xs ++ p.1, p.2)) (h : isK e l = true) : sevL e f l0 = some (xs, l.tail) := by
  rw [h0, sev_end h]; simp
theorem sev_fail {α : Type} {e : Int} {f : Rdr α} {l0 l : List Tk} {xs : List α} (h0 : sevL e f l0 = (sevL e f l).map fun p => (xs ++ p.1, p.2)) (h : isK e l = false) (hx : f l = none) : sevL e f l0 = none := by
  rw [h0, sev_no h hx]; rfl
theorem sev_start {α : Type} (e : Int) (f : Rdr α) (l : List Tk) : sevL e f l = (sevL e f l).map fun p => ([] ++ p.1, p.2) := by
  cases sevL e f l with
  | none => rfl
  | some p => rfl
def nonE {α : Type} : List α → Rdr (List α)
  | [] => bad
  | x :: xs => ret (x :: xs)
def somL {α : Type} (e : Int) (f : Rdr α) : Rdr (List α) := thn (sevL e f) nonE
theorem som_nil {α : Type} {e : Int} {f : Rdr α} {l r : List Tk} (h : sevL e f l = some ([], r)) : somL e f l = none := by
  unfold somL; rw [thn_of h]; rfl
theorem som_cons {α : Type} {e : Int} {f : Rdr α} {l r : List Tk} {xs : List α} (hx : xs ≠ []) (h : sevL e f l = some (xs, r)) : somL e f l = some (xs, r) := by
  unfold somL; rw [thn_of h]
  cases xs with
  | nil => exact absurd rfl hx
  | cons x xs => rfl
theorem som_none {α : Type} {e : Int} {f : Rdr α} {l : List Tk} (h : sevL e f l = none) : somL e f l = none := thn_none h
theorem while_sev {α : Type} {k e : Int} {f : Rdr α} (hke : e ≠ k) (hf : Eats 1 f) (hn : ∀ l, isK k l = false → f l = none) : ∀ (n m : Nat) (l : List Tk), l.length < n → l.length < m → thn (whileR k f n) (fun xs => thn (nxt e) fun _ => ret xs) l = sevR e f m l
  | 0, m, l, h, _ => by omega
  | n + 1, 0, l, _, h => by omega
  | n + 1, m + 1, l, h1, h2 => by
    unfold sevR
    by_cases hk : isK k l = true
    · rw [if_neg (by rw [isK_two hk hke]; decide)]
      cases ef : f l with
      | none =>
        have : whileR k f (n + 1) l = none := by unfold whileR; rw [if_pos hk, thn_none ef]
        rw [thn_none this, thn_none ef]
      | some p =>
        obtain ⟨a, r⟩ := p
        have hl := hf.len ef
        have ih := while_sev hke hf hn n m r (by omega) (by omega)
        have hw : whileR k f (n + 1) l = thn (whileR k f n) (fun as_ => ret (a :: as_)) r := by
          conv => lhs; unfold whileR
          rw [if_pos hk, thn_of ef]
        rw [thn_of ef]
        unfold thn at hw ih ⊢
        rw [hw, ← ih]
        cases whileR k f n r with
        | none => rfl
        | some q =>
          dsimp only [ret]
          cases nxt e q.2 with
          | none => rfl
          | some z => rfl
    · have hk' : isK k l = false := by simpa using hk
      have hw : whileR k f (n + 1) l = some ([], l) := by unfold whileR; rw [if_neg hk]
      rw [thn_of hw]
      split
      · rename_i he
        obtain ⟨t, ht⟩ := nxt_tail he
        rw [thn_of ht]; rfl
      · rename_i he
        rw [thn_none (nxt_isK (by simpa using he)), thn_none (hn l hk')]
theorem wh_sev {α β : Type} {k e : Int} {f : Rdr α} (hke : e ≠ k) (hf : Eats 1 f) (hn : ∀ l, isK k l = false → f l = none) (g : List α → Rdr β) : thn (fun l => whileR k f (l.length + 1) l) (fun xs => thn (nxt e) fun _ => g xs) = thn (sevL e f) g := by
  have : sevL e f = thn (fun l => whileR k f (l.length + 1) l) (fun xs => thn (nxt e) fun _ => ret xs) := by
    funext l
    have := while_sev hke hf hn (l.length + 1) (l.length + 1) l (by omega) (by omega)
    unfold sevL
    rw [← this]; rfl
  rw [this, thn_assoc]
  exact thn_congr fun xs => by rw [thn_assoc]; exact thn_congr fun _ => (ret_thn _ _).symm
theorem until_sev {α : Type} {k : Int} {f : Rdr α} (hf : Eats 1 f) (hn : ∀ l, isK k l = true → f l = none) : ∀ (n m : Nat) (l : List Tk), l.length < n → l.length < m → thn (untilR k f n) (fun xs => thn (nxt k) fun _ => ret xs) l = thn (sevR k f m) nonE l
  | 0, m, l, h, _ => by omega
  | n + 1, 0, l, _, h => by omega
  | n + 1, m + 1, l, h1, h2 => by
    by_cases hk : isK k l = true
    · have h3 : untilR k f (n + 1) l = none := by unfold untilR; rw [thn_none (hn l hk)]
      have h4 : sevR k f (m + 1) l = some ([], l.tail) := by unfold sevR; rw [if_pos hk]
      rw [thn_none h3, thn_of h4]; rfl
    · cases ef : f l with
      | none =>
        have h3 : untilR k f (n + 1) l = none := by unfold untilR; rw [thn_none ef]
        have h4 : sevR k f (m + 1) l = none := by unfold sevR; rw [if_neg hk, thn_none ef]
        rw [thn_none h3, thn_none h4]
      | some p =>
        obtain ⟨a, r⟩ := p
        have hl := hf.len ef
        have ih := until_sev hf hn n m r (by omega) (by omega)
        have h4 : sevR k f (m + 1) l = thn (sevR k f m) (fun xs => ret (a :: xs)) r := by
          conv => lhs; unfold sevR
          rw [if_neg hk, thn_of ef]
        by_cases hr : isK k r = true
        · have h3 : untilR k f (n + 1) l = some ([a], r) := by unfold untilR; rw [thn_of ef, if_pos hr]
          obtain ⟨t, ht⟩ := nxt_tail hr
          rw [thn_of h3, thn_of ht]
          obtain ⟨j, rfl⟩ : ∃ j, m = j + 1 := ⟨m - 1, by omega⟩
          have h5 : sevR k f (j + 1) r = some ([], r.tail) := by unfold sevR; rw [if_pos hr]
          unfold thn
          unfold thn at h4
          rw [h4, h5]; rfl
        · have h3 : untilR k f (n + 1) l = thn (untilR k f n) (fun as_ => ret (a :: as_)) r := by
            conv => lhs; unfold untilR
            rw [thn_of ef, if_neg hr]
          unfold thn at h3 h4 ih ⊢
          rw [h3, h4]
          cases hu : untilR k f n r with
          | none =>
            rw [hu] at ih
            dsimp only at ih ⊢
            cases hs : sevR k f m r with
            | none => rfl
            | some z =>
              obtain ⟨zs, q⟩ := z
              rw [hs] at ih
              cases zs with
              | nil =>
                exfalso
                obtain ⟨j, rfl⟩ : ∃ j, m = j + 1 := ⟨m - 1, by omega⟩
                unfold sevR at hs
                rw [if_neg hr] at hs
                obtain ⟨b, s, _, e2⟩ := thn_is hs
                obtain ⟨bs, s2, _, e3⟩ := thn_is e2
                cases (Prod.mk.inj (Option.some.inj e3)).1
              | cons z zs => cases ih
          | some z =>
            obtain ⟨us, q⟩ := z
            rw [hu] at ih
            dsimp only [ret] at ih ⊢
            cases hs : sevR k f m r with
            | none =>
              rw [hs] at ih
              dsimp only at ih ⊢
              cases hq : nxt k q with
              | none => rfl
              | some z => rw [hq] at ih; cases ih
            | some y =>
              obtain ⟨ys, q2⟩ := y
              rw [hs] at ih
              dsimp only at ih ⊢
              cases ys with
              | nil =>
                exfalso
                obtain ⟨j, rfl⟩ : ∃ j, m = j + 1 := ⟨m - 1, by omega⟩
                unfold sevR at hs
                rw [if_neg hr] at hs
                obtain ⟨b, s, _, e2⟩ := thn_is hs
                obtain ⟨bs, s2, _, e3⟩ := thn_is e2
                cases (Prod.mk.inj (Option.some.inj e3)).1
              | cons y ys =>
                cases hq : nxt k q with
                | none => rw [hq] at ih; cases ih
                | some z =>
                  rw [hq] at ih
                  dsimp only [nonE, ret] at ih ⊢
                  obtain ⟨rfl, rfl⟩ := Prod.mk.inj (Option.some.inj ih)
                  rfl
theorem un_sev {α β : Type} {k : Int} {f : Rdr α} (hf : Eats 1 f) (hn : ∀ l, isK k l = true → f l = none) (g : List α → Rdr β) : thn (fun l => untilR k f (l.length + 1) l) (fun xs => thn (nxt k) fun _ => g xs) = thn (somL k f) g := by
  have : somL k f = thn (fun l => untilR k f (l.length + 1) l) (fun xs => thn (nxt k) fun _ => ret xs) := by
    funext l
    have := until_sev hf hn (l.length + 1) (l.length + 1) l (by omega) (by omega)
    unfold somL sevL
    unfold thn at this ⊢
    rw [← this]
  rw [this, thn_assoc]
  exact thn_congr fun xs => by rw [thn_assoc]; exact thn_congr fun _ => (ret_thn _ _).symm
theorem ones_sev {α β : Type} {k e : Int} {f : Rdr α} (hke : e ≠ k) (hf : Eats 1 f) (hn : ∀ l, isK k l = false → f l = none) (g : List α → Rdr β) : thn (thn f fun v => thn (fun l => whileR k f (l.length + 1) l) fun vs => ret (v :: vs)) (fun vs => thn (nxt e) fun _ => g vs) = thn (somL e f) g := by
  have h1 : thn (thn f fun v => thn (fun l => whileR k f (l.length + 1) l) fun vs => ret (v :: vs)) (fun vs => thn (nxt e) fun _ => g vs) = thn f fun v => thn (sevL e f) fun vs => g (v :: vs) := by
    rw [thn_assoc]
    refine thn_congr fun v => ?_
    rw [thn_assoc]
    have := wh_sev hke hf hn (fun vs => g (v :: vs))
    rw [← this]
    exact thn_congr fun vs => ret_thn _ _
  rw [h1]
  unfold somL
  rw [thn_assoc]
  funext l
  by_cases he : isK e l = true
  · rw [thn_of (sev_end he)]
    have : f l = none := hn l (isK_two he (fun h => hke h.symm))
    rw [thn_none this]; rfl
  · have he' : isK e l = false := by simpa using he
    cases ef : f l with
    | none => rw [thn_none ef, thn_none (sev_no he' ef)]
    | some p =>
      obtain ⟨a, r⟩ := p
      rw [thn_of ef]
      unfold thn
      rw [sev_go hf he' ef]
      cases sevL e f r with
      | none => rfl
      | some z => rfl
theorem valR_no (l : List Tk) (h : isK 11 l = false) : valR l = none := thn_none (nxt_isK h)
theorem nameR_no (l : List Tk) (h : isK 11 l = false) : nameR l = none := thn_none (nxt_isK h)
theorem attrR_no (l : List Tk) (h : isK 8 l = false) : attrR l = none := thn_none (nxt_isK h)
theorem setR_no (l : List Tk) (h : isK 8 l = false) : setR l = none := thn_none (nxt_isK h)
theorem actR_no (l : List Tk) (h : isK 0 l = false) : actR l = none := thn_none (nxt_isK h)
theorem singleR_at {l : List Tk} (h : isK 3 l = true) : singleR l = none := by
  unfold singleR varR
  rw [if_neg (by rw [isK_two h (by decide)]; decide), if_neg (by rw [isK_two h (by decide)]; decide)]
  exact thn_none (nxt_isK (isK_two h (by decide)))
theorem nameR_at {l : List Tk} (h : isK 1 l = true) : nameR l = none := nameR_no l (isK_two h (by decide))
theorem condR_at {l : List Tk} (h : isK 6 l = true) : condR l = none := by
  unfold condR
  rw [if_neg (by rw [isK_two h (by decide)]; decide)]
  exact thn_none (nxt_isK (isK_two h (by decide)))
def askP (a : Str) : Rdr AttrD := fun l =>
  if isK 4 l = true then thn (nxt 4) (fun _ => thn (somL 5 valR) fun vs => ret ⟨a, vs, []⟩) l
  else if isK 2 l = true then thn (nxt 2) (fun _ => thn (somL 3 singleR) fun xs => ret ⟨a, [], xs⟩) l
  else thn singleR (fun x => ret ⟨a, [], [x]⟩) l
theorem askR_is (a : Str) : askR a = askP a := by
  funext l
  unfold askR askP
  split
  · have := ones_same a
    rw [this, ones_sev (by decide) valR_eats valR_no]
  · split
    · rw [show (fun (x : Tk) (r : List Tk) => thn (untilR 3 singleR (r.length + 1)) (fun xs => thn (nxt 3) fun _ => ret (⟨a, [], xs⟩ : AttrD)) r) = fun _ => thn (fun l => untilR 3 singleR (l.length + 1) l) (fun xs => thn (nxt 3) fun _ => ret ⟨a, [], xs⟩) from rfl, un_sev singleR_eats (fun l h => singleR_at h)]
    · rfl
theorem cond2R_is (neg : Bool) : cond2R neg = thn (nxt 0) fun _ => thn nameR fun c => thn (sevL 1 attrR) fun as_ => ret ⟨neg, c, as_⟩ := by
  unfold cond2R
  refine thn_congr fun _ => thn_congr fun c => ?_
  rw [← wh_sev (k := 8) (by decide) attrR_eats attrR_no]; rfl
theorem sets_sev {β : Type} (g : List SetD × Nat → Rdr β) : thn setsR (fun x => thn (nxt 1) fun _ => g x) = thn (sevL 1 setR) fun xs => g (xs.map Prod.fst, deepOf (xs.map Prod.snd)) := by
  rw [← wh_sev (k := 8) (by decide) setR_eats setR_no]
  rw [show setsR = thn (fun l => whileR 8 setR (l.length + 1) l) (fun xs => ret (xs.map Prod.fst, deepOf (xs.map Prod.snd))) from rfl, thn_assoc]
  exact thn_congr fun xs => ret_thn _ _
theorem exprs_sev1 : ∀ (n m : Nat) (l : List Tk), l.length < n → l.length < m → thn (exprsR n) (fun x => thn (nxt 1) fun _ => ret x) l = thn (sevR 1 exR m) (fun xs => ret (xs.map Prod.fst, deepOf (xs.map Prod.snd))) l
  | 0, m, l, h, _ => by omega
  | n + 1, 0, l, _, h => by omega
  | n + 1, m + 1, l, h1, h2 => by
    by_cases hk : isK 1 l = true
    · have h3 : exprsR (n + 1) l = some (([], 0), l) := by unfold exprsR; rw [if_pos (.inr hk)]
      have h4 : sevR 1 exR (m + 1) l = some ([], l.tail) := by unfold sevR; rw [if_pos hk]
      obtain ⟨t, ht⟩ := nxt_tail hk
      rw [thn_of h3, thn_of ht, thn_of h4]; rfl
    · by_cases hl : l = []
      · subst hl
        have h4 : sevR 1 exR (m + 1) [] = none := rfl
        rw [thn_none h4]; rfl
      · cases ef : exR l with
        | none =>
          have h3 : exprsR (n + 1) l = none := by unfold exprsR; rw [if_neg (by simp [hl, hk]), thn_none ef]
          have h4 : sevR 1 exR (m + 1) l = none := by unfold sevR; rw [if_neg hk, thn_none ef]
          rw [thn_none h3, thn_none h4]
        | some p =>
          obtain ⟨a, r⟩ := p
          have hr := exR_eats.len ef
          have ih := exprs_sev1 n m r (by omega) (by omega)
          have h3 : exprsR (n + 1) l = thn (exprsR n) (fun y => ret (a.1 :: y.1, max a.2 y.2)) r := by
            conv => lhs; unfold exprsR
            rw [if_neg (by simp [hl, hk]), thn_of ef]
          have h4 : sevR 1 exR (m + 1) l = thn (sevR 1 exR m) (fun xs => ret (a :: xs)) r := by
            conv => lhs; unfold sevR
            rw [if_neg hk, thn_of ef]
          unfold thn at h3 h4 ih ⊢
          rw [h3, h4]
          cases hu : exprsR n r with
          | none =>
            rw [hu] at ih
            cases hs : sevR 1 exR m r with
            | none => rfl
            | some z => rw [hs] at ih; cases ih
          | some z =>
            obtain ⟨us, q⟩ := z
            rw [hu] at ih
            dsimp only [ret] at ih ⊢
            cases hq : nxt 1 q with
            | none =>
              rw [hq] at ih
              cases hs : sevR 1 exR m r with
              | none => rfl
              | some y => rw [hs] at ih; cases ih
            | some z =>
              rw [hq] at ih
              cases hs : sevR 1 exR m r with
              | none => rw [hs] at ih; cases ih
              | some y =>
                obtain ⟨ys, q2⟩ := y
                rw [hs] at ih
                dsimp only [ret] at ih ⊢
                obtain ⟨rfl, rfl⟩ := Prod.mk.inj (Option.some.inj ih)
                rfl
theorem exprs_sev {β : Type} (g : List (List ItemD) × Nat → Rdr β) : thn (fun l => exprsR (l.length + 1) l) (fun x => thn (nxt 1) fun _ => g x) = thn (sevL 1 exR) fun xs => g (xs.map Prod.fst, deepOf (xs.map Prod.snd)) := by
  have h : thn (fun l => exprsR (l.length + 1) l) (fun x => thn (nxt 1) fun _ => ret x) = thn (sevL 1 exR) fun xs => ret (xs.map Prod.fst, deepOf (xs.map Prod.snd)) := by
    funext l
    have := exprs_sev1 (l.length + 1) (l.length + 1) l (by omega) (by omega)
    unfold sevL
    unfold thn at this ⊢
    rw [← this]
  have h2 := congrArg (fun z => thn z g) h
  simp only [thn_assoc] at h2
  exact h2
def bodyP (s : Str) : Rdr (ActD × Nat) :=
  if s = sMake then thn nameR fun c => thn (sevL 1 setR) fun xs => ret (⟨0, c, 0, [], xs.map Prod.fst, []⟩, deepOf (xs.map Prod.snd))
  else if s = sModify then thn numR fun n => thn (sevL 1 setR) fun xs => ret (⟨1, [], n, [], xs.map Prod.fst, []⟩, deepOf (xs.map Prod.snd))
  else if s = sRemove then thn numR fun n => thn (nxt 1) fun _ => ret (⟨2, [], n, [], [], []⟩, 0)
  else if s = sBind then thn (nxt 9) fun t => thn exR fun x => thn (nxt 1) fun _ => ret (⟨3, [], 0, t.nm, [], [x.1]⟩, x.2)
  else if s = sWrite then thn (sevL 1 exR) fun xs => ret (⟨4, [], 0, [], [], xs.map Prod.fst⟩, deepOf (xs.map Prod.snd))
  else if s = sHalt then thn (nxt 1) fun _ => ret (⟨5, [], 0, [], [], []⟩, 0)
  else bad
theorem bodyR_is (s : Str) : thn (bodyR s) (fun x => thn (nxt 1) fun _ => ret x) = bodyP s := by
  unfold bodyR bodyP
  simp only [ite_thn]
  split
  · rw [thn_assoc]; refine thn_congr fun c => ?_
    rw [thn_assoc, ← sets_sev (fun x => ret ((⟨0, c, 0, [], x.1, []⟩ : ActD), x.2))]
    exact thn_congr fun x => ret_thn _ _
  · split
    · rw [thn_assoc]; refine thn_congr fun n => ?_
      rw [thn_assoc, ← sets_sev (fun x => ret ((⟨1, [], n, [], x.1, []⟩ : ActD), x.2))]
      exact thn_congr fun x => ret_thn _ _
    · split
      · rw [thn_assoc]; exact thn_congr fun n => ret_thn _ _
      · split
        · rw [thn_assoc]; refine thn_congr fun t => ?_
          rw [thn_assoc]; exact thn_congr fun x => ret_thn _ _
        · split
          · rw [← exprs_sev (fun x => ret ((⟨4, [], 0, [], [], x.1⟩ : ActD), x.2))]
            rw [show (fun l => thn (exprsR (l.length + 1)) (fun x => ret ((⟨4, [], 0, [], [], x.1⟩ : ActD), x.2)) l) = thn (fun l => exprsR (l.length + 1) l) (fun x => ret ((⟨4, [], 0, [], [], x.1⟩ : ActD), x.2)) from rfl, thn_assoc]
            exact thn_congr fun x => ret_thn _ _
          · split
            · rfl
            · rfl
theorem actR_is : actR = thn (nxt 0) fun _ => thn nameR bodyP := by
  unfold actR
  exact thn_congr fun _ => thn_congr fun s => bodyR_is s
theorem ruleR_is : ruleR = thn nameR fun nm => thn (somL 6 condR) fun cs => thn (sevL 1 actR) fun xs => ret (⟨nm, cs, xs.map Prod.fst⟩, deepOf (xs.map Prod.snd)) := by
  unfold ruleR
  refine thn_congr fun nm => ?_
  rw [un_sev condR_eats (fun l h => condR_at h)]
  exact thn_congr fun cs => wh_sev (by decide) actR_eats actR_no _
theorem classR_is : classR = thn nameR fun nm => thn (somL 1 nameR) fun as_ => ret ⟨nm, as_⟩ := by
  unfold classR
  exact thn_congr fun nm => un_sev nameR_eats (fun l h => nameR_at h) _
def ovA (a : AttrD) : Bool := decide (8 < a.ones.length) || decide (8 < a.tests.length)
def ovC (c : CondD) : Bool := c.attrs.any ovA || decide (6 < c.attrs.length)
def ovN {α : Type} (x : α × Nat) : Bool := decide (8 < x.2)
def ovT (x : ActD × Nat) : Bool := (decide (6 < x.1.sets.length) || decide (8 < x.1.exprs.length)) || decide (8 < x.2)
def ovR (x : RuleD × Nat) : Bool := overB x.1 || decide (8 < x.2)
def ovK (c : ClassD) : Bool := decide (6 < c.attrs.length)
theorem any_deep (l : List Nat) : (l.any fun d => decide (8 < d)) = decide (8 < deepOf l) := by
  induction l with
  | nil => rfl
  | cons a l ih =>
    rw [List.any_cons, ih]
    unfold deepOf
    rw [List.foldr_cons]
    by_cases h1 : 8 < a <;> by_cases h2 : 8 < l.foldr max 0 <;> simp [h1, h2] <;> omega
theorem any_ovN {α : Type} (l : List (α × Nat)) : l.any ovN = decide (8 < deepOf (l.map Prod.snd)) := by
  rw [← any_deep, List.any_map]; rfl
theorem ovC_is (c : CondD) : ovC c = overA c.attrs := by
  unfold ovC overA
  rw [Bool.eq_iff_iff]
  simp only [Bool.or_eq_true, List.any_eq_true, decide_eq_true_eq, ovA]
  constructor
  · rintro (⟨x, hx, h⟩ | h)
    · exact ⟨x, hx, .inr h⟩
    · cases hc : c.attrs with
      | nil => rw [hc] at h; simp at h
      | cons a l => exact ⟨a, by simp, .inl (by rw [← hc]; exact h)⟩
  · rintro ⟨x, hx, h | h⟩
    · exact .inr h
    · exact .inl ⟨x, hx, h⟩
theorem any_ovC (l : List CondD) : l.any ovC = l.any fun c => overA c.attrs := by
  congr 1; funext c; exact ovC_is c
theorem any_ovT (l : List (ActD × Nat)) : l.any ovT = (((l.map Prod.fst).any fun a => decide (6 < a.sets.length ∨ 8 < a.exprs.length)) || decide (8 < deepOf (l.map Prod.snd))) := by
  rw [← any_deep, List.any_map, List.any_map]
  induction l with
  | nil => rfl
  | cons a l ih =>
    simp only [List.any_cons, Function.comp] at ih ⊢
    rw [ih]
    unfold ovT
    by_cases h1 : 6 < a.1.sets.length <;> by_cases h2 : 8 < a.1.exprs.length <;> by_cases h3 : 8 < a.2 <;> simp [h1, h2, h3]
theorem ovR_is (nm : Str) (cs : List CondD) (xs : List (ActD × Nat)) : ovR (⟨nm, cs, xs.map Prod.fst⟩, deepOf (xs.map Prod.snd)) = ((cs.any ovC || decide (5 < cs.length)) || (xs.any ovT || decide (8 < xs.length))) := by
  unfold ovR overB
  rw [any_ovT, any_ovC]
  simp only [List.length_map]
  generalize (cs.any fun c => overA c.attrs) = a
  generalize ((xs.map Prod.fst).any fun a => decide (6 < a.sets.length ∨ 8 < a.exprs.length)) = b
  by_cases h1 : 5 < cs.length <;> by_cases h2 : 8 < xs.length <;> by_cases h3 : 8 < deepOf (xs.map Prod.snd) <;> simp [h1, h2, h3] <;> cases a <;> cases b <;> rfl
end Go.Proofs.YtemacdimdpnkeaaGreatDoor
