import Derived.Lib.ValidLaws
import Derived.Lib.AtoiAllCases
import Derived.Lib.ItoaLen
import Derived.Lib.ItoaNum
import Derived.Lib.TrimUEq
import Derived.Lib.MapLaws
namespace Go.Proofs.YtemacdimdpnkeaaDoor
set_option maxRecDepth 20000
set_option maxRecDepth 20000
set_option maxRecDepth 20000
open Go.Lib
def stands (c : Nat) : Bool := decide (128 ≤ c ∨ (97 ≤ c ∧ c ≤ 122) ∨ (65 ≤ c ∧ c ≤ 90) ∨ (48 ≤ c ∧ c ≤ 57) ∨ c = 95 ∨ c = 45 ∨ c = 63 ∨ c = 33 ∨ c = 43 ∨ c = 42 ∨ c = 46)
def badR (l : List UInt8) : Bool := decide ((decodeL l).1 = 65533 ∧ (decodeL l).2 = 1)
def allGo : Nat → List UInt8 → Bool
  | 0, _ => true
  | n + 1, l => if l = [] then true else stands (decodeL l).1 && allGo n (l.drop (decodeL l).2)
def allR (l : List UInt8) : Bool := allGo l.length l
def okGo : Nat → List UInt8 → Bool
  | 0, _ => true
  | n + 1, l => if l = [] then true else !badR l && (stands (decodeL l).1 && okGo n (l.drop (decodeL l).2))
def okR (l : List UInt8) : Bool := okGo l.length l
def wordB (l : List UInt8) : Bool := decide (1 ≤ l.length ∧ l.length ≤ 24) && okR l

theorem drop_lt (l : List UInt8) (h : l ≠ []) : (l.drop (decodeL l).2).length < l.length := by
  have := decodeL_width l
  have hl : 0 < l.length := List.length_pos_iff.2 h
  rw [List.length_drop]; omega
theorem allGo_nil : ∀ n, allGo n [] = true
  | 0 => rfl
  | _ + 1 => by simp [allGo]
theorem okGo_nil : ∀ n, okGo n [] = true
  | 0 => rfl
  | _ + 1 => by simp [okGo]
theorem allGo_fuel : ∀ (n m : Nat) (l : List UInt8), l.length ≤ n → l.length ≤ m → allGo n l = allGo m l
  | 0, m, l, hn, _ => by
    have : l = [] := List.eq_nil_of_length_eq_zero (by omega)
    subst this; rw [allGo_nil, allGo_nil]
  | n + 1, 0, l, _, hm => by
    have : l = [] := List.eq_nil_of_length_eq_zero (by omega)
    subst this; rw [allGo_nil, allGo_nil]
  | n + 1, m + 1, l, hn, hm => by
    unfold allGo
    by_cases hne : l = []
    · simp [hne]
    · have hd := drop_lt l hne
      rw [if_neg hne, if_neg hne, allGo_fuel n m _ (by omega) (by omega)]
theorem okGo_fuel : ∀ (n m : Nat) (l : List UInt8), l.length ≤ n → l.length ≤ m → okGo n l = okGo m l
  | 0, m, l, hn, _ => by
    have : l = [] := List.eq_nil_of_length_eq_zero (by omega)
    subst this; rw [okGo_nil, okGo_nil]
  | n + 1, 0, l, _, hm => by
    have : l = [] := List.eq_nil_of_length_eq_zero (by omega)
    subst this; rw [okGo_nil, okGo_nil]
  | n + 1, m + 1, l, hn, hm => by
    unfold okGo
    by_cases hne : l = []
    · simp [hne]
    · have hd := drop_lt l hne
      rw [if_neg hne, if_neg hne, okGo_fuel n m _ (by omega) (by omega)]
theorem allR_step (l : List UInt8) (hne : l ≠ []) : allR l = (stands (decodeL l).1 && allR (l.drop (decodeL l).2)) := by
  have hd := drop_lt l hne
  obtain ⟨n, hn⟩ : ∃ n, l.length = n + 1 := ⟨l.length - 1, by have := List.length_pos_iff.2 hne; omega⟩
  unfold allR; rw [hn]
  show (if l = [] then true else _) = _
  rw [if_neg hne, allGo_fuel n _ _ (by omega) (Nat.le_refl _)]
theorem okR_step (l : List UInt8) (hne : l ≠ []) : okR l = (!badR l && (stands (decodeL l).1 && okR (l.drop (decodeL l).2))) := by
  have hd := drop_lt l hne
  obtain ⟨n, hn⟩ : ∃ n, l.length = n + 1 := ⟨l.length - 1, by have := List.length_pos_iff.2 hne; omega⟩
  unfold okR; rw [hn]
  show (if l = [] then true else _) = _
  rw [if_neg hne, okGo_fuel n _ _ (by omega) (Nat.le_refl _)]
theorem okR_eq : ∀ (n : Nat) (l : List UInt8), l.length ≤ n → okR l = (validD l && allR l)
  | 0, l, h => by
    have : l = [] := List.eq_nil_of_length_eq_zero (by omega)
    subst this; rfl
  | n + 1, l, h => by
    by_cases hne : l = []
    · subst hne; rfl
    · have hd := drop_lt l hne
      rw [okR_step l hne, validD_step l hne, allR_step l hne, okR_eq n _ (by omega)]
      unfold badR
      by_cases hb : (decodeL l).1 = 65533 ∧ (decodeL l).2 = 1
      · rw [if_pos hb, decide_eq_true hb]; rfl
      · rw [if_neg hb, decide_eq_false hb]
        cases stands (decodeL l).1 <;> cases validD (l.drop (decodeL l).2) <;> rfl
theorem okR_is (l : List UInt8) : okR l = (validD l && allR l) := okR_eq l.length l (Nat.le_refl _)

theorem rr1 (n b0 b1 b2 b3 : Nat) (h : b0 < 128) : decodeN n b0 b1 b2 b3 = (b0, 1) := by unfold decodeN; rw [if_pos h]
theorem rr0 (n b0 b1 b2 b3 : Nat) (h : 128 ≤ b0) (h' : b0 < 194 ∨ 245 ≤ b0) (hb : b0 < 256) : decodeN n b0 b1 b2 b3 = (65533, 1) := decodeN_bad n b0 b1 b2 b3 (by omega)
set_option maxRecDepth 100000 in
set_option maxHeartbeats 4000000 in
theorem rr2 (n b0 b1 b2 b3 : Nat) (h : 194 ≤ b0) (h' : b0 < 224) (h1 : b1 < 256) : decodeN n b0 b1 b2 b3 = if n < 2 ∨ b1 < 128 ∨ 191 < b1 then (65533, 1) else (64 * (b0 - 192) + (b1 - 128), 2) := by
  unfold decodeN
  repeat' split
  all_goals first | rfl | (exfalso; omega) | (apply Prod.ext <;> simp only <;> omega)
set_option maxRecDepth 100000 in
set_option maxHeartbeats 4000000 in
theorem rr3 (n b0 b1 b2 b3 : Nat) (h : 224 ≤ b0) (h' : b0 < 240) (h1 : b1 < 256) (h2 : b2 < 256) : decodeN n b0 b1 b2 b3 = if n < 3 ∨ b1 < 128 ∨ 191 < b1 ∨ b2 < 128 ∨ 191 < b2 ∨ 64 * (64 * (b0 - 224) + (b1 - 128)) + (b2 - 128) < 2048 ∨ (55296 ≤ 64 * (64 * (b0 - 224) + (b1 - 128)) + (b2 - 128) ∧ 64 * (64 * (b0 - 224) + (b1 - 128)) + (b2 - 128) < 57344) then (65533, 1) else (64 * (64 * (b0 - 224) + (b1 - 128)) + (b2 - 128), 3) := by
  unfold decodeN
  repeat' split
  all_goals first | rfl | (exfalso; omega) | (apply Prod.ext <;> simp only <;> omega)
set_option maxRecDepth 100000 in
set_option maxHeartbeats 4000000 in
theorem rr4 (n b0 b1 b2 b3 : Nat) (h : 240 ≤ b0) (h' : b0 < 245) (h1 : b1 < 256) (h2 : b2 < 256) (h3 : b3 < 256) : decodeN n b0 b1 b2 b3 = if n < 4 ∨ b1 < 128 ∨ 191 < b1 ∨ b2 < 128 ∨ 191 < b2 ∨ b3 < 128 ∨ 191 < b3 ∨ 64 * (64 * (64 * (b0 - 240) + (b1 - 128)) + (b2 - 128)) + (b3 - 128) < 65536 ∨ 1114111 < 64 * (64 * (64 * (b0 - 240) + (b1 - 128)) + (b2 - 128)) + (b3 - 128) then (65533, 1) else (64 * (64 * (64 * (b0 - 240) + (b1 - 128)) + (b2 - 128)) + (b3 - 128), 4) := by
  unfold decodeN
  repeat' split
  all_goals first | rfl | (exfalso; omega) | (apply Prod.ext <;> simp only <;> omega)
def runeR (l : List UInt8) : Nat × Nat := if badR l then (0, 0) else decodeL l

def isDig (b : UInt8) : Bool := decide (48 ≤ b.toNat ∧ b.toNat ≤ 57)
def isSg (b : UInt8) : Bool := decide (b.toNat = 45 ∨ b.toNat = 43)
def strip : List UInt8 → List UInt8
  | [] => []
  | c :: r => if isSg c then r else c :: r
def numB (l : List UInt8) : Bool := !(strip l).isEmpty && (strip l).all isDig
def decA (a : Nat) (l : List UInt8) : Nat := l.foldl (fun n b => 10 * n + (b.toNat - 48)) a
def decV (l : List UInt8) : Nat := decA 0 (strip l)
def negB (l : List UInt8) : Bool := decide ((l.getD 0 0).toNat = 45)
def nbV (l : List UInt8) : Int := if negB l then -(decV l : Int) else decV l
theorem decA_snoc (l : List UInt8) (a : Nat) (c : UInt8) : decA a (l ++ [c]) = 10 * decA a l + (c.toNat - 48) := by simp [decA]
theorem strip_ne {l : List UInt8} (h : numB l = true) : strip l ≠ [] := by
  unfold numB at h; intro e; rw [e] at h; simp at h
theorem dig_toNat (k : Nat) (h : k < 10) : (UInt8.ofNat (48 + k)).toNat = 48 + k := by
  rw [UInt8.toNat_ofNat']; omega
theorem dd_all (u : Nat) : (decDigits u).all isDig = true := by
  induction u using Nat.strongRecOn with
  | _ u ih =>
    rw [decDigits]
    by_cases h : u < 10
    · rw [dif_pos h]; simp [isDig]; omega
    · rw [dif_neg h, List.all_append, ih _ (by omega)]
      simp [isDig]; omega
theorem dd_val (u : Nat) : decA 0 (decDigits u) = u := by
  induction u using Nat.strongRecOn with
  | _ u ih =>
    rw [decDigits]
    by_cases h : u < 10
    · rw [dif_pos h]; simp [decA]; omega
    · rw [dif_neg h, decA_snoc, ih _ (by omega), dig_toNat (u % 10) (by omega)]; omega
theorem dd_ne (u : Nat) : decDigits u ≠ [] := by
  intro e; have := decDigits_length u; have := nDigits_pos u; rw [e] at *; simp at *; omega
theorem dd_strip (u : Nat) : strip (decDigits u) = decDigits u := by
  have ha := dd_all u
  cases hd : decDigits u with
  | nil => rfl
  | cons c r =>
    rw [hd] at ha
    simp only [List.all_cons, Bool.and_eq_true, isDig, decide_eq_true_eq] at ha
    have : isSg c = false := by simp [isSg]; omega
    simp [strip, this]
theorem dd_neg (u : Nat) : negB (decDigits u) = false := by
  have ha := dd_all u
  cases hd : decDigits u with
  | nil => rfl
  | cons c r =>
    rw [hd] at ha
    simp only [List.all_cons, Bool.and_eq_true, isDig, decide_eq_true_eq] at ha
    simp [negB]; omega
theorem itoa_strip (n : Int) : strip (itoa n) = decDigits n.natAbs := by
  unfold itoa
  by_cases h : n < 0
  · rw [if_pos h]; rfl
  · rw [if_neg h, dd_strip, show n.toNat = n.natAbs by omega]
theorem itoa_num (n : Int) : numB (itoa n) = true := by
  unfold numB; rw [itoa_strip, dd_all]
  simp [dd_ne]
theorem itoa_val (n : Int) : nbV (itoa n) = n := by
  unfold nbV decV
  rw [itoa_strip, dd_val]
  unfold itoa
  by_cases h : n < 0
  · rw [if_pos h]
    have : negB (45 :: decDigits n.natAbs) = true := rfl
    rw [if_pos this]; omega
  · rw [if_neg h, dd_neg]; simp; omega
theorem itoa_len (n : Int) (h0 : -1099511627776 ≤ n) (h1 : n ≤ 1099511627776) : 1 ≤ (itoa n).length ∧ (itoa n).length ≤ 22 := by
  have := itoa_length_le n (by omega) (by omega)
  refine ⟨?_, by omega⟩
  have h := strip_ne (itoa_num n)
  cases hi : itoa n with
  | nil => rw [hi] at h; exact absurd rfl h
  | cons c r => simp
theorem okR_ascii : ∀ (l : List UInt8), (∀ b ∈ l, b.toNat < 128 ∧ stands b.toNat = true) → okR l = true
  | [], _ => rfl
  | b :: t, h => by
    obtain ⟨hb, hs⟩ := h b (by simp)
    rw [okR_step _ (by simp), badR, decodeL_ascii b t hb]
    simp only [List.drop_succ_cons, List.drop_zero, hs, okR_ascii t (fun c hc => h c (by simp [hc])), Bool.and_true, Bool.not_eq_true', decide_eq_false_iff_not]
    omega
theorem num_all (l : List UInt8) (h : numB l = true) : ∀ b ∈ l, isDig b = true ∨ isSg b = true := by
  intro b hb
  unfold numB at h
  simp only [Bool.and_eq_true, List.all_eq_true] at h
  cases l with
  | nil => simp at hb
  | cons c r =>
    by_cases hc : isSg c = true
    · simp only [strip, hc, if_true] at h
      rcases List.mem_cons.1 hb with e | e
      · rw [e]; exact .inr hc
      · exact .inl (h.2 b e)
    · simp only [strip, hc, if_false, Bool.false_eq_true] at h
      exact .inl (h.2 b hb)
theorem num_word (l : List UInt8) (h : numB l = true) (hl : l.length ≤ 24) : wordB l = true := by
  have hne : 1 ≤ l.length := by
    cases l with
    | nil => simp [numB, strip] at h
    | cons c r => simp
  unfold wordB
  rw [decide_eq_true ⟨hne, hl⟩, Bool.true_and]
  refine okR_ascii l fun b hb => ?_
  have := num_all l h b hb
  simp only [isDig, isSg, decide_eq_true_eq] at this
  refine ⟨by omega, ?_⟩
  unfold stands; rw [decide_eq_true_eq]; omega
def nil3 : List UInt8 := [110, 105, 108]
theorem nil_not_num : numB nil3 = false := by decide +kernel
theorem nil_word : wordB nil3 = true := by
  unfold wordB
  rw [decide_eq_true (by decide), Bool.true_and]
  refine okR_ascii _ fun b hb => ?_
  simp only [nil3, List.mem_cons, List.not_mem_nil, or_false] at hb
  rcases hb with rfl | rfl | rfl <;> decide
theorem itoa_not_nil (n : Int) : itoa n ≠ nil3 := fun e => by
  have := itoa_num n; rw [e, nil_not_num] at this; cases this
def satA (a : Nat) (l : List UInt8) : Nat := l.foldl (fun n b => min (10 * n + (b.toNat - 48)) 1099511627777) a
end Go.Proofs.YtemacdimdpnkeaaDoor
namespace Go.Proofs.YtemacdimdpnkeaaDoor
set_option maxRecDepth 20000
set_option maxRecDepth 20000
set_option maxRecDepth 20000
open Go.Lib
set_option maxRecDepth 100000
set_option linter.unusedVariables false
theorem dn_hi (n b0 b1 b2 b3 : Nat) (h : 128 ≤ b0) : 128 ≤ (decodeN n b0 b1 b2 b3).1 := by
  unfold decodeN
  repeat' split
  all_goals first | (exfalso; omega) | (simp only; omega)
theorem dn_le (n b0 b1 b2 b3 : Nat) (h : 1 ≤ n) : (decodeN n b0 b1 b2 b3).2 ≤ n := by
  unfold decodeN
  repeat' split
  all_goals first | (exfalso; omega) | (simp only; omega)
theorem dl_le (l : List UInt8) (h : l ≠ []) : (decodeL l).2 ≤ l.length := by
  rw [decodeL_N]; exact dn_le _ _ _ _ _ (List.length_pos_iff.2 h)
theorem dec_hi (s : ByteArray) (pos : Nat) (h : 128 ≤ (s.data.toList.getD pos 0).toNat) : 128 ≤ (Utf8.decode s pos).1 := by
  rw [← decodeL_drop, decodeL_N]
  refine dn_hi _ _ _ _ _ ?_
  simpa [List.getD] using h
theorem dec_lo (s : ByteArray) (pos : Nat) (hp : pos < s.size) (h : (s.data.toList.getD pos 0).toNat < 128) : Utf8.decode s pos = ((s.data.toList.getD pos 0).toNat, 1) := by
  rw [← decodeL_drop, decodeL_N]
  have e : (s.data.toList.drop pos).getD 0 0 = s.data.toList.getD pos 0 := by simp [List.getD]
  rw [e]; exact rr1 _ _ _ _ _ h

def cnt (l : List UInt8) (k : Nat) : Nat := k - (if isSg (l.getD 0 0) then 1 else 0)
def goodTo (l : List UInt8) (k : Nat) : Prop := ∀ j, j < k → isDig (l.getD j 0) = true ∨ (j = 0 ∧ isSg (l.getD 0 0) = true)
theorem strip_sg {l : List UInt8} (h : isSg (l.getD 0 0) = true) : strip l = l.drop 1 := by
  cases l with
  | nil => rfl
  | cons c r => simp only [List.getD_cons_zero] at h; simp [strip, h]
theorem strip_no {l : List UInt8} (h : isSg (l.getD 0 0) = false) : strip l = l := by
  cases l with
  | nil => rfl
  | cons c r => simp only [List.getD_cons_zero] at h; simp [strip, h]
theorem all_getD (l : List UInt8) : l.all isDig = true ↔ ∀ j, j < l.length → isDig (l.getD j 0) = true := by
  rw [List.all_eq_true]
  constructor
  · intro h j hj
    have : l.getD j 0 = l[j] := by simp [List.getD, hj]
    rw [this]; exact h _ (List.getElem_mem hj)
  · intro h x hx
    obtain ⟨j, hj, rfl⟩ := List.getElem_of_mem hx
    have := h j hj
    simpa [List.getD, hj] using this
theorem getD_drop1 (l : List UInt8) (j : Nat) : (l.drop 1).getD j 0 = l.getD (1 + j) 0 := by simp [List.getD, Nat.add_comm]
theorem nb_iff (l : List UInt8) : numB l = true ↔ strip l ≠ [] ∧ ∀ j, j < (strip l).length → isDig ((strip l).getD j 0) = true := by
  unfold numB
  rw [Bool.and_eq_true, all_getD]
  simp
theorem nb_end (l : List UInt8) (h : goodTo l l.length) : numB l = decide (0 < cnt l l.length) := by
  rw [Bool.eq_iff_iff, nb_iff, decide_eq_true_eq]
  unfold cnt
  by_cases hs : isSg (l.getD 0 0) = true
  · rw [strip_sg hs, if_pos hs]
    constructor
    · rintro ⟨h1, _⟩
      have := List.length_pos_iff.2 h1; simp at this; omega
    · intro h1
      refine ⟨fun e => ?_, fun j hj => ?_⟩
      · have := congrArg List.length e; simp at this; omega
      · rw [getD_drop1]; simp at hj
        rcases h (1 + j) (by omega) with h2 | h2
        · exact h2
        · omega
  · simp only [Bool.not_eq_true] at hs
    rw [strip_no hs]; simp only [hs]
    constructor
    · rintro ⟨h1, _⟩
      have := List.length_pos_iff.2 h1; simp; omega
    · intro h1
      refine ⟨fun e => ?_, fun j hj => ?_⟩
      · rw [e] at h1; simp at h1
      · rcases h j hj with h2 | ⟨_, h2⟩
        · exact h2
        · rw [hs] at h2; cases h2
theorem nb_no (l : List UInt8) (k : Nat) (hk : k < l.length) (h : isDig (l.getD k 0) = false) (h0 : ¬ (k = 0 ∧ isSg (l.getD 0 0) = true)) : numB l = false := by
  rw [Bool.eq_false_iff]
  intro hn
  obtain ⟨h1, h2⟩ := (nb_iff l).1 hn
  by_cases hs : isSg (l.getD 0 0) = true
  · rw [strip_sg hs] at h2
    have hk0 : k ≠ 0 := fun e => h0 ⟨e, hs⟩
    have := h2 (k - 1) (by simp; omega)
    rw [getD_drop1, show 1 + (k - 1) = k by omega, h] at this
    cases this
  · simp only [Bool.not_eq_true] at hs
    rw [strip_no hs] at h2
    have := h2 k hk
    rw [h] at this; cases this
def sv (l : List UInt8) (k : Nat) : Nat := satA 0 (strip (l.take k))
end Go.Proofs.YtemacdimdpnkeaaDoor
namespace Go.Proofs.YtemacdimdpnkeaaDoor
set_option maxRecDepth 20000
set_option maxRecDepth 20000
set_option maxRecDepth 20000
open Go.Lib
set_option linter.unusedVariables false
theorem ubyte_lt (u : UInt8) : u.toNat < 256 := u.toNat_lt
theorem bad_of {l : List UInt8} (h : decodeL l = (65533, 1)) : badR l = true := by unfold badR; rw [h]; rfl
def runGo : Nat → List UInt8 → Nat
  | 0, _ => 0
  | n + 1, l => if l = [] then 0 else if badR l = true ∨ stands (decodeL l).1 = false then 0 else (decodeL l).2 + runGo n (l.drop (decodeL l).2)
def runN (l : List UInt8) : Nat := runGo l.length l
theorem stands_hi {c : Nat} (h : 128 ≤ c) : stands c = true := by unfold stands; simp; omega
theorem dec_bytes {l : List UInt8} (hne : l ≠ []) (hb : badR l = false) (hs : stands (decodeL l).1 = true) : ∀ i, i < (decodeL l).2 → stands (l.getD i 0).toNat = true := by
  have hno : ¬ decodeL l = (65533, 1) := fun e => by rw [bad_of e] at hb; cases hb
  have u1 := ubyte_lt (l.getD 1 0)
  have u2 := ubyte_lt (l.getD 2 0)
  have u3 := ubyte_lt (l.getD 3 0)
  have ub := ubyte_lt (l.getD 0 0)
  have hL := decodeL_N l
  intro i hi
  by_cases c1 : (l.getD 0 0).toNat < 128
  · rw [rr1 _ _ _ _ _ c1] at hL
    rw [hL] at hs hi
    obtain rfl : i = 0 := by simp at hi; omega
    exact hs
  by_cases c2 : (l.getD 0 0).toNat < 194 ∨ 245 ≤ (l.getD 0 0).toNat
  · exact absurd (by rw [hL, rr0 _ _ _ _ _ (by omega) c2 ub]) hno
  refine stands_hi ?_
  by_cases c3 : (l.getD 0 0).toNat < 224
  · rw [rr2 _ _ _ _ _ (by omega) c3 u1] at hL
    split at hL
    · exact absurd hL hno
    · rw [hL] at hi
      simp at hi
      obtain rfl | rfl : i = 0 ∨ i = 1 := by omega
      all_goals omega
  by_cases c4 : (l.getD 0 0).toNat < 240
  · rw [rr3 _ _ _ _ _ (by omega) c4 u1 u2] at hL
    split at hL
    · exact absurd hL hno
    · rw [hL] at hi
      simp at hi
      obtain rfl | rfl | rfl : i = 0 ∨ i = 1 ∨ i = 2 := by omega
      all_goals omega
  · rw [rr4 _ _ _ _ _ (by omega) (by omega) u1 u2 u3] at hL
    split at hL
    · exact absurd hL hno
    · rw [hL] at hi
      simp at hi
      obtain rfl | rfl | rfl | rfl : i = 0 ∨ i = 1 ∨ i = 2 ∨ i = 3 := by omega
      all_goals omega
theorem ok_bytes : ∀ (n : Nat) (l : List UInt8), l.length ≤ n → okR l = true → ∀ b ∈ l, stands b.toNat = true
  | 0, l, h, _, b, hb => by
    have : l = [] := List.length_eq_zero_iff.1 (by omega)
    subst this; cases hb
  | n + 1, l, h, ho, b, hb => by
    by_cases hl : l = []
    · subst hl; cases hb
    · rw [okR_step l hl] at ho
      simp only [Bool.and_eq_true, Bool.not_eq_true'] at ho
      obtain ⟨h1, h2, h3⟩ := ho
      have hd := drop_lt l hl
      rw [← List.take_append_drop (decodeL l).2 l] at hb
      rcases List.mem_append.1 hb with hb | hb
      · obtain ⟨i, hi, rfl⟩ := List.mem_iff_getElem.1 hb
        rw [List.length_take] at hi
        have := dec_bytes hl h1 h2 i (by omega)
        rw [List.getD_eq_getElem?_getD, List.getElem?_eq_getElem (by omega)] at this
        rw [List.getElem_take]
        exact this
      · exact ok_bytes n _ (by omega) h3 b hb
theorem ok_mem {l : List UInt8} (ho : okR l = true) {b : UInt8} (hb : b ∈ l) : stands b.toNat = true := ok_bytes l.length l (Nat.le_refl _) ho b hb
end Go.Proofs.YtemacdimdpnkeaaDoor
namespace Go.Proofs.YtemacdimdpnkeaaDoor
set_option maxRecDepth 20000
set_option maxRecDepth 20000
set_option maxRecDepth 20000
open Go.Lib
set_option linter.unusedVariables false
structure Tk where
  k : Int
  nm : List UInt8
  p : Int
  vk : Int
  vn : Int
  vs : List UInt8
deriving DecidableEq
def tok0 (k : Int) : Tk := ⟨k, [], 0, 0, 0, []⟩
def tokP (p : Int) : Tk := ⟨10, [], p, 0, 0, []⟩
def tokN (k : Int) (nm : List UInt8) : Tk := ⟨k, nm, 0, 0, 0, []⟩
def tokV (vk vn : Int) (vs : List UInt8) : Tk := ⟨11, [], 0, vk, vn, vs⟩
def parL (l : List UInt8) : Option Tk :=
  if wordB l = false then none else if l = nil3 then some (tokV 0 0 []) else if numB l = true then (if 1099511627776 < decV l then none else some (tokV 1 (nbV l) [])) else some (tokV 2 0 l)
def fixL : List UInt8 → Option (Tk × Nat)
  | 40 :: _ => some (tok0 0, 1)
  | 41 :: _ => some (tok0 1, 1)
  | 123 :: _ => some (tok0 2, 1)
  | 125 :: _ => some (tok0 3, 1)
  | 60 :: 60 :: _ => some (tok0 4, 2)
  | 62 :: 62 :: _ => some (tok0 5, 2)
  | 45 :: 45 :: 62 :: _ => some (tok0 6, 3)
  | 45 :: 40 :: _ => some (tok0 7, 1)
  | 60 :: 61 :: _ => some (tokP 3, 2)
  | 60 :: 62 :: _ => some (tokP 1, 2)
  | 62 :: 61 :: _ => some (tokP 5, 2)
  | _ => none
def sglL : List UInt8 → Option (Tk × Nat)
  | 60 :: _ => some (tokP 2, 1)
  | 62 :: _ => some (tokP 4, 1)
  | 61 :: _ => some (tokP 0, 1)
  | _ => none
def oneL (l : List UInt8) : Option (Tk × Nat) :=
  match fixL l with
  | some x => some x
  | none =>
    let r := (l.drop 1).take (runN (l.drop 1))
    if l.getD 0 0 = 60 ∧ r ≠ [] ∧ (l.drop (1 + r.length)).getD 0 0 = 62 then (if 24 < r.length then none else some (tokN 9 r, r.length + 2))
    else match sglL l with
      | some x => some x
      | none =>
        if l.getD 0 0 = 94 then (if r = [] ∨ 24 < r.length then none else some (tokN 8 r, r.length + 1))
        else match parL (l.take (runN l)) with
          | none => none
          | some t => some (t, runN l)
def sgnL (p : Int) : List UInt8 := if p = 0 then [61] else if p = 1 then [60, 62] else if p = 2 then [60] else if p = 3 then [60, 61] else if p = 4 then [62] else if p = 5 then [62, 61] else []
def valL (k n : Int) (s : List UInt8) : List UInt8 := if k = 1 then itoa n else if k = 2 then s else nil3
def txtL (t : Tk) : List UInt8 :=
  if t.k = 0 then [40] else if t.k = 1 then [41] else if t.k = 2 then [123] else if t.k = 3 then [125] else if t.k = 4 then [60, 60] else if t.k = 5 then [62, 62] else if t.k = 6 then [45, 45, 62] else if t.k = 7 then [45]
  else if t.k = 8 then 94 :: t.nm else if t.k = 9 then 60 :: (t.nm ++ [62]) else if t.k = 10 then sgnL t.p else valL t.vk t.vn t.vs
theorem itoa_dec2 (n : Int) : decV (itoa n) = n.natAbs := by unfold decV; rw [itoa_strip, dd_val]
theorem nb_abs (l : List UInt8) : (nbV l).natAbs = decV l := by unfold nbV; split <;> omega
theorem par_word {w : List UInt8} {t : Tk} (h : parL w = some t) : wordB w = true := by
  unfold parL at h
  split at h
  · cases h
  · rename_i hc; cases hx : wordB w; exact absurd hx hc; rfl
theorem word_ok {w : List UInt8} (h : wordB w = true) : okR w = true ∧ 1 ≤ w.length ∧ w.length ≤ 24 := by
  unfold wordB at h
  simp only [Bool.and_eq_true, decide_eq_true_eq] at h
  exact ⟨h.2, h.1.1, h.1.2⟩
theorem par_text {w : List UInt8} {t : Tk} (h : parL w = some t) : parL (txtL t) = some t := by
  have hw := par_word h
  unfold parL at h
  rw [if_neg (by rw [hw]; simp)] at h
  split at h
  · obtain rfl := Option.some.inj h
    show parL nil3 = _
    unfold parL
    rw [if_neg (by rw [nil_word]; simp), if_pos rfl]
  · split at h
    · rename_i hn hb
      split at h
      · cases h
      · rename_i hd
        obtain rfl := Option.some.inj h
        show parL (itoa (nbV w)) = _
        have ha := nb_abs w
        have hl := itoa_len (nbV w) (by omega) (by omega)
        unfold parL
        rw [if_neg (by rw [num_word _ (itoa_num _) (by omega)]; simp), if_neg (itoa_not_nil _), if_pos (itoa_num _), itoa_dec2, if_neg (by omega), itoa_val]
    · rename_i hn hb
      obtain rfl := Option.some.inj h
      show parL w = _
      unfold parL
      rw [if_neg (by rw [hw]; simp), if_neg hn, if_neg hb]
inductive IsTok : Tk → Prop
  | fix (k : Int) (h : k = 0 ∨ k = 1 ∨ k = 2 ∨ k = 3 ∨ k = 4 ∨ k = 5 ∨ k = 6 ∨ k = 7) : IsTok (tok0 k)
  | prd (p : Int) (h : p = 0 ∨ p = 1 ∨ p = 2 ∨ p = 3 ∨ p = 4 ∨ p = 5) : IsTok (tokP p)
  | nam (k : Int) (r : List UInt8) (hk : k = 8 ∨ k = 9) (ho : okR r = true) (h1 : 1 ≤ r.length) (h2 : r.length ≤ 24) : IsTok (tokN k r)
  | val (w : List UInt8) (t : Tk) (h : parL w = some t) : IsTok t
theorem one_fix {l : List UInt8} {x : Tk × Nat} (h : fixL l = some x) : oneL l = some x := by unfold oneL; rw [h]
end Go.Proofs.YtemacdimdpnkeaaDoor
namespace Go.Proofs.YtemacdimdpnkeaaDoor
set_option maxRecDepth 20000
set_option maxRecDepth 20000
set_option maxRecDepth 20000
open Go.Lib
set_option linter.unusedVariables false
def isW (b : UInt8) : Bool := b == 32 || b == 9 || b == 10 || b == 13
def cmN (l : List UInt8) : Nat := (l.takeWhile (fun b => b != 10)).length
def whGo : Nat → List UInt8 → Nat
  | 0, _ => 0
  | n + 1, l => if l = [] then 0 else if isW (l.getD 0 0) = true then 1 + whGo n (l.drop 1) else if l.getD 0 0 = 59 then cmN l + whGo n (l.drop (cmN l)) else 0
def whN (l : List UInt8) : Nat := whGo l.length l
theorem cm_pos {l : List UInt8} (h : l.getD 0 0 = 59) : 1 ≤ cmN l ∧ cmN l ≤ l.length := by
  unfold cmN
  cases l with
  | nil => cases h
  | cons a t =>
    have : a = 59 := h
    subst this
    refine ⟨by simp [List.takeWhile], (List.takeWhile_sublist _).length_le⟩
theorem whGo_nil : ∀ n, whGo n [] = 0
  | 0 => rfl
  | _ + 1 => by simp [whGo]
theorem whGo_fuel : ∀ (n m : Nat) (l : List UInt8), l.length ≤ n → l.length ≤ m → whGo n l = whGo m l
  | 0, m, l, h, _ => by
    have : l = [] := List.length_eq_zero_iff.1 (by omega)
    subst this; rw [whGo_nil, whGo_nil]
  | n + 1, 0, l, _, h => by
    have : l = [] := List.length_eq_zero_iff.1 (by omega)
    subst this; rw [whGo_nil, whGo_nil]
  | n + 1, m + 1, l, h1, h2 => by
    by_cases hl : l = []
    · subst hl; rw [whGo_nil, whGo_nil]
    · have hp : 0 < l.length := List.length_pos_iff.2 hl
      simp only [whGo, if_neg hl]
      rw [whGo_fuel n m (l.drop 1) (by rw [List.length_drop]; omega) (by rw [List.length_drop]; omega)]
      by_cases hc : l.getD 0 0 = 59
      · have := cm_pos hc
        rw [whGo_fuel n m (l.drop (cmN l)) (by rw [List.length_drop]; omega) (by rw [List.length_drop]; omega)]
      · rw [if_neg hc, if_neg hc]
theorem wh_step (l : List UInt8) (hl : l ≠ []) : whN l = if isW (l.getD 0 0) = true then 1 + whN (l.drop 1) else if l.getD 0 0 = 59 then cmN l + whN (l.drop (cmN l)) else 0 := by
  have hp : 0 < l.length := List.length_pos_iff.2 hl
  obtain ⟨m, hm⟩ : ∃ m, l.length = m + 1 := ⟨l.length - 1, by omega⟩
  unfold whN
  conv => lhs; rw [hm]
  simp only [whGo, if_neg hl]
  rw [whGo_fuel m (l.drop 1).length _ (by rw [List.length_drop]; omega) (Nat.le_refl _)]
  by_cases hc : l.getD 0 0 = 59
  · have := cm_pos hc
    rw [whGo_fuel m (l.drop (cmN l)).length _ (by rw [List.length_drop]; omega) (Nat.le_refl _)]
  · rw [if_neg hc, if_neg hc]
end Go.Proofs.YtemacdimdpnkeaaDoor
namespace Go.Proofs.YtemacdimdpnkeaaDoor
set_option maxRecDepth 20000
set_option maxRecDepth 20000
set_option maxRecDepth 20000
open Go.Lib
set_option linter.unusedVariables false
theorem hd_word {w : List UInt8} (ho : okR w = true) (hw : w ≠ []) : isW (w.getD 0 0) = false ∧ w.getD 0 0 ≠ 59 := by
  have hm : w.getD 0 0 ∈ w := by cases w with
    | nil => exact absurd rfl hw
    | cons a t => simp
  have hs := ok_mem ho hm
  generalize w.getD 0 0 = b at *
  constructor
  · unfold isW
    rw [Bool.eq_false_iff]
    intro h
    simp only [Bool.or_eq_true, beq_iff_eq] at h
    rcases h with ((h | h) | h) | h <;> (subst h; revert hs; decide)
  · intro h; subst h; revert hs; decide
theorem hd_tok {t : Tk} (h : IsTok t) : txtL t ≠ [] ∧ isW ((txtL t).getD 0 0) = false ∧ (txtL t).getD 0 0 ≠ 59 := by
  cases h with
  | fix k hk => rcases hk with rfl | rfl | rfl | rfl | rfl | rfl | rfl | rfl <;> decide
  | prd p hp => rcases hp with rfl | rfl | rfl | rfl | rfl | rfl <;> decide
  | nam k r hk ho h1 h2 =>
    rcases hk with rfl | rfl
    · exact ⟨by show 94 :: r ≠ []; simp, by show isW 94 = false; decide, by show (94 : UInt8) ≠ 59; decide⟩
    · exact ⟨by show 60 :: (r ++ [62]) ≠ []; simp, by show isW 60 = false; decide, by show (60 : UInt8) ≠ 59; decide⟩
  | val w t h =>
    obtain ⟨ho, h1, h2⟩ := word_ok (par_word (par_text h))
    have hv : txtL t ≠ [] := fun e => by rw [e] at h1; simp at h1
    exact ⟨hv, hd_word ho hv⟩
theorem wh_tok {t : Tk} (h : IsTok t) (r : List UInt8) : whN (txtL t ++ r) = 0 := by
  obtain ⟨h1, h2, h3⟩ := hd_tok h
  have h0 : (txtL t ++ r).getD 0 0 = (txtL t).getD 0 0 := by
    cases hx : txtL t with
    | nil => exact absurd hx h1
    | cons a u => rfl
  rw [wh_step _ (by simp [h1]), h0, if_neg (by rw [h2]; simp), if_neg h3]
end Go.Proofs.YtemacdimdpnkeaaDoor
namespace Go.Proofs.YtemacdimdpnkeaaDoor
set_option maxRecDepth 20000
set_option maxRecDepth 20000
open Go.Lib
set_option linter.unusedVariables false
abbrev Str := List UInt8
structure VD where
  k : Int
  n : Int
  s : Str
deriving DecidableEq
structure TestD where
  p : Int
  v : Str
  x : VD
deriving DecidableEq
structure AttrD where
  a : Str
  ones : List VD
  tests : List TestD
deriving DecidableEq
structure CondD where
  neg : Bool
  c : Str
  attrs : List AttrD
deriving DecidableEq
structure ItemD where
  k : Int
  x : VD
  v : Str
deriving DecidableEq
structure SetD where
  a : Str
  e : List ItemD
deriving DecidableEq
structure ActD where
  k : Int
  c : Str
  n : Int
  v : Str
  sets : List SetD
  exprs : List (List ItemD)
deriving DecidableEq
structure RuleD where
  nm : Str
  conds : List CondD
  acts : List ActD
deriving DecidableEq
structure ClassD where
  nm : Str
  attrs : List Str
deriving DecidableEq
structure ProgD where
  cs : List ClassD
  rs : List RuleD
deriving DecidableEq
def v0 : VD := ⟨0, 0, []⟩
def vdT (t : Tk) : VD := ⟨t.vk, t.vn, t.vs⟩

abbrev Rdr (α : Type) := List Tk → Option (α × List Tk)
def sMake : Str := [109, 97, 107, 101]
def sModify : Str := [109, 111, 100, 105, 102, 121]
def sRemove : Str := [114, 101, 109, 111, 118, 101]
def sBind : Str := [98, 105, 110, 100]
def sWrite : Str := [119, 114, 105, 116, 101]
def sHalt : Str := [104, 97, 108, 116]
def sLit : Str := [108, 105, 116, 101, 114, 97, 108, 105, 122, 101]
def sP : Str := [112]
def Eats {α : Type} (m : Nat) (f : Rdr α) : Prop := ∀ l x r, f l = some (x, r) → ∃ c, l = c ++ r ∧ m ≤ c.length
def Goes {α : Type} (f : Rdr α) : Prop := ∀ l x r, f l = some (x, r) → ∀ m, f (l ++ m) = some (x, r ++ m)
def GoesN {α : Type} (f : Rdr α) : Prop := ∀ l x r, f l = some (x, r) → r ≠ [] → ∀ m, f (l ++ m) = some (x, r ++ m)
theorem Goes.n {α : Type} {f : Rdr α} (h : Goes f) : GoesN f := fun l x r e _ m => h l x r e m
theorem Eats.len {α : Type} {m : Nat} {f : Rdr α} (h : Eats m f) {l : List Tk} {x : α} {r : List Tk} (e : f l = some (x, r)) : r.length + m ≤ l.length := by
  obtain ⟨c, rfl, hc⟩ := h _ _ _ e
  rw [List.length_append]; omega
end Go.Proofs.YtemacdimdpnkeaaDoor
namespace Go.Proofs.YtemacdimdpnkeaaDoor
set_option maxRecDepth 20000
set_option maxRecDepth 20000
open Go.Lib
set_option linter.unusedVariables false
def p0 : ProgD := ⟨[], []⟩
end Go.Proofs.YtemacdimdpnkeaaDoor
namespace Go.Proofs.YtemacdimdpnkeaaDoor
set_option maxRecDepth 20000
set_option maxRecDepth 20000
set_option maxRecDepth 20000
open Go.Lib
set_option linter.unusedVariables false
def Placed (txt : List UInt8) : Nat → List (Tk × Nat) → Prop
  | _, [] => True
  | lo, (t, p) :: rest => lo ≤ p ∧ p < txt.length ∧ (t.k ≠ 11 ∨ t.vk ≠ 1 → (txtL t).length ≤ txt.length - p ∧ (txt.drop p).take (txtL t).length = txtL t) ∧ Placed txt (p + 1) rest
theorem Placed.low {txt : List UInt8} {a b : Nat} {ts : List (Tk × Nat)} (h : Placed txt b ts) (hab : a ≤ b) : Placed txt a ts := by
  cases ts with
  | nil => trivial
  | cons x rest => obtain ⟨t, p⟩ := x; exact ⟨Nat.le_trans hab h.1, h.2⟩
end Go.Proofs.YtemacdimdpnkeaaDoor
namespace Go.Proofs.YtemacdimdpnkeaaDoor
set_option maxRecDepth 20000
set_option maxRecDepth 20000
open Go.Lib
set_option linter.unusedVariables false
inductive Lays : List Tk → List UInt8 → Prop
  | nil : Lays [] []
  | cons {t : Tk} {sep : List UInt8} {ts : List Tk} {r : List UInt8} (ht : IsTok t) (h1 : oneL (txtL t ++ (sep ++ r)) = some (t, (txtL t).length)) (h2 : whN (sep ++ r) = sep.length) (h3 : sep.length ≤ 1) (h : Lays ts r) : Lays (t :: ts) (txtL t ++ (sep ++ r))
theorem Lays.wh {ts : List Tk} {l : List UInt8} (h : Lays ts l) : whN l = 0 := by
  cases h with
  | nil => rfl
  | cons ht _ _ _ _ => exact wh_tok ht _
def wt (ts : List Tk) : Nat := (ts.map fun t => (txtL t).length + 1).sum
theorem wt_cons (t : Tk) (ts : List Tk) : wt (t :: ts) = (txtL t).length + 1 + wt ts := by simp [wt]
theorem Lays.len {ts : List Tk} {l : List UInt8} (h : Lays ts l) : l.length ≤ wt ts := by
  induction h with
  | nil => simp
  | cons ht h1 h2 h3 h ih => rw [wt_cons, List.length_append, List.length_append]; omega
theorem lays_open {ts : List Tk} {r : List UInt8} (h : Lays ts r) : Lays (tok0 0 :: ts) (40 :: r) := .cons (t := tok0 0) (sep := []) (.fix 0 (by simp)) (one_fix rfl) h.wh (Nat.zero_le _) h
def Beh (ts : List Tk) (q : List UInt8) : Prop := (∃ r, q = 32 :: r ∧ Lays ts r) ∨ (∃ r, q = 10 :: r ∧ Lays ts r) ∨ (∃ u ts' r, ts = u :: ts' ∧ q = 41 :: r ∧ Lays ts q)
def Pc (a : List Tk) (x : List UInt8) : Prop := ∀ ts q, Beh ts q → Lays (a ++ ts) (x ++ q)
def PcR (a : List Tk) (x : List UInt8) : Prop := ∀ ts q, Beh ts q → Beh (a ++ ts) (x ++ q)
theorem Pc.row {a : List Tk} {x : List UInt8} (h : Pc a x) : PcR a (32 :: x) := fun ts q hq => .inl ⟨_, rfl, h ts q hq⟩
theorem Pc.open {a : List Tk} {x : List UInt8} (h : Pc a x) : Pc (tok0 0 :: a) (40 :: x) := fun ts q hq => lays_open (h ts q hq)
end Go.Proofs.YtemacdimdpnkeaaDoor
namespace Go.Proofs.YtemacdimdpnkeaaDoor
set_option maxRecDepth 20000
set_option maxRecDepth 20000
open Go.Lib
set_option linter.unusedVariables false
def spJ (l : List Str) : Str := (l.map fun x => 32 :: x).flatten
theorem spJ_nil : spJ [] = [] := rfl
theorem spJ_cons (x : Str) (l : List Str) : spJ (x :: l) = 32 :: x ++ spJ l := by simp [spJ]
section
variable (sv : VD → Str)
def shSingle (x : TestD) : Str := (if x.p ≠ 0 then sgnL x.p ++ [32] else []) ++ (if x.v ≠ [] then 60 :: (x.v ++ [62]) else sv x.x)
def shTest (a : AttrD) : Str := 94 :: a.a ++ (if a.ones ≠ [] then [32, 60, 60] ++ spJ (a.ones.map sv) ++ [32, 62, 62] else if a.tests.length = 1 then spJ (a.tests.map (shSingle sv)) else [32, 123] ++ spJ (a.tests.map (shSingle sv)) ++ [32, 125])
def shCond (c : CondD) : Str := (if c.neg = true then [45, 40] else [40]) ++ c.c ++ spJ (c.attrs.map (shTest sv)) ++ [41]
def sgS (k : Int) : Str := if k = 2 then [43] else if k = 3 then [45] else if k = 4 then [42] else []
def shPile : List Str → List ItemD → Option (List Str)
  | P, [] => some P
  | P, it :: l =>
    if it.k = 0 then shPile (P ++ [sv it.x]) l
    else if it.k = 1 then shPile (P ++ [60 :: (it.v ++ [62])]) l
    else if sgS it.k = [] ∨ P.length < 2 then none
    else shPile (P.take (P.length - 2) ++ [40 :: (sgS it.k ++ 32 :: (P.getD (P.length - 2) [] ++ 32 :: (P.getD (P.length - 1) [] ++ [41])))]) l
def shExpr (l : List ItemD) : Option Str := match shPile sv [] l with
  | some [x] => some x
  | _ => none
def shE (l : List ItemD) : Str := (shExpr sv l).getD []
def shSet (x : SetD) : Str := 94 :: x.a ++ 32 :: shE sv x.e
def shAct (a : ActD) : Str :=
  if a.k = 0 then 40 :: sMake ++ 32 :: a.c ++ spJ (a.sets.map (shSet sv)) ++ [41]
  else if a.k = 1 then 40 :: sModify ++ 32 :: itoa a.n ++ spJ (a.sets.map (shSet sv)) ++ [41]
  else if a.k = 2 then 40 :: sRemove ++ 32 :: itoa a.n ++ [41]
  else if a.k = 3 then 40 :: sBind ++ 32 :: 60 :: (a.v ++ [62]) ++ spJ (a.exprs.map (shE sv)) ++ [41]
  else if a.k = 4 then 40 :: sWrite ++ spJ (a.exprs.map (shE sv)) ++ [41]
  else if a.k = 5 then 40 :: sHalt ++ [41]
  else []
def shRule (r : RuleD) : Str := 40 :: sP ++ 32 :: r.nm ++ spJ (r.conds.map (shCond sv)) ++ [32, 45, 45, 62] ++ spJ (r.acts.map (shAct sv)) ++ [41]
def shClass (c : ClassD) : Str := 40 :: sLit ++ 32 :: c.nm ++ spJ c.attrs ++ [41]
def shText (p : ProgD) : Str := (p.cs.map fun c => shClass c ++ [10]).flatten ++ (p.rs.map fun r => shRule sv r ++ [10]).flatten
end
theorem all_cons {p : Tk → Prop} {t : Tk} {l : List Tk} (h : ∀ x ∈ t :: l, p x) : p t ∧ ∀ x ∈ l, p x := ⟨h t (List.mem_cons_self ..), fun x hx => h x (List.mem_cons_of_mem _ hx)⟩
section
variable {sv : VD → Str} (hsv : ∀ t, IsTok t → t.k = 11 → sv (vdT t) = txtL t)
include hsv
end
end Go.Proofs.YtemacdimdpnkeaaDoor
namespace Go.Proofs.YtemacdimdpnkeaaDoor
set_option maxRecDepth 20000
set_option linter.unusedVariables false
def i0 : ItemD := ⟨0, ⟨0, 0, []⟩, []⟩
def headsE : List ItemD → Nat → List (List Int) → List Nat → Option (List (List Int) × List Nat)
  | [], _, A, P => some (A, P)
  | it :: l, i, A, P =>
    if it.k = 0 ∨ it.k = 1 then headsE l (i + 1) A (P ++ [i])
    else if it.k = 2 ∨ it.k = 3 ∨ it.k = 4 then
      if P.length < 2 then none
      else headsE l (i + 1) (A.set (P.getD (P.length - 2) 0) (A.getD (P.getD (P.length - 2) 0) [] ++ [it.k])) (P.take (P.length - 1))
    else none
section
variable (sv : VD → Str)
def itemS (it : ItemD) : Str := if it.k = 1 then 60 :: (it.v ++ [62]) else sv it.x
def opS (k : Int) : Str := 40 :: (sgS k ++ [32])
def placeS (i : Nat) (it : ItemD) (a : List Int) : Str :=
  if sgS it.k ≠ [] then [41] else (if i > 0 then [32] else []) ++ ((a.reverse.map opS).flatten ++ itemS sv it)
def laidS (A : List (List Int)) : List ItemD → Nat → Str
  | [], _ => []
  | it :: l, i => placeS sv i it (A.getD i []) ++ laidS A l (i + 1)
def blS (i : Nat) : Str := if i > 0 then [32] else []
def ChainE (L : List ItemD) (A : List (List Int)) : List Nat → List Str → Nat → Prop
  | [], [], e => e = 0
  | s :: P, x :: X, e => s < e ∧ laidS sv A ((L.take e).drop s) s = blS s ++ x ∧ (∃ it, L[s]? = some it ∧ sgS it.k = []) ∧ ChainE L A P X s
  | _, _, _ => False
variable {sv}
theorem laid_app (A : List (List Int)) : ∀ (l m : List ItemD) (i : Nat), laidS sv A (l ++ m) i = laidS sv A l i ++ laidS sv A m (i + l.length)
  | [], m, i => by simp [laidS]
  | it :: l, m, i => by
    show placeS sv i it (A.getD i []) ++ laidS sv A (l ++ m) (i + 1) = _
    rw [laid_app A l m (i + 1), List.length_cons, show i + (l.length + 1) = i + 1 + l.length by omega, laidS, List.append_assoc]
theorem laid_same {A B : List (List Int)} : ∀ (l : List ItemD) (i : Nat), (∀ j, i ≤ j → j < i + l.length → A.getD j [] = B.getD j []) → laidS sv A l i = laidS sv B l i
  | [], i, h => rfl
  | it :: l, i, h => by
    rw [laidS, laidS, h i (Nat.le_refl _) (by simp), laid_same l (i + 1) fun j h1 h2 => h j (by omega) (by rw [List.length_cons]; omega)]
theorem laid_cut (L : List ItemD) (A : List (List Int)) {s m e : Nat} (h1 : s ≤ m) (h2 : m ≤ e) (h3 : e ≤ L.length) : laidS sv A ((L.take e).drop s) s = laidS sv A ((L.take m).drop s) s ++ laidS sv A ((L.take e).drop m) m := by
  have hl : (L.take m).length = m := by rw [List.length_take]; omega
  have e1 : L.take e = L.take m ++ (L.take e).drop m := by
    conv => lhs; rw [← List.take_append_drop m (L.take e), List.take_take, Nat.min_eq_left h2]
  rw [e1, List.drop_append_of_le_length (by omega), laid_app, List.length_drop, hl, show s + (m - s) = m by omega]
  rw [List.drop_append_of_le_length (by omega), List.drop_eq_nil_of_le (by omega : (L.take m).length ≤ m), List.nil_append]
theorem laid_one (L : List ItemD) (A : List (List Int)) {i : Nat} {it : ItemD} (h : L[i]? = some it) : laidS sv A ((L.take (i + 1)).drop i) i = placeS sv i it (A.getD i []) := by
  obtain ⟨hi, rfl⟩ := List.getElem?_eq_some_iff.1 h
  rw [List.take_succ_eq_append_getElem hi, List.drop_append_of_le_length (by rw [List.length_take]; omega), List.drop_eq_nil_of_le (by rw [List.length_take]; omega)]
  simp [laidS]
theorem ChainE.same {L : List ItemD} {A B : List (List Int)} : ∀ {P : List Nat} {X : List Str} {e : Nat}, (∀ j, j < e → A.getD j [] = B.getD j []) → ChainE sv L A P X e → ChainE sv L B P X e
  | [], [], e, _, h => h
  | s :: P, x :: X, e, hj, ⟨h1, h2, h3, h4⟩ => ⟨h1, by
      rw [← h2]; symm
      refine laid_same _ _ fun j a b => hj j ?_
      rw [List.length_drop, List.length_take] at b; omega, h3, h4.same fun j hj' => hj j (by omega)⟩
  | [], _ :: _, _, _, h => h.elim
  | _ :: _, [], _, _, h => h.elim
theorem ChainE.len {L : List ItemD} {A : List (List Int)} : ∀ {P : List Nat} {X : List Str} {e : Nat}, ChainE sv L A P X e → P.length = X.length
  | [], [], _, _ => rfl
  | _ :: _, _ :: _, _, ⟨_, _, _, h⟩ => by simp [h.len]
  | [], _ :: _, _, h => h.elim
  | _ :: _, [], _, h => h.elim
theorem sgS_op {k : Int} (h : k = 2 ∨ k = 3 ∨ k = 4) : sgS k ≠ [] := by
  rcases h with rfl | rfl | rfl <;> decide
theorem sgS_no {k : Int} (h : ¬ (k = 2 ∨ k = 3 ∨ k = 4)) : sgS k = [] := by
  unfold sgS; rw [if_neg (by omega), if_neg (by omega), if_neg (by omega)]
theorem last_two {α : Type} (l : List α) (h : ¬ l.length < 2) : ∃ m a b, l = m ++ [b, a] := by
  refine ⟨l.take (l.length - 2), l[l.length - 1], l[l.length - 2], ?_⟩
  apply List.ext_getElem?
  intro j
  by_cases hj : j < l.length - 2
  · rw [List.getElem?_append_left (by rw [List.length_take]; omega), List.getElem?_take_of_lt hj]
  · rw [List.getElem?_append_right (by rw [List.length_take]; omega), List.length_take, Nat.min_eq_left (by omega)]
    by_cases h2 : j = l.length - 2
    · subst h2; simp [List.getElem?_eq_getElem (show l.length - 2 < l.length by omega)]
    · by_cases h3 : j = l.length - 1
      · subst h3
        rw [show l.length - 1 - (l.length - 2) = 1 by omega]
        simp [List.getElem?_eq_getElem (show l.length - 1 < l.length by omega)]
      · rw [List.getElem?_eq_none (by omega), List.getElem?_eq_none (by simp; omega)]
theorem heads_pile (L : List ItemD) : ∀ (l : List ItemD) (i : Nat) (A : List (List Int)) (P : List Nat) (X : List Str), L.drop i = l → A.length = L.length → (∀ j, i ≤ j → A.getD j [] = []) → ChainE sv L A P.reverse X.reverse i →
    match headsE l i A P, shPile sv X l with
    | some (A', P'), some X' => ChainE sv L A' P'.reverse X'.reverse L.length ∧ A'.length = L.length
    | none, none => True
    | _, _ => False
  | [], i, A, P, X, hl, hA, h0, h => by
    have hi : L.length ≤ i := by simpa using hl
    refine ⟨?_, hA⟩
    generalize P.reverse = P' at *
    generalize X.reverse = X' at *
    match P', X', h with
    | [], [], h => 
      show L.length = 0
      have : i = 0 := h
      omega
    | s :: P, x :: X, ⟨h1, h2, ⟨it, h3, h5⟩, h4⟩ =>
      obtain ⟨hs, _⟩ := List.getElem?_eq_some_iff.1 h3
      refine ⟨hs, ?_, ⟨it, h3, h5⟩, h4⟩
      rw [List.take_of_length_le hi] at h2
      rw [List.take_of_length_le (Nat.le_refl _)]; exact h2
  | it :: l, i, A, P, X, hl, hA, h0, h => by
    have hi : L[i]? = some it := by
      have := congrArg (·[0]?) hl
      simpa using this
    have hd : L.drop (i + 1) = l := by
      have := congrArg List.tail hl
      simpa using this
    obtain ⟨hiL, -⟩ := List.getElem?_eq_some_iff.1 hi
    have push : ∀ x : Str, sgS it.k = [] → itemS sv it = x → ChainE sv L A (P ++ [i]).reverse (X ++ [x]).reverse (i + 1) := by
      intro x hs hx
      rw [List.reverse_append, List.reverse_append]
      refine ⟨by omega, ?_, ⟨it, hi, hs⟩, h⟩
      rw [laid_one L A hi, h0 i (Nat.le_refl _)]
      unfold placeS
      rw [if_neg (by simp [hs]), hx]; rfl
    unfold headsE shPile
    by_cases k0 : it.k = 0
    · rw [if_pos (.inl k0), if_pos k0]
      exact heads_pile L l (i + 1) A _ _ hd hA (fun j hj => h0 j (by omega)) (push _ (by rw [k0]; decide) (by unfold itemS; rw [if_neg (by omega)]))
    · by_cases k1 : it.k = 1
      · rw [if_pos (.inr k1), if_neg k0, if_pos k1]
        exact heads_pile L l (i + 1) A _ _ hd hA (fun j hj => h0 j (by omega)) (push _ (by rw [k1]; decide) (by unfold itemS; rw [if_pos k1]))
      · rw [if_neg (by omega), if_neg k0, if_neg k1]
        have hlen : P.length = X.length := by have := h.len; simpa using this
        by_cases k2 : it.k = 2 ∨ it.k = 3 ∨ it.k = 4
        · rw [if_pos k2]
          by_cases h2 : P.length < 2
          · rw [if_pos h2, if_pos (.inr (by omega))]; trivial
          · rw [if_neg h2, if_neg (fun e => e.elim (sgS_op k2) (fun e => by omega))]
            obtain ⟨P0, a, b, rfl⟩ := last_two P h2
            obtain ⟨X0, xa, xb, rfl⟩ := last_two X (by omega)
            have eP : (P0 ++ [b, a]).getD ((P0 ++ [b, a]).length - 2) 0 = b := by simp
            have eP2 : (P0 ++ [b, a]).take ((P0 ++ [b, a]).length - 1) = P0 ++ [b] := by
              rw [show P0 ++ [b, a] = (P0 ++ [b]) ++ [a] by simp, List.take_append_of_le_length (by simp), List.take_of_length_le (by simp)]
            have eX : (X0 ++ [xb, xa]).getD ((X0 ++ [xb, xa]).length - 2) [] = xb := by simp
            have eX1 : (X0 ++ [xb, xa]).getD ((X0 ++ [xb, xa]).length - 1) [] = xa := by simp
            have eX2 : (X0 ++ [xb, xa]).take ((X0 ++ [xb, xa]).length - 2) = X0 := by
              rw [List.take_append_of_le_length (by simp), List.take_of_length_le (by simp)]
            rw [eP, eP2, eX, eX1, eX2]
            rw [List.reverse_append, List.reverse_append] at h
            obtain ⟨a1, a2, ⟨ita, a3, a3'⟩, b1, b2, ⟨itb, b3, b3'⟩, hc⟩ := h
            change a < i at a1
            change b < a at b1
            change laidS sv A ((L.take i).drop a) a = blS a ++ xa at a2
            change laidS sv A ((L.take a).drop b) b = blS b ++ xb at b2
            obtain ⟨hbL, -⟩ := List.getElem?_eq_some_iff.1 b3
            have hset : ∀ j, j ≠ b → (A.set b (A.getD b [] ++ [it.k])).getD j [] = A.getD j [] := by
              intro j hj
              rw [List.getD_eq_getElem?_getD, List.getElem?_set_ne (by omega), ← List.getD_eq_getElem?_getD]
            have hsetb : (A.set b (A.getD b [] ++ [it.k])).getD b [] = A.getD b [] ++ [it.k] := by
              rw [List.getD_eq_getElem?_getD, List.getElem?_set_self (by omega)]; rfl
            refine heads_pile L l (i + 1) _ _ _ hd (by rw [List.length_set]; exact hA) (fun j hj => by rw [hset j (by omega)]; exact h0 j (by omega)) ?_
            rw [List.reverse_append, List.reverse_append]
            refine ⟨by omega, ?_, ⟨itb, b3, b3'⟩, hc.same fun j hj => (hset j (by omega)).symm⟩
            generalize hB : A.set b (A.getD b [] ++ [it.k]) = B at *
            rw [laid_cut L B (show b ≤ b + 1 by omega) (show b + 1 ≤ i + 1 by omega) (by omega), laid_cut L B (show b + 1 ≤ a by omega) (show a ≤ i + 1 by omega) (by omega), laid_cut L B (show a ≤ i by omega) (show i ≤ i + 1 by omega) (by omega)]
            rw [laid_one L B b3, laid_one L B hi, hsetb]
            rw [laid_cut L A (show b ≤ b + 1 by omega) (show b + 1 ≤ a by omega) (by omega), laid_one L A b3] at b2
            have s1 : laidS sv B ((L.take a).drop (b + 1)) (b + 1) = laidS sv A ((L.take a).drop (b + 1)) (b + 1) := laid_same _ _ fun j h1 h2 => hset j (by omega)
            have s2 : laidS sv B ((L.take i).drop a) a = laidS sv A ((L.take i).drop a) a := laid_same _ _ fun j h1 h2 => hset j (by omega)
            rw [s1, s2, a2]
            unfold placeS at b2 ⊢
            rw [if_neg (by simp [b3'])] at b2 ⊢
            rw [if_pos (sgS_op k2)]
            have hba : blS a = [32] := by unfold blS; rw [if_pos (by omega)]
            have e3 : ((A.getD b []).reverse.map opS).flatten ++ itemS sv itb ++ laidS sv A ((L.take a).drop (b + 1)) (b + 1) = xb := by
              have := b2
              unfold blS at this
              rw [List.append_assoc] at this
              exact List.append_cancel_left this
            rw [hba, ← e3]
            simp [opS, blS]
        · rw [if_neg k2, if_pos (.inl (sgS_no k2))]; trivial
theorem heads_expr (L : List ItemD) : match headsE L 0 (List.replicate L.length []) [] with
    | some (A, [_]) => shExpr sv L = some (laidS sv A L 0)
    | _ => shExpr sv L = none := by
  have h := heads_pile (sv := sv) L L 0 (List.replicate L.length []) [] [] rfl (by simp) (fun j _ => by
    rw [List.getD_eq_getElem?_getD, List.getElem?_replicate]; split <;> rfl) rfl
  unfold shExpr
  revert h
  cases h1 : headsE L 0 (List.replicate L.length []) [] with
  | none =>
    cases h2 : shPile sv [] L with
    | none => intro _; rfl
    | some X => intro h; exact h.elim
  | some r =>
    obtain ⟨A, P⟩ := r
    cases h2 : shPile sv [] L with
    | none => intro h; exact h.elim
    | some X =>
      rintro ⟨h, -⟩
      have hlen : P.length = X.length := by have := h.len; simpa using this
      match P, X, hlen with
      | [], [], _ => rfl
      | [s], [x], _ =>
        obtain ⟨h3, h4, -, h5⟩ := h
        have h5' : s = 0 := h5
        subst h5'
        rw [List.take_of_length_le (Nat.le_refl _)] at h4
        have h4' : laidS sv A L 0 = [] ++ x := h4
        show some x = _
        rw [h4']; rfl
      | a :: b :: P, c :: d :: X, _ => rfl
theorem sv_pos (hsv : ∀ x, sv x ≠ []) : ∀ (l : List ItemD) (P Q : List Str), (∀ x ∈ P, x ≠ []) → shPile sv P l = some Q → ∀ x ∈ Q, x ≠ []
  | [], P, Q, h, e => by cases e; exact h
  | it :: l, P, Q, h, e => by
    unfold shPile at e
    repeat' split at e
    · exact sv_pos hsv l _ Q (fun x hx => (List.mem_append.1 hx).elim (fun a => h x a) (fun a => by rw [List.mem_singleton.1 a]; exact hsv _)) e
    · exact sv_pos hsv l _ Q (fun x hx => (List.mem_append.1 hx).elim (fun a => h x a) (fun a => by rw [List.mem_singleton.1 a]; simp)) e
    · cases e
    · exact sv_pos hsv l _ Q (fun x hx => (List.mem_append.1 hx).elim (fun a => h x (List.mem_of_mem_take a)) (fun a => by rw [List.mem_singleton.1 a]; simp)) e
theorem expr_pos (hsv : ∀ x, sv x ≠ []) {l : List ItemD} {s : Str} (h : shExpr sv l = some s) : s ≠ [] := by
  unfold shExpr at h
  split at h
  · rename_i x hx
    cases h
    exact sv_pos hsv l [] _ (by simp) hx _ (by simp)
  · cases h
end
end Go.Proofs.YtemacdimdpnkeaaDoor
