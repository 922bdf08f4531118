import Derived.Lib.ValidLaws
import Derived.Lib.AtoiAllCases
import Derived.Lib.ItoaLen
import Derived.Lib.ItoaNum
import Derived.Lib.TrimUEq
import Derived.Lib.MapLaws
namespace Go.Proofs.YtdcpfnffckkfcaaGreatDoor
set_option maxRecDepth 20000
set_option maxRecDepth 20000
open Go.Lib
def stands (c : Nat) : Bool := decide (128 ≤ c ∨ (97 ≤ c ∧ c ≤ 122) ∨ (65 ≤ c ∧ c ≤ 90) ∨ (48 ≤ c ∧ c ≤ 57) ∨ c = 95 ∨ c = 45 ∨ c = 63 ∨ c = 33 ∨ c = 43 ∨ c = 42 ∨ c = 46)
def badR (l : List UInt8) : Bool := decide ((decodeL l).1 = 65533 ∧ (decodeL l).2 = 1)
def allGo : Nat → List UInt8 → Bool
  | 0, _ => true
  | n + 1, l => if l = [] then true else stands (decodeL l).1 && allGo n (l.drop (decodeL l).2)
def allR (l : List UInt8) : Bool := allGo l.length l
def okGo : Nat → List UInt8 → Bool
  | 0, _ => true
  | n + 1, l => if l = [] then true else !badR l && (stands (decodeL l).1 && okGo n (l.drop (decodeL l).2))
def okR (l : List UInt8) : Bool := okGo l.length l
def wordB (l : List UInt8) : Bool := decide (1 ≤ l.length ∧ l.length ≤ 24) && okR l

theorem drop_lt (l : List UInt8) (h : l ≠ []) : (l.drop (decodeL l).2).length < l.length := by
  have := decodeL_width l
  have hl : 0 < l.length := List.length_pos_iff.2 h
  rw [List.length_drop]; omega
theorem allGo_nil : ∀ n, allGo n [] = true
  | 0 => rfl
  | _ + 1 => by simp [allGo]
theorem okGo_nil : ∀ n, okGo n [] = true
  | 0 => rfl
  | _ + 1 => by simp [okGo]
theorem allGo_fuel : ∀ (n m : Nat) (l : List UInt8), l.length ≤ n → l.length ≤ m → allGo n l = allGo m l
  | 0, m, l, hn, _ => by
    have : l = [] := List.eq_nil_of_length_eq_zero (by omega)
    subst this; rw [allGo_nil, allGo_nil]
  | n + 1, 0, l, _, hm => by
    have : l = [] := List.eq_nil_of_length_eq_zero (by omega)
    subst this; rw [allGo_nil, allGo_nil]
  | n + 1, m + 1, l, hn, hm => by
    unfold allGo
    by_cases hne : l = []
    · simp [hne]
    · have hd := drop_lt l hne
      rw [if_neg hne, if_neg hne, allGo_fuel n m _ (by omega) (by omega)]
theorem okGo_fuel : ∀ (n m : Nat) (l : List UInt8), l.length ≤ n → l.length ≤ m → okGo n l = okGo m l
  | 0, m, l, hn, _ => by
    have : l = [] := List.eq_nil_of_length_eq_zero (by omega)
    subst this; rw [okGo_nil, okGo_nil]
  | n + 1, 0, l, _, hm => by
    have : l = [] := List.eq_nil_of_length_eq_zero (by omega)
    subst this; rw [okGo_nil, okGo_nil]
  | n + 1, m + 1, l, hn, hm => by
    unfold okGo
    by_cases hne : l = []
    · simp [hne]
    · have hd := drop_lt l hne
      rw [if_neg hne, if_neg hne, okGo_fuel n m _ (by omega) (by omega)]
theorem okR_nil : okR [] = true := rfl
theorem allR_step (l : List UInt8) (hne : l ≠ []) : allR l = (stands (decodeL l).1 && allR (l.drop (decodeL l).2)) := by
  have hd := drop_lt l hne
  obtain ⟨n, hn⟩ : ∃ n, l.length = n + 1 := ⟨l.length - 1, by have := List.length_pos_iff.2 hne; omega⟩
  unfold allR; rw [hn]
  show (if l = [] then true else _) = _
  rw [if_neg hne, allGo_fuel n _ _ (by omega) (Nat.le_refl _)]
theorem okR_step (l : List UInt8) (hne : l ≠ []) : okR l = (!badR l && (stands (decodeL l).1 && okR (l.drop (decodeL l).2))) := by
  have hd := drop_lt l hne
  obtain ⟨n, hn⟩ : ∃ n, l.length = n + 1 := ⟨l.length - 1, by have := List.length_pos_iff.2 hne; omega⟩
  unfold okR; rw [hn]
  show (if l = [] then true else _) = _
  rw [if_neg hne, okGo_fuel n _ _ (by omega) (Nat.le_refl _)]
theorem okR_eq : ∀ (n : Nat) (l : List UInt8), l.length ≤ n → okR l = (validD l && allR l)
  | 0, l, h => by
    have : l = [] := List.eq_nil_of_length_eq_zero (by omega)
    subst this; rfl
  | n + 1, l, h => by
    by_cases hne : l = []
    · subst hne; rfl
    · have hd := drop_lt l hne
      rw [okR_step l hne, validD_step l hne, allR_step l hne, okR_eq n _ (by omega)]
      unfold badR
      by_cases hb : (decodeL l).1 = 65533 ∧ (decodeL l).2 = 1
      · rw [if_pos hb, decide_eq_true hb]; rfl
      · rw [if_neg hb, decide_eq_false hb]
        cases stands (decodeL l).1 <;> cases validD (l.drop (decodeL l).2) <;> rfl
theorem okR_is (l : List UInt8) : okR l = (validD l && allR l) := okR_eq l.length l (Nat.le_refl _)

theorem rr1 (n b0 b1 b2 b3 : Nat) (h : b0 < 128) : decodeN n b0 b1 b2 b3 = (b0, 1) := by unfold decodeN; rw [if_pos h]
theorem rr0 (n b0 b1 b2 b3 : Nat) (h : 128 ≤ b0) (h' : b0 < 194 ∨ 245 ≤ b0) (hb : b0 < 256) : decodeN n b0 b1 b2 b3 = (65533, 1) := decodeN_bad n b0 b1 b2 b3 (by omega)
set_option maxRecDepth 100000 in
set_option maxHeartbeats 4000000 in
theorem rr2 (n b0 b1 b2 b3 : Nat) (h : 194 ≤ b0) (h' : b0 < 224) (h1 : b1 < 256) : decodeN n b0 b1 b2 b3 = if n < 2 ∨ b1 < 128 ∨ 191 < b1 then (65533, 1) else (64 * (b0 - 192) + (b1 - 128), 2) := by
  unfold decodeN
  repeat' split
  all_goals first | rfl | (exfalso; omega) | (apply Prod.ext <;> simp only <;> omega)
set_option maxRecDepth 100000 in
set_option maxHeartbeats 4000000 in
theorem rr3 (n b0 b1 b2 b3 : Nat) (h : 224 ≤ b0) (h' : b0 < 240) (h1 : b1 < 256) (h2 : b2 < 256) : decodeN n b0 b1 b2 b3 = if n < 3 ∨ b1 < 128 ∨ 191 < b1 ∨ b2 < 128 ∨ 191 < b2 ∨ 64 * (64 * (b0 - 224) + (b1 - 128)) + (b2 - 128) < 2048 ∨ (55296 ≤ 64 * (64 * (b0 - 224) + (b1 - 128)) + (b2 - 128) ∧ 64 * (64 * (b0 - 224) + (b1 - 128)) + (b2 - 128) < 57344) then (65533, 1) else (64 * (64 * (b0 - 224) + (b1 - 128)) + (b2 - 128), 3) := by
  unfold decodeN
  repeat' split
  all_goals first | rfl | (exfalso; omega) | (apply Prod.ext <;> simp only <;> omega)
set_option maxRecDepth 100000 in
set_option maxHeartbeats 4000000 in
theorem rr4 (n b0 b1 b2 b3 : Nat) (h : 240 ≤ b0) (h' : b0 < 245) (h1 : b1 < 256) (h2 : b2 < 256) (h3 : b3 < 256) : decodeN n b0 b1 b2 b3 = if n < 4 ∨ b1 < 128 ∨ 191 < b1 ∨ b2 < 128 ∨ 191 < b2 ∨ b3 < 128 ∨ 191 < b3 ∨ 64 * (64 * (64 * (b0 - 240) + (b1 - 128)) + (b2 - 128)) + (b3 - 128) < 65536 ∨ 1114111 < 64 * (64 * (64 * (b0 - 240) + (b1 - 128)) + (b2 - 128)) + (b3 - 128) then (65533, 1) else (64 * (64 * (64 * (b0 - 240) + (b1 - 128)) + (b2 - 128)) + (b3 - 128), 4) := by
  unfold decodeN
  repeat' split
  all_goals first | rfl | (exfalso; omega) | (apply Prod.ext <;> simp only <;> omega)
def isDig (b : UInt8) : Bool := decide (48 ≤ b.toNat ∧ b.toNat ≤ 57)
def isSg (b : UInt8) : Bool := decide (b.toNat = 45 ∨ b.toNat = 43)
def strip : List UInt8 → List UInt8
  | [] => []
  | c :: r => if isSg c then r else c :: r
def numB (l : List UInt8) : Bool := !(strip l).isEmpty && (strip l).all isDig
def decA (a : Nat) (l : List UInt8) : Nat := l.foldl (fun n b => 10 * n + (b.toNat - 48)) a
def decV (l : List UInt8) : Nat := decA 0 (strip l)
def negB (l : List UInt8) : Bool := decide ((l.getD 0 0).toNat = 45)
def nbV (l : List UInt8) : Int := if negB l then -(decV l : Int) else decV l
theorem decA_le : ∀ (l : List UInt8) (a : Nat), a ≤ decA a l
  | [], a => Nat.le_refl _
  | c :: r, a => Nat.le_trans (by omega) (decA_le r (10 * a + (c.toNat - 48)))
theorem pu_dec : ∀ (l : List UInt8) (a : Nat), l.all isDig = true → a < 18446744073709551616 → (parseUint10 a l = .ok (decA a l) ∧ decA a l < 18446744073709551616) ∨ (parseUint10 a l = .range ∧ 18446744073709551616 ≤ decA a l)
  | [], a, _, ha => .inl ⟨rfl, ha⟩
  | c :: r, a, h, ha => by
    simp only [List.all_cons, Bool.and_eq_true, isDig, decide_eq_true_eq] at h
    obtain ⟨hc, hr⟩ := h
    have hle := decA_le r (10 * a + (c.toNat - 48))
    have e : decA a (c :: r) = decA (10 * a + (c.toNat - 48)) r := rfl
    rw [e]
    unfold parseUint10
    rw [if_pos hc]
    by_cases h1 : 1844674407370955162 ≤ a
    · rw [if_pos h1]; right; exact ⟨rfl, by omega⟩
    · rw [if_neg h1]
      by_cases h2 : 18446744073709551616 ≤ a * 10 + (c.toNat - 48)
      · rw [if_pos h2]; right; exact ⟨rfl, by omega⟩
      · rw [if_neg h2, Nat.mul_comm a 10]
        exact pu_dec r _ (by simpa [isDig] using hr) (by omega)
theorem strip_ne {l : List UInt8} (h : numB l = true) : strip l ≠ [] := by
  unfold numB at h; intro e; rw [e] at h; simp at h
theorem pm_dec (l : List UInt8) (h : numB l = true) : (parseMag (strip l) = .ok (decV l) ∧ decV l < 18446744073709551616) ∨ (parseMag (strip l) = .range ∧ 18446744073709551616 ≤ decV l) := by
  unfold parseMag; rw [if_neg (strip_ne h)]
  unfold numB at h
  exact pu_dec _ 0 (by simp only [Bool.and_eq_true] at h; exact h.2) (by omega)
theorem atoi_num (l : List UInt8) (h : numB l = true) : atoiAll l = .ok (nbV l) ∨ (atoiAll l = .range ∧ 1099511627776 < decV l) := by
  have hm := pm_dec l h
  cases l with
  | nil => simp [numB, strip] at h
  | cons c r =>
    have hs : strip (c :: r) = if isSg c then r else c :: r := rfl
    by_cases hp : c.toNat = 43 ∨ c.toNat = 45
    · have e1 : isSg c = true := by simp [isSg]; omega
      rw [hs, e1, if_pos rfl] at hm
      unfold atoiAll nbV negB
      simp only [if_pos hp, List.getD_cons_zero]
      rcases hm with ⟨e, hb⟩ | ⟨e, hb⟩
      · rw [e]; dsimp only
        by_cases hn : c.toNat = 45
        · simp only [hn, not_true_eq_false, false_and, if_false, true_and, if_true, decide_true]
          by_cases hb2 : 9223372036854775808 < decV (c :: r)
          · rw [if_pos hb2]; right; exact ⟨rfl, by omega⟩
          · rw [if_neg hb2]; left; rfl
        · simp only [hn, not_false_eq_true, true_and, false_and, if_false, decide_false, Bool.false_eq_true]
          by_cases hb2 : 9223372036854775808 ≤ decV (c :: r)
          · rw [if_pos hb2]; right; exact ⟨rfl, by omega⟩
          · rw [if_neg hb2]; left; rfl
      · rw [e]; right; exact ⟨rfl, by omega⟩
    · have e1 : isSg c = false := by simp [isSg]; omega
      rw [hs, e1, if_neg (by simp)] at hm
      have hn : ¬ c.toNat = 45 := by omega
      unfold atoiAll nbV negB
      simp only [if_neg hp, List.getD_cons_zero]
      rcases hm with ⟨e, hb⟩ | ⟨e, hb⟩
      · rw [e]; dsimp only
        simp only [hn, not_false_eq_true, true_and, false_and, if_false, decide_false, Bool.false_eq_true]
        by_cases hb2 : 9223372036854775808 ≤ decV (c :: r)
        · rw [if_pos hb2]; right; exact ⟨rfl, by omega⟩
        · rw [if_neg hb2]; left; rfl
      · rw [e]; right; exact ⟨rfl, by omega⟩

def nil3 : List UInt8 := [110, 105, 108]
end Go.Proofs.YtdcpfnffckkfcaaGreatDoor
namespace Go.Proofs.YtdcpfnffckkfcaaGreatDoor
set_option maxRecDepth 20000
set_option maxRecDepth 20000
open Go.Lib
set_option maxRecDepth 100000
set_option linter.unusedVariables false
theorem dn_hi (n b0 b1 b2 b3 : Nat) (h : 128 ≤ b0) : 128 ≤ (decodeN n b0 b1 b2 b3).1 := by
  unfold decodeN
  repeat' split
  all_goals first | (exfalso; omega) | (simp only; omega)
theorem dn_le (n b0 b1 b2 b3 : Nat) (h : 1 ≤ n) : (decodeN n b0 b1 b2 b3).2 ≤ n := by
  unfold decodeN
  repeat' split
  all_goals first | (exfalso; omega) | (simp only; omega)
theorem dl_le (l : List UInt8) (h : l ≠ []) : (decodeL l).2 ≤ l.length := by
  rw [decodeL_N]; exact dn_le _ _ _ _ _ (List.length_pos_iff.2 h)
theorem dec_hi (s : ByteArray) (pos : Nat) (h : 128 ≤ (s.data.toList.getD pos 0).toNat) : 128 ≤ (Utf8.decode s pos).1 := by
  rw [← decodeL_drop, decodeL_N]
  refine dn_hi _ _ _ _ _ ?_
  simpa [List.getD] using h
theorem dec_lo (s : ByteArray) (pos : Nat) (hp : pos < s.size) (h : (s.data.toList.getD pos 0).toNat < 128) : Utf8.decode s pos = ((s.data.toList.getD pos 0).toNat, 1) := by
  rw [← decodeL_drop, decodeL_N]
  have e : (s.data.toList.drop pos).getD 0 0 = s.data.toList.getD pos 0 := by simp [List.getD]
  rw [e]; exact rr1 _ _ _ _ _ h

def cnt (l : List UInt8) (k : Nat) : Nat := k - (if isSg (l.getD 0 0) then 1 else 0)
def goodTo (l : List UInt8) (k : Nat) : Prop := ∀ j, j < k → isDig (l.getD j 0) = true ∨ (j = 0 ∧ isSg (l.getD 0 0) = true)
theorem strip_sg {l : List UInt8} (h : isSg (l.getD 0 0) = true) : strip l = l.drop 1 := by
  cases l with
  | nil => rfl
  | cons c r => simp only [List.getD_cons_zero] at h; simp [strip, h]
theorem strip_no {l : List UInt8} (h : isSg (l.getD 0 0) = false) : strip l = l := by
  cases l with
  | nil => rfl
  | cons c r => simp only [List.getD_cons_zero] at h; simp [strip, h]
theorem all_getD (l : List UInt8) : l.all isDig = true ↔ ∀ j, j < l.length → isDig (l.getD j 0) = true := by
  rw [List.all_eq_true]
  constructor
  · intro h j hj
    have : l.getD j 0 = l[j] := by simp [List.getD, hj]
    rw [this]; exact h _ (List.getElem_mem hj)
  · intro h x hx
    obtain ⟨j, hj, rfl⟩ := List.getElem_of_mem hx
    have := h j hj
    simpa [List.getD, hj] using this
theorem getD_drop1 (l : List UInt8) (j : Nat) : (l.drop 1).getD j 0 = l.getD (1 + j) 0 := by simp [List.getD, Nat.add_comm]
theorem nb_iff (l : List UInt8) : numB l = true ↔ strip l ≠ [] ∧ ∀ j, j < (strip l).length → isDig ((strip l).getD j 0) = true := by
  unfold numB
  rw [Bool.and_eq_true, all_getD]
  simp
theorem nb_end (l : List UInt8) (h : goodTo l l.length) : numB l = decide (0 < cnt l l.length) := by
  rw [Bool.eq_iff_iff, nb_iff, decide_eq_true_eq]
  unfold cnt
  by_cases hs : isSg (l.getD 0 0) = true
  · rw [strip_sg hs, if_pos hs]
    constructor
    · rintro ⟨h1, _⟩
      have := List.length_pos_iff.2 h1; simp at this; omega
    · intro h1
      refine ⟨fun e => ?_, fun j hj => ?_⟩
      · have := congrArg List.length e; simp at this; omega
      · rw [getD_drop1]; simp at hj
        rcases h (1 + j) (by omega) with h2 | h2
        · exact h2
        · omega
  · simp only [Bool.not_eq_true] at hs
    rw [strip_no hs]; simp only [hs]
    constructor
    · rintro ⟨h1, _⟩
      have := List.length_pos_iff.2 h1; simp; omega
    · intro h1
      refine ⟨fun e => ?_, fun j hj => ?_⟩
      · rw [e] at h1; simp at h1
      · rcases h j hj with h2 | ⟨_, h2⟩
        · exact h2
        · rw [hs] at h2; cases h2
theorem nb_no (l : List UInt8) (k : Nat) (hk : k < l.length) (h : isDig (l.getD k 0) = false) (h0 : ¬ (k = 0 ∧ isSg (l.getD 0 0) = true)) : numB l = false := by
  rw [Bool.eq_false_iff]
  intro hn
  obtain ⟨h1, h2⟩ := (nb_iff l).1 hn
  by_cases hs : isSg (l.getD 0 0) = true
  · rw [strip_sg hs] at h2
    have hk0 : k ≠ 0 := fun e => h0 ⟨e, hs⟩
    have := h2 (k - 1) (by simp; omega)
    rw [getD_drop1, show 1 + (k - 1) = k by omega, h] at this
    cases this
  · simp only [Bool.not_eq_true] at hs
    rw [strip_no hs] at h2
    have := h2 k hk
    rw [h] at this; cases this
end Go.Proofs.YtdcpfnffckkfcaaGreatDoor
namespace Go.Proofs.YtdcpfnffckkfcaaGreatDoor
set_option maxRecDepth 20000
set_option maxRecDepth 20000
open Go.Lib
set_option linter.unusedVariables false
theorem ubyte_lt (u : UInt8) : u.toNat < 256 := u.toNat_lt
theorem bad_of {l : List UInt8} (h : decodeL l = (65533, 1)) : badR l = true := by unfold badR; rw [h]; rfl
theorem dec_same {l m : List UInt8} (hne : l ≠ []) (hb : badR l = false) (h : ∀ i, i < (decodeL l).2 → m[i]? = l[i]?) : decodeL m = decodeL l := by
  have hk1 := decodeL_width l
  have hkl := decodeL_le l hne
  have hg : ∀ i, i < (decodeL l).2 → m.getD i 0 = l.getD i 0 := fun i hi => by
    rw [List.getD_eq_getElem?_getD, List.getD_eq_getElem?_getD, h i hi]
  have hlen : (decodeL l).2 ≤ m.length := by
    have h1 := h ((decodeL l).2 - 1) (by omega)
    rw [List.getElem?_eq_getElem (show (decodeL l).2 - 1 < l.length by omega)] at h1
    have := (List.getElem?_eq_some_iff.1 h1).1
    omega
  have hno : ¬ decodeL l = (65533, 1) := fun e => by rw [bad_of e] at hb; cases hb
  have e0 := hg 0 (by omega)
  have u1 := ubyte_lt (l.getD 1 0)
  have u2 := ubyte_lt (l.getD 2 0)
  have u3 := ubyte_lt (l.getD 3 0)
  have v1 := ubyte_lt (m.getD 1 0)
  have v2 := ubyte_lt (m.getD 2 0)
  have v3 := ubyte_lt (m.getD 3 0)
  have hL := decodeL_N l
  have hM := decodeL_N m
  rw [e0] at hM
  have ub := ubyte_lt (l.getD 0 0)
  by_cases c1 : (l.getD 0 0).toNat < 128
  · rw [hM, hL, rr1 _ _ _ _ _ c1, rr1 _ _ _ _ _ c1]
  by_cases c2 : (l.getD 0 0).toNat < 194 ∨ 245 ≤ (l.getD 0 0).toNat
  · exact absurd (by rw [hL, rr0 _ _ _ _ _ (by omega) c2 ub]) hno
  by_cases c3 : (l.getD 0 0).toNat < 224
  · rw [rr2 _ _ _ _ _ (by omega) c3 u1] at hL
    rw [rr2 _ _ _ _ _ (by omega) c3 v1] at hM
    split at hL
    · exact absurd hL hno
    · rename_i hc
      rw [hL] at hg hlen
      rw [hg 1 (by simp)] at hM
      rw [if_neg (by simp at hlen; omega)] at hM
      rw [hM, hL]
  by_cases c4 : (l.getD 0 0).toNat < 240
  · rw [rr3 _ _ _ _ _ (by omega) c4 u1 u2] at hL
    rw [rr3 _ _ _ _ _ (by omega) c4 v1 v2] at hM
    split at hL
    · exact absurd hL hno
    · rename_i hc
      rw [hL] at hg hlen
      rw [hg 1 (by simp), hg 2 (by simp)] at hM
      rw [if_neg (by simp at hlen; omega)] at hM
      rw [hM, hL]
  · rw [rr4 _ _ _ _ _ (by omega) (by omega) u1 u2 u3] at hL
    rw [rr4 _ _ _ _ _ (by omega) (by omega) v1 v2 v3] at hM
    split at hL
    · exact absurd hL hno
    · rename_i hc
      rw [hL] at hg hlen
      rw [hg 1 (by simp), hg 2 (by simp), hg 3 (by simp)] at hM
      rw [if_neg (by simp at hlen; omega)] at hM
      rw [hM, hL]
theorem bad_same {l m : List UInt8} (h : decodeL m = decodeL l) : badR m = badR l := by unfold badR; rw [h]
theorem dec_app {l : List UInt8} (r : List UInt8) (hne : l ≠ []) (hb : badR l = false) : decodeL (l ++ r) = decodeL l :=
  dec_same hne hb (fun i hi => by rw [List.getElem?_append_left (by have := decodeL_le l hne; omega)])
theorem dec_take {l : List UInt8} (n : Nat) (hne : l ≠ []) (hb : badR l = false) (hn : (decodeL l).2 ≤ n) : decodeL (l.take n) = decodeL l :=
  dec_same hne hb (fun i hi => by rw [List.getElem?_take, if_pos (by omega)])

def runGo : Nat → List UInt8 → Nat
  | 0, _ => 0
  | n + 1, l => if l = [] then 0 else if badR l = true ∨ stands (decodeL l).1 = false then 0 else (decodeL l).2 + runGo n (l.drop (decodeL l).2)
def runN (l : List UInt8) : Nat := runGo l.length l
theorem runGo_nil : ∀ n, runGo n [] = 0
  | 0 => rfl
  | _ + 1 => by simp [runGo]
theorem runGo_fuel : ∀ (n m : Nat) (l : List UInt8), l.length ≤ n → l.length ≤ m → runGo n l = runGo m l
  | 0, m, l, h, _ => by
    have : l = [] := List.length_eq_zero_iff.1 (by omega)
    subst this; rw [runGo_nil, runGo_nil]
  | n + 1, 0, l, _, h => by
    have : l = [] := List.length_eq_zero_iff.1 (by omega)
    subst this; rw [runGo_nil, runGo_nil]
  | n + 1, m + 1, l, h1, h2 => by
    by_cases hl : l = []
    · subst hl; rw [runGo_nil, runGo_nil]
    · have := drop_lt l hl
      simp only [runGo, if_neg hl]
      rw [runGo_fuel n m _ (by omega) (by omega)]
theorem runN_nil : runN [] = 0 := rfl
theorem runN_stop {l : List UInt8} (h : badR l = true ∨ stands (decodeL l).1 = false) : runN l = 0 := by
  unfold runN
  cases l with
  | nil => rfl
  | cons a t => show runGo (t.length + 1) (a :: t) = 0; unfold runGo; rw [if_neg (by simp), if_pos h]
theorem runN_step {l : List UInt8} (hne : l ≠ []) (hb : badR l = false) (hs : stands (decodeL l).1 = true) : runN l = (decodeL l).2 + runN (l.drop (decodeL l).2) := by
  unfold runN
  have hl := drop_lt l hne
  cases l with
  | nil => exact absurd rfl hne
  | cons a t =>
    show runGo (t.length + 1) (a :: t) = _
    rw [runGo, if_neg (by simp), if_neg (by simp [hb, hs]), runGo_fuel t.length _ _ (by simp at hl ⊢; omega) (Nat.le_refl _)]
theorem runN_le : ∀ (n : Nat) (l : List UInt8), l.length ≤ n → runN l ≤ l.length
  | 0, l, h => by
    have : l = [] := List.length_eq_zero_iff.1 (by omega)
    subst this; exact Nat.le_refl _
  | n + 1, l, h => by
    by_cases hl : l = []
    · subst hl; exact Nat.le_refl _
    by_cases hb : badR l = true ∨ stands (decodeL l).1 = false
    · rw [runN_stop hb]; exact Nat.zero_le _
    · have hb1 : badR l = false := by cases hx : badR l; rfl; exact absurd (.inl hx) hb
      have hb2 : stands (decodeL l).1 = true := by cases hx : stands (decodeL l).1; exact absurd (.inr hx) hb; rfl
      have hd := drop_lt l hl
      have := runN_le n _ (show (l.drop (decodeL l).2).length ≤ n by omega)
      rw [runN_step hl hb1 hb2]
      rw [List.length_drop] at this
      have := decodeL_le l hl
      omega
theorem run_ok : ∀ (n : Nat) (l : List UInt8), l.length ≤ n → okR (l.take (runN l)) = true
  | 0, l, h => by
    have : l = [] := List.length_eq_zero_iff.1 (by omega)
    subst this; rfl
  | n + 1, l, h => by
    by_cases hl : l = []
    · subst hl; rfl
    by_cases hb : badR l = true ∨ stands (decodeL l).1 = false
    · rw [runN_stop hb]; exact okR_nil
    · have hb1 : badR l = false := by cases hx : badR l; rfl; exact absurd (.inl hx) hb
      have hb2 : stands (decodeL l).1 = true := by cases hx : stands (decodeL l).1; exact absurd (.inr hx) hb; rfl
      have hd := drop_lt l hl
      have ih := run_ok n _ (show (l.drop (decodeL l).2).length ≤ n by omega)
      have hk := decodeL_width l
      have hlp : 0 < l.length := List.length_pos_iff.2 hl
      rw [runN_step hl hb1 hb2]
      have hdt := dec_take ((decodeL l).2 + runN (l.drop (decodeL l).2)) hl hb1 (Nat.le_add_right _ _)
      have hne : l.take ((decodeL l).2 + runN (l.drop (decodeL l).2)) ≠ [] := by
        intro e
        have := congrArg List.length e
        rw [List.length_take, List.length_nil] at this
        omega
      rw [okR_step _ hne, bad_same hdt, hdt, hb1, hb2]
      simp only [Bool.not_false, Bool.true_and]
      rw [List.drop_take, Nat.add_sub_cancel_left]
      exact ih
theorem run_front (l : List UInt8) : runN l ≤ l.length ∧ okR (l.take (runN l)) = true := ⟨runN_le l.length l (Nat.le_refl _), run_ok l.length l (Nat.le_refl _)⟩
end Go.Proofs.YtdcpfnffckkfcaaGreatDoor
namespace Go.Proofs.YtdcpfnffckkfcaaGreatDoor
set_option maxRecDepth 20000
set_option maxRecDepth 20000
open Go.Lib
set_option linter.unusedVariables false
structure Tk where
  k : Int
  nm : List UInt8
  p : Int
  vk : Int
  vn : Int
  vs : List UInt8
deriving DecidableEq
def tok0 (k : Int) : Tk := ⟨k, [], 0, 0, 0, []⟩
def tokP (p : Int) : Tk := ⟨10, [], p, 0, 0, []⟩
def tokN (k : Int) (nm : List UInt8) : Tk := ⟨k, nm, 0, 0, 0, []⟩
def tokV (vk vn : Int) (vs : List UInt8) : Tk := ⟨11, [], 0, vk, vn, vs⟩
def parL (l : List UInt8) : Option Tk :=
  if wordB l = false then none else if l = nil3 then some (tokV 0 0 []) else if numB l = true then (if 1099511627776 < decV l then none else some (tokV 1 (nbV l) [])) else some (tokV 2 0 l)
def fixL : List UInt8 → Option (Tk × Nat)
  | 40 :: _ => some (tok0 0, 1)
  | 41 :: _ => some (tok0 1, 1)
  | 123 :: _ => some (tok0 2, 1)
  | 125 :: _ => some (tok0 3, 1)
  | 60 :: 60 :: _ => some (tok0 4, 2)
  | 62 :: 62 :: _ => some (tok0 5, 2)
  | 45 :: 45 :: 62 :: _ => some (tok0 6, 3)
  | 45 :: 40 :: _ => some (tok0 7, 1)
  | 60 :: 61 :: _ => some (tokP 3, 2)
  | 60 :: 62 :: _ => some (tokP 1, 2)
  | 62 :: 61 :: _ => some (tokP 5, 2)
  | _ => none
def sglL : List UInt8 → Option (Tk × Nat)
  | 60 :: _ => some (tokP 2, 1)
  | 62 :: _ => some (tokP 4, 1)
  | 61 :: _ => some (tokP 0, 1)
  | _ => none
def oneL (l : List UInt8) : Option (Tk × Nat) :=
  match fixL l with
  | some x => some x
  | none =>
    let r := (l.drop 1).take (runN (l.drop 1))
    if l.getD 0 0 = 60 ∧ r ≠ [] ∧ (l.drop (1 + r.length)).getD 0 0 = 62 then (if 24 < r.length then none else some (tokN 9 r, r.length + 2))
    else match sglL l with
      | some x => some x
      | none =>
        if l.getD 0 0 = 94 then (if r = [] ∨ 24 < r.length then none else some (tokN 8 r, r.length + 1))
        else match parL (l.take (runN l)) with
          | none => none
          | some t => some (t, runN l)
def sgnL (p : Int) : List UInt8 := if p = 0 then [61] else if p = 1 then [60, 62] else if p = 2 then [60] else if p = 3 then [60, 61] else if p = 4 then [62] else if p = 5 then [62, 61] else []
def valL (k n : Int) (s : List UInt8) : List UInt8 := if k = 1 then itoa n else if k = 2 then s else nil3
def txtL (t : Tk) : List UInt8 :=
  if t.k = 0 then [40] else if t.k = 1 then [41] else if t.k = 2 then [123] else if t.k = 3 then [125] else if t.k = 4 then [60, 60] else if t.k = 5 then [62, 62] else if t.k = 6 then [45, 45, 62] else if t.k = 7 then [45]
  else if t.k = 8 then 94 :: t.nm else if t.k = 9 then 60 :: (t.nm ++ [62]) else if t.k = 10 then sgnL t.p else valL t.vk t.vn t.vs
theorem par_word {w : List UInt8} {t : Tk} (h : parL w = some t) : wordB w = true := by
  unfold parL at h
  split at h
  · cases h
  · rename_i hc; cases hx : wordB w; exact absurd hx hc; rfl
theorem word_ok {w : List UInt8} (h : wordB w = true) : okR w = true ∧ 1 ≤ w.length ∧ w.length ≤ 24 := by
  unfold wordB at h
  simp only [Bool.and_eq_true, decide_eq_true_eq] at h
  exact ⟨h.2, h.1.1, h.1.2⟩
inductive IsTok : Tk → Prop
  | fix (k : Int) (h : k = 0 ∨ k = 1 ∨ k = 2 ∨ k = 3 ∨ k = 4 ∨ k = 5 ∨ k = 6 ∨ k = 7) : IsTok (tok0 k)
  | prd (p : Int) (h : p = 0 ∨ p = 1 ∨ p = 2 ∨ p = 3 ∨ p = 4 ∨ p = 5) : IsTok (tokP p)
  | nam (k : Int) (r : List UInt8) (hk : k = 8 ∨ k = 9) (ho : okR r = true) (h1 : 1 ≤ r.length) (h2 : r.length ≤ 24) : IsTok (tokN k r)
  | val (w : List UInt8) (t : Tk) (h : parL w = some t) : IsTok t
end Go.Proofs.YtdcpfnffckkfcaaGreatDoor
namespace Go.Proofs.YtdcpfnffckkfcaaGreatDoor
set_option maxRecDepth 20000
set_option maxRecDepth 20000
open Go.Lib
set_option linter.unusedVariables false
theorem getD_hd {l : List UInt8} (h : l ≠ []) : l = l.getD 0 0 :: l.drop 1 := by cases l with
  | nil => exact absurd rfl h
  | cons a t => rfl
theorem one_is {l : List UInt8} {t : Tk} {n : Nat} (hl : l ≠ []) (h : oneL l = some (t, n)) : IsTok t ∧ 1 ≤ n ∧ n ≤ l.length ∧ (t.k ≠ 11 ∨ t.vk ≠ 1 → l.take n = txtL t) := by
  unfold oneL at h
  have hl1 : 0 < l.length := List.length_pos_iff.2 hl
  split at h
  · rename_i x hx
    obtain rfl := Option.some.inj h
    unfold fixL at hx
    split at hx
    all_goals first
      | (cases hx; done)
      | (simp only [Option.some.injEq, Prod.mk.injEq] at hx
         obtain ⟨rfl, rfl⟩ := hx
         refine ⟨?_, by omega, by simp, fun _ => rfl⟩
         first | exact IsTok.fix _ (by simp) | exact IsTok.prd _ (by simp))
  · rename_i hf
    have hrun := run_front (l.drop 1)
    have hd : (l.drop 1).length = l.length - 1 := List.length_drop
    have hrl : ((l.drop 1).take (runN (l.drop 1))).length = runN (l.drop 1) := by rw [List.length_take]; omega
    simp only at h
    split at h
    · rename_i hc
      split at h
      · cases h
      · rename_i h24
        simp only [Option.some.injEq, Prod.mk.injEq] at h
        obtain ⟨rfl, rfl⟩ := h
        obtain ⟨c1, c2, c3⟩ := hc
        have hr1 : 1 ≤ ((l.drop 1).take (runN (l.drop 1))).length := by
          rcases Nat.eq_zero_or_pos ((l.drop 1).take (runN (l.drop 1))).length with e | e
          · exact absurd (List.length_eq_zero_iff.1 e) c2
          · exact e
        have hlen : ((l.drop 1).take (runN (l.drop 1))).length + 2 ≤ l.length := by
          rcases Nat.lt_or_ge (1 + ((l.drop 1).take (runN (l.drop 1))).length) l.length with e | e
          · omega
          · rw [List.drop_of_length_le e] at c3; cases c3
        refine ⟨.nam 9 _ (.inr rfl) hrun.2 hr1 (by omega), by omega, hlen, fun _ => ?_⟩
        show l.take _ = 60 :: ((l.drop 1).take (runN (l.drop 1)) ++ [62])
        have e1 : l = 60 :: l.drop 1 := by rw [← c1]; exact getD_hd hl
        have e2 : (l.drop 1).drop (runN (l.drop 1)) = 62 :: (l.drop 1).drop (runN (l.drop 1) + 1) := by
          rw [List.drop_drop]
          rw [hrl] at c3 hlen
          have hne : l.drop (1 + runN (l.drop 1)) ≠ [] := fun e => by rw [e] at c3; cases c3
          have := getD_hd hne
          rw [c3, List.drop_drop] at this
          rw [this, List.drop_drop]
          congr 2
        have e3 : l.drop 1 = (l.drop 1).take (runN (l.drop 1)) ++ 62 :: (l.drop 1).drop (runN (l.drop 1) + 1) := by rw [← e2, List.take_append_drop]
        generalize (l.drop 1).take (runN (l.drop 1)) = r at *
        generalize (l.drop 1).drop (runN (l.drop 1) + 1) = u at *
        rw [e1, e3]
        show (60 :: (r ++ 62 :: u)).take (r.length + 1 + 1) = _
        rw [List.take_succ_cons, List.take_append, List.take_of_length_le (by omega), show r.length + 1 - r.length = 1 by omega]
        rfl
    · split at h
      · rename_i x hx
        obtain rfl := Option.some.inj h
        unfold sglL at hx
        split at hx
        all_goals first
          | (cases hx; done)
          | (simp only [Option.some.injEq, Prod.mk.injEq] at hx
             obtain ⟨rfl, rfl⟩ := hx
             exact ⟨IsTok.prd _ (by simp), by omega, by simp, fun _ => rfl⟩)
      · split at h
        · rename_i c94
          split at h
          · cases h
          · rename_i hc
            simp only [Option.some.injEq, Prod.mk.injEq] at h
            obtain ⟨rfl, rfl⟩ := h
            have hr1 : 1 ≤ ((l.drop 1).take (runN (l.drop 1))).length := by
              rcases Nat.eq_zero_or_pos ((l.drop 1).take (runN (l.drop 1))).length with e | e
              · exact absurd (.inl (List.length_eq_zero_iff.1 e)) hc
              · exact e
            refine ⟨.nam 8 _ (.inl rfl) hrun.2 hr1 (by have := fun e => hc (.inr e); omega), by omega, by omega, fun _ => ?_⟩
            show l.take _ = 94 :: (l.drop 1).take (runN (l.drop 1))
            rw [hrl]
            have e1 : l = 94 :: l.drop 1 := by rw [← c94]; exact getD_hd hl
            conv => lhs; rw [e1]
            rw [List.take_succ_cons]
            rfl
        · split at h
          · cases h
          · rename_i t' hp
            simp only [Option.some.injEq, Prod.mk.injEq] at h
            obtain ⟨rfl, rfl⟩ := h
            have hr := run_front l
            obtain ⟨ho, h1, h2⟩ := word_ok (par_word hp)
            rw [List.length_take] at h1
            refine ⟨.val _ _ hp, by omega, hr.1, fun hk => ?_⟩
            unfold parL at hp
            repeat' split at hp
            all_goals first
              | (cases hp; done)
              | (rename_i hn; obtain rfl := Option.some.inj hp; exact hn)
              | (obtain rfl := Option.some.inj hp; rcases hk with hk | hk <;> exact absurd rfl hk)
              | (obtain rfl := Option.some.inj hp; rfl)
def isW (b : UInt8) : Bool := b == 32 || b == 9 || b == 10 || b == 13
def cmN (l : List UInt8) : Nat := (l.takeWhile (fun b => b != 10)).length
def whGo : Nat → List UInt8 → Nat
  | 0, _ => 0
  | n + 1, l => if l = [] then 0 else if isW (l.getD 0 0) = true then 1 + whGo n (l.drop 1) else if l.getD 0 0 = 59 then cmN l + whGo n (l.drop (cmN l)) else 0
def whN (l : List UInt8) : Nat := whGo l.length l
theorem cm_pos {l : List UInt8} (h : l.getD 0 0 = 59) : 1 ≤ cmN l ∧ cmN l ≤ l.length := by
  unfold cmN
  cases l with
  | nil => cases h
  | cons a t =>
    have : a = 59 := h
    subst this
    refine ⟨by simp [List.takeWhile], (List.takeWhile_sublist _).length_le⟩
theorem whGo_nil : ∀ n, whGo n [] = 0
  | 0 => rfl
  | _ + 1 => by simp [whGo]
theorem whGo_fuel : ∀ (n m : Nat) (l : List UInt8), l.length ≤ n → l.length ≤ m → whGo n l = whGo m l
  | 0, m, l, h, _ => by
    have : l = [] := List.length_eq_zero_iff.1 (by omega)
    subst this; rw [whGo_nil, whGo_nil]
  | n + 1, 0, l, _, h => by
    have : l = [] := List.length_eq_zero_iff.1 (by omega)
    subst this; rw [whGo_nil, whGo_nil]
  | n + 1, m + 1, l, h1, h2 => by
    by_cases hl : l = []
    · subst hl; rw [whGo_nil, whGo_nil]
    · have hp : 0 < l.length := List.length_pos_iff.2 hl
      simp only [whGo, if_neg hl]
      rw [whGo_fuel n m (l.drop 1) (by rw [List.length_drop]; omega) (by rw [List.length_drop]; omega)]
      by_cases hc : l.getD 0 0 = 59
      · have := cm_pos hc
        rw [whGo_fuel n m (l.drop (cmN l)) (by rw [List.length_drop]; omega) (by rw [List.length_drop]; omega)]
      · rw [if_neg hc, if_neg hc]
theorem wh_step (l : List UInt8) (hl : l ≠ []) : whN l = if isW (l.getD 0 0) = true then 1 + whN (l.drop 1) else if l.getD 0 0 = 59 then cmN l + whN (l.drop (cmN l)) else 0 := by
  have hp : 0 < l.length := List.length_pos_iff.2 hl
  obtain ⟨m, hm⟩ : ∃ m, l.length = m + 1 := ⟨l.length - 1, by omega⟩
  unfold whN
  conv => lhs; rw [hm]
  simp only [whGo, if_neg hl]
  rw [whGo_fuel m (l.drop 1).length _ (by rw [List.length_drop]; omega) (Nat.le_refl _)]
  by_cases hc : l.getD 0 0 = 59
  · have := cm_pos hc
    rw [whGo_fuel m (l.drop (cmN l)).length _ (by rw [List.length_drop]; omega) (Nat.le_refl _)]
  · rw [if_neg hc, if_neg hc]
theorem wh_le : ∀ (n : Nat) (l : List UInt8), l.length ≤ n → whN l ≤ l.length
  | 0, l, h => by
    have : l = [] := List.length_eq_zero_iff.1 (by omega)
    subst this; exact Nat.le_refl _
  | n + 1, l, h => by
    by_cases hl : l = []
    · subst hl; exact Nat.le_refl _
    · have hp : 0 < l.length := List.length_pos_iff.2 hl
      rw [wh_step l hl]
      split
      · have := wh_le n (l.drop 1) (by rw [List.length_drop]; omega)
        rw [List.length_drop] at this
        omega
      · split
        · rename_i hc
          have hcm := cm_pos hc
          have := wh_le n (l.drop (cmN l)) (by rw [List.length_drop]; omega)
          rw [List.length_drop] at this
          omega
        · omega
def scanGo : Nat → Nat → List UInt8 → List (Tk × Nat) × Nat × Nat
  | 0, _, _ => ([], 0, 0)
  | n + 1, at_, l => if l = [] then ([], 0, 0) else match oneL l with
    | none => ([], at_, 16)
    | some (t, k) => ((t, at_) :: (scanGo n (at_ + k + whN (l.drop k)) ((l.drop k).drop (whN (l.drop k)))).1, (scanGo n (at_ + k + whN (l.drop k)) ((l.drop k).drop (whN (l.drop k)))).2)
def scanL (l : List UInt8) : List (Tk × Nat) × Nat × Nat := scanGo l.length (whN l) (l.drop (whN l))
theorem scanGo_nil : ∀ n a, scanGo n a [] = ([], 0, 0)
  | 0, _ => rfl
  | _ + 1, _ => by simp [scanGo]
theorem scanGo_fuel : ∀ (n m a : Nat) (l : List UInt8), l.length ≤ n → l.length ≤ m → scanGo n a l = scanGo m a l
  | 0, m, a, l, h, _ => by
    have : l = [] := List.length_eq_zero_iff.1 (by omega)
    subst this; rw [scanGo_nil, scanGo_nil]
  | n + 1, 0, a, l, _, h => by
    have : l = [] := List.length_eq_zero_iff.1 (by omega)
    subst this; rw [scanGo_nil, scanGo_nil]
  | n + 1, m + 1, a, l, h1, h2 => by
    by_cases hl : l = []
    · subst hl; rw [scanGo_nil, scanGo_nil]
    · simp only [scanGo, if_neg hl]
      cases ho : oneL l with
      | none => rfl
      | some x =>
        obtain ⟨t, k⟩ := x
        have := one_is hl ho
        simp only
        rw [scanGo_fuel n m _ _ (by rw [List.length_drop, List.length_drop]; omega) (by rw [List.length_drop, List.length_drop]; omega)]
end Go.Proofs.YtdcpfnffckkfcaaGreatDoor
namespace Go.Proofs.YtdcpfnffckkfcaaGreatDoor
set_option maxRecDepth 20000
set_option maxRecDepth 20000
open Go.Lib
set_option linter.unusedVariables false
theorem dec_hi2 {l : List UInt8} (hne : l ≠ []) (hb : badR l = false) (hk : 2 ≤ (decodeL l).2) : ∀ i, i < (decodeL l).2 → 128 ≤ (l.getD i 0).toNat := by
  have hno : ¬ decodeL l = (65533, 1) := fun e => by rw [bad_of e] at hb; cases hb
  have u1 := ubyte_lt (l.getD 1 0)
  have u2 := ubyte_lt (l.getD 2 0)
  have u3 := ubyte_lt (l.getD 3 0)
  have ub := ubyte_lt (l.getD 0 0)
  have hL := decodeL_N l
  intro i hi
  by_cases c1 : (l.getD 0 0).toNat < 128
  · rw [rr1 _ _ _ _ _ c1] at hL
    rw [hL] at hk; simp at hk
  by_cases c2 : (l.getD 0 0).toNat < 194 ∨ 245 ≤ (l.getD 0 0).toNat
  · exact absurd (by rw [hL, rr0 _ _ _ _ _ (by omega) c2 ub]) hno
  by_cases c3 : (l.getD 0 0).toNat < 224
  · rw [rr2 _ _ _ _ _ (by omega) c3 u1] at hL
    split at hL
    · exact absurd hL hno
    · rw [hL] at hi
      simp at hi
      obtain rfl | rfl : i = 0 ∨ i = 1 := by omega
      all_goals omega
  by_cases c4 : (l.getD 0 0).toNat < 240
  · rw [rr3 _ _ _ _ _ (by omega) c4 u1 u2] at hL
    split at hL
    · exact absurd hL hno
    · rw [hL] at hi
      simp at hi
      obtain rfl | rfl | rfl : i = 0 ∨ i = 1 ∨ i = 2 := by omega
      all_goals omega
  · rw [rr4 _ _ _ _ _ (by omega) (by omega) u1 u2 u3] at hL
    split at hL
    · exact absurd hL hno
    · rw [hL] at hi
      simp at hi
      obtain rfl | rfl | rfl | rfl : i = 0 ∨ i = 1 ∨ i = 2 ∨ i = 3 := by omega
      all_goals omega
theorem bad_nl {l : List UInt8} (r : List UInt8) (hne : l ≠ []) : badR (l ++ 10 :: r) = badR l := by
  cases hb : badR l with
  | false => rw [bad_same (dec_app _ hne hb)]; exact hb
  | true =>
    cases hx : badR (l ++ 10 :: r) with
    | true => rfl
    | false =>
      have hn2 : l ++ 10 :: r ≠ [] := by simp
      by_cases hk : (decodeL (l ++ 10 :: r)).2 ≤ l.length
      · have := dec_same (m := l) hn2 hx (fun i hi => by rw [List.getElem?_append_left (by omega)])
        rw [bad_same this, hx] at hb; cases hb
      · have hl1 : 0 < l.length := List.length_pos_iff.2 hne
        have := dec_hi2 hn2 hx (by omega) l.length (by omega)
        rw [List.getD_eq_getElem?_getD, List.getElem?_append_right (Nat.le_refl _), Nat.sub_self] at this
        simp at this
theorem run_nl : ∀ (n : Nat) (l r : List UInt8), l.length ≤ n → runN (l ++ 10 :: r) = runN l
  | 0, l, r, h => by
    have : l = [] := List.length_eq_zero_iff.1 (by omega)
    subst this
    exact runN_stop (.inr (by rw [List.nil_append, decodeL_ascii 10 r (by decide)]; decide))
  | n + 1, l, r, h => by
    by_cases hl : l = []
    · subst hl
      exact runN_stop (.inr (by rw [List.nil_append, decodeL_ascii 10 r (by decide)]; decide))
    have hbn := bad_nl r hl
    by_cases hb : badR l = true
    · rw [runN_stop (.inl hb), runN_stop (.inl (hbn.trans hb))]
    · have hb1 : badR l = false := by cases hx : badR l; rfl; exact absurd hx hb
      have ha := dec_app (10 :: r) hl hb1
      cases hs : stands (decodeL l).1 with
      | false => rw [runN_stop (.inr hs), runN_stop (.inr (by rw [ha]; exact hs))]
      | true =>
        have hd := drop_lt l hl
        have hk := decodeL_le l hl
        rw [runN_step hl hb1 hs, runN_step (by simp) (hbn.trans hb1) (by rw [ha]; exact hs), ha, List.drop_append_of_le_length hk, run_nl n _ r (by omega)]
theorem run_line (l r : List UInt8) : runN (l ++ 10 :: r) = runN l := run_nl l.length l r (Nat.le_refl _)
theorem fix3 (a b c : UInt8) (t u : List UInt8) : fixL (a :: b :: c :: t) = fixL (a :: b :: c :: u) := by
  by_cases a1 : a = 40; (subst a1; rfl)
  by_cases a2 : a = 41; (subst a2; rfl)
  by_cases a3 : a = 123; (subst a3; rfl)
  by_cases a4 : a = 125; (subst a4; rfl)
  by_cases a5 : a = 60
  · subst a5
    by_cases b1 : b = 60; (subst b1; rfl)
    by_cases b2 : b = 61; (subst b2; rfl)
    by_cases b3 : b = 62; (subst b3; rfl)
    simp [fixL, b1, b2, b3]
  by_cases a6 : a = 62
  · subst a6
    by_cases b1 : b = 62; (subst b1; rfl)
    by_cases b2 : b = 61; (subst b2; rfl)
    simp [fixL, b1, b2]
  by_cases a7 : a = 45
  · subst a7
    by_cases b1 : b = 40; (subst b1; rfl)
    by_cases b2 : b = 45
    · subst b2
      by_cases c1 : c = 62; (subst c1; rfl)
      simp [fixL, c1]
    simp [fixL, b1, b2]
  simp [fixL, a1, a2, a3, a4, a5, a6, a7]
theorem fix_line {l : List UInt8} (r : List UInt8) (hl : l ≠ []) : fixL (l ++ 10 :: r) = fixL l := by
  match l, hl with
  | [a], _ =>
    show fixL (a :: 10 :: r) = fixL [a]
    unfold fixL
    split <;> simp_all
  | [a, b], _ =>
    show fixL (a :: b :: 10 :: r) = fixL [a, b]
    unfold fixL
    split <;> simp_all
  | a :: b :: c :: t, _ =>
    exact fix3 a b c _ _
theorem sgl_line {l : List UInt8} (r : List UInt8) (hl : l ≠ []) : sglL (l ++ 10 :: r) = sglL l := by
  match l, hl with
  | a :: t, _ =>
    show sglL (a :: (t ++ 10 :: r)) = sglL (a :: t)
    unfold sglL
    split <;> simp_all
theorem one_line {l : List UInt8} (r : List UInt8) (hl : l ≠ []) : oneL (l ++ 10 :: r) = oneL l := by
  have hl1 : 0 < l.length := List.length_pos_iff.2 hl
  have hd : (l ++ 10 :: r).drop 1 = l.drop 1 ++ 10 :: r := List.drop_append_of_le_length (by omega)
  have h0 : (l ++ 10 :: r).getD 0 0 = l.getD 0 0 := by
    cases l with
    | nil => exact absurd rfl hl
    | cons a t => rfl
  have hr1 := (run_front (l.drop 1)).1
  have hr := (run_front l).1
  have ht1 : (l.drop 1 ++ 10 :: r).take (runN (l.drop 1)) = (l.drop 1).take (runN (l.drop 1)) := List.take_append_of_le_length hr1
  have ht : (l ++ 10 :: r).take (runN l) = l.take (runN l) := List.take_append_of_le_length hr
  have hv : ((l ++ 10 :: r).drop (1 + ((l.drop 1).take (runN (l.drop 1))).length)).getD 0 0 = 62 ↔ (l.drop (1 + ((l.drop 1).take (runN (l.drop 1))).length)).getD 0 0 = 62 := by
    have hx : ((l.drop 1).take (runN (l.drop 1))).length ≤ l.length - 1 := by rw [List.length_take, List.length_drop]; omega
    generalize ((l.drop 1).take (runN (l.drop 1))).length = x at *
    rcases Nat.lt_or_ge (1 + x) l.length with e | e
    · rw [List.drop_append_of_le_length (by omega)]
      cases hq : l.drop (1 + x) with
      | nil => have := congrArg List.length hq; rw [List.length_drop, List.length_nil] at this; omega
      | cons a t => rfl
    · rw [List.drop_append_of_le_length (by omega), List.drop_of_length_le e]
      simp
  unfold oneL
  rw [fix_line r hl, sgl_line r hl, hd, run_line, run_line, ht1, ht, h0]
  simp only [hv]
theorem wh_nl (r : List UInt8) : whN (10 :: r) = 1 + whN r := by rw [wh_step _ (by simp)]; exact if_pos (show isW ((10 :: r).getD 0 0) = true from rfl)
theorem wh_line : ∀ (n : Nat) (l r : List UInt8), l.length ≤ n → whN (l ++ 10 :: r) = if whN l < l.length then whN l else l.length + 1 + whN r
  | 0, l, r, h => by
    have : l = [] := List.length_eq_zero_iff.1 (by omega)
    subst this
    rw [List.nil_append, wh_nl, if_neg (by decide)]
    simp
  | n + 1, l, r, h => by
    by_cases hl : l = []
    · subst hl
      rw [List.nil_append, wh_nl, if_neg (by decide)]
      simp
    have hl1 : 0 < l.length := List.length_pos_iff.2 hl
    have h0 : (l ++ 10 :: r).getD 0 0 = l.getD 0 0 := by
      cases l with
      | nil => exact absurd rfl hl
      | cons a t => rfl
    rw [wh_step (l ++ 10 :: r) (by simp), h0, wh_step l hl]
    by_cases hw : isW (l.getD 0 0) = true
    · rw [if_pos hw, if_pos hw, List.drop_append_of_le_length (by omega), wh_line n (l.drop 1) r (by rw [List.length_drop]; omega), List.length_drop]
      split <;> split <;> omega
    · rw [if_neg hw, if_neg hw]
      by_cases hc : l.getD 0 0 = 59
      · rw [if_pos hc, if_pos hc]
        have hcm := cm_pos hc
        by_cases hlt : cmN l < l.length
        · have hcl : cmN (l ++ 10 :: r) = cmN l := by
            unfold cmN
            rw [List.takeWhile_append]
            rw [if_neg (by unfold cmN at hlt; omega)]
          rw [hcl, List.drop_append_of_le_length (by omega), wh_line n (l.drop (cmN l)) r (by rw [List.length_drop]; omega), List.length_drop]
          split <;> split <;> omega
        · have hcl : cmN (l ++ 10 :: r) = l.length := by
            unfold cmN at hlt hcm ⊢
            rw [List.takeWhile_append, if_pos (by omega), List.length_append]
            simp
          have e2 : cmN l = l.length := by omega
          rw [hcl, e2, List.drop_append_of_le_length (Nat.le_refl _), List.drop_length, List.nil_append, wh_nl, if_neg (by have : whN ([] : List UInt8) = 0 := rfl; omega)]
          omega
      · rw [if_neg hc, if_neg hc, if_pos (by omega)]
theorem wh_end (l r : List UInt8) : whN (l ++ 10 :: r) = if whN l < l.length then whN l else l.length + 1 + whN r := wh_line l.length l r (Nat.le_refl _)
def sh (d : Nat) (x : Tk × Nat) : Tk × Nat := (x.1, x.2 + d)
theorem scan_shift : ∀ (n a d : Nat) (l : List UInt8), scanGo n (a + d) l = ((scanGo n a l).1.map (sh d), (if (scanGo n a l).2.2 = 16 then (scanGo n a l).2.1 + d else (scanGo n a l).2.1), (scanGo n a l).2.2)
  | 0, a, d, l => rfl
  | n + 1, a, d, l => by
    by_cases hl : l = []
    · subst hl; rw [scanGo_nil, scanGo_nil]; rfl
    · simp only [scanGo, if_neg hl]
      cases ho : oneL l with
      | none => rfl
      | some x =>
        obtain ⟨t, k⟩ := x
        simp only
        rw [show a + d + k + whN (l.drop k) = a + k + whN (l.drop k) + d by omega, scan_shift n]
        rfl
theorem scan_join : ∀ (n N a : Nat) (l r : List UInt8), l ≠ [] → l.length ≤ n → l.length + 1 + r.length ≤ N →
    scanGo N a (l ++ 10 :: r) = if (scanGo n a l).2.2 = 16 then scanGo n a l else ((scanGo n a l).1 ++ (scanGo r.length (a + l.length + 1 + whN r) (r.drop (whN r))).1, (scanGo r.length (a + l.length + 1 + whN r) (r.drop (whN r))).2)
  | 0, N, a, l, r, hl, h1, h2 => absurd (List.length_eq_zero_iff.1 (by omega)) hl
  | n + 1, 0, a, l, r, hl, h1, h2 => by omega
  | n + 1, N + 1, a, l, r, hl, h1, h2 => by
    have hl2 : l ++ 10 :: r ≠ [] := by simp
    simp only [scanGo, if_neg hl, if_neg hl2, one_line r hl]
    cases ho : oneL l with
    | none => simp
    | some x =>
      obtain ⟨t, k⟩ := x
      obtain ⟨-, k1, k2, -⟩ := one_is hl ho
      simp only
      rw [List.drop_append_of_le_length k2]
      have hd : (l.drop k).length = l.length - k := List.length_drop
      have hw := wh_le _ (l.drop k) (Nat.le_refl _)
      rw [wh_end]
      by_cases hc : whN (l.drop k) < (l.drop k).length
      · rw [if_pos hc, List.drop_append_of_le_length (by omega)]
        have hne : (l.drop k).drop (whN (l.drop k)) ≠ [] := fun e => by
          have := congrArg List.length e
          rw [List.length_drop, List.length_nil] at this
          omega
        rw [scan_join n N _ _ r hne (by rw [List.length_drop]; omega) (by rw [List.length_drop]; omega)]
        have e2 : a + k + whN (l.drop k) + ((l.drop k).drop (whN (l.drop k))).length + 1 + whN r = a + l.length + 1 + whN r := by rw [List.length_drop]; omega
        rw [e2]
        split <;> rfl
      · rw [if_neg hc]
        have e0 : (l.drop k).drop (whN (l.drop k)) = [] := List.drop_of_length_le (by omega)
        rw [e0, scanGo_nil]
        have e1 : (l.drop k ++ 10 :: r).drop ((l.drop k).length + 1 + whN r) = r.drop (whN r) := by
          rw [List.drop_append, List.drop_of_length_le (by omega), List.nil_append, show (l.drop k).length + 1 + whN r - (l.drop k).length = whN r + 1 by omega, List.drop_succ_cons]
        have e2 : a + k + ((l.drop k).length + 1 + whN r) = a + l.length + 1 + whN r := by omega
        rw [e1, e2, scanGo_fuel N r.length _ _ (by rw [List.length_drop]; omega) (by rw [List.length_drop]; omega)]
        simp
theorem scan_two (l r : List UInt8) : scanL (l ++ 10 :: r) = if (scanL l).2.2 = 16 then scanL l else ((scanL l).1 ++ (scanL r).1.map (sh (l.length + 1)), (if (scanL r).2.2 = 16 then (scanL r).2.1 + (l.length + 1) else (scanL r).2.1), (scanL r).2.2) := by
  have hw := wh_le _ l (Nat.le_refl _)
  have hs := scan_shift r.length (whN r) (l.length + 1) (r.drop (whN r))
  have hsr : scanL r = scanGo r.length (whN r) (r.drop (whN r)) := rfl
  rw [← hsr] at hs
  unfold scanL at hs ⊢
  rw [wh_end]
  by_cases hc : whN l < l.length
  · rw [if_pos hc, List.drop_append_of_le_length (by omega)]
    have hne : l.drop (whN l) ≠ [] := fun e => by
      have := congrArg List.length e
      rw [List.length_drop, List.length_nil] at this
      omega
    rw [scan_join l.length _ _ _ r hne (by rw [List.length_drop]; omega) (by rw [List.length_drop, List.length_append, List.length_cons]; omega)]
    have e2 : whN l + (l.drop (whN l)).length + 1 + whN r = whN r + (l.length + 1) := by rw [List.length_drop]; omega
    rw [e2, hs]
  · rw [if_neg hc]
    have e0 : l.drop (whN l) = [] := List.drop_of_length_le (by omega)
    have e1 : (l ++ 10 :: r).drop (l.length + 1 + whN r) = r.drop (whN r) := by
      rw [List.drop_append, List.drop_of_length_le (by omega), List.nil_append, show l.length + 1 + whN r - l.length = whN r + 1 by omega, List.drop_succ_cons]
    rw [e0, scanGo_nil, e1, scanGo_fuel _ r.length _ _ (by rw [List.length_drop, List.length_append, List.length_cons]; omega) (by rw [List.length_drop]; omega), show l.length + 1 + whN r = whN r + (l.length + 1) by omega, hs]
    simp
end Go.Proofs.YtdcpfnffckkfcaaGreatDoor
namespace Go.Proofs.YtdcpfnffckkfcaaGreatDoor
set_option maxRecDepth 20000
open Go.Lib
set_option linter.unusedVariables false
abbrev Str := List UInt8
structure VD where
  k : Int
  n : Int
  s : Str
deriving DecidableEq
structure TestD where
  p : Int
  v : Str
  x : VD
deriving DecidableEq
structure AttrD where
  a : Str
  ones : List VD
  tests : List TestD
deriving DecidableEq
structure CondD where
  neg : Bool
  c : Str
  attrs : List AttrD
deriving DecidableEq
structure ItemD where
  k : Int
  x : VD
  v : Str
deriving DecidableEq
structure SetD where
  a : Str
  e : List ItemD
deriving DecidableEq
structure ActD where
  k : Int
  c : Str
  n : Int
  v : Str
  sets : List SetD
  exprs : List (List ItemD)
deriving DecidableEq
structure RuleD where
  nm : Str
  conds : List CondD
  acts : List ActD
deriving DecidableEq
structure ClassD where
  nm : Str
  attrs : List Str
deriving DecidableEq
structure ProgD where
  cs : List ClassD
  rs : List RuleD
deriving DecidableEq
def v0 : VD := ⟨0, 0, []⟩
def vdT (t : Tk) : VD := ⟨t.vk, t.vn, t.vs⟩

abbrev Rdr (α : Type) := List Tk → Option (α × List Tk)
def isK (k : Int) : List Tk → Bool
  | t :: _ => decide (t.k = k)
  | [] => false
def nxt (k : Int) : Rdr Tk
  | t :: r => if t.k = k then some (t, r) else none
  | [] => none
def thn {α β : Type} (f : Rdr α) (g : α → Rdr β) : Rdr β := fun l => match f l with
  | none => none
  | some (a, r) => g a r
def ret {α : Type} (a : α) : Rdr α := fun l => some (a, l)
def bad {α : Type} : Rdr α := fun _ => none
def nameR : Rdr Str := thn (nxt 11) fun t => if t.vk = 2 then ret t.vs else bad
def numR : Rdr Int := thn (nxt 11) fun t => if t.vk = 1 then ret t.vn else bad
def varR (p : Int) : Rdr TestD := fun l => if isK 9 l = true then thn (nxt 9) (fun t => ret ⟨p, t.nm, v0⟩) l else thn (nxt 11) (fun t => ret ⟨p, [], vdT t⟩) l
def singleR : Rdr TestD := fun l => if isK 10 l = true then thn (nxt 10) (fun t => varR t.p) l else varR 0 l
def whileR {α : Type} (k : Int) (f : Rdr α) : Nat → Rdr (List α)
  | 0, _ => none
  | n + 1, l => if isK k l = true then thn f (fun a => thn (whileR k f n) fun as_ => ret (a :: as_)) l else some ([], l)
def untilR {α : Type} (k : Int) (f : Rdr α) : Nat → Rdr (List α)
  | 0, _ => none
  | n + 1, l => thn f (fun a r => if isK k r = true then some ([a], r) else thn (untilR k f n) (fun as_ => ret (a :: as_)) r) l
def valR : Rdr VD := thn (nxt 11) fun t => ret (vdT t)
def askR (a : Str) : Rdr AttrD := fun l =>
  if isK 4 l = true then thn (nxt 4) (fun _ r => thn (thn valR fun v => thn (whileR 11 valR (r.length + 1)) fun vs => ret (v :: vs)) (fun vs => thn (nxt 5) fun _ => ret ⟨a, vs, []⟩) r) l
  else if isK 2 l = true then thn (nxt 2) (fun _ r => thn (untilR 3 singleR (r.length + 1)) (fun xs => thn (nxt 3) fun _ => ret ⟨a, [], xs⟩) r) l
  else thn singleR (fun x => ret ⟨a, [], [x]⟩) l
def attrR : Rdr AttrD := thn (nxt 8) fun t => askR t.nm
def cond2R (neg : Bool) : Rdr CondD := thn (nxt 0) fun _ => thn nameR fun c r => thn (whileR 8 attrR (r.length + 1)) (fun as_ => thn (nxt 1) fun _ => ret ⟨neg, c, as_⟩) r
def condR : Rdr CondD := fun l => if isK 7 l = true then thn (nxt 7) (fun _ => cond2R true) l else cond2R false l
def opK (s : Str) : Int := if s = [43] then 2 else if s = [45] then 3 else if s = [42] then 4 else 0
def exprR : Nat → Rdr (List ItemD × Nat)
  | 0, _ => none
  | n + 1, l =>
    if isK 9 l = true then thn (nxt 9) (fun t => ret ([⟨1, v0, t.nm⟩], 0)) l
    else if isK 11 l = true then thn (nxt 11) (fun t => ret ([⟨0, vdT t, []⟩], 0)) l
    else thn (nxt 0) (fun _ => thn nameR fun s => if opK s = 0 then bad else thn (exprR n) fun a => thn (exprR n) fun b => thn (nxt 1) fun _ => ret (a.1 ++ b.1 ++ [⟨opK s, v0, []⟩], 1 + max a.2 b.2)) l
def exR : Rdr (List ItemD × Nat) := fun l => exprR (l.length + 1) l
def setR : Rdr (SetD × Nat) := thn (nxt 8) fun t => thn exR fun x => ret (⟨t.nm, x.1⟩, x.2)
def deepOf (l : List Nat) : Nat := l.foldr max 0
def setsR : Rdr (List SetD × Nat) := fun l => thn (whileR 8 setR (l.length + 1)) (fun xs => ret (xs.map Prod.fst, deepOf (xs.map Prod.snd))) l
def exprsR : Nat → Rdr (List (List ItemD) × Nat)
  | 0, _ => none
  | n + 1, l => if l = [] ∨ isK 1 l = true then some (([], 0), l) else thn exR (fun x => thn (exprsR n) fun y => ret (x.1 :: y.1, max x.2 y.2)) l
def sMake : Str := [109, 97, 107, 101]
def sModify : Str := [109, 111, 100, 105, 102, 121]
def sRemove : Str := [114, 101, 109, 111, 118, 101]
def sBind : Str := [98, 105, 110, 100]
def sWrite : Str := [119, 114, 105, 116, 101]
def sHalt : Str := [104, 97, 108, 116]
def sLit : Str := [108, 105, 116, 101, 114, 97, 108, 105, 122, 101]
def sP : Str := [112]
def bodyR (s : Str) : Rdr (ActD × Nat) :=
  if s = sMake then thn nameR fun c => thn setsR fun x => ret (⟨0, c, 0, [], x.1, []⟩, x.2)
  else if s = sModify then thn numR fun n => thn setsR fun x => ret (⟨1, [], n, [], x.1, []⟩, x.2)
  else if s = sRemove then thn numR fun n => ret (⟨2, [], n, [], [], []⟩, 0)
  else if s = sBind then thn (nxt 9) fun t => thn exR fun x => ret (⟨3, [], 0, t.nm, [], [x.1]⟩, x.2)
  else if s = sWrite then fun l => thn (exprsR (l.length + 1)) (fun x => ret (⟨4, [], 0, [], [], x.1⟩, x.2)) l
  else if s = sHalt then ret (⟨5, [], 0, [], [], []⟩, 0)
  else bad
def actR : Rdr (ActD × Nat) := thn (nxt 0) fun _ => thn nameR fun s => thn (bodyR s) fun x => thn (nxt 1) fun _ => ret x
def ruleR : Rdr (RuleD × Nat) := thn nameR fun nm => thn (fun l => untilR 6 condR (l.length + 1) l) fun cs => thn (nxt 6) fun _ => thn (fun l => whileR 0 actR (l.length + 1) l) fun xs => thn (nxt 1) fun _ => ret (⟨nm, cs, xs.map Prod.fst⟩, deepOf (xs.map Prod.snd))
def classR : Rdr ClassD := thn nameR fun nm => thn (fun l => untilR 1 nameR (l.length + 1) l) fun as_ => thn (nxt 1) fun _ => ret ⟨nm, as_⟩
inductive Top
  | cls (c : ClassD)
  | rul (r : RuleD) (d : Nat)
deriving DecidableEq
def topR : Rdr Top := thn (nxt 0) fun _ => thn nameR fun s => if s = sLit then thn classR fun c => ret (.cls c) else if s = sP then thn ruleR fun r => ret (.rul r.1 r.2) else bad
def topsR : Nat → List Tk → Option (List Top)
  | 0, _ => none
  | n + 1, l => if l = [] then some [] else match topR l with
    | none => none
    | some (x, r) => (topsR n r).map (x :: ·)
def topsL (l : List Tk) : Option (List Top) := topsR (l.length + 1) l

def Eats {α : Type} (m : Nat) (f : Rdr α) : Prop := ∀ l x r, f l = some (x, r) → ∃ c, l = c ++ r ∧ m ≤ c.length
def Goes {α : Type} (f : Rdr α) : Prop := ∀ l x r, f l = some (x, r) → ∀ m, f (l ++ m) = some (x, r ++ m)
def GoesN {α : Type} (f : Rdr α) : Prop := ∀ l x r, f l = some (x, r) → r ≠ [] → ∀ m, f (l ++ m) = some (x, r ++ m)
theorem Goes.n {α : Type} {f : Rdr α} (h : Goes f) : GoesN f := fun l x r e _ m => h l x r e m
theorem isK_app {k : Int} {l : List Tk} (h : l ≠ []) (m : List Tk) : isK k (l ++ m) = isK k l := by
  cases l with
  | nil => exact absurd rfl h
  | cons a t => rfl
theorem nxt_goes (k : Int) : Goes (nxt k) := by
  intro l x r h m
  cases l with
  | nil => cases h
  | cons a t =>
    change (if a.k = k then some (a, t) else none) = some (x, r) at h
    split at h
    · rename_i hk
      obtain ⟨rfl, rfl⟩ := Prod.mk.inj (Option.some.inj h)
      show (if _ then _ else _) = _
      rw [if_pos hk]; rfl
    · cases h
theorem nxt_eats (k : Int) : Eats 1 (nxt k) := by
  intro l x r h
  cases l with
  | nil => cases h
  | cons a t =>
    change (if a.k = k then some (a, t) else none) = some (x, r) at h
    split at h
    · obtain ⟨rfl, rfl⟩ := Prod.mk.inj (Option.some.inj h)
      exact ⟨[a], rfl, Nat.le_refl _⟩
    · cases h
theorem ret_goes {α : Type} (a : α) : Goes (ret a) := by
  intro l x r h m
  obtain ⟨rfl, rfl⟩ := Prod.mk.inj (Option.some.inj h)
  rfl
theorem ret_eats {α : Type} (a : α) : Eats 0 (ret a) := by
  intro l x r h
  obtain ⟨rfl, rfl⟩ := Prod.mk.inj (Option.some.inj h)
  exact ⟨[], rfl, Nat.le_refl _⟩
theorem bad_goes {α : Type} : Goes (bad : Rdr α) := fun l x r h => by cases h
theorem bad_eats {α : Type} (m : Nat) : Eats m (bad : Rdr α) := fun l x r h => by cases h
theorem thn_is {α β : Type} {f : Rdr α} {g : α → Rdr β} {l : List Tk} {y : β} {r : List Tk} (h : thn f g l = some (y, r)) : ∃ a s, f l = some (a, s) ∧ g a s = some (y, r) := by
  unfold thn at h
  split at h
  · cases h
  · rename_i a s e; exact ⟨a, s, e, h⟩
theorem thn_of {α β : Type} {f : Rdr α} {g : α → Rdr β} {l : List Tk} {a : α} {s : List Tk} (e : f l = some (a, s)) : thn f g l = g a s := by unfold thn; rw [e]
theorem thn_goes {α β : Type} {f : Rdr α} {g : α → Rdr β} (hf : Goes f) (hg : ∀ a, Goes (g a)) : Goes (thn f g) := by
  intro l y r h m
  obtain ⟨a, s, h1, h2⟩ := thn_is h
  rw [thn_of (hf _ _ _ h1 m)]
  exact hg a _ _ _ h2 m
theorem thn_eats {α β : Type} {m k : Nat} {f : Rdr α} {g : α → Rdr β} (hf : Eats m f) (hg : ∀ a, Eats k (g a)) : Eats (m + k) (thn f g) := by
  intro l y r h
  obtain ⟨a, s, h1, h2⟩ := thn_is h
  obtain ⟨c, rfl, hc⟩ := hf _ _ _ h1
  obtain ⟨d, rfl, hd⟩ := hg a _ _ _ h2
  exact ⟨c ++ d, by simp, by rw [List.length_append]; omega⟩
theorem thn_goesN {α β : Type} {k : Nat} {f : Rdr α} {g : α → Rdr β} (hf : GoesN f) (hg : ∀ a, Goes (g a)) (he : ∀ a, Eats (k + 1) (g a)) : Goes (thn f g) := by
  intro l y r h m
  obtain ⟨a, s, h1, h2⟩ := thn_is h
  obtain ⟨d, rfl, hd⟩ := he a _ _ _ h2
  have hs : d ++ r ≠ [] := by
    intro e
    have := congrArg List.length e
    rw [List.length_append, List.length_nil] at this
    omega
  rw [thn_of (hf _ _ _ h1 hs m)]
  exact hg a _ _ _ h2 m
theorem Eats.less {α : Type} {m k : Nat} {f : Rdr α} (h : Eats m f) (hk : k ≤ m) : Eats k f := fun l x r e => by
  obtain ⟨c, h1, h2⟩ := h l x r e; exact ⟨c, h1, Nat.le_trans hk h2⟩
theorem Eats.len {α : Type} {m : Nat} {f : Rdr α} (h : Eats m f) {l : List Tk} {x : α} {r : List Tk} (e : f l = some (x, r)) : r.length + m ≤ l.length := by
  obtain ⟨c, rfl, hc⟩ := h _ _ _ e
  rw [List.length_append]; omega
theorem if_goes {α : Type} {k : Int} {f g : Rdr α} (hf : Goes f) (hg : Goes g) (hge : Eats 1 g) : Goes (fun l => if isK k l = true then f l else g l) := by
  intro l x r h m
  dsimp only at h
  by_cases hl : l = []
  · subst hl
    rw [if_neg (by simp [isK])] at h
    obtain ⟨c, hc, h1⟩ := hge _ _ _ h
    have := congrArg List.length hc
    rw [List.length_append, List.length_nil] at this
    omega
  · dsimp only
    rw [isK_app hl]
    split at h
    · rename_i hk; rw [if_pos hk]; exact hf _ _ _ h m
    · rename_i hk; rw [if_neg hk]; exact hg _ _ _ h m
theorem if_eats {α : Type} {k : Int} {m : Nat} {f g : Rdr α} (hf : Eats m f) (hg : Eats m g) : Eats m (fun l => if isK k l = true then f l else g l) := by
  intro l x r h
  dsimp only at h
  split at h
  · exact hf _ _ _ h
  · exact hg _ _ _ h
theorem ite_goes {α : Type} {c : Prop} [Decidable c] {f g : Rdr α} (hf : Goes f) (hg : Goes g) : Goes (if c then f else g) := by split <;> assumption
theorem ite_eats {α : Type} {c : Prop} [Decidable c] {m : Nat} {f g : Rdr α} (hf : Eats m f) (hg : Eats m g) : Eats m (if c then f else g) := by split <;> assumption
theorem nameR_goes : Goes nameR := thn_goes (nxt_goes _) fun t => ite_goes (ret_goes _) bad_goes
theorem nameR_eats : Eats 1 nameR := thn_eats (nxt_eats _) fun t => ite_eats (ret_eats _) (bad_eats _)
theorem numR_goes : Goes numR := thn_goes (nxt_goes _) fun t => ite_goes (ret_goes _) bad_goes
theorem numR_eats : Eats 1 numR := thn_eats (nxt_eats _) fun t => ite_eats (ret_eats _) (bad_eats _)
theorem varR_eats (p : Int) : Eats 1 (varR p) := if_eats (thn_eats (nxt_eats _) fun t => ret_eats _) (thn_eats (nxt_eats _) fun t => ret_eats _)
theorem varR_goes (p : Int) : Goes (varR p) := if_goes (thn_goes (nxt_goes _) fun t => ret_goes _) (thn_goes (nxt_goes _) fun t => ret_goes _) (thn_eats (nxt_eats _) fun t => ret_eats _)
theorem singleR_eats : Eats 1 singleR := if_eats ((thn_eats (nxt_eats _) fun t => varR_eats _).less (by decide)) (varR_eats 0)
theorem singleR_goes : Goes singleR := if_goes (thn_goes (nxt_goes _) fun t => varR_goes _) (varR_goes 0) (varR_eats 0)
theorem valR_goes : Goes valR := thn_goes (nxt_goes _) fun t => ret_goes _
theorem valR_eats : Eats 1 valR := thn_eats (nxt_eats _) fun t => ret_eats _
theorem whileR_eats {α : Type} {k : Int} {f : Rdr α} (hf : Eats 1 f) : ∀ n, Eats 0 (whileR k f n)
  | 0 => fun l x r h => by cases h
  | n + 1 => fun l x r h => by
    unfold whileR at h
    split at h
    · exact (thn_eats hf fun a => thn_eats (whileR_eats hf n) fun as_ => ret_eats _).less (Nat.zero_le _) _ _ _ h
    · obtain ⟨rfl, rfl⟩ := Prod.mk.inj (Option.some.inj h); exact ⟨[], rfl, Nat.le_refl _⟩
theorem whileR_fuel {α : Type} {k : Int} {f : Rdr α} (hf : Eats 1 f) : ∀ (n m : Nat) (l : List Tk), l.length < n → l.length < m → whileR k f n l = whileR k f m l
  | 0, m, l, h, _ => by omega
  | n + 1, 0, l, _, h => by omega
  | n + 1, m + 1, l, h1, h2 => by
    unfold whileR
    split
    · unfold thn
      cases e : f l with
      | none => rfl
      | some x =>
        obtain ⟨a, r⟩ := x
        have := hf.len e
        dsimp only
        rw [whileR_fuel hf n m r (by omega) (by omega)]
    · rfl
theorem whileR_goes {α : Type} {k : Int} {f : Rdr α} (hf : Goes f) (he : Eats 1 f) : ∀ (n : Nat) (l : List Tk) (x : List α) (r : List Tk), whileR k f n l = some (x, r) → r ≠ [] → ∀ m, whileR k f (n + m.length) (l ++ m) = some (x, r ++ m)
  | 0, l, x, r, h, _, m => by cases h
  | n + 1, l, x, r, h, hr, m => by
    rw [show n + 1 + m.length = (n + m.length) + 1 by omega]
    unfold whileR at h ⊢
    have hl : l ≠ [] := by
      intro e; subst e
      rw [if_neg (by simp [isK])] at h
      obtain ⟨_, rfl⟩ := Prod.mk.inj (Option.some.inj h)
      exact hr rfl
    rw [isK_app hl]
    split at h
    · rename_i hk
      rw [if_pos hk]
      obtain ⟨a, s, h1, h2⟩ := thn_is h
      obtain ⟨as_, s2, h3, h4⟩ := thn_is h2
      obtain ⟨rfl, rfl⟩ := Prod.mk.inj (Option.some.inj h4)
      rw [thn_of (hf _ _ _ h1 m), thn_of (whileR_goes hf he n _ _ _ h3 hr m)]
      rfl
    · rename_i hk
      rw [if_neg hk]
      obtain ⟨rfl, rfl⟩ := Prod.mk.inj (Option.some.inj h)
      rfl
theorem wh_goesN {α : Type} {k : Int} {f : Rdr α} (hf : Goes f) (he : Eats 1 f) : GoesN (fun l => whileR k f (l.length + 1) l) := by
  intro l x r h hr m
  have := whileR_goes hf he _ _ _ _ h hr m
  dsimp only
  rw [← this, List.length_append]
  exact whileR_fuel he _ _ _ (by rw [List.length_append]; omega) (by rw [List.length_append]; omega)
theorem untilR_eats {α : Type} {k : Int} {f : Rdr α} (hf : Eats 1 f) : ∀ n, Eats 1 (untilR k f n)
  | 0 => fun l x r h => by cases h
  | n + 1 => fun l x r h => by
    unfold untilR at h
    obtain ⟨a, s, h1, h2⟩ := thn_is h
    obtain ⟨c, rfl, hc⟩ := hf _ _ _ h1
    split at h2
    · obtain ⟨_, rfl⟩ := Prod.mk.inj (Option.some.inj h2); exact ⟨c, rfl, hc⟩
    · obtain ⟨d, rfl, hd⟩ := (thn_eats (untilR_eats hf n) fun as_ => ret_eats _) _ _ _ h2
      exact ⟨c ++ d, by simp, by rw [List.length_append]; omega⟩
theorem untilR_fuel {α : Type} {k : Int} {f : Rdr α} (hf : Eats 1 f) : ∀ (n m : Nat) (l : List Tk), l.length < n → l.length < m → untilR k f n l = untilR k f m l
  | 0, m, l, h, _ => by omega
  | n + 1, 0, l, _, h => by omega
  | n + 1, m + 1, l, h1, h2 => by
    unfold untilR thn
    cases e : f l with
    | none => rfl
    | some x =>
      obtain ⟨a, r⟩ := x
      have := hf.len e
      dsimp only
      split
      · rfl
      · rw [untilR_fuel hf n m r (by omega) (by omega)]
theorem untilR_goes {α : Type} {k : Int} {f : Rdr α} (hf : Goes f) (he : Eats 1 f) : ∀ (n : Nat) (l : List Tk) (x : List α) (r : List Tk), untilR k f n l = some (x, r) → ∀ m, untilR k f (n + m.length) (l ++ m) = some (x, r ++ m)
  | 0, l, x, r, h, m => by cases h
  | n + 1, l, x, r, h, m => by
    rw [show n + 1 + m.length = (n + m.length) + 1 by omega]
    unfold untilR at h ⊢
    obtain ⟨a, s, h1, h2⟩ := thn_is h
    rw [thn_of (hf _ _ _ h1 m)]
    by_cases hs : s = []
    · subst hs
      rw [if_neg (by simp [isK])] at h2
      obtain ⟨as_, s2, h3, h4⟩ := thn_is h2
      obtain ⟨c, hc, hc1⟩ := untilR_eats he n _ _ _ h3
      have := congrArg List.length hc
      rw [List.length_append, List.length_nil] at this
      omega
    · rw [isK_app hs]
      split at h2
      · rename_i hk
        rw [if_pos hk]
        obtain ⟨rfl, rfl⟩ := Prod.mk.inj (Option.some.inj h2)
        rfl
      · rename_i hk
        rw [if_neg hk]
        obtain ⟨as_, s2, h3, h4⟩ := thn_is h2
        obtain ⟨rfl, rfl⟩ := Prod.mk.inj (Option.some.inj h4)
        rw [thn_of (untilR_goes hf he n _ _ _ h3 m)]
        rfl
theorem un_goes {α : Type} {k : Int} {f : Rdr α} (hf : Goes f) (he : Eats 1 f) : Goes (fun l => untilR k f (l.length + 1) l) := by
  intro l x r h m
  have := untilR_goes hf he _ _ _ _ h m
  dsimp only
  rw [← this, List.length_append]
  exact untilR_fuel he _ _ _ (by rw [List.length_append]; omega) (by rw [List.length_append]; omega)
theorem wh_eats {α : Type} {k : Int} {f : Rdr α} (he : Eats 1 f) : Eats 0 (fun l => whileR k f (l.length + 1) l) := fun l x r h => whileR_eats he _ _ _ _ h
theorem un_eats {α : Type} {k : Int} {f : Rdr α} (he : Eats 1 f) : Eats 1 (fun l => untilR k f (l.length + 1) l) := fun l x r h => untilR_eats he _ _ _ _ h
end Go.Proofs.YtdcpfnffckkfcaaGreatDoor
namespace Go.Proofs.YtdcpfnffckkfcaaGreatDoor
set_option maxRecDepth 20000
open Go.Lib
set_option linter.unusedVariables false
def preB (p l : List UInt8) : Bool := decide (l.take p.length = p)
theorem pre_nil (l : List UInt8) : preB [] l = true := by unfold preB; simp
theorem pre_of_nil (a : UInt8) (p : List UInt8) : preB (a :: p) [] = false := by unfold preB; simp
theorem pre_cons (a b : UInt8) (p l : List UInt8) : preB (a :: p) (b :: l) = (decide (b = a) && preB p l) := by
  unfold preB
  simp [Bool.decide_and]
theorem pre_len {p l : List UInt8} (h : preB p l = true) : p.length ≤ l.length := by
  unfold preB at h
  have := congrArg List.length (of_decide_eq_true h)
  rw [List.length_take] at this
  omega
def mkL (k : Nat) : List UInt8 := if k = 0 then [40] else if k = 1 then [41] else if k = 2 then [123] else if k = 3 then [125] else if k = 4 then [60, 60] else if k = 5 then [62, 62] else if k = 6 then [45, 45, 62] else if k = 7 then [45] else []
def mkFrom (l : List UInt8) : Nat → Nat → Option (Tk × Nat)
  | 0, _ => none
  | n + 1, k => if preB (mkL k) l = true then some (tok0 k, (mkL k).length) else mkFrom l n (k + 1)
def prFrom (l : List UInt8) (m : Nat) : Nat → Nat → Option (Tk × Nat)
  | 0, _ => none
  | n + 1, k => if (sgnL k).length = m ∧ preB (sgnL k) l = true then some (tokP k, m) else prFrom l m n (k + 1)
def nmL (l : List UInt8) (k : Int) (a b : List UInt8) : Option (Tk × Nat) :=
  if preB a l = false then none
  else if runN (l.drop a.length) = 0 ∨ preB b (l.drop (a.length + runN (l.drop a.length))) = false then none
  else some (tokN k ((l.drop a.length).take (runN (l.drop a.length))), a.length + runN (l.drop a.length) + b.length)
def vlL (l : List UInt8) : Option (Tk × Nat) := match parL (l.take (runN l)) with
  | none => none
  | some t => some (t, runN l)
def ntL (l : List UInt8) : Option (Tk × Nat) := if preB [45, 40] l = true then some (tok0 7, 1) else none
def seven (l : List UInt8) : Nat → Option (Tk × Nat)
  | 0 => mkFrom l 7 0
  | 1 => ntL l
  | 2 => prFrom l 2 6 0
  | 3 => nmL l 9 [60] [62]
  | 4 => prFrom l 1 6 0
  | 5 => nmL l 8 [94] []
  | _ => vlL l
def svFrom (l : List UInt8) : Nat → Nat → Option (Tk × Nat)
  | 0, _ => none
  | n + 1, k => match seven l k with
    | some x => some x
    | none => svFrom l n (k + 1)
def tkL (l : List UInt8) : Option (Tk × Nat) := svFrom l 7 0
def cutL (x : Option (Tk × Nat)) : Option (Tk × Nat) := match x with
  | none => none
  | some (t, n) => if 24 < t.nm.length then none else some (t, n)
set_option linter.unusedSimpArgs false
theorem fix_seven (l : List UInt8) : fixL l = (mkFrom l 7 0).or ((ntL l).or (prFrom l 2 6 0)) := by
  unfold ntL
  simp only [mkFrom, prFrom, mkL, sgnL]
  simp only [Nat.reduceAdd, Nat.zero_add, Nat.one_ne_zero, if_true, if_false, Nat.reduceEqDiff, List.length_cons, List.length_nil, Int.reduceEq, Int.cast_ofNat_Int]
  match l with
  | [] => simp [fixL, pre_of_nil]
  | [a] =>
    simp only [pre_cons, pre_of_nil, pre_nil, Bool.and_true, Bool.and_false, decide_eq_true_eq]
    unfold fixL
    split <;> simp_all
  | [a, b] =>
    simp only [pre_cons, pre_of_nil, pre_nil, Bool.and_true, Bool.and_false, Bool.and_eq_true, decide_eq_true_eq]
    unfold fixL
    split
    all_goals try (simp_all; done)
    rename_i q1 q2 q3 q4 p1 p2 _ p3 p4 p5 p6
    have g1 : ¬ a = 40 := fun h => q1 [b] (by rw [h])
    have g2 : ¬ a = 41 := fun h => q2 [b] (by rw [h])
    have g3 : ¬ a = 123 := fun h => q3 [b] (by rw [h])
    have g4 : ¬ a = 125 := fun h => q4 [b] (by rw [h])
    have e1 : ¬ (a = 60 ∧ b = 60) := fun h => p1 [] (by rw [h.1, h.2])
    have e2 : ¬ (a = 62 ∧ b = 62) := fun h => p2 [] (by rw [h.1, h.2])
    have e3 : ¬ (a = 45 ∧ b = 40) := fun h => p3 [] (by rw [h.1, h.2])
    have e4 : ¬ (a = 60 ∧ b = 61) := fun h => p4 [] (by rw [h.1, h.2])
    have e5 : ¬ (a = 60 ∧ b = 62) := fun h => p5 [] (by rw [h.1, h.2])
    have e6 : ¬ (a = 62 ∧ b = 61) := fun h => p6 [] (by rw [h.1, h.2])
    clear p1 p2 p3 p4 p5 p6
    simp only [g1, g2, g3, g4, e1, e2, e3, e4, e5, e6, if_false, Option.or_none]; simp
  | a :: b :: c :: t =>
    simp only [pre_cons, pre_of_nil, pre_nil, Bool.and_true, Bool.and_false, Bool.and_eq_true, decide_eq_true_eq]
    unfold fixL
    split
    all_goals try (simp_all; done)
    rename_i q1 q2 q3 q4 p1 p2 p7 p3 p4 p5 p6
    have g1 : ¬ a = 40 := fun h => q1 (b :: c :: t) (by rw [h])
    have g2 : ¬ a = 41 := fun h => q2 (b :: c :: t) (by rw [h])
    have g3 : ¬ a = 123 := fun h => q3 (b :: c :: t) (by rw [h])
    have g4 : ¬ a = 125 := fun h => q4 (b :: c :: t) (by rw [h])
    have e1 : ¬ (a = 60 ∧ b = 60) := fun h => p1 (c :: t) (by rw [h.1, h.2])
    have e2 : ¬ (a = 62 ∧ b = 62) := fun h => p2 (c :: t) (by rw [h.1, h.2])
    have e3 : ¬ (a = 45 ∧ b = 40) := fun h => p3 (c :: t) (by rw [h.1, h.2])
    have e4 : ¬ (a = 60 ∧ b = 61) := fun h => p4 (c :: t) (by rw [h.1, h.2])
    have e5 : ¬ (a = 60 ∧ b = 62) := fun h => p5 (c :: t) (by rw [h.1, h.2])
    have e6 : ¬ (a = 62 ∧ b = 61) := fun h => p6 (c :: t) (by rw [h.1, h.2])
    have e7 : ¬ (a = 45 ∧ b = 45 ∧ c = 62) := fun h => p7 t (by rw [h.1, h.2.1, h.2.2])
    clear p1 p2 p3 p4 p5 p6 p7
    simp only [g1, g2, g3, g4, e1, e2, e3, e4, e5, e6, e7, if_false, Option.or_none]; simp
theorem sgl_seven (l : List UInt8) : sglL l = if l.getD 0 0 = 60 then some (tokP 2, 1) else if l.getD 0 0 = 62 then some (tokP 4, 1) else if l.getD 0 0 = 61 then some (tokP 0, 1) else none := by
  match l with
  | [] => simp [sglL]
  | a :: t =>
    unfold sglL
    split <;> simp_all
theorem pr1_seven (l : List UInt8) (hl : l ≠ []) : prFrom l 1 6 0 = sglL l := by
  rw [sgl_seven]
  simp only [prFrom, sgnL]
  simp only [Nat.reduceAdd, Nat.zero_add, Nat.one_ne_zero, if_true, if_false, Nat.reduceEqDiff, List.length_cons, List.length_nil, Int.reduceEq, Int.cast_ofNat_Int]
  match l, hl with
  | a :: t, _ =>
    simp only [pre_cons, pre_of_nil, pre_nil, Bool.and_true, Bool.and_false, Bool.and_eq_true, decide_eq_true_eq]
    by_cases h1 : a = 60
    · subst h1; simp
    · by_cases h2 : a = 62
      · subst h2; simp
      · by_cases h3 : a = 61
        · subst h3; simp
        · simp [h1, h2, h3]
theorem fix_nm {l : List UInt8} {x : Tk × Nat} (h : fixL l = some x) : x.1.nm = [] := by
  unfold fixL at h
  split at h <;> first | (cases h; done) | (obtain rfl := Option.some.inj h; rfl)
theorem sgl_nm {l : List UInt8} {x : Tk × Nat} (h : sglL l = some x) : x.1.nm = [] := by
  unfold sglL at h
  split at h <;> first | (cases h; done) | (obtain rfl := Option.some.inj h; rfl)
theorem par_nm {l : List UInt8} {t : Tk} (h : parL l = some t) : t.nm = [] := by
  unfold parL at h
  repeat' split at h
  all_goals first | (cases h; done) | (obtain rfl := Option.some.inj h; rfl)
theorem tk_or (l : List UInt8) : tkL l = (mkFrom l 7 0).or ((ntL l).or ((prFrom l 2 6 0).or ((nmL l 9 [60] [62]).or ((prFrom l 1 6 0).or ((nmL l 8 [94] []).or (vlL l)))))) := by
  unfold tkL
  simp only [svFrom, seven]
  repeat' split
  all_goals simp_all
theorem one_take {l : List UInt8} (hl : l ≠ []) : oneL l = cutL (tkL l) := by
  rw [tk_or]
  rw [show (mkFrom l 7 0).or ((ntL l).or ((prFrom l 2 6 0).or ((nmL l 9 [60] [62]).or ((prFrom l 1 6 0).or ((nmL l 8 [94] []).or (vlL l)))))) = (fixL l).or ((nmL l 9 [60] [62]).or ((prFrom l 1 6 0).or ((nmL l 8 [94] []).or (vlL l)))) by rw [fix_seven, Option.or_assoc, Option.or_assoc]]
  unfold oneL
  rw [pr1_seven l hl]
  cases hf : fixL l with
  | some x =>
    obtain ⟨t, n⟩ := x
    have := fix_nm hf
    simp only at this
    simp [cutL, this]
  | none =>
    simp only [Option.none_or]
    have hlen : ((l.drop 1).take (runN (l.drop 1))).length = runN (l.drop 1) := by
      rw [List.length_take]; have := runN_le _ (l.drop 1) (Nat.le_refl _); omega
    obtain ⟨a, t, rfl⟩ : ∃ a t, l = a :: t := by cases l with
      | nil => exact absurd rfl hl
      | cons a t => exact ⟨a, t, rfl⟩
    have hg : ∀ (m : List UInt8) (u : UInt8), u ≠ 0 → preB [u] m = decide (m.getD 0 0 = u) := by
      intro m u hu
      cases m with
      | nil => rw [pre_of_nil]; simp; exact fun h => hu h.symm
      | cons b m => rw [pre_cons, pre_nil]; simp
    have hr0 : ((List.drop 1 (a :: t)).take (runN (List.drop 1 (a :: t))) = []) ↔ runN (List.drop 1 (a :: t)) = 0 := by
      rw [← List.length_eq_zero_iff, hlen]
    unfold nmL
    rw [hg _ 60 (by decide), hg _ 94 (by decide), hg _ 62 (by decide), pre_nil]
    simp only [List.length_cons, List.length_nil, Nat.zero_add, hlen, ne_eq, hr0, decide_eq_false_iff_not, Bool.true_eq_false, or_false, Nat.add_zero]
    generalize hR : runN (List.drop 1 (a :: t)) = r at *
    generalize (List.drop 1 (a :: t)).take r = nm at *
    generalize hd : (a :: t).getD 0 0 = u at *
    have hda : a = u := hd
    generalize (List.drop (1 + r) (a :: t)).getD 0 0 = v at *
    by_cases c1 : u = 60
    · have hs2 : sglL (a :: t) = some (tokP 2, 1) := by rw [sgl_seven, if_pos (hd.trans c1)]
      by_cases c2 : r = 0
      · simp [c1, c2, hs2, cutL, tokP]
      · by_cases c3 : v = 62
        · by_cases c4 : 24 < r
          · simp [c1, c2, c3, c4, cutL, tokN, hlen]
          · simp [c1, c2, c3, c4, cutL, tokN, hlen]; omega
        · simp [c1, c2, c3, hs2, cutL, tokP]
    · simp only [c1, false_and, if_false, not_false_eq_true, if_true, Option.none_or]
      cases hs : sglL (a :: t) with
      | some x =>
        obtain ⟨t', n⟩ := x
        have := sgl_nm hs
        simp only at this
        simp [cutL, this]
      | none =>
        simp only [Option.none_or]
        by_cases c5 : u = 94
        · simp only [c5, if_true, not_true_eq_false, if_false]
          by_cases c2 : r = 0
          · have hp : parL ((a :: t).take (runN (a :: t))) = none := by
              have h0 : runN (a :: t) = 0 := runN_stop (.inr (by
                rw [hda, c5, decodeL_ascii 94 t (by decide)]; decide))
              rw [h0]; rfl
            unfold vlL
            rw [hp]
            simp [c2, cutL]
          · by_cases c4 : 24 < r
            · simp [c2, c4, cutL, tokN, hlen]
            · simp [c2, c4, cutL, tokN, hlen]; omega
        · simp only [c5, if_false, not_false_eq_true, if_true, Option.none_or]
          unfold vlL
          cases hp : parL ((a :: t).take (runN (a :: t))) with
          | none => rfl
          | some t' => simp [cutL, par_nm hp]
end Go.Proofs.YtdcpfnffckkfcaaGreatDoor
namespace Go.Proofs.YtdcpfnffckkfcaaGreatDoor
set_option maxRecDepth 20000
open Go.Lib
set_option linter.unusedVariables false
theorem nx_eats {α : Type} (k : Int) (x : α) : Eats (0 + 1) (thn (nxt k) fun _ => ret x) := thn_eats (m := 1) (k := 0) (nxt_eats _) fun _ => ret_eats _
theorem onesR_goes (a : Str) : Goes (thn (thn valR fun v => thn (fun l => whileR 11 valR (l.length + 1) l) fun vs => ret (v :: vs)) (fun vs => thn (nxt 5) fun _ => ret (⟨a, vs, []⟩ : AttrD))) := by
  refine thn_goesN (k := 0) ?_ (fun vs => thn_goes (nxt_goes _) fun _ => ret_goes _) (fun vs => nx_eats _ _)
  intro l x r h hr m
  obtain ⟨v, s, h1, h2⟩ := thn_is h
  obtain ⟨vs, s2, h3, h4⟩ := thn_is h2
  obtain ⟨rfl, rfl⟩ := Prod.mk.inj (Option.some.inj h4)
  rw [thn_of (valR_goes _ _ _ h1 m), thn_of (f := fun l => whileR 11 valR (l.length + 1) l) (wh_goesN valR_goes valR_eats _ _ _ h3 hr m)]
  rfl
theorem ones_same (a : Str) : (fun r : List Tk => thn (thn valR fun v => thn (whileR 11 valR (r.length + 1)) fun vs => ret (v :: vs)) (fun vs => thn (nxt 5) fun _ => ret (⟨a, vs, []⟩ : AttrD)) r) = thn (thn valR fun v => thn (fun l => whileR 11 valR (l.length + 1) l) fun vs => ret (v :: vs)) (fun vs => thn (nxt 5) fun _ => ret (⟨a, vs, []⟩ : AttrD)) := by
  funext r
  unfold thn
  cases e : valR r with
  | none => rfl
  | some x =>
    obtain ⟨v, s⟩ := x
    have := valR_eats.len e
    dsimp only
    rw [whileR_fuel valR_eats (r.length + 1) (s.length + 1) s (by omega) (by omega)]
theorem askR_eats (a : Str) : Eats 1 (askR a) := by
  refine if_eats ?_ (if_eats ?_ ?_)
  · refine (thn_eats (k := 0) (nxt_eats 4) fun _ => ?_)
    rw [ones_same]
    exact (thn_eats (thn_eats valR_eats fun v => thn_eats (wh_eats valR_eats) fun vs => ret_eats _) fun vs => thn_eats (nxt_eats _) fun _ => ret_eats _).less (Nat.zero_le _)
  · refine (thn_eats (k := 0) (nxt_eats 2) fun _ => ?_)
    exact (thn_eats (un_eats singleR_eats) fun xs => thn_eats (nxt_eats _) fun _ => ret_eats _).less (Nat.zero_le _)
  · exact thn_eats singleR_eats fun x => ret_eats _
theorem askR_goes (a : Str) : Goes (askR a) := by
  have h1 : Goes (thn (nxt 4) (fun _ r => thn (thn valR fun v => thn (whileR 11 valR (r.length + 1)) fun vs => ret (v :: vs)) (fun vs => thn (nxt 5) fun _ => ret (⟨a, vs, []⟩ : AttrD)) r)) := by
    refine thn_goes (nxt_goes _) fun _ => ?_
    rw [ones_same]; exact onesR_goes a
  have h2 : Goes (thn (nxt 2) (fun _ r => thn (untilR 3 singleR (r.length + 1)) (fun xs => thn (nxt 3) fun _ => ret (⟨a, [], xs⟩ : AttrD)) r)) :=
    thn_goes (nxt_goes _) fun _ => thn_goes (un_goes singleR_goes singleR_eats) fun xs => thn_goes (nxt_goes _) fun _ => ret_goes _
  have h3 : Goes (thn singleR (fun x => ret (⟨a, [], [x]⟩ : AttrD))) := thn_goes singleR_goes fun x => ret_goes _
  have e3 : Eats 1 (thn singleR (fun x => ret (⟨a, [], [x]⟩ : AttrD))) := thn_eats singleR_eats fun x => ret_eats _
  have e2 : Eats 1 (fun l => if isK 2 l = true then thn (nxt 2) (fun _ r => thn (untilR 3 singleR (r.length + 1)) (fun xs => thn (nxt 3) fun _ => ret (⟨a, [], xs⟩ : AttrD)) r) l else thn singleR (fun x => ret (⟨a, [], [x]⟩ : AttrD)) l) := by
    refine if_eats ?_ e3
    refine (thn_eats (k := 0) (nxt_eats 2) fun _ => ?_)
    exact (thn_eats (un_eats singleR_eats) fun xs => thn_eats (nxt_eats _) fun _ => ret_eats _).less (Nat.zero_le _)
  exact if_goes h1 (if_goes h2 h3 e3) e2
theorem attrR_eats : Eats 1 attrR := (thn_eats (nxt_eats _) fun t => askR_eats _).less (by decide)
theorem attrR_goes : Goes attrR := thn_goes (nxt_goes _) fun t => askR_goes _
theorem cond2R_eats (b : Bool) : Eats 1 (cond2R b) := by
  refine (thn_eats (k := 0) (nxt_eats 0) fun _ => ?_)
  exact (thn_eats nameR_eats fun c => thn_eats (wh_eats attrR_eats) fun as_ => thn_eats (nxt_eats _) fun _ => ret_eats _).less (Nat.zero_le _)
theorem cond2R_goes (b : Bool) : Goes (cond2R b) :=
  thn_goes (nxt_goes _) fun _ => thn_goes nameR_goes fun c => thn_goesN (k := 0) (wh_goesN attrR_goes attrR_eats) (fun as_ => thn_goes (nxt_goes _) fun _ => ret_goes _) (fun as_ => nx_eats _ _)
theorem condR_eats : Eats 1 condR := if_eats ((thn_eats (nxt_eats _) fun _ => cond2R_eats _).less (by decide)) (cond2R_eats _)
theorem condR_goes : Goes condR := if_goes (thn_goes (nxt_goes _) fun _ => cond2R_goes _) (cond2R_goes _) (cond2R_eats _)
theorem exprR_eats : ∀ n, Eats 1 (exprR n)
  | 0 => fun l x r h => by cases h
  | n + 1 => by
    refine if_eats (thn_eats (nxt_eats _) fun t => ret_eats _) (if_eats (thn_eats (nxt_eats _) fun t => ret_eats _) ?_)
    refine (thn_eats (k := 0) (nxt_eats 0) fun _ => ?_)
    refine (thn_eats (k := 0) nameR_eats fun s => ?_).less (Nat.zero_le _)
    refine ite_eats (bad_eats _) ?_
    exact (thn_eats (exprR_eats n) fun a => thn_eats (exprR_eats n) fun b => thn_eats (nxt_eats _) fun _ => ret_eats _).less (Nat.zero_le _)
theorem exprR_fuel : ∀ (n m : Nat) (l : List Tk), l.length < n → l.length < m → exprR n l = exprR m l
  | 0, m, l, h, _ => by omega
  | n + 1, 0, l, _, h => by omega
  | n + 1, m + 1, l, h1, h2 => by
    unfold exprR
    split
    · rfl
    · split
      · rfl
      · unfold thn
        cases e : nxt 0 l with
        | none => rfl
        | some x =>
          obtain ⟨t, r⟩ := x
          have i1 := (nxt_eats 0).len e
          dsimp only
          cases e2 : nameR r with
          | none => rfl
          | some y =>
            obtain ⟨s, r2⟩ := y
            have i2 := nameR_eats.len e2
            dsimp only
            split
            · rfl
            · dsimp only
              rw [exprR_fuel n m r2 (by omega) (by omega)]
              cases e3 : exprR m r2 with
              | none => rfl
              | some z =>
                obtain ⟨a, r3⟩ := z
                have i3 := (exprR_eats m).len e3
                dsimp only
                rw [exprR_fuel n m r3 (by omega) (by omega)]
theorem exprR_goes : ∀ (n : Nat) (l : List Tk) (x : List ItemD × Nat) (r : List Tk), exprR n l = some (x, r) → ∀ m, exprR (n + m.length) (l ++ m) = some (x, r ++ m)
  | 0, l, x, r, h, m => by cases h
  | n + 1, l, x, r, h, m => by
    have hl : l ≠ [] := by
      intro e; subst e
      obtain ⟨c, hc, h1⟩ := exprR_eats _ _ _ _ h
      have := congrArg List.length hc
      rw [List.length_append, List.length_nil] at this
      omega
    rw [show n + 1 + m.length = (n + m.length) + 1 by omega]
    unfold exprR at h ⊢
    rw [isK_app hl, isK_app hl]
    split at h
    · rename_i h9
      rw [if_pos h9]
      exact (thn_goes (nxt_goes _) fun t => ret_goes _) _ _ _ h m
    · rename_i h9
      rw [if_neg h9]
      split at h
      · rename_i h11
        rw [if_pos h11]
        exact (thn_goes (nxt_goes _) fun t => ret_goes _) _ _ _ h m
      · rename_i h11
        rw [if_neg h11]
        obtain ⟨t, s, h1, h2⟩ := thn_is h
        obtain ⟨o, s2, h3, h4⟩ := thn_is h2
        rw [thn_of (nxt_goes _ _ _ _ h1 m), thn_of (nameR_goes _ _ _ h3 m)]
        split at h4
        · cases h4
        · rename_i ho
          rw [if_neg ho]
          obtain ⟨a, s3, h5, h6⟩ := thn_is h4
          obtain ⟨b, s4, h7, h8⟩ := thn_is h6
          rw [thn_of (exprR_goes n _ _ _ h5 m), thn_of (exprR_goes n _ _ _ h7 m)]
          exact (thn_goes (nxt_goes _) fun _ => ret_goes _) _ _ _ h8 m
theorem exR_eats : Eats 1 exR := fun l x r h => exprR_eats _ _ _ _ h
theorem exR_goes : Goes exR := by
  intro l x r h m
  have := exprR_goes _ _ _ _ h m
  unfold exR
  rw [← this, List.length_append]
  exact exprR_fuel _ _ _ (by rw [List.length_append]; omega) (by rw [List.length_append]; omega)
theorem setR_eats : Eats 1 setR := (thn_eats (nxt_eats _) fun t => thn_eats exR_eats fun x => ret_eats _).less (by decide)
theorem setR_goes : Goes setR := thn_goes (nxt_goes _) fun t => thn_goes exR_goes fun x => ret_goes _
theorem setsR_eats : Eats 0 setsR := thn_eats (wh_eats setR_eats) fun xs => ret_eats _
theorem setsR_goesN : GoesN setsR := by
  intro l x r h hr m
  obtain ⟨xs, s, h1, h2⟩ := thn_is (f := fun l => whileR 8 setR (l.length + 1) l) (g := fun xs => ret (xs.map Prod.fst, deepOf (xs.map Prod.snd))) (l := l) h
  obtain ⟨rfl, rfl⟩ := Prod.mk.inj (Option.some.inj h2)
  exact thn_of (f := fun l => whileR 8 setR (l.length + 1) l) (g := fun xs => ret (xs.map Prod.fst, deepOf (xs.map Prod.snd))) (wh_goesN setR_goes setR_eats _ _ _ h1 hr m)
theorem exprsR_eats : ∀ n, Eats 0 (exprsR n)
  | 0 => fun l x r h => by cases h
  | n + 1 => fun l x r h => by
    unfold exprsR at h
    split at h
    · obtain ⟨rfl, rfl⟩ := Prod.mk.inj (Option.some.inj h); exact ⟨[], rfl, Nat.le_refl _⟩
    · exact (thn_eats exR_eats fun a => thn_eats (exprsR_eats n) fun b => ret_eats _).less (Nat.zero_le _) _ _ _ h
theorem exprsR_fuel : ∀ (n m : Nat) (l : List Tk), l.length < n → l.length < m → exprsR n l = exprsR m l
  | 0, m, l, h, _ => by omega
  | n + 1, 0, l, _, h => by omega
  | n + 1, m + 1, l, h1, h2 => by
    unfold exprsR
    split
    · rfl
    · unfold thn
      cases e : exR l with
      | none => rfl
      | some x =>
        obtain ⟨a, r⟩ := x
        have := exR_eats.len e
        dsimp only
        rw [exprsR_fuel n m r (by omega) (by omega)]
theorem exprsR_goes : ∀ (n : Nat) (l : List Tk) (x : List (List ItemD) × Nat) (r : List Tk), exprsR n l = some (x, r) → r ≠ [] → ∀ m, exprsR (n + m.length) (l ++ m) = some (x, r ++ m)
  | 0, l, x, r, h, _, m => by cases h
  | n + 1, l, x, r, h, hr, m => by
    rw [show n + 1 + m.length = (n + m.length) + 1 by omega]
    unfold exprsR at h ⊢
    have hl : l ≠ [] := by
      intro e; subst e
      rw [if_pos (.inl rfl)] at h
      obtain ⟨_, rfl⟩ := Prod.mk.inj (Option.some.inj h)
      exact hr rfl
    have hlm : l ++ m ≠ [] := by simp [hl]
    rw [isK_app hl]
    split at h
    · rename_i hk
      rw [if_pos (.inr (hk.resolve_left hl))]
      obtain ⟨rfl, rfl⟩ := Prod.mk.inj (Option.some.inj h)
      rfl
    · rename_i hk
      rw [if_neg (by rintro (e | e); exact hlm e; exact hk (.inr e))]
      obtain ⟨a, s, h1, h2⟩ := thn_is h
      obtain ⟨b, s2, h3, h4⟩ := thn_is h2
      obtain ⟨rfl, rfl⟩ := Prod.mk.inj (Option.some.inj h4)
      rw [thn_of (exR_goes _ _ _ h1 m), thn_of (exprsR_goes n _ _ _ h3 hr m)]
      rfl
theorem exprs_goesN : GoesN (fun l => exprsR (l.length + 1) l) := by
  intro l x r h hr m
  have := exprsR_goes _ _ _ _ h hr m
  dsimp only
  rw [← this, List.length_append]
  exact exprsR_fuel _ _ _ (by rw [List.length_append]; omega) (by rw [List.length_append]; omega)
theorem thn_goesNN {α β : Type} {f : Rdr α} {g : α → Rdr β} (hf : GoesN f) (hg : ∀ a, GoesN (g a)) (he : ∀ a, Eats 0 (g a)) : GoesN (thn f g) := by
  intro l y r h hr m
  obtain ⟨a, s, h1, h2⟩ := thn_is h
  obtain ⟨d, rfl, hd⟩ := he a _ _ _ h2
  have hs : d ++ r ≠ [] := by simp [hr]
  rw [thn_of (hf _ _ _ h1 hs m)]
  exact hg a _ _ _ h2 hr m
theorem ite_goesN {α : Type} {c : Prop} [Decidable c] {f g : Rdr α} (hf : GoesN f) (hg : GoesN g) : GoesN (if c then f else g) := by split <;> assumption
theorem bodyR_eats (s : Str) : Eats 0 (bodyR s) := by
  unfold bodyR
  refine ite_eats ?_ (ite_eats ?_ (ite_eats ?_ (ite_eats ?_ (ite_eats ?_ (ite_eats ?_ (bad_eats _))))))
  · exact (thn_eats nameR_eats fun c => thn_eats setsR_eats fun x => ret_eats _).less (Nat.zero_le _)
  · exact (thn_eats numR_eats fun c => thn_eats setsR_eats fun x => ret_eats _).less (Nat.zero_le _)
  · exact (thn_eats numR_eats fun c => ret_eats _).less (Nat.zero_le _)
  · exact (thn_eats (nxt_eats _) fun c => thn_eats exR_eats fun x => ret_eats _).less (Nat.zero_le _)
  · exact thn_eats (f := fun l => exprsR (l.length + 1) l) (fun l x r h => exprsR_eats _ _ _ _ h) fun x => ret_eats _
  · exact ret_eats _
theorem bodyR_goes (s : Str) : GoesN (bodyR s) := by
  unfold bodyR
  refine ite_goesN ?_ (ite_goesN ?_ (ite_goesN ?_ (ite_goesN ?_ (ite_goesN ?_ (ite_goesN ?_ bad_goes.n)))))
  · exact thn_goesNN nameR_goes.n (fun c => thn_goesNN setsR_goesN (fun x => (ret_goes _).n) fun x => ret_eats _) fun c => thn_eats setsR_eats fun x => ret_eats _
  · exact thn_goesNN numR_goes.n (fun c => thn_goesNN setsR_goesN (fun x => (ret_goes _).n) fun x => ret_eats _) fun c => thn_eats setsR_eats fun x => ret_eats _
  · exact (thn_goes numR_goes fun c => ret_goes _).n
  · exact (thn_goes (nxt_goes _) fun c => thn_goes exR_goes fun x => ret_goes _).n
  · exact thn_goesNN (f := fun l => exprsR (l.length + 1) l) exprs_goesN (fun x => (ret_goes _).n) fun x => ret_eats _
  · exact (ret_goes _).n
theorem actR_eats : Eats 1 actR := by
  refine (thn_eats (k := 0) (nxt_eats 0) fun _ => ?_)
  exact (thn_eats nameR_eats fun s => thn_eats (bodyR_eats s) fun x => thn_eats (nxt_eats _) fun _ => ret_eats _).less (Nat.zero_le _)
theorem actR_goes : Goes actR := thn_goes (nxt_goes _) fun _ => thn_goes nameR_goes fun s => thn_goesN (k := 0) (bodyR_goes s) (fun x => thn_goes (nxt_goes _) fun _ => ret_goes _) fun x => nx_eats _ _
theorem ruleR_eats : Eats 1 ruleR := by
  refine (thn_eats (k := 0) nameR_eats fun _ => ?_)
  exact (thn_eats (un_eats condR_eats) fun s => thn_eats (nxt_eats _) fun x => thn_eats (wh_eats actR_eats) fun _ => thn_eats (nxt_eats _) fun _ => ret_eats _).less (Nat.zero_le _)
theorem ruleR_goes : Goes ruleR :=
  thn_goes nameR_goes fun nm => thn_goes (un_goes condR_goes condR_eats) fun cs => thn_goes (nxt_goes _) fun _ => thn_goesN (k := 0) (wh_goesN actR_goes actR_eats) (fun xs => thn_goes (nxt_goes _) fun _ => ret_goes _) fun xs => nx_eats _ _
theorem classR_eats : Eats 1 classR := by
  refine (thn_eats (k := 0) nameR_eats fun _ => ?_)
  exact (thn_eats (un_eats nameR_eats) fun s => thn_eats (nxt_eats _) fun _ => ret_eats _).less (Nat.zero_le _)
theorem classR_goes : Goes classR := thn_goes nameR_goes fun nm => thn_goes (un_goes nameR_goes nameR_eats) fun as_ => thn_goes (nxt_goes _) fun _ => ret_goes _
theorem topR_eats : Eats 2 topR := by
  refine thn_eats (k := 1) (nxt_eats 0) fun _ => ?_
  refine thn_eats (k := 0) nameR_eats fun s => ?_
  exact ite_eats ((thn_eats classR_eats fun c => ret_eats _).less (Nat.zero_le _)) (ite_eats ((thn_eats ruleR_eats fun c => ret_eats _).less (Nat.zero_le _)) (bad_eats _))
theorem topR_goes : Goes topR := thn_goes (nxt_goes _) fun _ => thn_goes nameR_goes fun s => ite_goes (thn_goes classR_goes fun c => ret_goes _) (ite_goes (thn_goes ruleR_goes fun c => ret_goes _) bad_goes)
theorem topsR_fuel : ∀ (n m : Nat) (l : List Tk), l.length < n → l.length < m → topsR n l = topsR m l
  | 0, m, l, h, _ => by omega
  | n + 1, 0, l, _, h => by omega
  | n + 1, m + 1, l, h1, h2 => by
    unfold topsR
    split
    · rfl
    · cases e : topR l with
      | none => rfl
      | some x =>
        obtain ⟨a, r⟩ := x
        have := topR_eats.len e
        dsimp only
        rw [topsR_fuel n m r (by omega) (by omega)]
theorem tops_nil : topsL [] = some [] := rfl
theorem tops_cons {l : List Tk} (hl : l ≠ []) : topsL l = match topR l with
    | none => none
    | some (x, r) => (topsL r).map (x :: ·) := by
  unfold topsL
  conv => lhs; unfold topsR
  rw [if_neg hl]
  cases e : topR l with
  | none => rfl
  | some x =>
    obtain ⟨a, r⟩ := x
    have := topR_eats.len e
    dsimp only
    rw [topsR_fuel l.length (r.length + 1) r (by omega) (by omega)]
theorem tops_app : ∀ (n : Nat) (l m : List Tk) (ts : List Top), l.length ≤ n → topsL l = some ts → topsL (l ++ m) = (topsL m).map (ts ++ ·)
  | 0, l, m, ts, hn, h => by
    obtain rfl : l = [] := List.length_eq_zero_iff.1 (by omega)
    rw [tops_nil] at h
    obtain rfl := Option.some.inj h
    rw [List.nil_append]
    cases topsL m <;> simp
  | n + 1, l, m, ts, hn, h => by
    by_cases hl : l = []
    · subst hl
      rw [tops_nil] at h
      obtain rfl := Option.some.inj h
      rw [List.nil_append]
      cases topsL m <;> simp
    · rw [tops_cons hl] at h
      rw [tops_cons (by simp [hl])]
      cases e : topR l with
      | none => rw [e] at h; cases h
      | some x =>
        obtain ⟨a, r⟩ := x
        rw [e] at h
        dsimp only at h
        rw [topR_goes _ _ _ e m]
        dsimp only
        have hr := topR_eats.len e
        cases e2 : topsL r with
        | none => rw [e2] at h; cases h
        | some us =>
          rw [e2] at h
          obtain rfl := Option.some.inj h
          rw [tops_app n r m us (by omega) e2]
          cases topsL m <;> simp
theorem tops_two {l m : List Tk} {ts : List Top} (h : topsL l = some ts) : topsL (l ++ m) = (topsL m).map (ts ++ ·) := tops_app l.length l m ts (Nat.le_refl _) h
def overA (as_ : List AttrD) : Bool := as_.any fun a => decide (6 < as_.length ∨ 8 < a.ones.length ∨ 8 < a.tests.length)
def overB (r : RuleD) : Bool := decide (5 < r.conds.length ∨ 8 < r.acts.length) || (r.conds.any (fun c => overA c.attrs) || r.acts.any fun a => decide (6 < a.sets.length ∨ 8 < a.exprs.length))
def limB : Top → Bool
  | .cls c => decide (6 < c.attrs.length)
  | .rul r d => overB r || decide (8 < d)
def clsOf : List Top → List ClassD
  | [] => []
  | .cls c :: r => c :: clsOf r
  | .rul _ _ :: r => clsOf r
def rulOf : List Top → List RuleD
  | [] => []
  | .cls _ :: r => rulOf r
  | .rul x _ :: r => x :: rulOf r
theorem cls_app (a b : List Top) : clsOf (a ++ b) = clsOf a ++ clsOf b := by
  induction a with
  | nil => rfl
  | cons x r ih => cases x <;> simp [clsOf, ih]
theorem rul_app (a b : List Top) : rulOf (a ++ b) = rulOf a ++ rulOf b := by
  induction a with
  | nil => rfl
  | cons x r ih => cases x <;> simp [rulOf, ih]
def tooB (ts : List Top) : Bool := ts.any limB || decide (16 < (clsOf ts).length ∨ 16 < (rulOf ts).length)
def p0 : ProgD := ⟨[], []⟩
def parT (l : List Tk) : ProgD × Nat := match topsL l with
  | none => (p0, 17)
  | some ts => if tooB ts = true then (p0, 21) else (⟨clsOf ts, rulOf ts⟩, 0)
def parP (l : List UInt8) : ProgD × Nat := if (scanL l).2.2 ≠ 0 then (p0, (scanL l).2.2) else parT ((scanL l).1.map Prod.fst)
theorem parT_ok {l : List Tk} (h : (parT l).2 = 0) : ∃ ts, topsL l = some ts ∧ tooB ts = false ∧ parT l = (⟨clsOf ts, rulOf ts⟩, 0) := by
  unfold parT at h ⊢
  cases e : topsL l with
  | none => rw [e] at h; cases h
  | some ts =>
    rw [e] at h
    dsimp only at h ⊢
    split at h
    · cases h
    · rename_i hb
      exact ⟨ts, rfl, by simpa using hb, if_neg hb⟩
theorem parT_two {l m : List Tk} (h1 : (parT l).2 = 0) (h2 : (parT m).2 = 0) : parT (l ++ m) = if 16 < (parT l).1.cs.length + (parT m).1.cs.length ∨ 16 < (parT l).1.rs.length + (parT m).1.rs.length then (p0, 21) else (⟨(parT l).1.cs ++ (parT m).1.cs, (parT l).1.rs ++ (parT m).1.rs⟩, 0) := by
  obtain ⟨ts, e1, b1, r1⟩ := parT_ok h1
  obtain ⟨us, e2, b2, r2⟩ := parT_ok h2
  rw [r1, r2]
  unfold parT
  rw [tops_two e1, e2]
  simp only [Option.map_some]
  unfold tooB at b1 b2 ⊢
  simp only [Bool.or_eq_false_iff] at b1 b2
  rw [List.any_append, b1.1, b2.1, cls_app, rul_app, List.length_append, List.length_append]
  simp only [Bool.or_false, Bool.false_or, decide_eq_true_eq]
end Go.Proofs.YtdcpfnffckkfcaaGreatDoor
namespace Go.Proofs.YtdcpfnffckkfcaaGreatDoor
set_option maxRecDepth 20000
open Go.Lib
set_option linter.unusedVariables false
theorem thn_none {α β : Type} {f : Rdr α} {g : α → Rdr β} {l : List Tk} (e : f l = none) : thn f g l = none := by unfold thn; rw [e]
theorem thn_assoc {α β γ : Type} (f : Rdr α) (g : α → Rdr β) (h : β → Rdr γ) : thn (thn f g) h = thn f (fun a => thn (g a) h) := by
  funext l
  unfold thn
  cases f l with
  | none => rfl
  | some x => rfl
theorem ret_thn {α β : Type} (a : α) (g : α → Rdr β) : thn (ret a) g = g a := rfl
theorem ite_thn {α β : Type} (c : Prop) [Decidable c] (f g : Rdr α) (h : α → Rdr β) : thn (if c then f else g) h = if c then thn f h else thn g h := by split <;> rfl
theorem thn_congr {α β : Type} {f : Rdr α} {g h : α → Rdr β} (e : ∀ a, g a = h a) : thn f g = thn f h := by
  have : g = h := funext e
  rw [this]
theorem nxt_isK {k : Int} {l : List Tk} (h : isK k l = false) : nxt k l = none := by
  cases l with
  | nil => rfl
  | cons a t =>
    have : ¬ a.k = k := by simpa [isK] using h
    show (if _ then _ else _) = _
    rw [if_neg this]
theorem nxt_yes {k : Int} {l : List Tk} (h : isK k l = true) : ∃ t r, l = t :: r ∧ t.k = k ∧ nxt k l = some (t, r) := by
  cases l with
  | nil => cases h
  | cons a t =>
    have : a.k = k := by simpa [isK] using h
    refine ⟨a, t, rfl, this, ?_⟩
    show (if _ then _ else _) = _
    rw [if_pos this]
theorem isK_two {k e : Int} {l : List Tk} (h : isK k l = true) (hke : e ≠ k) : isK e l = false := by
  obtain ⟨t, r, rfl, hk, _⟩ := nxt_yes h
  have : ¬ t.k = e := by rw [hk]; exact fun h => hke h.symm
  simp [isK, this]
theorem nxt_tail {k : Int} {l : List Tk} (h : isK k l = true) : ∃ t, nxt k l = some (t, l.tail) := by
  obtain ⟨t, r, rfl, _, e⟩ := nxt_yes h
  exact ⟨t, e⟩
def sevR {α : Type} (e : Int) (f : Rdr α) : Nat → Rdr (List α)
  | 0, _ => none
  | n + 1, l => if isK e l = true then some ([], l.tail) else thn f (fun x => thn (sevR e f n) fun xs => ret (x :: xs)) l
def sevL {α : Type} (e : Int) (f : Rdr α) : Rdr (List α) := fun l => sevR e f (l.length + 1) l
theorem sevR_fuel {α : Type} {e : Int} {f : Rdr α} (hf : Eats 1 f) : ∀ (n m : Nat) (l : List Tk), l.length < n → l.length < m → sevR e f n l = sevR e f m l
  | 0, m, l, h, _ => by omega
  | n + 1, 0, l, _, h => by omega
  | n + 1, m + 1, l, h1, h2 => by
    unfold sevR
    split
    · rfl
    · unfold thn
      cases ef : f l with
      | none => rfl
      | some x =>
        obtain ⟨a, r⟩ := x
        have := hf.len ef
        dsimp only
        rw [sevR_fuel hf n m r (by omega) (by omega)]
theorem sev_end {α : Type} {e : Int} {f : Rdr α} {l : List Tk} (h : isK e l = true) : sevL e f l = some ([], l.tail) := by
  unfold sevL sevR; rw [if_pos h]
theorem sev_no {α : Type} {e : Int} {f : Rdr α} {l : List Tk} (h : isK e l = false) (hx : f l = none) : sevL e f l = none := by
  unfold sevL sevR; rw [if_neg (by rw [h]; decide), thn_none hx]
theorem sev_go {α : Type} {e : Int} {f : Rdr α} (hf : Eats 1 f) {l r : List Tk} {x : α} (h : isK e l = false) (hx : f l = some (x, r)) : sevL e f l = (sevL e f r).map fun p => (x :: p.1, p.2) := by
  have hl := hf.len hx
  unfold sevL
  conv => lhs; unfold sevR
  rw [if_neg (by rw [h]; decide), thn_of hx]
  unfold thn
  rw [sevR_fuel hf l.length (r.length + 1) r (by omega) (by omega)]
  cases sevR e f (r.length + 1) r with
  | none => rfl
  | some p => rfl
theorem sev_step {α : Type} {e : Int} {f : Rdr α} (hf : Eats 1 f) {l0 l r : List Tk} {xs : List α} {x : α} (h0 : sevL e f l0 = (sevL e f l).map fun p => (xs ++ p.1, p.2)) (h : isK e l = false) (hx : f l = some (x, r)) : sevL e f l0 = (sevL e f r).map fun p => (xs ++ [x] ++ p.1, p.2) := by
  rw [h0, sev_go hf h hx]
  cases sevL e f r with
  | none => rfl
  | some p => simp
theorem sev_stop {α : Type} {e : Int} {f : Rdr α} {l0 l : List Tk} {xs : List α} (h0 : sevL e f l0 = (sevL e f l).map fun p => (xs ++ p.1, p.2)) (h : isK e l = true) : sevL e f l0 = some (xs, l.tail) := by
  rw [h0, sev_end h]; simp
theorem sev_fail {α : Type} {e : Int} {f : Rdr α} {l0 l : List Tk} {xs : List α} (h0 : sevL e f l0 = (sevL e f l).map fun p => (xs ++ p.1, p.2)) (h : isK e l = false) (hx : f l = none) : sevL e f l0 = none := by
  rw [h0, sev_no h hx]; rfl
theorem sev_start {α : Type} (e : Int) (f : Rdr α) (l : List Tk) : sevL e f l = (sevL e f l).map fun p => ([] ++ p.1, p.2) := by
  cases sevL e f l with
  | none => rfl
  | some p => rfl
def nonE {α : Type} : List α → Rdr (List α)
  | [] => bad
  | x :: xs => ret (x :: xs)
def somL {α : Type} (e : Int) (f : Rdr α) : Rdr (List α) := thn (sevL e f) nonE
theorem som_nil {α : Type} {e : Int} {f : Rdr α} {l r : List Tk} (h : sevL e f l = some ([], r)) : somL e f l = none := by
  unfold somL; rw [thn_of h]; rfl
theorem som_cons {α : Type} {e : Int} {f : Rdr α} {l r : List Tk} {xs : List α} (hx : xs ≠ []) (h : sevL e f l = some (xs, r)) : somL e f l = some (xs, r) := by
  unfold somL; rw [thn_of h]
  cases xs with
  | nil => exact absurd rfl hx
  | cons x xs => rfl
theorem som_none {α : Type} {e : Int} {f : Rdr α} {l : List Tk} (h : sevL e f l = none) : somL e f l = none := thn_none h
theorem while_sev {α : Type} {k e : Int} {f : Rdr α} (hke : e ≠ k) (hf : Eats 1 f) (hn : ∀ l, isK k l = false → f l = none) : ∀ (n m : Nat) (l : List Tk), l.length < n → l.length < m → thn (whileR k f n) (fun xs => thn (nxt e) fun _ => ret xs) l = sevR e f m l
  | 0, m, l, h, _ => by omega
  | n + 1, 0, l, _, h => by omega
  | n + 1, m + 1, l, h1, h2 => by
    unfold sevR
    by_cases hk : isK k l = true
    · rw [if_neg (by rw [isK_two hk hke]; decide)]
      cases ef : f l with
      | none =>
        have : whileR k f (n + 1) l = none := by unfold whileR; rw [if_pos hk, thn_none ef]
        rw [thn_none this, thn_none ef]
      | some p =>
        obtain ⟨a, r⟩ := p
        have hl := hf.len ef
        have ih := while_sev hke hf hn n m r (by omega) (by omega)
        have hw : whileR k f (n + 1) l = thn (whileR k f n) (fun as_ => ret (a :: as_)) r := by
          conv => lhs; unfold whileR
          rw [if_pos hk, thn_of ef]
        rw [thn_of ef]
        unfold thn at hw ih ⊢
        rw [hw, ← ih]
        cases whileR k f n r with
        | none => rfl
        | some q =>
          dsimp only [ret]
          cases nxt e q.2 with
          | none => rfl
          | some z => rfl
    · have hk' : isK k l = false := by simpa using hk
      have hw : whileR k f (n + 1) l = some ([], l) := by unfold whileR; rw [if_neg hk]
      rw [thn_of hw]
      split
      · rename_i he
        obtain ⟨t, ht⟩ := nxt_tail he
        rw [thn_of ht]; rfl
      · rename_i he
        rw [thn_none (nxt_isK (by simpa using he)), thn_none (hn l hk')]
theorem wh_sev {α β : Type} {k e : Int} {f : Rdr α} (hke : e ≠ k) (hf : Eats 1 f) (hn : ∀ l, isK k l = false → f l = none) (g : List α → Rdr β) : thn (fun l => whileR k f (l.length + 1) l) (fun xs => thn (nxt e) fun _ => g xs) = thn (sevL e f) g := by
  have : sevL e f = thn (fun l => whileR k f (l.length + 1) l) (fun xs => thn (nxt e) fun _ => ret xs) := by
    funext l
    have := while_sev hke hf hn (l.length + 1) (l.length + 1) l (by omega) (by omega)
    unfold sevL
    rw [← this]; rfl
  rw [this, thn_assoc]
  exact thn_congr fun xs => by rw [thn_assoc]; exact thn_congr fun _ => (ret_thn _ _).symm
theorem until_sev {α : Type} {k : Int} {f : Rdr α} (hf : Eats 1 f) (hn : ∀ l, isK k l = true → f l = none) : ∀ (n m : Nat) (l : List Tk), l.length < n → l.length < m → thn (untilR k f n) (fun xs => thn (nxt k) fun _ => ret xs) l = thn (sevR k f m) nonE l
  | 0, m, l, h, _ => by omega
  | n + 1, 0, l, _, h => by omega
  | n + 1, m + 1, l, h1, h2 => by
    by_cases hk : isK k l = true
    · have h3 : untilR k f (n + 1) l = none := by unfold untilR; rw [thn_none (hn l hk)]
      have h4 : sevR k f (m + 1) l = some ([], l.tail) := by unfold sevR; rw [if_pos hk]
      rw [thn_none h3, thn_of h4]; rfl
    · cases ef : f l with
      | none =>
        have h3 : untilR k f (n + 1) l = none := by unfold untilR; rw [thn_none ef]
        have h4 : sevR k f (m + 1) l = none := by unfold sevR; rw [if_neg hk, thn_none ef]
        rw [thn_none h3, thn_none h4]
      | some p =>
        obtain ⟨a, r⟩ := p
        have hl := hf.len ef
        have ih := until_sev hf hn n m r (by omega) (by omega)
        have h4 : sevR k f (m + 1) l = thn (sevR k f m) (fun xs => ret (a :: xs)) r := by
          conv => lhs; unfold sevR
          rw [if_neg hk, thn_of ef]
        by_cases hr : isK k r = true
        · have h3 : untilR k f (n + 1) l = some ([a], r) := by unfold untilR; rw [thn_of ef, if_pos hr]
          obtain ⟨t, ht⟩ := nxt_tail hr
          rw [thn_of h3, thn_of ht]
          obtain ⟨j, rfl⟩ : ∃ j, m = j + 1 := ⟨m - 1, by omega⟩
          have h5 : sevR k f (j + 1) r = some ([], r.tail) := by unfold sevR; rw [if_pos hr]
          unfold thn
          unfold thn at h4
          rw [h4, h5]; rfl
        · have h3 : untilR k f (n + 1) l = thn (untilR k f n) (fun as_ => ret (a :: as_)) r := by
            conv => lhs; unfold untilR
            rw [thn_of ef, if_neg hr]
          unfold thn at h3 h4 ih ⊢
          rw [h3, h4]
          cases hu : untilR k f n r with
          | none =>
            rw [hu] at ih
            dsimp only at ih ⊢
            cases hs : sevR k f m r with
            | none => rfl
            | some z =>
              obtain ⟨zs, q⟩ := z
              rw [hs] at ih
              cases zs with
              | nil =>
                exfalso
                obtain ⟨j, rfl⟩ : ∃ j, m = j + 1 := ⟨m - 1, by omega⟩
                unfold sevR at hs
                rw [if_neg hr] at hs
                obtain ⟨b, s, _, e2⟩ := thn_is hs
                obtain ⟨bs, s2, _, e3⟩ := thn_is e2
                cases (Prod.mk.inj (Option.some.inj e3)).1
              | cons z zs => cases ih
          | some z =>
            obtain ⟨us, q⟩ := z
            rw [hu] at ih
            dsimp only [ret] at ih ⊢
            cases hs : sevR k f m r with
            | none =>
              rw [hs] at ih
              dsimp only at ih ⊢
              cases hq : nxt k q with
              | none => rfl
              | some z => rw [hq] at ih; cases ih
            | some y =>
              obtain ⟨ys, q2⟩ := y
              rw [hs] at ih
              dsimp only at ih ⊢
              cases ys with
              | nil =>
                exfalso
                obtain ⟨j, rfl⟩ : ∃ j, m = j + 1 := ⟨m - 1, by omega⟩
                unfold sevR at hs
                rw [if_neg hr] at hs
                obtain ⟨b, s, _, e2⟩ := thn_is hs
                obtain ⟨bs, s2, _, e3⟩ := thn_is e2
                cases (Prod.mk.inj (Option.some.inj e3)).1
              | cons y ys =>
                cases hq : nxt k q with
                | none => rw [hq] at ih; cases ih
                | some z =>
                  rw [hq] at ih
                  dsimp only [nonE, ret] at ih ⊢
                  obtain ⟨rfl, rfl⟩ := Prod.mk.inj (Option.some.inj ih)
                  rfl
theorem un_sev {α β : Type} {k : Int} {f : Rdr α} (hf : Eats 1 f) (hn : ∀ l, isK k l = true → f l = none) (g : List α → Rdr β) : thn (fun l => untilR k f (l.length + 1) l) (fun xs => thn (nxt k) fun _ => g xs) = thn (somL k f) g := by
  have : somL k f = thn (fun l => untilR k f (l.length + 1) l) (fun xs => thn (nxt k) fun _ => ret xs) := by
    funext l
    have := until_sev hf hn (l.length + 1) (l.length + 1) l (by omega) (by omega)
    unfold somL sevL
    unfold thn at this ⊢
    rw [← this]
  rw [this, thn_assoc]
  exact thn_congr fun xs => by rw [thn_assoc]; exact thn_congr fun _ => (ret_thn _ _).symm
theorem ones_sev {α β : Type} {k e : Int} {f : Rdr α} (hke : e ≠ k) (hf : Eats 1 f) (hn : ∀ l, isK k l = false → f l = none) (g : List α → Rdr β) : thn (thn f fun v => thn (fun l => whileR k f (l.length + 1) l) fun vs => ret (v :: vs)) (fun vs => thn (nxt e) fun _ => g vs) = thn (somL e f) g := by
  have h1 : thn (thn f fun v => thn (fun l => whileR k f (l.length + 1) l) fun vs => ret (v :: vs)) (fun vs => thn (nxt e) fun _ => g vs) = thn f fun v => thn (sevL e f) fun vs => g (v :: vs) := by
    rw [thn_assoc]
    refine thn_congr fun v => ?_
    rw [thn_assoc]
    have := wh_sev hke hf hn (fun vs => g (v :: vs))
    rw [← this]
    exact thn_congr fun vs => ret_thn _ _
  rw [h1]
  unfold somL
  rw [thn_assoc]
  funext l
  by_cases he : isK e l = true
  · rw [thn_of (sev_end he)]
    have : f l = none := hn l (isK_two he (fun h => hke h.symm))
    rw [thn_none this]; rfl
  · have he' : isK e l = false := by simpa using he
    cases ef : f l with
    | none => rw [thn_none ef, thn_none (sev_no he' ef)]
    | some p =>
      obtain ⟨a, r⟩ := p
      rw [thn_of ef]
      unfold thn
      rw [sev_go hf he' ef]
      cases sevL e f r with
      | none => rfl
      | some z => rfl
theorem valR_no (l : List Tk) (h : isK 11 l = false) : valR l = none := thn_none (nxt_isK h)
theorem nameR_no (l : List Tk) (h : isK 11 l = false) : nameR l = none := thn_none (nxt_isK h)
theorem attrR_no (l : List Tk) (h : isK 8 l = false) : attrR l = none := thn_none (nxt_isK h)
theorem setR_no (l : List Tk) (h : isK 8 l = false) : setR l = none := thn_none (nxt_isK h)
theorem actR_no (l : List Tk) (h : isK 0 l = false) : actR l = none := thn_none (nxt_isK h)
theorem singleR_at {l : List Tk} (h : isK 3 l = true) : singleR l = none := by
  unfold singleR varR
  rw [if_neg (by rw [isK_two h (by decide)]; decide), if_neg (by rw [isK_two h (by decide)]; decide)]
  exact thn_none (nxt_isK (isK_two h (by decide)))
theorem nameR_at {l : List Tk} (h : isK 1 l = true) : nameR l = none := nameR_no l (isK_two h (by decide))
theorem condR_at {l : List Tk} (h : isK 6 l = true) : condR l = none := by
  unfold condR
  rw [if_neg (by rw [isK_two h (by decide)]; decide)]
  exact thn_none (nxt_isK (isK_two h (by decide)))
def askP (a : Str) : Rdr AttrD := fun l =>
  if isK 4 l = true then thn (nxt 4) (fun _ => thn (somL 5 valR) fun vs => ret ⟨a, vs, []⟩) l
  else if isK 2 l = true then thn (nxt 2) (fun _ => thn (somL 3 singleR) fun xs => ret ⟨a, [], xs⟩) l
  else thn singleR (fun x => ret ⟨a, [], [x]⟩) l
theorem askR_is (a : Str) : askR a = askP a := by
  funext l
  unfold askR askP
  split
  · have := ones_same a
    rw [this, ones_sev (by decide) valR_eats valR_no]
  · split
    · rw [show (fun (x : Tk) (r : List Tk) => thn (untilR 3 singleR (r.length + 1)) (fun xs => thn (nxt 3) fun _ => ret (⟨a, [], xs⟩ : AttrD)) r) = fun _ => thn (fun l => untilR 3 singleR (l.length + 1) l) (fun xs => thn (nxt 3) fun _ => ret ⟨a, [], xs⟩) from rfl, un_sev singleR_eats (fun l h => singleR_at h)]
    · rfl
theorem cond2R_is (neg : Bool) : cond2R neg = thn (nxt 0) fun _ => thn nameR fun c => thn (sevL 1 attrR) fun as_ => ret ⟨neg, c, as_⟩ := by
  unfold cond2R
  refine thn_congr fun _ => thn_congr fun c => ?_
  rw [← wh_sev (k := 8) (by decide) attrR_eats attrR_no]; rfl
theorem sets_sev {β : Type} (g : List SetD × Nat → Rdr β) : thn setsR (fun x => thn (nxt 1) fun _ => g x) = thn (sevL 1 setR) fun xs => g (xs.map Prod.fst, deepOf (xs.map Prod.snd)) := by
  rw [← wh_sev (k := 8) (by decide) setR_eats setR_no]
  rw [show setsR = thn (fun l => whileR 8 setR (l.length + 1) l) (fun xs => ret (xs.map Prod.fst, deepOf (xs.map Prod.snd))) from rfl, thn_assoc]
  exact thn_congr fun xs => ret_thn _ _
theorem exprs_sev1 : ∀ (n m : Nat) (l : List Tk), l.length < n → l.length < m → thn (exprsR n) (fun x => thn (nxt 1) fun _ => ret x) l = thn (sevR 1 exR m) (fun xs => ret (xs.map Prod.fst, deepOf (xs.map Prod.snd))) l
  | 0, m, l, h, _ => by omega
  | n + 1, 0, l, _, h => by omega
  | n + 1, m + 1, l, h1, h2 => by
    by_cases hk : isK 1 l = true
    · have h3 : exprsR (n + 1) l = some (([], 0), l) := by unfold exprsR; rw [if_pos (.inr hk)]
      have h4 : sevR 1 exR (m + 1) l = some ([], l.tail) := by unfold sevR; rw [if_pos hk]
      obtain ⟨t, ht⟩ := nxt_tail hk
      rw [thn_of h3, thn_of ht, thn_of h4]; rfl
    · by_cases hl : l = []
      · subst hl
        have h4 : sevR 1 exR (m + 1) [] = none := rfl
        rw [thn_none h4]; rfl
      · cases ef : exR l with
        | none =>
          have h3 : exprsR (n + 1) l = none := by unfold exprsR; rw [if_neg (by simp [hl, hk]), thn_none ef]
          have h4 : sevR 1 exR (m + 1) l = none := by unfold sevR; rw [if_neg hk, thn_none ef]
          rw [thn_none h3, thn_none h4]
        | some p =>
          obtain ⟨a, r⟩ := p
          have hr := exR_eats.len ef
          have ih := exprs_sev1 n m r (by omega) (by omega)
          have h3 : exprsR (n + 1) l = thn (exprsR n) (fun y => ret (a.1 :: y.1, max a.2 y.2)) r := by
            conv => lhs; unfold exprsR
            rw [if_neg (by simp [hl, hk]), thn_of ef]
          have h4 : sevR 1 exR (m + 1) l = thn (sevR 1 exR m) (fun xs => ret (a :: xs)) r := by
            conv => lhs; unfold sevR
            rw [if_neg hk, thn_of ef]
          unfold thn at h3 h4 ih ⊢
          rw [h3, h4]
          cases hu : exprsR n r with
          | none =>
            rw [hu] at ih
            cases hs : sevR 1 exR m r with
            | none => rfl
            | some z => rw [hs] at ih; cases ih
          | some z =>
            obtain ⟨us, q⟩ := z
            rw [hu] at ih
            dsimp only [ret] at ih ⊢
            cases hq : nxt 1 q with
            | none =>
              rw [hq] at ih
              cases hs : sevR 1 exR m r with
              | none => rfl
              | some y => rw [hs] at ih; cases ih
            | some z =>
              rw [hq] at ih
              cases hs : sevR 1 exR m r with
              | none => rw [hs] at ih; cases ih
              | some y =>
                obtain ⟨ys, q2⟩ := y
                rw [hs] at ih
                dsimp only [ret] at ih ⊢
                obtain ⟨rfl, rfl⟩ := Prod.mk.inj (Option.some.inj ih)
                rfl
theorem exprs_sev {β : Type} (g : List (List ItemD) × Nat → Rdr β) : thn (fun l => exprsR (l.length + 1) l) (fun x => thn (nxt 1) fun _ => g x) = thn (sevL 1 exR) fun xs => g (xs.map Prod.fst, deepOf (xs.map Prod.snd)) := by
  have h : thn (fun l => exprsR (l.length + 1) l) (fun x => thn (nxt 1) fun _ => ret x) = thn (sevL 1 exR) fun xs => ret (xs.map Prod.fst, deepOf (xs.map Prod.snd)) := by
    funext l
    have := exprs_sev1 (l.length + 1) (l.length + 1) l (by omega) (by omega)
    unfold sevL
    unfold thn at this ⊢
    rw [← this]
  have h2 := congrArg (fun z => thn z g) h
  simp only [thn_assoc] at h2
  exact h2
def bodyP (s : Str) : Rdr (ActD × Nat) :=
  if s = sMake then thn nameR fun c => thn (sevL 1 setR) fun xs => ret (⟨0, c, 0, [], xs.map Prod.fst, []⟩, deepOf (xs.map Prod.snd))
  else if s = sModify then thn numR fun n => thn (sevL 1 setR) fun xs => ret (⟨1, [], n, [], xs.map Prod.fst, []⟩, deepOf (xs.map Prod.snd))
  else if s = sRemove then thn numR fun n => thn (nxt 1) fun _ => ret (⟨2, [], n, [], [], []⟩, 0)
  else if s = sBind then thn (nxt 9) fun t => thn exR fun x => thn (nxt 1) fun _ => ret (⟨3, [], 0, t.nm, [], [x.1]⟩, x.2)
  else if s = sWrite then thn (sevL 1 exR) fun xs => ret (⟨4, [], 0, [], [], xs.map Prod.fst⟩, deepOf (xs.map Prod.snd))
  else if s = sHalt then thn (nxt 1) fun _ => ret (⟨5, [], 0, [], [], []⟩, 0)
  else bad
theorem bodyR_is (s : Str) : thn (bodyR s) (fun x => thn (nxt 1) fun _ => ret x) = bodyP s := by
  unfold bodyR bodyP
  simp only [ite_thn]
  split
  · rw [thn_assoc]; refine thn_congr fun c => ?_
    rw [thn_assoc, ← sets_sev (fun x => ret ((⟨0, c, 0, [], x.1, []⟩ : ActD), x.2))]
    exact thn_congr fun x => ret_thn _ _
  · split
    · rw [thn_assoc]; refine thn_congr fun n => ?_
      rw [thn_assoc, ← sets_sev (fun x => ret ((⟨1, [], n, [], x.1, []⟩ : ActD), x.2))]
      exact thn_congr fun x => ret_thn _ _
    · split
      · rw [thn_assoc]; exact thn_congr fun n => ret_thn _ _
      · split
        · rw [thn_assoc]; refine thn_congr fun t => ?_
          rw [thn_assoc]; exact thn_congr fun x => ret_thn _ _
        · split
          · rw [← exprs_sev (fun x => ret ((⟨4, [], 0, [], [], x.1⟩ : ActD), x.2))]
            rw [show (fun l => thn (exprsR (l.length + 1)) (fun x => ret ((⟨4, [], 0, [], [], x.1⟩ : ActD), x.2)) l) = thn (fun l => exprsR (l.length + 1) l) (fun x => ret ((⟨4, [], 0, [], [], x.1⟩ : ActD), x.2)) from rfl, thn_assoc]
            exact thn_congr fun x => ret_thn _ _
          · split
            · rfl
            · rfl
theorem actR_is : actR = thn (nxt 0) fun _ => thn nameR bodyP := by
  unfold actR
  exact thn_congr fun _ => thn_congr fun s => bodyR_is s
theorem ruleR_is : ruleR = thn nameR fun nm => thn (somL 6 condR) fun cs => thn (sevL 1 actR) fun xs => ret (⟨nm, cs, xs.map Prod.fst⟩, deepOf (xs.map Prod.snd)) := by
  unfold ruleR
  refine thn_congr fun nm => ?_
  rw [un_sev condR_eats (fun l h => condR_at h)]
  exact thn_congr fun cs => wh_sev (by decide) actR_eats actR_no _
theorem classR_is : classR = thn nameR fun nm => thn (somL 1 nameR) fun as_ => ret ⟨nm, as_⟩ := by
  unfold classR
  exact thn_congr fun nm => un_sev nameR_eats (fun l h => nameR_at h) _
def ovA (a : AttrD) : Bool := decide (8 < a.ones.length) || decide (8 < a.tests.length)
def ovC (c : CondD) : Bool := c.attrs.any ovA || decide (6 < c.attrs.length)
def ovN {α : Type} (x : α × Nat) : Bool := decide (8 < x.2)
def ovT (x : ActD × Nat) : Bool := (decide (6 < x.1.sets.length) || decide (8 < x.1.exprs.length)) || decide (8 < x.2)
def ovR (x : RuleD × Nat) : Bool := overB x.1 || decide (8 < x.2)
def ovK (c : ClassD) : Bool := decide (6 < c.attrs.length)
theorem any_deep (l : List Nat) : (l.any fun d => decide (8 < d)) = decide (8 < deepOf l) := by
  induction l with
  | nil => rfl
  | cons a l ih =>
    rw [List.any_cons, ih]
    unfold deepOf
    rw [List.foldr_cons]
    by_cases h1 : 8 < a <;> by_cases h2 : 8 < l.foldr max 0 <;> simp [h1, h2] <;> omega
theorem any_ovN {α : Type} (l : List (α × Nat)) : l.any ovN = decide (8 < deepOf (l.map Prod.snd)) := by
  rw [← any_deep, List.any_map]; rfl
theorem ovC_is (c : CondD) : ovC c = overA c.attrs := by
  unfold ovC overA
  rw [Bool.eq_iff_iff]
  simp only [Bool.or_eq_true, List.any_eq_true, decide_eq_true_eq, ovA]
  constructor
  · rintro (⟨x, hx, h⟩ | h)
    · exact ⟨x, hx, .inr h⟩
    · cases hc : c.attrs with
      | nil => rw [hc] at h; simp at h
      | cons a l => exact ⟨a, by simp, .inl (by rw [← hc]; exact h)⟩
  · rintro ⟨x, hx, h | h⟩
    · exact .inr h
    · exact .inl ⟨x, hx, h⟩
theorem any_ovC (l : List CondD) : l.any ovC = l.any fun c => overA c.attrs := by
  congr 1; funext c; exact ovC_is c
theorem any_ovT (l : List (ActD × Nat)) : l.any ovT = (((l.map Prod.fst).any fun a => decide (6 < a.sets.length ∨ 8 < a.exprs.length)) || decide (8 < deepOf (l.map Prod.snd))) := by
  rw [← any_deep, List.any_map, List.any_map]
  induction l with
  | nil => rfl
  | cons a l ih =>
    simp only [List.any_cons, Function.comp] at ih ⊢
    rw [ih]
    unfold ovT
    by_cases h1 : 6 < a.1.sets.length <;> by_cases h2 : 8 < a.1.exprs.length <;> by_cases h3 : 8 < a.2 <;> simp [h1, h2, h3]
theorem ovR_is (nm : Str) (cs : List CondD) (xs : List (ActD × Nat)) : ovR (⟨nm, cs, xs.map Prod.fst⟩, deepOf (xs.map Prod.snd)) = ((cs.any ovC || decide (5 < cs.length)) || (xs.any ovT || decide (8 < xs.length))) := by
  unfold ovR overB
  rw [any_ovT, any_ovC]
  simp only [List.length_map]
  generalize (cs.any fun c => overA c.attrs) = a
  generalize ((xs.map Prod.fst).any fun a => decide (6 < a.sets.length ∨ 8 < a.exprs.length)) = b
  by_cases h1 : 5 < cs.length <;> by_cases h2 : 8 < xs.length <;> by_cases h3 : 8 < deepOf (xs.map Prod.snd) <;> simp [h1, h2, h3] <;> cases a <;> cases b <;> rfl
end Go.Proofs.YtdcpfnffckkfcaaGreatDoor
namespace Go.Proofs.YtdcpfnffckkfcaaGreatDoor
set_option maxRecDepth 20000
set_option maxRecDepth 20000
open Go.Lib
set_option linter.unusedVariables false
def Placed (txt : List UInt8) : Nat → List (Tk × Nat) → Prop
  | _, [] => True
  | lo, (t, p) :: rest => lo ≤ p ∧ p < txt.length ∧ (t.k ≠ 11 ∨ t.vk ≠ 1 → (txtL t).length ≤ txt.length - p ∧ (txt.drop p).take (txtL t).length = txtL t) ∧ Placed txt (p + 1) rest
theorem Placed.low {txt : List UInt8} {a b : Nat} {ts : List (Tk × Nat)} (h : Placed txt b ts) (hab : a ≤ b) : Placed txt a ts := by
  cases ts with
  | nil => trivial
  | cons x rest => obtain ⟨t, p⟩ := x; exact ⟨Nat.le_trans hab h.1, h.2⟩
end Go.Proofs.YtdcpfnffckkfcaaGreatDoor
namespace Go.Proofs.YtdcpfnffckkfcaaGreatDoor
set_option maxRecDepth 20000
open Go.Lib
set_option linter.unusedVariables false
theorem parP_ok {l : List UInt8} (h : (parP l).2 = 0) : (scanL l).2.2 = 0 ∧ (parT ((scanL l).1.map Prod.fst)).2 = 0 ∧ parP l = parT ((scanL l).1.map Prod.fst) := by
  unfold parP at h ⊢
  by_cases he : (scanL l).2.2 = 0
  · rw [if_neg (by simp [he])] at h ⊢
    exact ⟨he, h, rfl⟩
  · rw [if_pos he] at h; exact absurd h he
theorem par_two {a b : List UInt8} (h1 : (parP a).2 = 0) (h2 : (parP b).2 = 0) : parP (a ++ 10 :: b) = if 16 < (parP a).1.cs.length + (parP b).1.cs.length ∨ 16 < (parP a).1.rs.length + (parP b).1.rs.length then (p0, 21) else (⟨(parP a).1.cs ++ (parP b).1.cs, (parP a).1.rs ++ (parP b).1.rs⟩, 0) := by
  obtain ⟨a1, a2, a3⟩ := parP_ok h1
  obtain ⟨b1, b2, b3⟩ := parP_ok h2
  rw [a3, b3, ← parT_two a2 b2]
  have hst : scanL (a ++ 10 :: b) = ((scanL a).1 ++ (scanL b).1.map (sh (a.length + 1)), (if (scanL b).2.2 = 16 then (scanL b).2.1 + (a.length + 1) else (scanL b).2.1), (scanL b).2.2) := by rw [scan_two, if_neg (by rw [a1]; decide)]
  unfold parP
  rw [hst]
  dsimp only
  rw [if_neg (by simp [b1]), List.map_append, List.map_map]
  congr 2
end Go.Proofs.YtdcpfnffckkfcaaGreatDoor
