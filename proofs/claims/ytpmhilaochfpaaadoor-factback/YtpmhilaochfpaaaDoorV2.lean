import Derived.Lib.ValidLaws
import Derived.Lib.AtoiAllCases
import Derived.Lib.ItoaLen
import Derived.Lib.ItoaNum
namespace Go.Proofs.YtpmhilaochfpaaaDoor
set_option maxRecDepth 20000
set_option maxRecDepth 20000
set_option maxRecDepth 20000
set_option maxRecDepth 20000
set_option maxRecDepth 20000
open Go.Lib
def stands (c : Nat) : Bool := decide (128 ≤ c ∨ (97 ≤ c ∧ c ≤ 122) ∨ (65 ≤ c ∧ c ≤ 90) ∨ (48 ≤ c ∧ c ≤ 57) ∨ c = 95 ∨ c = 45 ∨ c = 63 ∨ c = 33 ∨ c = 43 ∨ c = 42 ∨ c = 46)
def badR (l : List UInt8) : Bool := decide ((decodeL l).1 = 65533 ∧ (decodeL l).2 = 1)
def allGo : Nat → List UInt8 → Bool
  | 0, _ => true
  | n + 1, l => if l = [] then true else stands (decodeL l).1 && allGo n (l.drop (decodeL l).2)
def allR (l : List UInt8) : Bool := allGo l.length l
def okGo : Nat → List UInt8 → Bool
  | 0, _ => true
  | n + 1, l => if l = [] then true else !badR l && (stands (decodeL l).1 && okGo n (l.drop (decodeL l).2))
def okR (l : List UInt8) : Bool := okGo l.length l
def wordB (l : List UInt8) : Bool := decide (1 ≤ l.length ∧ l.length ≤ 24) && okR l

theorem drop_lt (l : List UInt8) (h : l ≠ []) : (l.drop (decodeL l).2).length < l.length := by
  have := decodeL_width l
  have hl : 0 < l.length := List.length_pos_iff.2 h
  rw [List.length_drop]; omega
theorem allGo_nil : ∀ n, allGo n [] = true
  | 0 => rfl
  | _ + 1 => by simp [allGo]
theorem okGo_nil : ∀ n, okGo n [] = true
  | 0 => rfl
  | _ + 1 => by simp [okGo]
theorem allGo_fuel : ∀ (n m : Nat) (l : List UInt8), l.length ≤ n → l.length ≤ m → allGo n l = allGo m l
  | 0, m, l, hn, _ => by
    have : l = [] := List.eq_nil_of_length_eq_zero (by omega)
    subst this; rw [allGo_nil, allGo_nil]
  | n + 1, 0, l, _, hm => by
    have : l = [] := List.eq_nil_of_length_eq_zero (by omega)
    subst this; rw [allGo_nil, allGo_nil]
  | n + 1, m + 1, l, hn, hm => by
    unfold allGo
    by_cases hne : l = []
    · simp [hne]
    · have hd := drop_lt l hne
      rw [if_neg hne, if_neg hne, allGo_fuel n m _ (by omega) (by omega)]
theorem okGo_fuel : ∀ (n m : Nat) (l : List UInt8), l.length ≤ n → l.length ≤ m → okGo n l = okGo m l
  | 0, m, l, hn, _ => by
    have : l = [] := List.eq_nil_of_length_eq_zero (by omega)
    subst this; rw [okGo_nil, okGo_nil]
  | n + 1, 0, l, _, hm => by
    have : l = [] := List.eq_nil_of_length_eq_zero (by omega)
    subst this; rw [okGo_nil, okGo_nil]
  | n + 1, m + 1, l, hn, hm => by
    unfold okGo
    by_cases hne : l = []
    · simp [hne]
    · have hd := drop_lt l hne
      rw [if_neg hne, if_neg hne, okGo_fuel n m _ (by omega) (by omega)]
theorem allR_step (l : List UInt8) (hne : l ≠ []) : allR l = (stands (decodeL l).1 && allR (l.drop (decodeL l).2)) := by
  have hd := drop_lt l hne
  obtain ⟨n, hn⟩ : ∃ n, l.length = n + 1 := ⟨l.length - 1, by have := List.length_pos_iff.2 hne; omega⟩
  unfold allR; rw [hn]
  show (if l = [] then true else _) = _
  rw [if_neg hne, allGo_fuel n _ _ (by omega) (Nat.le_refl _)]
theorem okR_step (l : List UInt8) (hne : l ≠ []) : okR l = (!badR l && (stands (decodeL l).1 && okR (l.drop (decodeL l).2))) := by
  have hd := drop_lt l hne
  obtain ⟨n, hn⟩ : ∃ n, l.length = n + 1 := ⟨l.length - 1, by have := List.length_pos_iff.2 hne; omega⟩
  unfold okR; rw [hn]
  show (if l = [] then true else _) = _
  rw [if_neg hne, okGo_fuel n _ _ (by omega) (Nat.le_refl _)]
theorem okR_eq : ∀ (n : Nat) (l : List UInt8), l.length ≤ n → okR l = (validD l && allR l)
  | 0, l, h => by
    have : l = [] := List.eq_nil_of_length_eq_zero (by omega)
    subst this; rfl
  | n + 1, l, h => by
    by_cases hne : l = []
    · subst hne; rfl
    · have hd := drop_lt l hne
      rw [okR_step l hne, validD_step l hne, allR_step l hne, okR_eq n _ (by omega)]
      unfold badR
      by_cases hb : (decodeL l).1 = 65533 ∧ (decodeL l).2 = 1
      · rw [if_pos hb, decide_eq_true hb]; rfl
      · rw [if_neg hb, decide_eq_false hb]
        cases stands (decodeL l).1 <;> cases validD (l.drop (decodeL l).2) <;> rfl
theorem okR_is (l : List UInt8) : okR l = (validD l && allR l) := okR_eq l.length l (Nat.le_refl _)

theorem rr1 (n b0 b1 b2 b3 : Nat) (h : b0 < 128) : decodeN n b0 b1 b2 b3 = (b0, 1) := by unfold decodeN; rw [if_pos h]
theorem rr0 (n b0 b1 b2 b3 : Nat) (h : 128 ≤ b0) (h' : b0 < 194 ∨ 245 ≤ b0) (hb : b0 < 256) : decodeN n b0 b1 b2 b3 = (65533, 1) := decodeN_bad n b0 b1 b2 b3 (by omega)
set_option maxRecDepth 100000 in
set_option maxHeartbeats 4000000 in
theorem rr2 (n b0 b1 b2 b3 : Nat) (h : 194 ≤ b0) (h' : b0 < 224) (h1 : b1 < 256) : decodeN n b0 b1 b2 b3 = if n < 2 ∨ b1 < 128 ∨ 191 < b1 then (65533, 1) else (64 * (b0 - 192) + (b1 - 128), 2) := by
  unfold decodeN
  repeat' split
  all_goals first | rfl | (exfalso; omega) | (apply Prod.ext <;> simp only <;> omega)
set_option maxRecDepth 100000 in
set_option maxHeartbeats 4000000 in
theorem rr3 (n b0 b1 b2 b3 : Nat) (h : 224 ≤ b0) (h' : b0 < 240) (h1 : b1 < 256) (h2 : b2 < 256) : decodeN n b0 b1 b2 b3 = if n < 3 ∨ b1 < 128 ∨ 191 < b1 ∨ b2 < 128 ∨ 191 < b2 ∨ 64 * (64 * (b0 - 224) + (b1 - 128)) + (b2 - 128) < 2048 ∨ (55296 ≤ 64 * (64 * (b0 - 224) + (b1 - 128)) + (b2 - 128) ∧ 64 * (64 * (b0 - 224) + (b1 - 128)) + (b2 - 128) < 57344) then (65533, 1) else (64 * (64 * (b0 - 224) + (b1 - 128)) + (b2 - 128), 3) := by
  unfold decodeN
  repeat' split
  all_goals first | rfl | (exfalso; omega) | (apply Prod.ext <;> simp only <;> omega)
set_option maxRecDepth 100000 in
set_option maxHeartbeats 4000000 in
theorem rr4 (n b0 b1 b2 b3 : Nat) (h : 240 ≤ b0) (h' : b0 < 245) (h1 : b1 < 256) (h2 : b2 < 256) (h3 : b3 < 256) : decodeN n b0 b1 b2 b3 = if n < 4 ∨ b1 < 128 ∨ 191 < b1 ∨ b2 < 128 ∨ 191 < b2 ∨ b3 < 128 ∨ 191 < b3 ∨ 64 * (64 * (64 * (b0 - 240) + (b1 - 128)) + (b2 - 128)) + (b3 - 128) < 65536 ∨ 1114111 < 64 * (64 * (64 * (b0 - 240) + (b1 - 128)) + (b2 - 128)) + (b3 - 128) then (65533, 1) else (64 * (64 * (64 * (b0 - 240) + (b1 - 128)) + (b2 - 128)) + (b3 - 128), 4) := by
  unfold decodeN
  repeat' split
  all_goals first | rfl | (exfalso; omega) | (apply Prod.ext <;> simp only <;> omega)
def runeR (l : List UInt8) : Nat × Nat := if badR l then (0, 0) else decodeL l

def isDig (b : UInt8) : Bool := decide (48 ≤ b.toNat ∧ b.toNat ≤ 57)
def isSg (b : UInt8) : Bool := decide (b.toNat = 45 ∨ b.toNat = 43)
def strip : List UInt8 → List UInt8
  | [] => []
  | c :: r => if isSg c then r else c :: r
def numB (l : List UInt8) : Bool := !(strip l).isEmpty && (strip l).all isDig
def nil3 : List UInt8 := [110, 105, 108]
def satA (a : Nat) (l : List UInt8) : Nat := l.foldl (fun n b => min (10 * n + (b.toNat - 48)) 1099511627777) a
end Go.Proofs.YtpmhilaochfpaaaDoor
namespace Go.Proofs.YtpmhilaochfpaaaDoor
set_option maxRecDepth 20000
set_option maxRecDepth 20000
set_option maxRecDepth 20000
set_option maxRecDepth 20000
set_option maxRecDepth 20000
open Go.Lib
set_option maxRecDepth 100000
set_option linter.unusedVariables false
theorem dn_hi (n b0 b1 b2 b3 : Nat) (h : 128 ≤ b0) : 128 ≤ (decodeN n b0 b1 b2 b3).1 := by
  unfold decodeN
  repeat' split
  all_goals first | (exfalso; omega) | (simp only; omega)
theorem dn_le (n b0 b1 b2 b3 : Nat) (h : 1 ≤ n) : (decodeN n b0 b1 b2 b3).2 ≤ n := by
  unfold decodeN
  repeat' split
  all_goals first | (exfalso; omega) | (simp only; omega)
theorem dl_le (l : List UInt8) (h : l ≠ []) : (decodeL l).2 ≤ l.length := by
  rw [decodeL_N]; exact dn_le _ _ _ _ _ (List.length_pos_iff.2 h)
theorem dec_hi (s : ByteArray) (pos : Nat) (h : 128 ≤ (s.data.toList.getD pos 0).toNat) : 128 ≤ (Utf8.decode s pos).1 := by
  rw [← decodeL_drop, decodeL_N]
  refine dn_hi _ _ _ _ _ ?_
  simpa [List.getD] using h
theorem dec_lo (s : ByteArray) (pos : Nat) (hp : pos < s.size) (h : (s.data.toList.getD pos 0).toNat < 128) : Utf8.decode s pos = ((s.data.toList.getD pos 0).toNat, 1) := by
  rw [← decodeL_drop, decodeL_N]
  have e : (s.data.toList.drop pos).getD 0 0 = s.data.toList.getD pos 0 := by simp [List.getD]
  rw [e]; exact rr1 _ _ _ _ _ h

def cnt (l : List UInt8) (k : Nat) : Nat := k - (if isSg (l.getD 0 0) then 1 else 0)
def goodTo (l : List UInt8) (k : Nat) : Prop := ∀ j, j < k → isDig (l.getD j 0) = true ∨ (j = 0 ∧ isSg (l.getD 0 0) = true)
theorem strip_sg {l : List UInt8} (h : isSg (l.getD 0 0) = true) : strip l = l.drop 1 := by
  cases l with
  | nil => rfl
  | cons c r => simp only [List.getD_cons_zero] at h; simp [strip, h]
theorem strip_no {l : List UInt8} (h : isSg (l.getD 0 0) = false) : strip l = l := by
  cases l with
  | nil => rfl
  | cons c r => simp only [List.getD_cons_zero] at h; simp [strip, h]
theorem all_getD (l : List UInt8) : l.all isDig = true ↔ ∀ j, j < l.length → isDig (l.getD j 0) = true := by
  rw [List.all_eq_true]
  constructor
  · intro h j hj
    have : l.getD j 0 = l[j] := by simp [List.getD, hj]
    rw [this]; exact h _ (List.getElem_mem hj)
  · intro h x hx
    obtain ⟨j, hj, rfl⟩ := List.getElem_of_mem hx
    have := h j hj
    simpa [List.getD, hj] using this
theorem getD_drop1 (l : List UInt8) (j : Nat) : (l.drop 1).getD j 0 = l.getD (1 + j) 0 := by simp [List.getD, Nat.add_comm]
theorem nb_iff (l : List UInt8) : numB l = true ↔ strip l ≠ [] ∧ ∀ j, j < (strip l).length → isDig ((strip l).getD j 0) = true := by
  unfold numB
  rw [Bool.and_eq_true, all_getD]
  simp
theorem nb_end (l : List UInt8) (h : goodTo l l.length) : numB l = decide (0 < cnt l l.length) := by
  rw [Bool.eq_iff_iff, nb_iff, decide_eq_true_eq]
  unfold cnt
  by_cases hs : isSg (l.getD 0 0) = true
  · rw [strip_sg hs, if_pos hs]
    constructor
    · rintro ⟨h1, _⟩
      have := List.length_pos_iff.2 h1; simp at this; omega
    · intro h1
      refine ⟨fun e => ?_, fun j hj => ?_⟩
      · have := congrArg List.length e; simp at this; omega
      · rw [getD_drop1]; simp at hj
        rcases h (1 + j) (by omega) with h2 | h2
        · exact h2
        · omega
  · simp only [Bool.not_eq_true] at hs
    rw [strip_no hs]; simp only [hs]
    constructor
    · rintro ⟨h1, _⟩
      have := List.length_pos_iff.2 h1; simp; omega
    · intro h1
      refine ⟨fun e => ?_, fun j hj => ?_⟩
      · rw [e] at h1; simp at h1
      · rcases h j hj with h2 | ⟨_, h2⟩
        · exact h2
        · rw [hs] at h2; cases h2
theorem nb_no (l : List UInt8) (k : Nat) (hk : k < l.length) (h : isDig (l.getD k 0) = false) (h0 : ¬ (k = 0 ∧ isSg (l.getD 0 0) = true)) : numB l = false := by
  rw [Bool.eq_false_iff]
  intro hn
  obtain ⟨h1, h2⟩ := (nb_iff l).1 hn
  by_cases hs : isSg (l.getD 0 0) = true
  · rw [strip_sg hs] at h2
    have hk0 : k ≠ 0 := fun e => h0 ⟨e, hs⟩
    have := h2 (k - 1) (by simp; omega)
    rw [getD_drop1, show 1 + (k - 1) = k by omega, h] at this
    cases this
  · simp only [Bool.not_eq_true] at hs
    rw [strip_no hs] at h2
    have := h2 k hk
    rw [h] at this; cases this
def sv (l : List UInt8) (k : Nat) : Nat := satA 0 (strip (l.take k))
end Go.Proofs.YtpmhilaochfpaaaDoor
