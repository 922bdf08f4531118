/- Numbers among texts, seen place by place: plain mathematics. -/
import Derived.Test.YtpmhilaochfpaaaDoorWo
namespace Go.Proofs.YtpmhilaochfpaaaDoor
set_option maxRecDepth 20000
set_option maxRecDepth 20000
set_option maxRecDepth 20000
set_option maxRecDepth 20000
set_option maxRecDepth 20000
open Go.Lib
set_option maxRecDepth 100000
set_option linter.unusedVariables false

theorem dn_hi (n b0 b1 b2 b3 : Nat) (h : 128 ≤ b0) : 128 ≤ (decodeN n b0 b1 b2 b3).1 := by
  unfold decodeN
  repeat' split
  all_goals first | (exfalso; omega) | (simp only; omega)
theorem dn_le (n b0 b1 b2 b3 : Nat) (h : 1 ≤ n) : (decodeN n b0 b1 b2 b3).2 ≤ n := by
  unfold decodeN
  repeat' split
  all_goals first | (exfalso; omega) | (simp only; omega)
theorem dl_le (l : List UInt8) (h : l ≠ []) : (decodeL l).2 ≤ l.length := by
  rw [decodeL_N]; exact dn_le _ _ _ _ _ (List.length_pos_iff.2 h)
theorem dec_hi (s : ByteArray) (pos : Nat) (h : 128 ≤ (s.data.toList.getD pos 0).toNat) : 128 ≤ (Utf8.decode s pos).1 := by
  rw [← decodeL_drop, decodeL_N]
  refine dn_hi _ _ _ _ _ ?_
  simpa [List.getD] using h
theorem dec_lo (s : ByteArray) (pos : Nat) (hp : pos < s.size) (h : (s.data.toList.getD pos 0).toNat < 128) : Utf8.decode s pos = ((s.data.toList.getD pos 0).toNat, 1) := by
  rw [← decodeL_drop, decodeL_N]
  have e : (s.data.toList.drop pos).getD 0 0 = s.data.toList.getD pos 0 := by simp [List.getD]
  rw [e]; exact rr1 _ _ _ _ _ h

def cnt (l : List UInt8) (k : Nat) : Nat := k - (if isSg (l.getD 0 0) then 1 else 0)
def goodTo (l : List UInt8) (k : Nat) : Prop := ∀ j, j < k → isDig (l.getD j 0) = true ∨ (j = 0 ∧ isSg (l.getD 0 0) = true)
theorem sg_dig {b : UInt8} (h : isSg b = true) : isDig b = false := by
  simp only [isSg, isDig, decide_eq_true_eq, decide_eq_false_iff_not] at *; omega
theorem strip_sg {l : List UInt8} (h : isSg (l.getD 0 0) = true) : strip l = l.drop 1 := by
  cases l with
  | nil => rfl
  | cons c r => simp only [List.getD_cons_zero] at h; simp [strip, h]
theorem strip_no {l : List UInt8} (h : isSg (l.getD 0 0) = false) : strip l = l := by
  cases l with
  | nil => rfl
  | cons c r => simp only [List.getD_cons_zero] at h; simp [strip, h]
theorem all_getD (l : List UInt8) : l.all isDig = true ↔ ∀ j, j < l.length → isDig (l.getD j 0) = true := by
  rw [List.all_eq_true]
  constructor
  · intro h j hj
    have : l.getD j 0 = l[j] := by simp [List.getD, hj]
    rw [this]; exact h _ (List.getElem_mem hj)
  · intro h x hx
    obtain ⟨j, hj, rfl⟩ := List.getElem_of_mem hx
    have := h j hj
    simpa [List.getD, hj] using this
theorem getD_drop1 (l : List UInt8) (j : Nat) : (l.drop 1).getD j 0 = l.getD (1 + j) 0 := by simp [List.getD, Nat.add_comm]
theorem nb_iff (l : List UInt8) : numB l = true ↔ strip l ≠ [] ∧ ∀ j, j < (strip l).length → isDig ((strip l).getD j 0) = true := by
  unfold numB
  rw [Bool.and_eq_true, all_getD]
  simp
theorem nb_end (l : List UInt8) (h : goodTo l l.length) : numB l = decide (0 < cnt l l.length) := by
  rw [Bool.eq_iff_iff, nb_iff, decide_eq_true_eq]
  unfold cnt
  by_cases hs : isSg (l.getD 0 0) = true
  · rw [strip_sg hs, if_pos hs]
    constructor
    · rintro ⟨h1, _⟩
      have := List.length_pos_iff.2 h1; simp at this; omega
    · intro h1
      refine ⟨fun e => ?_, fun j hj => ?_⟩
      · have := congrArg List.length e; simp at this; omega
      · rw [getD_drop1]; simp at hj
        rcases h (1 + j) (by omega) with h2 | h2
        · exact h2
        · omega
  · simp only [Bool.not_eq_true] at hs
    rw [strip_no hs]; simp only [hs]
    constructor
    · rintro ⟨h1, _⟩
      have := List.length_pos_iff.2 h1; simp; omega
    · intro h1
      refine ⟨fun e => ?_, fun j hj => ?_⟩
      · rw [e] at h1; simp at h1
      · rcases h j hj with h2 | ⟨_, h2⟩
        · exact h2
        · rw [hs] at h2; cases h2
theorem nb_no (l : List UInt8) (k : Nat) (hk : k < l.length) (h : isDig (l.getD k 0) = false) (h0 : ¬ (k = 0 ∧ isSg (l.getD 0 0) = true)) : numB l = false := by
  rw [Bool.eq_false_iff]
  intro hn
  obtain ⟨h1, h2⟩ := (nb_iff l).1 hn
  by_cases hs : isSg (l.getD 0 0) = true
  · rw [strip_sg hs] at h2
    have hk0 : k ≠ 0 := fun e => h0 ⟨e, hs⟩
    have := h2 (k - 1) (by simp; omega)
    rw [getD_drop1, show 1 + (k - 1) = k by omega, h] at this
    cases this
  · simp only [Bool.not_eq_true] at hs
    rw [strip_no hs] at h2
    have := h2 k hk
    rw [h] at this; cases this
theorem nb_good (l : List UInt8) (h : numB l = true) : goodTo l l.length := by
  intro j hj
  by_cases hd : isDig (l.getD j 0) = true
  · exact .inl hd
  · by_cases h0 : j = 0 ∧ isSg (l.getD 0 0) = true
    · exact .inr h0
    · have := nb_no l j hj (by simpa using hd) h0
      rw [h] at this; cases this
/-- What is read of the first k bytes. -/
def sv (l : List UInt8) (k : Nat) : Nat := satA 0 (strip (l.take k))
theorem take_getD (l : List UInt8) (k : Nat) (h : k < l.length) : l.take (k + 1) = l.take k ++ [l.getD k 0] := by
  rw [List.take_add_one]; simp [List.getD, h]
theorem sv_zero (l : List UInt8) : sv l 0 = 0 := by simp [sv, strip, satA]
theorem sv_sg (l : List UInt8) (h : 0 < l.length) (hs : isSg (l.getD 0 0) = true) : sv l 1 = 0 := by
  unfold sv
  cases l with
  | nil => simp at h
  | cons c r => simp only [List.getD_cons_zero] at hs; simp [strip, hs, satA]
theorem sv_step (l : List UInt8) (k : Nat) (hk : k < l.length) (hd : isDig (l.getD k 0) = true) : sv l (k + 1) = min (10 * sv l k + ((l.getD k 0).toNat - 48)) 1099511627777 := by
  unfold sv
  rw [take_getD l k hk, ← satA_snoc]
  congr 1
  cases k with
  | zero =>
    have : isSg (l.getD 0 0) = false := by
      rw [Bool.eq_false_iff]; intro e; rw [sg_dig e] at hd; cases hd
    simp [strip]; simpa using this
  | succ k =>
    cases l with
    | nil => simp at hk
    | cons c r =>
      simp only [List.take_succ_cons, List.cons_append]
      by_cases hc : isSg c = true <;> simp [strip, hc]
theorem sv_le (l : List UInt8) (k : Nat) : sv l k ≤ 1099511627777 := satA_le _
theorem sv_full (l : List UInt8) : sv l l.length = min (decV l) 1099511627777 := by unfold sv decV; rw [List.take_length, sat_dec]
end Go.Proofs.YtpmhilaochfpaaaDoor
