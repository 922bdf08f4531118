/- A value is read from its text, and got from its bytes: plain mathematics. -/
import Derived.Test.YtpmhilaochfpaaaDoorRh
namespace Go.Proofs.YtpmhilaochfpaaaDoor
set_option maxRecDepth 20000
open Go.RowKit
set_option linter.unusedVariables false
set_option maxRecDepth 20000

theorem sym_parts {l : List UInt8} (h : symB l = true) : wordB l = true ∧ numB l = false ∧ l ≠ nil3 := by
  unfold symB at h
  simp only [Bool.and_eq_true, Bool.not_eq_true', decide_eq_false_iff_not] at h
  exact ⟨h.1, h.2.1, h.2.2⟩
theorem itoa_dec (n : Int) : decV (Lib.itoa n) = n.natAbs := by unfold decV; rw [itoa_strip, dd_val]
theorem data_mk (l : List UInt8) : (⟨l.toArray⟩ : ByteArray).data.toList = l := by simp
theorem sg_sign (n : Int) (ys : List Int) (h0 : -1099511627776 ≤ n) (h1 : n ≤ 1099511627776) : sgdV (signL n ++ ys) 0 = n ∧ sgdE (signL n ++ ys) 0 = 0 ∧ sgdZ (signL n ++ ys) 0 = ys := by
  have hs : signL n = dig (n + 1099511627776) 6 := by unfold signL; rw [if_neg (by omega)]
  have hl : (signL n).length = 6 := by rw [hs, dig_length]
  have ht : (signL n ++ ys).take 6 = signL n := by rw [List.take_append_of_le_length (by omega), List.take_of_length_le (by omega)]
  have hv : val (signL n) = n + 1099511627776 := by rw [hs]; exact val_dig 6 _ (by omega) (by omega)
  have he : sgE (signL n ++ ys) = 0 := by unfold sgE; rw [if_neg (by rw [List.length_append]; omega), ht, hv, if_neg (by omega)]
  refine ⟨?_, ?_, ?_⟩
  · unfold sgdV sgV; rw [if_pos rfl, if_neg (by rw [List.length_append]; omega), ht, hv, if_neg (by omega)]; omega
  · unfold sgdE; rw [if_pos rfl, he]
  · unfold sgdZ; rw [if_pos ⟨rfl, he⟩, List.drop_append_of_le_length (by omega), List.drop_of_length_le (by omega)]; rfl
theorem str_bytes (s : ByteArray) : strOfNums (bytesOf s) = s := by
  unfold strOfNums bytesOf
  cases s with
  | mk d =>
    congr 1
    apply Array.toList_inj.1
    simp [Function.comp_def]
theorem tx_text (s : ByteArray) (ys : List Int) (h : s.size ≤ 255) : rtxS (textL s ++ ys) 0 = s ∧ rtxE (textL s ++ ys) 0 = 0 ∧ rtxZ (textL s ++ ys) 0 = ys := by
  have ht : textL s = (s.size : Int) :: bytesOf s := by unfold textL; rw [if_neg (by omega)]
  have hb := bytesOf_length s
  have hg : (textL s ++ ys).getD 0 0 = s.size := by rw [ht]; rfl
  have hno : ¬ (((textL s ++ ys).length : Int) < 1 + (textL s ++ ys).getD 0 0 ∨ (textL s ++ ys).length < 1) := by
    rw [hg, ht]; simp only [List.cons_append, List.length_cons, List.length_append, hb]; omega
  have he : txE (textL s ++ ys) = 0 := by unfold txE; rw [if_neg hno]
  refine ⟨?_, ?_, ?_⟩
  · unfold rtxS txS; rw [if_pos rfl, if_neg hno]
    unfold txL; rw [hg, ht]
    have : (s.size : Int).toNat = s.size := by omega
    rw [this]
    show strOfNums ((bytesOf s ++ ys).take s.size) = s
    rw [List.take_append_of_le_length (by omega), List.take_of_length_le (by omega), str_bytes]
  · unfold rtxE; rw [if_pos rfl, he]
  · unfold rtxZ; rw [if_pos ⟨rfl, he⟩, hg, ht]
    have : 1 + (s.size : Int).toNat = s.size + 1 := by omega
    rw [this]
    show (bytesOf s ++ ys).drop s.size = ys
    rw [List.drop_append_of_le_length (by omega), List.drop_of_length_le (by omega)]; rfl
/-- A value that may be is got from its bytes, whatever stands behind. -/
theorem get_put13 {k n : Int} {s : ByteArray} (h0 : 0 ≤ k) (hc : chkE k n s.data.toList = 0) (ys : List Int) : gtA (putL13 k n s ++ ys) = .tuple #[vv k n s, .int .i64 (putL13 k n s).length, .int .i64 0] := by
  obtain ⟨hk2, hn0, hn1, hn, hl, hsy⟩ := chk0 hc
  have key : ∀ zs, zs = putL13 k n s ++ ys → tkK zs = k → tkN zs = n → tkS zs = s → tkE zs = 0 → tkZ zs = ys → gtA zs = .tuple #[vv k n s, .int .i64 (putL13 k n s).length, .int .i64 0] := by
    intro zs hz e1 e2 e3 e4 e5
    rw [gt0 e4 (by rw [e1, e2, e3]; exact hc), e1, e2, e3, e5, hz, List.length_append]
    have : (((putL13 k n s).length + ys.length : Nat) : Int) - ys.length = (putL13 k n s).length := by omega
    rw [this]
  have hp := put_len k n s hc
  refine key _ rfl ?_ ?_ ?_ ?_ ?_ <;> rw [hp] <;> (try unfold tkN) <;> (try unfold tkS) <;> (try unfold tkE) <;> (try unfold tkZ)
  all_goals (try unfold tkK)
  all_goals simp only [List.cons_append, List.getD_cons_zero, List.drop_succ_cons, List.drop_zero, reduceCtorEq, if_false]
  · obtain h | h | h : k = 0 ∨ k = 1 ∨ k = 2 := by omega
    · subst h; rw [if_neg (by decide), hn (by decide)]
    · subst h; rw [if_pos rfl]; exact (sg_sign n ys hn0 hn1).1
    · subst h; rw [if_neg (by decide), hn (by decide)]
  · obtain h | h | h : k = 0 ∨ k = 1 ∨ k = 2 := by omega
    · subst h; rw [if_neg (by decide), emp_eq (hl (by decide))]
    · subst h; rw [if_neg (by decide), emp_eq (hl (by decide))]
    · subst h; rw [if_pos rfl]
      have := (sym_len (hsy rfl)).2
      rw [lenL] at this
      exact (tx_text s ys (by omega)).1
  · obtain h | h | h : k = 0 ∨ k = 1 ∨ k = 2 := by omega
    · subst h; rw [if_neg (by decide), if_neg (by decide)]
    · subst h; rw [if_pos rfl]; exact (sg_sign n ys hn0 hn1).2.1
    · subst h; rw [if_neg (by decide), if_pos rfl]
      have := (sym_len (hsy rfl)).2
      rw [lenL] at this
      exact (tx_text s ys (by omega)).2.1
  · obtain h | h | h : k = 0 ∨ k = 1 ∨ k = 2 := by omega
    · subst h; rw [if_neg (by decide), if_neg (by decide)]; rfl
    · subst h; rw [if_pos rfl]; exact (sg_sign n ys hn0 hn1).2.2
    · subst h; rw [if_neg (by decide), if_pos rfl]
      have := (sym_len (hsy rfl)).2
      rw [lenL] at this
      exact (tx_text s ys (by omega)).2.2
theorem put_pos {k n : Int} {s : ByteArray} (h0 : 0 ≤ k) (hc : chkE k n s.data.toList = 0) : 1 ≤ (putL13 k n s).length ∧ (putL13 k n s).length ≤ 30 := by
  obtain ⟨hk2, hn0, hn1, hn, hl, hsy⟩ := chk0 hc
  rw [put_len k n s hc, List.length_cons]
  refine ⟨by omega, ?_⟩
  unfold rstL
  split
  · unfold signL; rw [if_neg (by omega), dig_length]; omega
  · split
    · rename_i h1 h2
      have := (sym_len (hsy h2)).2
      rw [lenL] at this
      unfold textL; rw [if_neg (by omega), List.length_cons, bytesOf_length]; omega
    · simp
/-- One byte fewer is too few. -/
theorem get_cut13 {k n : Int} {s : ByteArray} (h0 : 0 ≤ k) (hc : chkE k n s.data.toList = 0) : gtA ((putL13 k n s).take ((putL13 k n s).length - 1)) = .tuple #[vv 0 0 ByteArray.empty, .int .i64 0, .int .i64 3] := by
  obtain ⟨hk2, hn0, hn1, hn, hl, hsy⟩ := chk0 hc
  refine gt3 ?_
  rw [put_len k n s hc]
  obtain h | h | h : k = 0 ∨ k = 1 ∨ k = 2 := by omega
  · subst h; rfl
  · subst h
    have hs : rstL 1 n s = signL n := rfl
    have hlen : (signL n).length = 6 := by unfold signL; rw [if_neg (by omega), dig_length]
    rw [hs, List.length_cons, hlen]
    show tkE (1 :: (signL n).take 5) = 3
    have ht : ((signL n).take 5).length = 5 := by rw [List.length_take, hlen]; rfl
    unfold tkE tkK
    simp only [List.getD_cons_zero, List.drop_succ_cons, List.drop_zero, reduceCtorEq, if_false, if_true]
    unfold sgdE sgE; rw [if_pos rfl, if_pos (by omega)]
  · subst h
    obtain ⟨g1, g2⟩ := sym_len (hsy rfl)
    rw [lenL] at g1 g2
    have hs : rstL 2 n s = (s.size : Int) :: bytesOf s := by show textL s = _; unfold textL; rw [if_neg (by omega)]
    obtain ⟨m, hm⟩ : ∃ m, s.size = m + 1 := ⟨s.size - 1, by omega⟩
    rw [hs, List.length_cons, List.length_cons, bytesOf_length]
    have e : s.size + 1 + 1 - 1 = m + 1 + 1 := by omega
    rw [e]
    show tkE (2 :: (s.size : Int) :: (bytesOf s).take m) = 3
    unfold tkE tkK
    simp only [List.getD_cons_zero, List.drop_succ_cons, List.drop_zero, reduceCtorEq, if_false, if_true]
    have ht : ((bytesOf s).take m).length = m := by rw [List.length_take, bytesOf_length]; omega
    rw [if_neg (by decide)]
    unfold rtxE txE; rw [if_pos rfl, if_pos]
    left
    simp only [List.length_cons, List.getD_cons_zero, ht]
    omega
theorem BV.take {w : World} {a : Option Addr} {zs : List Int} (h : BV w a zs) (m : Nat) : BV w a (zs.take m) := by
  obtain ⟨h1, h2 | ⟨b, off, e, hlt, hc⟩⟩ := h
  · exact ⟨h1.take m, .inl (by rw [h2]; simp)⟩
  · refine ⟨h1.take m, .inr ⟨b, off, e, hlt, fun i hi => ?_⟩⟩
    rw [List.length_take] at hi
    rw [hc i (by omega)]
    congr 2
    simp only [List.getD_eq_getElem?_getD, List.getElem?_take, if_pos (show i < m by omega)]
end Go.Proofs.YtpmhilaochfpaaaDoor
