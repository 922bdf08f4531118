import Derived.Test.YtbbjhiijialfoaaDoorTd
import Derived.Test.YtbbjhiijialfoaaDoorWd
import Derived.Deep.LoopGhost
namespace Go.Proofs.YtbbjhiijialfoaaDoor
set_option maxRecDepth 20000
set_option maxRecDepth 20000
open Go.RowKit
set_option linter.unusedVariables false
set_option linter.unusedSimpArgs false
set_option maxRecDepth 20000
set_option maxHeartbeats 1000000 in
theorem told_pos (n0 : Nat) (w : World) (h : n0 ≤ 1099511627776) :
    Calls Tryd.prog 50 #[.int .i64 n0] w fun e w' => e = .returned (.string ⟨(Lib.decDigits n0).toArray⟩) ∧ w' = w := by
  go_enter Tryd.func50, Tryd.ntmps50
  go_wp2_with fail
  go_loopg [0, 3] (n0 + 2) (fun gk n v wx => wx = w ∧ ∃ (m : Nat) (t : ByteArray), n = .int .i64 m ∧ v = .string t ∧ m ≤ n0 ∧ ((t = ByteArray.empty ∧ m = n0 ∧ m + 1 < gk) ∨ (0 < t.size ∧ Lib.decDigits n0 = dd m ++ t.data.toList ∧ m < gk)))
  case atStart => exact ⟨rfl, n0, ByteArray.empty, rfl, rfl, Nat.le_refl _, .inl ⟨rfl, rfl, by omega⟩⟩
  case round =>
    obtain ⟨hwx, m, t, rfl, rfl, hm, hst⟩ := hrel
    subst hwx
    have HM : Hid (Lib.decDigits n0 = dd n0 ∨ n0 = 0) := by
      by_cases h0 : n0 = 0
      · exact .inr h0
      · exact .inl (dd_pos _ h0).symm
    by_cases h0 : 0 < m
    · have h0z : (0 : Int) < m := by omega
      have hm9 : (m : Int) ≤ 1099511627776 := by omega
      have hst2 : Lib.decDigits n0 = dd m ++ t.data.toList ∧ m < gk := by
        rcases hst with ⟨rfl, rfl, hg⟩ | ⟨_, h2, h3⟩
        · exact ⟨by rcases HM.out with h | h; · rw [h]; simp
                    · omega, by omega⟩
        · exact ⟨h2, h3⟩
      obtain ⟨he, hg⟩ := hst2
      have hl := dd_len n0 m _ h he
      rw [lenL] at hl
      have hno : ¬ 9223372036854775807 < min (m % 10 + 1) 10 - m % 10 + t.size := by omega
      have HE : Hid (Lib.decDigits n0 = dd (m / 10) ++ (UInt8.ofNat (48 + m % 10) :: t.data.toList)) := by
        show Lib.decDigits n0 = _
        rw [he, dd_step m (by omega), List.append_assoc]; rfl
      clear he hst
      obtain ⟨g', rfl⟩ : ∃ g', gk = g' + 1 := ⟨gk - 1, by omega⟩
      go_wp2_with fail
      go_roundg g'
      case measure => omega
      case rel => exact ⟨rfl, m / 10, _, by go_num, rfl, by omega, .inr ⟨by rw [dg_size]; omega, by rw [dg_app]; exact HE.out, by omega⟩⟩
    · have h0z : ¬ (0 : Int) < m := by omega
      rcases hst with ⟨rfl, rfl, hg⟩ | ⟨hp, he, hg⟩
      · obtain rfl : m = 0 := by omega
        clear h0 h0z HM
        obtain ⟨g', rfl⟩ : ∃ g', gk = g' + 1 := ⟨gk - 1, by omega⟩
        go_wp2_with fail
        go_roundg g'
        case measure => omega
        case rel => exact ⟨rfl, 0, _, rfl, rfl, by omega, .inr ⟨by decide, by decide +kernel, by omega⟩⟩
      · have hz : m = 0 := by omega
        have HE : Hid (t.data.toList = Lib.decDigits n0) := by show _ = _; rw [he, hz]; rfl
        have hemp : t.toList.isEmpty = false := by
          rw [Go.ByteArray.toList_eq, Bool.eq_false_iff]; intro e
          have := lenL t; rw [List.isEmpty_iff.1 e] at this; simp at this; omega
        clear he hz HM h0
        go_wp2_with fail
        go_ret
        exact ⟨ret_str (str_is HE.out), rfl⟩
set_option maxHeartbeats 1000000 in
theorem told_any (n : Int) (w : World) (h0 : -1099511627776 ≤ n) (h1 : n ≤ 1099511627776) :
    Calls Tryd.prog 50 #[.int .i64 n] w fun e w' => e = .returned (.string ⟨(Lib.itoa n).toArray⟩) ∧ w' = w := by
  unfold Lib.itoa
  by_cases hn : n < 0
  · rw [if_pos hn]
    have C := told_pos n.natAbs w (by omega)
    rw [show ((n.natAbs : Nat) : Int) = -n by omega] at C
    have hl : (Lib.decDigits n.natAbs).length ≤ 21 := by
      have := Lib.itoa_length_le n (by omega) (by omega)
      unfold Lib.itoa at this; rw [if_pos hn, List.length_cons] at this; omega
    have hz : ((⟨(Lib.decDigits n.natAbs).toArray⟩ : ByteArray)).size ≤ 21 := by rw [← lenL]; simpa using hl
    obtain ⟨t, ht⟩ : ∃ t : ByteArray, t = ⟨(Lib.decDigits n.natAbs).toArray⟩ := ⟨_, rfl⟩
    rw [← ht] at C hz
    have HT : Hid ((⟨#[45]⟩ : ByteArray) ++ t = ⟨(45 :: Lib.decDigits n.natAbs).toArray⟩) := by
      show _ = _
      apply str_is
      rw [ByteArray.data_append, Array.toList_append, ht]; simp
    have hno : ¬ 9223372036854775807 < 1 + t.size := by omega
    clear hl ht
    go_enter Tryd.func50, Tryd.ntmps50
    go_wp2_with (go_at_call 50; refine C.mono ?_; rintro e w' ⟨rfl, hw⟩; obtain rfl := hw.symm; clear C)
    go_ret
    exact ⟨ret_str HT.out, rfl⟩
  · rw [if_neg hn]
    have C := told_pos n.toNat w (by omega)
    rw [show ((n.toNat : Nat) : Int) = n by omega] at C
    exact C
end Go.Proofs.YtbbjhiijialfoaaDoor
