/- bytesOf. -/
import Derived.Test.YtcegahmjegjckaaOf
namespace Go.Proofs.Ytcegahmjegjckaa
open Go.RowKit
set_option linter.unusedVariables false
theorem two8 (x : Nat) : (2 : Int) ^ (8 * x) = 256 ^ x := by rw [Int.pow_mul]; rfl
/-- The row behind k rounds: the lowest k bytes stand at its end. -/
def rowAt (n : Int) (x k : Nat) : List Value := List.replicate (x - k) (Value.int .u8 0) ++ (dig n k).map (Value.int .u8)
theorem rowAt_zero (n : Int) (x : Nat) : rowAt n x 0 = List.replicate x (Value.int .u8 0) := by simp [rowAt, dig]
theorem rowAt_full (n : Int) (x : Nat) : rowAt n x x = (dig n x).map (Value.int .u8) := by simp [rowAt]
theorem rowAt_set (n : Int) (x k : Nat) (h : k < x) : (rowAt n x k).set (x - 1 - k) (.int .u8 (n / 256 ^ k % 256)) = rowAt n x (k + 1) := by
  unfold rowAt
  obtain ⟨d, rfl⟩ := Nat.exists_eq_add_of_lt h
  have e1 : k + d + 1 - k = d + 1 := by omega
  have e2 : k + d + 1 - 1 - k = d := by omega
  have e3 : k + d + 1 - (k + 1) = d := by omega
  rw [e1, e2, e3, dig_cons, List.replicate_succ', List.append_assoc, List.set_append_right _ _ (by simp)]
  simp
set_option maxHeartbeats 400000 in
theorem lay_ok (n : Nat) (w : World) (_hn : n < 4294967296) :
    Calls Try.prog 35 #[.int .u32 n] w fun e w' => ∃ v, e = .returned v ∧ w'.ownsRow w.heap.size 5 1 v 4 ((dig n 4).map (Value.int .u8)) ∧ Below w.heap.size w w' := by
  obtain ⟨i0, hi, hz0, hz1, hz2⟩ := info_parts Try.info5
  go_enter Try.func35, Try.ntmps35
  go_wp2_with (at_make; refine wpList_make_full _ rfl _ _ 22 rfl w.heap.size 5 i0 (.int .u8 0) 1 Try.underlying22 hi hz0 hz1 .i64 .i64 _ _ 4 rfl rfl rfl rfl ?c2 ?c3 (Nat.le_refl _) ?_)
  case c2 => rw [hz2]; omega
  case c3 => unfold maxLen; omega
  intro w1 hown hg
  have hb1 : Below w.heap.size w w1 := (Below.refl _ _).grown hg (Nat.le_refl _) (by intro k hk; cases hk)
  have hown1 : w1.ownsRow w.heap.size 5 1 (.slice (some ⟨w.heap.size, 0, none⟩) 4 4) 4 (rowAt n 4 0) := by
    rw [toList_madeCells_one] at hown; rw [rowAt_zero]; exact hown
  clear hown hg
  go_wp2
  go_loopw [6] (fun i wr => ∃ k : Nat, k ≤ 4 ∧ i = .int .i64 k ∧ wr.ownsRow w.heap.size 5 1 (.slice (some ⟨w.heap.size, 0, none⟩) 4 4) 4 (rowAt n 4 k) ∧ Below w.heap.size w wr) (fun i _ => 4 - (intOf i).toNat)
  case atStart => exact ⟨0, Nat.zero_le _, rfl, hown1, hb1⟩
  case round =>
    obtain ⟨k, hk, rfl, hown, hb⟩ := hrel
    clear hown1 hb1
    by_cases hlt : k < 4
    · have hfz := hown.frozenAt (3 - k)
      obtain ⟨u, hu⟩ : ∃ u, wr.cell? ⟨w.heap.size, 3 - k, none⟩ = some u := by
        rw [hown.cellAt (3 - k) (by omega)]
        have : 3 - k < (rowAt n 4 k).length := by rw [hown.1]; omega
        exact ⟨_, List.getElem?_eq_getElem this⟩
      have hst := hown.stored (3 - k) (.int .u8 (n / 2 ^ (8 * k) % 256))
      have HO : Hid ((wr.setCell ⟨w.heap.size, 3 - k, none⟩ (.int .u8 (n / 2 ^ (8 * k) % 256))).ownsRow w.heap.size 5 1 (.slice (some ⟨w.heap.size, 0, none⟩) 4 4) 4 (rowAt n 4 (k + 1))) := by
        have h := hst.1
        have e := rowAt_set n 4 k hlt
        rw [← two8] at e
        rw [show 3 - k = 4 - 1 - k by omega] at h ⊢
        rw [e] at h
        exact h
      have HB : Hid (Below w.heap.size w (wr.setCell ⟨w.heap.size, 3 - k, none⟩ (.int .u8 (n / 2 ^ (8 * k) % 256)))) := hb.setCell (Nat.le_refl _) _
      clear hst hown hb
      go_wp2
      go_roundw
      case rel => exact ⟨k + 1, by omega, by go_num, HO.out, HB.out⟩
      case measure => simp [intOf]; omega
    · have : k = 4 := by omega
      subst this
      rw [rowAt_full] at hown
      go_wp2
      go_ret
      exact ⟨_, rfl, hown, hb⟩
theorem lay_any (n : Nat) (w : World) (hn : n < 4294967296) :
    Calls Try.prog 35 #[.int .u32 n] w fun e w' => ∃ v, e = .returned v ∧ Own w' w.heap.size v (dig n 4) ∧ Below w.heap.size w w' := by
  refine (lay_ok n w hn).mono ?_
  rintro e w' ⟨v, rfl, ho, hb⟩
  refine ⟨v, rfl, ?_, hb⟩
  unfold Own
  rw [dig_length]
  exact ho
end Go.Proofs.Ytcegahmjegjckaa
