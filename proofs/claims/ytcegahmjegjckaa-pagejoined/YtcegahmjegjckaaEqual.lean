/- slices.Equal of bytes. -/
import Derived.Test.YtcegahmjegjckaaSeal2
import Derived.Deep.QuietTactic
import Derived.BigQuiet
namespace Go.Proofs.Ytcegahmjegjckaa
open Go.RowKit
set_option linter.unusedVariables false
set_option maxHeartbeats 400000 in
theorem equal_len (a b : Option Addr) (n m c d : Nat) (w : World) (h : n ≠ m) :
    Calls Try.prog 39 #[.slice a n c, .slice b m d] w fun e w' => e = .returned (.bool false) ∧ w' = w := by
  have hd : ((n : Int) == (m : Int)) = false := by simp; omega
  go_enter Try.func39, Try.ntmps39
  go_wp2
  go_ret
  exact ⟨rfl, rfl⟩
set_option maxHeartbeats 400000 in
theorem equal_zero (a b : Option Addr) (c d : Nat) (w : World) :
    Calls Try.prog 39 #[.slice a 0 c, .slice b 0 d] w fun e w' => e = .returned (.bool true) ∧ w' = w := by
  go_enter Try.func39, Try.ntmps39
  go_wp2
  go_loop [13] (fun i => i = .int .i64 0) (fun _ => 0)
  case atStart => rfl
  case round =>
    obtain rfl := hrel
    go_wp2
    go_ret
    exact ⟨rfl, rfl⟩
theorem take_eq {xs ys : List Int} (h : xs.length = ys.length) (k : Nat) (hk : k < xs.length) (ht : xs.take k = ys.take k) (he : xs.getD k 0 = ys.getD k 0) : xs.take (k + 1) = ys.take (k + 1) := by
  rw [take_snoc xs k hk, take_snoc ys k (by omega), ht, he]
theorem below_drewN {n : Nat} {w w' : World} (h : Below n w w') : ∀ k, Below n w (w'.drewN k)
  | 0 => h
  | k + 1 => (below_drewN h k).drew
set_option maxHeartbeats 400000 in
theorem equal_ok (g off g2 off2 n c d : Nat) (xs ys : List Int) (w : World) (ha : xs.length = n) (hb : ys.length = n) (hn : n ≤ 9223372036854775807) (hg : g < w.heap.size) (hg2 : g2 < w.heap.size)
    (hca : ∀ i, i < xs.length → w.cell? ⟨g, off + i, none⟩ = some (.int .u8 (xs.getD i 0))) (hcb : ∀ i, i < ys.length → w.cell? ⟨g2, off2 + i, none⟩ = some (.int .u8 (ys.getD i 0))) :
    Calls Try.prog 39 #[.slice (some ⟨g, off, none⟩) n c, .slice (some ⟨g2, off2, none⟩) n d] w fun e w' => e = .returned (.bool (decide (xs = ys))) ∧ Below w.heap.size w w' := by
  have HA : Hid (xs.length = n) := ha
  have HB : Hid (ys.length = n) := hb
  clear ha hb
  go_enter Try.func39, Try.ntmps39
  go_wp2
  go_loopw [13] (fun i wr => ∃ k : Nat, k ≤ n ∧ i = .int .i64 k ∧ xs.take k = ys.take k ∧ Below w.heap.size w wr) (fun i _ => n - (intOf i).toNat)
  case atStart => exact ⟨0, Nat.zero_le _, rfl, rfl, Below.refl _ _⟩
  case round =>
    obtain ⟨k, hk, rfl, ht, hbl⟩ := hrel
    by_cases hlt : k < n
    · have hx := (hbl.cell (p := ⟨g, off + k, none⟩) hg).trans (hca k (by have := HA.out; omega))
      have hy := (hbl.cell (p := ⟨g2, off2 + k, none⟩) hg2).trans (hcb k (by have := HB.out; omega))
      have HT : Hid (xs.take k = ys.take k) := ht
      clear ht
      by_cases he : xs.getD k 0 = ys.getD k 0
      · have HN : Hid (xs.take (k + 1) = ys.take (k + 1)) := take_eq (by rw [HA.out, HB.out]) k (by rw [HA.out]; exact hlt) HT.out he
        rw [← he] at hy
        clear he HT
        have HBL : Hid (Below w.heap.size w wr) := hbl
        clear hbl
        generalize xs.getD k 0 = x at *
        go_wp2_with fail
        go_quiet (fail)
        go_wp2
        go_roundw
        case rel => exact ⟨k + 1, by omega, by go_num, HN.out, below_drewN HBL.out _⟩
        case measure => simp [intOf]; omega
      · have HNE : Hid (decide (xs = ys) = false) := by
          have hne : xs ≠ ys := by rintro rfl; exact he rfl
          simpa [Hid] using hne
        have hq : (xs.getD k 0 == ys.getD k 0) = false := by simpa using he
        have HBL : Hid (Below w.heap.size w wr) := hbl
        clear he HT hbl
        generalize xs.getD k 0 = x at *
        generalize ys.getD k 0 = y at *
        go_wp2_with fail
        go_quiet (fail)
        go_wp2
        go_ret
        exact ⟨by rw [HNE.out]; rfl, below_drewN HBL.out _⟩
    · have : k = n := by omega
      subst this
      have he : xs = ys := by
        have h1 := HA.out
        have h2 := HB.out
        rwa [List.take_of_length_le (by omega), List.take_of_length_le (by omega)] at ht
      have HD : Hid (decide (xs = ys) = true) := by simpa [Hid] using he
      clear he ht
      go_wp2
      go_ret
      exact ⟨by rw [HD.out]; rfl, hbl⟩
theorem equal_any (a b : Option Addr) (n m c d : Nat) (xs ys : List Int) (w : World) (ha : xs.length = n) (hb : ys.length = m) (hn : n ≤ 9223372036854775807) (hva : BV w a xs) (hvb : BV w b ys) :
    Calls Try.prog 39 #[.slice a n c, .slice b m d] w fun e w' => e = .returned (.bool (decide (xs = ys))) ∧ Below w.heap.size w w' := by
  by_cases h : n = m
  · subst h
    obtain ⟨_, rfl | ⟨g, off, rfl, hg, hca⟩⟩ := hva
    · subst ha
      obtain rfl := List.eq_nil_of_length_eq_zero hb
      exact (equal_zero a b c d w).mono fun e w' h => ⟨h.1, by rw [h.2]; exact Below.refl _ _⟩
    · obtain ⟨_, rfl | ⟨g2, off2, rfl, hg2, hcb⟩⟩ := hvb
      · subst hb
        obtain rfl := List.eq_nil_of_length_eq_zero ha
        exact (equal_zero _ b c d w).mono fun e w' h => ⟨h.1, by rw [h.2]; exact Below.refl _ _⟩
      · exact equal_ok g off g2 off2 n c d xs ys w ha hb hn hg hg2 hca hcb
  · have hd : decide (xs = ys) = false := by
      simp
      rintro rfl
      omega
    rw [hd]
    exact (equal_len a b n m c d w h).mono fun e w' h => ⟨h.1, by rw [h.2]; exact Below.refl _ _⟩
end Go.Proofs.Ytcegahmjegjckaa
