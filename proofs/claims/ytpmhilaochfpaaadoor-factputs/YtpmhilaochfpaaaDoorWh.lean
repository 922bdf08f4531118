/- The document's numbers, both words, symbols: contracts of single calls. -/
import Derived.Test.YtpmhilaochfpaaaDoorWf
import Derived.Test.YtpmhilaochfpaaaDoorWg
import Derived.Test.YtpmhilaochfpaaaDoorLb
namespace Go.Proofs.YtpmhilaochfpaaaDoor
set_option maxRecDepth 20000
set_option maxRecDepth 20000
set_option maxRecDepth 20000
set_option maxRecDepth 20000
set_option maxRecDepth 20000
open Go.RowKit
set_option linter.unusedVariables false
set_option linter.unusedSimpArgs false
set_option maxRecDepth 20000

theorem ret_int {a b : Int} (h : a = b) : Ending.returned (.int .i64 a) = .returned (.int .i64 b) := by rw [h]
/-- The loop over digits that both ends share. -/
theorem dig_end (l : List UInt8) (h : ∀ j, j < l.length → isDig (l.getD j 0) = true) : (!l.isEmpty && l.all isDig) = decide (0 < l.length) := by
  rw [(all_getD l).2 h, Bool.and_true]; cases l <;> simp
theorem dig_no (l : List UInt8) (k : Nat) (hk : k < l.length) (h : isDig (l.getD k 0) = false) : (!l.isEmpty && l.all isDig) = false := by
  have : l.all isDig = false := by
    rw [Bool.eq_false_iff]; intro e
    have := (all_getD l).1 e k hk
    rw [h] at this; cases this
  rw [this, Bool.and_false]
set_option maxHeartbeats 1000000 in
theorem risnum_any (s : ByteArray) (w : World) (hs : s.size ≤ 1000000) :
    Calls Tryd.prog 53 #[.string s] w fun e w' => e = .returned (.bool (numB s.data.toList)) ∧ w' = w := by
  have core : ∀ (t : ByteArray), t.size ≤ 1000000 → strip s.data.toList = t.data.toList → (∀ k, k ≤ t.size → (∀ j, j < k → isDig (t.data.toList.getD j 0) = true) → k = t.size → numB s.data.toList = decide (0 < t.size)) ∧ (∀ k, k < t.size → isDig (t.data.toList.getD k 0) = false → numB s.data.toList = false) := by
    intro t ht he
    have hl := lenL t
    refine ⟨fun k hk h hkt => ?_, fun k hk h => ?_⟩
    · unfold numB; rw [he, dig_end _ (fun j hj => h j (by omega)), hl]
    · unfold numB; rw [he]; exact dig_no _ k (by omega) h
  by_cases hsg : isSg (s.data.toList.getD 0 0) = true
  · have hs0 : 0 < s.size := by
      rcases Nat.eq_zero_or_pos s.size with h0 | h0
      · have : s.data.toList = [] := List.eq_nil_of_length_eq_zero (by rw [lenL]; exact h0)
        rw [this] at hsg; simp [isSg] at hsg
      · exact h0
    have h0 := get_at s 0 hs0
    obtain ⟨t, ht⟩ : ∃ t, s.extract 1 s.size = t := ⟨_, rfl⟩
    have htl : t.data.toList = s.data.toList.drop 1 := by rw [← ht, ext_list]
    have hts : t.size + 1 = s.size := by rw [← lenL t, htl, List.length_drop, lenL]; omega
    have C := core t (by omega) (by rw [strip_sg hsg, htl])
    have HC1 : Hid (∀ k, k ≤ t.size → (∀ j, j < k → isDig (t.data.toList.getD j 0) = true) → k = t.size → numB s.data.toList = decide (0 < t.size)) := C.1
    have HC2 : Hid (∀ k, k < t.size → isDig (t.data.toList.getD k 0) = false → numB s.data.toList = false) := C.2
    have hgt : Hid (∀ i (h : i < t.size), t[i] = t.data.toList.getD i 0) := get_at t
    simp only [isSg, decide_eq_true_eq] at hsg
    generalize s.data.toList.getD 0 0 = b0 at hsg h0
    clear C core htl
    have hz : (0 : Int) < s.size := by omega
    have hz1 : (1 : Int) ≤ s.size := by omega
    have hT : t.size ≤ 1000000 := by omega
    generalize numB s.data.toList = ans at *
    rcases hsg with hsg | hsg
    · have e1 : ((b0.toNat : Int) == 45) = true := by rw [beq_iff_eq]; omega
      clear hsg
      go_enter Tryd.func53, Tryd.ntmps53
      go_wp2
      go_loop [3] (fun i => ∃ k : Nat, k ≤ t.size ∧ (∀ j, j < k → isDig (t.data.toList.getD j 0) = true) ∧ i = .int .i64 k) (fun i => t.size - (intOf i).toNat)
      case atStart => exact ⟨0, Nat.zero_le _, fun j hj => by omega, rfl⟩
      case round =>
        obtain ⟨k, hk, hd, rfl⟩ := hrel
        have HD : Hid (∀ j, j < k → isDig (t.data.toList.getD j 0) = true) := hd
        clear hd
        by_cases hlt : k < t.size
        · have hg := hgt.out k hlt
          obtain ⟨b, hb⟩ : ∃ b, t.data.toList.getD k 0 = b := ⟨_, rfl⟩
          have HB : Hid (t.data.toList.getD k 0 = b) := hb
          rw [hb] at hg
          clear hb hgt
          have hlz : (k : Int) < t.size := by omega
          by_cases hdg : isDig b = true
          · have HD1 : Hid (∀ j, j < k + 1 → isDig (t.data.toList.getD j 0) = true) := fun j hj => by
              by_cases hj' : j = k
              · rw [hj', HB.out]; exact hdg
              · exact HD.out j (by omega)
            simp only [isDig, decide_eq_true_eq] at hdg
            have q1 : ¬ (b.toNat : Int) < 48 := by omega
            have q2 : ¬ (57 : Int) < b.toNat := by omega
            clear hdg
            go_wp2
            go_round
            case rel => exact ⟨k + 1, by omega, HD1.out, by go_num⟩
            case measure => simp [intOf]; omega
          · have HN : Hid (ans = false) := HC2.out k hlt (by rw [HB.out]; simpa using hdg)
            simp only [isDig, decide_eq_true_eq] at hdg
            have hdz : (b.toNat : Int) < 48 ∨ (¬ (b.toNat : Int) < 48 ∧ (57 : Int) < b.toNat) := by omega
            clear hdg
            rcases hdz with q1 | ⟨q1, q2⟩
            all_goals
              go_wp2
              go_ret
              exact ⟨ret_bool HN.out.symm, rfl⟩
        · have HA : Hid (ans = decide (0 < t.size)) := HC1.out k hk HD.out (by omega)
          go_wp2
          go_ret
          exact ⟨ret_bool (by first | (rw [HA.out, decide_eq_decide]; done) | (rw [HA.out, decide_eq_decide]; omega) | (rw [HA.out]; exact (decide_eq_true (by omega)).symm)), rfl⟩
    · have e1 : ((b0.toNat : Int) == 45) = false := by rw [beq_eq_false_iff_ne]; omega
      have e2 : ((b0.toNat : Int) == 43) = true := by rw [beq_iff_eq]; omega
      clear hsg
      go_enter Tryd.func53, Tryd.ntmps53
      go_wp2
      go_loop [3] (fun i => ∃ k : Nat, k ≤ t.size ∧ (∀ j, j < k → isDig (t.data.toList.getD j 0) = true) ∧ i = .int .i64 k) (fun i => t.size - (intOf i).toNat)
      case atStart => exact ⟨0, Nat.zero_le _, fun j hj => by omega, rfl⟩
      case round =>
        obtain ⟨k, hk, hd, rfl⟩ := hrel
        have HD : Hid (∀ j, j < k → isDig (t.data.toList.getD j 0) = true) := hd
        clear hd
        by_cases hlt : k < t.size
        · have hg := hgt.out k hlt
          obtain ⟨b, hb⟩ : ∃ b, t.data.toList.getD k 0 = b := ⟨_, rfl⟩
          have HB : Hid (t.data.toList.getD k 0 = b) := hb
          rw [hb] at hg
          clear hb hgt
          have hlz : (k : Int) < t.size := by omega
          by_cases hdg : isDig b = true
          · have HD1 : Hid (∀ j, j < k + 1 → isDig (t.data.toList.getD j 0) = true) := fun j hj => by
              by_cases hj' : j = k
              · rw [hj', HB.out]; exact hdg
              · exact HD.out j (by omega)
            simp only [isDig, decide_eq_true_eq] at hdg
            have q1 : ¬ (b.toNat : Int) < 48 := by omega
            have q2 : ¬ (57 : Int) < b.toNat := by omega
            clear hdg
            go_wp2
            go_round
            case rel => exact ⟨k + 1, by omega, HD1.out, by go_num⟩
            case measure => simp [intOf]; omega
          · have HN : Hid (ans = false) := HC2.out k hlt (by rw [HB.out]; simpa using hdg)
            simp only [isDig, decide_eq_true_eq] at hdg
            have hdz : (b.toNat : Int) < 48 ∨ (¬ (b.toNat : Int) < 48 ∧ (57 : Int) < b.toNat) := by omega
            clear hdg
            rcases hdz with q1 | ⟨q1, q2⟩
            all_goals
              go_wp2
              go_ret
              exact ⟨ret_bool HN.out.symm, rfl⟩
        · have HA : Hid (ans = decide (0 < t.size)) := HC1.out k hk HD.out (by omega)
          go_wp2
          go_ret
          exact ⟨ret_bool (by first | (rw [HA.out, decide_eq_decide]; done) | (rw [HA.out, decide_eq_decide]; omega) | (rw [HA.out]; exact (decide_eq_true (by omega)).symm)), rfl⟩
  · have hsg' : isSg (s.data.toList.getD 0 0) = false := by simpa using hsg
    have C := core s hs (strip_no hsg')
    have HC1 : Hid (∀ k, k ≤ s.size → (∀ j, j < k → isDig (s.data.toList.getD j 0) = true) → k = s.size → numB s.data.toList = decide (0 < s.size)) := C.1
    have HC2 : Hid (∀ k, k < s.size → isDig (s.data.toList.getD k 0) = false → numB s.data.toList = false) := C.2
    have hgt : Hid (∀ i (h : i < s.size), s[i] = s.data.toList.getD i 0) := get_at s
    generalize numB s.data.toList = ans at *
    clear C core hsg
    by_cases h0 : 0 < s.size
    · have h0z : (0 : Int) < s.size := by omega
      have hg0 := hgt.out 0 h0
      simp only [isSg, decide_eq_false_iff_not] at hsg'
      generalize s.data.toList.getD 0 0 = b0 at hg0 hsg'
      have e1 : ((b0.toNat : Int) == 45) = false := by rw [beq_eq_false_iff_ne]; omega
      have e2 : ((b0.toNat : Int) == 43) = false := by rw [beq_eq_false_iff_ne]; omega
      clear hsg'
      go_enter Tryd.func53, Tryd.ntmps53
      go_wp2
      go_loop [3] (fun i => ∃ k : Nat, k ≤ s.size ∧ (∀ j, j < k → isDig (s.data.toList.getD j 0) = true) ∧ i = .int .i64 k) (fun i => s.size - (intOf i).toNat)
      case atStart => exact ⟨0, Nat.zero_le _, fun j hj => by omega, rfl⟩
      case round =>
        obtain ⟨k, hk, hd, rfl⟩ := hrel
        have HD : Hid (∀ j, j < k → isDig (s.data.toList.getD j 0) = true) := hd
        clear hd
        by_cases hlt : k < s.size
        · have hg := hgt.out k hlt
          obtain ⟨b, hb⟩ : ∃ b, s.data.toList.getD k 0 = b := ⟨_, rfl⟩
          have HB : Hid (s.data.toList.getD k 0 = b) := hb
          rw [hb] at hg
          clear hb hgt
          have hlz : (k : Int) < s.size := by omega
          by_cases hdg : isDig b = true
          · have HD1 : Hid (∀ j, j < k + 1 → isDig (s.data.toList.getD j 0) = true) := fun j hj => by
              by_cases hj' : j = k
              · rw [hj', HB.out]; exact hdg
              · exact HD.out j (by omega)
            simp only [isDig, decide_eq_true_eq] at hdg
            have q1 : ¬ (b.toNat : Int) < 48 := by omega
            have q2 : ¬ (57 : Int) < b.toNat := by omega
            clear hdg
            go_wp2
            go_round
            case rel => exact ⟨k + 1, by omega, HD1.out, by go_num⟩
            case measure => simp [intOf]; omega
          · have HN : Hid (ans = false) := HC2.out k hlt (by rw [HB.out]; simpa using hdg)
            simp only [isDig, decide_eq_true_eq] at hdg
            have hdz : (b.toNat : Int) < 48 ∨ (¬ (b.toNat : Int) < 48 ∧ (57 : Int) < b.toNat) := by omega
            clear hdg
            rcases hdz with q1 | ⟨q1, q2⟩
            all_goals
              go_wp2
              go_ret
              exact ⟨ret_bool HN.out.symm, rfl⟩
        · have HA : Hid (ans = decide (0 < s.size)) := HC1.out k hk HD.out (by omega)
          go_wp2
          go_ret
          exact ⟨ret_bool (by first | (rw [HA.out, decide_eq_decide]; done) | (rw [HA.out, decide_eq_decide]; omega) | (rw [HA.out]; exact (decide_eq_true (by omega)).symm)), rfl⟩
    · have h0z : ¬ (0 : Int) < s.size := by omega
      have HA : Hid (ans = decide (0 < s.size)) := HC1.out 0 (Nat.zero_le _) (fun j hj => by omega) (by omega)
      have HZ : Hid (s.size = 0) := by show s.size = 0; omega
      clear hgt hsg' h0
      go_enter Tryd.func53, Tryd.ntmps53
      go_wp2
      go_loop [3] (fun i => i = .int .i64 0) (fun i => 0)
      case atStart => rfl
      case round =>
        subst hrel
        go_wp2
        go_ret
        exact ⟨ret_bool (by rw [HA.out]; exact (decide_eq_false (by have := HZ.out; omega)).symm), rfl⟩

end Go.Proofs.YtpmhilaochfpaaaDoor
