/- The document's numbers, both words, symbols: contracts of single calls. -/
import Derived.Test.YtglimefhiggdeaaDoorWf
import Derived.Test.YtglimefhiggdeaaDoorWg
import Derived.Test.YtglimefhiggdeaaDoorLb
namespace Go.Proofs.YtglimefhiggdeaaDoor
set_option maxRecDepth 20000
open Go.RowKit
set_option linter.unusedVariables false
set_option linter.unusedSimpArgs false
set_option maxRecDepth 20000

theorem ret_int {a b : Int} (h : a = b) : Ending.returned (.int .i64 a) = .returned (.int .i64 b) := by rw [h]
/-- The loop over digits that both ends share. -/
theorem dig_end (l : List UInt8) (h : ∀ j, j < l.length → isDig (l.getD j 0) = true) : (!l.isEmpty && l.all isDig) = decide (0 < l.length) := by
  rw [(all_getD l).2 h, Bool.and_true]; cases l <;> simp
theorem dig_no (l : List UInt8) (k : Nat) (hk : k < l.length) (h : isDig (l.getD k 0) = false) : (!l.isEmpty && l.all isDig) = false := by
  have : l.all isDig = false := by
    rw [Bool.eq_false_iff]; intro e
    have := (all_getD l).1 e k hk
    rw [h] at this; cases this
  rw [this, Bool.and_false]
set_option maxHeartbeats 1000000 in
theorem risnum_any (s : ByteArray) (w : World) (hs : s.size ≤ 1000000) :
    Calls Tryd.prog 48 #[.string s] w fun e w' => e = .returned (.bool (numB s.data.toList)) ∧ w' = w := by
  have core : ∀ (t : ByteArray), t.size ≤ 1000000 → strip s.data.toList = t.data.toList → (∀ k, k ≤ t.size → (∀ j, j < k → isDig (t.data.toList.getD j 0) = true) → k = t.size → numB s.data.toList = decide (0 < t.size)) ∧ (∀ k, k < t.size → isDig (t.data.toList.getD k 0) = false → numB s.data.toList = false) := by
    intro t ht he
    have hl := lenL t
    refine ⟨fun k hk h hkt => ?_, fun k hk h => ?_⟩
    · unfold numB; rw [he, dig_end _ (fun j hj => h j (by omega)), hl]
    · unfold numB; rw [he]; exact dig_no _ k (by omega) h
  by_cases hsg : isSg (s.data.toList.getD 0 0) = true
  · have hs0 : 0 < s.size := by
      rcases Nat.eq_zero_or_pos s.size with h0 | h0
      · have : s.data.toList = [] := List.eq_nil_of_length_eq_zero (by rw [lenL]; exact h0)
        rw [this] at hsg; simp [isSg] at hsg
      · exact h0
    have h0 := get_at s 0 hs0
    obtain ⟨t, ht⟩ : ∃ t, s.extract 1 s.size = t := ⟨_, rfl⟩
    have htl : t.data.toList = s.data.toList.drop 1 := by rw [← ht, ext_list]
    have hts : t.size + 1 = s.size := by rw [← lenL t, htl, List.length_drop, lenL]; omega
    have C := core t (by omega) (by rw [strip_sg hsg, htl])
    have HC1 : Hid (∀ k, k ≤ t.size → (∀ j, j < k → isDig (t.data.toList.getD j 0) = true) → k = t.size → numB s.data.toList = decide (0 < t.size)) := C.1
    have HC2 : Hid (∀ k, k < t.size → isDig (t.data.toList.getD k 0) = false → numB s.data.toList = false) := C.2
    have hgt : Hid (∀ i (h : i < t.size), t[i] = t.data.toList.getD i 0) := get_at t
    simp only [isSg, decide_eq_true_eq] at hsg
    generalize s.data.toList.getD 0 0 = b0 at hsg h0
    clear C core htl
    have hz : (0 : Int) < s.size := by omega
    have hz1 : (1 : Int) ≤ s.size := by omega
    have hT : t.size ≤ 1000000 := by omega
    generalize numB s.data.toList = ans at *
    rcases hsg with hsg | hsg
    · have e1 : ((b0.toNat : Int) == 45) = true := by rw [beq_iff_eq]; omega
      clear hsg
      go_enter Tryd.func48, Tryd.ntmps48
      go_wp2
      go_loop [3] (fun i => ∃ k : Nat, k ≤ t.size ∧ (∀ j, j < k → isDig (t.data.toList.getD j 0) = true) ∧ i = .int .i64 k) (fun i => t.size - (intOf i).toNat)
      case atStart => exact ⟨0, Nat.zero_le _, fun j hj => by omega, rfl⟩
      case round =>
        obtain ⟨k, hk, hd, rfl⟩ := hrel
        have HD : Hid (∀ j, j < k → isDig (t.data.toList.getD j 0) = true) := hd
        clear hd
        by_cases hlt : k < t.size
        · have hg := hgt.out k hlt
          obtain ⟨b, hb⟩ : ∃ b, t.data.toList.getD k 0 = b := ⟨_, rfl⟩
          have HB : Hid (t.data.toList.getD k 0 = b) := hb
          rw [hb] at hg
          clear hb hgt
          have hlz : (k : Int) < t.size := by omega
          by_cases hdg : isDig b = true
          · have HD1 : Hid (∀ j, j < k + 1 → isDig (t.data.toList.getD j 0) = true) := fun j hj => by
              by_cases hj' : j = k
              · rw [hj', HB.out]; exact hdg
              · exact HD.out j (by omega)
            simp only [isDig, decide_eq_true_eq] at hdg
            have q1 : ¬ (b.toNat : Int) < 48 := by omega
            have q2 : ¬ (57 : Int) < b.toNat := by omega
            clear hdg
            go_wp2
            go_round
            case rel => exact ⟨k + 1, by omega, HD1.out, by go_num⟩
            case measure => simp [intOf]; omega
          · have HN : Hid (ans = false) := HC2.out k hlt (by rw [HB.out]; simpa using hdg)
            simp only [isDig, decide_eq_true_eq] at hdg
            have hdz : (b.toNat : Int) < 48 ∨ (¬ (b.toNat : Int) < 48 ∧ (57 : Int) < b.toNat) := by omega
            clear hdg
            rcases hdz with q1 | ⟨q1, q2⟩
            all_goals
              go_wp2
              go_ret
              exact ⟨ret_bool HN.out.symm, rfl⟩
        · have HA : Hid (ans = decide (0 < t.size)) := HC1.out k hk HD.out (by omega)
          go_wp2
          go_ret
          exact ⟨ret_bool (by first | (rw [HA.out, decide_eq_decide]; done) | (rw [HA.out, decide_eq_decide]; omega) | (rw [HA.out]; exact (decide_eq_true (by omega)).symm)), rfl⟩
    · have e1 : ((b0.toNat : Int) == 45) = false := by rw [beq_eq_false_iff_ne]; omega
      have e2 : ((b0.toNat : Int) == 43) = true := by rw [beq_iff_eq]; omega
      clear hsg
      go_enter Tryd.func48, Tryd.ntmps48
      go_wp2
      go_loop [3] (fun i => ∃ k : Nat, k ≤ t.size ∧ (∀ j, j < k → isDig (t.data.toList.getD j 0) = true) ∧ i = .int .i64 k) (fun i => t.size - (intOf i).toNat)
      case atStart => exact ⟨0, Nat.zero_le _, fun j hj => by omega, rfl⟩
      case round =>
        obtain ⟨k, hk, hd, rfl⟩ := hrel
        have HD : Hid (∀ j, j < k → isDig (t.data.toList.getD j 0) = true) := hd
        clear hd
        by_cases hlt : k < t.size
        · have hg := hgt.out k hlt
          obtain ⟨b, hb⟩ : ∃ b, t.data.toList.getD k 0 = b := ⟨_, rfl⟩
          have HB : Hid (t.data.toList.getD k 0 = b) := hb
          rw [hb] at hg
          clear hb hgt
          have hlz : (k : Int) < t.size := by omega
          by_cases hdg : isDig b = true
          · have HD1 : Hid (∀ j, j < k + 1 → isDig (t.data.toList.getD j 0) = true) := fun j hj => by
              by_cases hj' : j = k
              · rw [hj', HB.out]; exact hdg
              · exact HD.out j (by omega)
            simp only [isDig, decide_eq_true_eq] at hdg
            have q1 : ¬ (b.toNat : Int) < 48 := by omega
            have q2 : ¬ (57 : Int) < b.toNat := by omega
            clear hdg
            go_wp2
            go_round
            case rel => exact ⟨k + 1, by omega, HD1.out, by go_num⟩
            case measure => simp [intOf]; omega
          · have HN : Hid (ans = false) := HC2.out k hlt (by rw [HB.out]; simpa using hdg)
            simp only [isDig, decide_eq_true_eq] at hdg
            have hdz : (b.toNat : Int) < 48 ∨ (¬ (b.toNat : Int) < 48 ∧ (57 : Int) < b.toNat) := by omega
            clear hdg
            rcases hdz with q1 | ⟨q1, q2⟩
            all_goals
              go_wp2
              go_ret
              exact ⟨ret_bool HN.out.symm, rfl⟩
        · have HA : Hid (ans = decide (0 < t.size)) := HC1.out k hk HD.out (by omega)
          go_wp2
          go_ret
          exact ⟨ret_bool (by first | (rw [HA.out, decide_eq_decide]; done) | (rw [HA.out, decide_eq_decide]; omega) | (rw [HA.out]; exact (decide_eq_true (by omega)).symm)), rfl⟩
  · have hsg' : isSg (s.data.toList.getD 0 0) = false := by simpa using hsg
    have C := core s hs (strip_no hsg')
    have HC1 : Hid (∀ k, k ≤ s.size → (∀ j, j < k → isDig (s.data.toList.getD j 0) = true) → k = s.size → numB s.data.toList = decide (0 < s.size)) := C.1
    have HC2 : Hid (∀ k, k < s.size → isDig (s.data.toList.getD k 0) = false → numB s.data.toList = false) := C.2
    have hgt : Hid (∀ i (h : i < s.size), s[i] = s.data.toList.getD i 0) := get_at s
    generalize numB s.data.toList = ans at *
    clear C core hsg
    by_cases h0 : 0 < s.size
    · have h0z : (0 : Int) < s.size := by omega
      have hg0 := hgt.out 0 h0
      simp only [isSg, decide_eq_false_iff_not] at hsg'
      generalize s.data.toList.getD 0 0 = b0 at hg0 hsg'
      have e1 : ((b0.toNat : Int) == 45) = false := by rw [beq_eq_false_iff_ne]; omega
      have e2 : ((b0.toNat : Int) == 43) = false := by rw [beq_eq_false_iff_ne]; omega
      clear hsg'
      go_enter Tryd.func48, Tryd.ntmps48
      go_wp2
      go_loop [3] (fun i => ∃ k : Nat, k ≤ s.size ∧ (∀ j, j < k → isDig (s.data.toList.getD j 0) = true) ∧ i = .int .i64 k) (fun i => s.size - (intOf i).toNat)
      case atStart => exact ⟨0, Nat.zero_le _, fun j hj => by omega, rfl⟩
      case round =>
        obtain ⟨k, hk, hd, rfl⟩ := hrel
        have HD : Hid (∀ j, j < k → isDig (s.data.toList.getD j 0) = true) := hd
        clear hd
        by_cases hlt : k < s.size
        · have hg := hgt.out k hlt
          obtain ⟨b, hb⟩ : ∃ b, s.data.toList.getD k 0 = b := ⟨_, rfl⟩
          have HB : Hid (s.data.toList.getD k 0 = b) := hb
          rw [hb] at hg
          clear hb hgt
          have hlz : (k : Int) < s.size := by omega
          by_cases hdg : isDig b = true
          · have HD1 : Hid (∀ j, j < k + 1 → isDig (s.data.toList.getD j 0) = true) := fun j hj => by
              by_cases hj' : j = k
              · rw [hj', HB.out]; exact hdg
              · exact HD.out j (by omega)
            simp only [isDig, decide_eq_true_eq] at hdg
            have q1 : ¬ (b.toNat : Int) < 48 := by omega
            have q2 : ¬ (57 : Int) < b.toNat := by omega
            clear hdg
            go_wp2
            go_round
            case rel => exact ⟨k + 1, by omega, HD1.out, by go_num⟩
            case measure => simp [intOf]; omega
          · have HN : Hid (ans = false) := HC2.out k hlt (by rw [HB.out]; simpa using hdg)
            simp only [isDig, decide_eq_true_eq] at hdg
            have hdz : (b.toNat : Int) < 48 ∨ (¬ (b.toNat : Int) < 48 ∧ (57 : Int) < b.toNat) := by omega
            clear hdg
            rcases hdz with q1 | ⟨q1, q2⟩
            all_goals
              go_wp2
              go_ret
              exact ⟨ret_bool HN.out.symm, rfl⟩
        · have HA : Hid (ans = decide (0 < s.size)) := HC1.out k hk HD.out (by omega)
          go_wp2
          go_ret
          exact ⟨ret_bool (by first | (rw [HA.out, decide_eq_decide]; done) | (rw [HA.out, decide_eq_decide]; omega) | (rw [HA.out]; exact (decide_eq_true (by omega)).symm)), rfl⟩
    · have h0z : ¬ (0 : Int) < s.size := by omega
      have HA : Hid (ans = decide (0 < s.size)) := HC1.out 0 (Nat.zero_le _) (fun j hj => by omega) (by omega)
      have HZ : Hid (s.size = 0) := by show s.size = 0; omega
      clear hgt hsg' h0
      go_enter Tryd.func48, Tryd.ntmps48
      go_wp2
      go_loop [3] (fun i => i = .int .i64 0) (fun i => 0)
      case atStart => rfl
      case round =>
        subst hrel
        go_wp2
        go_ret
        exact ⟨ret_bool (by rw [HA.out]; exact (decide_eq_false (by have := HZ.out; omega)).symm), rfl⟩

set_option maxHeartbeats 1000000 in
theorem num13_any (s : ByteArray) (w : World) (hs : s.size ≤ 1000000) (hn : numB s.data.toList = true) :
    Calls Tryd.prog 49 #[.string s] w fun e w' => e = .returned (.int .i64 (if negB s.data.toList then -(sv s.data.toList s.size : Int) else sv s.data.toList s.size)) ∧ w' = w := by
  have hgd := nb_good _ hn
  rw [lenL] at hgd
  have hs0 : 0 < s.size := by
    rcases Nat.eq_zero_or_pos s.size with h0 | h0
    · have : s.data.toList = [] := List.eq_nil_of_length_eq_zero (by rw [lenL]; exact h0)
      rw [this] at hn; simp [numB, strip] at hn
    · exact h0
  have h0z : (0 : Int) < s.size := by omega
  have hgt : Hid (∀ i (h : i < s.size), s[i] = s.data.toList.getD i 0) := get_at s
  have HG : Hid (goodTo s.data.toList s.size) := hgd
  have hl := lenL s
  have HL : Hid (s.data.toList.length = s.size) := hl
  obtain ⟨b0, hb0⟩ : ∃ b0, s.data.toList.getD 0 0 = b0 := ⟨_, rfl⟩
  have h00 : Hid (s[0] = b0) := by show s[0] = b0; rw [hgt.out 0 hs0, hb0]
  have HB0 : Hid (s.data.toList.getD 0 0 = b0) := hb0
  unfold negB
  rw [hb0]
  obtain ⟨fin, hfin⟩ : ∃ fin, fin = sv s.data.toList s.size := ⟨_, rfl⟩
  have HF : Hid (fin = sv s.data.toList s.size) := hfin
  rw [← hfin]
  have hfl : fin ≤ 1099511627777 := by rw [hfin]; exact sv_le _ _
  obtain ⟨r, hr⟩ : ∃ r : Int, r = if decide (b0.toNat = 45) = true then -(fin : Int) else fin := ⟨_, rfl⟩
  have HR : Hid (r = if decide (b0.toNat = 45) = true then -(fin : Int) else fin) := hr
  rw [← hr]
  clear hn hgd hl hfin hb0 hr
  go_enter Tryd.func49, Tryd.ntmps49
  go_wp2
  go_loop [3, 4] (fun n i => ∃ k v : Nat, k ≤ s.size ∧ v = sv s.data.toList k ∧ v ≤ 1099511627777 ∧ n = .int .i64 v ∧ i = .int .i64 k) (fun _ i => s.size - (intOf i).toNat)
  case atStart => exact ⟨0, 0, Nat.zero_le _, (sv_zero _).symm, by omega, rfl, rfl⟩
  case round =>
    obtain ⟨k, v, hk, hv, hvl, rfl, rfl⟩ := hrel
    have HV : Hid (v = sv s.data.toList k) := hv
    clear hv
    by_cases hlt : k < s.size
    · have hg := hgt.out k hlt
      obtain ⟨b, hb⟩ : ∃ b, s.data.toList.getD k 0 = b := ⟨_, rfl⟩
      have HB : Hid (s.data.toList.getD k 0 = b) := hb
      rw [hb] at hg
      clear hb hgt
      have hlz : (k : Int) < s.size := by omega
      by_cases hdg : isDig b = true
      · have HS : Hid (sv s.data.toList (k + 1) = min (10 * v + (b.toNat - 48)) 1099511627777) := by
          have := sv_step s.data.toList k (by rw [HL.out]; exact hlt) (by rw [HB.out]; exact hdg)
          rw [HB.out, ← HV.out] at this; exact this
        simp only [isDig, decide_eq_true_eq] at hdg
        have e1 : ((b.toNat : Int) != 45) = true := by rw [bne_iff_ne]; omega
        have e2 : ((b.toNat : Int) != 43) = true := by rw [bne_iff_ne]; omega
        have q1 : (48 : Int) ≤ b.toNat := by omega
        have q2 : (b.toNat : Int) ≤ 57 := by omega
        have q3 : (0 : Int) ≤ v := by omega
        have q4 : (v : Int) ≤ 1099511627777 := by omega
        clear hdg
        go_wp2
        all_goals
          go_round
          case rel => exact ⟨k + 1, sv s.data.toList (k + 1), by omega, rfl, sv_le _ _, by rw [HS.out]; exact congrArg (Value.int .i64) (by omega), by go_num⟩
          case measure => simp [intOf]; omega
      · have hsg := (HG.out k hlt).resolve_left (by rw [HB.out]; exact hdg)
        obtain ⟨rfl, hsg⟩ := hsg
        have HS : Hid (sv s.data.toList (0 + 1) = v) := by rw [HV.out, sv_zero]; exact sv_sg _ (by rw [HL.out]; exact hlt) hsg
        rw [HB.out] at hsg
        simp only [isSg, decide_eq_true_eq] at hsg
        clear hdg
        rcases hsg with hsg | hsg
        · have e1 : ((b.toNat : Int) != 45) = false := by rw [bne_eq_false_iff_eq]; omega
          clear hsg
          go_wp2
          go_round
          case rel => exact ⟨0 + 1, v, by omega, HS.out.symm, hvl, rfl, by go_num⟩
          case measure => simp [intOf]; omega
        · have e1 : ((b.toNat : Int) != 45) = true := by rw [bne_iff_ne]; omega
          have e2 : ((b.toNat : Int) != 43) = false := by rw [bne_eq_false_iff_eq]; omega
          clear hsg
          go_wp2
          go_round
          case rel => exact ⟨0 + 1, v, by omega, HS.out.symm, hvl, rfl, by go_num⟩
          case measure => simp [intOf]; omega
    · have hkz : k = s.size := by omega
      have HX : Hid (v = fin) := by show v = fin; rw [HV.out, HF.out, hkz]
      clear hkz hgt
      have h00' := h00.out
      by_cases h45 : b0.toNat = 45
      · have e1 : ((b0.toNat : Int) == 45) = true := by rw [beq_iff_eq]; omega
        have hd : decide (b0.toNat = 45) = true := decide_eq_true h45
        have HT : Hid (b0.toNat = 45) := h45
        clear h45
        have q3 : (0 : Int) ≤ v := by omega
        have q4 : (v : Int) ≤ 1099511627777 := by omega
        have HD : Hid (decide (b0.toNat = 45) = true) := hd
        clear hd
        go_wp2
        go_ret
        exact ⟨ret_int (by rw [HR.out, HD.out, if_pos rfl, HX.out]), rfl⟩
      · have e1 : ((b0.toNat : Int) == 45) = false := by rw [beq_eq_false_iff_ne]; omega
        have hd : decide (b0.toNat = 45) = false := decide_eq_false h45
        have HD : Hid (decide (b0.toNat = 45) = false) := hd
        clear hd
        go_wp2
        go_ret
        exact ⟨ret_int (by rw [HR.out, HD.out, if_neg (by simp), HX.out]), rfl⟩
end Go.Proofs.YtglimefhiggdeaaDoor
