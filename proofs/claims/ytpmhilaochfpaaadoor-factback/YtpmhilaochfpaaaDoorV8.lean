import Derived.Test.YtpmhilaochfpaaaDoorV1
import Derived.Test.YtpmhilaochfpaaaDoorV3
import Derived.Test.YtpmhilaochfpaaaDoorV2
import Derived.Test.YtpmhilaochfpaaaDoorV4
import Derived.Test.YtpmhilaochfpaaaDoorV7
import Derived.Test.YtpmhilaochfpaaaDoorRows
import Derived.Deep.LoopGhost
import Derived.Deep.RegionWith
namespace Go.Proofs.YtpmhilaochfpaaaDoor
set_option maxRecDepth 20000
set_option maxRecDepth 20000
set_option maxRecDepth 20000
set_option maxRecDepth 20000
set_option maxRecDepth 20000
open Go.RowKit
set_option linter.unusedVariables false
set_option maxRecDepth 20000
structure Vars (w : World) : Prop where
  tabs : Lib.Utf8Tabs 0 1 w
theorem Vars.below {w w' : World} (h : Vars w) (hb : Below w.heap.size w w') : Vars w' := by
  exact ⟨Utf8Tabs_below h.tabs hb⟩
theorem valid_any (s : ByteArray) (w : World) (hs : s.size ≤ 1000000) (hT : Vars w) :
    Calls Tryd.prog 66 #[.string s] w fun e w' => e = .returned (.bool (Lib.validD s.data.toList)) ∧ Below w.heap.size w w' :=
  Any.utf8_ValidString Tryd.laysValid s w (by omega) hT.tabs
end Go.Proofs.YtpmhilaochfpaaaDoor
namespace Go.Proofs.YtpmhilaochfpaaaDoor
set_option maxRecDepth 20000
set_option maxRecDepth 20000
set_option maxRecDepth 20000
set_option maxRecDepth 20000
set_option maxRecDepth 20000
open Go.RowKit
set_option linter.unusedVariables false
set_option linter.unusedSimpArgs false
set_option maxRecDepth 20000
theorem dig_end (l : List UInt8) (h : ∀ j, j < l.length → isDig (l.getD j 0) = true) : (!l.isEmpty && l.all isDig) = decide (0 < l.length) := by
  rw [(all_getD l).2 h, Bool.and_true]; cases l <;> simp
theorem dig_no (l : List UInt8) (k : Nat) (hk : k < l.length) (h : isDig (l.getD k 0) = false) : (!l.isEmpty && l.all isDig) = false := by
  have : l.all isDig = false := by
    rw [Bool.eq_false_iff]; intro e
    have := (all_getD l).1 e k hk
    rw [h] at this; cases this
  rw [this, Bool.and_false]
set_option maxHeartbeats 1000000 in
theorem risnum_any (s : ByteArray) (w : World) (hs : s.size ≤ 1000000) :
    Calls Tryd.prog 53 #[.string s] w fun e w' => e = .returned (.bool (numB s.data.toList)) ∧ w' = w := by
  have core : ∀ (t : ByteArray), t.size ≤ 1000000 → strip s.data.toList = t.data.toList → (∀ k, k ≤ t.size → (∀ j, j < k → isDig (t.data.toList.getD j 0) = true) → k = t.size → numB s.data.toList = decide (0 < t.size)) ∧ (∀ k, k < t.size → isDig (t.data.toList.getD k 0) = false → numB s.data.toList = false) := by
    intro t ht he
    have hl := lenL t
    refine ⟨fun k hk h hkt => ?_, fun k hk h => ?_⟩
    · unfold numB; rw [he, dig_end _ (fun j hj => h j (by omega)), hl]
    · unfold numB; rw [he]; exact dig_no _ k (by omega) h
  by_cases hsg : isSg (s.data.toList.getD 0 0) = true
  · have hs0 : 0 < s.size := by
      rcases Nat.eq_zero_or_pos s.size with h0 | h0
      · have : s.data.toList = [] := List.eq_nil_of_length_eq_zero (by rw [lenL]; exact h0)
        rw [this] at hsg; simp [isSg] at hsg
      · exact h0
    have h0 := get_at s 0 hs0
    obtain ⟨t, ht⟩ : ∃ t, s.extract 1 s.size = t := ⟨_, rfl⟩
    have htl : t.data.toList = s.data.toList.drop 1 := by rw [← ht, ext_list]
    have hts : t.size + 1 = s.size := by rw [← lenL t, htl, List.length_drop, lenL]; omega
    have C := core t (by omega) (by rw [strip_sg hsg, htl])
    have HC1 : Hid (∀ k, k ≤ t.size → (∀ j, j < k → isDig (t.data.toList.getD j 0) = true) → k = t.size → numB s.data.toList = decide (0 < t.size)) := C.1
    have HC2 : Hid (∀ k, k < t.size → isDig (t.data.toList.getD k 0) = false → numB s.data.toList = false) := C.2
    have hgt : Hid (∀ i (h : i < t.size), t[i] = t.data.toList.getD i 0) := get_at t
    simp only [isSg, decide_eq_true_eq] at hsg
    generalize s.data.toList.getD 0 0 = b0 at hsg h0
    clear C core htl
    have hz : (0 : Int) < s.size := by omega
    have hz1 : (1 : Int) ≤ s.size := by omega
    have hT : t.size ≤ 1000000 := by omega
    generalize numB s.data.toList = ans at *
    rcases hsg with hsg | hsg
    · have e1 : ((b0.toNat : Int) == 45) = true := by rw [beq_iff_eq]; omega
      clear hsg
      go_enter Tryd.func53, Tryd.ntmps53
      go_wp2
      go_loop [3] (fun i => ∃ k : Nat, k ≤ t.size ∧ (∀ j, j < k → isDig (t.data.toList.getD j 0) = true) ∧ i = .int .i64 k) (fun i => t.size - (intOf i).toNat)
      case atStart => exact ⟨0, Nat.zero_le _, fun j hj => by omega, rfl⟩
      case round =>
        obtain ⟨k, hk, hd, rfl⟩ := hrel
        have HD : Hid (∀ j, j < k → isDig (t.data.toList.getD j 0) = true) := hd
        clear hd
        by_cases hlt : k < t.size
        · have hg := hgt.out k hlt
          obtain ⟨b, hb⟩ : ∃ b, t.data.toList.getD k 0 = b := ⟨_, rfl⟩
          have HB : Hid (t.data.toList.getD k 0 = b) := hb
          rw [hb] at hg
          clear hb hgt
          have hlz : (k : Int) < t.size := by omega
          by_cases hdg : isDig b = true
          · have HD1 : Hid (∀ j, j < k + 1 → isDig (t.data.toList.getD j 0) = true) := fun j hj => by
              by_cases hj' : j = k
              · rw [hj', HB.out]; exact hdg
              · exact HD.out j (by omega)
            simp only [isDig, decide_eq_true_eq] at hdg
            have q1 : ¬ (b.toNat : Int) < 48 := by omega
            have q2 : ¬ (57 : Int) < b.toNat := by omega
            clear hdg
            go_wp2
            go_round
            case rel => exact ⟨k + 1, by omega, HD1.out, by go_num⟩
            case measure => simp [intOf]; omega
          · have HN : Hid (ans = false) := HC2.out k hlt (by rw [HB.out]; simpa using hdg)
            simp only [isDig, decide_eq_true_eq] at hdg
            have hdz : (b.toNat : Int) < 48 ∨ (¬ (b.toNat : Int) < 48 ∧ (57 : Int) < b.toNat) := by omega
            clear hdg
            rcases hdz with q1 | ⟨q1, q2⟩
            all_goals
              go_wp2
              go_ret
              exact ⟨ret_bool HN.out.symm, rfl⟩
        · have HA : Hid (ans = decide (0 < t.size)) := HC1.out k hk HD.out (by omega)
          go_wp2
          go_ret
          exact ⟨ret_bool (by first | (rw [HA.out, decide_eq_decide]; done) | (rw [HA.out, decide_eq_decide]; omega) | (rw [HA.out]; exact (decide_eq_true (by omega)).symm)), rfl⟩
    · have e1 : ((b0.toNat : Int) == 45) = false := by rw [beq_eq_false_iff_ne]; omega
      have e2 : ((b0.toNat : Int) == 43) = true := by rw [beq_iff_eq]; omega
      clear hsg
      go_enter Tryd.func53, Tryd.ntmps53
      go_wp2
      go_loop [3] (fun i => ∃ k : Nat, k ≤ t.size ∧ (∀ j, j < k → isDig (t.data.toList.getD j 0) = true) ∧ i = .int .i64 k) (fun i => t.size - (intOf i).toNat)
      case atStart => exact ⟨0, Nat.zero_le _, fun j hj => by omega, rfl⟩
      case round =>
        obtain ⟨k, hk, hd, rfl⟩ := hrel
        have HD : Hid (∀ j, j < k → isDig (t.data.toList.getD j 0) = true) := hd
        clear hd
        by_cases hlt : k < t.size
        · have hg := hgt.out k hlt
          obtain ⟨b, hb⟩ : ∃ b, t.data.toList.getD k 0 = b := ⟨_, rfl⟩
          have HB : Hid (t.data.toList.getD k 0 = b) := hb
          rw [hb] at hg
          clear hb hgt
          have hlz : (k : Int) < t.size := by omega
          by_cases hdg : isDig b = true
          · have HD1 : Hid (∀ j, j < k + 1 → isDig (t.data.toList.getD j 0) = true) := fun j hj => by
              by_cases hj' : j = k
              · rw [hj', HB.out]; exact hdg
              · exact HD.out j (by omega)
            simp only [isDig, decide_eq_true_eq] at hdg
            have q1 : ¬ (b.toNat : Int) < 48 := by omega
            have q2 : ¬ (57 : Int) < b.toNat := by omega
            clear hdg
            go_wp2
            go_round
            case rel => exact ⟨k + 1, by omega, HD1.out, by go_num⟩
            case measure => simp [intOf]; omega
          · have HN : Hid (ans = false) := HC2.out k hlt (by rw [HB.out]; simpa using hdg)
            simp only [isDig, decide_eq_true_eq] at hdg
            have hdz : (b.toNat : Int) < 48 ∨ (¬ (b.toNat : Int) < 48 ∧ (57 : Int) < b.toNat) := by omega
            clear hdg
            rcases hdz with q1 | ⟨q1, q2⟩
            all_goals
              go_wp2
              go_ret
              exact ⟨ret_bool HN.out.symm, rfl⟩
        · have HA : Hid (ans = decide (0 < t.size)) := HC1.out k hk HD.out (by omega)
          go_wp2
          go_ret
          exact ⟨ret_bool (by first | (rw [HA.out, decide_eq_decide]; done) | (rw [HA.out, decide_eq_decide]; omega) | (rw [HA.out]; exact (decide_eq_true (by omega)).symm)), rfl⟩
  · have hsg' : isSg (s.data.toList.getD 0 0) = false := by simpa using hsg
    have C := core s hs (strip_no hsg')
    have HC1 : Hid (∀ k, k ≤ s.size → (∀ j, j < k → isDig (s.data.toList.getD j 0) = true) → k = s.size → numB s.data.toList = decide (0 < s.size)) := C.1
    have HC2 : Hid (∀ k, k < s.size → isDig (s.data.toList.getD k 0) = false → numB s.data.toList = false) := C.2
    have hgt : Hid (∀ i (h : i < s.size), s[i] = s.data.toList.getD i 0) := get_at s
    generalize numB s.data.toList = ans at *
    clear C core hsg
    by_cases h0 : 0 < s.size
    · have h0z : (0 : Int) < s.size := by omega
      have hg0 := hgt.out 0 h0
      simp only [isSg, decide_eq_false_iff_not] at hsg'
      generalize s.data.toList.getD 0 0 = b0 at hg0 hsg'
      have e1 : ((b0.toNat : Int) == 45) = false := by rw [beq_eq_false_iff_ne]; omega
      have e2 : ((b0.toNat : Int) == 43) = false := by rw [beq_eq_false_iff_ne]; omega
      clear hsg'
      go_enter Tryd.func53, Tryd.ntmps53
      go_wp2
      go_loop [3] (fun i => ∃ k : Nat, k ≤ s.size ∧ (∀ j, j < k → isDig (s.data.toList.getD j 0) = true) ∧ i = .int .i64 k) (fun i => s.size - (intOf i).toNat)
      case atStart => exact ⟨0, Nat.zero_le _, fun j hj => by omega, rfl⟩
      case round =>
        obtain ⟨k, hk, hd, rfl⟩ := hrel
        have HD : Hid (∀ j, j < k → isDig (s.data.toList.getD j 0) = true) := hd
        clear hd
        by_cases hlt : k < s.size
        · have hg := hgt.out k hlt
          obtain ⟨b, hb⟩ : ∃ b, s.data.toList.getD k 0 = b := ⟨_, rfl⟩
          have HB : Hid (s.data.toList.getD k 0 = b) := hb
          rw [hb] at hg
          clear hb hgt
          have hlz : (k : Int) < s.size := by omega
          by_cases hdg : isDig b = true
          · have HD1 : Hid (∀ j, j < k + 1 → isDig (s.data.toList.getD j 0) = true) := fun j hj => by
              by_cases hj' : j = k
              · rw [hj', HB.out]; exact hdg
              · exact HD.out j (by omega)
            simp only [isDig, decide_eq_true_eq] at hdg
            have q1 : ¬ (b.toNat : Int) < 48 := by omega
            have q2 : ¬ (57 : Int) < b.toNat := by omega
            clear hdg
            go_wp2
            go_round
            case rel => exact ⟨k + 1, by omega, HD1.out, by go_num⟩
            case measure => simp [intOf]; omega
          · have HN : Hid (ans = false) := HC2.out k hlt (by rw [HB.out]; simpa using hdg)
            simp only [isDig, decide_eq_true_eq] at hdg
            have hdz : (b.toNat : Int) < 48 ∨ (¬ (b.toNat : Int) < 48 ∧ (57 : Int) < b.toNat) := by omega
            clear hdg
            rcases hdz with q1 | ⟨q1, q2⟩
            all_goals
              go_wp2
              go_ret
              exact ⟨ret_bool HN.out.symm, rfl⟩
        · have HA : Hid (ans = decide (0 < s.size)) := HC1.out k hk HD.out (by omega)
          go_wp2
          go_ret
          exact ⟨ret_bool (by first | (rw [HA.out, decide_eq_decide]; done) | (rw [HA.out, decide_eq_decide]; omega) | (rw [HA.out]; exact (decide_eq_true (by omega)).symm)), rfl⟩
    · have h0z : ¬ (0 : Int) < s.size := by omega
      have HA : Hid (ans = decide (0 < s.size)) := HC1.out 0 (Nat.zero_le _) (fun j hj => by omega) (by omega)
      have HZ : Hid (s.size = 0) := by show s.size = 0; omega
      clear hgt hsg' h0
      go_enter Tryd.func53, Tryd.ntmps53
      go_wp2
      go_loop [3] (fun i => i = .int .i64 0) (fun i => 0)
      case atStart => rfl
      case round =>
        subst hrel
        go_wp2
        go_ret
        exact ⟨ret_bool (by rw [HA.out]; exact (decide_eq_false (by have := HZ.out; omega)).symm), rfl⟩

end Go.Proofs.YtpmhilaochfpaaaDoor
namespace Go.Proofs.YtpmhilaochfpaaaDoor
set_option maxRecDepth 20000
set_option maxRecDepth 20000
set_option maxRecDepth 20000
set_option maxRecDepth 20000
set_option maxRecDepth 20000
open Go.RowKit
set_option linter.unusedVariables false
set_option linter.unusedSimpArgs false
set_option maxRecDepth 20000
set_option maxHeartbeats 1000000 in
theorem rword_any (s : ByteArray) (w : World) (hs : s.size ≤ 1000000) :
    Calls Tryd.prog 52 #[.string s] w fun e w' => e = .returned (.bool (wordB s.data.toList)) ∧ w' = w := by
  have HW : Hid (wordB s.data.toList = (decide (1 ≤ s.size ∧ s.size ≤ 24) && okR s.data.toList)) := by show wordB _ = _; unfold wordB; rw [lenL]
  generalize wordB s.data.toList = ans at *
  by_cases h1 : s.size < 1
  · have h1z : (s.size : Int) < 1 := by omega
    have HA : Hid (ans = false) := by show ans = false; rw [HW.out, decide_eq_false (by omega)]; rfl
    clear h1
    go_enter Tryd.func52, Tryd.ntmps52
    go_wp2
    go_ret
    exact ⟨ret_bool HA.out.symm, rfl⟩
  by_cases h2 : 24 < s.size
  · have h1z : ¬ (s.size : Int) < 1 := by omega
    have h2z : (24 : Int) < s.size := by omega
    have HA : Hid (ans = false) := by show ans = false; rw [HW.out, decide_eq_false (by omega)]; rfl
    clear h1 h2
    go_enter Tryd.func52, Tryd.ntmps52
    go_wp2
    go_ret
    exact ⟨ret_bool HA.out.symm, rfl⟩
  have h1z : ¬ (s.size : Int) < 1 := by omega
  have h2z : ¬ (24 : Int) < s.size := by omega
  have HA : Hid (okR s.data.toList = ans) := by show _ = ans; rw [HW.out, decide_eq_true (by omega), Bool.true_and]
  clear HW
  go_enter Tryd.func52, Tryd.ntmps52
  go_wp2
  go_loopg [0] (s.size + 1) (fun gk v wx => wx = w ∧ ∃ t : ByteArray, v = .string t ∧ okR t.data.toList = ans ∧ t.size < gk ∧ t.size ≤ 24)
  case atStart => exact ⟨rfl, s, rfl, HA.out, by omega, by omega⟩
  case round =>
    obtain ⟨hwx, t, rfl, ht, hg, h24⟩ := hrel
    subst hwx
    have HT : Hid (okR t.data.toList = ans) := ht
    clear ht h1z h2z HA
    by_cases h0 : 0 < t.size
    · obtain ⟨g', rfl⟩ : ∃ g', gk = g' + 1 := ⟨gk - 1, by omega⟩
      have h0z : (0 : Int) < t.size := by omega
      have hne : t.data.toList ≠ [] := fun e => by have := lenL t; rw [e] at this; simp at this; omega
      have HS : Hid (okR t.data.toList = (!badR t.data.toList && (stands (Lib.decodeL t.data.toList).1 && okR (t.data.toList.drop (Lib.decodeL t.data.toList).2)))) := okR_step _ hne
      have CR := rune_any t wr h0 (by omega)
      unfold rn runeR at CR
      by_cases hb : badR t.data.toList = true
      · rw [hb, if_pos rfl] at CR
        have HN : Hid (ans = false) := by show ans = false; rw [← HT.out, HS.out, hb]; rfl
        clear hne hb
        go_wp2_with (go_at_call 60; refine CR.mono ?_; rintro e w' ⟨rfl, hw⟩; obtain rfl := hw.symm; clear CR)
        go_ret
        exact ⟨ret_bool HN.out.symm, rfl⟩
      · have hbf : badR t.data.toList = false := by simpa using hb
        rw [hbf, if_neg (by simp)] at CR
        have hw1 := Lib.decodeL_width t.data.toList
        have hwl := dl_le _ hne
        rw [lenL] at hwl
        have HS2 : Hid (ans = (stands (Lib.decodeL t.data.toList).1 && okR (t.data.toList.drop (Lib.decodeL t.data.toList).2))) := by show ans = _; rw [← HT.out, HS.out, hbf]; rfl
        obtain ⟨c, n, hcn⟩ : ∃ c n, Lib.decodeL t.data.toList = (c, n) := ⟨_, _, rfl⟩
        have HC : Hid (Lib.decodeL t.data.toList = (c, n)) := hcn
        rw [hcn] at CR hw1 hwl
        have HS3 : Hid (ans = (stands c && okR (t.data.toList.drop n))) := by show ans = _; rw [HS2.out, HC.out]
        dsimp only at CR hw1 hwl
        have hn0 : ((n : Int) == 0) = false := by rw [beq_eq_false_iff_ne]; omega
        have hnz : (n : Int) ≤ t.size := by omega
        have CI := inw_any c wr
        clear hcn hb hbf HS HS2 HC hne HT
        by_cases hst : stands c = true
        · obtain ⟨t', ht'⟩ : ∃ t', t.extract n t.size = t' := ⟨_, rfl⟩
          have HL : Hid (t'.data.toList = t.data.toList.drop n) := by show _ = _; rw [← ht', ext_list]
          have hz' : t'.size + n = t.size := by rw [← lenL t', HL.out, List.length_drop, lenL]; omega
          rw [hst] at CI
          have HX : Hid (okR t'.data.toList = ans) := by show _ = ans; rw [HS3.out, hst, HL.out]; rfl
          clear hst
          go_wp2_with (first | (go_at_call 60; refine CR.mono ?_; rintro e w' ⟨rfl, hw⟩; obtain rfl := hw.symm; clear CR) | (go_at_call 61; refine CI.mono ?_; rintro e w' ⟨rfl, hw⟩; obtain rfl := hw.symm; clear CI))
          go_roundg g'
          case measure => omega
          case rel => exact ⟨rfl, t', rfl, HX.out, by omega, by omega⟩
        · have hsf : stands c = false := by simpa using hst
          rw [hsf] at CI
          have HN : Hid (ans = false) := by show ans = false; rw [HS3.out, hsf]; rfl
          clear hst hsf
          go_wp2_with (first | (go_at_call 60; refine CR.mono ?_; rintro e w' ⟨rfl, hw⟩; obtain rfl := hw.symm; clear CR) | (go_at_call 61; refine CI.mono ?_; rintro e w' ⟨rfl, hw⟩; obtain rfl := hw.symm; clear CI))
          go_ret
          exact ⟨ret_bool HN.out.symm, rfl⟩
    · have h0z : ¬ (0 : Int) < t.size := by omega
      have HN : Hid (ans = true) := by
        show ans = true
        have : t.data.toList = [] := List.eq_nil_of_length_eq_zero (by rw [lenL]; omega)
        rw [← HT.out, this]; rfl
      clear h0
      go_wp2
      go_ret
      exact ⟨ret_bool HN.out.symm, rfl⟩

set_option maxHeartbeats 1000000 in
theorem word_any (s : ByteArray) (w : World) (hs : s.size ≤ 1000000) (hV : Vars w) :
    Calls Tryd.prog 58 #[.string s] w fun e w' => e = .returned (.bool (wordB s.data.toList)) ∧ Below w.heap.size w w' := by
  have HW : Hid (wordB s.data.toList = (decide (1 ≤ s.size ∧ s.size ≤ 24) && (Lib.validD s.data.toList && allR s.data.toList))) := by show wordB _ = _; unfold wordB; rw [lenL, okR_is]
  generalize wordB s.data.toList = ans at *
  have CV := valid_any s w hs hV
  by_cases h1 : s.size < 1
  · have h1e : s = ByteArray.empty := by
      have : s.data.toList = [] := List.eq_nil_of_length_eq_zero (by rw [lenL]; omega)
      cases s; simp at this; subst this; rfl
    have HA : Hid (ans = false) := by show ans = false; rw [HW.out, decide_eq_false (by omega)]; rfl
    clear h1 HW CV hV hs
    subst h1e
    go_enter Tryd.func58, Tryd.ntmps58
    go_wp2
    go_ret
    exact ⟨ret_bool HA.out.symm, Below.refl _ _⟩
  have hE : s.toList.isEmpty = false := by
    rw [Go.ByteArray.toList_eq, Bool.eq_false_iff]
    intro e
    have := lenL s
    rw [List.isEmpty_iff.1 e] at this; simp at this; omega
  by_cases h2 : 24 < s.size
  · have h2z : (24 : Int) < s.size := by omega
    have HA : Hid (ans = false) := by show ans = false; rw [HW.out, decide_eq_false (by omega)]; rfl
    clear h1 h2 HW CV hV
    go_enter Tryd.func58, Tryd.ntmps58
    go_wp2
    go_ret
    exact ⟨ret_bool HA.out.symm, Below.refl _ _⟩
  have h2z : ¬ (24 : Int) < s.size := by omega
  have HA : Hid (ans = (Lib.validD s.data.toList && allR s.data.toList)) := by show ans = _; rw [HW.out, decide_eq_true (by omega), Bool.true_and]
  clear HW hV
  generalize Lib.validD s.data.toList = V at *
  cases V with
  | false =>
    have HA2 : Hid (ans = false) := HA.out
    clear HA h1 h2
    go_enter Tryd.func58, Tryd.ntmps58
    go_wp2_with (go_at_call 66; refine CV.mono ?_; rintro e w1 ⟨rfl, hb1⟩; clear CV)
    go_ret
    exact ⟨ret_bool HA2.out.symm, hb1⟩
  | true =>
    have HA2 : Hid (allR s.data.toList = ans) := by show _ = ans; rw [HA.out]; rfl
    clear HA h1 h2
    go_enter Tryd.func58, Tryd.ntmps58
    go_wp2_with (go_at_call 66; refine CV.mono ?_; rintro e w1 ⟨rfl, hb1⟩; clear CV)
    have hk0 : (w1.iter s 0).heap[w1.heap.size]? = some (.stringIter s 0) := by simpa using World.iter_heap w1 s 0
    have hb0 : Below w.heap.size w (w1.iter s 0) := hb1.alloc hb1.size _
    have hsz1 := hb1.size
    clear hb1 hE h2z
    go_loopw [4] (fun _ wr => ∃ pos : Nat, pos ≤ s.size ∧ wr.heap[w1.heap.size]? = some (.stringIter s pos) ∧ Below w.heap.size w wr ∧ allR (s.data.toList.drop pos) = ans) (fun _ wr => s.size - wr.iterPos w1.heap.size)
    case atStart => exact ⟨0, Nat.zero_le _, hk0, hb0, by rw [List.drop_zero]; exact HA2.out⟩
    case round =>
      obtain ⟨pos, hps, hk, hbw, hal⟩ := hrel
      have HT : Hid (allR (s.data.toList.drop pos) = ans) := hal
      clear hal hk0 hb0 HA2
      by_cases hp : pos < s.size
      · have hnx : ∀ ty, (Instr.next (.pointer (some ⟨w1.heap.size, 0, none⟩)) true ty).run Tryd.prog wr = _ := fun ty => Lib.run_next_any_at wr w1.heap.size s pos ty hk hp
        have hit2 := Lib.iterAt_heap wr w1.heap.size s pos (pos + (Utf8.decode s pos).2) hk
        have hbw2 := Lib.below_iterAt hbw (k := w1.heap.size) hsz1 s (pos + (Utf8.decode s pos).2)
        have hmu : wr.iterPos w1.heap.size = pos := by simp [World.iterPos, hk]
        have hne : s.data.toList.drop pos ≠ [] := fun e => by have := congrArg List.length e; rw [List.length_drop, lenL] at this; simp at this; omega
        have hw1 := Lib.decodeL_width (s.data.toList.drop pos)
        have hwl := dl_le _ hne
        rw [List.length_drop, lenL] at hwl
        have HS : Hid (ans = (stands (Utf8.decode s pos).1 && allR (s.data.toList.drop (pos + (Utf8.decode s pos).2)))) := by
          show ans = _
          rw [← HT.out, allR_step _ hne, Lib.decodeL_drop, List.drop_drop]
        rw [Lib.decodeL_drop] at hw1 hwl
        generalize Utf8.decode s pos = dc at *
        obtain ⟨c, n⟩ := dc
        dsimp only at hnx hit2 hbw2 hw1 hwl HS
        generalize wr.iterAt w1.heap.size s (pos + n) = W1 at hnx hit2 hbw2
        have hmu2 : W1.iterPos w1.heap.size = pos + n := by simp [World.iterPos, hit2]
        have CM := may_any c W1
        clear hne HT
        by_cases hst : stands c = true
        · rw [hst] at CM
          have HX : Hid (allR (s.data.toList.drop (pos + n)) = ans) := by show _ = ans; rw [HS.out, hst]; rfl
          clear hst HS
          go_wp2_with (go_at_call 67; refine CM.mono ?_; rintro e w' ⟨rfl, hw⟩; obtain rfl := hw.symm; clear CM)
          go_roundw
          case rel => exact ⟨pos + n, by omega, hit2, hbw2, HX.out⟩
          case measure => rw [hmu, hmu2]; omega
        · have hsf : stands c = false := by simpa using hst
          rw [hsf] at CM
          have HN : Hid (ans = false) := by show ans = false; rw [HS.out, hsf]; rfl
          clear hst hsf HS
          go_wp2_with (go_at_call 67; refine CM.mono ?_; rintro e w' ⟨rfl, hw⟩; obtain rfl := hw.symm; clear CM)
          go_ret
          exact ⟨ret_bool HN.out.symm, hbw2⟩
      · have hnx : ∀ ty, (Instr.next (.pointer (some ⟨w1.heap.size, 0, none⟩)) true ty).run Tryd.prog wr = _ := fun ty => Lib.run_next_end_at wr w1.heap.size s pos ty hk hp
        have HN : Hid (ans = true) := by
          show ans = true
          rw [← HT.out, List.drop_eq_nil_of_le (by rw [lenL]; omega)]; rfl
        clear HT
        go_wp2
        go_ret
        exact ⟨ret_bool HN.out.symm, hbw⟩

theorem is_nil (s : ByteArray) : (s.toList == [110, 105, 108]) = decide (s.data.toList = nil3) := by
  rw [Go.ByteArray.toList_eq, Bool.eq_iff_iff, beq_iff_eq, decide_eq_true_eq]; rfl
def symB (l : List UInt8) : Bool := wordB l && (!numB l && !decide (l = nil3))
set_option maxHeartbeats 1000000 in
theorem issym_any (s : ByteArray) (w : World) (hs : s.size ≤ 1000000) (hV : Vars w) :
    Calls Tryd.prog 49 #[.string s] w fun e w' => e = .returned (.bool (symB s.data.toList)) ∧ Below w.heap.size w w' := by
  have HS : Hid (symB s.data.toList = (wordB s.data.toList && (!numB s.data.toList && !decide (s.data.toList = nil3)))) := rfl
  have HN := is_nil s
  have CW := word_any s w hs hV
  have CN := fun w' => isnum_any s w' hs
  generalize symB s.data.toList = ans at *
  generalize wordB s.data.toList = W at *
  generalize numB s.data.toList = N at *
  generalize decide (s.data.toList = nil3) = Z at *
  clear hV
  cases W with
  | false =>
    go_enter Tryd.func49, Tryd.ntmps49
    go_wp2_with (go_at_call 58; refine CW.mono ?_; rintro e w1 ⟨rfl, hb1⟩; clear CW)
    go_ret
    exact ⟨ret_bool HS.out.symm, hb1⟩
  | true =>
    cases N with
    | true =>
      go_enter Tryd.func49, Tryd.ntmps49
      go_wp2_with (first | (go_at_call 58; refine CW.mono ?_; rintro e w1 ⟨rfl, hb1⟩; clear CW) | (go_at_call 59; refine (CN _).mono ?_; rintro e w2 ⟨rfl, hb2⟩; clear CN))
      go_ret
      exact ⟨ret_bool HS.out.symm, hb1.trans (hb2.mono hb1.size)⟩
    | false =>
      go_enter Tryd.func49, Tryd.ntmps49
      go_wp2_with (first | (go_at_call 58; refine CW.mono ?_; rintro e w1 ⟨rfl, hb1⟩; clear CW) | (go_at_call 59; refine (CN _).mono ?_; rintro e w2 ⟨rfl, hb2⟩; clear CN))
      go_ret
      exact ⟨ret_bool (by rw [HS.out]; simp [bne, HN]), hb1.trans (hb2.mono hb1.size)⟩
end Go.Proofs.YtpmhilaochfpaaaDoor
namespace Go.Proofs.YtpmhilaochfpaaaDoor
set_option maxRecDepth 20000
set_option maxRecDepth 20000
set_option maxRecDepth 20000
set_option maxRecDepth 20000
set_option maxRecDepth 20000
open Go.RowKit
set_option linter.unusedVariables false
set_option linter.unusedSimpArgs false
set_option maxRecDepth 20000
def vv (k n : Int) (s : ByteArray) : Value := .agg #[.int .u8 k, .int .i64 n, .string s]
def chkE (k n : Int) (l : List UInt8) : Int :=
  if 2 < k then 9 else if (n ≠ 0 ∧ k ≠ 1) ∨ (l ≠ [] ∧ k ≠ 2) then 4 else if inB n = false then 12 else if k = 2 ∧ symB l = false then 6 else 0
theorem emp (s : ByteArray) : s.toList.isEmpty = s.data.toList.isEmpty := by rw [Go.ByteArray.toList_eq]
theorem emp_ne {s : ByteArray} (h : s.data.toList ≠ []) : s.toList.isEmpty = false := by rw [emp]; cases hs : s.data.toList with
  | nil => exact absurd hs h
  | cons a b => rfl
theorem emp_eq {s : ByteArray} (h : s.data.toList = []) : s = ByteArray.empty := by cases s; simp at h; subst h; rfl
theorem in0 : inB 0 = true := by decide
theorem ret_i {a b : Int} (h : a = b) : Ending.returned (.int .i64 a) = .returned (.int .i64 b) := by rw [h]
theorem box1 (w : World) (o : Obj) : Below w.heap.size w (w.alloc o) := (Below.refl _ _).alloc (Nat.le_refl _) _
set_option maxHeartbeats 2000000 in
theorem chk_any (k n : Int) (s : ByteArray) (w : World) (h0 : 0 ≤ k) (h255 : k ≤ 255) (hs : s.size ≤ 1000000) (hV : Vars w) :
    Calls Tryd.prog 37 #[vv k n s] w fun e w' => e = .returned (.int .i64 (chkE k n s.data.toList)) ∧ Below w.heap.size w w' := by
  unfold vv
  have CS := fun w' hv => issym_any s w' hs hv
  by_cases h2 : 2 < k
  · skip
    have HA : Hid (chkE k n s.data.toList = 9) := by show chkE _ _ _ = _; unfold chkE; rw [if_pos h2]
    generalize chkE k n s.data.toList = r at *
    go_enter Tryd.func37, Tryd.ntmps37
    go_wp2_with (first | (go_at_call 48; refine (inr_any _ _).mono ?_; rintro e w1 ⟨rfl, hw1⟩; obtain rfl := hw1.symm) | (go_at_call 49; refine (CS _ (hV.below (box1 _ _))).mono ?_; rintro e w2 ⟨rfl, hb2⟩))
    go_ret
    exact ⟨ret_i HA.out.symm, box1 _ _⟩
  obtain h | h | h : k = 0 ∨ k = 1 ∨ k = 2 := by omega
  · subst h
    by_cases hn : n = 0
    · subst hn
      by_cases hl : s.data.toList = []
      · obtain rfl := emp_eq hl
        have HA : Hid (chkE 0 0 ByteArray.empty.data.toList = 0) := by show chkE _ _ _ = _; unfold chkE; simp [in0]
        generalize chkE 0 0 ByteArray.empty.data.toList = r at *
        have hin := in0
        go_enter Tryd.func37, Tryd.ntmps37
        go_wp2_with (first | (go_at_call 48; refine (inr_any _ _).mono ?_; rintro e w1 ⟨rfl, hw1⟩; obtain rfl := hw1.symm) | (go_at_call 49; refine (CS _ (hV.below (box1 _ _))).mono ?_; rintro e w2 ⟨rfl, hb2⟩))
        go_ret
        exact ⟨ret_i HA.out.symm, box1 _ _⟩
      · have hE := emp_ne hl
        have HA : Hid (chkE 0 0 s.data.toList = 4) := by show chkE _ _ _ = _; unfold chkE; rw [if_neg (by decide), if_pos (.inr ⟨hl, by decide⟩)]
        generalize chkE 0 0 s.data.toList = r at *
        clear hl
        go_enter Tryd.func37, Tryd.ntmps37
        go_wp2_with (first | (go_at_call 48; refine (inr_any _ _).mono ?_; rintro e w1 ⟨rfl, hw1⟩; obtain rfl := hw1.symm) | (go_at_call 49; refine (CS _ (hV.below (box1 _ _))).mono ?_; rintro e w2 ⟨rfl, hb2⟩))
        go_ret
        exact ⟨ret_i HA.out.symm, box1 _ _⟩
    · skip
      have HA : Hid (chkE 0 n s.data.toList = 4) := by show chkE _ _ _ = _; unfold chkE; rw [if_neg (by decide), if_pos (.inl ⟨hn, by decide⟩)]
      generalize chkE 0 n s.data.toList = r at *
      have hn' : ((n : Int) != 0) = true := by rw [bne_iff_ne]; exact hn
      clear hn
      go_enter Tryd.func37, Tryd.ntmps37
      go_wp2_with (first | (go_at_call 48; refine (inr_any _ _).mono ?_; rintro e w1 ⟨rfl, hw1⟩; obtain rfl := hw1.symm) | (go_at_call 49; refine (CS _ (hV.below (box1 _ _))).mono ?_; rintro e w2 ⟨rfl, hb2⟩))
      go_ret
      exact ⟨ret_i HA.out.symm, box1 _ _⟩
  · subst h
    by_cases hn : n = 0
    · subst hn
      by_cases hl : s.data.toList = []
      · obtain rfl := emp_eq hl
        have HA : Hid (chkE 1 0 ByteArray.empty.data.toList = 0) := by show chkE _ _ _ = _; unfold chkE; simp [in0]
        generalize chkE 1 0 ByteArray.empty.data.toList = r at *
        have hin := in0
        go_enter Tryd.func37, Tryd.ntmps37
        go_wp2_with (first | (go_at_call 48; refine (inr_any _ _).mono ?_; rintro e w1 ⟨rfl, hw1⟩; obtain rfl := hw1.symm) | (go_at_call 49; refine (CS _ (hV.below (box1 _ _))).mono ?_; rintro e w2 ⟨rfl, hb2⟩))
        go_ret
        exact ⟨ret_i HA.out.symm, box1 _ _⟩
      · have hE := emp_ne hl
        have HA : Hid (chkE 1 0 s.data.toList = 4) := by show chkE _ _ _ = _; unfold chkE; rw [if_neg (by decide), if_pos (.inr ⟨hl, by decide⟩)]
        generalize chkE 1 0 s.data.toList = r at *
        clear hl
        go_enter Tryd.func37, Tryd.ntmps37
        go_wp2_with (first | (go_at_call 48; refine (inr_any _ _).mono ?_; rintro e w1 ⟨rfl, hw1⟩; obtain rfl := hw1.symm) | (go_at_call 49; refine (CS _ (hV.below (box1 _ _))).mono ?_; rintro e w2 ⟨rfl, hb2⟩))
        go_ret
        exact ⟨ret_i HA.out.symm, box1 _ _⟩
    · by_cases hl : s.data.toList = []
      · obtain rfl := emp_eq hl
        by_cases hi : inB n = true
        · skip
          have HA : Hid (chkE 1 n ByteArray.empty.data.toList = 0) := by show chkE _ _ _ = _; unfold chkE; rw [hi]; simp
          generalize chkE 1 n ByteArray.empty.data.toList = r at *
          have hn' : ((n : Int) != 0) = true := by rw [bne_iff_ne]; exact hn
          clear hn
          go_enter Tryd.func37, Tryd.ntmps37
          go_wp2_with (first | (go_at_call 48; refine (inr_any _ _).mono ?_; rintro e w1 ⟨rfl, hw1⟩; obtain rfl := hw1.symm) | (go_at_call 49; refine (CS _ (hV.below (box1 _ _))).mono ?_; rintro e w2 ⟨rfl, hb2⟩))
          go_ret
          exact ⟨ret_i HA.out.symm, box1 _ _⟩
        · have hif : inB n = false := by simpa using hi
          have HA : Hid (chkE 1 n ByteArray.empty.data.toList = 12) := by show chkE _ _ _ = _; unfold chkE; rw [hif]; simp
          generalize chkE 1 n ByteArray.empty.data.toList = r at *
          have hn' : ((n : Int) != 0) = true := by rw [bne_iff_ne]; exact hn
          clear hn hi
          go_enter Tryd.func37, Tryd.ntmps37
          go_wp2_with (first | (go_at_call 48; refine (inr_any _ _).mono ?_; rintro e w1 ⟨rfl, hw1⟩; obtain rfl := hw1.symm) | (go_at_call 49; refine (CS _ (hV.below (box1 _ _))).mono ?_; rintro e w2 ⟨rfl, hb2⟩))
          go_ret
          exact ⟨ret_i HA.out.symm, box1 _ _⟩
      · have hE := emp_ne hl
        have HA : Hid (chkE 1 n s.data.toList = 4) := by show chkE _ _ _ = _; unfold chkE; rw [if_neg (by decide), if_pos (.inr ⟨hl, by decide⟩)]
        generalize chkE 1 n s.data.toList = r at *
        have hn' : ((n : Int) != 0) = true := by rw [bne_iff_ne]; exact hn
        clear hl hn
        go_enter Tryd.func37, Tryd.ntmps37
        go_wp2_with (first | (go_at_call 48; refine (inr_any _ _).mono ?_; rintro e w1 ⟨rfl, hw1⟩; obtain rfl := hw1.symm) | (go_at_call 49; refine (CS _ (hV.below (box1 _ _))).mono ?_; rintro e w2 ⟨rfl, hb2⟩))
        go_ret
        exact ⟨ret_i HA.out.symm, box1 _ _⟩
  · subst h
    by_cases hn : n = 0
    · subst hn
      by_cases hl : s.data.toList = []
      · obtain rfl := emp_eq hl
        have hsf : symB ByteArray.empty.data.toList = false := by decide +kernel
        have HA : Hid (chkE 2 0 ByteArray.empty.data.toList = 6) := by show chkE _ _ _ = _; unfold chkE; rw [hsf]; simp [in0]
        generalize chkE 2 0 ByteArray.empty.data.toList = r at *
        have hin := in0
        rw [hsf] at CS
        clear hsf hl
        go_enter Tryd.func37, Tryd.ntmps37
        go_wp2_with (first | (go_at_call 48; refine (inr_any _ _).mono ?_; rintro e w1 ⟨rfl, hw1⟩; obtain rfl := hw1.symm) | (go_at_call 49; refine (CS _ (hV.below (box1 _ _))).mono ?_; rintro e w2 ⟨rfl, hb2⟩))
        go_ret
        exact ⟨ret_i HA.out.symm, (box1 _ _).trans (hb2.mono (box1 _ _).size)⟩
      · have hE := emp_ne hl
        clear hl
        by_cases hsy : symB s.data.toList = true
        · skip
          have HA : Hid (chkE 2 0 s.data.toList = 0) := by show chkE _ _ _ = _; unfold chkE; rw [hsy]; simp [in0]
          generalize chkE 2 0 s.data.toList = r at *
          have hin := in0
          rw [hsy] at CS
          clear hsy
          go_enter Tryd.func37, Tryd.ntmps37
          go_wp2_with (first | (go_at_call 48; refine (inr_any _ _).mono ?_; rintro e w1 ⟨rfl, hw1⟩; obtain rfl := hw1.symm) | (go_at_call 49; refine (CS _ (hV.below (box1 _ _))).mono ?_; rintro e w2 ⟨rfl, hb2⟩))
          go_ret
          exact ⟨ret_i HA.out.symm, (box1 _ _).trans (hb2.mono (box1 _ _).size)⟩
        · have hsf : symB s.data.toList = false := by simpa using hsy
          have HA : Hid (chkE 2 0 s.data.toList = 6) := by show chkE _ _ _ = _; unfold chkE; rw [hsf]; simp [in0]
          generalize chkE 2 0 s.data.toList = r at *
          have hin := in0
          rw [hsf] at CS
          clear hsy hsf
          go_enter Tryd.func37, Tryd.ntmps37
          go_wp2_with (first | (go_at_call 48; refine (inr_any _ _).mono ?_; rintro e w1 ⟨rfl, hw1⟩; obtain rfl := hw1.symm) | (go_at_call 49; refine (CS _ (hV.below (box1 _ _))).mono ?_; rintro e w2 ⟨rfl, hb2⟩))
          go_ret
          exact ⟨ret_i HA.out.symm, (box1 _ _).trans (hb2.mono (box1 _ _).size)⟩
    · skip
      have HA : Hid (chkE 2 n s.data.toList = 4) := by show chkE _ _ _ = _; unfold chkE; rw [if_neg (by decide), if_pos (.inl ⟨hn, by decide⟩)]
      generalize chkE 2 n s.data.toList = r at *
      have hn' : ((n : Int) != 0) = true := by rw [bne_iff_ne]; exact hn
      clear hn
      go_enter Tryd.func37, Tryd.ntmps37
      go_wp2_with (first | (go_at_call 48; refine (inr_any _ _).mono ?_; rintro e w1 ⟨rfl, hw1⟩; obtain rfl := hw1.symm) | (go_at_call 49; refine (CS _ (hV.below (box1 _ _))).mono ?_; rintro e w2 ⟨rfl, hb2⟩))
      go_ret
      exact ⟨ret_i HA.out.symm, box1 _ _⟩
end Go.Proofs.YtpmhilaochfpaaaDoor
namespace Go.Proofs.YtpmhilaochfpaaaDoor
set_option maxRecDepth 20000
set_option maxRecDepth 20000
set_option maxRecDepth 20000
set_option maxRecDepth 20000
set_option maxRecDepth 20000
open Go.RowKit
set_option linter.unusedVariables false
set_option linter.unusedSimpArgs false
set_option maxRecDepth 20000
theorem bcell {W w1 : World} (hb : Below W.heap.size W w1) : (∀ b o, b < W.heap.size → w1.cell? ⟨b, o, none⟩ = W.cell? ⟨b, o, none⟩) ∧ (∀ b o, b < W.heap.size → w1.frozen? ⟨b, o, none⟩ = W.frozen? ⟨b, o, none⟩) :=
  ⟨fun b o h => hb.cell (p := ⟨b, o, none⟩) h, fun b o h => hb.frozen (p := ⟨b, o, none⟩) h⟩
def es : ByteArray := ByteArray.empty
theorem set3 {B : Nat} {w w1 : World} (h : Below B w w1) (b : Nat) (hb : B ≤ b) (x y z : Value) : Below B w (((w1.setCell ⟨b, 0, none⟩ x).setCell ⟨b, 1, none⟩ y).setCell ⟨b, 2, none⟩ z) :=
  ((h.setCell hb x).setCell hb y).setCell hb z
theorem up1 {w w1 : World} {o : Obj} (hb : Below (w.alloc o).heap.size (w.alloc o) w1) : Below w.heap.size w w1 := (box1 w o).trans (hb.mono (box1 w o).size)
end Go.Proofs.YtpmhilaochfpaaaDoor
namespace Go.Proofs.YtpmhilaochfpaaaDoor
set_option maxRecDepth 20000
set_option maxRecDepth 20000
set_option maxRecDepth 20000
set_option maxRecDepth 20000
set_option maxRecDepth 20000
open Go.RowKit
set_option linter.unusedVariables false
set_option linter.unusedSimpArgs false
set_option maxRecDepth 20000
theorem chk0 {k n : Int} {l : List UInt8} (h : chkE k n l = 0) : k ≤ 2 ∧ -1099511627776 ≤ n ∧ n ≤ 1099511627776 ∧ (k ≠ 1 → n = 0) ∧ (k ≠ 2 → l = []) ∧ (k = 2 → symB l = true) := by
  unfold chkE at h
  split at h
  · cases h
  · split at h
    · cases h
    · rename_i h1 h2
      split at h
      · cases h
      · rename_i h3
        simp only [Bool.not_eq_false, inB, decide_eq_true_eq] at h3
        split at h
        · cases h
        · rename_i h4
          refine ⟨by omega, h3.1, h3.2, fun hk => ?_, fun hk => ?_, fun hk => ?_⟩
          · by_cases hn : n = 0
            · exact hn
            · exact absurd (.inl ⟨hn, hk⟩) h2
          · by_cases hl : l = []
            · exact hl
            · exact absurd (.inr ⟨hl, hk⟩) h2
          · by_cases hs : symB l = true
            · exact hs
            · exact absurd ⟨hk, by simpa using hs⟩ h4
end Go.Proofs.YtpmhilaochfpaaaDoor
namespace Go.Proofs.YtpmhilaochfpaaaDoor
set_option maxRecDepth 20000
set_option maxRecDepth 20000
set_option maxRecDepth 20000
open Go.RowKit
set_option linter.unusedVariables false
set_option linter.unusedSimpArgs false
set_option maxRecDepth 20000
set_option maxHeartbeats 2000000 in
theorem rchk_any (k n : Int) (s : ByteArray) (w : World) (h0 : 0 ≤ k) (h255 : k ≤ 255) (hs : s.size ≤ 1000000) :
    Calls Tryd.prog 40 #[vv k n s] w fun e w' => e = .returned (.int .i64 (chkE k n s.data.toList)) ∧ Below w.heap.size w w' := by
  unfold vv
  have CW := fun w' => rword_any s w' hs
  have CN := fun w' => risnum_any s w' hs
  have HNil := is_nil s
  have HSy : Hid (symB s.data.toList = (wordB s.data.toList && (!numB s.data.toList && !decide (s.data.toList = nil3)))) := rfl
  by_cases h2 : 2 < k
  · skip
    have HA : Hid (chkE k n s.data.toList = 9) := by show chkE _ _ _ = _; unfold chkE; rw [if_pos h2]
    generalize chkE k n s.data.toList = r at *
    go_enter Tryd.func40, Tryd.ntmps40
    go_wp2_with (first | (go_at_call 52; refine (CW _).mono ?_; rintro e w1 ⟨rfl, hw1⟩; obtain rfl := hw1.symm) | (go_at_call 53; refine (CN _).mono ?_; rintro e w2 ⟨rfl, hw2⟩; obtain rfl := hw2.symm))
    go_ret
    exact ⟨ret_i HA.out.symm, box1 _ _⟩
  obtain h | h | h : k = 0 ∨ k = 1 ∨ k = 2 := by omega
  · subst h
    by_cases hn : n = 0
    · subst hn
      by_cases hl : s.data.toList = []
      · obtain rfl := emp_eq hl
        have HA : Hid (chkE 0 0 ByteArray.empty.data.toList = 0) := by show chkE _ _ _ = _; unfold chkE; simp [in0]
        generalize chkE 0 0 ByteArray.empty.data.toList = r at *
        have hin := in0
        go_enter Tryd.func40, Tryd.ntmps40
        go_wp2_with (first | (go_at_call 52; refine (CW _).mono ?_; rintro e w1 ⟨rfl, hw1⟩; obtain rfl := hw1.symm) | (go_at_call 53; refine (CN _).mono ?_; rintro e w2 ⟨rfl, hw2⟩; obtain rfl := hw2.symm))
        go_ret
        exact ⟨ret_i HA.out.symm, box1 _ _⟩
      · have hE := emp_ne hl
        have HA : Hid (chkE 0 0 s.data.toList = 4) := by show chkE _ _ _ = _; unfold chkE; rw [if_neg (by decide), if_pos (.inr ⟨hl, by decide⟩)]
        generalize chkE 0 0 s.data.toList = r at *
        clear hl
        go_enter Tryd.func40, Tryd.ntmps40
        go_wp2_with (first | (go_at_call 52; refine (CW _).mono ?_; rintro e w1 ⟨rfl, hw1⟩; obtain rfl := hw1.symm) | (go_at_call 53; refine (CN _).mono ?_; rintro e w2 ⟨rfl, hw2⟩; obtain rfl := hw2.symm))
        go_ret
        exact ⟨ret_i HA.out.symm, box1 _ _⟩
    · skip
      have HA : Hid (chkE 0 n s.data.toList = 4) := by show chkE _ _ _ = _; unfold chkE; rw [if_neg (by decide), if_pos (.inl ⟨hn, by decide⟩)]
      generalize chkE 0 n s.data.toList = r at *
      have hn' : ((n : Int) != 0) = true := by rw [bne_iff_ne]; exact hn
      clear hn
      go_enter Tryd.func40, Tryd.ntmps40
      go_wp2_with (first | (go_at_call 52; refine (CW _).mono ?_; rintro e w1 ⟨rfl, hw1⟩; obtain rfl := hw1.symm) | (go_at_call 53; refine (CN _).mono ?_; rintro e w2 ⟨rfl, hw2⟩; obtain rfl := hw2.symm))
      go_ret
      exact ⟨ret_i HA.out.symm, box1 _ _⟩
  · subst h
    by_cases hn : n = 0
    · subst hn
      by_cases hl : s.data.toList = []
      · obtain rfl := emp_eq hl
        have HA : Hid (chkE 1 0 ByteArray.empty.data.toList = 0) := by show chkE _ _ _ = _; unfold chkE; simp [in0]
        generalize chkE 1 0 ByteArray.empty.data.toList = r at *
        have hin := in0
        go_enter Tryd.func40, Tryd.ntmps40
        go_wp2_with (first | (go_at_call 52; refine (CW _).mono ?_; rintro e w1 ⟨rfl, hw1⟩; obtain rfl := hw1.symm) | (go_at_call 53; refine (CN _).mono ?_; rintro e w2 ⟨rfl, hw2⟩; obtain rfl := hw2.symm))
        go_ret
        exact ⟨ret_i HA.out.symm, box1 _ _⟩
      · have hE := emp_ne hl
        have HA : Hid (chkE 1 0 s.data.toList = 4) := by show chkE _ _ _ = _; unfold chkE; rw [if_neg (by decide), if_pos (.inr ⟨hl, by decide⟩)]
        generalize chkE 1 0 s.data.toList = r at *
        clear hl
        go_enter Tryd.func40, Tryd.ntmps40
        go_wp2_with (first | (go_at_call 52; refine (CW _).mono ?_; rintro e w1 ⟨rfl, hw1⟩; obtain rfl := hw1.symm) | (go_at_call 53; refine (CN _).mono ?_; rintro e w2 ⟨rfl, hw2⟩; obtain rfl := hw2.symm))
        go_ret
        exact ⟨ret_i HA.out.symm, box1 _ _⟩
    · by_cases hl : s.data.toList = []
      · obtain rfl := emp_eq hl
        by_cases hi : inB n = true
        · skip
          have HA : Hid (chkE 1 n ByteArray.empty.data.toList = 0) := by show chkE _ _ _ = _; unfold chkE; rw [hi]; simp
          generalize chkE 1 n ByteArray.empty.data.toList = r at *
          have hn' : ((n : Int) != 0) = true := by rw [bne_iff_ne]; exact hn
          simp only [inB, decide_eq_true_eq] at hi
          have i1 : ¬ n < -1099511627776 := by omega
          have i2 : ¬ 1099511627776 < n := by omega
          clear hn
          go_enter Tryd.func40, Tryd.ntmps40
          go_wp2_with (first | (go_at_call 52; refine (CW _).mono ?_; rintro e w1 ⟨rfl, hw1⟩; obtain rfl := hw1.symm) | (go_at_call 53; refine (CN _).mono ?_; rintro e w2 ⟨rfl, hw2⟩; obtain rfl := hw2.symm))
          go_ret
          exact ⟨ret_i HA.out.symm, box1 _ _⟩
        · have hif : inB n = false := by simpa using hi
          have HA : Hid (chkE 1 n ByteArray.empty.data.toList = 12) := by show chkE _ _ _ = _; unfold chkE; rw [hif]; simp
          generalize chkE 1 n ByteArray.empty.data.toList = r at *
          have hn' : ((n : Int) != 0) = true := by rw [bne_iff_ne]; exact hn
          simp only [inB, decide_eq_false_iff_not] at hif
          have hif' : n < -1099511627776 ∨ (¬ n < -1099511627776 ∧ 1099511627776 < n) := by omega
          clear hn hi hif
          rcases hif' with i1 | ⟨i1, i2⟩
          all_goals
            go_enter Tryd.func40, Tryd.ntmps40
            go_wp2_with (first | (go_at_call 52; refine (CW _).mono ?_; rintro e w1 ⟨rfl, hw1⟩; obtain rfl := hw1.symm) | (go_at_call 53; refine (CN _).mono ?_; rintro e w2 ⟨rfl, hw2⟩; obtain rfl := hw2.symm))
            go_ret
            exact ⟨ret_i HA.out.symm, box1 _ _⟩
      · have hE := emp_ne hl
        have HA : Hid (chkE 1 n s.data.toList = 4) := by show chkE _ _ _ = _; unfold chkE; rw [if_neg (by decide), if_pos (.inr ⟨hl, by decide⟩)]
        generalize chkE 1 n s.data.toList = r at *
        have hn' : ((n : Int) != 0) = true := by rw [bne_iff_ne]; exact hn
        clear hl hn
        go_enter Tryd.func40, Tryd.ntmps40
        go_wp2_with (first | (go_at_call 52; refine (CW _).mono ?_; rintro e w1 ⟨rfl, hw1⟩; obtain rfl := hw1.symm) | (go_at_call 53; refine (CN _).mono ?_; rintro e w2 ⟨rfl, hw2⟩; obtain rfl := hw2.symm))
        go_ret
        exact ⟨ret_i HA.out.symm, box1 _ _⟩
  · subst h
    by_cases hn : n = 0
    · subst hn
      by_cases hl : s.data.toList = []
      · obtain rfl := emp_eq hl
        have hsf : symB ByteArray.empty.data.toList = false := by decide +kernel
        have hwf : wordB ByteArray.empty.data.toList = false := by decide +kernel
        have HA : Hid (chkE 2 0 ByteArray.empty.data.toList = 6) := by show chkE _ _ _ = _; unfold chkE; rw [hsf]; simp [in0]
        generalize chkE 2 0 ByteArray.empty.data.toList = r at *
        rw [hwf] at CW
        clear hsf hwf hl HSy HNil
        go_enter Tryd.func40, Tryd.ntmps40
        go_wp2_with (first | (go_at_call 52; refine (CW _).mono ?_; rintro e w1 ⟨rfl, hw1⟩; obtain rfl := hw1.symm) | (go_at_call 53; refine (CN _).mono ?_; rintro e w2 ⟨rfl, hw2⟩; obtain rfl := hw2.symm))
        go_ret
        exact ⟨ret_i HA.out.symm, box1 _ _⟩
      · have hE := emp_ne hl
        clear hl
        generalize decide (s.data.toList = nil3) = Z at *
        generalize wordB s.data.toList = Wb at *
        generalize numB s.data.toList = Nb at *
        have HA0 : Hid (chkE 2 0 s.data.toList = if symB s.data.toList = false then 6 else 0) := by show chkE _ _ _ = _; unfold chkE; simp [in0]
        have HA1 : Hid (chkE 2 0 s.data.toList = if (Wb && (!Nb && !Z)) = false then 6 else 0) := by show chkE _ _ _ = _; rw [HA0.out, HSy.out]
        generalize chkE 2 0 s.data.toList = r at *
        clear HA0 HSy
        cases Wb <;> cases Nb <;> cases Z
        all_goals
          have HA : Hid (r = _) := HA1.out
          clear HA1
          go_enter Tryd.func40, Tryd.ntmps40
          go_wp2_with (first | (go_at_call 52; refine (CW _).mono ?_; rintro e w1 ⟨rfl, hw1⟩; obtain rfl := hw1.symm) | (go_at_call 53; refine (CN _).mono ?_; rintro e w2 ⟨rfl, hw2⟩; obtain rfl := hw2.symm))
          go_ret
          exact ⟨ret_i HA.out.symm, box1 _ _⟩
    · skip
      have HA : Hid (chkE 2 n s.data.toList = 4) := by show chkE _ _ _ = _; unfold chkE; rw [if_neg (by decide), if_pos (.inl ⟨hn, by decide⟩)]
      generalize chkE 2 n s.data.toList = r at *
      have hn' : ((n : Int) != 0) = true := by rw [bne_iff_ne]; exact hn
      clear hn
      go_enter Tryd.func40, Tryd.ntmps40
      go_wp2_with (first | (go_at_call 52; refine (CW _).mono ?_; rintro e w1 ⟨rfl, hw1⟩; obtain rfl := hw1.symm) | (go_at_call 53; refine (CN _).mono ?_; rintro e w2 ⟨rfl, hw2⟩; obtain rfl := hw2.symm))
      go_ret
      exact ⟨ret_i HA.out.symm, box1 _ _⟩
end Go.Proofs.YtpmhilaochfpaaaDoor
namespace Go.Proofs.YtpmhilaochfpaaaDoor
set_option maxRecDepth 20000
open Go.RowKit
set_option linter.unusedVariables false
set_option linter.unusedSimpArgs false
set_option maxRecDepth 20000
theorem Own.mono {w : World} {b b' : Nat} {v : Value} {zs : List Int} (h : Own w b v zs) (hb : b' ≤ b) : Own w b' v zs := by
  unfold Own World.ownsRow at *
  obtain ⟨h1, h2 | ⟨g, cap, cur, h3, h4, h5⟩⟩ := h
  · exact ⟨h1, .inl h2⟩
  · exact ⟨h1, .inr ⟨g, cap, cur, h3, Nat.le_trans hb h4, h5⟩⟩
theorem lit1 (w : World) (k : Int) : Own (w.alloc (.cells #[.int .u8 k] 5)) w.heap.size (.slice (some ⟨w.heap.size, 0, none⟩) 1 1) [k] := World.ownsRow_lit w #[.int .u8 k] 1 (Nat.le_refl _) (by decide) rfl
def rstL (k n : Int) (s : ByteArray) : List Int := if k = 1 then signL n else if k = 2 then textL s else []
def putL13 (k n : Int) (s : ByteArray) : List Int := if chkE k n s.data.toList ≠ 0 then [] else k :: rstL k n s
theorem sym_len {l : List UInt8} (h : symB l = true) : 1 ≤ l.length ∧ l.length ≤ 24 := by
  unfold symB wordB at h
  simp only [Bool.and_eq_true, decide_eq_true_eq] at h
  exact h.1.1
set_option maxHeartbeats 400000 in
theorem rest0 (n : Int) (s : ByteArray) (w : World) : Calls Tryd.prog 38 #[vv 0 n s] w fun e w' => e = .returned (.tuple #[.slice none 0 0, .int .i64 0]) ∧ Below w.heap.size w w' := by
  unfold vv
  go_enter Tryd.func38, Tryd.ntmps38
  go_wp2
  go_ret2
  exact ⟨rfl, box1 _ _⟩
set_option maxHeartbeats 400000 in
theorem rest1 (n : Int) (s : ByteArray) (w : World) (h0 : -1099511627776 ≤ n) (h1 : n ≤ 1099511627776) : Calls Tryd.prog 38 #[vv 1 n s] w fun e w' => ∃ g c, e = .returned (.tuple #[.slice (some ⟨g, 0, none⟩) 6 c, .int .i64 0]) ∧ Own w' w.heap.size (.slice (some ⟨g, 0, none⟩) 6 c) (signL n) ∧ Below w.heap.size w w' := by
  unfold vv
  have CS := fun w' => sign_any n w'
  have e0 : signE n = 0 := by unfold signE; rw [if_neg (by omega)]
  have el : (signL n).length = 6 := by unfold signL; rw [if_neg (by omega)]; simp [dig]
  rw [e0] at CS
  clear e0
  go_enter Tryd.func38, Tryd.ntmps38
  go_wp2_with (go_at_call 50; refine (CS _).mono ?_; rintro e w1 ⟨v, rfl, ho, hb1⟩; clear CS; obtain ⟨g, c, rfl, _, _, _⟩ := ho.shape 6 el (by decide))
  go_ret2
  exact ⟨g, c, rfl, ho.mono (box1 _ _).size, up1 hb1⟩
set_option maxHeartbeats 400000 in
theorem rest2 (n : Int) (s : ByteArray) (w : World) (h : s.size ≤ 255) : Calls Tryd.prog 38 #[vv 2 n s] w fun e w' => ∃ g c, e = .returned (.tuple #[.slice (some ⟨g, 0, none⟩) (1 + s.size) c, .int .i64 0]) ∧ Own w' w.heap.size (.slice (some ⟨g, 0, none⟩) (1 + s.size) c) (textL s) ∧ Below w.heap.size w w' := by
  unfold vv
  have CS := fun w' => text_any s w'
  have e0 : textE s = 0 := by unfold textE; rw [if_neg (by omega)]
  have el : (textL s).length = 1 + s.size := by unfold textL; rw [if_neg (by omega), List.length_cons, bytesOf_length]; omega
  rw [e0] at CS
  have HL : Hid ((textL s).length = 1 + s.size) := el
  clear e0 el
  go_enter Tryd.func38, Tryd.ntmps38
  go_wp2_with (go_at_call 51; refine (CS _).mono ?_; rintro e w1 ⟨v, rfl, ho, hb1⟩; clear CS; obtain ⟨g, c, rfl, _, _, _⟩ := ho.shape (1 + s.size) HL.out (by omega))
  go_ret2
  exact ⟨g, c, rfl, ho.mono (box1 _ _).size, up1 hb1⟩
--PUTS
def PutPost (k n : Int) (s : ByteArray) (w : World) (e : Ending) (w' : World) : Prop := ∃ v, e = .returned (.tuple #[v, .int .i64 (chkE k n s.data.toList)]) ∧ Own w' w.heap.size v (putL13 k n s) ∧ Below w.heap.size w w'
theorem put_len (k n : Int) (s : ByteArray) (hc : chkE k n s.data.toList = 0) : putL13 k n s = k :: rstL k n s := by unfold putL13; rw [if_neg (by simp [hc])]
set_option maxHeartbeats 1000000 in
theorem put_any130 (n : Int) (s : ByteArray) (w : World) (hs : s.size ≤ 1000000) (hV : Vars w) (hc0 : chkE 0 n s.data.toList = 0) :
    Calls Tryd.prog 24 #[vv 0 n s] w (PutPost 0 n s w) := by
  have CC := fun w' hv => chk_any 0 n s w' (by decide) (by decide) hs hv
  have HQ : Hid (∀ v w', Own w' w.heap.size v (0 :: rstL 0 n s) → Below w.heap.size w w' → PutPost 0 n s w (.returned (.tuple #[v, .int .i64 0])) w') := fun v w' h1 h2 => ⟨v, by rw [hc0], by rw [put_len 0 n s hc0]; exact h1, h2⟩
  obtain ⟨-, hn0, hn1, -, -, hsy⟩ := chk0 hc0
  rw [hc0] at CC
  have HR : Hid (rstL 0 n s = []) := rfl
  generalize PutPost 0 n s w = Post at *
  clear hc0 hsy
  have CR := fun w' => rest0 n s w'
  unfold vv at CR
  unfold vv at CC ⊢
  go_enter Tryd.func24, Tryd.ntmps24
  go_wp2_with (first | (go_at_call 37; refine (CC _ (hV.below (box1 _ _))).mono ?_; rintro e w1 ⟨rfl, hb1⟩; clear CC; obtain ⟨hc, hf⟩ := bcell hb1; have hz : w.heap.size < w1.heap.size := by { have := hb1.size; simp at this; omega }) | (go_at_call 38; refine (CR _).mono ?_; rintro e w2 ⟨rfl, hb2⟩; clear CR; obtain ⟨hc2, hf2⟩ := bcell hb2; have hz2 : w.heap.size < w2.heap.size := by { have := hb2.size; omega }) | (at_builtin; obtain ⟨i0, hi, _⟩ := info_parts Tryd.info5; refine wpList_append_own_none rfl _ _ 53 rfl w2.heap.size 5 i0 1 Tryd.underlying53 hi _ 1 [.int .u8 0] rfl (lit1 w2 0) rfl ?_))
  exact HQ.out _ _ (by rw [HR.out]; exact (lit1 w2 0).mono ((up1 hb1).trans (hb2.mono (up1 hb1).size)).size) (((up1 hb1).trans (hb2.mono (up1 hb1).size)).trans ((box1 w2 _).mono ((up1 hb1).trans (hb2.mono (up1 hb1).size)).size))
set_option maxHeartbeats 1000000 in
theorem put_any131 (n : Int) (s : ByteArray) (w : World) (hs : s.size ≤ 1000000) (hV : Vars w) (hc0 : chkE 1 n s.data.toList = 0) :
    Calls Tryd.prog 24 #[vv 1 n s] w (PutPost 1 n s w) := by
  have CC := fun w' hv => chk_any 1 n s w' (by decide) (by decide) hs hv
  have HQ : Hid (∀ v w', Own w' w.heap.size v (1 :: rstL 1 n s) → Below w.heap.size w w' → PutPost 1 n s w (.returned (.tuple #[v, .int .i64 0])) w') := fun v w' h1 h2 => ⟨v, by rw [hc0], by rw [put_len 1 n s hc0]; exact h1, h2⟩
  obtain ⟨-, hn0, hn1, -, -, hsy⟩ := chk0 hc0
  rw [hc0] at CC
  have HR : Hid (rstL 1 n s = signL n) := rfl
  have HL : Hid ((signL n).length = 6) := by show _ = 6; unfold signL; rw [if_neg (by omega)]; simp [dig]
  have CR := fun w' => rest1 n s w' hn0 hn1
  unfold vv at CR
  generalize PutPost 1 n s w = Post at *
  clear hc0 hsy
  unfold vv at CC ⊢
  go_enter Tryd.func24, Tryd.ntmps24
  go_wp2_with (first | (go_at_call 37; refine (CC _ (hV.below (box1 _ _))).mono ?_; rintro e w1 ⟨rfl, hb1⟩; clear CC; obtain ⟨hc, hf⟩ := bcell hb1; have hz : w.heap.size < w1.heap.size := by { have := hb1.size; simp at this; omega }) | (go_at_call 38; refine (CR _).mono ?_; rintro e w2 ⟨g, c, rfl, ho, hb2⟩; clear CR; obtain ⟨hc2, hf2⟩ := bcell hb2; have hz2 : w.heap.size < w2.heap.size := by { have := hb2.size; omega }) | (at_builtin; refine wp_app rfl _ _ rfl w2.heap.size _ _ [1] (signL n) rfl (lit1 w2 1) g 6 c rfl HL.out (ho.below (box1 w2 _)) 7 (by rw [HL.out]; simp; try omega) (by omega) (by omega) (by simp) ?_; intro g' c' w3 ho3 hb3))
  exact HQ.out _ _ (by rw [HR.out]; exact ho3.mono ((up1 hb1).trans (hb2.mono (up1 hb1).size)).size) (((up1 hb1).trans (hb2.mono (up1 hb1).size)).trans (((box1 w2 _).trans hb3).mono ((up1 hb1).trans (hb2.mono (up1 hb1).size)).size))
set_option maxHeartbeats 1000000 in
theorem put_any132 (n : Int) (s : ByteArray) (w : World) (hs : s.size ≤ 1000000) (hV : Vars w) (hc0 : chkE 2 n s.data.toList = 0) :
    Calls Tryd.prog 24 #[vv 2 n s] w (PutPost 2 n s w) := by
  have CC := fun w' hv => chk_any 2 n s w' (by decide) (by decide) hs hv
  have HQ : Hid (∀ v w', Own w' w.heap.size v (2 :: rstL 2 n s) → Below w.heap.size w w' → PutPost 2 n s w (.returned (.tuple #[v, .int .i64 0])) w') := fun v w' h1 h2 => ⟨v, by rw [hc0], by rw [put_len 2 n s hc0]; exact h1, h2⟩
  obtain ⟨-, hn0, hn1, -, -, hsy⟩ := chk0 hc0
  rw [hc0] at CC
  have hsz := (sym_len (hsy rfl)).2
  rw [lenL] at hsz
  have HR : Hid (rstL 2 n s = textL s) := rfl
  have HL : Hid ((textL s).length = 1 + s.size) := by show _ = _; unfold textL; rw [if_neg (by omega), List.length_cons, bytesOf_length]; omega
  have CR := fun w' => rest2 n s w' (by omega)
  unfold vv at CR
  generalize PutPost 2 n s w = Post at *
  clear hc0 hsy
  unfold vv at CC ⊢
  go_enter Tryd.func24, Tryd.ntmps24
  go_wp2_with (first | (go_at_call 37; refine (CC _ (hV.below (box1 _ _))).mono ?_; rintro e w1 ⟨rfl, hb1⟩; clear CC; obtain ⟨hc, hf⟩ := bcell hb1; have hz : w.heap.size < w1.heap.size := by { have := hb1.size; simp at this; omega }) | (go_at_call 38; refine (CR _).mono ?_; rintro e w2 ⟨g, c, rfl, ho, hb2⟩; clear CR; obtain ⟨hc2, hf2⟩ := bcell hb2; have hz2 : w.heap.size < w2.heap.size := by { have := hb2.size; omega }) | (at_builtin; refine wp_app rfl _ _ rfl w2.heap.size _ _ [2] (textL s) rfl (lit1 w2 2) g (1 + s.size) c rfl HL.out (ho.below (box1 w2 _)) (2 + s.size) (by rw [HL.out]; simp; try omega) (by omega) (by omega) (by simp) ?_; intro g' c' w3 ho3 hb3))
  exact HQ.out _ _ (by rw [HR.out]; exact ho3.mono ((up1 hb1).trans (hb2.mono (up1 hb1).size)).size) (((up1 hb1).trans (hb2.mono (up1 hb1).size)).trans (((box1 w2 _).trans hb3).mono ((up1 hb1).trans (hb2.mono (up1 hb1).size)).size))
set_option maxHeartbeats 1000000 in
theorem put_any13 (k n : Int) (s : ByteArray) (w : World) (h0 : 0 ≤ k) (h255 : k ≤ 255) (hs : s.size ≤ 1000000) (hV : Vars w) :
    Calls Tryd.prog 24 #[vv k n s] w (PutPost k n s w) := by
  by_cases hc0 : chkE k n s.data.toList = 0
  · obtain ⟨hk2, _⟩ := chk0 hc0
    obtain h | h | h : k = 0 ∨ k = 1 ∨ k = 2 := by omega
    · subst h; exact put_any130 n s w hs hV hc0
    · subst h; exact put_any131 n s w hs hV hc0
    · subst h; exact put_any132 n s w hs hV hc0
  · have CC := fun w' hv => chk_any k n s w' h0 h255 hs hv
    have HQ : Hid (∀ w', Below w.heap.size w w' → PutPost k n s w (.returned (.tuple #[.slice none 0 0, .int .i64 (chkE k n s.data.toList)])) w') := fun w' h => ⟨_, rfl, by unfold putL13; rw [if_pos hc0]; exact Own.nil _ _, h⟩
    have hne : ((chkE k n s.data.toList : Int) != 0) = true := by rw [bne_iff_ne]; exact hc0
    generalize PutPost k n s w = Post at *
    unfold vv at CC ⊢
    generalize chkE k n s.data.toList = ce at *
    clear hc0
    go_enter Tryd.func24, Tryd.ntmps24
    go_wp2_with (go_at_call 37; refine (CC _ (hV.below (box1 _ _))).mono ?_; rintro e w1 ⟨rfl, hb1⟩; clear CC; obtain ⟨hc, hf⟩ := bcell hb1; have hz : w.heap.size < w1.heap.size := by { have := hb1.size; simp at this; omega })
    exact HQ.out _ (up1 hb1)
set_option maxHeartbeats 1000000 in
theorem rput_any130 (n : Int) (s : ByteArray) (w : World) (hs : s.size ≤ 1000000) (hc0 : chkE 0 n s.data.toList = 0) :
    Calls Tryd.prog 28 #[vv 0 n s] w (PutPost 0 n s w) := by
  have CC := fun w' => rchk_any 0 n s w' (by decide) (by decide) hs
  have HQ : Hid (∀ v w', Own w' w.heap.size v (0 :: rstL 0 n s) → Below w.heap.size w w' → PutPost 0 n s w (.returned (.tuple #[v, .int .i64 0])) w') := fun v w' h1 h2 => ⟨v, by rw [hc0], by rw [put_len 0 n s hc0]; exact h1, h2⟩
  obtain ⟨-, hn0, hn1, -, -, hsy⟩ := chk0 hc0
  rw [hc0] at CC
  have HR : Hid (rstL 0 n s = []) := rfl
  generalize PutPost 0 n s w = Post at *
  clear hc0 hsy
  unfold vv at CC ⊢
  go_enter Tryd.func28, Tryd.ntmps28
  go_wp2_with (first | (go_at_call 40; refine (CC _).mono ?_; rintro e w1 ⟨rfl, hb1⟩; clear CC; obtain ⟨hc, hf⟩ := bcell hb1; have hz : w.heap.size < w1.heap.size := by { have := hb1.size; simp at this; omega }))
  exact HQ.out _ _ (by rw [HR.out]; exact (lit1 w1 0).mono (up1 hb1).size) ((up1 hb1).trans ((box1 w1 _).mono (up1 hb1).size))
set_option maxHeartbeats 1000000 in
theorem rput_any131 (n : Int) (s : ByteArray) (w : World) (hs : s.size ≤ 1000000) (hc0 : chkE 1 n s.data.toList = 0) :
    Calls Tryd.prog 28 #[vv 1 n s] w (PutPost 1 n s w) := by
  have CC := fun w' => rchk_any 1 n s w' (by decide) (by decide) hs
  have HQ : Hid (∀ v w', Own w' w.heap.size v (1 :: rstL 1 n s) → Below w.heap.size w w' → PutPost 1 n s w (.returned (.tuple #[v, .int .i64 0])) w') := fun v w' h1 h2 => ⟨v, by rw [hc0], by rw [put_len 1 n s hc0]; exact h1, h2⟩
  obtain ⟨-, hn0, hn1, -, -, hsy⟩ := chk0 hc0
  rw [hc0] at CC
  have HR : Hid (rstL 1 n s = signL n) := rfl
  have HL : Hid ((signL n).length = 6) := by show _ = 6; unfold signL; rw [if_neg (by omega)]; simp [dig]
  have CR := fun w' => rsign_any n w'
  have e0 : signE n = 0 := by unfold signE; rw [if_neg (by omega)]
  rw [e0] at CR
  clear e0
  generalize PutPost 1 n s w = Post at *
  clear hc0 hsy
  unfold vv at CC ⊢
  go_enter Tryd.func28, Tryd.ntmps28
  go_wp2_with (first | (go_at_call 40; refine (CC _).mono ?_; rintro e w1 ⟨rfl, hb1⟩; clear CC; obtain ⟨hc, hf⟩ := bcell hb1; have hz : w.heap.size < w1.heap.size := by { have := hb1.size; simp at this; omega }) | (go_at_call 41; refine (CR _).mono ?_; rintro e w2 ⟨v, rfl, ho, hb2⟩; clear CR; obtain ⟨hc2, hf2⟩ := bcell hb2; have hz2 : w.heap.size < w2.heap.size := by { have := hb2.size; simp at this; omega }; obtain ⟨g, c, rfl, _, _, _⟩ := ho.shape 6 HL.out (by omega)) | (at_builtin; refine wp_app rfl _ _ rfl w1.heap.size _ _ [1] (signL n) rfl ((lit1 w1 1).below hb2) g 6 c rfl HL.out ho 7 (by rw [HL.out]; simp; try omega) (by omega) (by omega) (by have := hb2.size; simp at this; omega) ?_; intro g' c' w3 ho3 hb3))
  exact HQ.out _ _ (by rw [HR.out]; exact ho3.mono (up1 hb1).size) ((up1 hb1).trans (((up1 hb2).trans hb3).mono (up1 hb1).size))
set_option maxHeartbeats 1000000 in
theorem rput_any132 (n : Int) (s : ByteArray) (w : World) (hs : s.size ≤ 1000000) (hc0 : chkE 2 n s.data.toList = 0) :
    Calls Tryd.prog 28 #[vv 2 n s] w (PutPost 2 n s w) := by
  have CC := fun w' => rchk_any 2 n s w' (by decide) (by decide) hs
  have HQ : Hid (∀ v w', Own w' w.heap.size v (2 :: rstL 2 n s) → Below w.heap.size w w' → PutPost 2 n s w (.returned (.tuple #[v, .int .i64 0])) w') := fun v w' h1 h2 => ⟨v, by rw [hc0], by rw [put_len 2 n s hc0]; exact h1, h2⟩
  obtain ⟨-, hn0, hn1, -, -, hsy⟩ := chk0 hc0
  rw [hc0] at CC
  have hsz := (sym_len (hsy rfl)).2
  rw [lenL] at hsz
  have HR : Hid (rstL 2 n s = textL s) := rfl
  have HL : Hid ((textL s).length = 1 + s.size) := by show _ = _; unfold textL; rw [if_neg (by omega), List.length_cons, bytesOf_length]; omega
  have CR := fun w' => rtext_any s w'
  have e0 : textE s = 0 := by unfold textE; rw [if_neg (by omega)]
  rw [e0] at CR
  clear e0
  generalize PutPost 2 n s w = Post at *
  clear hc0 hsy
  unfold vv at CC ⊢
  go_enter Tryd.func28, Tryd.ntmps28
  go_wp2_with (first | (go_at_call 40; refine (CC _).mono ?_; rintro e w1 ⟨rfl, hb1⟩; clear CC; obtain ⟨hc, hf⟩ := bcell hb1; have hz : w.heap.size < w1.heap.size := by { have := hb1.size; simp at this; omega }) | (go_at_call 42; refine (CR _).mono ?_; rintro e w2 ⟨v, rfl, ho, hb2⟩; clear CR; obtain ⟨hc2, hf2⟩ := bcell hb2; have hz2 : w.heap.size < w2.heap.size := by { have := hb2.size; simp at this; omega }; obtain ⟨g, c, rfl, _, _, _⟩ := ho.shape (1 + s.size) HL.out (by omega)) | (at_builtin; refine wp_app rfl _ _ rfl w1.heap.size _ _ [2] (textL s) rfl ((lit1 w1 2).below hb2) g (1 + s.size) c rfl HL.out ho (2 + s.size) (by rw [HL.out]; simp; try omega) (by omega) (by omega) (by have := hb2.size; simp at this; omega) ?_; intro g' c' w3 ho3 hb3))
  exact HQ.out _ _ (by rw [HR.out]; exact ho3.mono (up1 hb1).size) ((up1 hb1).trans (((up1 hb2).trans hb3).mono (up1 hb1).size))
set_option maxHeartbeats 1000000 in
theorem rput_any13 (k n : Int) (s : ByteArray) (w : World) (h0 : 0 ≤ k) (h255 : k ≤ 255) (hs : s.size ≤ 1000000) :
    Calls Tryd.prog 28 #[vv k n s] w (PutPost k n s w) := by
  by_cases hc0 : chkE k n s.data.toList = 0
  · obtain ⟨hk2, _⟩ := chk0 hc0
    obtain h | h | h : k = 0 ∨ k = 1 ∨ k = 2 := by omega
    · subst h; exact rput_any130 n s w hs hc0
    · subst h; exact rput_any131 n s w hs hc0
    · subst h; exact rput_any132 n s w hs hc0
  · have CC := fun w' => rchk_any k n s w' h0 h255 hs
    have HQ : Hid (∀ w', Below w.heap.size w w' → PutPost k n s w (.returned (.tuple #[.slice none 0 0, .int .i64 (chkE k n s.data.toList)])) w') := fun w' h => ⟨_, rfl, by unfold putL13; rw [if_pos hc0]; exact Own.nil _ _, h⟩
    have hne : ((chkE k n s.data.toList : Int) != 0) = true := by rw [bne_iff_ne]; exact hc0
    generalize PutPost k n s w = Post at *
    unfold vv at CC ⊢
    generalize chkE k n s.data.toList = ce at *
    clear hc0
    go_enter Tryd.func28, Tryd.ntmps28
    go_wp2_with (go_at_call 40; refine (CC _).mono ?_; rintro e w1 ⟨rfl, hb1⟩; clear CC; obtain ⟨hc, hf⟩ := bcell hb1; have hz : w.heap.size < w1.heap.size := by { have := hb1.size; simp at this; omega })
    exact HQ.out _ (up1 hb1)
end Go.Proofs.YtpmhilaochfpaaaDoor
namespace Go.Proofs.YtpmhilaochfpaaaDoor
set_option maxRecDepth 20000
open Go.RowKit
set_option linter.unusedVariables false
set_option linter.unusedSimpArgs false
set_option maxRecDepth 20000
def tkK (zs : List Int) : Int := zs.getD 0 0
def tkN (zs : List Int) : Int := if tkK zs = 1 then sgdV (zs.drop 1) 0 else 0
def tkS (zs : List Int) : ByteArray := if tkK zs = 2 then rtxS (zs.drop 1) 0 else ByteArray.empty
def tkE (zs : List Int) : Int := if zs = [] then 3 else if tkK zs = 1 then sgdE (zs.drop 1) 0 else if tkK zs = 2 then rtxE (zs.drop 1) 0 else 0
def tkZ (zs : List Int) : List Int := if zs = [] then [] else if tkK zs = 1 then sgdZ (zs.drop 1) 0 else if tkK zs = 2 then rtxZ (zs.drop 1) 0 else zs.drop 1

abbrev RB (B : Nat) := Rq.RdQ (fun b => b < B)
theorem RB.low {B : Nat} {w w' : World} {rb : Nat} {zs : List Int} {e : Int} (h : RB B w rb zs e) (hr : rb < B) (hb : Below B w w') : RB B w' rb zs e := by
  obtain ⟨a, cap, ⟨c0, c1, f0, f1⟩, h1, h2, h3, h4⟩ := h
  refine ⟨a, cap, ⟨(hb.cell (p := ⟨rb, 0, none⟩) hr).trans c0, (hb.cell (p := ⟨rb, 1, none⟩) hr).trans c1, (hb.frozen (p := ⟨rb, 0, none⟩) hr).trans f0, (hb.frozen (p := ⟨rb, 1, none⟩) hr).trans f1⟩, h1, h2, h3, ?_⟩
  rcases h4 with h4 | ⟨b, off, e1, e2, e3, e4, e5⟩
  · exact .inl h4
  · exact .inr ⟨b, off, e1, e2, e3, Nat.lt_of_lt_of_le e4 hb.size, fun i hi => (hb.cell (p := ⟨b, off + i, none⟩) e3).trans (e5 i hi)⟩
theorem RB.all {B : Nat} {w : World} {rb : Nat} {zs : List Int} {e : Int} (h : RB B w rb zs e) : AllB zs := by obtain ⟨a, cap, _, _, _, h3, _⟩ := h; exact h3
theorem gcell {W w1 : World} {rb : Nat} (hg : W.grownBy w1 (some rb)) (b : Nat) (hb : b < W.heap.size) (hne : b ≠ rb) : (∀ o, w1.cell? ⟨b, o, none⟩ = W.cell? ⟨b, o, none⟩) ∧ (∀ o, w1.frozen? ⟨b, o, none⟩ = W.frozen? ⟨b, o, none⟩) :=
  have h := hg.block b hb (by simp; omega)
  ⟨fun o => World.cell?_of_block (a := ⟨b, o, none⟩) h, fun o => World.frozen?_of_block (a := ⟨b, o, none⟩) h⟩
theorem grown_of {B rb : Nat} {w w1 w2 : World} (h1 : w.grownBy w1 (some rb)) (h2 : Below w.heap.size w1 w2) : w.grownBy w2 (some rb) :=
  ⟨h2.os.trans h1.os, h2.tape.trans h1.tape, h2.output.trans h1.output, Nat.le_trans h1.size h2.size, fun k hk hne => (h2.block k hk).trans (h1.block k hk hne)⟩
theorem grown_alloc {w w1 : World} {o : Obj} {rb : Nat} (h : (w.alloc o).grownBy w1 (some rb)) : w.grownBy w1 (some rb) := (World.grownBy_alloc w o _).trans h
theorem num1 (zs : List Int) (h : zs ≠ []) : numV zs 0 1 = tkK zs ∧ numE zs 0 1 = 0 ∧ numZ zs 0 1 = zs.drop 1 := by
  have hl : 1 ≤ zs.length := List.length_pos_iff.2 h
  obtain ⟨e1, e2⟩ := get1 zs hl
  unfold numV numE numZ
  rw [if_pos rfl, if_pos rfl, e2, if_pos ⟨rfl, rfl⟩, e1]
  exact ⟨rfl, rfl, rfl⟩
theorem num1_nil : numV [] 0 1 = 0 ∧ numE [] 0 1 = 3 ∧ numZ [] 0 1 = [] := by decide
def TkPost (B : Nat) (w : World) (rb : Nat) (zs : List Int) (e : Ending) (w' : World) : Prop := e = .returned (vv (tkK zs) (tkN zs) (tkS zs)) ∧ RB B w' rb (tkZ zs) (tkE zs) ∧ w.grownBy w' (some rb)
set_option maxHeartbeats 1000000 in
theorem take_nil (rb : Nat) (zs : List Int) (w : World) (h : RB w.heap.size w rb zs 0) (hr : rb < w.heap.size) (hz : zs = []) :
    Calls Tryd.prog 63 #[.pointer (some ⟨rb, 0, none⟩)] w (TkPost w.heap.size w rb zs) := by
  have CN := fun w' hq => Rq.num_any (Q := fun b => b < w.heap.size) rb zs 0 1 w' hq
  subst hz
  obtain ⟨e1, e2, e3⟩ := num1_nil
  rw [e1, e2, e3] at CN
  have HQ : Hid (∀ w', RB w.heap.size w' rb [] 3 → w.grownBy w' (some rb) → TkPost w.heap.size w rb [] (.returned (vv 0 0 ByteArray.empty)) w') := fun w' a b => ⟨rfl, a, b⟩
  generalize TkPost w.heap.size w rb [] = Post at *
  clear e1 e2 e3
  go_enter Tryd.func63, Tryd.ntmps63
  go_wp2_with (first | (go_at_call 70; refine (CN _ (h.low hr (box1 _ _))).mono ?_; rintro e w1 ⟨rfl, hq1, hg1⟩; clear CN; obtain ⟨hc1, hf1⟩ := gcell hg1 w.heap.size (by simp) (by omega); have hz1 : w.heap.size < w1.heap.size := by { have := hg1.size; simp at this; omega }))
  have hbl := (set3 (Below.refl w.heap.size w1) w.heap.size (Nat.le_refl _) (.int .u8 0) (.int .i64 0) (.string ByteArray.empty)).alloc (by simp [World.setCell]; omega) (.cells #[.int .u8 0, .int .i64 0, .string ByteArray.empty] 52)
  refine bodyPost_ret (v := vv 0 0 ByteArray.empty) (by simp [results, Tryd.results63, go_sem, vv, hc1, hf1, hz1]; rfl) rfl (HQ.out _ (RB.low hq1 hr hbl) (grown_of (B := 0) (grown_alloc hg1) hbl))
set_option maxHeartbeats 1000000 in
theorem take_oth (rb : Nat) (zs : List Int) (w : World) (h : RB w.heap.size w rb zs 0) (hr : rb < w.heap.size) (hz : zs ≠ []) (h1 : tkK zs ≠ 1) (h2 : tkK zs ≠ 2) :
    Calls Tryd.prog 63 #[.pointer (some ⟨rb, 0, none⟩)] w (TkPost w.heap.size w rb zs) := by
  have CN := fun w' hq => Rq.num_any (Q := fun b => b < w.heap.size) rb zs 0 1 w' hq
  obtain ⟨e1, e2, e3⟩ := num1 zs hz
  rw [e1, e2, e3] at CN
  obtain ⟨z0, z1⟩ := h.all.getD 0
  have HQ : Hid (∀ w', RB w.heap.size w' rb (zs.drop 1) 0 → w.grownBy w' (some rb) → TkPost w.heap.size w rb zs (.returned (vv (tkK zs) 0 ByteArray.empty)) w') := fun w' a b => by
    refine ⟨?_, ?_, b⟩
    · unfold tkN tkS; rw [if_neg h1, if_neg h2]
    · unfold tkZ tkE; rw [if_neg hz, if_neg h1, if_neg h2, if_neg hz, if_neg h1, if_neg h2]; exact a
  have k0 : 0 ≤ tkK zs := z0
  have k1 : tkK zs ≤ 255 := z1
  have b1 : (tkK zs == 1) = false := by rw [beq_eq_false_iff_ne]; exact h1
  have b2 : (tkK zs == 2) = false := by rw [beq_eq_false_iff_ne]; exact h2
  generalize TkPost w.heap.size w rb zs = Post at *
  generalize tkK zs = k at *
  clear e1 e2 e3 h1 h2 z0 z1 hz
  go_enter Tryd.func63, Tryd.ntmps63
  go_wp2_with (first | (go_at_call 70; refine (CN _ (h.low hr (box1 _ _))).mono ?_; rintro e w1 ⟨rfl, hq1, hg1⟩; clear CN; obtain ⟨hc1, hf1⟩ := gcell hg1 w.heap.size (by simp) (by omega); have hz1 : w.heap.size < w1.heap.size := by { have := hg1.size; simp at this; omega }))
  have hbl := (set3 (Below.refl w.heap.size w1) w.heap.size (Nat.le_refl _) (.int .u8 k) (.int .i64 0) (.string ByteArray.empty)).alloc (by simp [World.setCell]; omega) (.cells #[.int .u8 k, .int .i64 0, .string ByteArray.empty] 52)
  refine bodyPost_ret (v := vv k 0 ByteArray.empty) (by simp [results, Tryd.results63, go_sem, vv, hc1, hf1, hz1]; rfl) rfl (HQ.out _ (RB.low hq1 hr hbl) (grown_of (B := 0) (grown_alloc hg1) hbl))
set_option maxHeartbeats 1000000 in
theorem take_one (rb : Nat) (zs : List Int) (w : World) (h : RB w.heap.size w rb zs 0) (hr : rb < w.heap.size) (hz : zs ≠ []) (h1 : tkK zs = 1) :
    Calls Tryd.prog 63 #[.pointer (some ⟨rb, 0, none⟩)] w (TkPost w.heap.size w rb zs) := by
  have CN := fun w' hq => Rq.num_any (Q := fun b => b < w.heap.size) rb zs 0 1 w' hq
  obtain ⟨e1, e2, e3⟩ := num1 zs hz
  rw [e1, e2, e3] at CN
  obtain ⟨z0, z1⟩ := h.all.getD 0
  rw [h1] at CN
  have CS := fun w' hq => Rq.sgd_any (Q := fun b => b < w.heap.size) rb (zs.drop 1) 0 w' hq
  have HQ : Hid (∀ w', RB w.heap.size w' rb (sgdZ (zs.drop 1) 0) (sgdE (zs.drop 1) 0) → w.grownBy w' (some rb) → TkPost w.heap.size w rb zs (.returned (vv 1 (sgdV (zs.drop 1) 0) ByteArray.empty)) w') := fun w' a b => by
    have h2 : ¬ tkK zs = 2 := by rw [h1]; decide
    refine ⟨?_, ?_, b⟩
    · unfold tkN tkS; rw [if_pos h1, if_neg h2, h1]
    · unfold tkZ tkE; rw [if_neg hz, if_pos h1, if_neg hz, if_pos h1]; exact a
  generalize TkPost w.heap.size w rb zs = Post at *
  generalize sgdV (zs.drop 1) 0 = sv at *
  generalize sgdZ (zs.drop 1) 0 = sz at *
  generalize sgdE (zs.drop 1) 0 = se at *
  clear e1 e2 e3 h1 z0 z1 hz
  go_enter Tryd.func63, Tryd.ntmps63
  go_wp2_with (first | (go_at_call 70; refine (CN _ (h.low hr (box1 _ _))).mono ?_; rintro e w1 ⟨rfl, hq1, hg1⟩; clear CN; obtain ⟨hc1, hf1⟩ := gcell hg1 w.heap.size (by simp) (by omega); have hz1 : w.heap.size < w1.heap.size := by { have := hg1.size; simp at this; omega }) | (go_at_call 71; refine (CS _ (RB.low hq1 hr ((box1 w1 _).mono (Nat.le_of_lt hz1)))).mono ?_; rintro e w2 ⟨rfl, hq2, hg2⟩; clear CS; obtain ⟨hc2, hf2⟩ := gcell hg2 w.heap.size (by simp; omega) (by omega); obtain ⟨hc3, hf3⟩ := gcell hg2 w1.heap.size (by simp) (by omega); have hz2 : w1.heap.size < w2.heap.size := by { have := hg2.size; simp at this; omega }))
  have hbl := set3 ((Below.refl w.heap.size w2).setCell (p := ⟨w1.heap.size, 1, none⟩) (Nat.le_of_lt hz1) (.int .i64 sv)) w.heap.size (Nat.le_refl _) (.int .u8 1) (.int .i64 sv) (.string ByteArray.empty)
  refine bodyPost_ret (v := vv 1 sv ByteArray.empty) (by simp [results, Tryd.results63, go_sem, vv, hc1, hf1, hz1, hc2, hc3, hz2]; rfl) rfl (HQ.out _ (RB.low hq2 hr hbl) (grown_of (B := 0) ((grown_alloc hg1).trans (grown_alloc hg2)) hbl))
set_option maxHeartbeats 1000000 in
theorem take_two (rb : Nat) (zs : List Int) (w : World) (h : RB w.heap.size w rb zs 0) (hr : rb < w.heap.size) (hz : zs ≠ []) (h2 : tkK zs = 2) :
    Calls Tryd.prog 63 #[.pointer (some ⟨rb, 0, none⟩)] w (TkPost w.heap.size w rb zs) := by
  have CN := fun w' hq => Rq.num_any (Q := fun b => b < w.heap.size) rb zs 0 1 w' hq
  obtain ⟨e1, e2, e3⟩ := num1 zs hz
  rw [e1, e2, e3] at CN
  obtain ⟨z0, z1⟩ := h.all.getD 0
  rw [h2] at CN
  have CS := fun w' hq => Rq.rtx_any (Q := fun b => b < w.heap.size) rb (zs.drop 1) 0 w' hq
  have HQ : Hid (∀ w', RB w.heap.size w' rb (rtxZ (zs.drop 1) 0) (rtxE (zs.drop 1) 0) → w.grownBy w' (some rb) → TkPost w.heap.size w rb zs (.returned (vv 2 0 (rtxS (zs.drop 1) 0))) w') := fun w' a b => by
    have h1 : ¬ tkK zs = 1 := by rw [h2]; decide
    refine ⟨?_, ?_, b⟩
    · unfold tkN tkS; rw [if_neg h1, if_pos h2, h2]
    · unfold tkZ tkE; rw [if_neg hz, if_neg h1, if_pos h2, if_neg hz, if_neg h1, if_pos h2]; exact a
  generalize TkPost w.heap.size w rb zs = Post at *
  generalize rtxS (zs.drop 1) 0 = sv at *
  generalize rtxZ (zs.drop 1) 0 = sz at *
  generalize rtxE (zs.drop 1) 0 = se at *
  clear e1 e2 e3 h2 z0 z1 hz
  go_enter Tryd.func63, Tryd.ntmps63
  go_wp2_with (first | (go_at_call 70; refine (CN _ (h.low hr (box1 _ _))).mono ?_; rintro e w1 ⟨rfl, hq1, hg1⟩; clear CN; obtain ⟨hc1, hf1⟩ := gcell hg1 w.heap.size (by simp) (by omega); have hz1 : w.heap.size < w1.heap.size := by { have := hg1.size; simp at this; omega }) | (go_at_call 72; refine (CS _ (RB.low hq1 hr ((box1 w1 _).mono (Nat.le_of_lt hz1)))).mono ?_; rintro e w2 ⟨rfl, hq2, hg2⟩; clear CS; obtain ⟨hc2, hf2⟩ := gcell hg2 w.heap.size (by simp; omega) (by omega); obtain ⟨hc3, hf3⟩ := gcell hg2 w1.heap.size (by simp) (by omega); have hz2 : w1.heap.size < w2.heap.size := by { have := hg2.size; simp at this; omega }))
  have hbl := set3 ((Below.refl w.heap.size w2).setCell (p := ⟨w1.heap.size, 2, none⟩) (Nat.le_of_lt hz1) (.string sv)) w.heap.size (Nat.le_refl _) (.int .u8 2) (.int .i64 0) (.string sv)
  refine bodyPost_ret (v := vv 2 0 sv) (by simp [results, Tryd.results63, go_sem, vv, hc1, hf1, hz1, hc2, hc3, hz2]) rfl (HQ.out _ (RB.low hq2 hr hbl) (grown_of (B := 0) ((grown_alloc hg1).trans (grown_alloc hg2)) hbl))
theorem take_any13 (rb : Nat) (zs : List Int) (w : World) (h : RB w.heap.size w rb zs 0) (hr : rb < w.heap.size) :
    Calls Tryd.prog 63 #[.pointer (some ⟨rb, 0, none⟩)] w (TkPost w.heap.size w rb zs) := by
  by_cases hz : zs = []
  · exact take_nil rb zs w h hr hz
  · by_cases h1 : tkK zs = 1
    · exact take_one rb zs w h hr hz h1
    · by_cases h2 : tkK zs = 2
      · exact take_two rb zs w h hr hz h2
      · exact take_oth rb zs w h hr hz h1 h2
end Go.Proofs.YtpmhilaochfpaaaDoor
namespace Go.Proofs.YtpmhilaochfpaaaDoor
set_option maxRecDepth 20000
open Go.RowKit
set_option linter.unusedVariables false
set_option linter.unusedSimpArgs false
set_option maxRecDepth 20000
def gtE (zs : List Int) : Int := if tkE zs = 3 then 3 else if tkE zs ≠ 0 ∨ chkE (tkK zs) (tkN zs) (tkS zs).data.toList ≠ 0 then 4 else 0
def gtA (zs : List Int) : Value := if gtE zs = 0 then .tuple #[vv (tkK zs) (tkN zs) (tkS zs), .int .i64 ((zs.length : Int) - (tkZ zs).length), .int .i64 0] else .tuple #[vv 0 0 ByteArray.empty, .int .i64 0, .int .i64 (gtE zs)]
theorem rb_of {w : World} {rb : Nat} {zs : List Int} {e : Int} (h : RdS w rb zs e) : RB w.heap.size w rb zs e := by
  obtain ⟨a, cap, h0, h1, h2, h3, h4⟩ := h
  refine ⟨a, cap, h0, h1, h2, h3, ?_⟩
  rcases h4 with h4 | ⟨b, off, e1, e2, e3, e4⟩
  · exact .inl h4
  · exact .inr ⟨b, off, e1, e2, e3, e3, e4⟩
theorem drop_all {zs : List Int} (h : AllB zs) (n : Nat) : AllB (zs.drop n) := fun z hz => h z (List.mem_of_mem_drop hz)
theorem tkS_le {zs : List Int} (h : AllB zs) : (tkS zs).size ≤ 255 := by
  unfold tkS
  split
  · unfold rtxS txS
    rw [if_pos rfl]
    split
    · decide
    · rw [strOfNums_size]
      have := ((drop_all h 1).getD 0).2
      unfold txL
      simp only [List.length_take]
      omega
  · decide
theorem tkK_b {zs : List Int} (h : AllB zs) : 0 ≤ tkK zs ∧ tkK zs ≤ 255 := h.getD 0
theorem tkZ_le (zs : List Int) : (tkZ zs).length ≤ zs.length := by
  unfold tkZ
  split
  · simp
  · split
    · unfold sgdZ; split <;> simp <;> omega
    · split
      · unfold rtxZ; split <;> simp <;> omega
      · simp
theorem acell {w2 w3 : World} {o : Obj} (hb : Below (w2.alloc o).heap.size (w2.alloc o) w3) (b : Nat) (h : b < w2.heap.size) : (∀ i, w3.cell? ⟨b, i, none⟩ = w2.cell? ⟨b, i, none⟩) ∧ (∀ i, w3.frozen? ⟨b, i, none⟩ = w2.frozen? ⟨b, i, none⟩) :=
  have e : w3.heap[b]? = w2.heap[b]? := (hb.block b (by simp; omega)).trans (Below.heap_alloc _ _ _ h)
  ⟨fun i => World.cell?_of_block (a := ⟨b, i, none⟩) e, fun i => World.frozen?_of_block (a := ⟨b, i, none⟩) e⟩
theorem bcell1 {w2 w3 : World} {o : Obj} (hb : Below (w2.alloc o).heap.size (w2.alloc o) w3) : (∀ i, w3.cell? ⟨w2.heap.size, i, none⟩ = (w2.alloc o).cell? ⟨w2.heap.size, i, none⟩) ∧ (∀ i, w3.frozen? ⟨w2.heap.size, i, none⟩ = (w2.alloc o).frozen? ⟨w2.heap.size, i, none⟩) :=
  have e := hb.block w2.heap.size (by simp)
  ⟨fun i => World.cell?_of_block (a := ⟨w2.heap.size, i, none⟩) e, fun i => World.frozen?_of_block (a := ⟨w2.heap.size, i, none⟩) e⟩
theorem wr_small (x : Int) (h0 : -9223372036854775808 ≤ x) (h1 : x ≤ 9223372036854775807) : IntKind.i64.wrap x = x := by rw [IntKind.wrap_i64]; omega
set_option maxHeartbeats 2000000 in
theorem get_any13 (a : Option Addr) (len cap : Nat) (zs : List Int) (w : World) (hb : BV w a zs) (hl : zs.length = len) (hm : len ≤ 257) (hc : len ≤ cap) (hcm : cap ≤ 9223372036854775807) (hn : a = none → cap = 0) (hV : Vars w) :
    Calls Tryd.prog 54 #[.slice a len cap] w fun e w' => e = .returned (gtA zs) ∧ Below w.heap.size w w' := by
  have hz := hb.1
  have CN := fun w' hbw => new_any a cap zs w' (hb.below hbw) (by omega) hn
  rw [hl] at CN
  have CT := fun rb w' h hr => take_any13 rb zs w' h hr
  unfold TkPost at CT
  have hmin : min (len : Int) 257 = len := by omega
  have hlz : (len : Int) ≤ cap := by omega
  by_cases h3 : tkE zs = 3
  · have HA : Hid (gtA zs = .tuple #[vv 0 0 ByteArray.empty, .int .i64 0, .int .i64 3]) := by
      show gtA zs = _
      have : gtE zs = 3 := by unfold gtE; rw [if_pos h3]
      unfold gtA; rw [this]; rfl
    rw [h3] at CT
    generalize gtA zs = ans at *
    generalize tkK zs = K at *
    generalize tkN zs = N at *
    generalize tkS zs = S at *
    generalize tkZ zs = Z at *
    unfold vv at CT
    clear h3 hb hn
    go_enter Tryd.func54, Tryd.ntmps54
    go_wp2_with (first | (go_at_call 62; refine (CN _ (box1 _ _)).mono ?_; rintro e w1 ⟨rb, rfl, hr0, hr1, hq1, hb1⟩; clear CN; obtain ⟨hc1, hf1⟩ := bcell hb1; have hrw : w.heap.size < rb := (by { simp at hr0; omega })) | (go_at_call 63; refine (CT _ _ (rb_of hq1) hr1).mono ?_; rintro e w2 ⟨rfl, hq2, hg2⟩; clear CT; have hz1 : w.heap.size < w1.heap.size := (by omega); obtain ⟨hc2, hf2⟩ := gcell hg2 w.heap.size hz1 (by omega); have hz2 : w.heap.size < w2.heap.size := (by { have := hg2.size; omega }); have HB2 : Hid (Below w.heap.size w w2) := ((up1 hb1).grown hg2 (up1 hb1).size (by { intro k hk; cases hk; omega }))) | (go_at_call 64; refine (Rq.err_any _ _ _ _ (RB.low hq2 hr1 ((box1 w2 _).mono hg2.size))).mono ?_; rintro e w' ⟨rfl, hw⟩; obtain rfl := hw.symm))
    have hbl := (set3 HB2.out w.heap.size (Nat.le_refl _) (.int .u8 0) (.int .i64 0) (.string ByteArray.empty)).alloc (by simp [World.setCell]; omega) (.cells #[.int .u8 K, .int .i64 N, .string S] 52)
    refine bodyPost_ret (v := .tuple #[vv 0 0 ByteArray.empty, .int .i64 0, .int .i64 3]) (by simp [results, Tryd.results54, go_sem, vv, hc1, hc2, hz1, hz2] <;> rfl) rfl ⟨by rw [HA.out], ?_⟩
    exact hbl
  by_cases h0 : tkE zs = 0
  · have hS := tkS_le hz
    obtain ⟨hk0, hk1⟩ := tkK_b hz
    have CC := fun w' hv => chk_any (tkK zs) (tkN zs) (tkS zs) w' hk0 hk1 (by omega) hv
    by_cases hc0 : chkE (tkK zs) (tkN zs) (tkS zs).data.toList = 0
    · have HA : Hid (gtA zs = .tuple #[vv (tkK zs) (tkN zs) (tkS zs), .int .i64 ((len : Int) - (tkZ zs).length), .int .i64 0]) := by
        show gtA zs = _
        have : gtE zs = 0 := by unfold gtE; rw [if_neg h3, if_neg (by simp [h0, hc0])]
        unfold gtA; rw [if_pos this, hl]
      have hZ := tkZ_le zs
      rw [hl] at hZ
      rw [h0] at CT
      rw [hc0] at CC
      generalize gtA zs = ans at *
      generalize tkK zs = K at *
      generalize tkN zs = N at *
      generalize tkS zs = S at *
      generalize tkZ zs = Z at *
      unfold vv at CT
      unfold vv at CC
      clear h3 h0 hb hn hc0 hS
      go_enter Tryd.func54, Tryd.ntmps54
      go_wp2_with (first | (go_at_call 62; refine (CN _ (box1 _ _)).mono ?_; rintro e w1 ⟨rb, rfl, hr0, hr1, hq1, hb1⟩; clear CN; obtain ⟨hc1, hf1⟩ := bcell hb1; have hrw : w.heap.size < rb := (by { simp at hr0; omega })) | (go_at_call 63; refine (CT _ _ (rb_of hq1) hr1).mono ?_; rintro e w2 ⟨rfl, hq2, hg2⟩; clear CT; have hz1 : w.heap.size < w1.heap.size := (by omega); obtain ⟨hc2, hf2⟩ := gcell hg2 w.heap.size hz1 (by omega); have hz2 : w.heap.size < w2.heap.size := (by { have := hg2.size; omega }); have HB2 : Hid (Below w.heap.size w w2) := ((up1 hb1).grown hg2 (up1 hb1).size (by { intro k hk; cases hk; omega }))) | (go_at_call 64; refine (Rq.err_any _ _ _ _ (RB.low hq2 hr1 ((box1 w2 _).mono hg2.size))).mono ?_; rintro e w' ⟨rfl, hw⟩; obtain rfl := hw.symm) | (go_at_call 37; refine (CC _ (hV.below (HB2.out.trans ((box1 w2 _).mono HB2.out.size)))).mono ?_; rintro e w3 ⟨rfl, hb3⟩; clear CC; obtain ⟨hc3, hf3⟩ := bcell1 hb3; obtain ⟨hc4, hf4⟩ := acell hb3 w.heap.size hz2; have hz3 : w2.heap.size < w3.heap.size := (by { have := hb3.size; simp at this; omega })))
      have HQ3 : Hid (∀ w', Below w1.heap.size w3 w' → RB w1.heap.size w' rb Z 0) := fun w' hb => RB.low hq2 hr1 ((((box1 w2 _).mono hg2.size).trans (hb3.mono (by have := hg2.size; simp; omega))).trans hb)
      have HB3 : Hid (Below w.heap.size w w3) := (HB2.out.trans ((box1 w2 _).mono HB2.out.size)).trans (hb3.mono (HB2.out.trans ((box1 w2 _).mono HB2.out.size)).size)
      have hwr : IntKind.i64.wrap ((len : Int) - Z.length) = (len : Int) - Z.length := wr_small _ (by omega) (by omega)
      clear hq1 hq2 hb3 hg2 hb1 hr0 HB2 hV hz
      go_region_with (go_at_call 65; refine (Rq.left_any _ _ _ _ (HQ3.out _ (by first | exact Below.refl _ _ | exact (Below.refl _ _).drew | exact (Below.refl _ _).drew.drew))).mono ?_; rintro e w' ⟨rfl, hw⟩; obtain rfl := hw.symm)
      all_goals
        go_wp2
        refine bodyPost_ret (v := .tuple #[vv K N S, .int .i64 ((len : Int) - Z.length), .int .i64 0]) (by simp [results, Tryd.results54, go_sem, vv, hc1, hc2, hc4, hz1, hz2, hwr]) rfl ⟨by rw [HA.out], ?_⟩
        exact (set3 HB3.out w.heap.size (Nat.le_refl _) _ _ _).drew
    · have HA : Hid (gtA zs = .tuple #[vv 0 0 ByteArray.empty, .int .i64 0, .int .i64 4]) := by
        show gtA zs = _
        have : gtE zs = 4 := by unfold gtE; rw [if_neg h3, if_pos (.inr hc0)]
        unfold gtA; rw [this]; rfl
      have hne : ((chkE (tkK zs) (tkN zs) (tkS zs).data.toList : Int) != 0) = true := by rw [bne_iff_ne]; exact hc0
      rw [h0] at CT
      generalize gtA zs = ans at *
      generalize tkK zs = K at *
      generalize tkN zs = N at *
      generalize tkS zs = S at *
      generalize tkZ zs = Z at *
      unfold vv at CT
      unfold vv at CC
      generalize chkE K N S.data.toList = ce at *
      clear h3 h0 hb hn hc0 hS
      go_enter Tryd.func54, Tryd.ntmps54
      go_wp2_with (first | (go_at_call 62; refine (CN _ (box1 _ _)).mono ?_; rintro e w1 ⟨rb, rfl, hr0, hr1, hq1, hb1⟩; clear CN; obtain ⟨hc1, hf1⟩ := bcell hb1; have hrw : w.heap.size < rb := (by { simp at hr0; omega })) | (go_at_call 63; refine (CT _ _ (rb_of hq1) hr1).mono ?_; rintro e w2 ⟨rfl, hq2, hg2⟩; clear CT; have hz1 : w.heap.size < w1.heap.size := (by omega); obtain ⟨hc2, hf2⟩ := gcell hg2 w.heap.size hz1 (by omega); have hz2 : w.heap.size < w2.heap.size := (by { have := hg2.size; omega }); have HB2 : Hid (Below w.heap.size w w2) := ((up1 hb1).grown hg2 (up1 hb1).size (by { intro k hk; cases hk; omega }))) | (go_at_call 64; refine (Rq.err_any _ _ _ _ (RB.low hq2 hr1 ((box1 w2 _).mono hg2.size))).mono ?_; rintro e w' ⟨rfl, hw⟩; obtain rfl := hw.symm) | (go_at_call 37; refine (CC _ (hV.below (HB2.out.trans ((box1 w2 _).mono HB2.out.size)))).mono ?_; rintro e w3 ⟨rfl, hb3⟩; clear CC; obtain ⟨hc3, hf3⟩ := bcell1 hb3; obtain ⟨hc4, hf4⟩ := acell hb3 w.heap.size hz2; have hz3 : w2.heap.size < w3.heap.size := (by { have := hb3.size; simp at this; omega })))
      refine bodyPost_ret (v := .tuple #[vv 0 0 ByteArray.empty, .int .i64 0, .int .i64 4]) (by simp [results, Tryd.results54, go_sem, vv, hc1, hc2, hc3, hc4, hz1, hz2, hz3] <;> rfl) rfl ⟨by rw [HA.out], ?_⟩
      exact set3 ((HB2.out.trans ((box1 w2 _).mono HB2.out.size)).trans (hb3.mono (HB2.out.trans ((box1 w2 _).mono HB2.out.size)).size)) w.heap.size (Nat.le_refl _) _ _ _
  · have HA : Hid (gtA zs = .tuple #[vv 0 0 ByteArray.empty, .int .i64 0, .int .i64 4]) := by
      show gtA zs = _
      have : gtE zs = 4 := by unfold gtE; rw [if_neg h3, if_pos (.inl h0)]
      unfold gtA; rw [this]; rfl
    have b3 : (tkE zs == 3) = false := by rw [beq_eq_false_iff_ne]; exact h3
    have b0 : (tkE zs != 0) = true := by rw [bne_iff_ne]; exact h0
    generalize gtA zs = ans at *
    generalize tkK zs = K at *
    generalize tkN zs = N at *
    generalize tkS zs = S at *
    generalize tkZ zs = Z at *
    unfold vv at CT
    generalize tkE zs = E at *
    clear h3 h0 hb hn
    go_enter Tryd.func54, Tryd.ntmps54
    go_wp2_with (first | (go_at_call 62; refine (CN _ (box1 _ _)).mono ?_; rintro e w1 ⟨rb, rfl, hr0, hr1, hq1, hb1⟩; clear CN; obtain ⟨hc1, hf1⟩ := bcell hb1; have hrw : w.heap.size < rb := (by { simp at hr0; omega })) | (go_at_call 63; refine (CT _ _ (rb_of hq1) hr1).mono ?_; rintro e w2 ⟨rfl, hq2, hg2⟩; clear CT; have hz1 : w.heap.size < w1.heap.size := (by omega); obtain ⟨hc2, hf2⟩ := gcell hg2 w.heap.size hz1 (by omega); have hz2 : w.heap.size < w2.heap.size := (by { have := hg2.size; omega }); have HB2 : Hid (Below w.heap.size w w2) := ((up1 hb1).grown hg2 (up1 hb1).size (by { intro k hk; cases hk; omega }))) | (go_at_call 64; refine (Rq.err_any _ _ _ _ (RB.low hq2 hr1 ((box1 w2 _).mono hg2.size))).mono ?_; rintro e w' ⟨rfl, hw⟩; obtain rfl := hw.symm))
    have hbl := (set3 HB2.out w.heap.size (Nat.le_refl _) (.int .u8 0) (.int .i64 0) (.string ByteArray.empty)).alloc (by simp [World.setCell]; omega) (.cells #[.int .u8 K, .int .i64 N, .string S] 52)
    refine bodyPost_ret (v := .tuple #[vv 0 0 ByteArray.empty, .int .i64 0, .int .i64 4]) (by simp [results, Tryd.results54, go_sem, vv, hc1, hc2, hz1, hz2] <;> rfl) rfl ⟨by rw [HA.out], ?_⟩
    exact hbl
end Go.Proofs.YtpmhilaochfpaaaDoor
