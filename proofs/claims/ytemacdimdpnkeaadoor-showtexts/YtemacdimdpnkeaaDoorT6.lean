import Derived.Test.YtemacdimdpnkeaaDoorT1
import Derived.Test.YtemacdimdpnkeaaDoorT3
import Derived.Test.YtemacdimdpnkeaaDoorT2
import Derived.Test.YtemacdimdpnkeaaDoorT4
import Derived.Test.YtemacdimdpnkeaaDoorT5
import Derived.Test.YtemacdimdpnkeaaDoorRows
import Derived.Deep.LoopGhost
import Derived.Deep.QuietTactic
import Derived.BigQuiet
namespace Go.Proofs.YtemacdimdpnkeaaDoor
set_option maxRecDepth 20000
set_option maxRecDepth 20000
set_option maxRecDepth 20000
open Go.RowKit
set_option linter.unusedVariables false
set_option maxRecDepth 20000
def powN : String := (Rows.showExprsRow.laid.map (·.1)).getD 2 ""
structure Vars (w : World) : Prop where
  tabs : Lib.Utf8Tabs 1 2 w
  pow : Lib.TabIs Tryd.prog w powN .u64 Lib.pow10Tab
theorem tab_below {w w' : World} {n : String} {k : IntKind} {zs : List Int} (h : Lib.TabIs Tryd.prog w n k zs) (hb : Below w.heap.size w w') : Lib.TabIs Tryd.prog w' n k zs := by
  unfold Lib.TabIs World.var? at *
  cases hg : Tryd.prog.globalNamed n with
  | none => rw [hg] at h; simp at h
  | some g =>
    rw [hg] at h
    simp only [Option.bind_some] at h ⊢
    have hlt : g < w.heap.size := by
      rcases Nat.lt_or_ge g w.heap.size with h' | h'
      · exact h'
      · simp [Array.getElem?_eq_none h'] at h
    rw [hb.block g hlt]; exact h
theorem Vars.below {w w' : World} (h : Vars w) (hb : Below w.heap.size w w') : Vars w' := by
  obtain ⟨h1, h4⟩ := h
  exact ⟨Utf8Tabs_below h1 hb, tab_below h4 hb⟩
theorem valid_any (s : ByteArray) (w : World) (hs : s.size ≤ 1000000) (hT : Vars w) :
    Calls Tryd.prog 94 #[.string s] w fun e w' => e = .returned (.bool (Lib.validD s.data.toList)) ∧ Below w.heap.size w w' :=
  Any.utf8_ValidString Tryd.laysValid s w (by omega) hT.tabs
theorem below_gr {w : World} (k : Nat) (os : Array Obj) : Below w.heap.size w (Sort.grow (w.drewN k) os) :=
  ⟨rfl, rfl, rfl, by show w.heap.size ≤ (w.heap ++ os).size; rw [Array.size_append]; omega, fun j hj => by show (w.heap ++ os)[j]? = w.heap[j]?; exact Array.getElem?_append_left hj⟩
theorem itoa_any (n : Int) (w : World) (h0 : -1099511627776 ≤ n) (h1 : n ≤ 1099511627776) (hT : Vars w) :
    Calls Tryd.prog 62 #[.int .i64 n] w fun e w' => e = .returned (.string ⟨(Lib.itoa n).toArray⟩) ∧ Below w.heap.size w w' := by
  have hp := hT.pow
  have C : Calls Tryd.prog 62 #[.int .i64 n] w _ := Any.strconv_Itoa Tryd.laysItoa n (by omega) (by omega) w hp
  refine C.mono ?_
  rintro e w' ⟨rfl, k, os, rfl⟩
  exact ⟨rfl, below_gr k os⟩
end Go.Proofs.YtemacdimdpnkeaaDoor
namespace Go.Proofs.YtemacdimdpnkeaaDoor
set_option maxRecDepth 20000
set_option maxRecDepth 20000
set_option maxRecDepth 20000
open Go.RowKit
set_option linter.unusedVariables false
set_option linter.unusedSimpArgs false
set_option maxRecDepth 20000
theorem dig_end (l : List UInt8) (h : ∀ j, j < l.length → isDig (l.getD j 0) = true) : (!l.isEmpty && l.all isDig) = decide (0 < l.length) := by
  rw [(all_getD l).2 h, Bool.and_true]; cases l <;> simp
theorem dig_no (l : List UInt8) (k : Nat) (hk : k < l.length) (h : isDig (l.getD k 0) = false) : (!l.isEmpty && l.all isDig) = false := by
  have : l.all isDig = false := by
    rw [Bool.eq_false_iff]; intro e
    have := (all_getD l).1 e k hk
    rw [h] at this; cases this
  rw [this, Bool.and_false]
set_option maxHeartbeats 1000000 in
theorem risnum_any (s : ByteArray) (w : World) (hs : s.size ≤ 1000000) :
    Calls Tryd.prog 70 #[.string s] w fun e w' => e = .returned (.bool (numB s.data.toList)) ∧ w' = w := by
  have core : ∀ (t : ByteArray), t.size ≤ 1000000 → strip s.data.toList = t.data.toList → (∀ k, k ≤ t.size → (∀ j, j < k → isDig (t.data.toList.getD j 0) = true) → k = t.size → numB s.data.toList = decide (0 < t.size)) ∧ (∀ k, k < t.size → isDig (t.data.toList.getD k 0) = false → numB s.data.toList = false) := by
    intro t ht he
    have hl := lenL t
    refine ⟨fun k hk h hkt => ?_, fun k hk h => ?_⟩
    · unfold numB; rw [he, dig_end _ (fun j hj => h j (by omega)), hl]
    · unfold numB; rw [he]; exact dig_no _ k (by omega) h
  by_cases hsg : isSg (s.data.toList.getD 0 0) = true
  · have hs0 : 0 < s.size := by
      rcases Nat.eq_zero_or_pos s.size with h0 | h0
      · have : s.data.toList = [] := List.eq_nil_of_length_eq_zero (by rw [lenL]; exact h0)
        rw [this] at hsg; simp [isSg] at hsg
      · exact h0
    have h0 := get_at s 0 hs0
    obtain ⟨t, ht⟩ : ∃ t, s.extract 1 s.size = t := ⟨_, rfl⟩
    have htl : t.data.toList = s.data.toList.drop 1 := by rw [← ht, ext_list]
    have hts : t.size + 1 = s.size := by rw [← lenL t, htl, List.length_drop, lenL]; omega
    have C := core t (by omega) (by rw [strip_sg hsg, htl])
    have HC1 : Hid (∀ k, k ≤ t.size → (∀ j, j < k → isDig (t.data.toList.getD j 0) = true) → k = t.size → numB s.data.toList = decide (0 < t.size)) := C.1
    have HC2 : Hid (∀ k, k < t.size → isDig (t.data.toList.getD k 0) = false → numB s.data.toList = false) := C.2
    have hgt : Hid (∀ i (h : i < t.size), t[i] = t.data.toList.getD i 0) := get_at t
    simp only [isSg, decide_eq_true_eq] at hsg
    generalize s.data.toList.getD 0 0 = b0 at hsg h0
    clear C core htl
    have hz : (0 : Int) < s.size := by omega
    have hz1 : (1 : Int) ≤ s.size := by omega
    have hT : t.size ≤ 1000000 := by omega
    generalize numB s.data.toList = ans at *
    rcases hsg with hsg | hsg
    · have e1 : ((b0.toNat : Int) == 45) = true := by rw [beq_iff_eq]; omega
      clear hsg
      go_enter Tryd.func70, Tryd.ntmps70
      go_wp2
      go_loop [3] (fun i => ∃ k : Nat, k ≤ t.size ∧ (∀ j, j < k → isDig (t.data.toList.getD j 0) = true) ∧ i = .int .i64 k) (fun i => t.size - (intOf i).toNat)
      case atStart => exact ⟨0, Nat.zero_le _, fun j hj => by omega, rfl⟩
      case round =>
        obtain ⟨k, hk, hd, rfl⟩ := hrel
        have HD : Hid (∀ j, j < k → isDig (t.data.toList.getD j 0) = true) := hd
        clear hd
        by_cases hlt : k < t.size
        · have hg := hgt.out k hlt
          obtain ⟨b, hb⟩ : ∃ b, t.data.toList.getD k 0 = b := ⟨_, rfl⟩
          have HB : Hid (t.data.toList.getD k 0 = b) := hb
          rw [hb] at hg
          clear hb hgt
          have hlz : (k : Int) < t.size := by omega
          by_cases hdg : isDig b = true
          · have HD1 : Hid (∀ j, j < k + 1 → isDig (t.data.toList.getD j 0) = true) := fun j hj => by
              by_cases hj' : j = k
              · rw [hj', HB.out]; exact hdg
              · exact HD.out j (by omega)
            simp only [isDig, decide_eq_true_eq] at hdg
            have q1 : ¬ (b.toNat : Int) < 48 := by omega
            have q2 : ¬ (57 : Int) < b.toNat := by omega
            clear hdg
            go_wp2
            go_round
            case rel => exact ⟨k + 1, by omega, HD1.out, by go_num⟩
            case measure => simp [intOf]; omega
          · have HN : Hid (ans = false) := HC2.out k hlt (by rw [HB.out]; simpa using hdg)
            simp only [isDig, decide_eq_true_eq] at hdg
            have hdz : (b.toNat : Int) < 48 ∨ (¬ (b.toNat : Int) < 48 ∧ (57 : Int) < b.toNat) := by omega
            clear hdg
            rcases hdz with q1 | ⟨q1, q2⟩
            all_goals
              go_wp2
              go_ret
              exact ⟨ret_bool HN.out.symm, rfl⟩
        · have HA : Hid (ans = decide (0 < t.size)) := HC1.out k hk HD.out (by omega)
          go_wp2
          go_ret
          exact ⟨ret_bool (by first | (rw [HA.out, decide_eq_decide]; done) | (rw [HA.out, decide_eq_decide]; omega) | (rw [HA.out]; exact (decide_eq_true (by omega)).symm)), rfl⟩
    · have e1 : ((b0.toNat : Int) == 45) = false := by rw [beq_eq_false_iff_ne]; omega
      have e2 : ((b0.toNat : Int) == 43) = true := by rw [beq_iff_eq]; omega
      clear hsg
      go_enter Tryd.func70, Tryd.ntmps70
      go_wp2
      go_loop [3] (fun i => ∃ k : Nat, k ≤ t.size ∧ (∀ j, j < k → isDig (t.data.toList.getD j 0) = true) ∧ i = .int .i64 k) (fun i => t.size - (intOf i).toNat)
      case atStart => exact ⟨0, Nat.zero_le _, fun j hj => by omega, rfl⟩
      case round =>
        obtain ⟨k, hk, hd, rfl⟩ := hrel
        have HD : Hid (∀ j, j < k → isDig (t.data.toList.getD j 0) = true) := hd
        clear hd
        by_cases hlt : k < t.size
        · have hg := hgt.out k hlt
          obtain ⟨b, hb⟩ : ∃ b, t.data.toList.getD k 0 = b := ⟨_, rfl⟩
          have HB : Hid (t.data.toList.getD k 0 = b) := hb
          rw [hb] at hg
          clear hb hgt
          have hlz : (k : Int) < t.size := by omega
          by_cases hdg : isDig b = true
          · have HD1 : Hid (∀ j, j < k + 1 → isDig (t.data.toList.getD j 0) = true) := fun j hj => by
              by_cases hj' : j = k
              · rw [hj', HB.out]; exact hdg
              · exact HD.out j (by omega)
            simp only [isDig, decide_eq_true_eq] at hdg
            have q1 : ¬ (b.toNat : Int) < 48 := by omega
            have q2 : ¬ (57 : Int) < b.toNat := by omega
            clear hdg
            go_wp2
            go_round
            case rel => exact ⟨k + 1, by omega, HD1.out, by go_num⟩
            case measure => simp [intOf]; omega
          · have HN : Hid (ans = false) := HC2.out k hlt (by rw [HB.out]; simpa using hdg)
            simp only [isDig, decide_eq_true_eq] at hdg
            have hdz : (b.toNat : Int) < 48 ∨ (¬ (b.toNat : Int) < 48 ∧ (57 : Int) < b.toNat) := by omega
            clear hdg
            rcases hdz with q1 | ⟨q1, q2⟩
            all_goals
              go_wp2
              go_ret
              exact ⟨ret_bool HN.out.symm, rfl⟩
        · have HA : Hid (ans = decide (0 < t.size)) := HC1.out k hk HD.out (by omega)
          go_wp2
          go_ret
          exact ⟨ret_bool (by first | (rw [HA.out, decide_eq_decide]; done) | (rw [HA.out, decide_eq_decide]; omega) | (rw [HA.out]; exact (decide_eq_true (by omega)).symm)), rfl⟩
  · have hsg' : isSg (s.data.toList.getD 0 0) = false := by simpa using hsg
    have C := core s hs (strip_no hsg')
    have HC1 : Hid (∀ k, k ≤ s.size → (∀ j, j < k → isDig (s.data.toList.getD j 0) = true) → k = s.size → numB s.data.toList = decide (0 < s.size)) := C.1
    have HC2 : Hid (∀ k, k < s.size → isDig (s.data.toList.getD k 0) = false → numB s.data.toList = false) := C.2
    have hgt : Hid (∀ i (h : i < s.size), s[i] = s.data.toList.getD i 0) := get_at s
    generalize numB s.data.toList = ans at *
    clear C core hsg
    by_cases h0 : 0 < s.size
    · have h0z : (0 : Int) < s.size := by omega
      have hg0 := hgt.out 0 h0
      simp only [isSg, decide_eq_false_iff_not] at hsg'
      generalize s.data.toList.getD 0 0 = b0 at hg0 hsg'
      have e1 : ((b0.toNat : Int) == 45) = false := by rw [beq_eq_false_iff_ne]; omega
      have e2 : ((b0.toNat : Int) == 43) = false := by rw [beq_eq_false_iff_ne]; omega
      clear hsg'
      go_enter Tryd.func70, Tryd.ntmps70
      go_wp2
      go_loop [3] (fun i => ∃ k : Nat, k ≤ s.size ∧ (∀ j, j < k → isDig (s.data.toList.getD j 0) = true) ∧ i = .int .i64 k) (fun i => s.size - (intOf i).toNat)
      case atStart => exact ⟨0, Nat.zero_le _, fun j hj => by omega, rfl⟩
      case round =>
        obtain ⟨k, hk, hd, rfl⟩ := hrel
        have HD : Hid (∀ j, j < k → isDig (s.data.toList.getD j 0) = true) := hd
        clear hd
        by_cases hlt : k < s.size
        · have hg := hgt.out k hlt
          obtain ⟨b, hb⟩ : ∃ b, s.data.toList.getD k 0 = b := ⟨_, rfl⟩
          have HB : Hid (s.data.toList.getD k 0 = b) := hb
          rw [hb] at hg
          clear hb hgt
          have hlz : (k : Int) < s.size := by omega
          by_cases hdg : isDig b = true
          · have HD1 : Hid (∀ j, j < k + 1 → isDig (s.data.toList.getD j 0) = true) := fun j hj => by
              by_cases hj' : j = k
              · rw [hj', HB.out]; exact hdg
              · exact HD.out j (by omega)
            simp only [isDig, decide_eq_true_eq] at hdg
            have q1 : ¬ (b.toNat : Int) < 48 := by omega
            have q2 : ¬ (57 : Int) < b.toNat := by omega
            clear hdg
            go_wp2
            go_round
            case rel => exact ⟨k + 1, by omega, HD1.out, by go_num⟩
            case measure => simp [intOf]; omega
          · have HN : Hid (ans = false) := HC2.out k hlt (by rw [HB.out]; simpa using hdg)
            simp only [isDig, decide_eq_true_eq] at hdg
            have hdz : (b.toNat : Int) < 48 ∨ (¬ (b.toNat : Int) < 48 ∧ (57 : Int) < b.toNat) := by omega
            clear hdg
            rcases hdz with q1 | ⟨q1, q2⟩
            all_goals
              go_wp2
              go_ret
              exact ⟨ret_bool HN.out.symm, rfl⟩
        · have HA : Hid (ans = decide (0 < s.size)) := HC1.out k hk HD.out (by omega)
          go_wp2
          go_ret
          exact ⟨ret_bool (by first | (rw [HA.out, decide_eq_decide]; done) | (rw [HA.out, decide_eq_decide]; omega) | (rw [HA.out]; exact (decide_eq_true (by omega)).symm)), rfl⟩
    · have h0z : ¬ (0 : Int) < s.size := by omega
      have HA : Hid (ans = decide (0 < s.size)) := HC1.out 0 (Nat.zero_le _) (fun j hj => by omega) (by omega)
      have HZ : Hid (s.size = 0) := by show s.size = 0; omega
      clear hgt hsg' h0
      go_enter Tryd.func70, Tryd.ntmps70
      go_wp2
      go_loop [3] (fun i => i = .int .i64 0) (fun i => 0)
      case atStart => rfl
      case round =>
        subst hrel
        go_wp2
        go_ret
        exact ⟨ret_bool (by rw [HA.out]; exact (decide_eq_false (by have := HZ.out; omega)).symm), rfl⟩

end Go.Proofs.YtemacdimdpnkeaaDoor
namespace Go.Proofs.YtemacdimdpnkeaaDoor
set_option maxRecDepth 20000
set_option maxRecDepth 20000
set_option maxRecDepth 20000
open Go.RowKit
set_option linter.unusedVariables false
set_option linter.unusedSimpArgs false
set_option maxRecDepth 20000
set_option maxHeartbeats 1000000 in
theorem rword_any (s : ByteArray) (w : World) (hs : s.size ≤ 1000000) :
    Calls Tryd.prog 69 #[.string s] w fun e w' => e = .returned (.bool (wordB s.data.toList)) ∧ w' = w := by
  have HW : Hid (wordB s.data.toList = (decide (1 ≤ s.size ∧ s.size ≤ 24) && okR s.data.toList)) := by show wordB _ = _; unfold wordB; rw [lenL]
  generalize wordB s.data.toList = ans at *
  by_cases h1 : s.size < 1
  · have h1z : (s.size : Int) < 1 := by omega
    have HA : Hid (ans = false) := by show ans = false; rw [HW.out, decide_eq_false (by omega)]; rfl
    clear h1
    go_enter Tryd.func69, Tryd.ntmps69
    go_wp2
    go_ret
    exact ⟨ret_bool HA.out.symm, rfl⟩
  by_cases h2 : 24 < s.size
  · have h1z : ¬ (s.size : Int) < 1 := by omega
    have h2z : (24 : Int) < s.size := by omega
    have HA : Hid (ans = false) := by show ans = false; rw [HW.out, decide_eq_false (by omega)]; rfl
    clear h1 h2
    go_enter Tryd.func69, Tryd.ntmps69
    go_wp2
    go_ret
    exact ⟨ret_bool HA.out.symm, rfl⟩
  have h1z : ¬ (s.size : Int) < 1 := by omega
  have h2z : ¬ (24 : Int) < s.size := by omega
  have HA : Hid (okR s.data.toList = ans) := by show _ = ans; rw [HW.out, decide_eq_true (by omega), Bool.true_and]
  clear HW
  go_enter Tryd.func69, Tryd.ntmps69
  go_wp2
  go_loopg [0] (s.size + 1) (fun gk v wx => wx = w ∧ ∃ t : ByteArray, v = .string t ∧ okR t.data.toList = ans ∧ t.size < gk ∧ t.size ≤ 24)
  case atStart => exact ⟨rfl, s, rfl, HA.out, by omega, by omega⟩
  case round =>
    obtain ⟨hwx, t, rfl, ht, hg, h24⟩ := hrel
    subst hwx
    have HT : Hid (okR t.data.toList = ans) := ht
    clear ht h1z h2z HA
    by_cases h0 : 0 < t.size
    · obtain ⟨g', rfl⟩ : ∃ g', gk = g' + 1 := ⟨gk - 1, by omega⟩
      have h0z : (0 : Int) < t.size := by omega
      have hne : t.data.toList ≠ [] := fun e => by have := lenL t; rw [e] at this; simp at this; omega
      have HS : Hid (okR t.data.toList = (!badR t.data.toList && (stands (Lib.decodeL t.data.toList).1 && okR (t.data.toList.drop (Lib.decodeL t.data.toList).2)))) := okR_step _ hne
      have CR := rune_any t wr h0 (by omega)
      unfold rn runeR at CR
      by_cases hb : badR t.data.toList = true
      · rw [hb, if_pos rfl] at CR
        have HN : Hid (ans = false) := by show ans = false; rw [← HT.out, HS.out, hb]; rfl
        clear hne hb
        go_wp2_with (go_at_call 77; refine CR.mono ?_; rintro e w' ⟨rfl, hw⟩; obtain rfl := hw.symm; clear CR)
        go_ret
        exact ⟨ret_bool HN.out.symm, rfl⟩
      · have hbf : badR t.data.toList = false := by simpa using hb
        rw [hbf, if_neg (by simp)] at CR
        have hw1 := Lib.decodeL_width t.data.toList
        have hwl := dl_le _ hne
        rw [lenL] at hwl
        have HS2 : Hid (ans = (stands (Lib.decodeL t.data.toList).1 && okR (t.data.toList.drop (Lib.decodeL t.data.toList).2))) := by show ans = _; rw [← HT.out, HS.out, hbf]; rfl
        obtain ⟨c, n, hcn⟩ : ∃ c n, Lib.decodeL t.data.toList = (c, n) := ⟨_, _, rfl⟩
        have HC : Hid (Lib.decodeL t.data.toList = (c, n)) := hcn
        rw [hcn] at CR hw1 hwl
        have HS3 : Hid (ans = (stands c && okR (t.data.toList.drop n))) := by show ans = _; rw [HS2.out, HC.out]
        dsimp only at CR hw1 hwl
        have hn0 : ((n : Int) == 0) = false := by rw [beq_eq_false_iff_ne]; omega
        have hnz : (n : Int) ≤ t.size := by omega
        have CI := inw_any c wr
        clear hcn hb hbf HS HS2 HC hne HT
        by_cases hst : stands c = true
        · obtain ⟨t', ht'⟩ : ∃ t', t.extract n t.size = t' := ⟨_, rfl⟩
          have HL : Hid (t'.data.toList = t.data.toList.drop n) := by show _ = _; rw [← ht', ext_list]
          have hz' : t'.size + n = t.size := by rw [← lenL t', HL.out, List.length_drop, lenL]; omega
          rw [hst] at CI
          have HX : Hid (okR t'.data.toList = ans) := by show _ = ans; rw [HS3.out, hst, HL.out]; rfl
          clear hst
          go_wp2_with (first | (go_at_call 77; refine CR.mono ?_; rintro e w' ⟨rfl, hw⟩; obtain rfl := hw.symm; clear CR) | (go_at_call 78; refine CI.mono ?_; rintro e w' ⟨rfl, hw⟩; obtain rfl := hw.symm; clear CI))
          go_roundg g'
          case measure => omega
          case rel => exact ⟨rfl, t', rfl, HX.out, by omega, by omega⟩
        · have hsf : stands c = false := by simpa using hst
          rw [hsf] at CI
          have HN : Hid (ans = false) := by show ans = false; rw [HS3.out, hsf]; rfl
          clear hst hsf
          go_wp2_with (first | (go_at_call 77; refine CR.mono ?_; rintro e w' ⟨rfl, hw⟩; obtain rfl := hw.symm; clear CR) | (go_at_call 78; refine CI.mono ?_; rintro e w' ⟨rfl, hw⟩; obtain rfl := hw.symm; clear CI))
          go_ret
          exact ⟨ret_bool HN.out.symm, rfl⟩
    · have h0z : ¬ (0 : Int) < t.size := by omega
      have HN : Hid (ans = true) := by
        show ans = true
        have : t.data.toList = [] := List.eq_nil_of_length_eq_zero (by rw [lenL]; omega)
        rw [← HT.out, this]; rfl
      clear h0
      go_wp2
      go_ret
      exact ⟨ret_bool HN.out.symm, rfl⟩

set_option maxHeartbeats 1000000 in
theorem word_any (s : ByteArray) (w : World) (hs : s.size ≤ 1000000) (hV : Vars w) :
    Calls Tryd.prog 87 #[.string s] w fun e w' => e = .returned (.bool (wordB s.data.toList)) ∧ Below w.heap.size w w' := by
  have HW : Hid (wordB s.data.toList = (decide (1 ≤ s.size ∧ s.size ≤ 24) && (Lib.validD s.data.toList && allR s.data.toList))) := by show wordB _ = _; unfold wordB; rw [lenL, okR_is]
  generalize wordB s.data.toList = ans at *
  have CV := valid_any s w hs hV
  by_cases h1 : s.size < 1
  · have h1e : s = ByteArray.empty := by
      have : s.data.toList = [] := List.eq_nil_of_length_eq_zero (by rw [lenL]; omega)
      cases s; simp at this; subst this; rfl
    have HA : Hid (ans = false) := by show ans = false; rw [HW.out, decide_eq_false (by omega)]; rfl
    clear h1 HW CV hV hs
    subst h1e
    go_enter Tryd.func87, Tryd.ntmps87
    go_wp2
    go_ret
    exact ⟨ret_bool HA.out.symm, Below.refl _ _⟩
  have hE : s.toList.isEmpty = false := by
    rw [Go.ByteArray.toList_eq, Bool.eq_false_iff]
    intro e
    have := lenL s
    rw [List.isEmpty_iff.1 e] at this; simp at this; omega
  by_cases h2 : 24 < s.size
  · have h2z : (24 : Int) < s.size := by omega
    have HA : Hid (ans = false) := by show ans = false; rw [HW.out, decide_eq_false (by omega)]; rfl
    clear h1 h2 HW CV hV
    go_enter Tryd.func87, Tryd.ntmps87
    go_wp2
    go_ret
    exact ⟨ret_bool HA.out.symm, Below.refl _ _⟩
  have h2z : ¬ (24 : Int) < s.size := by omega
  have HA : Hid (ans = (Lib.validD s.data.toList && allR s.data.toList)) := by show ans = _; rw [HW.out, decide_eq_true (by omega), Bool.true_and]
  clear HW hV
  generalize Lib.validD s.data.toList = V at *
  cases V with
  | false =>
    have HA2 : Hid (ans = false) := HA.out
    clear HA h1 h2
    go_enter Tryd.func87, Tryd.ntmps87
    go_wp2_with (go_at_call 94; refine CV.mono ?_; rintro e w1 ⟨rfl, hb1⟩; clear CV)
    go_ret
    exact ⟨ret_bool HA2.out.symm, hb1⟩
  | true =>
    have HA2 : Hid (allR s.data.toList = ans) := by show _ = ans; rw [HA.out]; rfl
    clear HA h1 h2
    go_enter Tryd.func87, Tryd.ntmps87
    go_wp2_with (go_at_call 94; refine CV.mono ?_; rintro e w1 ⟨rfl, hb1⟩; clear CV)
    have hk0 : (w1.iter s 0).heap[w1.heap.size]? = some (.stringIter s 0) := by simpa using World.iter_heap w1 s 0
    have hb0 : Below w.heap.size w (w1.iter s 0) := hb1.alloc hb1.size _
    have hsz1 := hb1.size
    clear hb1 hE h2z
    go_loopw [4] (fun _ wr => ∃ pos : Nat, pos ≤ s.size ∧ wr.heap[w1.heap.size]? = some (.stringIter s pos) ∧ Below w.heap.size w wr ∧ allR (s.data.toList.drop pos) = ans) (fun _ wr => s.size - wr.iterPos w1.heap.size)
    case atStart => exact ⟨0, Nat.zero_le _, hk0, hb0, by rw [List.drop_zero]; exact HA2.out⟩
    case round =>
      obtain ⟨pos, hps, hk, hbw, hal⟩ := hrel
      have HT : Hid (allR (s.data.toList.drop pos) = ans) := hal
      clear hal hk0 hb0 HA2
      by_cases hp : pos < s.size
      · have hnx : ∀ ty, (Instr.next (.pointer (some ⟨w1.heap.size, 0, none⟩)) true ty).run Tryd.prog wr = _ := fun ty => Lib.run_next_any_at wr w1.heap.size s pos ty hk hp
        have hit2 := Lib.iterAt_heap wr w1.heap.size s pos (pos + (Utf8.decode s pos).2) hk
        have hbw2 := Lib.below_iterAt hbw (k := w1.heap.size) hsz1 s (pos + (Utf8.decode s pos).2)
        have hmu : wr.iterPos w1.heap.size = pos := by simp [World.iterPos, hk]
        have hne : s.data.toList.drop pos ≠ [] := fun e => by have := congrArg List.length e; rw [List.length_drop, lenL] at this; simp at this; omega
        have hw1 := Lib.decodeL_width (s.data.toList.drop pos)
        have hwl := dl_le _ hne
        rw [List.length_drop, lenL] at hwl
        have HS : Hid (ans = (stands (Utf8.decode s pos).1 && allR (s.data.toList.drop (pos + (Utf8.decode s pos).2)))) := by
          show ans = _
          rw [← HT.out, allR_step _ hne, Lib.decodeL_drop, List.drop_drop]
        rw [Lib.decodeL_drop] at hw1 hwl
        generalize Utf8.decode s pos = dc at *
        obtain ⟨c, n⟩ := dc
        dsimp only at hnx hit2 hbw2 hw1 hwl HS
        generalize wr.iterAt w1.heap.size s (pos + n) = W1 at hnx hit2 hbw2
        have hmu2 : W1.iterPos w1.heap.size = pos + n := by simp [World.iterPos, hit2]
        have CM := may_any c W1
        clear hne HT
        by_cases hst : stands c = true
        · rw [hst] at CM
          have HX : Hid (allR (s.data.toList.drop (pos + n)) = ans) := by show _ = ans; rw [HS.out, hst]; rfl
          clear hst HS
          go_wp2_with (go_at_call 95; refine CM.mono ?_; rintro e w' ⟨rfl, hw⟩; obtain rfl := hw.symm; clear CM)
          go_roundw
          case rel => exact ⟨pos + n, by omega, hit2, hbw2, HX.out⟩
          case measure => rw [hmu, hmu2]; omega
        · have hsf : stands c = false := by simpa using hst
          rw [hsf] at CM
          have HN : Hid (ans = false) := by show ans = false; rw [HS.out, hsf]; rfl
          clear hst hsf HS
          go_wp2_with (go_at_call 95; refine CM.mono ?_; rintro e w' ⟨rfl, hw⟩; obtain rfl := hw.symm; clear CM)
          go_ret
          exact ⟨ret_bool HN.out.symm, hbw2⟩
      · have hnx : ∀ ty, (Instr.next (.pointer (some ⟨w1.heap.size, 0, none⟩)) true ty).run Tryd.prog wr = _ := fun ty => Lib.run_next_end_at wr w1.heap.size s pos ty hk hp
        have HN : Hid (ans = true) := by
          show ans = true
          rw [← HT.out, List.drop_eq_nil_of_le (by rw [lenL]; omega)]; rfl
        clear HT
        go_wp2
        go_ret
        exact ⟨ret_bool HN.out.symm, hbw⟩

theorem is_nil (s : ByteArray) : (s.toList == [110, 105, 108]) = decide (s.data.toList = nil3) := by
  rw [Go.ByteArray.toList_eq, Bool.eq_iff_iff, beq_iff_eq, decide_eq_true_eq]; rfl
def symB (l : List UInt8) : Bool := wordB l && (!numB l && !decide (l = nil3))
set_option maxHeartbeats 1000000 in
theorem issym_any (s : ByteArray) (w : World) (hs : s.size ≤ 1000000) (hV : Vars w) :
    Calls Tryd.prog 82 #[.string s] w fun e w' => e = .returned (.bool (symB s.data.toList)) ∧ Below w.heap.size w w' := by
  have HS : Hid (symB s.data.toList = (wordB s.data.toList && (!numB s.data.toList && !decide (s.data.toList = nil3)))) := rfl
  have HN := is_nil s
  have CW := word_any s w hs hV
  have CN := fun w' => isnum_any s w' hs
  generalize symB s.data.toList = ans at *
  generalize wordB s.data.toList = W at *
  generalize numB s.data.toList = N at *
  generalize decide (s.data.toList = nil3) = Z at *
  clear hV
  cases W with
  | false =>
    go_enter Tryd.func82, Tryd.ntmps82
    go_wp2_with (go_at_call 87; refine CW.mono ?_; rintro e w1 ⟨rfl, hb1⟩; clear CW)
    go_ret
    exact ⟨ret_bool HS.out.symm, hb1⟩
  | true =>
    cases N with
    | true =>
      go_enter Tryd.func82, Tryd.ntmps82
      go_wp2_with (first | (go_at_call 87; refine CW.mono ?_; rintro e w1 ⟨rfl, hb1⟩; clear CW) | (go_at_call 88; refine (CN _).mono ?_; rintro e w2 ⟨rfl, hb2⟩; clear CN))
      go_ret
      exact ⟨ret_bool HS.out.symm, hb1.trans (hb2.mono hb1.size)⟩
    | false =>
      go_enter Tryd.func82, Tryd.ntmps82
      go_wp2_with (first | (go_at_call 87; refine CW.mono ?_; rintro e w1 ⟨rfl, hb1⟩; clear CW) | (go_at_call 88; refine (CN _).mono ?_; rintro e w2 ⟨rfl, hb2⟩; clear CN))
      go_ret
      exact ⟨ret_bool (by rw [HS.out]; simp [bne, HN]), hb1.trans (hb2.mono hb1.size)⟩
end Go.Proofs.YtemacdimdpnkeaaDoor
namespace Go.Proofs.YtemacdimdpnkeaaDoor
set_option maxRecDepth 20000
set_option maxRecDepth 20000
set_option maxRecDepth 20000
open Go.RowKit
set_option linter.unusedVariables false
set_option linter.unusedSimpArgs false
set_option maxRecDepth 20000
def vv (k n : Int) (s : ByteArray) : Value := .agg #[.int .u8 k, .int .i64 n, .string s]
def chkE (k n : Int) (l : List UInt8) : Int :=
  if 2 < k then 9 else if (n ≠ 0 ∧ k ≠ 1) ∨ (l ≠ [] ∧ k ≠ 2) then 4 else if inB n = false then 12 else if k = 2 ∧ symB l = false then 6 else 0
theorem emp (s : ByteArray) : s.toList.isEmpty = s.data.toList.isEmpty := by rw [Go.ByteArray.toList_eq]
theorem emp_ne {s : ByteArray} (h : s.data.toList ≠ []) : s.toList.isEmpty = false := by rw [emp]; cases hs : s.data.toList with
  | nil => exact absurd hs h
  | cons a b => rfl
theorem emp_eq {s : ByteArray} (h : s.data.toList = []) : s = ByteArray.empty := by cases s; simp at h; subst h; rfl
theorem in0 : inB 0 = true := by decide
theorem ret_i {a b : Int} (h : a = b) : Ending.returned (.int .i64 a) = .returned (.int .i64 b) := by rw [h]
theorem box1 (w : World) (o : Obj) : Below w.heap.size w (w.alloc o) := (Below.refl _ _).alloc (Nat.le_refl _) _
set_option maxHeartbeats 2000000 in
theorem chk_any (k n : Int) (s : ByteArray) (w : World) (h0 : 0 ≤ k) (h255 : k ≤ 255) (hs : s.size ≤ 1000000) (hV : Vars w) :
    Calls Tryd.prog 79 #[vv k n s] w fun e w' => e = .returned (.int .i64 (chkE k n s.data.toList)) ∧ Below w.heap.size w w' := by
  unfold vv
  have CS := fun w' hv => issym_any s w' hs hv
  by_cases h2 : 2 < k
  · skip
    have HA : Hid (chkE k n s.data.toList = 9) := by show chkE _ _ _ = _; unfold chkE; rw [if_pos h2]
    generalize chkE k n s.data.toList = r at *
    go_enter Tryd.func79, Tryd.ntmps79
    go_wp2_with (first | (go_at_call 81; refine (inr_any _ _).mono ?_; rintro e w1 ⟨rfl, hw1⟩; obtain rfl := hw1.symm) | (go_at_call 82; refine (CS _ (hV.below (box1 _ _))).mono ?_; rintro e w2 ⟨rfl, hb2⟩))
    go_ret
    exact ⟨ret_i HA.out.symm, box1 _ _⟩
  obtain h | h | h : k = 0 ∨ k = 1 ∨ k = 2 := by omega
  · subst h
    by_cases hn : n = 0
    · subst hn
      by_cases hl : s.data.toList = []
      · obtain rfl := emp_eq hl
        have HA : Hid (chkE 0 0 ByteArray.empty.data.toList = 0) := by show chkE _ _ _ = _; unfold chkE; simp [in0]
        generalize chkE 0 0 ByteArray.empty.data.toList = r at *
        have hin := in0
        go_enter Tryd.func79, Tryd.ntmps79
        go_wp2_with (first | (go_at_call 81; refine (inr_any _ _).mono ?_; rintro e w1 ⟨rfl, hw1⟩; obtain rfl := hw1.symm) | (go_at_call 82; refine (CS _ (hV.below (box1 _ _))).mono ?_; rintro e w2 ⟨rfl, hb2⟩))
        go_ret
        exact ⟨ret_i HA.out.symm, box1 _ _⟩
      · have hE := emp_ne hl
        have HA : Hid (chkE 0 0 s.data.toList = 4) := by show chkE _ _ _ = _; unfold chkE; rw [if_neg (by decide), if_pos (.inr ⟨hl, by decide⟩)]
        generalize chkE 0 0 s.data.toList = r at *
        clear hl
        go_enter Tryd.func79, Tryd.ntmps79
        go_wp2_with (first | (go_at_call 81; refine (inr_any _ _).mono ?_; rintro e w1 ⟨rfl, hw1⟩; obtain rfl := hw1.symm) | (go_at_call 82; refine (CS _ (hV.below (box1 _ _))).mono ?_; rintro e w2 ⟨rfl, hb2⟩))
        go_ret
        exact ⟨ret_i HA.out.symm, box1 _ _⟩
    · skip
      have HA : Hid (chkE 0 n s.data.toList = 4) := by show chkE _ _ _ = _; unfold chkE; rw [if_neg (by decide), if_pos (.inl ⟨hn, by decide⟩)]
      generalize chkE 0 n s.data.toList = r at *
      have hn' : ((n : Int) != 0) = true := by rw [bne_iff_ne]; exact hn
      clear hn
      go_enter Tryd.func79, Tryd.ntmps79
      go_wp2_with (first | (go_at_call 81; refine (inr_any _ _).mono ?_; rintro e w1 ⟨rfl, hw1⟩; obtain rfl := hw1.symm) | (go_at_call 82; refine (CS _ (hV.below (box1 _ _))).mono ?_; rintro e w2 ⟨rfl, hb2⟩))
      go_ret
      exact ⟨ret_i HA.out.symm, box1 _ _⟩
  · subst h
    by_cases hn : n = 0
    · subst hn
      by_cases hl : s.data.toList = []
      · obtain rfl := emp_eq hl
        have HA : Hid (chkE 1 0 ByteArray.empty.data.toList = 0) := by show chkE _ _ _ = _; unfold chkE; simp [in0]
        generalize chkE 1 0 ByteArray.empty.data.toList = r at *
        have hin := in0
        go_enter Tryd.func79, Tryd.ntmps79
        go_wp2_with (first | (go_at_call 81; refine (inr_any _ _).mono ?_; rintro e w1 ⟨rfl, hw1⟩; obtain rfl := hw1.symm) | (go_at_call 82; refine (CS _ (hV.below (box1 _ _))).mono ?_; rintro e w2 ⟨rfl, hb2⟩))
        go_ret
        exact ⟨ret_i HA.out.symm, box1 _ _⟩
      · have hE := emp_ne hl
        have HA : Hid (chkE 1 0 s.data.toList = 4) := by show chkE _ _ _ = _; unfold chkE; rw [if_neg (by decide), if_pos (.inr ⟨hl, by decide⟩)]
        generalize chkE 1 0 s.data.toList = r at *
        clear hl
        go_enter Tryd.func79, Tryd.ntmps79
        go_wp2_with (first | (go_at_call 81; refine (inr_any _ _).mono ?_; rintro e w1 ⟨rfl, hw1⟩; obtain rfl := hw1.symm) | (go_at_call 82; refine (CS _ (hV.below (box1 _ _))).mono ?_; rintro e w2 ⟨rfl, hb2⟩))
        go_ret
        exact ⟨ret_i HA.out.symm, box1 _ _⟩
    · by_cases hl : s.data.toList = []
      · obtain rfl := emp_eq hl
        by_cases hi : inB n = true
        · skip
          have HA : Hid (chkE 1 n ByteArray.empty.data.toList = 0) := by show chkE _ _ _ = _; unfold chkE; rw [hi]; simp
          generalize chkE 1 n ByteArray.empty.data.toList = r at *
          have hn' : ((n : Int) != 0) = true := by rw [bne_iff_ne]; exact hn
          clear hn
          go_enter Tryd.func79, Tryd.ntmps79
          go_wp2_with (first | (go_at_call 81; refine (inr_any _ _).mono ?_; rintro e w1 ⟨rfl, hw1⟩; obtain rfl := hw1.symm) | (go_at_call 82; refine (CS _ (hV.below (box1 _ _))).mono ?_; rintro e w2 ⟨rfl, hb2⟩))
          go_ret
          exact ⟨ret_i HA.out.symm, box1 _ _⟩
        · have hif : inB n = false := by simpa using hi
          have HA : Hid (chkE 1 n ByteArray.empty.data.toList = 12) := by show chkE _ _ _ = _; unfold chkE; rw [hif]; simp
          generalize chkE 1 n ByteArray.empty.data.toList = r at *
          have hn' : ((n : Int) != 0) = true := by rw [bne_iff_ne]; exact hn
          clear hn hi
          go_enter Tryd.func79, Tryd.ntmps79
          go_wp2_with (first | (go_at_call 81; refine (inr_any _ _).mono ?_; rintro e w1 ⟨rfl, hw1⟩; obtain rfl := hw1.symm) | (go_at_call 82; refine (CS _ (hV.below (box1 _ _))).mono ?_; rintro e w2 ⟨rfl, hb2⟩))
          go_ret
          exact ⟨ret_i HA.out.symm, box1 _ _⟩
      · have hE := emp_ne hl
        have HA : Hid (chkE 1 n s.data.toList = 4) := by show chkE _ _ _ = _; unfold chkE; rw [if_neg (by decide), if_pos (.inr ⟨hl, by decide⟩)]
        generalize chkE 1 n s.data.toList = r at *
        have hn' : ((n : Int) != 0) = true := by rw [bne_iff_ne]; exact hn
        clear hl hn
        go_enter Tryd.func79, Tryd.ntmps79
        go_wp2_with (first | (go_at_call 81; refine (inr_any _ _).mono ?_; rintro e w1 ⟨rfl, hw1⟩; obtain rfl := hw1.symm) | (go_at_call 82; refine (CS _ (hV.below (box1 _ _))).mono ?_; rintro e w2 ⟨rfl, hb2⟩))
        go_ret
        exact ⟨ret_i HA.out.symm, box1 _ _⟩
  · subst h
    by_cases hn : n = 0
    · subst hn
      by_cases hl : s.data.toList = []
      · obtain rfl := emp_eq hl
        have hsf : symB ByteArray.empty.data.toList = false := by decide +kernel
        have HA : Hid (chkE 2 0 ByteArray.empty.data.toList = 6) := by show chkE _ _ _ = _; unfold chkE; rw [hsf]; simp [in0]
        generalize chkE 2 0 ByteArray.empty.data.toList = r at *
        have hin := in0
        rw [hsf] at CS
        clear hsf hl
        go_enter Tryd.func79, Tryd.ntmps79
        go_wp2_with (first | (go_at_call 81; refine (inr_any _ _).mono ?_; rintro e w1 ⟨rfl, hw1⟩; obtain rfl := hw1.symm) | (go_at_call 82; refine (CS _ (hV.below (box1 _ _))).mono ?_; rintro e w2 ⟨rfl, hb2⟩))
        go_ret
        exact ⟨ret_i HA.out.symm, (box1 _ _).trans (hb2.mono (box1 _ _).size)⟩
      · have hE := emp_ne hl
        clear hl
        by_cases hsy : symB s.data.toList = true
        · skip
          have HA : Hid (chkE 2 0 s.data.toList = 0) := by show chkE _ _ _ = _; unfold chkE; rw [hsy]; simp [in0]
          generalize chkE 2 0 s.data.toList = r at *
          have hin := in0
          rw [hsy] at CS
          clear hsy
          go_enter Tryd.func79, Tryd.ntmps79
          go_wp2_with (first | (go_at_call 81; refine (inr_any _ _).mono ?_; rintro e w1 ⟨rfl, hw1⟩; obtain rfl := hw1.symm) | (go_at_call 82; refine (CS _ (hV.below (box1 _ _))).mono ?_; rintro e w2 ⟨rfl, hb2⟩))
          go_ret
          exact ⟨ret_i HA.out.symm, (box1 _ _).trans (hb2.mono (box1 _ _).size)⟩
        · have hsf : symB s.data.toList = false := by simpa using hsy
          have HA : Hid (chkE 2 0 s.data.toList = 6) := by show chkE _ _ _ = _; unfold chkE; rw [hsf]; simp [in0]
          generalize chkE 2 0 s.data.toList = r at *
          have hin := in0
          rw [hsf] at CS
          clear hsy hsf
          go_enter Tryd.func79, Tryd.ntmps79
          go_wp2_with (first | (go_at_call 81; refine (inr_any _ _).mono ?_; rintro e w1 ⟨rfl, hw1⟩; obtain rfl := hw1.symm) | (go_at_call 82; refine (CS _ (hV.below (box1 _ _))).mono ?_; rintro e w2 ⟨rfl, hb2⟩))
          go_ret
          exact ⟨ret_i HA.out.symm, (box1 _ _).trans (hb2.mono (box1 _ _).size)⟩
    · skip
      have HA : Hid (chkE 2 n s.data.toList = 4) := by show chkE _ _ _ = _; unfold chkE; rw [if_neg (by decide), if_pos (.inl ⟨hn, by decide⟩)]
      generalize chkE 2 n s.data.toList = r at *
      have hn' : ((n : Int) != 0) = true := by rw [bne_iff_ne]; exact hn
      clear hn
      go_enter Tryd.func79, Tryd.ntmps79
      go_wp2_with (first | (go_at_call 81; refine (inr_any _ _).mono ?_; rintro e w1 ⟨rfl, hw1⟩; obtain rfl := hw1.symm) | (go_at_call 82; refine (CS _ (hV.below (box1 _ _))).mono ?_; rintro e w2 ⟨rfl, hb2⟩))
      go_ret
      exact ⟨ret_i HA.out.symm, box1 _ _⟩
end Go.Proofs.YtemacdimdpnkeaaDoor
namespace Go.Proofs.YtemacdimdpnkeaaDoor
set_option maxRecDepth 20000
set_option maxRecDepth 20000
set_option maxRecDepth 20000
open Go.RowKit
set_option linter.unusedVariables false
set_option linter.unusedSimpArgs false
set_option maxRecDepth 20000
def sgnS (p : Int) : ByteArray := if p = 0 then ⟨#[61]⟩ else if p = 1 then ⟨#[60, 62]⟩ else if p = 2 then ⟨#[60]⟩ else if p = 3 then ⟨#[60, 61]⟩ else if p = 4 then ⟨#[62]⟩ else if p = 5 then ⟨#[62, 61]⟩ else ⟨#[]⟩
theorem ret_st {a b : ByteArray} (h : a = b) : Ending.returned (.string a) = .returned (.string b) := by rw [h]
set_option maxHeartbeats 1000000 in
theorem sign_any13 (p : Int) (w : World) : Calls Tryd.prog 72 #[.int .u8 p] w fun e w' => e = .returned (.string (sgnS p)) ∧ w' = w := by
  by_cases hp : 6 ≤ p ∨ p < 0
  · have e0 : (p == 0) = false := by rw [beq_eq_false_iff_ne]; omega
    have e1 : (p == 1) = false := by rw [beq_eq_false_iff_ne]; omega
    have e2 : (p == 2) = false := by rw [beq_eq_false_iff_ne]; omega
    have e3 : (p == 3) = false := by rw [beq_eq_false_iff_ne]; omega
    have e4 : (p == 4) = false := by rw [beq_eq_false_iff_ne]; omega
    have e5 : (p == 5) = false := by rw [beq_eq_false_iff_ne]; omega
    have HB : Hid (sgnS p = ⟨#[]⟩) := by show sgnS p = _; unfold sgnS; rw [if_neg (by omega), if_neg (by omega), if_neg (by omega), if_neg (by omega), if_neg (by omega), if_neg (by omega)]
    generalize sgnS p = r at *
    clear hp
    go_enter Tryd.func72, Tryd.ntmps72
    go_wp2
    go_ret
    exact ⟨ret_st HB.out.symm, rfl⟩
  · obtain h | h | h | h | h | h : p = 0 ∨ p = 1 ∨ p = 2 ∨ p = 3 ∨ p = 4 ∨ p = 5 := by omega
    all_goals
      subst h
      go_enter Tryd.func72, Tryd.ntmps72
      go_wp2
      go_ret
      exact ⟨rfl, rfl⟩
end Go.Proofs.YtemacdimdpnkeaaDoor
namespace Go.Proofs.YtemacdimdpnkeaaDoor
set_option maxRecDepth 20000
open Go.RowKit
set_option linter.unusedVariables false
set_option linter.unusedSimpArgs false
set_option maxRecDepth 20000
set_option maxHeartbeats 1000000 in
theorem rsign_any13 (p : Int) (w : World) : Calls Tryd.prog 58 #[.int .u8 p] w fun e w' => e = .returned (.string (sgnS p)) ∧ w' = w := by
  by_cases hp : 6 ≤ p ∨ p < 0
  · have e0 : (p == 0) = false := by rw [beq_eq_false_iff_ne]; omega
    have e1 : (p == 1) = false := by rw [beq_eq_false_iff_ne]; omega
    have e2 : (p == 2) = false := by rw [beq_eq_false_iff_ne]; omega
    have e3 : (p == 3) = false := by rw [beq_eq_false_iff_ne]; omega
    have e4 : (p == 4) = false := by rw [beq_eq_false_iff_ne]; omega
    have e5 : (p == 5) = false := by rw [beq_eq_false_iff_ne]; omega
    have HB : Hid (sgnS p = ⟨#[]⟩) := by show sgnS p = _; unfold sgnS; rw [if_neg (by omega), if_neg (by omega), if_neg (by omega), if_neg (by omega), if_neg (by omega), if_neg (by omega)]
    generalize sgnS p = r at *
    clear hp
    go_enter Tryd.func58, Tryd.ntmps58
    go_wp2
    go_ret
    exact ⟨ret_st HB.out.symm, rfl⟩
  · obtain h | h | h | h | h | h : p = 0 ∨ p = 1 ∨ p = 2 ∨ p = 3 ∨ p = 4 ∨ p = 5 := by omega
    all_goals
      subst h
      go_enter Tryd.func58, Tryd.ntmps58
      go_wp2
      go_ret
      exact ⟨rfl, rfl⟩
end Go.Proofs.YtemacdimdpnkeaaDoor
namespace Go.Proofs.YtemacdimdpnkeaaDoor
set_option maxRecDepth 20000
set_option maxRecDepth 20000
set_option maxRecDepth 20000
open Go.RowKit
set_option linter.unusedVariables false
set_option linter.unusedSimpArgs false
set_option maxRecDepth 20000
theorem bcell {W w1 : World} (hb : Below W.heap.size W w1) : (∀ b o, b < W.heap.size → w1.cell? ⟨b, o, none⟩ = W.cell? ⟨b, o, none⟩) ∧ (∀ b o, b < W.heap.size → w1.frozen? ⟨b, o, none⟩ = W.frozen? ⟨b, o, none⟩) :=
  ⟨fun b o h => hb.cell (p := ⟨b, o, none⟩) h, fun b o h => hb.frozen (p := ⟨b, o, none⟩) h⟩
theorem up1 {w w1 : World} {o : Obj} (hb : Below (w.alloc o).heap.size (w.alloc o) w1) : Below w.heap.size w w1 := (box1 w o).trans (hb.mono (box1 w o).size)
end Go.Proofs.YtemacdimdpnkeaaDoor
namespace Go.Proofs.YtemacdimdpnkeaaDoor
set_option maxRecDepth 20000
set_option maxRecDepth 20000
set_option maxRecDepth 20000
open Go.RowKit
set_option linter.unusedVariables false
set_option linter.unusedSimpArgs false
set_option maxRecDepth 20000
def nilS : ByteArray := ⟨#[110, 105, 108]⟩
def txtS (k n : Int) (s : ByteArray) : ByteArray := if chkE k n s.data.toList ≠ 0 then nilS else if k = 1 then ⟨(Lib.itoa n).toArray⟩ else if k = 2 then s else nilS
theorem chk0 {k n : Int} {l : List UInt8} (h : chkE k n l = 0) : k ≤ 2 ∧ -1099511627776 ≤ n ∧ n ≤ 1099511627776 ∧ (k ≠ 1 → n = 0) ∧ (k ≠ 2 → l = []) ∧ (k = 2 → symB l = true) := by
  unfold chkE at h
  split at h
  · cases h
  · split at h
    · cases h
    · rename_i h1 h2
      split at h
      · cases h
      · rename_i h3
        simp only [Bool.not_eq_false, inB, decide_eq_true_eq] at h3
        split at h
        · cases h
        · rename_i h4
          refine ⟨by omega, h3.1, h3.2, fun hk => ?_, fun hk => ?_, fun hk => ?_⟩
          · by_cases hn : n = 0
            · exact hn
            · exact absurd (.inl ⟨hn, hk⟩) h2
          · by_cases hl : l = []
            · exact hl
            · exact absurd (.inr ⟨hl, hk⟩) h2
          · by_cases hs : symB l = true
            · exact hs
            · exact absurd ⟨hk, by simpa using hs⟩ h4
set_option maxHeartbeats 1000000 in
theorem text_any13 (k n : Int) (s : ByteArray) (w : World) (h0 : 0 ≤ k) (h255 : k ≤ 255) (hs : s.size ≤ 1000000) (hV : Vars w) :
    Calls Tryd.prog 71 #[vv k n s] w fun e w' => e = .returned (.string (txtS k n s)) ∧ Below w.heap.size w w' := by
  have CC := fun w' hv => chk_any k n s w' h0 h255 hs hv
  have HT : Hid (txtS k n s = if chkE k n s.data.toList ≠ 0 then nilS else if k = 1 then ⟨(Lib.itoa n).toArray⟩ else if k = 2 then s else nilS) := rfl
  generalize txtS k n s = ans at *
  by_cases hc0 : chkE k n s.data.toList = 0
  · obtain ⟨hk2, hn0, hn1, -⟩ := chk0 hc0
    rw [hc0] at CC
    unfold vv at CC ⊢
    obtain h | h | h : k = 0 ∨ k = 1 ∨ k = 2 := by omega
    · subst h
      have HA : Hid (ans = nilS) := by show ans = _; rw [HT.out, if_neg (by simp [hc0]), if_neg (by decide), if_neg (by decide)]
      clear HT hc0
      go_enter Tryd.func71, Tryd.ntmps71
      go_wp2_with (first | (go_at_call 79; refine (CC _ (hV.below (box1 _ _))).mono ?_; rintro e w1 ⟨rfl, hb1⟩; clear CC; obtain ⟨hc, hf⟩ := bcell hb1; have hz : w.heap.size < w1.heap.size := by { have := hb1.size; simp at this; omega }) | (go_at_call 62; refine (CD _ (hV.below (up1 hb1))).mono ?_; rintro e w2 ⟨rfl, hb2⟩; clear CD))
      go_ret
      exact ⟨ret_str HA.out.symm, up1 hb1⟩
    · subst h
      have HA : Hid (ans = ⟨(Lib.itoa n).toArray⟩) := by show ans = _; rw [HT.out, if_neg (by simp [hc0]), if_pos rfl]
      have CD := fun w' hv => itoa_any n w' hn0 hn1 hv
      generalize (⟨(Lib.itoa n).toArray⟩ : ByteArray) = it at *
      clear HT hc0
      go_enter Tryd.func71, Tryd.ntmps71
      go_wp2_with (first | (go_at_call 79; refine (CC _ (hV.below (box1 _ _))).mono ?_; rintro e w1 ⟨rfl, hb1⟩; clear CC; obtain ⟨hc, hf⟩ := bcell hb1; have hz : w.heap.size < w1.heap.size := by { have := hb1.size; simp at this; omega }) | (go_at_call 62; refine (CD _ (hV.below (up1 hb1))).mono ?_; rintro e w2 ⟨rfl, hb2⟩; clear CD))
      go_ret
      exact ⟨ret_str HA.out.symm, (up1 hb1).trans (hb2.mono (up1 hb1).size)⟩
    · subst h
      have HA : Hid (ans = s) := by show ans = _; rw [HT.out, if_neg (by simp [hc0]), if_neg (by decide), if_pos rfl]
      clear HT hc0
      go_enter Tryd.func71, Tryd.ntmps71
      go_wp2_with (first | (go_at_call 79; refine (CC _ (hV.below (box1 _ _))).mono ?_; rintro e w1 ⟨rfl, hb1⟩; clear CC; obtain ⟨hc, hf⟩ := bcell hb1; have hz : w.heap.size < w1.heap.size := by { have := hb1.size; simp at this; omega }) | (go_at_call 62; refine (CD _ (hV.below (up1 hb1))).mono ?_; rintro e w2 ⟨rfl, hb2⟩; clear CD))
      go_ret
      exact ⟨ret_str HA.out.symm, up1 hb1⟩
  · have HA : Hid (ans = nilS) := by show ans = _; rw [HT.out, if_pos hc0]
    have hne : ((chkE k n s.data.toList : Int) != 0) = true := by rw [bne_iff_ne]; exact hc0
    unfold vv at CC ⊢
    generalize chkE k n s.data.toList = ce at *
    clear HT hc0
    go_enter Tryd.func71, Tryd.ntmps71
    go_wp2_with (first | (go_at_call 79; refine (CC _ (hV.below (box1 _ _))).mono ?_; rintro e w1 ⟨rfl, hb1⟩; clear CC; obtain ⟨hc, hf⟩ := bcell hb1; have hz : w.heap.size < w1.heap.size := by { have := hb1.size; simp at this; omega }) | (go_at_call 62; refine (CD _ (hV.below (up1 hb1))).mono ?_; rintro e w2 ⟨rfl, hb2⟩; clear CD))
    go_ret
    exact ⟨ret_str HA.out.symm, up1 hb1⟩
end Go.Proofs.YtemacdimdpnkeaaDoor
namespace Go.Proofs.YtemacdimdpnkeaaDoor
set_option maxRecDepth 20000
open Go.RowKit
set_option linter.unusedVariables false
set_option linter.unusedSimpArgs false
set_option maxRecDepth 20000
set_option maxHeartbeats 2000000 in
theorem rchk_any (k n : Int) (s : ByteArray) (w : World) (h0 : 0 ≤ k) (h255 : k ≤ 255) (hs : s.size ≤ 1000000) :
    Calls Tryd.prog 45 #[vv k n s] w fun e w' => e = .returned (.int .i64 (chkE k n s.data.toList)) ∧ Below w.heap.size w w' := by
  unfold vv
  have CW := fun w' => rword_any s w' hs
  have CN := fun w' => risnum_any s w' hs
  have HNil := is_nil s
  have HSy : Hid (symB s.data.toList = (wordB s.data.toList && (!numB s.data.toList && !decide (s.data.toList = nil3)))) := rfl
  by_cases h2 : 2 < k
  · skip
    have HA : Hid (chkE k n s.data.toList = 9) := by show chkE _ _ _ = _; unfold chkE; rw [if_pos h2]
    generalize chkE k n s.data.toList = r at *
    go_enter Tryd.func45, Tryd.ntmps45
    go_wp2_with (first | (go_at_call 69; refine (CW _).mono ?_; rintro e w1 ⟨rfl, hw1⟩; obtain rfl := hw1.symm) | (go_at_call 70; refine (CN _).mono ?_; rintro e w2 ⟨rfl, hw2⟩; obtain rfl := hw2.symm))
    go_ret
    exact ⟨ret_i HA.out.symm, box1 _ _⟩
  obtain h | h | h : k = 0 ∨ k = 1 ∨ k = 2 := by omega
  · subst h
    by_cases hn : n = 0
    · subst hn
      by_cases hl : s.data.toList = []
      · obtain rfl := emp_eq hl
        have HA : Hid (chkE 0 0 ByteArray.empty.data.toList = 0) := by show chkE _ _ _ = _; unfold chkE; simp [in0]
        generalize chkE 0 0 ByteArray.empty.data.toList = r at *
        have hin := in0
        go_enter Tryd.func45, Tryd.ntmps45
        go_wp2_with (first | (go_at_call 69; refine (CW _).mono ?_; rintro e w1 ⟨rfl, hw1⟩; obtain rfl := hw1.symm) | (go_at_call 70; refine (CN _).mono ?_; rintro e w2 ⟨rfl, hw2⟩; obtain rfl := hw2.symm))
        go_ret
        exact ⟨ret_i HA.out.symm, box1 _ _⟩
      · have hE := emp_ne hl
        have HA : Hid (chkE 0 0 s.data.toList = 4) := by show chkE _ _ _ = _; unfold chkE; rw [if_neg (by decide), if_pos (.inr ⟨hl, by decide⟩)]
        generalize chkE 0 0 s.data.toList = r at *
        clear hl
        go_enter Tryd.func45, Tryd.ntmps45
        go_wp2_with (first | (go_at_call 69; refine (CW _).mono ?_; rintro e w1 ⟨rfl, hw1⟩; obtain rfl := hw1.symm) | (go_at_call 70; refine (CN _).mono ?_; rintro e w2 ⟨rfl, hw2⟩; obtain rfl := hw2.symm))
        go_ret
        exact ⟨ret_i HA.out.symm, box1 _ _⟩
    · skip
      have HA : Hid (chkE 0 n s.data.toList = 4) := by show chkE _ _ _ = _; unfold chkE; rw [if_neg (by decide), if_pos (.inl ⟨hn, by decide⟩)]
      generalize chkE 0 n s.data.toList = r at *
      have hn' : ((n : Int) != 0) = true := by rw [bne_iff_ne]; exact hn
      clear hn
      go_enter Tryd.func45, Tryd.ntmps45
      go_wp2_with (first | (go_at_call 69; refine (CW _).mono ?_; rintro e w1 ⟨rfl, hw1⟩; obtain rfl := hw1.symm) | (go_at_call 70; refine (CN _).mono ?_; rintro e w2 ⟨rfl, hw2⟩; obtain rfl := hw2.symm))
      go_ret
      exact ⟨ret_i HA.out.symm, box1 _ _⟩
  · subst h
    by_cases hn : n = 0
    · subst hn
      by_cases hl : s.data.toList = []
      · obtain rfl := emp_eq hl
        have HA : Hid (chkE 1 0 ByteArray.empty.data.toList = 0) := by show chkE _ _ _ = _; unfold chkE; simp [in0]
        generalize chkE 1 0 ByteArray.empty.data.toList = r at *
        have hin := in0
        go_enter Tryd.func45, Tryd.ntmps45
        go_wp2_with (first | (go_at_call 69; refine (CW _).mono ?_; rintro e w1 ⟨rfl, hw1⟩; obtain rfl := hw1.symm) | (go_at_call 70; refine (CN _).mono ?_; rintro e w2 ⟨rfl, hw2⟩; obtain rfl := hw2.symm))
        go_ret
        exact ⟨ret_i HA.out.symm, box1 _ _⟩
      · have hE := emp_ne hl
        have HA : Hid (chkE 1 0 s.data.toList = 4) := by show chkE _ _ _ = _; unfold chkE; rw [if_neg (by decide), if_pos (.inr ⟨hl, by decide⟩)]
        generalize chkE 1 0 s.data.toList = r at *
        clear hl
        go_enter Tryd.func45, Tryd.ntmps45
        go_wp2_with (first | (go_at_call 69; refine (CW _).mono ?_; rintro e w1 ⟨rfl, hw1⟩; obtain rfl := hw1.symm) | (go_at_call 70; refine (CN _).mono ?_; rintro e w2 ⟨rfl, hw2⟩; obtain rfl := hw2.symm))
        go_ret
        exact ⟨ret_i HA.out.symm, box1 _ _⟩
    · by_cases hl : s.data.toList = []
      · obtain rfl := emp_eq hl
        by_cases hi : inB n = true
        · skip
          have HA : Hid (chkE 1 n ByteArray.empty.data.toList = 0) := by show chkE _ _ _ = _; unfold chkE; rw [hi]; simp
          generalize chkE 1 n ByteArray.empty.data.toList = r at *
          have hn' : ((n : Int) != 0) = true := by rw [bne_iff_ne]; exact hn
          simp only [inB, decide_eq_true_eq] at hi
          have i1 : ¬ n < -1099511627776 := by omega
          have i2 : ¬ 1099511627776 < n := by omega
          clear hn
          go_enter Tryd.func45, Tryd.ntmps45
          go_wp2_with (first | (go_at_call 69; refine (CW _).mono ?_; rintro e w1 ⟨rfl, hw1⟩; obtain rfl := hw1.symm) | (go_at_call 70; refine (CN _).mono ?_; rintro e w2 ⟨rfl, hw2⟩; obtain rfl := hw2.symm))
          go_ret
          exact ⟨ret_i HA.out.symm, box1 _ _⟩
        · have hif : inB n = false := by simpa using hi
          have HA : Hid (chkE 1 n ByteArray.empty.data.toList = 12) := by show chkE _ _ _ = _; unfold chkE; rw [hif]; simp
          generalize chkE 1 n ByteArray.empty.data.toList = r at *
          have hn' : ((n : Int) != 0) = true := by rw [bne_iff_ne]; exact hn
          simp only [inB, decide_eq_false_iff_not] at hif
          have hif' : n < -1099511627776 ∨ (¬ n < -1099511627776 ∧ 1099511627776 < n) := by omega
          clear hn hi hif
          rcases hif' with i1 | ⟨i1, i2⟩
          all_goals
            go_enter Tryd.func45, Tryd.ntmps45
            go_wp2_with (first | (go_at_call 69; refine (CW _).mono ?_; rintro e w1 ⟨rfl, hw1⟩; obtain rfl := hw1.symm) | (go_at_call 70; refine (CN _).mono ?_; rintro e w2 ⟨rfl, hw2⟩; obtain rfl := hw2.symm))
            go_ret
            exact ⟨ret_i HA.out.symm, box1 _ _⟩
      · have hE := emp_ne hl
        have HA : Hid (chkE 1 n s.data.toList = 4) := by show chkE _ _ _ = _; unfold chkE; rw [if_neg (by decide), if_pos (.inr ⟨hl, by decide⟩)]
        generalize chkE 1 n s.data.toList = r at *
        have hn' : ((n : Int) != 0) = true := by rw [bne_iff_ne]; exact hn
        clear hl hn
        go_enter Tryd.func45, Tryd.ntmps45
        go_wp2_with (first | (go_at_call 69; refine (CW _).mono ?_; rintro e w1 ⟨rfl, hw1⟩; obtain rfl := hw1.symm) | (go_at_call 70; refine (CN _).mono ?_; rintro e w2 ⟨rfl, hw2⟩; obtain rfl := hw2.symm))
        go_ret
        exact ⟨ret_i HA.out.symm, box1 _ _⟩
  · subst h
    by_cases hn : n = 0
    · subst hn
      by_cases hl : s.data.toList = []
      · obtain rfl := emp_eq hl
        have hsf : symB ByteArray.empty.data.toList = false := by decide +kernel
        have hwf : wordB ByteArray.empty.data.toList = false := by decide +kernel
        have HA : Hid (chkE 2 0 ByteArray.empty.data.toList = 6) := by show chkE _ _ _ = _; unfold chkE; rw [hsf]; simp [in0]
        generalize chkE 2 0 ByteArray.empty.data.toList = r at *
        rw [hwf] at CW
        clear hsf hwf hl HSy HNil
        go_enter Tryd.func45, Tryd.ntmps45
        go_wp2_with (first | (go_at_call 69; refine (CW _).mono ?_; rintro e w1 ⟨rfl, hw1⟩; obtain rfl := hw1.symm) | (go_at_call 70; refine (CN _).mono ?_; rintro e w2 ⟨rfl, hw2⟩; obtain rfl := hw2.symm))
        go_ret
        exact ⟨ret_i HA.out.symm, box1 _ _⟩
      · have hE := emp_ne hl
        clear hl
        generalize decide (s.data.toList = nil3) = Z at *
        generalize wordB s.data.toList = Wb at *
        generalize numB s.data.toList = Nb at *
        have HA0 : Hid (chkE 2 0 s.data.toList = if symB s.data.toList = false then 6 else 0) := by show chkE _ _ _ = _; unfold chkE; simp [in0]
        have HA1 : Hid (chkE 2 0 s.data.toList = if (Wb && (!Nb && !Z)) = false then 6 else 0) := by show chkE _ _ _ = _; rw [HA0.out, HSy.out]
        generalize chkE 2 0 s.data.toList = r at *
        clear HA0 HSy
        cases Wb <;> cases Nb <;> cases Z
        all_goals
          have HA : Hid (r = _) := HA1.out
          clear HA1
          go_enter Tryd.func45, Tryd.ntmps45
          go_wp2_with (first | (go_at_call 69; refine (CW _).mono ?_; rintro e w1 ⟨rfl, hw1⟩; obtain rfl := hw1.symm) | (go_at_call 70; refine (CN _).mono ?_; rintro e w2 ⟨rfl, hw2⟩; obtain rfl := hw2.symm))
          go_ret
          exact ⟨ret_i HA.out.symm, box1 _ _⟩
    · skip
      have HA : Hid (chkE 2 n s.data.toList = 4) := by show chkE _ _ _ = _; unfold chkE; rw [if_neg (by decide), if_pos (.inl ⟨hn, by decide⟩)]
      generalize chkE 2 n s.data.toList = r at *
      have hn' : ((n : Int) != 0) = true := by rw [bne_iff_ne]; exact hn
      clear hn
      go_enter Tryd.func45, Tryd.ntmps45
      go_wp2_with (first | (go_at_call 69; refine (CW _).mono ?_; rintro e w1 ⟨rfl, hw1⟩; obtain rfl := hw1.symm) | (go_at_call 70; refine (CN _).mono ?_; rintro e w2 ⟨rfl, hw2⟩; obtain rfl := hw2.symm))
      go_ret
      exact ⟨ret_i HA.out.symm, box1 _ _⟩
end Go.Proofs.YtemacdimdpnkeaaDoor
namespace Go.Proofs.YtemacdimdpnkeaaDoor
set_option maxRecDepth 20000
open Go.RowKit
set_option linter.unusedVariables false
set_option linter.unusedSimpArgs false
set_option maxRecDepth 20000
set_option maxHeartbeats 1000000 in
theorem rtext_any13 (k n : Int) (s : ByteArray) (w : World) (h0 : 0 ≤ k) (h255 : k ≤ 255) (hs : s.size ≤ 1000000) :
    Calls Tryd.prog 23 #[vv k n s] w fun e w' => e = .returned (.string (txtS k n s)) ∧ Below w.heap.size w w' := by
  have CC := fun w' => rchk_any k n s w' h0 h255 hs
  have HT : Hid (txtS k n s = if chkE k n s.data.toList ≠ 0 then nilS else if k = 1 then ⟨(Lib.itoa n).toArray⟩ else if k = 2 then s else nilS) := rfl
  generalize txtS k n s = ans at *
  by_cases hc0 : chkE k n s.data.toList = 0
  · obtain ⟨hk2, hn0, hn1, -⟩ := chk0 hc0
    rw [hc0] at CC
    unfold vv at CC ⊢
    obtain h | h | h : k = 0 ∨ k = 1 ∨ k = 2 := by omega
    · subst h
      have HA : Hid (ans = nilS) := by show ans = _; rw [HT.out, if_neg (by simp [hc0]), if_neg (by decide), if_neg (by decide)]
      clear HT hc0
      go_enter Tryd.func23, Tryd.ntmps23
      go_wp2_with (first | (go_at_call 45; refine (CC _).mono ?_; rintro e w1 ⟨rfl, hb1⟩; clear CC; obtain ⟨hc, hf⟩ := bcell hb1; have hz : w.heap.size < w1.heap.size := by { have := hb1.size; simp at this; omega }) | (go_at_call 35; refine (CD _).mono ?_; rintro e w2 ⟨rfl, hw2⟩; obtain rfl := hw2.symm; clear CD))
      go_ret
      exact ⟨ret_str HA.out.symm, up1 hb1⟩
    · subst h
      have HA : Hid (ans = ⟨(Lib.itoa n).toArray⟩) := by show ans = _; rw [HT.out, if_neg (by simp [hc0]), if_pos rfl]
      have CD := fun w' => told_any n w' hn0 hn1
      generalize (⟨(Lib.itoa n).toArray⟩ : ByteArray) = it at *
      clear HT hc0
      go_enter Tryd.func23, Tryd.ntmps23
      go_wp2_with (first | (go_at_call 45; refine (CC _).mono ?_; rintro e w1 ⟨rfl, hb1⟩; clear CC; obtain ⟨hc, hf⟩ := bcell hb1; have hz : w.heap.size < w1.heap.size := by { have := hb1.size; simp at this; omega }) | (go_at_call 35; refine (CD _).mono ?_; rintro e w2 ⟨rfl, hw2⟩; obtain rfl := hw2.symm; clear CD))
      go_ret
      exact ⟨ret_str HA.out.symm, up1 hb1⟩
    · subst h
      have HA : Hid (ans = s) := by show ans = _; rw [HT.out, if_neg (by simp [hc0]), if_neg (by decide), if_pos rfl]
      clear HT hc0
      go_enter Tryd.func23, Tryd.ntmps23
      go_wp2_with (first | (go_at_call 45; refine (CC _).mono ?_; rintro e w1 ⟨rfl, hb1⟩; clear CC; obtain ⟨hc, hf⟩ := bcell hb1; have hz : w.heap.size < w1.heap.size := by { have := hb1.size; simp at this; omega }) | (go_at_call 35; refine (CD _).mono ?_; rintro e w2 ⟨rfl, hw2⟩; obtain rfl := hw2.symm; clear CD))
      go_ret
      exact ⟨ret_str HA.out.symm, up1 hb1⟩
  · have HA : Hid (ans = nilS) := by show ans = _; rw [HT.out, if_pos hc0]
    have hne : ((chkE k n s.data.toList : Int) != 0) = true := by rw [bne_iff_ne]; exact hc0
    unfold vv at CC ⊢
    generalize chkE k n s.data.toList = ce at *
    clear HT hc0
    go_enter Tryd.func23, Tryd.ntmps23
    go_wp2_with (first | (go_at_call 45; refine (CC _).mono ?_; rintro e w1 ⟨rfl, hb1⟩; clear CC; obtain ⟨hc, hf⟩ := bcell hb1; have hz : w.heap.size < w1.heap.size := by { have := hb1.size; simp at this; omega }) | (go_at_call 35; refine (CD _).mono ?_; rintro e w2 ⟨rfl, hw2⟩; obtain rfl := hw2.symm; clear CD))
    go_ret
    exact ⟨ret_str HA.out.symm, up1 hb1⟩
end Go.Proofs.YtemacdimdpnkeaaDoor
