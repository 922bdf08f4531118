/- The document's Check. -/
import Derived.Test.YtadnflaocgmfgaaCheck2
import Derived.Test.YtadnflaocgmfgaaAwake
namespace Go.Proofs.Ytadnflaocgmfgaa
open Go.RowKit
set_option linter.unusedVariables false
theorem all_take (zs : List Int) (f : Int → Bool) (k : Nat) (h : k < zs.length) : (zs.take (k + 1)).all f = ((zs.take k).all f && f (zs.getD k 0)) := by
  rw [take_snoc zs k h, List.all_append]; simp
set_option maxHeartbeats 800000 in
theorem rblocks_ok (B : Int) (b off n c : Nat) (zs : List Int) (w : World) (hl : zs.length = n) (hn : n ≤ 9223372036854775807) (hbl : b < w.heap.size) (hz : ∀ i, i < zs.length → w.cell? ⟨b, off + i, none⟩ = some (.int .i64 (zs.getD i 0))) :
    Calls Try.prog 40 #[.slice (some ⟨b, off, none⟩) n c, .int .i64 B] w fun e w' => e = .returned (.bool (inB B zs)) ∧ Below w.heap.size w w' := by
  have HL : Hid (zs.length = n) := hl
  have HZ : Hid (∀ i, i < n → w.cell? ⟨b, off + i, none⟩ = some (.int .i64 (zs.getD i 0))) := fun i hi => hz i (by omega)
  clear hl hz
  unfold inB
  go_enter Try.func40, Try.ntmps40
  go_wp2
  go_loopw [5] (fun i wr => ∃ k : Nat, k ≤ n ∧ i = .int .i64 k ∧ Hid ((zs.take k).all (fun z => decide (2 ≤ z) && decide (z < B)) = true) ∧ Hid (Below w.heap.size w wr)) (fun i _ => n - (intOf i).toNat)
  case atStart => exact ⟨0, Nat.zero_le _, rfl, rfl, Below.refl _ _⟩
  case round =>
    obtain ⟨k, hk, rfl, HA, HW⟩ := hrel
    by_cases hlt : k < n
    · have hx := (HW.out.cell (p := ⟨b, off + k, none⟩) hbl).trans (HZ.out k hlt)
      have HT : Hid ((zs.take (k + 1)).all (fun z => decide (2 ≤ z) && decide (z < B)) = (decide (2 ≤ zs.getD k 0) && decide (zs.getD k 0 < B))) := by
        have := all_take zs (fun z => decide (2 ≤ z) && decide (z < B)) k (by rw [HL.out]; exact hlt)
        rw [HA.out, Bool.true_and] at this
        exact this
      have HAN : Hid ((decide (2 ≤ zs.getD k 0) && decide (zs.getD k 0 < B)) = false → zs.all (fun z => decide (2 ≤ z) && decide (z < B)) = false) := fun h => by
        rw [List.all_eq_false]
        refine ⟨zs.getD k 0, ?_, by rw [h]; simp⟩
        have h2 := HL.out
        rw [List.getD_eq_getElem?_getD, List.getElem?_eq_getElem (by omega)]
        exact List.getElem_mem _
      clear HZ HA
      generalize zs.getD k 0 = x at *
      by_cases h2 : x < 2
      · have d2 : decide (x < 2) = true := by simpa using h2
        have HF : Hid (zs.all (fun z => decide (2 ≤ z) && decide (z < B)) = false) := HAN.out (by rw [decide_eq_false (show ¬ 2 ≤ x by omega)]; rfl)
        go_wp2
        go_ret
        exact ⟨by rw [HF.out]; rfl, HW.out⟩
      · have d2 : decide (x < 2) = false := by simpa using h2
        by_cases h3 : B ≤ x
        · have d3 : decide (B ≤ x) = true := by simpa using h3
          have HF : Hid (zs.all (fun z => decide (2 ≤ z) && decide (z < B)) = false) := HAN.out (by rw [decide_eq_false (show ¬ x < B by omega), Bool.and_false])
          go_wp2
          go_ret
          exact ⟨by rw [HF.out]; rfl, HW.out⟩
        · have d3 : decide (B ≤ x) = false := by simpa using h3
          have HG : Hid ((zs.take (k + 1)).all (fun z => decide (2 ≤ z) && decide (z < B)) = true) := by rw [HT.out, decide_eq_true (show 2 ≤ x by omega), decide_eq_true (show x < B by omega)]; exact (rfl : (true && true) = true)
          go_wp2
          go_roundw
          case rel => exact ⟨k + 1, by omega, by go_num, HG.out, HW.out⟩
          case measure => simp [intOf]; omega
    · have : k = n := by omega
      subst this
      have HF : Hid (zs.all (fun z => decide (2 ≤ z) && decide (z < B)) = true) := by
        have h := HA.out
        rw [List.take_of_length_le (by rw [HL.out]; exact Nat.le_refl _)] at h
        exact h
      go_wp2
      go_ret
      exact ⟨by rw [HF.out]; rfl, HW.out⟩
set_option maxHeartbeats 400000 in
theorem rblocks_zero (B : Int) (c : Nat) (a : Option Addr) (w : World) : Calls Try.prog 40 #[.slice a 0 c, .int .i64 B] w fun e w' => e = .returned (.bool true) ∧ w' = w := by
  go_enter Try.func40, Try.ntmps40
  go_wp2
  go_loop [5] (fun i => i = .int .i64 0) (fun _ => 0)
  case atStart => rfl
  case round =>
    obtain rfl := hrel
    go_wp2
    go_ret
    exact ⟨rfl, rfl⟩
theorem rblocks_any (B : Int) (n c : Nat) (a : Option Addr) (zs : List Int) (w : World) (hl : zs.length = n) (hn : n ≤ 9223372036854775807) (hz : IV w a zs) :
    Calls Try.prog 40 #[.slice a n c, .int .i64 B] w fun e w' => e = .returned (.bool (inB B zs)) ∧ Below w.heap.size w w' := by
  rcases hz with rfl | ⟨b, off, rfl, hb, hcc⟩
  · subst hl
    refine (rblocks_zero B c a w).mono ?_
    rintro e w' ⟨rfl, hw⟩
    obtain rfl := hw.symm
    exact ⟨rfl, Below.refl _ _⟩
  · exact rblocks_ok B b off n c zs w hl hn hb hcc
set_option maxHeartbeats 3200000 in
theorem rcheck_any (r : RD) (ta ma : Option Addr) (tc mc : Nat) (w : World) (hr : Rt w r ta tc ma mc) :
    Calls Try.prog 19 #[rootV r ta tc ma mc] w fun e w' => e = .returned (.int .i64 (checkE r)) ∧ Below w.heap.size w w' := by
  obtain ⟨ce, hce⟩ : ∃ ce, ce = checkE r := ⟨_, rfl⟩
  rw [← hce]
  have HCE : Hid (ce = checkE r) := hce
  have HV : Hid (Below w.heap.size w (w.alloc (.cells #[.int .i64 r.E, .int .i64 r.B, .int .i64 r.N, .int .i64 r.S, .slice ta r.T.length tc, .slice ma r.M.length mc] 24))) := (Below.refl _ _).alloc (Nat.le_refl _) _
  have HT : Hid (∀ W, Below w.heap.size w W → Calls Try.prog 40 #[.slice ta r.T.length tc, .int .i64 r.B] W fun e w' => e = .returned (.bool (inB r.B r.T)) ∧ Below W.heap.size W w') := fun W hW => rblocks_any r.B _ tc ta r.T W rfl (Nat.le_trans hr.tl hr.th) (hr.t.below hW)
  have HM : Hid (∀ W, Below w.heap.size w W → Calls Try.prog 40 #[.slice ma r.M.length mc, .int .i64 r.B] W fun e w' => e = .returned (.bool (inB r.B r.M)) ∧ Below W.heap.size W w') := fun W hW => rblocks_any r.B _ mc ma r.M W rfl (Nat.le_trans hr.ml hr.mh) (hr.m.below hW)
  have HBD : Hid (∀ h : ¬ ((0 ≤ r.E ∧ r.E ≤ 1099511627776) ∧ (2 ≤ r.B ∧ r.B ≤ 4096) ∧ (0 ≤ r.N ∧ r.N ≤ 3000) ∧ (0 ≤ r.S ∧ r.S ≤ r.N)), ce = 12) := fun h => by
    rw [HCE.out]
    exact checkE_bad (by cases hb : limB r; rfl; exact absurd ((limB_iff r).1 hb) h)
  have g5 : (w.alloc (.cells #[.int .i64 r.E, .int .i64 r.B, .int .i64 r.N, .int .i64 r.S, .slice ta r.T.length tc, .slice ma r.M.length mc] 24)).cell? ⟨w.heap.size, 5, none⟩ = some (.slice ma r.M.length mc) := by go_simp
  have g1 : (w.alloc (.cells #[.int .i64 r.E, .int .i64 r.B, .int .i64 r.N, .int .i64 r.S, .slice ta r.T.length tc, .slice ma r.M.length mc] 24)).cell? ⟨w.heap.size, 1, none⟩ = some (.int .i64 r.B) := by go_simp
  clear hce hr
  unfold rootV
  by_cases h0 : r.E < 0
  · have d0 : decide (r.E < 0) = true := by simpa using h0
    have HE : Hid (ce = 12) := HBD.out (by omega)
    clear HT HM HBD HCE g5 g1
    go_enter Try.func19, Try.ntmps19
    go_wp2_with fail
    go_ret
    exact ⟨by rw [HE.out]; rfl, HV.out⟩
  · have d0 : decide (r.E < 0) = false := by simpa using h0
    by_cases h1 : 1099511627776 < r.E
    · have d1 : decide (1099511627776 < r.E) = true := by simpa using h1
      have HE : Hid (ce = 12) := HBD.out (by omega)
      clear HT HM HBD HCE g5 g1
      go_enter Try.func19, Try.ntmps19
      go_wp2_with fail
      go_ret
      exact ⟨by rw [HE.out]; rfl, HV.out⟩
    · have d1 : decide (1099511627776 < r.E) = false := by simpa using h1
      by_cases h2 : r.B < 2
      · have d2 : decide (r.B < 2) = true := by simpa using h2
        have HE : Hid (ce = 12) := HBD.out (by omega)
        clear HT HM HBD HCE g5 g1
        go_enter Try.func19, Try.ntmps19
        go_wp2_with fail
        go_ret
        exact ⟨by rw [HE.out]; rfl, HV.out⟩
      · have d2 : decide (r.B < 2) = false := by simpa using h2
        by_cases h3 : 4096 < r.B
        · have d3 : decide (4096 < r.B) = true := by simpa using h3
          have HE : Hid (ce = 12) := HBD.out (by omega)
          clear HT HM HBD HCE g5 g1
          go_enter Try.func19, Try.ntmps19
          go_wp2_with fail
          go_ret
          exact ⟨by rw [HE.out]; rfl, HV.out⟩
        · have d3 : decide (4096 < r.B) = false := by simpa using h3
          by_cases h4 : r.N < 0
          · have d4 : decide (r.N < 0) = true := by simpa using h4
            have HE : Hid (ce = 12) := HBD.out (by omega)
            clear HT HM HBD HCE g5 g1
            go_enter Try.func19, Try.ntmps19
            go_wp2_with fail
            go_ret
            exact ⟨by rw [HE.out]; rfl, HV.out⟩
          · have d4 : decide (r.N < 0) = false := by simpa using h4
            by_cases h5 : 3000 < r.N
            · have d5 : decide (3000 < r.N) = true := by simpa using h5
              have HE : Hid (ce = 12) := HBD.out (by omega)
              clear HT HM HBD HCE g5 g1
              go_enter Try.func19, Try.ntmps19
              go_wp2_with fail
              go_ret
              exact ⟨by rw [HE.out]; rfl, HV.out⟩
            · have d5 : decide (3000 < r.N) = false := by simpa using h5
              by_cases h6 : r.S < 0
              · have d6 : decide (r.S < 0) = true := by simpa using h6
                have HE : Hid (ce = 12) := HBD.out (by omega)
                clear HT HM HBD HCE g5 g1
                go_enter Try.func19, Try.ntmps19
                go_wp2_with fail
                go_ret
                exact ⟨by rw [HE.out]; rfl, HV.out⟩
              · have d6 : decide (r.S < 0) = false := by simpa using h6
                by_cases h7 : r.N < r.S
                · have d7 : decide (r.N < r.S) = true := by simpa using h7
                  have HE : Hid (ce = 12) := HBD.out (by omega)
                  clear HT HM HBD HCE g5 g1
                  go_enter Try.func19, Try.ntmps19
                  go_wp2_with fail
                  go_ret
                  exact ⟨by rw [HE.out]; rfl, HV.out⟩
                · have d7 : decide (r.N < r.S) = false := by simpa using h7
                  have HLM : Hid (limB r = true) := (limB_iff r).2 (by omega)
                  clear HBD h0 h1 h2 h3 h4 h5 h6 h7
                  by_cases ht : 26 < r.T.length
                  · have e1 : decide ((26 : Int) < (r.T.length : Int)) = true := by simp; omega
                    have HE : Hid (ce = 5) := by
                      rw [HCE.out]; show checkE r = 5
                      unfold checkE
                      rw [if_neg (by rw [HLM.out]; simp), if_pos (by unfold longB; rw [decide_eq_true ht]; rfl)]
                    clear HT HM HCE g5 g1 ht
                    go_enter Try.func19, Try.ntmps19
                    go_wp2_with fail
                    go_ret
                    exact ⟨by rw [HE.out]; rfl, HV.out⟩
                  · have e1 : decide ((26 : Int) < (r.T.length : Int)) = false := by simp; omega
                    by_cases hm : 3 < r.M.length
                    · have e2 : decide ((3 : Int) < (r.M.length : Int)) = true := by simp; omega
                      have HE : Hid (ce = 5) := by
                        rw [HCE.out]; show checkE r = 5
                        unfold checkE
                        rw [if_neg (by rw [HLM.out]; simp), if_pos (by unfold longB; rw [decide_eq_true hm, Bool.or_true])]
                      clear HT HM HCE g5 g1 ht hm
                      go_enter Try.func19, Try.ntmps19
                      go_wp2_with fail
                      go_ret
                      exact ⟨by rw [HE.out]; rfl, HV.out⟩
                    · have e2 : decide ((3 : Int) < (r.M.length : Int)) = false := by simp; omega
                      have HE : Hid (ce = if (inB r.B r.T && inB r.B r.M) = false then 12 else 0) := by
                        rw [HCE.out]; show checkE r = _
                        unfold checkE
                        rw [if_neg (by rw [HLM.out]; simp), if_neg (by unfold longB; rw [decide_eq_false ht, decide_eq_false hm]; simp)]
                      clear HCE HLM ht hm
                      generalize inB r.B r.T = bt at *
                      generalize inB r.B r.M = bm at *
                      cases bt
                      · go_enter Try.func19, Try.ntmps19
                        go_wp2_with (first
                          | (go_at_call 40; refine (HT.out _ HV.out).mono ?_; rintro e w1 ⟨rfl, hb1⟩; clear HT)
                          | fail)
                        go_ret
                        exact ⟨by rw [HE.out]; rfl, HV.out.trans (hb1.mono HV.out.size)⟩
                      · cases bm
                        all_goals (
                          go_enter Try.func19, Try.ntmps19
                          go_wp2_with (first
                            | (go_at_call 40; refine (HT.out _ HV.out).mono ?_; rintro e w1 ⟨rfl, hb1⟩; have HB1 : Hid (Below w.heap.size w w1) := HV.out.trans (hb1.mono HV.out.size); have f5 := (hb1.cell (p := ⟨w.heap.size, 5, none⟩) (by simp)).trans g5; have f1 := (hb1.cell (p := ⟨w.heap.size, 1, none⟩) (by simp)).trans g1; clear HT hb1)
                            | (go_at_call 40; refine (HM.out _ HB1.out).mono ?_; rintro e w2 ⟨rfl, hb2⟩; have HB2 : Hid (Below w.heap.size w w2) := HB1.out.trans (hb2.mono HB1.out.size); clear HM hb2)
                            | fail)
                          go_ret
                          exact ⟨by rw [HE.out]; rfl, HB2.out⟩)
end Go.Proofs.Ytadnflaocgmfgaa
