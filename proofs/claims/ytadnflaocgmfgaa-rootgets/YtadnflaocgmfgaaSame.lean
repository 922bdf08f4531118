/- Same: the program's and the document's. -/
import Derived.Test.YtadnflaocgmfgaaCheck
import Derived.Deep.RegionHeld3
namespace Go.Proofs.Ytadnflaocgmfgaa
open Go.RowKit
set_option linter.unusedVariables false
def sameB (r s : RD) : Bool := (r.E == s.E) && ((r.B == s.B) && ((r.N == s.N) && ((r.S == s.S) && (decide (r.T = s.T) && decide (r.M = s.M)))))
theorem sameB_iff (r s : RD) : sameB r s = true ↔ r = s := by
  cases r; cases s
  simp [sameB]
set_option maxHeartbeats 800000 in
theorem rsame_any (r s : RD) (ta ma : Option Addr) (tc mc : Nat) (sa na : Option Addr) (sc nc : Nat) (w : World) (hr : Rt w r ta tc ma mc) (hs : Rt w s sa sc na nc) :
    Calls Try.prog 13 #[rootV r ta tc ma mc, rootV s sa sc na nc] w fun e w' => e = .returned (.bool (sameB r s)) ∧ Below w.heap.size w w' := by
  unfold rootV sameB
  have HV : Hid (Below w.heap.size w ((w.alloc (.cells #[.int .i64 r.E, .int .i64 r.B, .int .i64 r.N, .int .i64 r.S, .slice ta r.T.length tc, .slice ma r.M.length mc] 24)).alloc (.cells #[.int .i64 s.E, .int .i64 s.B, .int .i64 s.N, .int .i64 s.S, .slice sa s.T.length sc, .slice na s.M.length nc] 24))) := ((Below.refl _ _).alloc (Nat.le_refl _) _).alloc (by simp) _
  have g5 : ((w.alloc (.cells #[.int .i64 r.E, .int .i64 r.B, .int .i64 r.N, .int .i64 r.S, .slice ta r.T.length tc, .slice ma r.M.length mc] 24)).alloc (.cells #[.int .i64 s.E, .int .i64 s.B, .int .i64 s.N, .int .i64 s.S, .slice sa s.T.length sc, .slice na s.M.length nc] 24)).cell? ⟨w.heap.size, 5, none⟩ = some (.slice ma r.M.length mc) := by go_simp
  have g6 : ((w.alloc (.cells #[.int .i64 r.E, .int .i64 r.B, .int .i64 r.N, .int .i64 r.S, .slice ta r.T.length tc, .slice ma r.M.length mc] 24)).alloc (.cells #[.int .i64 s.E, .int .i64 s.B, .int .i64 s.N, .int .i64 s.S, .slice sa s.T.length sc, .slice na s.M.length nc] 24)).cell? ⟨w.heap.size + 1, 5, none⟩ = some (.slice na s.M.length nc) := by go_simp
  have HT : Hid (∀ W, Below w.heap.size w W → Calls Try.prog 27 #[.slice ta r.T.length tc, .slice sa s.T.length sc] W fun e w' => e = .returned (.bool (decide (r.T = s.T))) ∧ Below W.heap.size W w') := fun W hW => isame_any ta sa _ _ tc sc r.T s.T W rfl rfl (Nat.le_trans hr.tl hr.th) (hr.t.below hW) (hs.t.below hW)
  have HM : Hid (∀ W, Below w.heap.size w W → Calls Try.prog 27 #[.slice ma r.M.length mc, .slice na s.M.length nc] W fun e w' => e = .returned (.bool (decide (r.M = s.M))) ∧ Below W.heap.size W w') := fun W hW => isame_any ma na _ _ mc nc r.M s.M W rfl rfl (Nat.le_trans hr.ml hr.mh) (hr.m.below hW) (hs.m.below hW)
  clear hr hs
  generalize decide (r.T = s.T) = bt at *
  generalize decide (r.M = s.M) = bm at *
  cases h0 : (r.E == s.E)
  · go_enter Try.func13, Try.ntmps13
    go_wp2_with fail
    go_ret
    exact ⟨rfl, HV.out⟩
  · skip
    cases h1 : (r.B == s.B)
    · go_enter Try.func13, Try.ntmps13
      go_wp2_with fail
      go_ret
      exact ⟨rfl, HV.out⟩
    · skip
      cases h2 : (r.N == s.N)
      · go_enter Try.func13, Try.ntmps13
        go_wp2_with fail
        go_ret
        exact ⟨rfl, HV.out⟩
      · skip
        cases h3 : (r.S == s.S)
        · go_enter Try.func13, Try.ntmps13
          go_wp2_with fail
          go_ret
          exact ⟨rfl, HV.out⟩
        · skip
          cases bt
          · go_enter Try.func13, Try.ntmps13
            go_wp2_with (first
              | (go_at_call 27; refine (HT.out _ HV.out).mono ?_; rintro e w1 ⟨rfl, hb1⟩; have HB1 : Hid (Below w.heap.size w w1) := HV.out.trans (hb1.mono HV.out.size); have f5 := (hb1.cell (p := ⟨w.heap.size, 5, none⟩) (by simp <;> omega)).trans g5; have f6 := (hb1.cell (p := ⟨w.heap.size + 1, 5, none⟩) (by simp)).trans g6; clear HT hb1)
              | (go_at_call 27; refine (HM.out _ HB1.out).mono ?_; rintro e w2 ⟨rfl, hb2⟩; have HB2 : Hid (Below w.heap.size w w2) := HB1.out.trans (hb2.mono HB1.out.size); clear HM hb2)
              | fail)
            go_ret
            exact ⟨rfl, HB1.out⟩
          · cases bm
            all_goals (
              go_enter Try.func13, Try.ntmps13
              go_wp2_with (first
                | (go_at_call 27; refine (HT.out _ HV.out).mono ?_; rintro e w1 ⟨rfl, hb1⟩; have HB1 : Hid (Below w.heap.size w w1) := HV.out.trans (hb1.mono HV.out.size); have f5 := (hb1.cell (p := ⟨w.heap.size, 5, none⟩) (by simp <;> omega)).trans g5; have f6 := (hb1.cell (p := ⟨w.heap.size + 1, 5, none⟩) (by simp)).trans g6; clear HT hb1)
                | (go_at_call 27; refine (HM.out _ HB1.out).mono ?_; rintro e w2 ⟨rfl, hb2⟩; have HB2 : Hid (Below w.heap.size w w2) := HB1.out.trans (hb2.mono HB1.out.size); clear HM hb2)
                | fail)
              go_ret
              exact ⟨rfl, HB2.out⟩)
set_option maxHeartbeats 800000 in
theorem same_any (r s : RD) (ta ma : Option Addr) (tc mc : Nat) (sa na : Option Addr) (sc nc : Nat) (w : World) (hr : Rt w r ta tc ma mc) (hs : Rt w s sa sc na nc) :
    Calls Try.prog 12 #[rootV r ta tc ma mc, rootV s sa sc na nc] w fun e w' => e = .returned (.bool (sameB r s)) ∧ Below w.heap.size w w' := by
  unfold rootV sameB
  have HV : Hid (Below w.heap.size w ((w.alloc (.cells #[.int .i64 r.E, .int .i64 r.B, .int .i64 r.N, .int .i64 r.S, .slice ta r.T.length tc, .slice ma r.M.length mc] 31)).alloc (.cells #[.int .i64 s.E, .int .i64 s.B, .int .i64 s.N, .int .i64 s.S, .slice sa s.T.length sc, .slice na s.M.length nc] 31))) := ((Below.refl _ _).alloc (Nat.le_refl _) _).alloc (by simp) _
  have g5 : ((w.alloc (.cells #[.int .i64 r.E, .int .i64 r.B, .int .i64 r.N, .int .i64 r.S, .slice ta r.T.length tc, .slice ma r.M.length mc] 31)).alloc (.cells #[.int .i64 s.E, .int .i64 s.B, .int .i64 s.N, .int .i64 s.S, .slice sa s.T.length sc, .slice na s.M.length nc] 31)).cell? ⟨w.heap.size, 5, none⟩ = some (.slice ma r.M.length mc) := by go_simp
  have g6 : ((w.alloc (.cells #[.int .i64 r.E, .int .i64 r.B, .int .i64 r.N, .int .i64 r.S, .slice ta r.T.length tc, .slice ma r.M.length mc] 31)).alloc (.cells #[.int .i64 s.E, .int .i64 s.B, .int .i64 s.N, .int .i64 s.S, .slice sa s.T.length sc, .slice na s.M.length nc] 31)).cell? ⟨w.heap.size + 1, 5, none⟩ = some (.slice na s.M.length nc) := by go_simp
  have HT : Hid (∀ W, Below w.heap.size w W → Calls Try.prog 26 #[.slice ta r.T.length tc, .slice sa s.T.length sc] W fun e w' => e = .returned (.bool (decide (r.T = s.T))) ∧ Below W.heap.size W w') := fun W hW => iequal_any ta sa _ _ tc sc r.T s.T W rfl rfl (Nat.le_trans hr.tl hr.th) (hr.t.below hW) (hs.t.below hW)
  have HM : Hid (∀ W, Below w.heap.size w W → Calls Try.prog 26 #[.slice ma r.M.length mc, .slice na s.M.length nc] W fun e w' => e = .returned (.bool (decide (r.M = s.M))) ∧ Below W.heap.size W w') := fun W hW => iequal_any ma na _ _ mc nc r.M s.M W rfl rfl (Nat.le_trans hr.ml hr.mh) (hr.m.below hW) (hs.m.below hW)
  clear hr hs
  generalize decide (r.T = s.T) = bt at *
  generalize decide (r.M = s.M) = bm at *
  cases h0 : (r.E == s.E)
  · go_enter Try.func12, Try.ntmps12
    go_wp2_with fail
    go_ret
    exact ⟨rfl, HV.out⟩
  · skip
    cases h1 : (r.B == s.B)
    · go_enter Try.func12, Try.ntmps12
      go_wp2_with fail
      go_ret
      exact ⟨rfl, HV.out⟩
    · skip
      cases h2 : (r.N == s.N)
      · go_enter Try.func12, Try.ntmps12
        go_wp2_with fail
        go_ret
        exact ⟨rfl, HV.out⟩
      · skip
        cases h3 : (r.S == s.S)
        · go_enter Try.func12, Try.ntmps12
          go_wp2_with fail
          go_ret
          exact ⟨rfl, HV.out⟩
        · skip
          cases bt
          · go_enter Try.func12, Try.ntmps12
            go_wp2_with (first
              | (go_at_call 26; refine (HT.out _ HV.out).mono ?_; rintro e w1 ⟨rfl, hb1⟩; have HB1 : Hid (Below w.heap.size w w1) := HV.out.trans (hb1.mono HV.out.size); have f5 := (hb1.cell (p := ⟨w.heap.size, 5, none⟩) (by simp <;> omega)).trans g5; have f6 := (hb1.cell (p := ⟨w.heap.size + 1, 5, none⟩) (by simp)).trans g6; clear HT hb1)
              | (go_at_call 26; refine (HM.out _ HB1.out).mono ?_; rintro e w2 ⟨rfl, hb2⟩; have HB2 : Hid (Below w.heap.size w w2) := HB1.out.trans (hb2.mono HB1.out.size); clear HM hb2)
              | fail)
            go_ret
            exact ⟨rfl, HB1.out⟩
          · cases bm
            all_goals (
              go_enter Try.func12, Try.ntmps12
              go_wp2_with (first
                | (go_at_call 26; refine (HT.out _ HV.out).mono ?_; rintro e w1 ⟨rfl, hb1⟩; have HB1 : Hid (Below w.heap.size w w1) := HV.out.trans (hb1.mono HV.out.size); have f5 := (hb1.cell (p := ⟨w.heap.size, 5, none⟩) (by simp <;> omega)).trans g5; have f6 := (hb1.cell (p := ⟨w.heap.size + 1, 5, none⟩) (by simp)).trans g6; clear HT hb1)
                | (go_at_call 26; refine (HM.out _ HB1.out).mono ?_; rintro e w2 ⟨rfl, hb2⟩; have HB2 : Hid (Below w.heap.size w w2) := HB1.out.trans (hb2.mono HB1.out.size); clear HM hb2)
                | fail)
              go_ret
              exact ⟨rfl, HB2.out⟩)
end Go.Proofs.Ytadnflaocgmfgaa
