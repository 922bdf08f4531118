/- For any two roots with at most 60 tables and maps: what Put lays of the first, and what it tells, is what the document says, and so is what Check tells of it, and whether both are one. -/
import Derived.Test.YtadnflaocgmfgaaRows
import Derived.Test.YtadnflaocgmfgaaArg
import Derived.WalkKit
import Derived.ProofKit
import Derived.OpenShut
import Derived.ShutString
import Derived.ChangeOld
import Derived.Below
import Derived.Test.YtadnflaocgmfgaaRPut
namespace Go.Proofs.Ytadnflaocgmfgaa.rootPuts
open Go.ChangeShapes Go.WideShapes Go.ChangeAt Go.RowKit
set_option linter.unusedVariables false
set_option linter.unusedSimpArgs false
set_option maxRecDepth 20000

theorem own : ownKnob Try.prog.godebug = none := by kernel_rfl
theorem laidOut : laidOutB Try.prog = true := by kernel_rfl
set_option maxHeartbeats 1600000 in
theorem walk_r (r : RD) (ta ma : Option Addr) (tc mc : Nat) (s : RD) (sa na : Option Addr) (sc nc : Nat) (w : World) (hr : Rt w r ta tc ma mc) (hs : Rt w s sa sc na nc) (h : lightB r = false) :
    Calls Try.prog 3 #[rootV r ta tc ma mc, rootV s sa sc na nc] w fun e w' => e = .returned (.bool true) ∧ Below w.heap.size w w' := by
  obtain ⟨W0, hW0⟩ : ∃ W, W = (w.alloc (.cells #[.int .i64 r.E, .int .i64 r.B, .int .i64 r.N, .int .i64 r.S, .slice ta r.T.length tc, .slice ma r.M.length mc] 24)).alloc (.cells #[.int .i64 s.E, .int .i64 s.B, .int .i64 s.N, .int .i64 s.S, .slice sa s.T.length sc, .slice na s.M.length nc] 24) := ⟨_, rfl⟩
  have hB0 : Below w.heap.size w W0 := by rw [hW0]; exact ((Below.refl _ _).alloc (Nat.le_refl _) _).alloc (by simp) _
  have HXr : Hid (W0.heap[w.heap.size]? = some (.cells #[.int .i64 r.E, .int .i64 r.B, .int .i64 r.N, .int .i64 r.S, .slice ta r.T.length tc, .slice ma r.M.length mc] 24 (0, 0))) := by
    rw [hW0]
    have b1 : Below (w.alloc (.cells #[.int .i64 r.E, .int .i64 r.B, .int .i64 r.N, .int .i64 r.S, .slice ta r.T.length tc, .slice ma r.M.length mc] 24)).heap.size (w.alloc (.cells #[.int .i64 r.E, .int .i64 r.B, .int .i64 r.N, .int .i64 r.S, .slice ta r.T.length tc, .slice ma r.M.length mc] 24)) ((w.alloc (.cells #[.int .i64 r.E, .int .i64 r.B, .int .i64 r.N, .int .i64 r.S, .slice ta r.T.length tc, .slice ma r.M.length mc] 24)).alloc (.cells #[.int .i64 s.E, .int .i64 s.B, .int .i64 s.N, .int .i64 s.S, .slice sa s.T.length sc, .slice na s.M.length nc] 24)) := (Below.refl _ _).alloc (Nat.le_refl _) _
    exact (b1.block _ (by simp)).trans (heap_alloc_last _ _)
  have HXs : Hid (W0.heap[w.heap.size + 1]? = some (.cells #[.int .i64 s.E, .int .i64 s.B, .int .i64 s.N, .int .i64 s.S, .slice sa s.T.length sc, .slice na s.M.length nc] 24 (0, 0))) := by
    have h := heap_alloc_last (w.alloc (.cells #[.int .i64 r.E, .int .i64 r.B, .int .i64 r.N, .int .i64 r.S, .slice ta r.T.length tc, .slice ma r.M.length mc] 24)) (.cells #[.int .i64 s.E, .int .i64 s.B, .int .i64 s.N, .int .i64 s.S, .slice sa s.T.length sc, .slice na s.M.length nc] 24 (0, 0))
    rw [World.size_alloc] at h
    rw [hW0]; exact h
  have HRr : Hid (Rt W0 r ta tc ma mc) := hr.below hB0
  have HRs : Hid (Rt W0 s sa sc na nc) := hs.below hB0
  have HLr : Hid (∀ W, Calls Try.prog 7 #[rootV r ta tc ma mc] W fun e w' => e = .returned (.bool (lightB r)) ∧ Below W.heap.size W w') := fun W => light_any r ta ma tc mc W
  have HLs : Hid (∀ W, Calls Try.prog 7 #[rootV s sa sc na nc] W fun e w' => e = .returned (.bool (lightB s)) ∧ Below W.heap.size W w') := fun W => light_any s sa na sc nc W
  have HA := awake_any
  clear hr hs
  rw [h] at HLr
  unfold rootV at *
  go_enter Try.func3, Try.ntmps3
  go_wp2_with fail
  rw [← hW0]
  clear hW0
  refine (HLr.out _).mono ?_
  rintro e w1 ⟨rfl, hb1⟩
  obtain ⟨x0, x1, x2, x3, x4, x5, _⟩ := RX.of' ((hb1.block _ (Array.getElem?_eq_some_iff.1 HXr.out).1).trans HXr.out)
  obtain ⟨y0, y1, y2, y3, y4, y5, _⟩ := RX.of' ((hb1.block _ (Array.getElem?_eq_some_iff.1 HXs.out).1).trans HXs.out)
  have HB1 : Hid (Below W0.heap.size W0 w1) := hb1
  clear HLr hb1
  go_wp2_with (first | (go_at_call 8; refine (HA _).mono ?_; rintro e w2 ⟨rfl, hb2⟩; clear HA) | fail)
  go_ret
  have B1 := hB0.trans (HB1.out.mono hB0.size)
  exact ⟨rfl, B1.trans (hb2.mono B1.size)⟩
set_option maxHeartbeats 1600000 in
theorem walk_s (r : RD) (ta ma : Option Addr) (tc mc : Nat) (s : RD) (sa na : Option Addr) (sc nc : Nat) (w : World) (hr : Rt w r ta tc ma mc) (hs : Rt w s sa sc na nc) (h : lightB r = true) (h2 : lightB s = false) :
    Calls Try.prog 3 #[rootV r ta tc ma mc, rootV s sa sc na nc] w fun e w' => e = .returned (.bool true) ∧ Below w.heap.size w w' := by
  obtain ⟨W0, hW0⟩ : ∃ W, W = (w.alloc (.cells #[.int .i64 r.E, .int .i64 r.B, .int .i64 r.N, .int .i64 r.S, .slice ta r.T.length tc, .slice ma r.M.length mc] 24)).alloc (.cells #[.int .i64 s.E, .int .i64 s.B, .int .i64 s.N, .int .i64 s.S, .slice sa s.T.length sc, .slice na s.M.length nc] 24) := ⟨_, rfl⟩
  have hB0 : Below w.heap.size w W0 := by rw [hW0]; exact ((Below.refl _ _).alloc (Nat.le_refl _) _).alloc (by simp) _
  have HXr : Hid (W0.heap[w.heap.size]? = some (.cells #[.int .i64 r.E, .int .i64 r.B, .int .i64 r.N, .int .i64 r.S, .slice ta r.T.length tc, .slice ma r.M.length mc] 24 (0, 0))) := by
    rw [hW0]
    have b1 : Below (w.alloc (.cells #[.int .i64 r.E, .int .i64 r.B, .int .i64 r.N, .int .i64 r.S, .slice ta r.T.length tc, .slice ma r.M.length mc] 24)).heap.size (w.alloc (.cells #[.int .i64 r.E, .int .i64 r.B, .int .i64 r.N, .int .i64 r.S, .slice ta r.T.length tc, .slice ma r.M.length mc] 24)) ((w.alloc (.cells #[.int .i64 r.E, .int .i64 r.B, .int .i64 r.N, .int .i64 r.S, .slice ta r.T.length tc, .slice ma r.M.length mc] 24)).alloc (.cells #[.int .i64 s.E, .int .i64 s.B, .int .i64 s.N, .int .i64 s.S, .slice sa s.T.length sc, .slice na s.M.length nc] 24)) := (Below.refl _ _).alloc (Nat.le_refl _) _
    exact (b1.block _ (by simp)).trans (heap_alloc_last _ _)
  have HXs : Hid (W0.heap[w.heap.size + 1]? = some (.cells #[.int .i64 s.E, .int .i64 s.B, .int .i64 s.N, .int .i64 s.S, .slice sa s.T.length sc, .slice na s.M.length nc] 24 (0, 0))) := by
    have h := heap_alloc_last (w.alloc (.cells #[.int .i64 r.E, .int .i64 r.B, .int .i64 r.N, .int .i64 r.S, .slice ta r.T.length tc, .slice ma r.M.length mc] 24)) (.cells #[.int .i64 s.E, .int .i64 s.B, .int .i64 s.N, .int .i64 s.S, .slice sa s.T.length sc, .slice na s.M.length nc] 24 (0, 0))
    rw [World.size_alloc] at h
    rw [hW0]; exact h
  have HRr : Hid (Rt W0 r ta tc ma mc) := hr.below hB0
  have HRs : Hid (Rt W0 s sa sc na nc) := hs.below hB0
  have HLr : Hid (∀ W, Calls Try.prog 7 #[rootV r ta tc ma mc] W fun e w' => e = .returned (.bool (lightB r)) ∧ Below W.heap.size W w') := fun W => light_any r ta ma tc mc W
  have HLs : Hid (∀ W, Calls Try.prog 7 #[rootV s sa sc na nc] W fun e w' => e = .returned (.bool (lightB s)) ∧ Below W.heap.size W w') := fun W => light_any s sa na sc nc W
  have HA := awake_any
  clear hr hs
  rw [h] at HLr
  rw [h2] at HLs
  unfold rootV at *
  go_enter Try.func3, Try.ntmps3
  go_wp2_with fail
  rw [← hW0]
  clear hW0
  refine (HLr.out _).mono ?_
  rintro e w1 ⟨rfl, hb1⟩
  obtain ⟨x0, x1, x2, x3, x4, x5, _⟩ := RX.of' ((hb1.block _ (Array.getElem?_eq_some_iff.1 HXr.out).1).trans HXr.out)
  obtain ⟨y0, y1, y2, y3, y4, y5, _⟩ := RX.of' ((hb1.block _ (Array.getElem?_eq_some_iff.1 HXs.out).1).trans HXs.out)
  have HB1 : Hid (Below W0.heap.size W0 w1) := hb1
  clear HLr hb1
  go_wp2_with (first
    | (go_at_call 7; refine (HLs.out _).mono ?_; rintro e w3 ⟨rfl, hb3⟩; clear HLs)
    | (go_at_call 8; refine (HA _).mono ?_; rintro e w2 ⟨rfl, hb2⟩; clear HA) | fail)
  go_ret
  have B1 := hB0.trans (HB1.out.mono hB0.size)
  have B3 := B1.trans (hb3.mono B1.size)
  exact ⟨rfl, B3.trans (hb2.mono B3.size)⟩
set_option maxHeartbeats 1600000 in
theorem walk_ok (r : RD) (ta ma : Option Addr) (tc mc : Nat) (s : RD) (sa na : Option Addr) (sc nc : Nat) (w : World) (hr : Rt w r ta tc ma mc) (hs : Rt w s sa sc na nc) (h : lightB r = true) (h2 : lightB s = true) (hok : r.Ok) :
    Calls Try.prog 3 #[rootV r ta tc ma mc, rootV s sa sc na nc] w fun e w' => e = .returned (.bool true) ∧ Below w.heap.size w w' := by
  obtain ⟨W0, hW0⟩ : ∃ W, W = (w.alloc (.cells #[.int .i64 r.E, .int .i64 r.B, .int .i64 r.N, .int .i64 r.S, .slice ta r.T.length tc, .slice ma r.M.length mc] 24)).alloc (.cells #[.int .i64 s.E, .int .i64 s.B, .int .i64 s.N, .int .i64 s.S, .slice sa s.T.length sc, .slice na s.M.length nc] 24) := ⟨_, rfl⟩
  have hB0 : Below w.heap.size w W0 := by rw [hW0]; exact ((Below.refl _ _).alloc (Nat.le_refl _) _).alloc (by simp) _
  have HXr : Hid (W0.heap[w.heap.size]? = some (.cells #[.int .i64 r.E, .int .i64 r.B, .int .i64 r.N, .int .i64 r.S, .slice ta r.T.length tc, .slice ma r.M.length mc] 24 (0, 0))) := by
    rw [hW0]
    have b1 : Below (w.alloc (.cells #[.int .i64 r.E, .int .i64 r.B, .int .i64 r.N, .int .i64 r.S, .slice ta r.T.length tc, .slice ma r.M.length mc] 24)).heap.size (w.alloc (.cells #[.int .i64 r.E, .int .i64 r.B, .int .i64 r.N, .int .i64 r.S, .slice ta r.T.length tc, .slice ma r.M.length mc] 24)) ((w.alloc (.cells #[.int .i64 r.E, .int .i64 r.B, .int .i64 r.N, .int .i64 r.S, .slice ta r.T.length tc, .slice ma r.M.length mc] 24)).alloc (.cells #[.int .i64 s.E, .int .i64 s.B, .int .i64 s.N, .int .i64 s.S, .slice sa s.T.length sc, .slice na s.M.length nc] 24)) := (Below.refl _ _).alloc (Nat.le_refl _) _
    exact (b1.block _ (by simp)).trans (heap_alloc_last _ _)
  have HXs : Hid (W0.heap[w.heap.size + 1]? = some (.cells #[.int .i64 s.E, .int .i64 s.B, .int .i64 s.N, .int .i64 s.S, .slice sa s.T.length sc, .slice na s.M.length nc] 24 (0, 0))) := by
    have h := heap_alloc_last (w.alloc (.cells #[.int .i64 r.E, .int .i64 r.B, .int .i64 r.N, .int .i64 r.S, .slice ta r.T.length tc, .slice ma r.M.length mc] 24)) (.cells #[.int .i64 s.E, .int .i64 s.B, .int .i64 s.N, .int .i64 s.S, .slice sa s.T.length sc, .slice na s.M.length nc] 24 (0, 0))
    rw [World.size_alloc] at h
    rw [hW0]; exact h
  have HRr : Hid (Rt W0 r ta tc ma mc) := hr.below hB0
  have HRs : Hid (Rt W0 s sa sc na nc) := hs.below hB0
  have HLr : Hid (∀ W, Calls Try.prog 7 #[rootV r ta tc ma mc] W fun e w' => e = .returned (.bool (lightB r)) ∧ Below W.heap.size W w') := fun W => light_any r ta ma tc mc W
  have HLs : Hid (∀ W, Calls Try.prog 7 #[rootV s sa sc na nc] W fun e w' => e = .returned (.bool (lightB s)) ∧ Below W.heap.size W w') := fun W => light_any s sa na sc nc W
  have HA := awake_any
  clear hr hs
  rw [h] at HLr
  rw [h2] at HLs
  have HP1 : Hid (∀ W, Below W0.heap.size W0 W → Calls Try.prog 9 #[rootV r ta tc ma mc] W fun e w' => ∃ pa pc, e = .returned (.tuple #[.slice pa 256 pc, .int .i64 0]) ∧ Hid (BV w' pa (putS r) ∧ (pa = none → pc = 0) ∧ Below W.heap.size W w')) := fun W hW => by
    refine (put_ans (HRr.out.below hW) hok).mono ?_
    rintro e w' ⟨pa, pc, rfl, H⟩
    exact ⟨pa, pc, rfl, H.out.1, H.out.2.1, H.out.2.2.2.2⟩
  have HP2 : Hid (∀ W, Below W0.heap.size W0 W → Calls Try.prog 10 #[rootV r ta tc ma mc] W fun e w' => ∃ pa pc, e = .returned (.tuple #[.slice pa 256 pc, .int .i64 0]) ∧ Hid (BV w' pa (putS r) ∧ (pa = none → pc = 0) ∧ Below W.heap.size W w')) := fun W hW => by
    refine (refput_good r ta ma tc mc W (HRr.out.below hW) hok).mono ?_
    rintro e w' ⟨v, rfl, ho, hb⟩
    obtain ⟨pa, pc, rfl, q1, q2, q3, q4⟩ := ho.slice (put_all r)
    rw [put_len hok]
    exact ⟨pa, pc, rfl, q2, q1, hb⟩
  have HLN : Hid ((putS r).length = 256) := put_len hok
  have hce : checkE r = 0 := checkE_ok hok
  have HCK : Hid (∀ W, Below W0.heap.size W0 W → Calls Try.prog 11 #[rootV r ta tc ma mc] W fun e w' => e = .returned (.int .i64 (checkE r)) ∧ Below W.heap.size W w') := fun W hW => check_any r ta ma tc mc W (HRr.out.below hW)
  have HS1 : Hid (∀ W, Below W0.heap.size W0 W → Calls Try.prog 12 #[rootV r ta tc ma mc, rootV s sa sc na nc] W fun e w' => e = .returned (.bool (sameB r s)) ∧ Below W.heap.size W w') := fun W hW => same_any r s ta ma tc mc sa na sc nc W (HRr.out.below hW) (HRs.out.below hW)
  have HS2 : Hid (∀ W, Below W0.heap.size W0 W → Calls Try.prog 13 #[rootV r ta tc ma mc, rootV s sa sc na nc] W fun e w' => e = .returned (.bool (sameB r s)) ∧ Below W.heap.size W w') := fun W hW => rsame_any r s ta ma tc mc sa na sc nc W (HRr.out.below hW) (HRs.out.below hW)
  rw [hce] at HCK
  obtain ⟨zs, hzs⟩ : ∃ zs, zs = putS r := ⟨_, rfl⟩
  rw [← hzs] at HP1 HP2 HLN
  clear hzs hce
  generalize sameB r s = sb at *
  unfold rootV at *
  go_enter Try.func3, Try.ntmps3
  go_wp2_with fail
  rw [← hW0]
  clear hW0
  refine (HLr.out _).mono ?_
  rintro e w1 ⟨rfl, hb1⟩
  obtain ⟨x0, x1, x2, x3, x4, x5, _⟩ := RX.of' ((hb1.block _ (Array.getElem?_eq_some_iff.1 HXr.out).1).trans HXr.out)
  obtain ⟨y0, y1, y2, y3, y4, y5, _⟩ := RX.of' ((hb1.block _ (Array.getElem?_eq_some_iff.1 HXs.out).1).trans HXs.out)
  have HB1 : Hid (Below W0.heap.size W0 w1) := hb1
  clear HLr hb1
  go_wp2_with (first
    | (go_at_call 7; refine (HLs.out _).mono ?_; rintro e w3 ⟨rfl, hb3⟩; have HB3 : Hid (Below W0.heap.size W0 w3) := HB1.out.trans (hb3.mono HB1.out.size); clear HLs hb3 x0 x1 x2 x3 x4 x5 y0 y1 y2 y3 y4 y5; obtain ⟨x0, x1, x2, x3, x4, x5, _⟩ := RX.of' ((HB3.out.block _ (Array.getElem?_eq_some_iff.1 HXr.out).1).trans HXr.out))
    | (go_at_call 9; refine (HP1.out _ HB3.out).mono ?_; rintro e w4 ⟨pa, pc, rfl, H4⟩; have HB4 : Hid (Below W0.heap.size W0 w4) := HB3.out.trans (H4.out.2.2.mono HB3.out.size); clear HP1 x0 x1 x2 x3 x4 x5; obtain ⟨x0, x1, x2, x3, x4, x5, _⟩ := RX.of' ((HB4.out.block _ (Array.getElem?_eq_some_iff.1 HXr.out).1).trans HXr.out))
    | (go_at_call 10; refine (HP2.out _ HB4.out).mono ?_; rintro e w5 ⟨qa, qc, rfl, H5⟩; have HB5 : Hid (Below W0.heap.size W0 w5) := HB4.out.trans (H5.out.2.2.mono HB4.out.size); clear HP2 x0 x1 x2 x3 x4 x5)
    | fail)
  have X5 : Hid (w5.heap[w.heap.size]? = _) := (HB5.out.block _ (Array.getElem?_eq_some_iff.1 HXr.out).1).trans HXr.out
  have Y5 : Hid (w5.heap[w.heap.size + 1]? = _) := (HB5.out.block _ (Array.getElem?_eq_some_iff.1 HXs.out).1).trans HXs.out
  obtain ⟨sx, hsx⟩ : ∃ sx, sx = strOfNums zs := ⟨_, rfl⟩
  have SL : Hid (∀ W', Below w5.heap.size w5 W' → (convert 27 9 (.slice pa 256 pc)).run Try.prog W' = .ok (.string sx) W' ∧ (convert 27 9 (.slice qa 256 qc)).run Try.prog W' = .ok (.string sx) W') := fun W' hW => by
    have h1 := conv_bv (cap := pc) ((H4.out.1.below H5.out.2.2).below hW) H4.out.2.1
    have h2 := conv_bv (cap := qc) (H5.out.1.below hW) H5.out.2.1
    rw [HLN.out] at h1 h2
    rw [hsx]
    exact ⟨h1, h2⟩
  clear hsx
  refine wp_region_noPanic ?_
  refine name_ops ?_
  intro O QQ HO HQ
  refine wp_region_held_drew (S := fun W' => Below w5.heap.size w5 W') (by kernel_rfl) (Below.refl _ _).drew (fun hS => ?_)
  rw [show O.size = 29 by rw [HO.out]; rfl]
  refine wpAnyH_take (i := 0) (v := .slice pa 256 pc) (by rw [HO.out]; simp only [List.getElem?_toArray, List.getElem?_cons_succ, List.getElem?_cons_zero]; rfl) (by rw [HO.out]; kernel_rfl) (by rw [HO.out]; kernel_rfl) (by rw [HO.out]; kernel_rfl) (by rw [HQ.out]; exact fun _ _ _ h => h) (Or.inl ⟨by rw [HO.out]; kernel_rfl, ?_⟩) hS ?_
  · intro w' hSw
    go_simp
  try simp only [Act.put, List.setIfInBounds_toArray, List.set_cons_zero, List.set_cons_succ]
  refine wpAnyH_take (i := 1) (v := .string sx) (by rw [HO.out]; simp only [List.getElem?_toArray, List.getElem?_cons_succ, List.getElem?_cons_zero]; rfl) (by rw [HO.out]; kernel_rfl) (by rw [HO.out]; kernel_rfl) (by rw [HO.out]; kernel_rfl) (by rw [HQ.out]; exact fun _ _ _ h => h) (Or.inl ⟨by rw [HO.out]; kernel_rfl, ?_⟩) hS ?_
  · intro w' hSw
    have hca := (SL.out w' hSw).1
    go_simp
  try simp only [Act.put, List.setIfInBounds_toArray, List.set_cons_zero, List.set_cons_succ]
  refine wpAnyH_take (i := 2) (v := .slice qa 256 qc) (by rw [HO.out]; simp only [List.getElem?_toArray, List.getElem?_cons_succ, List.getElem?_cons_zero]; rfl) (by rw [HO.out]; kernel_rfl) (by rw [HO.out]; kernel_rfl) (by rw [HO.out]; kernel_rfl) (by rw [HQ.out]; exact fun _ _ _ h => h) (Or.inl ⟨by rw [HO.out]; kernel_rfl, ?_⟩) hS ?_
  · intro w' hSw
    go_simp
  try simp only [Act.put, List.setIfInBounds_toArray, List.set_cons_zero, List.set_cons_succ]
  refine wpAnyH_take (i := 3) (v := .string sx) (by rw [HO.out]; simp only [List.getElem?_toArray, List.getElem?_cons_succ, List.getElem?_cons_zero]; rfl) (by rw [HO.out]; kernel_rfl) (by rw [HO.out]; kernel_rfl) (by rw [HO.out]; kernel_rfl) (by rw [HQ.out]; exact fun _ _ _ h => h) (Or.inl ⟨by rw [HO.out]; kernel_rfl, ?_⟩) hS ?_
  · intro w' hSw
    have hcb := (SL.out w' hSw).2
    go_simp
  try simp only [Act.put, List.setIfInBounds_toArray, List.set_cons_zero, List.set_cons_succ]
  refine wpAnyH_take (i := 4) (v := .bool true) (by rw [HO.out]; simp only [List.getElem?_toArray, List.getElem?_cons_succ, List.getElem?_cons_zero]; rfl) (by rw [HO.out]; kernel_rfl) (by rw [HO.out]; kernel_rfl) (by rw [HO.out]; kernel_rfl) (by rw [HQ.out]; exact fun _ _ _ h => h) (Or.inl ⟨by rw [HO.out]; kernel_rfl, ?_⟩) hS ?_
  · intro w' hSw
    go_simp
  try simp only [Act.put, List.setIfInBounds_toArray, List.set_cons_zero, List.set_cons_succ]
  refine wpAnyH_take (i := 5) (v := .bool true) (by rw [HO.out]; simp only [List.getElem?_toArray, List.getElem?_cons_succ, List.getElem?_cons_zero]; rfl) (by rw [HO.out]; kernel_rfl) (by rw [HO.out]; kernel_rfl) (by rw [HO.out]; kernel_rfl) (by rw [HQ.out]; exact fun _ _ _ h => h) (Or.inl ⟨by rw [HO.out]; kernel_rfl, ?_⟩) hS ?_
  · intro w' hSw
    go_simp
  try simp only [Act.put, List.setIfInBounds_toArray, List.set_cons_zero, List.set_cons_succ]
  refine wpAnyH_take (i := 6) (v := .int .i64 0) (by rw [HO.out]; simp only [List.getElem?_toArray, List.getElem?_cons_succ, List.getElem?_cons_zero]; rfl) (by rw [HO.out]; kernel_rfl) (by rw [HO.out]; kernel_rfl) (by rw [HO.out]; kernel_rfl) (by rw [HQ.out]; exact fun _ _ _ h => h) (Or.inl ⟨by rw [HO.out]; kernel_rfl, ?_⟩) hS ?_
  · intro w' hSw
    go_simp
  try simp only [Act.put, List.setIfInBounds_toArray, List.set_cons_zero, List.set_cons_succ]
  refine wpAnyH_take (i := 7) (v := .int .i64 0) (by rw [HO.out]; simp only [List.getElem?_toArray, List.getElem?_cons_succ, List.getElem?_cons_zero]; rfl) (by rw [HO.out]; kernel_rfl) (by rw [HO.out]; kernel_rfl) (by rw [HO.out]; kernel_rfl) (by rw [HQ.out]; exact fun _ _ _ h => h) (Or.inl ⟨by rw [HO.out]; kernel_rfl, ?_⟩) hS ?_
  · intro w' hSw
    go_simp
  try simp only [Act.put, List.setIfInBounds_toArray, List.set_cons_zero, List.set_cons_succ]
  refine wpAnyH_take (i := 8) (v := .bool true) (by rw [HO.out]; simp only [List.getElem?_toArray, List.getElem?_cons_succ, List.getElem?_cons_zero]; rfl) (by rw [HO.out]; kernel_rfl) (by rw [HO.out]; kernel_rfl) (by rw [HO.out]; kernel_rfl) (by rw [HQ.out]; exact fun _ _ _ h => h) (Or.inl ⟨by rw [HO.out]; kernel_rfl, ?_⟩) hS ?_
  · intro w' hSw
    go_simp
  try simp only [Act.put, List.setIfInBounds_toArray, List.set_cons_zero, List.set_cons_succ]
  refine wpAnyH_take (i := 9) (v := .bool true) (by rw [HO.out]; simp only [List.getElem?_toArray, List.getElem?_cons_succ, List.getElem?_cons_zero]; rfl) (by rw [HO.out]; kernel_rfl) (by rw [HO.out]; kernel_rfl) (by rw [HO.out]; kernel_rfl) (by rw [HQ.out]; exact fun _ _ _ h => h) (Or.inl ⟨by rw [HO.out]; kernel_rfl, ?_⟩) hS ?_
  · intro w' hSw
    go_simp
  try simp only [Act.put, List.setIfInBounds_toArray, List.set_cons_zero, List.set_cons_succ]
  refine wpAnyH_take (i := 10) (v := .bool true) (by rw [HO.out]; simp only [List.getElem?_toArray, List.getElem?_cons_succ, List.getElem?_cons_zero]; rfl) (by rw [HO.out]; kernel_rfl) (by rw [HO.out]; kernel_rfl) (by rw [HO.out]; kernel_rfl) (by rw [HQ.out]; exact fun _ _ _ h => h) (Or.inl ⟨by rw [HO.out]; kernel_rfl, ?_⟩) hS ?_
  · intro w' hSw
    go_simp
  try simp only [Act.put, List.setIfInBounds_toArray, List.set_cons_zero, List.set_cons_succ]
  refine wpAnyH_take (i := 11) (v := .agg #[.int .i64 r.E, .int .i64 r.B, .int .i64 r.N, .int .i64 r.S, .slice ta r.T.length tc, .slice ma r.M.length mc]) (by rw [HO.out]; simp only [List.getElem?_toArray, List.getElem?_cons_succ, List.getElem?_cons_zero]; rfl) (by rw [HO.out]; kernel_rfl) (by rw [HO.out]; kernel_rfl) (by rw [HO.out]; kernel_rfl) (by rw [HQ.out]; exact fun _ _ _ h => h) (Or.inl ⟨by rw [HO.out]; kernel_rfl, ?_⟩) hS ?_
  · intro w' hSw
    obtain ⟨j0, j1, j2, j3, j4, j5, _⟩ := RX.of' ((hSw.block _ (Array.getElem?_eq_some_iff.1 X5.out).1).trans X5.out)
    go_simp
  try simp only [Act.put, List.setIfInBounds_toArray, List.set_cons_zero, List.set_cons_succ]
  refine wpAnyH_take (i := 13) (v := .int .i64 0) (by rw [HO.out]; simp only [List.getElem?_toArray, List.getElem?_cons_succ, List.getElem?_cons_zero]; rfl) (by rw [HO.out]; kernel_rfl) (by rw [HO.out]; kernel_rfl) (by rw [HO.out]; kernel_rfl) (by rw [HQ.out]; exact fun _ _ _ h => h) (Or.inl ⟨by rw [HO.out]; kernel_rfl, ?_⟩) hS ?_
  · intro w' hSw
    go_simp
  try simp only [Act.put, List.setIfInBounds_toArray, List.set_cons_zero, List.set_cons_succ]
  refine wpAnyH_ready (rs := [12]) (by rw [HO.out]; kernel_rfl) (by simp) ?_
  refine AllReadyH.cons (o := _) (by rw [HO.out]; simp only [List.getElem?_toArray, List.getElem?_cons_succ, List.getElem?_cons_zero]; rfl) (fun K12 hK12 => ?_) AllReadyH.nil
  rw [HO.out]
  go_simp
  refine (HCK.out _ (HB5.out.trans (hS.mono HB5.out.size))).mono ?_
  rintro e w6 ⟨rfl, hbw6⟩
  have Sw6 : Hid (Below w5.heap.size w5 w6) := hS.trans (hbw6.mono hS.size)
  refine hK12.out _ _ Sw6.out (fun _ => ?_)
  try simp only [Act.put, List.setIfInBounds_toArray, List.set_cons_zero, List.set_cons_succ]
  refine wpAnyH_take (i := 14) (v := .bool true) (by rw [HO.out]; simp only [List.getElem?_toArray, List.getElem?_cons_succ, List.getElem?_cons_zero]; rfl) (by rw [HO.out]; kernel_rfl) (by rw [HO.out]; kernel_rfl) (by rw [HO.out]; kernel_rfl) (by rw [HQ.out]; exact fun _ _ _ h => h) (Or.inl ⟨by rw [HO.out]; kernel_rfl, ?_⟩) Sw6.out ?_
  · intro w' hSw
    go_simp
  try simp only [Act.put, List.setIfInBounds_toArray, List.set_cons_zero, List.set_cons_succ]
  refine wpAnyH_take (i := 15) (v := .bool true) (by rw [HO.out]; simp only [List.getElem?_toArray, List.getElem?_cons_succ, List.getElem?_cons_zero]; rfl) (by rw [HO.out]; kernel_rfl) (by rw [HO.out]; kernel_rfl) (by rw [HO.out]; kernel_rfl) (by rw [HQ.out]; exact fun _ _ _ h => h) (Or.inl ⟨by rw [HO.out]; kernel_rfl, ?_⟩) Sw6.out ?_
  · intro w' hSw
    go_simp
  try simp only [Act.put, List.setIfInBounds_toArray, List.set_cons_zero, List.set_cons_succ]
  refine wpAnyH_take (i := 16) (v := .bool true) (by rw [HO.out]; simp only [List.getElem?_toArray, List.getElem?_cons_succ, List.getElem?_cons_zero]; rfl) (by rw [HO.out]; kernel_rfl) (by rw [HO.out]; kernel_rfl) (by rw [HO.out]; kernel_rfl) (by rw [HQ.out]; exact fun _ _ _ h => h) (Or.inl ⟨by rw [HO.out]; kernel_rfl, ?_⟩) Sw6.out ?_
  · intro w' hSw
    go_simp
  try simp only [Act.put, List.setIfInBounds_toArray, List.set_cons_zero, List.set_cons_succ]
  refine wpAnyH_take (i := 17) (v := .agg #[.int .i64 r.E, .int .i64 r.B, .int .i64 r.N, .int .i64 r.S, .slice ta r.T.length tc, .slice ma r.M.length mc]) (by rw [HO.out]; simp only [List.getElem?_toArray, List.getElem?_cons_succ, List.getElem?_cons_zero]; rfl) (by rw [HO.out]; kernel_rfl) (by rw [HO.out]; kernel_rfl) (by rw [HO.out]; kernel_rfl) (by rw [HQ.out]; exact fun _ _ _ h => h) (Or.inl ⟨by rw [HO.out]; kernel_rfl, ?_⟩) Sw6.out ?_
  · intro w' hSw
    obtain ⟨j0, j1, j2, j3, j4, j5, _⟩ := RX.of' ((hSw.block _ (Array.getElem?_eq_some_iff.1 X5.out).1).trans X5.out)
    go_simp
  try simp only [Act.put, List.setIfInBounds_toArray, List.set_cons_zero, List.set_cons_succ]
  refine wpAnyH_take (i := 18) (v := .agg #[.int .i64 s.E, .int .i64 s.B, .int .i64 s.N, .int .i64 s.S, .slice sa s.T.length sc, .slice na s.M.length nc]) (by rw [HO.out]; simp only [List.getElem?_toArray, List.getElem?_cons_succ, List.getElem?_cons_zero]; rfl) (by rw [HO.out]; kernel_rfl) (by rw [HO.out]; kernel_rfl) (by rw [HO.out]; kernel_rfl) (by rw [HQ.out]; exact fun _ _ _ h => h) (Or.inl ⟨by rw [HO.out]; kernel_rfl, ?_⟩) Sw6.out ?_
  · intro w' hSw
    obtain ⟨j0, j1, j2, j3, j4, j5, _⟩ := RX.of' ((hSw.block _ (Array.getElem?_eq_some_iff.1 Y5.out).1).trans Y5.out)
    go_simp
  try simp only [Act.put, List.setIfInBounds_toArray, List.set_cons_zero, List.set_cons_succ]
  refine wpAnyH_take (i := 20) (v := .agg #[.int .i64 r.E, .int .i64 r.B, .int .i64 r.N, .int .i64 r.S, .slice ta r.T.length tc, .slice ma r.M.length mc]) (by rw [HO.out]; simp only [List.getElem?_toArray, List.getElem?_cons_succ, List.getElem?_cons_zero]; rfl) (by rw [HO.out]; kernel_rfl) (by rw [HO.out]; kernel_rfl) (by rw [HO.out]; kernel_rfl) (by rw [HQ.out]; exact fun _ _ _ h => h) (Or.inl ⟨by rw [HO.out]; kernel_rfl, ?_⟩) Sw6.out ?_
  · intro w' hSw
    obtain ⟨j0, j1, j2, j3, j4, j5, _⟩ := RX.of' ((hSw.block _ (Array.getElem?_eq_some_iff.1 X5.out).1).trans X5.out)
    go_simp
  try simp only [Act.put, List.setIfInBounds_toArray, List.set_cons_zero, List.set_cons_succ]
  refine wpAnyH_take (i := 21) (v := .agg #[.int .i64 s.E, .int .i64 s.B, .int .i64 s.N, .int .i64 s.S, .slice sa s.T.length sc, .slice na s.M.length nc]) (by rw [HO.out]; simp only [List.getElem?_toArray, List.getElem?_cons_succ, List.getElem?_cons_zero]; rfl) (by rw [HO.out]; kernel_rfl) (by rw [HO.out]; kernel_rfl) (by rw [HO.out]; kernel_rfl) (by rw [HQ.out]; exact fun _ _ _ h => h) (Or.inl ⟨by rw [HO.out]; kernel_rfl, ?_⟩) Sw6.out ?_
  · intro w' hSw
    obtain ⟨j0, j1, j2, j3, j4, j5, _⟩ := RX.of' ((hSw.block _ (Array.getElem?_eq_some_iff.1 Y5.out).1).trans Y5.out)
    go_simp
  try simp only [Act.put, List.setIfInBounds_toArray, List.set_cons_zero, List.set_cons_succ]
  refine wpAnyH_ready (rs := [19]) (by rw [HO.out]; kernel_rfl) (by simp) ?_
  refine AllReadyH.cons (o := _) (by rw [HO.out]; simp only [List.getElem?_toArray, List.getElem?_cons_succ, List.getElem?_cons_zero]; rfl) (fun K19 hK19 => ?_) AllReadyH.nil
  rw [HO.out]
  go_simp
  refine (HS1.out _ (HB5.out.trans (Sw6.out.mono HB5.out.size))).mono ?_
  rintro e w7 ⟨rfl, hbw7⟩
  have Sw7 : Hid (Below w5.heap.size w5 w7) := Sw6.out.trans (hbw7.mono Sw6.out.size)
  refine hK19.out _ _ Sw7.out (fun _ => ?_)
  try simp only [Act.put, List.setIfInBounds_toArray, List.set_cons_zero, List.set_cons_succ]
  refine wpAnyH_ready (rs := [22]) (by rw [HO.out]; kernel_rfl) (by simp) ?_
  refine AllReadyH.cons (o := _) (by rw [HO.out]; simp only [List.getElem?_toArray, List.getElem?_cons_succ, List.getElem?_cons_zero]; rfl) (fun K22 hK22 => ?_) AllReadyH.nil
  rw [HO.out]
  go_simp
  refine (HS2.out _ (HB5.out.trans (Sw7.out.mono HB5.out.size))).mono ?_
  rintro e w8 ⟨rfl, hbw8⟩
  have Sw8 : Hid (Below w5.heap.size w5 w8) := Sw7.out.trans (hbw8.mono Sw7.out.size)
  refine hK22.out _ _ Sw8.out (fun _ => ?_)
  try simp only [Act.put, List.setIfInBounds_toArray, List.set_cons_zero, List.set_cons_succ]
  refine wpAnyH_take (i := 23) (v := .bool true) (by rw [HO.out]; simp only [List.getElem?_toArray, List.getElem?_cons_succ, List.getElem?_cons_zero]; rfl) (by rw [HO.out]; kernel_rfl) (by rw [HO.out]; kernel_rfl) (by rw [HO.out]; kernel_rfl) (by rw [HQ.out]; exact fun _ _ _ h => h) (Or.inl ⟨by rw [HO.out]; kernel_rfl, ?_⟩) Sw8.out ?_
  · intro w' hSw
    go_simp
  try simp only [Act.put, List.setIfInBounds_toArray, List.set_cons_zero, List.set_cons_succ]
  refine wpAnyH_take (i := 24) (v := .bool true) (by rw [HO.out]; simp only [List.getElem?_toArray, List.getElem?_cons_succ, List.getElem?_cons_zero]; rfl) (by rw [HO.out]; kernel_rfl) (by rw [HO.out]; kernel_rfl) (by rw [HO.out]; kernel_rfl) (by rw [HQ.out]; exact fun _ _ _ h => h) (Or.inl ⟨by rw [HO.out]; kernel_rfl, ?_⟩) Sw8.out ?_
  · intro w' hSw
    go_simp
  try simp only [Act.put, List.setIfInBounds_toArray, List.set_cons_zero, List.set_cons_succ]
  refine wpAnyH_take (i := 25) (v := .bool true) (by rw [HO.out]; simp only [List.getElem?_toArray, List.getElem?_cons_succ, List.getElem?_cons_zero]; rfl) (by rw [HO.out]; kernel_rfl) (by rw [HO.out]; kernel_rfl) (by rw [HO.out]; kernel_rfl) (by rw [HQ.out]; exact fun _ _ _ h => h) (Or.inl ⟨by rw [HO.out]; kernel_rfl, ?_⟩) Sw8.out ?_
  · intro w' hSw
    go_simp
  try simp only [Act.put, List.setIfInBounds_toArray, List.set_cons_zero, List.set_cons_succ]
  refine wpAnyH_ready (rs := [26]) (by rw [HO.out]; kernel_rfl) (by simp) ?_
  refine AllReadyH.cons (o := _) (by rw [HO.out]; simp only [List.getElem?_toArray, List.getElem?_cons_succ, List.getElem?_cons_zero]; rfl) (fun K26 hK26 => ?_) AllReadyH.nil
  rw [HO.out]
  go_simp
  refine (HA _).mono ?_
  rintro e w9 ⟨rfl, hb9⟩
  have Sw9 : Hid (Below w5.heap.size w5 w9) := Sw8.out.trans (hb9.mono Sw8.out.size)
  refine hK26.out _ _ Sw9.out (fun _ => ?_)
  try simp only [Act.put, List.setIfInBounds_toArray, List.set_cons_zero, List.set_cons_succ]
  refine wpAnyH_take (i := 27) (v := .bool true) (by rw [HO.out]; simp only [List.getElem?_toArray, List.getElem?_cons_succ, List.getElem?_cons_zero]; rfl) (by rw [HO.out]; kernel_rfl) (by rw [HO.out]; kernel_rfl) (by rw [HO.out]; kernel_rfl) (by rw [HQ.out]; exact fun _ _ _ h => h) (Or.inl ⟨by rw [HO.out]; kernel_rfl, ?_⟩) Sw9.out ?_
  · intro w' hSw
    go_simp
  try simp only [Act.put, List.setIfInBounds_toArray, List.set_cons_zero, List.set_cons_succ]
  refine wpAnyH_ready (rs := [28]) (by rw [HO.out]; kernel_rfl) (by simp) ?_
  refine AllReadyH.cons (o := _) (by rw [HO.out]; simp only [List.getElem?_toArray, List.getElem?_cons_succ, List.getElem?_cons_zero]; rfl) (fun K28 hK28 => ?_) AllReadyH.nil
  rw [HO.out]
  go_simp
  refine hK28.out _ _ Sw9.out (fun _ => ?_)
  try simp only [Act.put, List.setIfInBounds_toArray, List.set_cons_zero, List.set_cons_succ]
  refine wpAnyH_done (by rw [HO.out]; kernel_rfl) ?_ _
  rw [HQ.out]
  refine NoPanic.normal ?_
  go_wp2_with fail
  go_ret
  exact ⟨rfl, (hB0.trans (HB5.out.mono hB0.size)).trans (Sw9.out.mono (Nat.le_trans hB0.size HB5.out.size))⟩
set_option maxHeartbeats 1600000 in
theorem walk_bad (r : RD) (ta ma : Option Addr) (tc mc : Nat) (s : RD) (sa na : Option Addr) (sc nc : Nat) (w : World) (hr : Rt w r ta tc ma mc) (hs : Rt w s sa sc na nc) (h : lightB r = true) (h2 : lightB s = true) (hc : checkE r ≠ 0) :
    Calls Try.prog 3 #[rootV r ta tc ma mc, rootV s sa sc na nc] w fun e w' => e = .returned (.bool true) ∧ Below w.heap.size w w' := by
  obtain ⟨W0, hW0⟩ : ∃ W, W = (w.alloc (.cells #[.int .i64 r.E, .int .i64 r.B, .int .i64 r.N, .int .i64 r.S, .slice ta r.T.length tc, .slice ma r.M.length mc] 24)).alloc (.cells #[.int .i64 s.E, .int .i64 s.B, .int .i64 s.N, .int .i64 s.S, .slice sa s.T.length sc, .slice na s.M.length nc] 24) := ⟨_, rfl⟩
  have hB0 : Below w.heap.size w W0 := by rw [hW0]; exact ((Below.refl _ _).alloc (Nat.le_refl _) _).alloc (by simp) _
  have HXr : Hid (W0.heap[w.heap.size]? = some (.cells #[.int .i64 r.E, .int .i64 r.B, .int .i64 r.N, .int .i64 r.S, .slice ta r.T.length tc, .slice ma r.M.length mc] 24 (0, 0))) := by
    rw [hW0]
    have b1 : Below (w.alloc (.cells #[.int .i64 r.E, .int .i64 r.B, .int .i64 r.N, .int .i64 r.S, .slice ta r.T.length tc, .slice ma r.M.length mc] 24)).heap.size (w.alloc (.cells #[.int .i64 r.E, .int .i64 r.B, .int .i64 r.N, .int .i64 r.S, .slice ta r.T.length tc, .slice ma r.M.length mc] 24)) ((w.alloc (.cells #[.int .i64 r.E, .int .i64 r.B, .int .i64 r.N, .int .i64 r.S, .slice ta r.T.length tc, .slice ma r.M.length mc] 24)).alloc (.cells #[.int .i64 s.E, .int .i64 s.B, .int .i64 s.N, .int .i64 s.S, .slice sa s.T.length sc, .slice na s.M.length nc] 24)) := (Below.refl _ _).alloc (Nat.le_refl _) _
    exact (b1.block _ (by simp)).trans (heap_alloc_last _ _)
  have HXs : Hid (W0.heap[w.heap.size + 1]? = some (.cells #[.int .i64 s.E, .int .i64 s.B, .int .i64 s.N, .int .i64 s.S, .slice sa s.T.length sc, .slice na s.M.length nc] 24 (0, 0))) := by
    have h := heap_alloc_last (w.alloc (.cells #[.int .i64 r.E, .int .i64 r.B, .int .i64 r.N, .int .i64 r.S, .slice ta r.T.length tc, .slice ma r.M.length mc] 24)) (.cells #[.int .i64 s.E, .int .i64 s.B, .int .i64 s.N, .int .i64 s.S, .slice sa s.T.length sc, .slice na s.M.length nc] 24 (0, 0))
    rw [World.size_alloc] at h
    rw [hW0]; exact h
  have HRr : Hid (Rt W0 r ta tc ma mc) := hr.below hB0
  have HRs : Hid (Rt W0 s sa sc na nc) := hs.below hB0
  have HLr : Hid (∀ W, Calls Try.prog 7 #[rootV r ta tc ma mc] W fun e w' => e = .returned (.bool (lightB r)) ∧ Below W.heap.size W w') := fun W => light_any r ta ma tc mc W
  have HLs : Hid (∀ W, Calls Try.prog 7 #[rootV s sa sc na nc] W fun e w' => e = .returned (.bool (lightB s)) ∧ Below W.heap.size W w') := fun W => light_any s sa na sc nc W
  have HA := awake_any
  clear hr hs
  rw [h] at HLr
  rw [h2] at HLs
  have HP1 : Hid (∀ W, Below W0.heap.size W0 W → Calls Try.prog 9 #[rootV r ta tc ma mc] W fun e w' => e = .returned (.tuple #[.slice none 0 0, .int .i64 (checkE r)]) ∧ Below W.heap.size W w') := fun W hW => put_bad r ta ma tc mc W (HRr.out.below hW) hc
  have HP2 : Hid (∀ W, Below W0.heap.size W0 W → Calls Try.prog 10 #[rootV r ta tc ma mc] W fun e w' => e = .returned (.tuple #[.slice none 0 0, .int .i64 (checkE r)]) ∧ Below W.heap.size W w') := fun W hW => refput_bad r ta ma tc mc W (HRr.out.below hW) hc
  have HCK : Hid (∀ W, Below W0.heap.size W0 W → Calls Try.prog 11 #[rootV r ta tc ma mc] W fun e w' => e = .returned (.int .i64 (checkE r)) ∧ Below W.heap.size W w') := fun W hW => check_any r ta ma tc mc W (HRr.out.below hW)
  have HS1 : Hid (∀ W, Below W0.heap.size W0 W → Calls Try.prog 12 #[rootV r ta tc ma mc, rootV s sa sc na nc] W fun e w' => e = .returned (.bool (sameB r s)) ∧ Below W.heap.size W w') := fun W hW => same_any r s ta ma tc mc sa na sc nc W (HRr.out.below hW) (HRs.out.below hW)
  have HS2 : Hid (∀ W, Below W0.heap.size W0 W → Calls Try.prog 13 #[rootV r ta tc ma mc, rootV s sa sc na nc] W fun e w' => e = .returned (.bool (sameB r s)) ∧ Below W.heap.size W w') := fun W hW => rsame_any r s ta ma tc mc sa na sc nc W (HRr.out.below hW) (HRs.out.below hW)
  generalize checkE r = ce at *
  generalize sameB r s = sb at *
  unfold rootV at *
  go_enter Try.func3, Try.ntmps3
  go_wp2_with fail
  rw [← hW0]
  clear hW0
  refine (HLr.out _).mono ?_
  rintro e w1 ⟨rfl, hb1⟩
  obtain ⟨x0, x1, x2, x3, x4, x5, _⟩ := RX.of' ((hb1.block _ (Array.getElem?_eq_some_iff.1 HXr.out).1).trans HXr.out)
  obtain ⟨y0, y1, y2, y3, y4, y5, _⟩ := RX.of' ((hb1.block _ (Array.getElem?_eq_some_iff.1 HXs.out).1).trans HXs.out)
  have HB1 : Hid (Below W0.heap.size W0 w1) := hb1
  clear HLr hb1
  go_wp2_with (first
    | (go_at_call 7; refine (HLs.out _).mono ?_; rintro e w3 ⟨rfl, hb3⟩; have HB3 : Hid (Below W0.heap.size W0 w3) := HB1.out.trans (hb3.mono HB1.out.size); clear HLs hb3 x0 x1 x2 x3 x4 x5 y0 y1 y2 y3 y4 y5; obtain ⟨x0, x1, x2, x3, x4, x5, _⟩ := RX.of' ((HB3.out.block _ (Array.getElem?_eq_some_iff.1 HXr.out).1).trans HXr.out))
    | (go_at_call 9; refine (HP1.out _ HB3.out).mono ?_; rintro e w4 ⟨rfl, hb4⟩; have HB4 : Hid (Below W0.heap.size W0 w4) := HB3.out.trans (hb4.mono HB3.out.size); clear HP1 x0 x1 x2 x3 x4 x5; obtain ⟨x0, x1, x2, x3, x4, x5, _⟩ := RX.of' ((HB4.out.block _ (Array.getElem?_eq_some_iff.1 HXr.out).1).trans HXr.out))
    | (go_at_call 10; refine (HP2.out _ HB4.out).mono ?_; rintro e w5 ⟨rfl, hb5⟩; have HB5 : Hid (Below W0.heap.size W0 w5) := HB4.out.trans (hb5.mono HB4.out.size); clear HP2 x0 x1 x2 x3 x4 x5)
    | fail)
  have X5 : Hid (w5.heap[w.heap.size]? = _) := (HB5.out.block _ (Array.getElem?_eq_some_iff.1 HXr.out).1).trans HXr.out
  have Y5 : Hid (w5.heap[w.heap.size + 1]? = _) := (HB5.out.block _ (Array.getElem?_eq_some_iff.1 HXs.out).1).trans HXs.out
  obtain ⟨sx, hsx⟩ : ∃ sx, sx = strOfNums [] := ⟨_, rfl⟩
  have SL : Hid (∀ W', Below w5.heap.size w5 W' → (convert 27 9 (.slice none 0 0)).run Try.prog W' = .ok (.string sx) W' ∧ (convert 27 9 (.slice none 0 0)).run Try.prog W' = .ok (.string sx) W') := fun W' hW => by
    have h1 := conv_bv (w := W') (a := none) (cap := 0) (zs := []) ⟨AllB.nil, .inl rfl⟩ (fun _ => rfl)
    rw [hsx]
    exact ⟨h1, h1⟩
  clear hsx
  refine wp_region_noPanic ?_
  refine name_ops ?_
  intro O QQ HO HQ
  refine wp_region_held_drew (S := fun W' => Below w5.heap.size w5 W') (by kernel_rfl) (Below.refl _ _).drew (fun hS => ?_)
  rw [show O.size = 29 by rw [HO.out]; rfl]
  refine wpAnyH_take (i := 0) (v := .slice none 0 0) (by rw [HO.out]; simp only [List.getElem?_toArray, List.getElem?_cons_succ, List.getElem?_cons_zero]; rfl) (by rw [HO.out]; kernel_rfl) (by rw [HO.out]; kernel_rfl) (by rw [HO.out]; kernel_rfl) (by rw [HQ.out]; exact fun _ _ _ h => h) (Or.inl ⟨by rw [HO.out]; kernel_rfl, ?_⟩) hS ?_
  · intro w' hSw
    go_simp
  try simp only [Act.put, List.setIfInBounds_toArray, List.set_cons_zero, List.set_cons_succ]
  refine wpAnyH_take (i := 1) (v := .string sx) (by rw [HO.out]; simp only [List.getElem?_toArray, List.getElem?_cons_succ, List.getElem?_cons_zero]; rfl) (by rw [HO.out]; kernel_rfl) (by rw [HO.out]; kernel_rfl) (by rw [HO.out]; kernel_rfl) (by rw [HQ.out]; exact fun _ _ _ h => h) (Or.inl ⟨by rw [HO.out]; kernel_rfl, ?_⟩) hS ?_
  · intro w' hSw
    have hca := (SL.out w' hSw).1
    go_simp
  try simp only [Act.put, List.setIfInBounds_toArray, List.set_cons_zero, List.set_cons_succ]
  refine wpAnyH_take (i := 2) (v := .slice none 0 0) (by rw [HO.out]; simp only [List.getElem?_toArray, List.getElem?_cons_succ, List.getElem?_cons_zero]; rfl) (by rw [HO.out]; kernel_rfl) (by rw [HO.out]; kernel_rfl) (by rw [HO.out]; kernel_rfl) (by rw [HQ.out]; exact fun _ _ _ h => h) (Or.inl ⟨by rw [HO.out]; kernel_rfl, ?_⟩) hS ?_
  · intro w' hSw
    go_simp
  try simp only [Act.put, List.setIfInBounds_toArray, List.set_cons_zero, List.set_cons_succ]
  refine wpAnyH_take (i := 3) (v := .string sx) (by rw [HO.out]; simp only [List.getElem?_toArray, List.getElem?_cons_succ, List.getElem?_cons_zero]; rfl) (by rw [HO.out]; kernel_rfl) (by rw [HO.out]; kernel_rfl) (by rw [HO.out]; kernel_rfl) (by rw [HQ.out]; exact fun _ _ _ h => h) (Or.inl ⟨by rw [HO.out]; kernel_rfl, ?_⟩) hS ?_
  · intro w' hSw
    have hcb := (SL.out w' hSw).2
    go_simp
  try simp only [Act.put, List.setIfInBounds_toArray, List.set_cons_zero, List.set_cons_succ]
  refine wpAnyH_take (i := 4) (v := .bool true) (by rw [HO.out]; simp only [List.getElem?_toArray, List.getElem?_cons_succ, List.getElem?_cons_zero]; rfl) (by rw [HO.out]; kernel_rfl) (by rw [HO.out]; kernel_rfl) (by rw [HO.out]; kernel_rfl) (by rw [HQ.out]; exact fun _ _ _ h => h) (Or.inl ⟨by rw [HO.out]; kernel_rfl, ?_⟩) hS ?_
  · intro w' hSw
    go_simp
  try simp only [Act.put, List.setIfInBounds_toArray, List.set_cons_zero, List.set_cons_succ]
  refine wpAnyH_take (i := 5) (v := .bool true) (by rw [HO.out]; simp only [List.getElem?_toArray, List.getElem?_cons_succ, List.getElem?_cons_zero]; rfl) (by rw [HO.out]; kernel_rfl) (by rw [HO.out]; kernel_rfl) (by rw [HO.out]; kernel_rfl) (by rw [HQ.out]; exact fun _ _ _ h => h) (Or.inl ⟨by rw [HO.out]; kernel_rfl, ?_⟩) hS ?_
  · intro w' hSw
    go_simp
  try simp only [Act.put, List.setIfInBounds_toArray, List.set_cons_zero, List.set_cons_succ]
  refine wpAnyH_take (i := 6) (v := .int .i64 ce) (by rw [HO.out]; simp only [List.getElem?_toArray, List.getElem?_cons_succ, List.getElem?_cons_zero]; rfl) (by rw [HO.out]; kernel_rfl) (by rw [HO.out]; kernel_rfl) (by rw [HO.out]; kernel_rfl) (by rw [HQ.out]; exact fun _ _ _ h => h) (Or.inl ⟨by rw [HO.out]; kernel_rfl, ?_⟩) hS ?_
  · intro w' hSw
    go_simp
  try simp only [Act.put, List.setIfInBounds_toArray, List.set_cons_zero, List.set_cons_succ]
  refine wpAnyH_take (i := 7) (v := .int .i64 ce) (by rw [HO.out]; simp only [List.getElem?_toArray, List.getElem?_cons_succ, List.getElem?_cons_zero]; rfl) (by rw [HO.out]; kernel_rfl) (by rw [HO.out]; kernel_rfl) (by rw [HO.out]; kernel_rfl) (by rw [HQ.out]; exact fun _ _ _ h => h) (Or.inl ⟨by rw [HO.out]; kernel_rfl, ?_⟩) hS ?_
  · intro w' hSw
    go_simp
  try simp only [Act.put, List.setIfInBounds_toArray, List.set_cons_zero, List.set_cons_succ]
  refine wpAnyH_take (i := 8) (v := .bool true) (by rw [HO.out]; simp only [List.getElem?_toArray, List.getElem?_cons_succ, List.getElem?_cons_zero]; rfl) (by rw [HO.out]; kernel_rfl) (by rw [HO.out]; kernel_rfl) (by rw [HO.out]; kernel_rfl) (by rw [HQ.out]; exact fun _ _ _ h => h) (Or.inl ⟨by rw [HO.out]; kernel_rfl, ?_⟩) hS ?_
  · intro w' hSw
    go_simp
  try simp only [Act.put, List.setIfInBounds_toArray, List.set_cons_zero, List.set_cons_succ]
  refine wpAnyH_take (i := 9) (v := .bool true) (by rw [HO.out]; simp only [List.getElem?_toArray, List.getElem?_cons_succ, List.getElem?_cons_zero]; rfl) (by rw [HO.out]; kernel_rfl) (by rw [HO.out]; kernel_rfl) (by rw [HO.out]; kernel_rfl) (by rw [HQ.out]; exact fun _ _ _ h => h) (Or.inl ⟨by rw [HO.out]; kernel_rfl, ?_⟩) hS ?_
  · intro w' hSw
    go_simp
  try simp only [Act.put, List.setIfInBounds_toArray, List.set_cons_zero, List.set_cons_succ]
  refine wpAnyH_take (i := 10) (v := .bool true) (by rw [HO.out]; simp only [List.getElem?_toArray, List.getElem?_cons_succ, List.getElem?_cons_zero]; rfl) (by rw [HO.out]; kernel_rfl) (by rw [HO.out]; kernel_rfl) (by rw [HO.out]; kernel_rfl) (by rw [HQ.out]; exact fun _ _ _ h => h) (Or.inl ⟨by rw [HO.out]; kernel_rfl, ?_⟩) hS ?_
  · intro w' hSw
    go_simp
  try simp only [Act.put, List.setIfInBounds_toArray, List.set_cons_zero, List.set_cons_succ]
  refine wpAnyH_take (i := 11) (v := .agg #[.int .i64 r.E, .int .i64 r.B, .int .i64 r.N, .int .i64 r.S, .slice ta r.T.length tc, .slice ma r.M.length mc]) (by rw [HO.out]; simp only [List.getElem?_toArray, List.getElem?_cons_succ, List.getElem?_cons_zero]; rfl) (by rw [HO.out]; kernel_rfl) (by rw [HO.out]; kernel_rfl) (by rw [HO.out]; kernel_rfl) (by rw [HQ.out]; exact fun _ _ _ h => h) (Or.inl ⟨by rw [HO.out]; kernel_rfl, ?_⟩) hS ?_
  · intro w' hSw
    obtain ⟨j0, j1, j2, j3, j4, j5, _⟩ := RX.of' ((hSw.block _ (Array.getElem?_eq_some_iff.1 X5.out).1).trans X5.out)
    go_simp
  try simp only [Act.put, List.setIfInBounds_toArray, List.set_cons_zero, List.set_cons_succ]
  refine wpAnyH_take (i := 13) (v := .int .i64 ce) (by rw [HO.out]; simp only [List.getElem?_toArray, List.getElem?_cons_succ, List.getElem?_cons_zero]; rfl) (by rw [HO.out]; kernel_rfl) (by rw [HO.out]; kernel_rfl) (by rw [HO.out]; kernel_rfl) (by rw [HQ.out]; exact fun _ _ _ h => h) (Or.inl ⟨by rw [HO.out]; kernel_rfl, ?_⟩) hS ?_
  · intro w' hSw
    go_simp
  try simp only [Act.put, List.setIfInBounds_toArray, List.set_cons_zero, List.set_cons_succ]
  refine wpAnyH_ready (rs := [12]) (by rw [HO.out]; kernel_rfl) (by simp) ?_
  refine AllReadyH.cons (o := _) (by rw [HO.out]; simp only [List.getElem?_toArray, List.getElem?_cons_succ, List.getElem?_cons_zero]; rfl) (fun K12 hK12 => ?_) AllReadyH.nil
  rw [HO.out]
  go_simp
  refine (HCK.out _ (HB5.out.trans (hS.mono HB5.out.size))).mono ?_
  rintro e w6 ⟨rfl, hbw6⟩
  have Sw6 : Hid (Below w5.heap.size w5 w6) := hS.trans (hbw6.mono hS.size)
  refine hK12.out _ _ Sw6.out (fun _ => ?_)
  try simp only [Act.put, List.setIfInBounds_toArray, List.set_cons_zero, List.set_cons_succ]
  refine wpAnyH_take (i := 14) (v := .bool true) (by rw [HO.out]; simp only [List.getElem?_toArray, List.getElem?_cons_succ, List.getElem?_cons_zero]; rfl) (by rw [HO.out]; kernel_rfl) (by rw [HO.out]; kernel_rfl) (by rw [HO.out]; kernel_rfl) (by rw [HQ.out]; exact fun _ _ _ h => h) (Or.inl ⟨by rw [HO.out]; kernel_rfl, ?_⟩) Sw6.out ?_
  · intro w' hSw
    go_simp
  try simp only [Act.put, List.setIfInBounds_toArray, List.set_cons_zero, List.set_cons_succ]
  refine wpAnyH_take (i := 15) (v := .bool true) (by rw [HO.out]; simp only [List.getElem?_toArray, List.getElem?_cons_succ, List.getElem?_cons_zero]; rfl) (by rw [HO.out]; kernel_rfl) (by rw [HO.out]; kernel_rfl) (by rw [HO.out]; kernel_rfl) (by rw [HQ.out]; exact fun _ _ _ h => h) (Or.inl ⟨by rw [HO.out]; kernel_rfl, ?_⟩) Sw6.out ?_
  · intro w' hSw
    go_simp
  try simp only [Act.put, List.setIfInBounds_toArray, List.set_cons_zero, List.set_cons_succ]
  refine wpAnyH_take (i := 16) (v := .bool true) (by rw [HO.out]; simp only [List.getElem?_toArray, List.getElem?_cons_succ, List.getElem?_cons_zero]; rfl) (by rw [HO.out]; kernel_rfl) (by rw [HO.out]; kernel_rfl) (by rw [HO.out]; kernel_rfl) (by rw [HQ.out]; exact fun _ _ _ h => h) (Or.inl ⟨by rw [HO.out]; kernel_rfl, ?_⟩) Sw6.out ?_
  · intro w' hSw
    go_simp
  try simp only [Act.put, List.setIfInBounds_toArray, List.set_cons_zero, List.set_cons_succ]
  refine wpAnyH_take (i := 17) (v := .agg #[.int .i64 r.E, .int .i64 r.B, .int .i64 r.N, .int .i64 r.S, .slice ta r.T.length tc, .slice ma r.M.length mc]) (by rw [HO.out]; simp only [List.getElem?_toArray, List.getElem?_cons_succ, List.getElem?_cons_zero]; rfl) (by rw [HO.out]; kernel_rfl) (by rw [HO.out]; kernel_rfl) (by rw [HO.out]; kernel_rfl) (by rw [HQ.out]; exact fun _ _ _ h => h) (Or.inl ⟨by rw [HO.out]; kernel_rfl, ?_⟩) Sw6.out ?_
  · intro w' hSw
    obtain ⟨j0, j1, j2, j3, j4, j5, _⟩ := RX.of' ((hSw.block _ (Array.getElem?_eq_some_iff.1 X5.out).1).trans X5.out)
    go_simp
  try simp only [Act.put, List.setIfInBounds_toArray, List.set_cons_zero, List.set_cons_succ]
  refine wpAnyH_take (i := 18) (v := .agg #[.int .i64 s.E, .int .i64 s.B, .int .i64 s.N, .int .i64 s.S, .slice sa s.T.length sc, .slice na s.M.length nc]) (by rw [HO.out]; simp only [List.getElem?_toArray, List.getElem?_cons_succ, List.getElem?_cons_zero]; rfl) (by rw [HO.out]; kernel_rfl) (by rw [HO.out]; kernel_rfl) (by rw [HO.out]; kernel_rfl) (by rw [HQ.out]; exact fun _ _ _ h => h) (Or.inl ⟨by rw [HO.out]; kernel_rfl, ?_⟩) Sw6.out ?_
  · intro w' hSw
    obtain ⟨j0, j1, j2, j3, j4, j5, _⟩ := RX.of' ((hSw.block _ (Array.getElem?_eq_some_iff.1 Y5.out).1).trans Y5.out)
    go_simp
  try simp only [Act.put, List.setIfInBounds_toArray, List.set_cons_zero, List.set_cons_succ]
  refine wpAnyH_take (i := 20) (v := .agg #[.int .i64 r.E, .int .i64 r.B, .int .i64 r.N, .int .i64 r.S, .slice ta r.T.length tc, .slice ma r.M.length mc]) (by rw [HO.out]; simp only [List.getElem?_toArray, List.getElem?_cons_succ, List.getElem?_cons_zero]; rfl) (by rw [HO.out]; kernel_rfl) (by rw [HO.out]; kernel_rfl) (by rw [HO.out]; kernel_rfl) (by rw [HQ.out]; exact fun _ _ _ h => h) (Or.inl ⟨by rw [HO.out]; kernel_rfl, ?_⟩) Sw6.out ?_
  · intro w' hSw
    obtain ⟨j0, j1, j2, j3, j4, j5, _⟩ := RX.of' ((hSw.block _ (Array.getElem?_eq_some_iff.1 X5.out).1).trans X5.out)
    go_simp
  try simp only [Act.put, List.setIfInBounds_toArray, List.set_cons_zero, List.set_cons_succ]
  refine wpAnyH_take (i := 21) (v := .agg #[.int .i64 s.E, .int .i64 s.B, .int .i64 s.N, .int .i64 s.S, .slice sa s.T.length sc, .slice na s.M.length nc]) (by rw [HO.out]; simp only [List.getElem?_toArray, List.getElem?_cons_succ, List.getElem?_cons_zero]; rfl) (by rw [HO.out]; kernel_rfl) (by rw [HO.out]; kernel_rfl) (by rw [HO.out]; kernel_rfl) (by rw [HQ.out]; exact fun _ _ _ h => h) (Or.inl ⟨by rw [HO.out]; kernel_rfl, ?_⟩) Sw6.out ?_
  · intro w' hSw
    obtain ⟨j0, j1, j2, j3, j4, j5, _⟩ := RX.of' ((hSw.block _ (Array.getElem?_eq_some_iff.1 Y5.out).1).trans Y5.out)
    go_simp
  try simp only [Act.put, List.setIfInBounds_toArray, List.set_cons_zero, List.set_cons_succ]
  refine wpAnyH_ready (rs := [19]) (by rw [HO.out]; kernel_rfl) (by simp) ?_
  refine AllReadyH.cons (o := _) (by rw [HO.out]; simp only [List.getElem?_toArray, List.getElem?_cons_succ, List.getElem?_cons_zero]; rfl) (fun K19 hK19 => ?_) AllReadyH.nil
  rw [HO.out]
  go_simp
  refine (HS1.out _ (HB5.out.trans (Sw6.out.mono HB5.out.size))).mono ?_
  rintro e w7 ⟨rfl, hbw7⟩
  have Sw7 : Hid (Below w5.heap.size w5 w7) := Sw6.out.trans (hbw7.mono Sw6.out.size)
  refine hK19.out _ _ Sw7.out (fun _ => ?_)
  try simp only [Act.put, List.setIfInBounds_toArray, List.set_cons_zero, List.set_cons_succ]
  refine wpAnyH_ready (rs := [22]) (by rw [HO.out]; kernel_rfl) (by simp) ?_
  refine AllReadyH.cons (o := _) (by rw [HO.out]; simp only [List.getElem?_toArray, List.getElem?_cons_succ, List.getElem?_cons_zero]; rfl) (fun K22 hK22 => ?_) AllReadyH.nil
  rw [HO.out]
  go_simp
  refine (HS2.out _ (HB5.out.trans (Sw7.out.mono HB5.out.size))).mono ?_
  rintro e w8 ⟨rfl, hbw8⟩
  have Sw8 : Hid (Below w5.heap.size w5 w8) := Sw7.out.trans (hbw8.mono Sw7.out.size)
  refine hK22.out _ _ Sw8.out (fun _ => ?_)
  try simp only [Act.put, List.setIfInBounds_toArray, List.set_cons_zero, List.set_cons_succ]
  refine wpAnyH_take (i := 23) (v := .bool true) (by rw [HO.out]; simp only [List.getElem?_toArray, List.getElem?_cons_succ, List.getElem?_cons_zero]; rfl) (by rw [HO.out]; kernel_rfl) (by rw [HO.out]; kernel_rfl) (by rw [HO.out]; kernel_rfl) (by rw [HQ.out]; exact fun _ _ _ h => h) (Or.inl ⟨by rw [HO.out]; kernel_rfl, ?_⟩) Sw8.out ?_
  · intro w' hSw
    go_simp
  try simp only [Act.put, List.setIfInBounds_toArray, List.set_cons_zero, List.set_cons_succ]
  refine wpAnyH_take (i := 24) (v := .bool true) (by rw [HO.out]; simp only [List.getElem?_toArray, List.getElem?_cons_succ, List.getElem?_cons_zero]; rfl) (by rw [HO.out]; kernel_rfl) (by rw [HO.out]; kernel_rfl) (by rw [HO.out]; kernel_rfl) (by rw [HQ.out]; exact fun _ _ _ h => h) (Or.inl ⟨by rw [HO.out]; kernel_rfl, ?_⟩) Sw8.out ?_
  · intro w' hSw
    go_simp
  try simp only [Act.put, List.setIfInBounds_toArray, List.set_cons_zero, List.set_cons_succ]
  refine wpAnyH_take (i := 25) (v := .bool true) (by rw [HO.out]; simp only [List.getElem?_toArray, List.getElem?_cons_succ, List.getElem?_cons_zero]; rfl) (by rw [HO.out]; kernel_rfl) (by rw [HO.out]; kernel_rfl) (by rw [HO.out]; kernel_rfl) (by rw [HQ.out]; exact fun _ _ _ h => h) (Or.inl ⟨by rw [HO.out]; kernel_rfl, ?_⟩) Sw8.out ?_
  · intro w' hSw
    go_simp
  try simp only [Act.put, List.setIfInBounds_toArray, List.set_cons_zero, List.set_cons_succ]
  refine wpAnyH_ready (rs := [26]) (by rw [HO.out]; kernel_rfl) (by simp) ?_
  refine AllReadyH.cons (o := _) (by rw [HO.out]; simp only [List.getElem?_toArray, List.getElem?_cons_succ, List.getElem?_cons_zero]; rfl) (fun K26 hK26 => ?_) AllReadyH.nil
  rw [HO.out]
  go_simp
  refine (HA _).mono ?_
  rintro e w9 ⟨rfl, hb9⟩
  have Sw9 : Hid (Below w5.heap.size w5 w9) := Sw8.out.trans (hb9.mono Sw8.out.size)
  refine hK26.out _ _ Sw9.out (fun _ => ?_)
  try simp only [Act.put, List.setIfInBounds_toArray, List.set_cons_zero, List.set_cons_succ]
  refine wpAnyH_take (i := 27) (v := .bool true) (by rw [HO.out]; simp only [List.getElem?_toArray, List.getElem?_cons_succ, List.getElem?_cons_zero]; rfl) (by rw [HO.out]; kernel_rfl) (by rw [HO.out]; kernel_rfl) (by rw [HO.out]; kernel_rfl) (by rw [HQ.out]; exact fun _ _ _ h => h) (Or.inl ⟨by rw [HO.out]; kernel_rfl, ?_⟩) Sw9.out ?_
  · intro w' hSw
    go_simp
  try simp only [Act.put, List.setIfInBounds_toArray, List.set_cons_zero, List.set_cons_succ]
  refine wpAnyH_ready (rs := [28]) (by rw [HO.out]; kernel_rfl) (by simp) ?_
  refine AllReadyH.cons (o := _) (by rw [HO.out]; simp only [List.getElem?_toArray, List.getElem?_cons_succ, List.getElem?_cons_zero]; rfl) (fun K28 hK28 => ?_) AllReadyH.nil
  rw [HO.out]
  go_simp
  refine hK28.out _ _ Sw9.out (fun _ => ?_)
  try simp only [Act.put, List.setIfInBounds_toArray, List.set_cons_zero, List.set_cons_succ]
  refine wpAnyH_done (by rw [HO.out]; kernel_rfl) ?_ _
  rw [HQ.out]
  refine NoPanic.normal ?_
  go_wp2_with fail
  go_ret
  exact ⟨rfl, (hB0.trans (HB5.out.mono hB0.size)).trans (Sw9.out.mono (Nat.le_trans hB0.size HB5.out.size))⟩
theorem walk (r : RD) (ta ma : Option Addr) (tc mc : Nat) (s : RD) (sa na : Option Addr) (sc nc : Nat) (w : World) (hr : Rt w r ta tc ma mc) (hs : Rt w s sa sc na nc) :
    Calls Try.prog 3 #[rootV r ta tc ma mc, rootV s sa sc na nc] w fun e w' => e = .returned (.bool true) ∧ Below w.heap.size w w' := by
  cases h : lightB r
  · exact walk_r r ta ma tc mc s sa na sc nc w hr hs h
  · cases h2 : lightB s
    · exact walk_s r ta ma tc mc s sa na sc nc w hr hs h h2
    · by_cases hc : checkE r = 0
      · exact walk_ok r ta ma tc mc s sa na sc nc w hr hs h h2 (ok_checkE hc)
      · exact walk_bad r ta ma tc mc s sa na sc nc w hr hs h h2 hc
set_option maxRecDepth 100000 in
theorem lifted (os : Os) (started : os.Started) (H : Type) (enc : TypeId × Value → H) :
    ReturnsInHanded {} Try.checked os 3 .any (Rows.rootPutsSpec.pre6 enc Try.prog Try.f3 Rows.rootPutsRow.domain false) (Rows.rootPutsSpec.post enc Try.prog Try.f3 false true false false) := by
  refine returnsInHanded_of_change (C := Try.checked) own started (by kernel_rfl) Try.func3
    (ChangeSpec.witness6 (enc := enc) (C := Try.checked) false ⟨#[], #[.agg #[.int .i64 0, .int .i64 0, .int .i64 0, .int .i64 0, .slice none 0 0, .slice none 0 0], .agg #[.int .i64 0, .int .i64 0, .int .i64 0, .int .i64 0, .slice none 0 0, .slice none 0 0]], []⟩ 8 (by kernel_rfl) (by kernel_rfl) (by kernel_rfl) (by kernel_rfl)) ?_
  intro W base args ds gs before hval0 hW hcnd _
  have hval : ∀ (j : Nat) t v, Try.f3.params[j]? = some t → args[j]? = some v → Value.okWide Try.prog W .any base t v := hval0
  have hW' := hW
  obtain ⟨p, q, hA0, hV, rfl, hfz, hnd⟩ := hW
  have hA : DataW.TrodAll enc Try.prog W 0 (fun _ => true) true Try.f3.params.toList args.toList ds p := hA0
  rw [Try.params3] at hA hval
  obtain ⟨v0, vs0, d0, ds0, p0, q0, hargs, rfl, rfl, h0, r0⟩ := trodAll_cons hA
  obtain ⟨v1, vs1, d1, ds1, p1, q1, rfl, rfl, rfl, h1, r1⟩ := trodAll_cons r0
  obtain ⟨rfl, rfl, rfl⟩ := trodAll_nil r1
  obtain rfl : args = #[v0, v1] := by cases args; simp_all
  obtain ⟨rfl, rfl⟩ := trodVars_none hV
  have k0 := h0
  have lt0 : ∀ x ∈ p0, x.block < W.heap.size := by obtain ⟨m, hm⟩ := k0; exact DataW.trod_lt m _ _ _ hm
  obtain ⟨r_0, ta0, tc0, ma0, mc0, rfl, w0⟩ := open_root (hval 0 24 v0 rfl rfl) h0
  have k1 := h1
  have lt1 : ∀ x ∈ p1, x.block < W.heap.size := by obtain ⟨m, hm⟩ := k1; exact DataW.trod_lt m _ _ _ hm
  obtain ⟨r_1, ta1, tc1, ma1, mc1, rfl, w1⟩ := open_root (hval 1 24 v1 rfl rfl) h1
  clear hA0 hval0
  refine (walk r_0 ta0 ma0 tc0 mc0 r_1 ta1 ma1 tc1 mc1 W w0 w1).mono fun e W' ⟨he, bel⟩ => ?_
  subst he
  exact ⟨_, rfl, _, _, _, [], _, [], hW', trodAll_mk1 (shut_bool Try.underlying4 _), (trodAll_cons_mk (Below.trod laidOut (by kernel_rfl) (of_decide_eq_true (by kernel_rfl)) k0 bel lt0) (trodAll_cons_mk (Below.trod laidOut (by kernel_rfl) (of_decide_eq_true (by kernel_rfl)) k1 bel lt1) trodAll_mk0)), rfl, bel.frame _, fun h => by cases h⟩

theorem over : Rows.rootPutsRow.holds Try.pinned (OpenSpec.ofChange Rows.rootPutsSpec) :=
  OpenClaim.holds_of_wide 3 Try.f3 rfl rfl rfl rfl rfl rfl rfl ⟨rfl, rfl, rfl, rfl, rfl⟩ rfl rfl rfl rfl rfl (by kernel_rfl) Try.func3 (by kernel_rfl)
    (of_decide_eq_true (by kernel_rfl)) (by unfold Func.isWrapper; first | (rw [if_pos (by decide +kernel)]; kernel_rfl) | (rw [if_neg (by decide +kernel)]; exact ⟨rfl, rfl⟩))
    (fun os started H enc _ => lifted os started H enc)
end Go.Proofs.Ytadnflaocgmfgaa.rootPuts

namespace Go.Proofs.Ytadnflaocgmfgaa
theorem rootPuts_holds : Rows.RootPutsSaid := rootPuts.over
#print axioms rootPuts_holds
end Go.Proofs.Ytadnflaocgmfgaa
