/- For any root with at most 60 tables and maps: what is put of it is got as it was, and counts in its place; where it may not be, nothing is put. -/
import Derived.Test.YtadnflaocgmfgaaRows
import Derived.Test.YtadnflaocgmfgaaArg
import Derived.WalkKit
import Derived.ProofKit
import Derived.OpenShut
import Derived.ShutString
import Derived.ChangeOld
import Derived.Below
namespace Go.Proofs.Ytadnflaocgmfgaa.rootBack
open Go.ChangeShapes Go.WideShapes Go.ChangeAt Go.RowKit
set_option linter.unusedVariables false
set_option linter.unusedSimpArgs false
set_option maxRecDepth 20000

theorem own : ownKnob Try.prog.godebug = none := by kernel_rfl
theorem laidOut : laidOutB Try.prog = true := by kernel_rfl
theorem RX.of' {w : World} {p : Nat} {t : TypeId} {c0 c1 c2 c3 c4 c5 : Value} (h : w.heap[p]? = some (.cells #[c0, c1, c2, c3, c4, c5] t (0, 0))) : RX w p c0 c1 c2 c3 c4 c5 := by
  refine ⟨?_, ?_, ?_, ?_, ?_, ?_, ?_, ?_, ?_, ?_, ?_, ?_⟩ <;> first
    | (rw [cell_of_row _ _ _ _ _ _ h]; rfl)
    | exact frozen_of_row _ _ _ _ _ h
theorem RX6.set {W : World} {p : Nat} {t : TypeId} {c0 c1 c2 c3 c4 c5 : Value} (h : W.heap[p]? = some (.cells #[c0, c1, c2, c3, c4, c5] t (0, 0))) (u0 u1 u2 u3 u4 u5 : Value) : ((((((W.setCell ⟨p, 0, none⟩ u0).setCell ⟨p, 1, none⟩ u1).setCell ⟨p, 2, none⟩ u2).setCell ⟨p, 3, none⟩ u3).setCell ⟨p, 4, none⟩ u4).setCell ⟨p, 5, none⟩ u5).heap[p]? = some (.cells #[u0, u1, u2, u3, u4, u5] t (0, 0)) := by
  have h0 := heap_setCell_same W p 0 _ t u0 h
  have h1 := heap_setCell_same _ p 1 _ t u1 h0
  have h2 := heap_setCell_same _ p 2 _ t u2 h1
  have h3 := heap_setCell_same _ p 3 _ t u3 h2
  have h4 := heap_setCell_same _ p 4 _ t u4 h3
  have h5 := heap_setCell_same _ p 5 _ t u5 h4
  exact h5
set_option maxHeartbeats 1600000 in
theorem walk_heavy (r : RD) (ta ma : Option Addr) (tc mc : Nat) (w : World) (hr : Rt w r ta tc ma mc) (h : lightB r = false) :
    Calls Try.prog 5 #[rootV r ta tc ma mc] w fun e w' => e = .returned (.bool true) ∧ Below w.heap.size w w' := by
  obtain ⟨W0, hW0⟩ : ∃ W, W = w.alloc (.cells #[.int .i64 r.E, .int .i64 r.B, .int .i64 r.N, .int .i64 r.S, .slice ta r.T.length tc, .slice ma r.M.length mc] 24) := ⟨_, rfl⟩
  have hB0 : Below w.heap.size w W0 := by rw [hW0]; exact (Below.refl _ _).alloc (Nat.le_refl _) _
  have HX0 : Hid (W0.heap[w.heap.size]? = some (.cells #[.int .i64 r.E, .int .i64 r.B, .int .i64 r.N, .int .i64 r.S, .slice ta r.T.length tc, .slice ma r.M.length mc] 24 (0, 0))) := by rw [hW0]; exact heap_alloc_last _ _
  have HL : Hid (Calls Try.prog 7 #[rootV r ta tc ma mc] W0 fun e w' => e = .returned (.bool (lightB r)) ∧ Below W0.heap.size W0 w') := light_any r ta ma tc mc W0
  have HR0 : Hid (Rt W0 r ta tc ma mc) := hr.below hB0
  clear hr
  rw [h] at HL
  have HA := awake_any
  unfold rootV at *
  go_enter Try.func5, Try.ntmps5
  go_wp2_with fail
  rw [← hW0]
  clear hW0
  refine HL.out.mono ?_
  rintro e w1 ⟨rfl, hb1⟩
  clear HL
  go_wp2_with (first | (go_at_call 8; refine (HA _).mono ?_; rintro e w2 ⟨rfl, hb2⟩; clear HA) | fail)
  go_ret
  have B1 := hB0.trans (hb1.mono hB0.size)
  exact ⟨rfl, B1.trans (hb2.mono B1.size)⟩
set_option maxHeartbeats 1600000 in
theorem walk_bad (r : RD) (ta ma : Option Addr) (tc mc : Nat) (w : World) (hr : Rt w r ta tc ma mc) (h : lightB r = true) (hc : checkE r ≠ 0) :
    Calls Try.prog 5 #[rootV r ta tc ma mc] w fun e w' => e = .returned (.bool true) ∧ Below w.heap.size w w' := by
  obtain ⟨W0, hW0⟩ : ∃ W, W = w.alloc (.cells #[.int .i64 r.E, .int .i64 r.B, .int .i64 r.N, .int .i64 r.S, .slice ta r.T.length tc, .slice ma r.M.length mc] 24) := ⟨_, rfl⟩
  have hB0 : Below w.heap.size w W0 := by rw [hW0]; exact (Below.refl _ _).alloc (Nat.le_refl _) _
  have HX0 : Hid (W0.heap[w.heap.size]? = some (.cells #[.int .i64 r.E, .int .i64 r.B, .int .i64 r.N, .int .i64 r.S, .slice ta r.T.length tc, .slice ma r.M.length mc] 24 (0, 0))) := by rw [hW0]; exact heap_alloc_last _ _
  have HL : Hid (Calls Try.prog 7 #[rootV r ta tc ma mc] W0 fun e w' => e = .returned (.bool (lightB r)) ∧ Below W0.heap.size W0 w') := light_any r ta ma tc mc W0
  have HR0 : Hid (Rt W0 r ta tc ma mc) := hr.below hB0
  clear hr
  rw [h] at HL
  have HA := awake_any
  have HPU : Hid (∀ W, Below W0.heap.size W0 W → Calls Try.prog 9 #[rootV r ta tc ma mc] W fun e w' => e = .returned (.tuple #[.slice none 0 0, .int .i64 (checkE r)]) ∧ Below W.heap.size W w') := fun W hW => put_bad r ta ma tc mc W (HR0.out.below hW) hc
  have hce : (checkE r == 0) = false := by simpa using hc
  unfold rootV at *
  generalize checkE r = ce at *
  go_enter Try.func5, Try.ntmps5
  go_wp2_with fail
  rw [← hW0]
  clear hW0
  refine HL.out.mono ?_
  rintro e w1 ⟨rfl, hb1⟩
  clear HL
  obtain ⟨x0, x1, x2, x3, x4, x5, _⟩ := RX.of' ((hb1.block w.heap.size (Array.getElem?_eq_some_iff.1 HX0.out).1).trans HX0.out)
  go_wp2_with (first
    | (go_at_call 9; refine (HPU.out _ hb1).mono ?_; rintro e w2 ⟨rfl, hb2⟩; clear HPU)
    | (go_at_call 8; refine (HA _).mono ?_; rintro e w3 ⟨rfl, hb3⟩; clear HA)
    | fail)
  go_ret
  have B1 := hB0.trans (hb1.mono hB0.size)
  have B2 := B1.trans (hb2.mono B1.size)
  exact ⟨rfl, B2.trans (hb3.mono B2.size)⟩
set_option maxHeartbeats 1600000 in
theorem walk_ok (r : RD) (ta ma : Option Addr) (tc mc : Nat) (w : World) (hr : Rt w r ta tc ma mc) (h : lightB r = true) (hok : r.Ok) :
    Calls Try.prog 5 #[rootV r ta tc ma mc] w fun e w' => e = .returned (.bool true) ∧ Below w.heap.size w w' := by
  obtain ⟨W0, hW0⟩ : ∃ W, W = w.alloc (.cells #[.int .i64 r.E, .int .i64 r.B, .int .i64 r.N, .int .i64 r.S, .slice ta r.T.length tc, .slice ma r.M.length mc] 24) := ⟨_, rfl⟩
  have hB0 : Below w.heap.size w W0 := by rw [hW0]; exact (Below.refl _ _).alloc (Nat.le_refl _) _
  have HX0 : Hid (W0.heap[w.heap.size]? = some (.cells #[.int .i64 r.E, .int .i64 r.B, .int .i64 r.N, .int .i64 r.S, .slice ta r.T.length tc, .slice ma r.M.length mc] 24 (0, 0))) := by rw [hW0]; exact heap_alloc_last _ _
  have HL : Hid (Calls Try.prog 7 #[rootV r ta tc ma mc] W0 fun e w' => e = .returned (.bool (lightB r)) ∧ Below W0.heap.size W0 w') := light_any r ta ma tc mc W0
  have HR0 : Hid (Rt W0 r ta tc ma mc) := hr.below hB0
  clear hr
  rw [h] at HL
  have HA := awake_any
  have HPU : Hid (∀ W, Below W0.heap.size W0 W → Calls Try.prog 9 #[rootV r ta tc ma mc] W fun e w' => ∃ pa pc, e = .returned (.tuple #[.slice pa 256 pc, .int .i64 0]) ∧ Hid (BV w' pa (putS r) ∧ (pa = none → pc = 0) ∧ 256 ≤ pc ∧ pc ≤ 9223372036854775807 ∧ Below W.heap.size W w')) := fun W hW => put_ans (HR0.out.below hW) hok
  have HGT : Hid (∀ W pa pc, BV W pa (putS r) → 256 ≤ pc → pc ≤ 9223372036854775807 → Calls Try.prog 14 #[.slice pa 256 pc] W fun e w' => ∃ ta tc ma mc, e = .returned (.tuple #[rootV r ta tc ma mc, .int .i64 0]) ∧ Hid (Rt w' r ta tc ma mc ∧ Below W.heap.size W w')) := fun W pa pc h1 h2 h3 => get_ans hok h1 h2 h3
  have HLN : Hid ((putS r).length = 256 ∧ getS (putS r) = (r, 0)) := ⟨put_len hok, get_put hok⟩
  obtain ⟨zs, hzs⟩ : ∃ zs, zs = putS r := ⟨_, rfl⟩
  rw [← hzs] at HPU HGT HLN
  clear hzs
  obtain ⟨c1, hc1⟩ : ∃ c, chS zs [] 2 = c := ⟨_, rfl⟩
  have HC1 : Hid (∀ W pa pc, BV W pa zs → 256 ≤ pc → pc ≤ 9223372036854775807 → Calls Try.prog 16 #[.slice pa 256 pc, .slice none 0 0] W fun e w' => ∃ ta tc ma mc, e = .returned (.tuple #[rootV c1.r ta tc ma mc, .int .i64 c1.n, .int .i64 c1.e]) ∧ Hid (Rt w' c1.r ta tc ma mc ∧ Below W.heap.size W w' ∧ IVh W.heap.size w' ta c1.r.T ∧ IVh W.heap.size w' ma c1.r.M)) := fun W pa pc h1 h2 h3 => choose_ans h1 (ys := []) ⟨AllB.nil, .inl rfl⟩ HLN.out.1 rfl h2 (Nat.le_refl _) h3 (by decide) hc1
  have HSM : Hid (∀ W sa sc na nc, Rt W r sa sc na nc → Below W0.heap.size W0 W → Calls Try.prog 13 #[rootV r sa sc na nc, rootV r ta tc ma mc] W fun e w' => e = .returned (.bool true) ∧ Below W.heap.size W w') := fun W sa sc na nc h1 h2 => by
    have := rsame_any r r sa na sc nc ta ma tc mc W h1 (HR0.out.below h2)
    rw [(sameB_iff r r).2 rfl] at this
    exact this
  have htm : r.E.tmod 2 = r.E % 2 := Int.tmod_eq_emod_of_nonneg hok.e0
  unfold rootV at *
  by_cases hodd : r.E.tmod 2 = 1
  · have hq : (r.E.tmod 2 == 1) = true := by simpa using hodd
    have HC2 : Hid (∀ W pa pc, BV W pa zs → 256 ≤ pc → pc ≤ 9223372036854775807 → Calls Try.prog 16 #[.slice none 0 0, .slice pa 256 pc] W fun e w' => ∃ ta tc ma mc, e = .returned (.tuple #[rootV r ta tc ma mc, .int .i64 1, .int .i64 0]) ∧ Hid (Rt w' r ta tc ma mc ∧ Below W.heap.size W w' ∧ IVh W.heap.size w' ta r.T ∧ IVh W.heap.size w' ma r.M)) := fun W pa pc h1 h2 h3 => choose_ans (xs := []) ⟨AllB.nil, .inl rfl⟩ h1 rfl HLN.out.1 (Nat.le_refl _) h2 (by decide) h3 (chS_right HLN.out.2 hodd)
    unfold rootV at HC2
    clear htm
    go_enter Try.func5, Try.ntmps5
    go_wp2_with fail
    rw [← hW0]
    clear hW0
    refine HL.out.mono ?_
    rintro e w1 ⟨rfl, hb1⟩
    clear HL
    obtain ⟨x0, x1, x2, x3, x4, x5, _⟩ := RX.of' ((hb1.block w.heap.size (Array.getElem?_eq_some_iff.1 HX0.out).1).trans HX0.out)
    go_wp2_with (first
      | (go_at_call 9; refine (HPU.out _ hb1).mono ?_; rintro e w2 ⟨pa, pc, rfl, H2⟩; have HB2 : Hid (Below W0.heap.size W0 w2) := hb1.trans (H2.out.2.2.2.2.mono hb1.size); clear HPU)
      | (go_at_call 14; refine (HGT.out _ pa pc H2.out.1 H2.out.2.2.1 H2.out.2.2.2.1).mono ?_; rintro e w3 ⟨sa, sc, na, nc, rfl, H3⟩; clear HGT)
      | fail)
    obtain ⟨V3, hV3⟩ : ∃ W, W = w3.alloc (.cells #[.int .i64 r.E, .int .i64 r.B, .int .i64 r.N, .int .i64 r.S, .slice sa r.T.length sc, .slice na r.M.length nc] 31) := ⟨_, rfl⟩
    rw [← hV3]
    have hb3 : Below w3.heap.size w3 V3 := by rw [hV3]; exact (Below.refl _ _).alloc (Nat.le_refl _) _
    have HS3 : Hid (V3.heap[w3.heap.size]? = some (.cells #[.int .i64 r.E, .int .i64 r.B, .int .i64 r.N, .int .i64 r.S, .slice sa r.T.length sc, .slice na r.M.length nc] 31 (0, 0))) := by rw [hV3]; exact heap_alloc_last _ _
    have HB3 : Hid (Below w2.heap.size w2 V3) := H3.out.2.trans (hb3.mono H3.out.2.size)
    have HRS : Hid (Rt V3 r sa sc na nc) := H3.out.1.below hb3
    have HZ : Hid (W0.heap.size ≤ w3.heap.size) := Nat.le_trans HB2.out.size H3.out.2.size
    clear hV3 hb3 H3 x0 x1 x2 x3 x4 x5
    refine (HC1.out V3 pa pc (H2.out.1.below HB3.out) H2.out.2.2.1 H2.out.2.2.2.1).mono ?_
    rintro e w4 ⟨xa, xc, ya, yc, rfl, H4a⟩
    have H4 : Hid (Rt w4 c1.r xa xc ya yc ∧ Below V3.heap.size V3 w4) := ⟨H4a.out.1, H4a.out.2.1⟩
    clear H4a
    clear HC1
    have hb4 : Below w4.heap.size w4 (w4.alloc (.cells #[.int .i64 c1.r.E, .int .i64 c1.r.B, .int .i64 c1.r.N, .int .i64 c1.r.S, .slice xa c1.r.T.length xc, .slice ya c1.r.M.length yc] 31)) := (Below.refl _ _).alloc (Nat.le_refl _) _
    obtain ⟨V4, hV4⟩ : ∃ W, W = w4.alloc (.cells #[.int .i64 c1.r.E, .int .i64 c1.r.B, .int .i64 c1.r.N, .int .i64 c1.r.S, .slice xa c1.r.T.length xc, .slice ya c1.r.M.length yc] 31) := ⟨_, rfl⟩
    rw [← hV4] at hb4
    have HB4 : Hid (Below V3.heap.size V3 V4) := H4.out.2.trans (hb4.mono H4.out.2.size)
    have HXX : Hid (V4.heap[w4.heap.size]? = some (.cells #[.int .i64 c1.r.E, .int .i64 c1.r.B, .int .i64 c1.r.N, .int .i64 c1.r.S, .slice xa c1.r.T.length xc, .slice ya c1.r.M.length yc] 31 (0, 0)) ∧ V3.heap.size ≤ w4.heap.size) := ⟨by rw [hV4]; exact heap_alloc_last _ _, H4.out.2.size⟩
    have HBV : Hid (Below W0.heap.size W0 V4) := (HB2.out.trans (HB3.out.mono HB2.out.size)).trans (HB4.out.mono (Nat.le_trans HB2.out.size HB3.out.size))
    have HS4 : Hid (V4.heap[w3.heap.size]? = some (.cells #[.int .i64 r.E, .int .i64 r.B, .int .i64 r.N, .int .i64 r.S, .slice sa r.T.length sc, .slice na r.M.length nc] 31 (0, 0))) := (HB4.out.block _ (Array.getElem?_eq_some_iff.1 HS3.out).1).trans HS3.out
    have HX4 : Hid (V4.heap[w.heap.size]? = some (.cells #[.int .i64 r.E, .int .i64 r.B, .int .i64 r.N, .int .i64 r.S, .slice ta r.T.length tc, .slice ma r.M.length mc] 24 (0, 0))) := (HBV.out.block _ (Array.getElem?_eq_some_iff.1 HX0.out).1).trans HX0.out
    have HRX : Hid (Rt V4 c1.r xa xc ya yc) := H4.out.1.below hb4
    obtain ⟨x0, x1, x2, x3, x4, x5, _⟩ := RX.of' HX4.out
    obtain ⟨s0, s1, s2, s3, s4, s5, _⟩ := RX.of' HS4.out
    obtain ⟨t0, t1, t2, t3, t4, t5, u0, u1, u2, u3, u4, u5⟩ := RX.of' HXX.out.1
    have HRS4 : Hid (Rt V4 r sa sc na nc) := HRS.out.below HB4.out
    rw [hV4] at x0 x1 x2 x3 x4 x5 s0 s1 s2 s3 s4 s5 t0 t1 t2 t3 t4 t5 u0 u1 u2 u3 u4 u5
    clear hb4 H4
    go_wp2_with fail
    rw [← hV4]
    clear x0 x1 x2 x3 x4 x5 s0 s1 s2 s3 s4 s5 t0 t1 t2 t3 t4 t5 u0 u1 u2 u3 u4 u5 hV4
    refine (HC2.out V4 pa pc ((H2.out.1.below HB3.out).below HB4.out) H2.out.2.2.1 H2.out.2.2.2.1).mono ?_
    rintro e w5 ⟨oa, oc, qa, qc, rfl, H5⟩
    clear HC2
    have hX5 := (H5.out.2.1.block _ (Array.getElem?_eq_some_iff.1 HX4.out).1).trans HX4.out
    have hS5 := (H5.out.2.1.block _ (Array.getElem?_eq_some_iff.1 HS4.out).1).trans HS4.out
    have hT5 := (H5.out.2.1.block _ (Array.getElem?_eq_some_iff.1 HXX.out.1).1).trans HXX.out.1
    obtain ⟨x0, x1, x2, x3, x4, x5, _⟩ := RX.of' hX5
    obtain ⟨s0, s1, s2, s3, s4, s5, _⟩ := RX.of' hS5
    obtain ⟨t0, t1, t2, t3, t4, t5, u0, u1, u2, u3, u4, u5⟩ := RX.of' hT5
    have ne1 : w.heap.size ≠ w4.heap.size := by have h1 := (Array.getElem?_eq_some_iff.1 HX0.out).1; have h2 := HZ.out; have h3 := (Array.getElem?_eq_some_iff.1 HS3.out).1; have h4 := HXX.out.2; omega
    have ne2 : w3.heap.size ≠ w4.heap.size := by have h3 := (Array.getElem?_eq_some_iff.1 HS3.out).1; have h4 := HXX.out.2; omega
    have ne3 : w4.heap.size ≠ w.heap.size := fun e => ne1 e.symm
    have ne4 : w4.heap.size ≠ w3.heap.size := fun e => ne2 e.symm
    have B36 : Hid (Below V3.heap.size V3 ((((((w5.setCell ⟨w4.heap.size, 0, none⟩ (.int .i64 r.E)).setCell ⟨w4.heap.size, 1, none⟩ (.int .i64 r.B)).setCell ⟨w4.heap.size, 2, none⟩ (.int .i64 r.N)).setCell ⟨w4.heap.size, 3, none⟩ (.int .i64 r.S)).setCell ⟨w4.heap.size, 4, none⟩ (.slice oa r.T.length oc)).setCell ⟨w4.heap.size, 5, none⟩ (.slice qa r.M.length qc))) := by
      have h1 := HB4.out.trans (H5.out.2.1.mono HB4.out.size)
      exact below_set6 h1 HXX.out.2 _ _ _ _ _ _
    have BW6 : Hid (Below W0.heap.size W0 ((((((w5.setCell ⟨w4.heap.size, 0, none⟩ (.int .i64 r.E)).setCell ⟨w4.heap.size, 1, none⟩ (.int .i64 r.B)).setCell ⟨w4.heap.size, 2, none⟩ (.int .i64 r.N)).setCell ⟨w4.heap.size, 3, none⟩ (.int .i64 r.S)).setCell ⟨w4.heap.size, 4, none⟩ (.slice oa r.T.length oc)).setCell ⟨w4.heap.size, 5, none⟩ (.slice qa r.M.length qc))) := (HB2.out.trans (HB3.out.mono HB2.out.size)).trans (B36.out.mono (Nat.le_trans HB2.out.size HB3.out.size))
    have hxlt : w4.heap.size < V4.heap.size := (Array.getElem?_eq_some_iff.1 HXX.out.1).1
    have RO6 : Hid (Rt ((((((w5.setCell ⟨w4.heap.size, 0, none⟩ (.int .i64 r.E)).setCell ⟨w4.heap.size, 1, none⟩ (.int .i64 r.B)).setCell ⟨w4.heap.size, 2, none⟩ (.int .i64 r.N)).setCell ⟨w4.heap.size, 3, none⟩ (.int .i64 r.S)).setCell ⟨w4.heap.size, 4, none⟩ (.slice oa r.T.length oc)).setCell ⟨w4.heap.size, 5, none⟩ (.slice qa r.M.length qc)) r oa oc qa qc) := by
      have q1 := ivh_set6 (p := w4.heap.size) H5.out.2.2.1 hxlt (.int .i64 r.E) (.int .i64 r.B) (.int .i64 r.N) (.int .i64 r.S) (.slice oa r.T.length oc) (.slice qa r.M.length qc)
      have q2 := ivh_set6 (p := w4.heap.size) H5.out.2.2.2 hxlt (.int .i64 r.E) (.int .i64 r.B) (.int .i64 r.N) (.int .i64 r.S) (.slice oa r.T.length oc) (.slice qa r.M.length qc)
      exact ⟨q1.iv, q2.iv, H5.out.1.tn, H5.out.1.mn, H5.out.1.tl, H5.out.1.ml, H5.out.1.th, H5.out.1.mh⟩
    have X6 : Hid (((((((w5.setCell ⟨w4.heap.size, 0, none⟩ (.int .i64 r.E)).setCell ⟨w4.heap.size, 1, none⟩ (.int .i64 r.B)).setCell ⟨w4.heap.size, 2, none⟩ (.int .i64 r.N)).setCell ⟨w4.heap.size, 3, none⟩ (.int .i64 r.S)).setCell ⟨w4.heap.size, 4, none⟩ (.slice oa r.T.length oc)).setCell ⟨w4.heap.size, 5, none⟩ (.slice qa r.M.length qc)).heap[w4.heap.size]? = some (.cells #[.int .i64 r.E, .int .i64 r.B, .int .i64 r.N, .int .i64 r.S, .slice oa r.T.length oc, .slice qa r.M.length qc] 31 (0, 0))) := RX6.set hT5 _ _ _ _ _ _
    have Y6 : Hid (((((((w5.setCell ⟨w4.heap.size, 0, none⟩ (.int .i64 r.E)).setCell ⟨w4.heap.size, 1, none⟩ (.int .i64 r.B)).setCell ⟨w4.heap.size, 2, none⟩ (.int .i64 r.N)).setCell ⟨w4.heap.size, 3, none⟩ (.int .i64 r.S)).setCell ⟨w4.heap.size, 4, none⟩ (.slice oa r.T.length oc)).setCell ⟨w4.heap.size, 5, none⟩ (.slice qa r.M.length qc)).heap[w.heap.size]? = some (.cells #[.int .i64 r.E, .int .i64 r.B, .int .i64 r.N, .int .i64 r.S, .slice ta r.T.length tc, .slice ma r.M.length mc] 24 (0, 0))) := (block_set6 ne1 _ _ _ _ _ _).trans hX5
    clear hX5 hS5 hT5
    go_wp2_with (first
      | (go_at_call 13; refine (HSM.out _ sa sc na nc (HRS.out.below B36.out) BW6.out).mono ?_; rintro e w7 ⟨rfl, hb7⟩; have B7 : Hid (Below W0.heap.size W0 w7) := BW6.out.trans (hb7.mono BW6.out.size); have R7 : Hid (Rt w7 r oa oc qa qc) := RO6.out.below hb7; obtain ⟨m0, m1, m2, m3, m4, m5, _⟩ := RX.of' ((hb7.block _ (Array.getElem?_eq_some_iff.1 X6.out).1).trans X6.out); obtain ⟨k0, k1, k2, k3, k4, k5, _⟩ := RX.of' ((hb7.block _ (Array.getElem?_eq_some_iff.1 Y6.out).1).trans Y6.out); clear B36 BW6 RO6 X6 Y6 hb7)
      | (go_at_call 13; refine (HSM.out _ oa oc qa qc R7.out B7.out).mono ?_; rintro e w8 ⟨rfl, hb8⟩; have B8 : Hid (Below W0.heap.size W0 w8) := B7.out.trans (hb8.mono B7.out.size); clear HSM R7 hb8)
      | (go_at_call 8; refine (HA _).mono ?_; rintro e w9 ⟨rfl, hb9⟩; clear HA)
      | fail)
    go_ret
    exact ⟨rfl, (hB0.trans (B8.out.mono hB0.size)).trans (hb9.mono (Nat.le_trans hB0.size B8.out.size))⟩
  · have hz0 : r.E.tmod 2 = 0 := by
      have := hok.e0
      rw [htm] at hodd ⊢
      omega
    have hq : (r.E.tmod 2 == 1) = false := by simpa using hodd
    have HC2 : Hid (∀ W pa pc, BV W pa zs → 256 ≤ pc → pc ≤ 9223372036854775807 → Calls Try.prog 16 #[.slice pa 256 pc, .slice none 0 0] W fun e w' => ∃ ta tc ma mc, e = .returned (.tuple #[rootV r ta tc ma mc, .int .i64 0, .int .i64 0]) ∧ Hid (Rt w' r ta tc ma mc ∧ Below W.heap.size W w' ∧ IVh W.heap.size w' ta r.T ∧ IVh W.heap.size w' ma r.M)) := fun W pa pc h1 h2 h3 => choose_ans h1 (ys := []) ⟨AllB.nil, .inl rfl⟩ HLN.out.1 rfl h2 (Nat.le_refl _) h3 (by decide) (chS_left HLN.out.2 hz0)
    unfold rootV at HC2
    clear HC1 hc1
    clear htm
    go_enter Try.func5, Try.ntmps5
    go_wp2_with fail
    rw [← hW0]
    clear hW0
    refine HL.out.mono ?_
    rintro e w1 ⟨rfl, hb1⟩
    clear HL
    obtain ⟨x0, x1, x2, x3, x4, x5, _⟩ := RX.of' ((hb1.block w.heap.size (Array.getElem?_eq_some_iff.1 HX0.out).1).trans HX0.out)
    go_wp2_with (first
      | (go_at_call 9; refine (HPU.out _ hb1).mono ?_; rintro e w2 ⟨pa, pc, rfl, H2⟩; have HB2 : Hid (Below W0.heap.size W0 w2) := hb1.trans (H2.out.2.2.2.2.mono hb1.size); clear HPU)
      | (go_at_call 14; refine (HGT.out _ pa pc H2.out.1 H2.out.2.2.1 H2.out.2.2.2.1).mono ?_; rintro e w3 ⟨sa, sc, na, nc, rfl, H3⟩; clear HGT)
      | fail)
    obtain ⟨V3, hV3⟩ : ∃ W, W = w3.alloc (.cells #[.int .i64 r.E, .int .i64 r.B, .int .i64 r.N, .int .i64 r.S, .slice sa r.T.length sc, .slice na r.M.length nc] 31) := ⟨_, rfl⟩
    rw [← hV3]
    have hb3 : Below w3.heap.size w3 V3 := by rw [hV3]; exact (Below.refl _ _).alloc (Nat.le_refl _) _
    have HS3 : Hid (V3.heap[w3.heap.size]? = some (.cells #[.int .i64 r.E, .int .i64 r.B, .int .i64 r.N, .int .i64 r.S, .slice sa r.T.length sc, .slice na r.M.length nc] 31 (0, 0))) := by rw [hV3]; exact heap_alloc_last _ _
    have HB3 : Hid (Below w2.heap.size w2 V3) := H3.out.2.trans (hb3.mono H3.out.2.size)
    have HRS : Hid (Rt V3 r sa sc na nc) := H3.out.1.below hb3
    have HZ : Hid (W0.heap.size ≤ w3.heap.size) := Nat.le_trans HB2.out.size H3.out.2.size
    clear hV3 hb3 H3 x0 x1 x2 x3 x4 x5
    refine (HC2.out V3 pa pc (H2.out.1.below HB3.out) H2.out.2.2.1 H2.out.2.2.2.1).mono ?_
    rintro e w4 ⟨xa, xc, ya, yc, rfl, H4a⟩
    have H4 : Hid (Rt w4 r xa xc ya yc ∧ Below V3.heap.size V3 w4) := ⟨H4a.out.1, H4a.out.2.1⟩
    clear H4a
    clear HC2
    have hb4 : Below w4.heap.size w4 (w4.alloc (.cells #[.int .i64 r.E, .int .i64 r.B, .int .i64 r.N, .int .i64 r.S, .slice xa r.T.length xc, .slice ya r.M.length yc] 31)) := (Below.refl _ _).alloc (Nat.le_refl _) _
    obtain ⟨V4, hV4⟩ : ∃ W, W = w4.alloc (.cells #[.int .i64 r.E, .int .i64 r.B, .int .i64 r.N, .int .i64 r.S, .slice xa r.T.length xc, .slice ya r.M.length yc] 31) := ⟨_, rfl⟩
    rw [← hV4] at hb4
    have HB4 : Hid (Below V3.heap.size V3 V4) := H4.out.2.trans (hb4.mono H4.out.2.size)
    have HXX : Hid (V4.heap[w4.heap.size]? = some (.cells #[.int .i64 r.E, .int .i64 r.B, .int .i64 r.N, .int .i64 r.S, .slice xa r.T.length xc, .slice ya r.M.length yc] 31 (0, 0)) ∧ V3.heap.size ≤ w4.heap.size) := ⟨by rw [hV4]; exact heap_alloc_last _ _, H4.out.2.size⟩
    have HBV : Hid (Below W0.heap.size W0 V4) := (HB2.out.trans (HB3.out.mono HB2.out.size)).trans (HB4.out.mono (Nat.le_trans HB2.out.size HB3.out.size))
    have HS4 : Hid (V4.heap[w3.heap.size]? = some (.cells #[.int .i64 r.E, .int .i64 r.B, .int .i64 r.N, .int .i64 r.S, .slice sa r.T.length sc, .slice na r.M.length nc] 31 (0, 0))) := (HB4.out.block _ (Array.getElem?_eq_some_iff.1 HS3.out).1).trans HS3.out
    have HX4 : Hid (V4.heap[w.heap.size]? = some (.cells #[.int .i64 r.E, .int .i64 r.B, .int .i64 r.N, .int .i64 r.S, .slice ta r.T.length tc, .slice ma r.M.length mc] 24 (0, 0))) := (HBV.out.block _ (Array.getElem?_eq_some_iff.1 HX0.out).1).trans HX0.out
    have HRX : Hid (Rt V4 r xa xc ya yc) := H4.out.1.below hb4
    obtain ⟨x0, x1, x2, x3, x4, x5, _⟩ := RX.of' HX4.out
    obtain ⟨s0, s1, s2, s3, s4, s5, _⟩ := RX.of' HS4.out
    obtain ⟨t0, t1, t2, t3, t4, t5, u0, u1, u2, u3, u4, u5⟩ := RX.of' HXX.out.1
    have HRS4 : Hid (Rt V4 r sa sc na nc) := HRS.out.below HB4.out
    rw [hV4] at x0 x1 x2 x3 x4 x5 s0 s1 s2 s3 s4 s5 t0 t1 t2 t3 t4 t5 u0 u1 u2 u3 u4 u5
    clear hb4 H4
    go_wp2_with (first
      | (go_at_call 13; rw [← hV4]; refine (HSM.out V4 sa sc na nc HRS4.out HBV.out).mono ?_; rintro e w7 ⟨rfl, hb7⟩; have B7 : Hid (Below W0.heap.size W0 w7) := HBV.out.trans (hb7.mono HBV.out.size); have R7 : Hid (Rt w7 r xa xc ya yc) := HRX.out.below hb7; obtain ⟨m0, m1, m2, m3, m4, m5, _⟩ := RX.of' ((hb7.block _ (Array.getElem?_eq_some_iff.1 HXX.out.1).1).trans HXX.out.1); obtain ⟨k0, k1, k2, k3, k4, k5, _⟩ := RX.of' ((hb7.block _ (Array.getElem?_eq_some_iff.1 HX4.out).1).trans HX4.out); clear hV4 hb7 HRS4 x0 x1 x2 x3 x4 x5 s0 s1 s2 s3 s4 s5 t0 t1 t2 t3 t4 t5 u0 u1 u2 u3 u4 u5)
      | (go_at_call 13; refine (HSM.out _ xa xc ya yc R7.out B7.out).mono ?_; rintro e w8 ⟨rfl, hb8⟩; have B8 : Hid (Below W0.heap.size W0 w8) := B7.out.trans (hb8.mono B7.out.size); clear HSM R7 hb8)
      | (go_at_call 8; refine (HA _).mono ?_; rintro e w9 ⟨rfl, hb9⟩; clear HA)
      | fail)
    go_ret
    exact ⟨rfl, (hB0.trans (B8.out.mono hB0.size)).trans (hb9.mono (Nat.le_trans hB0.size B8.out.size))⟩
theorem walk (r : RD) (ta ma : Option Addr) (tc mc : Nat) (w : World) (hr : Rt w r ta tc ma mc) :
    Calls Try.prog 5 #[rootV r ta tc ma mc] w fun e w' => e = .returned (.bool true) ∧ Below w.heap.size w w' := by
  cases h : lightB r
  · exact walk_heavy r ta ma tc mc w hr h
  · by_cases hc : checkE r = 0
    · exact walk_ok r ta ma tc mc w hr h (ok_checkE hc)
    · exact walk_bad r ta ma tc mc w hr h hc
set_option maxRecDepth 100000 in
theorem lifted (os : Os) (started : os.Started) (H : Type) (enc : TypeId × Value → H) :
    ReturnsInHanded {} Try.checked os 5 .any (Rows.rootBackSpec.pre6 enc Try.prog Try.f5 Rows.rootBackRow.domain false) (Rows.rootBackSpec.post enc Try.prog Try.f5 false true false false) := by
  refine returnsInHanded_of_change (C := Try.checked) own started (by kernel_rfl) Try.func5
    (ChangeSpec.witness6 (enc := enc) (C := Try.checked) false ⟨#[], #[.agg #[.int .i64 0, .int .i64 0, .int .i64 0, .int .i64 0, .slice none 0 0, .slice none 0 0]], []⟩ 8 (by kernel_rfl) (by kernel_rfl) (by kernel_rfl) (by kernel_rfl)) ?_
  intro W base args ds gs before hval0 hW hcnd _
  have hval : ∀ (j : Nat) t v, Try.f5.params[j]? = some t → args[j]? = some v → Value.okWide Try.prog W .any base t v := hval0
  have hW' := hW
  obtain ⟨p, q, hA0, hV, rfl, hfz, hnd⟩ := hW
  have hA : DataW.TrodAll enc Try.prog W 0 (fun _ => true) true Try.f5.params.toList args.toList ds p := hA0
  rw [Try.params5] at hA hval
  obtain ⟨v0, vs0, d0, ds0, p0, q0, hargs, rfl, rfl, h0, r0⟩ := trodAll_cons hA
  obtain ⟨rfl, rfl, rfl⟩ := trodAll_nil r0
  obtain rfl : args = #[v0] := by cases args; simp_all
  obtain ⟨rfl, rfl⟩ := trodVars_none hV
  have k0 := h0
  have lt0 : ∀ x ∈ p0, x.block < W.heap.size := by obtain ⟨m, hm⟩ := k0; exact DataW.trod_lt m _ _ _ hm
  obtain ⟨r_0, ta0, tc0, ma0, mc0, rfl, w0⟩ := open_root (hval 0 24 v0 rfl rfl) h0
  clear hA0 hval0
  refine (walk r_0 ta0 ma0 tc0 mc0 W w0).mono fun e W' ⟨he, bel⟩ => ?_
  subst he
  exact ⟨_, rfl, _, _, _, [], _, [], hW', trodAll_mk1 (shut_bool Try.underlying4 _), (trodAll_cons_mk (Below.trod laidOut (by kernel_rfl) (of_decide_eq_true (by kernel_rfl)) k0 bel lt0) trodAll_mk0), rfl, bel.frame _, fun h => by cases h⟩

theorem over : Rows.rootBackRow.holds Try.pinned (OpenSpec.ofChange Rows.rootBackSpec) :=
  OpenClaim.holds_of_wide 5 Try.f5 rfl rfl rfl rfl rfl rfl rfl ⟨rfl, rfl, rfl, rfl, rfl⟩ rfl rfl rfl rfl rfl (by kernel_rfl) Try.func5 (by kernel_rfl)
    (of_decide_eq_true (by kernel_rfl)) (by unfold Func.isWrapper; first | (rw [if_pos (by decide +kernel)]; kernel_rfl) | (rw [if_neg (by decide +kernel)]; exact ⟨rfl, rfl⟩))
    (fun os started H enc _ => lifted os started H enc)
end Go.Proofs.Ytadnflaocgmfgaa.rootBack

namespace Go.Proofs.Ytadnflaocgmfgaa
theorem rootBack_holds : Rows.RootBackSaid := rootBack.over
#print axioms rootBack_holds
end Go.Proofs.Ytadnflaocgmfgaa
