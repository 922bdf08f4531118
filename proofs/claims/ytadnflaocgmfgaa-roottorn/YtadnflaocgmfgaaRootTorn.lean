/- For any two roots and any number of bytes: a block with just the first bytes of the new one over the elder one's of another epoch is the elder one's, the new one's, or none; beside a root of the epoch between both that one counts, or the new one. -/
import Derived.Test.YtadnflaocgmfgaaRows
import Derived.Test.YtadnflaocgmfgaaArg
import Derived.WalkKit
import Derived.ProofKit
import Derived.OpenShut
import Derived.ShutString
import Derived.ChangeOld
import Derived.Below
import Derived.Test.YtadnflaocgmfgaaTorn
namespace Go.Proofs.Ytadnflaocgmfgaa.rootTorn
open Go.ChangeShapes Go.WideShapes Go.ChangeAt Go.RowKit
set_option linter.unusedVariables false
set_option linter.unusedSimpArgs false
set_option maxRecDepth 20000

theorem own : ownKnob Try.prog.godebug = none := by kernel_rfl
theorem laidOut : laidOutB Try.prog = true := by kernel_rfl
theorem RX.of' {w : World} {p : Nat} {t : TypeId} {c0 c1 c2 c3 c4 c5 : Value} (h : w.heap[p]? = some (.cells #[c0, c1, c2, c3, c4, c5] t (0, 0))) : RX w p c0 c1 c2 c3 c4 c5 := by
  refine ⟨?_, ?_, ?_, ?_, ?_, ?_, ?_, ?_, ?_, ?_, ?_, ?_⟩ <;> first
    | (rw [cell_of_row _ _ _ _ _ _ h]; rfl)
    | exact frozen_of_row _ _ _ _ _ h
set_option maxHeartbeats 1600000 in
theorem walk_r (r : RD) (ta ma : Option Addr) (tc mc : Nat) (o : RD) (sa na : Option Addr) (sc nc : Nat) (t : Int) (w : World) (hr : Rt w r ta tc ma mc) (hs : Rt w o sa sc na nc) (ht : 0 ≤ t ∧ t ≤ 65535) (h : lightB r = false) :
    Calls Try.prog 6 #[rootV r ta tc ma mc, rootV o sa sc na nc, .int .u16 t] w fun e w' => e = .returned (.bool true) ∧ Below w.heap.size w w' := by
  obtain ⟨W0, hW0⟩ : ∃ W, W = (w.alloc (.cells #[.int .i64 (r).E, .int .i64 r.B, .int .i64 r.N, .int .i64 r.S, .slice ta r.T.length tc, .slice ma r.M.length mc] 24)).alloc (.cells #[.int .i64 (o).E, .int .i64 o.B, .int .i64 o.N, .int .i64 o.S, .slice sa o.T.length sc, .slice na o.M.length nc] 24) := ⟨_, rfl⟩
  have hB0 : Below w.heap.size w W0 := by rw [hW0]; exact ((Below.refl _ _).alloc (Nat.le_refl _) _).alloc (by simp) _
  have HXr : Hid (W0.heap[w.heap.size]? = some (.cells #[.int .i64 (r).E, .int .i64 r.B, .int .i64 r.N, .int .i64 r.S, .slice ta r.T.length tc, .slice ma r.M.length mc] 24 (0, 0))) := by
    rw [hW0]
    have b1 : Below (w.alloc (.cells #[.int .i64 (r).E, .int .i64 r.B, .int .i64 r.N, .int .i64 r.S, .slice ta r.T.length tc, .slice ma r.M.length mc] 24)).heap.size (w.alloc (.cells #[.int .i64 (r).E, .int .i64 r.B, .int .i64 r.N, .int .i64 r.S, .slice ta r.T.length tc, .slice ma r.M.length mc] 24)) ((w.alloc (.cells #[.int .i64 (r).E, .int .i64 r.B, .int .i64 r.N, .int .i64 r.S, .slice ta r.T.length tc, .slice ma r.M.length mc] 24)).alloc (.cells #[.int .i64 (o).E, .int .i64 o.B, .int .i64 o.N, .int .i64 o.S, .slice sa o.T.length sc, .slice na o.M.length nc] 24)) := (Below.refl _ _).alloc (Nat.le_refl _) _
    exact (b1.block _ (by simp)).trans (heap_alloc_last _ _)
  have HXs : Hid (W0.heap[w.heap.size + 1]? = some (.cells #[.int .i64 (o).E, .int .i64 o.B, .int .i64 o.N, .int .i64 o.S, .slice sa o.T.length sc, .slice na o.M.length nc] 24 (0, 0))) := by
    have h := heap_alloc_last (w.alloc (.cells #[.int .i64 (r).E, .int .i64 r.B, .int .i64 r.N, .int .i64 r.S, .slice ta r.T.length tc, .slice ma r.M.length mc] 24)) (.cells #[.int .i64 (o).E, .int .i64 o.B, .int .i64 o.N, .int .i64 o.S, .slice sa o.T.length sc, .slice na o.M.length nc] 24 (0, 0))
    rw [World.size_alloc] at h
    rw [hW0]; exact h
  have HLr : Hid (∀ W, Calls Try.prog 7 #[rootV r ta tc ma mc] W fun e w' => e = .returned (.bool (lightB r)) ∧ Below W.heap.size W w') := fun W => light_any r ta ma tc mc W
  have HLs : Hid (∀ W, Calls Try.prog 7 #[rootV o sa sc na nc] W fun e w' => e = .returned (.bool (lightB o)) ∧ Below W.heap.size W w') := fun W => light_any o sa na sc nc W
  have HA := awake_any
  rw [h] at HLr
  clear hr hs
  unfold rootV at *
  go_enter Try.func6, Try.ntmps6
  go_wp2_with fail
  rw [← hW0]
  clear hW0
  refine (HLr.out _).mono ?_
  rintro e w1 ⟨rfl, hb1⟩
  obtain ⟨x0, x1, x2, x3, x4, x5, _⟩ := RX.of' ((hb1.block _ (Array.getElem?_eq_some_iff.1 HXr.out).1).trans HXr.out)
  obtain ⟨y0, y1, y2, y3, y4, y5, _⟩ := RX.of' ((hb1.block _ (Array.getElem?_eq_some_iff.1 HXs.out).1).trans HXs.out)
  have HB1 : Hid (Below W0.heap.size W0 w1) := hb1
  clear HLr hb1
  go_wp2_with (first
    | fail
    | (go_at_call 8; refine (HA _).mono ?_; rintro e w2 ⟨rfl, hb2⟩; clear HA) | fail)
  go_ret
  have B1 := hB0.trans (HB1.out.mono hB0.size)
  exact ⟨rfl, B1.trans (hb2.mono B1.size)⟩
set_option maxHeartbeats 1600000 in
theorem walk_s (r : RD) (ta ma : Option Addr) (tc mc : Nat) (o : RD) (sa na : Option Addr) (sc nc : Nat) (t : Int) (w : World) (hr : Rt w r ta tc ma mc) (hs : Rt w o sa sc na nc) (ht : 0 ≤ t ∧ t ≤ 65535) (h : lightB r = true) (h2 : lightB o = false) :
    Calls Try.prog 6 #[rootV r ta tc ma mc, rootV o sa sc na nc, .int .u16 t] w fun e w' => e = .returned (.bool true) ∧ Below w.heap.size w w' := by
  obtain ⟨W0, hW0⟩ : ∃ W, W = (w.alloc (.cells #[.int .i64 (r).E, .int .i64 r.B, .int .i64 r.N, .int .i64 r.S, .slice ta r.T.length tc, .slice ma r.M.length mc] 24)).alloc (.cells #[.int .i64 (o).E, .int .i64 o.B, .int .i64 o.N, .int .i64 o.S, .slice sa o.T.length sc, .slice na o.M.length nc] 24) := ⟨_, rfl⟩
  have hB0 : Below w.heap.size w W0 := by rw [hW0]; exact ((Below.refl _ _).alloc (Nat.le_refl _) _).alloc (by simp) _
  have HXr : Hid (W0.heap[w.heap.size]? = some (.cells #[.int .i64 (r).E, .int .i64 r.B, .int .i64 r.N, .int .i64 r.S, .slice ta r.T.length tc, .slice ma r.M.length mc] 24 (0, 0))) := by
    rw [hW0]
    have b1 : Below (w.alloc (.cells #[.int .i64 (r).E, .int .i64 r.B, .int .i64 r.N, .int .i64 r.S, .slice ta r.T.length tc, .slice ma r.M.length mc] 24)).heap.size (w.alloc (.cells #[.int .i64 (r).E, .int .i64 r.B, .int .i64 r.N, .int .i64 r.S, .slice ta r.T.length tc, .slice ma r.M.length mc] 24)) ((w.alloc (.cells #[.int .i64 (r).E, .int .i64 r.B, .int .i64 r.N, .int .i64 r.S, .slice ta r.T.length tc, .slice ma r.M.length mc] 24)).alloc (.cells #[.int .i64 (o).E, .int .i64 o.B, .int .i64 o.N, .int .i64 o.S, .slice sa o.T.length sc, .slice na o.M.length nc] 24)) := (Below.refl _ _).alloc (Nat.le_refl _) _
    exact (b1.block _ (by simp)).trans (heap_alloc_last _ _)
  have HXs : Hid (W0.heap[w.heap.size + 1]? = some (.cells #[.int .i64 (o).E, .int .i64 o.B, .int .i64 o.N, .int .i64 o.S, .slice sa o.T.length sc, .slice na o.M.length nc] 24 (0, 0))) := by
    have h := heap_alloc_last (w.alloc (.cells #[.int .i64 (r).E, .int .i64 r.B, .int .i64 r.N, .int .i64 r.S, .slice ta r.T.length tc, .slice ma r.M.length mc] 24)) (.cells #[.int .i64 (o).E, .int .i64 o.B, .int .i64 o.N, .int .i64 o.S, .slice sa o.T.length sc, .slice na o.M.length nc] 24 (0, 0))
    rw [World.size_alloc] at h
    rw [hW0]; exact h
  have HLr : Hid (∀ W, Calls Try.prog 7 #[rootV r ta tc ma mc] W fun e w' => e = .returned (.bool (lightB r)) ∧ Below W.heap.size W w') := fun W => light_any r ta ma tc mc W
  have HLs : Hid (∀ W, Calls Try.prog 7 #[rootV o sa sc na nc] W fun e w' => e = .returned (.bool (lightB o)) ∧ Below W.heap.size W w') := fun W => light_any o sa na sc nc W
  have HA := awake_any
  rw [h] at HLr
  rw [h2] at HLs
  clear hr hs
  unfold rootV at *
  go_enter Try.func6, Try.ntmps6
  go_wp2_with fail
  rw [← hW0]
  clear hW0
  refine (HLr.out _).mono ?_
  rintro e w1 ⟨rfl, hb1⟩
  obtain ⟨x0, x1, x2, x3, x4, x5, _⟩ := RX.of' ((hb1.block _ (Array.getElem?_eq_some_iff.1 HXr.out).1).trans HXr.out)
  obtain ⟨y0, y1, y2, y3, y4, y5, _⟩ := RX.of' ((hb1.block _ (Array.getElem?_eq_some_iff.1 HXs.out).1).trans HXs.out)
  have HB1 : Hid (Below W0.heap.size W0 w1) := hb1
  clear HLr hb1
  go_wp2_with (first
    | (go_at_call 7; refine (HLs.out _).mono ?_; rintro e w3 ⟨rfl, hb3⟩; have HB3 : Hid (Below W0.heap.size W0 w3) := HB1.out.trans (hb3.mono HB1.out.size); clear HLs hb3 x0 x1 x2 x3 x4 x5 y0 y1 y2 y3 y4 y5; obtain ⟨x0, x1, x2, x3, x4, x5, _⟩ := RX.of' ((HB3.out.block _ (Array.getElem?_eq_some_iff.1 HXr.out).1).trans HXr.out); obtain ⟨y0, y1, y2, y3, y4, y5, yf0, yf1, yf2, yf3, yf4, yf5⟩ := RX.of' ((HB3.out.block _ (Array.getElem?_eq_some_iff.1 HXs.out).1).trans HXs.out))
    | (go_at_call 8; refine (HA _).mono ?_; rintro e w2 ⟨rfl, hb2⟩; clear HA) | fail)
  go_ret
  have B1 := hB0.trans (HB3.out.mono hB0.size)
  exact ⟨rfl, B1.trans (hb2.mono B1.size)⟩
set_option maxHeartbeats 1600000 in
theorem walk_lo (r : RD) (ta ma : Option Addr) (tc mc : Nat) (o : RD) (sa na : Option Addr) (sc nc : Nat) (t : Int) (w : World) (hr : Rt w r ta tc ma mc) (hs : Rt w o sa sc na nc) (ht : 0 ≤ t ∧ t ≤ 65535) (h : lightB r = true) (h2 : lightB o = true) (h3 : r.E < 2) :
    Calls Try.prog 6 #[rootV r ta tc ma mc, rootV o sa sc na nc, .int .u16 t] w fun e w' => e = .returned (.bool true) ∧ Below w.heap.size w w' := by
  obtain ⟨W0, hW0⟩ : ∃ W, W = (w.alloc (.cells #[.int .i64 (r).E, .int .i64 r.B, .int .i64 r.N, .int .i64 r.S, .slice ta r.T.length tc, .slice ma r.M.length mc] 24)).alloc (.cells #[.int .i64 (o).E, .int .i64 o.B, .int .i64 o.N, .int .i64 o.S, .slice sa o.T.length sc, .slice na o.M.length nc] 24) := ⟨_, rfl⟩
  have hB0 : Below w.heap.size w W0 := by rw [hW0]; exact ((Below.refl _ _).alloc (Nat.le_refl _) _).alloc (by simp) _
  have HXr : Hid (W0.heap[w.heap.size]? = some (.cells #[.int .i64 (r).E, .int .i64 r.B, .int .i64 r.N, .int .i64 r.S, .slice ta r.T.length tc, .slice ma r.M.length mc] 24 (0, 0))) := by
    rw [hW0]
    have b1 : Below (w.alloc (.cells #[.int .i64 (r).E, .int .i64 r.B, .int .i64 r.N, .int .i64 r.S, .slice ta r.T.length tc, .slice ma r.M.length mc] 24)).heap.size (w.alloc (.cells #[.int .i64 (r).E, .int .i64 r.B, .int .i64 r.N, .int .i64 r.S, .slice ta r.T.length tc, .slice ma r.M.length mc] 24)) ((w.alloc (.cells #[.int .i64 (r).E, .int .i64 r.B, .int .i64 r.N, .int .i64 r.S, .slice ta r.T.length tc, .slice ma r.M.length mc] 24)).alloc (.cells #[.int .i64 (o).E, .int .i64 o.B, .int .i64 o.N, .int .i64 o.S, .slice sa o.T.length sc, .slice na o.M.length nc] 24)) := (Below.refl _ _).alloc (Nat.le_refl _) _
    exact (b1.block _ (by simp)).trans (heap_alloc_last _ _)
  have HXs : Hid (W0.heap[w.heap.size + 1]? = some (.cells #[.int .i64 (o).E, .int .i64 o.B, .int .i64 o.N, .int .i64 o.S, .slice sa o.T.length sc, .slice na o.M.length nc] 24 (0, 0))) := by
    have h := heap_alloc_last (w.alloc (.cells #[.int .i64 (r).E, .int .i64 r.B, .int .i64 r.N, .int .i64 r.S, .slice ta r.T.length tc, .slice ma r.M.length mc] 24)) (.cells #[.int .i64 (o).E, .int .i64 o.B, .int .i64 o.N, .int .i64 o.S, .slice sa o.T.length sc, .slice na o.M.length nc] 24 (0, 0))
    rw [World.size_alloc] at h
    rw [hW0]; exact h
  have HLr : Hid (∀ W, Calls Try.prog 7 #[rootV r ta tc ma mc] W fun e w' => e = .returned (.bool (lightB r)) ∧ Below W.heap.size W w') := fun W => light_any r ta ma tc mc W
  have HLs : Hid (∀ W, Calls Try.prog 7 #[rootV o sa sc na nc] W fun e w' => e = .returned (.bool (lightB o)) ∧ Below W.heap.size W w') := fun W => light_any o sa na sc nc W
  have HA := awake_any
  rw [h] at HLr
  rw [h2] at HLs
  have d3 : decide (r.E < 2) = true := by simpa using h3
  clear hr hs
  unfold rootV at *
  go_enter Try.func6, Try.ntmps6
  go_wp2_with fail
  rw [← hW0]
  clear hW0
  refine (HLr.out _).mono ?_
  rintro e w1 ⟨rfl, hb1⟩
  obtain ⟨x0, x1, x2, x3, x4, x5, _⟩ := RX.of' ((hb1.block _ (Array.getElem?_eq_some_iff.1 HXr.out).1).trans HXr.out)
  obtain ⟨y0, y1, y2, y3, y4, y5, _⟩ := RX.of' ((hb1.block _ (Array.getElem?_eq_some_iff.1 HXs.out).1).trans HXs.out)
  have HB1 : Hid (Below W0.heap.size W0 w1) := hb1
  clear HLr hb1
  go_wp2_with (first
    | (go_at_call 7; refine (HLs.out _).mono ?_; rintro e w3 ⟨rfl, hb3⟩; have HB3 : Hid (Below W0.heap.size W0 w3) := HB1.out.trans (hb3.mono HB1.out.size); clear HLs hb3 x0 x1 x2 x3 x4 x5 y0 y1 y2 y3 y4 y5; obtain ⟨x0, x1, x2, x3, x4, x5, _⟩ := RX.of' ((HB3.out.block _ (Array.getElem?_eq_some_iff.1 HXr.out).1).trans HXr.out); obtain ⟨y0, y1, y2, y3, y4, y5, yf0, yf1, yf2, yf3, yf4, yf5⟩ := RX.of' ((HB3.out.block _ (Array.getElem?_eq_some_iff.1 HXs.out).1).trans HXs.out))
    | (go_at_call 8; refine (HA _).mono ?_; rintro e w2 ⟨rfl, hb2⟩; clear HA) | fail)
  go_ret
  have B1 := hB0.trans (HB3.out.mono hB0.size)
  exact ⟨rfl, B1.trans (hb2.mono B1.size)⟩
set_option maxHeartbeats 1600000 in
theorem walk_hi (r : RD) (ta ma : Option Addr) (tc mc : Nat) (o : RD) (sa na : Option Addr) (sc nc : Nat) (t : Int) (w : World) (hr : Rt w r ta tc ma mc) (hs : Rt w o sa sc na nc) (ht : 0 ≤ t ∧ t ≤ 65535) (h : lightB r = true) (h2 : lightB o = true) (h3 : ¬ r.E < 2) (h4 : 1099511627776 < r.E) :
    Calls Try.prog 6 #[rootV r ta tc ma mc, rootV o sa sc na nc, .int .u16 t] w fun e w' => e = .returned (.bool true) ∧ Below w.heap.size w w' := by
  obtain ⟨W0, hW0⟩ : ∃ W, W = (w.alloc (.cells #[.int .i64 (r).E, .int .i64 r.B, .int .i64 r.N, .int .i64 r.S, .slice ta r.T.length tc, .slice ma r.M.length mc] 24)).alloc (.cells #[.int .i64 (o).E, .int .i64 o.B, .int .i64 o.N, .int .i64 o.S, .slice sa o.T.length sc, .slice na o.M.length nc] 24) := ⟨_, rfl⟩
  have hB0 : Below w.heap.size w W0 := by rw [hW0]; exact ((Below.refl _ _).alloc (Nat.le_refl _) _).alloc (by simp) _
  have HXr : Hid (W0.heap[w.heap.size]? = some (.cells #[.int .i64 (r).E, .int .i64 r.B, .int .i64 r.N, .int .i64 r.S, .slice ta r.T.length tc, .slice ma r.M.length mc] 24 (0, 0))) := by
    rw [hW0]
    have b1 : Below (w.alloc (.cells #[.int .i64 (r).E, .int .i64 r.B, .int .i64 r.N, .int .i64 r.S, .slice ta r.T.length tc, .slice ma r.M.length mc] 24)).heap.size (w.alloc (.cells #[.int .i64 (r).E, .int .i64 r.B, .int .i64 r.N, .int .i64 r.S, .slice ta r.T.length tc, .slice ma r.M.length mc] 24)) ((w.alloc (.cells #[.int .i64 (r).E, .int .i64 r.B, .int .i64 r.N, .int .i64 r.S, .slice ta r.T.length tc, .slice ma r.M.length mc] 24)).alloc (.cells #[.int .i64 (o).E, .int .i64 o.B, .int .i64 o.N, .int .i64 o.S, .slice sa o.T.length sc, .slice na o.M.length nc] 24)) := (Below.refl _ _).alloc (Nat.le_refl _) _
    exact (b1.block _ (by simp)).trans (heap_alloc_last _ _)
  have HXs : Hid (W0.heap[w.heap.size + 1]? = some (.cells #[.int .i64 (o).E, .int .i64 o.B, .int .i64 o.N, .int .i64 o.S, .slice sa o.T.length sc, .slice na o.M.length nc] 24 (0, 0))) := by
    have h := heap_alloc_last (w.alloc (.cells #[.int .i64 (r).E, .int .i64 r.B, .int .i64 r.N, .int .i64 r.S, .slice ta r.T.length tc, .slice ma r.M.length mc] 24)) (.cells #[.int .i64 (o).E, .int .i64 o.B, .int .i64 o.N, .int .i64 o.S, .slice sa o.T.length sc, .slice na o.M.length nc] 24 (0, 0))
    rw [World.size_alloc] at h
    rw [hW0]; exact h
  have HLr : Hid (∀ W, Calls Try.prog 7 #[rootV r ta tc ma mc] W fun e w' => e = .returned (.bool (lightB r)) ∧ Below W.heap.size W w') := fun W => light_any r ta ma tc mc W
  have HLs : Hid (∀ W, Calls Try.prog 7 #[rootV o sa sc na nc] W fun e w' => e = .returned (.bool (lightB o)) ∧ Below W.heap.size W w') := fun W => light_any o sa na sc nc W
  have HA := awake_any
  rw [h] at HLr
  rw [h2] at HLs
  have d3 : decide (r.E < 2) = false := by simpa using h3
  have d4 : decide (1099511627776 < r.E) = true := by simpa using h4
  clear hr hs
  unfold rootV at *
  go_enter Try.func6, Try.ntmps6
  go_wp2_with fail
  rw [← hW0]
  clear hW0
  refine (HLr.out _).mono ?_
  rintro e w1 ⟨rfl, hb1⟩
  obtain ⟨x0, x1, x2, x3, x4, x5, _⟩ := RX.of' ((hb1.block _ (Array.getElem?_eq_some_iff.1 HXr.out).1).trans HXr.out)
  obtain ⟨y0, y1, y2, y3, y4, y5, _⟩ := RX.of' ((hb1.block _ (Array.getElem?_eq_some_iff.1 HXs.out).1).trans HXs.out)
  have HB1 : Hid (Below W0.heap.size W0 w1) := hb1
  clear HLr hb1
  go_wp2_with (first
    | (go_at_call 7; refine (HLs.out _).mono ?_; rintro e w3 ⟨rfl, hb3⟩; have HB3 : Hid (Below W0.heap.size W0 w3) := HB1.out.trans (hb3.mono HB1.out.size); clear HLs hb3 x0 x1 x2 x3 x4 x5 y0 y1 y2 y3 y4 y5; obtain ⟨x0, x1, x2, x3, x4, x5, _⟩ := RX.of' ((HB3.out.block _ (Array.getElem?_eq_some_iff.1 HXr.out).1).trans HXr.out); obtain ⟨y0, y1, y2, y3, y4, y5, yf0, yf1, yf2, yf3, yf4, yf5⟩ := RX.of' ((HB3.out.block _ (Array.getElem?_eq_some_iff.1 HXs.out).1).trans HXs.out))
    | (go_at_call 8; refine (HA _).mono ?_; rintro e w2 ⟨rfl, hb2⟩; clear HA) | fail)
  go_ret
  have B1 := hB0.trans (HB3.out.mono hB0.size)
  exact ⟨rfl, B1.trans (hb2.mono B1.size)⟩
theorem op_app_s {o : Oper} {a : Act} {K : Act → World → Prop} {Q : Exit → Act → World → Prop} {w : World} (s x : Operand)
    (ho : o.op = .call { callee := .builtin .append, args := #[s, x], argTypes := #[27, 27] }) (base : Nat) (v : Value) (zs ys : List Int) (hs : a.eval s = v) (hown : Own w base v zs)
    (ad : Addr) (m c : Nat) (hx : a.eval x = .slice (some ad) m c) (hv : BV w (some ad) ys) (hyl : ys.length = m) (hlen : zs.length + m ≤ 1000000) (hbase : base ≤ w.heap.size)
    (h : ∀ v' w', Own w' base v' (zs ++ ys) → Below base w w' → K (a.put o.dst v') w') : o.wp Try.prog a w K Q := by
  obtain ⟨i0, hi, hz0, hz1, hz2⟩ := info_parts Try.info5
  refine wp_append_own w s x 27 ho base 5 i0 (.int .u8 0) 1 1 Try.underlying27 hi hz0 hz1 hz2 rfl (by decide) v zs.length (zs.map (Value.int .u8)) hs hown ad m c (ys.map (Value.int .u8)) hx (by simp [hyl]) ?_ (u8row ys) (by unfold maxLen; omega) (by omega) hbase ?_
  · intro j u hu
    have hj : j < ys.length := by
      have := (List.getElem?_eq_some_iff.1 hu).1
      simpa using this
    obtain ⟨_, hv0 | ⟨b2, off2, e, hb2, hc2⟩⟩ := hv
    · rw [hv0] at hj; simp at hj
    · cases e
      rw [add_plain, hc2 j hj]
      rw [List.getElem?_map, List.getElem?_eq_getElem hj] at hu
      simp at hu
      rw [← hu, List.getD_eq_getElem?_getD, List.getElem?_eq_getElem hj]; rfl
  · intro v' w' h1 h2 _
    refine h v' w' ?_ ((Below.refl base w).grown h2 hbase (fun k hk => (World.ownsRow.lt hown k hk).1))
    unfold Own
    rw [List.length_append, List.map_append, hyl]
    exact h1
theorem put_gen {r : RD} {ta ma : Option Addr} {tc mc : Nat} {w : World} (hr : Rt w r ta tc ma mc) : Calls Try.prog 9 #[rootV r ta tc ma mc] w fun e w' => ∃ pa pn pc, e = .returned (.tuple #[.slice pa pn pc, .int .i64 (checkE r)]) ∧ Below w.heap.size w w' := by
  by_cases hc : checkE r = 0
  · refine (put_ans hr (ok_checkE hc)).mono ?_
    rintro e w' ⟨pa, pc, rfl, H⟩
    exact ⟨pa, 256, pc, by rw [hc], H.out.2.2.2.2⟩
  · refine (put_bad r ta ma tc mc w hr hc).mono ?_
    rintro e w' ⟨rfl, h⟩
    exact ⟨none, 0, 0, rfl, h⟩
set_option maxHeartbeats 3200000 in
theorem walk_e1 (r : RD) (ta ma : Option Addr) (tc mc : Nat) (o : RD) (sa na : Option Addr) (sc nc : Nat) (t : Int) (w : World) (hr : Rt w r ta tc ma mc) (hs : Rt w o sa sc na nc) (ht : 0 ≤ t ∧ t ≤ 65535) (h : lightB r = true) (h2 : lightB o = true) (h3 : ¬ r.E < 2) (h4 : ¬ 1099511627776 < r.E) (hbad : checkE r ≠ 0) :
    Calls Try.prog 6 #[rootV r ta tc ma mc, rootV o sa sc na nc, .int .u16 t] w fun e w' => e = .returned (.bool true) ∧ Below w.heap.size w w' := by
  obtain ⟨W0, hW0⟩ : ∃ W, W = (w.alloc (.cells #[.int .i64 (r).E, .int .i64 r.B, .int .i64 r.N, .int .i64 r.S, .slice ta r.T.length tc, .slice ma r.M.length mc] 24)).alloc (.cells #[.int .i64 (o).E, .int .i64 o.B, .int .i64 o.N, .int .i64 o.S, .slice sa o.T.length sc, .slice na o.M.length nc] 24) := ⟨_, rfl⟩
  have hB0 : Below w.heap.size w W0 := by rw [hW0]; exact ((Below.refl _ _).alloc (Nat.le_refl _) _).alloc (by simp) _
  have HXr : Hid (W0.heap[w.heap.size]? = some (.cells #[.int .i64 (r).E, .int .i64 r.B, .int .i64 r.N, .int .i64 r.S, .slice ta r.T.length tc, .slice ma r.M.length mc] 24 (0, 0))) := by
    rw [hW0]
    have b1 : Below (w.alloc (.cells #[.int .i64 (r).E, .int .i64 r.B, .int .i64 r.N, .int .i64 r.S, .slice ta r.T.length tc, .slice ma r.M.length mc] 24)).heap.size (w.alloc (.cells #[.int .i64 (r).E, .int .i64 r.B, .int .i64 r.N, .int .i64 r.S, .slice ta r.T.length tc, .slice ma r.M.length mc] 24)) ((w.alloc (.cells #[.int .i64 (r).E, .int .i64 r.B, .int .i64 r.N, .int .i64 r.S, .slice ta r.T.length tc, .slice ma r.M.length mc] 24)).alloc (.cells #[.int .i64 (o).E, .int .i64 o.B, .int .i64 o.N, .int .i64 o.S, .slice sa o.T.length sc, .slice na o.M.length nc] 24)) := (Below.refl _ _).alloc (Nat.le_refl _) _
    exact (b1.block _ (by simp)).trans (heap_alloc_last _ _)
  have HXs : Hid (W0.heap[w.heap.size + 1]? = some (.cells #[.int .i64 (o).E, .int .i64 o.B, .int .i64 o.N, .int .i64 o.S, .slice sa o.T.length sc, .slice na o.M.length nc] 24 (0, 0))) := by
    have h := heap_alloc_last (w.alloc (.cells #[.int .i64 (r).E, .int .i64 r.B, .int .i64 r.N, .int .i64 r.S, .slice ta r.T.length tc, .slice ma r.M.length mc] 24)) (.cells #[.int .i64 (o).E, .int .i64 o.B, .int .i64 o.N, .int .i64 o.S, .slice sa o.T.length sc, .slice na o.M.length nc] 24 (0, 0))
    rw [World.size_alloc] at h
    rw [hW0]; exact h
  have HLr : Hid (∀ W, Calls Try.prog 7 #[rootV r ta tc ma mc] W fun e w' => e = .returned (.bool (lightB r)) ∧ Below W.heap.size W w') := fun W => light_any r ta ma tc mc W
  have HLs : Hid (∀ W, Calls Try.prog 7 #[rootV o sa sc na nc] W fun e w' => e = .returned (.bool (lightB o)) ∧ Below W.heap.size W w') := fun W => light_any o sa na sc nc W
  have HA := awake_any
  rw [h] at HLr
  rw [h2] at HLs
  have d3 : decide (r.E < 2) = false := by simpa using h3
  have d4 : decide (1099511627776 < r.E) = false := by simpa using h4
  have hw2 : wrap64 (r.E - 2) = r.E - 2 := by unfold wrap64; omega
  have hw1 : wrap64 (r.E - 1) = r.E - 1 := by unfold wrap64; omega
  have HRr : Hid (Rt w r ta tc ma mc) := hr
  have HRo : Hid (Rt w { o with E := r.E - 2 } sa sc na nc) := ⟨hs.t, hs.m, hs.tn, hs.mn, hs.tl, hs.ml, hs.th, hs.mh⟩
  have HRm : Hid (Rt w { r with E := r.E - 1 } ta tc ma mc) := ⟨hr.t, hr.m, hr.tn, hr.mn, hr.tl, hr.ml, hr.th, hr.mh⟩
  have P1 : Hid (∀ W, Below w.heap.size w W → Calls Try.prog 9 #[rootV r ta tc ma mc] W fun e w' => e = .returned (.tuple #[.slice none 0 0, .int .i64 (checkE r)]) ∧ Below W.heap.size W w') := fun W hW => put_bad r _ _ _ _ W (HRr.out.below hW) hbad
  have P2 : Hid (∀ W, Below w.heap.size w W → Calls Try.prog 9 #[rootV { o with E := r.E - 2 } sa sc na nc] W fun e w' => ∃ pa pn pc, e = .returned (.tuple #[.slice pa pn pc, .int .i64 (checkE { o with E := r.E - 2 })]) ∧ Below W.heap.size W w') := fun W hW => put_gen (HRo.out.below hW)
  have P3 : Hid (∀ W, Below w.heap.size w W → Calls Try.prog 9 #[rootV { r with E := r.E - 1 } ta tc ma mc] W fun e w' => ∃ pa pn pc, e = .returned (.tuple #[.slice pa pn pc, .int .i64 (checkE { r with E := r.E - 1 })]) ∧ Below W.heap.size W w') := fun W hW => put_gen (HRm.out.below hW)
  have hce : (checkE r == 0) = false := by simpa using hbad
  generalize checkE r = ce at *
  generalize checkE { o with E := r.E - 2 } = co at *
  generalize checkE { r with E := r.E - 1 } = cm at *
  clear hr hs HRr HRo HRm
  unfold rootV at *
  go_enter Try.func6, Try.ntmps6
  go_wp2_with fail
  rw [← hW0]
  clear hW0
  refine (HLr.out _).mono ?_
  rintro e w1 ⟨rfl, hb1⟩
  obtain ⟨x0, x1, x2, x3, x4, x5, _⟩ := RX.of' ((hb1.block _ (Array.getElem?_eq_some_iff.1 HXr.out).1).trans HXr.out)
  obtain ⟨y0, y1, y2, y3, y4, y5, _⟩ := RX.of' ((hb1.block _ (Array.getElem?_eq_some_iff.1 HXs.out).1).trans HXs.out)
  have HB1 : Hid (Below W0.heap.size W0 w1) := hb1
  clear HLr hb1
  go_wp2_with (first
    | (go_at_call 7; refine (HLs.out _).mono ?_; rintro e w3 ⟨rfl, hb3⟩; have HB3 : Hid (Below W0.heap.size W0 w3) := HB1.out.trans (hb3.mono HB1.out.size); clear HLs hb3 x0 x1 x2 x3 x4 x5 y0 y1 y2 y3 y4 y5; obtain ⟨x0, x1, x2, x3, x4, x5, _⟩ := RX.of' ((HB3.out.block _ (Array.getElem?_eq_some_iff.1 HXr.out).1).trans HXr.out); obtain ⟨y0, y1, y2, y3, y4, y5, yf0, yf1, yf2, yf3, yf4, yf5⟩ := RX.of' ((HB3.out.block _ (Array.getElem?_eq_some_iff.1 HXs.out).1).trans HXs.out))
    | fail)
  obtain ⟨V3, hV3⟩ : ∃ V, V = w3.setCell ⟨w.heap.size + 1, 0, none⟩ (.int .i64 (r.E - 2)) := ⟨_, rfl⟩
  rw [← hV3]
  have BV3 : Hid (Below w.heap.size w V3) := by rw [hV3]; exact (hB0.trans (HB3.out.mono hB0.size)).setCell (show w.heap.size ≤ (⟨w.heap.size + 1, 0, none⟩ : Addr).block from Nat.le_succ _) _
  have Xr3 : Hid (V3.heap[w.heap.size]? = some (.cells #[.int .i64 (r).E, .int .i64 r.B, .int .i64 r.N, .int .i64 r.S, .slice ta r.T.length tc, .slice ma r.M.length mc] 24 (0, 0))) := by rw [hV3]; exact (heap_setCell_other _ ⟨w.heap.size + 1, 0, none⟩ _ _ (by show w.heap.size ≠ w.heap.size + 1; omega)).trans ((HB3.out.block _ (Array.getElem?_eq_some_iff.1 HXr.out).1).trans HXr.out)
  have Xo3 : Hid (V3.heap[w.heap.size + 1]? = some (.cells #[.int .i64 (r.E - 2), .int .i64 o.B, .int .i64 o.N, .int .i64 o.S, .slice sa o.T.length sc, .slice na o.M.length nc] 24 (0, 0))) := by rw [hV3]; exact heap_setCell_same w3 (w.heap.size + 1) 0 _ 24 _ ((HB3.out.block _ (Array.getElem?_eq_some_iff.1 HXs.out).1).trans HXs.out)
  clear hV3 x0 x1 x2 x3 x4 x5 y0 y1 y2 y3 y4 y5 yf0 yf1 yf2 yf3 yf4 yf5 HXr HXs HB1 HB3 hB0
  refine (P1.out V3 BV3.out).mono ?_
  rintro e w4 ⟨rfl, hbw4⟩
  have S4 : Hid (Below V3.heap.size V3 w4) := hbw4
  have B4 : Hid (Below w.heap.size w w4) := BV3.out.trans (hbw4.mono BV3.out.size)
  obtain ⟨x0, x1, x2, x3, x4, x5, _⟩ := RX.of' ((hbw4.block _ (Array.getElem?_eq_some_iff.1 Xr3.out).1).trans Xr3.out)
  obtain ⟨y0, y1, y2, y3, y4, y5, _⟩ := RX.of' ((hbw4.block _ (Array.getElem?_eq_some_iff.1 Xo3.out).1).trans Xo3.out)
  clear P1
  go_wp2_with fail
  refine (P2.out w4 B4.out).mono ?_
  rintro e w5 ⟨p2a, p2n, p2c, rfl, hbw5⟩
  have S5 : Hid (Below V3.heap.size V3 w5) := S4.out.trans (hbw5.mono S4.out.size)
  clear P2 x0 x1 x2 x3 x4 x5 y0 y1 y2 y3 y4 y5
  obtain ⟨x0, x1, x2, x3, x4, x5, _⟩ := RX.of' ((S5.out.block _ (Array.getElem?_eq_some_iff.1 Xr3.out).1).trans Xr3.out)
  have hlt5 : w.heap.size < w5.heap.size := Nat.lt_of_lt_of_le (Array.getElem?_eq_some_iff.1 Xr3.out).1 S5.out.size
  have z0 : (w5.alloc (.cells #[.int .i64 (r).E, .int .i64 r.B, .int .i64 r.N, .int .i64 r.S, .slice ta r.T.length tc, .slice ma r.M.length mc] 24)).cell? ⟨w.heap.size, 0, none⟩ = some (.int .i64 r.E) := (((Below.refl w5.heap.size w5).alloc (Nat.le_refl _) (.cells #[.int .i64 (r).E, .int .i64 r.B, .int .i64 r.N, .int .i64 r.S, .slice ta r.T.length tc, .slice ma r.M.length mc] 24)).cell (p := ⟨w.heap.size, 0, none⟩) hlt5).trans x0
  go_wp2_with fail
  clear z0
  obtain ⟨V5, hV5⟩ : ∃ V, V = w5.alloc (.cells #[.int .i64 (r.E - 1), .int .i64 r.B, .int .i64 r.N, .int .i64 r.S, .slice ta r.T.length tc, .slice ma r.M.length mc] 24) := ⟨_, rfl⟩
  rw [← hV5]
  have hb5V : Below w5.heap.size w5 V5 := by rw [hV5]; exact (Below.refl _ _).alloc (Nat.le_refl _) _
  have Xm5 : Hid (V5.heap[w5.heap.size]? = some (.cells #[.int .i64 (r.E - 1), .int .i64 r.B, .int .i64 r.N, .int .i64 r.S, .slice ta r.T.length tc, .slice ma r.M.length mc] 24 (0, 0))) := by rw [hV5]; exact heap_alloc_last _ _
  have SV5 : Hid (Below V3.heap.size V3 V5) := S5.out.trans (hb5V.mono S5.out.size)
  have BV5 : Hid (Below w.heap.size w V5) := BV3.out.trans (SV5.out.mono BV3.out.size)
  refine (P3.out V5 BV5.out).mono ?_
  rintro e w6 ⟨p3a, p3n, p3c, rfl, hbw6⟩
  have S6 : Hid (Below V3.heap.size V3 w6) := SV5.out.trans (hbw6.mono SV5.out.size)
  have B6 : Hid (Below w.heap.size w w6) := BV3.out.trans (S6.out.mono BV3.out.size)
  have Xm6 : Hid (w6.heap[w5.heap.size]? = some (.cells #[.int .i64 (r.E - 1), .int .i64 r.B, .int .i64 r.N, .int .i64 r.S, .slice ta r.T.length tc, .slice ma r.M.length mc] 24 (0, 0))) := (hbw6.block _ (Array.getElem?_eq_some_iff.1 Xm5.out).1).trans Xm5.out
  have HZ5 : Hid (V3.heap.size ≤ w5.heap.size) := S5.out.size
  clear P3 x0 x1 x2 x3 x4 x5 hV5
  go_wp2_with (first | (go_at_call 8; refine (HA _).mono ?_; rintro e w7 ⟨rfl, hb7⟩; clear HA) | fail)
  go_ret
  exact ⟨rfl, B6.out.trans (hb7.mono B6.out.size)⟩
set_option maxHeartbeats 3200000 in
theorem walk_e2 (r : RD) (ta ma : Option Addr) (tc mc : Nat) (o : RD) (sa na : Option Addr) (sc nc : Nat) (t : Int) (w : World) (hr : Rt w r ta tc ma mc) (hs : Rt w o sa sc na nc) (ht : 0 ≤ t ∧ t ≤ 65535) (h : lightB r = true) (h2 : lightB o = true) (h3 : ¬ r.E < 2) (h4 : ¬ 1099511627776 < r.E) (hok1 : r.Ok) (hbad : checkE { o with E := r.E - 2 } ≠ 0) :
    Calls Try.prog 6 #[rootV r ta tc ma mc, rootV o sa sc na nc, .int .u16 t] w fun e w' => e = .returned (.bool true) ∧ Below w.heap.size w w' := by
  obtain ⟨W0, hW0⟩ : ∃ W, W = (w.alloc (.cells #[.int .i64 (r).E, .int .i64 r.B, .int .i64 r.N, .int .i64 r.S, .slice ta r.T.length tc, .slice ma r.M.length mc] 24)).alloc (.cells #[.int .i64 (o).E, .int .i64 o.B, .int .i64 o.N, .int .i64 o.S, .slice sa o.T.length sc, .slice na o.M.length nc] 24) := ⟨_, rfl⟩
  have hB0 : Below w.heap.size w W0 := by rw [hW0]; exact ((Below.refl _ _).alloc (Nat.le_refl _) _).alloc (by simp) _
  have HXr : Hid (W0.heap[w.heap.size]? = some (.cells #[.int .i64 (r).E, .int .i64 r.B, .int .i64 r.N, .int .i64 r.S, .slice ta r.T.length tc, .slice ma r.M.length mc] 24 (0, 0))) := by
    rw [hW0]
    have b1 : Below (w.alloc (.cells #[.int .i64 (r).E, .int .i64 r.B, .int .i64 r.N, .int .i64 r.S, .slice ta r.T.length tc, .slice ma r.M.length mc] 24)).heap.size (w.alloc (.cells #[.int .i64 (r).E, .int .i64 r.B, .int .i64 r.N, .int .i64 r.S, .slice ta r.T.length tc, .slice ma r.M.length mc] 24)) ((w.alloc (.cells #[.int .i64 (r).E, .int .i64 r.B, .int .i64 r.N, .int .i64 r.S, .slice ta r.T.length tc, .slice ma r.M.length mc] 24)).alloc (.cells #[.int .i64 (o).E, .int .i64 o.B, .int .i64 o.N, .int .i64 o.S, .slice sa o.T.length sc, .slice na o.M.length nc] 24)) := (Below.refl _ _).alloc (Nat.le_refl _) _
    exact (b1.block _ (by simp)).trans (heap_alloc_last _ _)
  have HXs : Hid (W0.heap[w.heap.size + 1]? = some (.cells #[.int .i64 (o).E, .int .i64 o.B, .int .i64 o.N, .int .i64 o.S, .slice sa o.T.length sc, .slice na o.M.length nc] 24 (0, 0))) := by
    have h := heap_alloc_last (w.alloc (.cells #[.int .i64 (r).E, .int .i64 r.B, .int .i64 r.N, .int .i64 r.S, .slice ta r.T.length tc, .slice ma r.M.length mc] 24)) (.cells #[.int .i64 (o).E, .int .i64 o.B, .int .i64 o.N, .int .i64 o.S, .slice sa o.T.length sc, .slice na o.M.length nc] 24 (0, 0))
    rw [World.size_alloc] at h
    rw [hW0]; exact h
  have HLr : Hid (∀ W, Calls Try.prog 7 #[rootV r ta tc ma mc] W fun e w' => e = .returned (.bool (lightB r)) ∧ Below W.heap.size W w') := fun W => light_any r ta ma tc mc W
  have HLs : Hid (∀ W, Calls Try.prog 7 #[rootV o sa sc na nc] W fun e w' => e = .returned (.bool (lightB o)) ∧ Below W.heap.size W w') := fun W => light_any o sa na sc nc W
  have HA := awake_any
  rw [h] at HLr
  rw [h2] at HLs
  have d3 : decide (r.E < 2) = false := by simpa using h3
  have d4 : decide (1099511627776 < r.E) = false := by simpa using h4
  have hw2 : wrap64 (r.E - 2) = r.E - 2 := by unfold wrap64; omega
  have hw1 : wrap64 (r.E - 1) = r.E - 1 := by unfold wrap64; omega
  have HRr : Hid (Rt w r ta tc ma mc) := hr
  have HRo : Hid (Rt w { o with E := r.E - 2 } sa sc na nc) := ⟨hs.t, hs.m, hs.tn, hs.mn, hs.tl, hs.ml, hs.th, hs.mh⟩
  have HRm : Hid (Rt w { r with E := r.E - 1 } ta tc ma mc) := ⟨hr.t, hr.m, hr.tn, hr.mn, hr.tl, hr.ml, hr.th, hr.mh⟩
  have P1 : Hid (∀ W, Below w.heap.size w W → Calls Try.prog 9 #[rootV r ta tc ma mc] W fun e w' => ∃ pa pc, e = .returned (.tuple #[.slice pa 256 pc, .int .i64 0]) ∧ Hid (BV w' pa (putS r) ∧ (pa = none → pc = 0) ∧ 256 ≤ pc ∧ pc ≤ 9223372036854775807 ∧ Below W.heap.size W w')) := fun W hW => put_ans (HRr.out.below hW) hok1
  have P2 : Hid (∀ W, Below w.heap.size w W → Calls Try.prog 9 #[rootV { o with E := r.E - 2 } sa sc na nc] W fun e w' => e = .returned (.tuple #[.slice none 0 0, .int .i64 (checkE { o with E := r.E - 2 })]) ∧ Below W.heap.size W w') := fun W hW => put_bad { o with E := r.E - 2 } _ _ _ _ W (HRo.out.below hW) hbad
  have P3 : Hid (∀ W, Below w.heap.size w W → Calls Try.prog 9 #[rootV { r with E := r.E - 1 } ta tc ma mc] W fun e w' => ∃ pa pn pc, e = .returned (.tuple #[.slice pa pn pc, .int .i64 (checkE { r with E := r.E - 1 })]) ∧ Below W.heap.size W w') := fun W hW => put_gen (HRm.out.below hW)
  have hce : (checkE { o with E := r.E - 2 } == 0) = false := by simpa using hbad
  generalize putS r = za at *
  generalize checkE { o with E := r.E - 2 } = co at *
  generalize checkE { r with E := r.E - 1 } = cm at *
  clear hr hs HRr HRo HRm
  unfold rootV at *
  go_enter Try.func6, Try.ntmps6
  go_wp2_with fail
  rw [← hW0]
  clear hW0
  refine (HLr.out _).mono ?_
  rintro e w1 ⟨rfl, hb1⟩
  obtain ⟨x0, x1, x2, x3, x4, x5, _⟩ := RX.of' ((hb1.block _ (Array.getElem?_eq_some_iff.1 HXr.out).1).trans HXr.out)
  obtain ⟨y0, y1, y2, y3, y4, y5, _⟩ := RX.of' ((hb1.block _ (Array.getElem?_eq_some_iff.1 HXs.out).1).trans HXs.out)
  have HB1 : Hid (Below W0.heap.size W0 w1) := hb1
  clear HLr hb1
  go_wp2_with (first
    | (go_at_call 7; refine (HLs.out _).mono ?_; rintro e w3 ⟨rfl, hb3⟩; have HB3 : Hid (Below W0.heap.size W0 w3) := HB1.out.trans (hb3.mono HB1.out.size); clear HLs hb3 x0 x1 x2 x3 x4 x5 y0 y1 y2 y3 y4 y5; obtain ⟨x0, x1, x2, x3, x4, x5, _⟩ := RX.of' ((HB3.out.block _ (Array.getElem?_eq_some_iff.1 HXr.out).1).trans HXr.out); obtain ⟨y0, y1, y2, y3, y4, y5, yf0, yf1, yf2, yf3, yf4, yf5⟩ := RX.of' ((HB3.out.block _ (Array.getElem?_eq_some_iff.1 HXs.out).1).trans HXs.out))
    | fail)
  obtain ⟨V3, hV3⟩ : ∃ V, V = w3.setCell ⟨w.heap.size + 1, 0, none⟩ (.int .i64 (r.E - 2)) := ⟨_, rfl⟩
  rw [← hV3]
  have BV3 : Hid (Below w.heap.size w V3) := by rw [hV3]; exact (hB0.trans (HB3.out.mono hB0.size)).setCell (show w.heap.size ≤ (⟨w.heap.size + 1, 0, none⟩ : Addr).block from Nat.le_succ _) _
  have Xr3 : Hid (V3.heap[w.heap.size]? = some (.cells #[.int .i64 (r).E, .int .i64 r.B, .int .i64 r.N, .int .i64 r.S, .slice ta r.T.length tc, .slice ma r.M.length mc] 24 (0, 0))) := by rw [hV3]; exact (heap_setCell_other _ ⟨w.heap.size + 1, 0, none⟩ _ _ (by show w.heap.size ≠ w.heap.size + 1; omega)).trans ((HB3.out.block _ (Array.getElem?_eq_some_iff.1 HXr.out).1).trans HXr.out)
  have Xo3 : Hid (V3.heap[w.heap.size + 1]? = some (.cells #[.int .i64 (r.E - 2), .int .i64 o.B, .int .i64 o.N, .int .i64 o.S, .slice sa o.T.length sc, .slice na o.M.length nc] 24 (0, 0))) := by rw [hV3]; exact heap_setCell_same w3 (w.heap.size + 1) 0 _ 24 _ ((HB3.out.block _ (Array.getElem?_eq_some_iff.1 HXs.out).1).trans HXs.out)
  clear hV3 x0 x1 x2 x3 x4 x5 y0 y1 y2 y3 y4 y5 yf0 yf1 yf2 yf3 yf4 yf5 HXr HXs HB1 HB3 hB0
  refine (P1.out V3 BV3.out).mono ?_
  rintro e w4 ⟨p1a, p1c, rfl, H1⟩
  have hbw4 := H1.out.2.2.2.2
  have S4 : Hid (Below V3.heap.size V3 w4) := hbw4
  have B4 : Hid (Below w.heap.size w w4) := BV3.out.trans (hbw4.mono BV3.out.size)
  obtain ⟨x0, x1, x2, x3, x4, x5, _⟩ := RX.of' ((hbw4.block _ (Array.getElem?_eq_some_iff.1 Xr3.out).1).trans Xr3.out)
  obtain ⟨y0, y1, y2, y3, y4, y5, _⟩ := RX.of' ((hbw4.block _ (Array.getElem?_eq_some_iff.1 Xo3.out).1).trans Xo3.out)
  clear P1
  go_wp2_with fail
  refine (P2.out w4 B4.out).mono ?_
  rintro e w5 ⟨rfl, hbw5⟩
  have S5 : Hid (Below V3.heap.size V3 w5) := S4.out.trans (hbw5.mono S4.out.size)
  clear P2 x0 x1 x2 x3 x4 x5 y0 y1 y2 y3 y4 y5
  obtain ⟨x0, x1, x2, x3, x4, x5, _⟩ := RX.of' ((S5.out.block _ (Array.getElem?_eq_some_iff.1 Xr3.out).1).trans Xr3.out)
  have hlt5 : w.heap.size < w5.heap.size := Nat.lt_of_lt_of_le (Array.getElem?_eq_some_iff.1 Xr3.out).1 S5.out.size
  have z0 : (w5.alloc (.cells #[.int .i64 (r).E, .int .i64 r.B, .int .i64 r.N, .int .i64 r.S, .slice ta r.T.length tc, .slice ma r.M.length mc] 24)).cell? ⟨w.heap.size, 0, none⟩ = some (.int .i64 r.E) := (((Below.refl w5.heap.size w5).alloc (Nat.le_refl _) (.cells #[.int .i64 (r).E, .int .i64 r.B, .int .i64 r.N, .int .i64 r.S, .slice ta r.T.length tc, .slice ma r.M.length mc] 24)).cell (p := ⟨w.heap.size, 0, none⟩) hlt5).trans x0
  go_wp2_with fail
  clear z0
  obtain ⟨V5, hV5⟩ : ∃ V, V = w5.alloc (.cells #[.int .i64 (r.E - 1), .int .i64 r.B, .int .i64 r.N, .int .i64 r.S, .slice ta r.T.length tc, .slice ma r.M.length mc] 24) := ⟨_, rfl⟩
  rw [← hV5]
  have hb5V : Below w5.heap.size w5 V5 := by rw [hV5]; exact (Below.refl _ _).alloc (Nat.le_refl _) _
  have Xm5 : Hid (V5.heap[w5.heap.size]? = some (.cells #[.int .i64 (r.E - 1), .int .i64 r.B, .int .i64 r.N, .int .i64 r.S, .slice ta r.T.length tc, .slice ma r.M.length mc] 24 (0, 0))) := by rw [hV5]; exact heap_alloc_last _ _
  have SV5 : Hid (Below V3.heap.size V3 V5) := S5.out.trans (hb5V.mono S5.out.size)
  have BV5 : Hid (Below w.heap.size w V5) := BV3.out.trans (SV5.out.mono BV3.out.size)
  refine (P3.out V5 BV5.out).mono ?_
  rintro e w6 ⟨p3a, p3n, p3c, rfl, hbw6⟩
  have S6 : Hid (Below V3.heap.size V3 w6) := SV5.out.trans (hbw6.mono SV5.out.size)
  have B6 : Hid (Below w.heap.size w w6) := BV3.out.trans (S6.out.mono BV3.out.size)
  have Xm6 : Hid (w6.heap[w5.heap.size]? = some (.cells #[.int .i64 (r.E - 1), .int .i64 r.B, .int .i64 r.N, .int .i64 r.S, .slice ta r.T.length tc, .slice ma r.M.length mc] 24 (0, 0))) := (hbw6.block _ (Array.getElem?_eq_some_iff.1 Xm5.out).1).trans Xm5.out
  have HZ5 : Hid (V3.heap.size ≤ w5.heap.size) := S5.out.size
  clear P3 x0 x1 x2 x3 x4 x5 hV5
  go_wp2_with (first | (go_at_call 8; refine (HA _).mono ?_; rintro e w7 ⟨rfl, hb7⟩; clear HA) | fail)
  go_ret
  exact ⟨rfl, B6.out.trans (hb7.mono B6.out.size)⟩
set_option maxHeartbeats 3200000 in
theorem walk_e3 (r : RD) (ta ma : Option Addr) (tc mc : Nat) (o : RD) (sa na : Option Addr) (sc nc : Nat) (t : Int) (w : World) (hr : Rt w r ta tc ma mc) (hs : Rt w o sa sc na nc) (ht : 0 ≤ t ∧ t ≤ 65535) (h : lightB r = true) (h2 : lightB o = true) (h3 : ¬ r.E < 2) (h4 : ¬ 1099511627776 < r.E) (hok1 : r.Ok) (hok2 : RD.Ok { o with E := r.E - 2 }) (hok3 : RD.Ok { r with E := r.E - 1 }) :
    Calls Try.prog 6 #[rootV r ta tc ma mc, rootV o sa sc na nc, .int .u16 t] w fun e w' => e = .returned (.bool true) ∧ Below w.heap.size w w' := by
  obtain ⟨W0, hW0⟩ : ∃ W, W = (w.alloc (.cells #[.int .i64 (r).E, .int .i64 r.B, .int .i64 r.N, .int .i64 r.S, .slice ta r.T.length tc, .slice ma r.M.length mc] 24)).alloc (.cells #[.int .i64 (o).E, .int .i64 o.B, .int .i64 o.N, .int .i64 o.S, .slice sa o.T.length sc, .slice na o.M.length nc] 24) := ⟨_, rfl⟩
  have hB0 : Below w.heap.size w W0 := by rw [hW0]; exact ((Below.refl _ _).alloc (Nat.le_refl _) _).alloc (by simp) _
  have HXr : Hid (W0.heap[w.heap.size]? = some (.cells #[.int .i64 (r).E, .int .i64 r.B, .int .i64 r.N, .int .i64 r.S, .slice ta r.T.length tc, .slice ma r.M.length mc] 24 (0, 0))) := by
    rw [hW0]
    have b1 : Below (w.alloc (.cells #[.int .i64 (r).E, .int .i64 r.B, .int .i64 r.N, .int .i64 r.S, .slice ta r.T.length tc, .slice ma r.M.length mc] 24)).heap.size (w.alloc (.cells #[.int .i64 (r).E, .int .i64 r.B, .int .i64 r.N, .int .i64 r.S, .slice ta r.T.length tc, .slice ma r.M.length mc] 24)) ((w.alloc (.cells #[.int .i64 (r).E, .int .i64 r.B, .int .i64 r.N, .int .i64 r.S, .slice ta r.T.length tc, .slice ma r.M.length mc] 24)).alloc (.cells #[.int .i64 (o).E, .int .i64 o.B, .int .i64 o.N, .int .i64 o.S, .slice sa o.T.length sc, .slice na o.M.length nc] 24)) := (Below.refl _ _).alloc (Nat.le_refl _) _
    exact (b1.block _ (by simp)).trans (heap_alloc_last _ _)
  have HXs : Hid (W0.heap[w.heap.size + 1]? = some (.cells #[.int .i64 (o).E, .int .i64 o.B, .int .i64 o.N, .int .i64 o.S, .slice sa o.T.length sc, .slice na o.M.length nc] 24 (0, 0))) := by
    have h := heap_alloc_last (w.alloc (.cells #[.int .i64 (r).E, .int .i64 r.B, .int .i64 r.N, .int .i64 r.S, .slice ta r.T.length tc, .slice ma r.M.length mc] 24)) (.cells #[.int .i64 (o).E, .int .i64 o.B, .int .i64 o.N, .int .i64 o.S, .slice sa o.T.length sc, .slice na o.M.length nc] 24 (0, 0))
    rw [World.size_alloc] at h
    rw [hW0]; exact h
  have HLr : Hid (∀ W, Calls Try.prog 7 #[rootV r ta tc ma mc] W fun e w' => e = .returned (.bool (lightB r)) ∧ Below W.heap.size W w') := fun W => light_any r ta ma tc mc W
  have HLs : Hid (∀ W, Calls Try.prog 7 #[rootV o sa sc na nc] W fun e w' => e = .returned (.bool (lightB o)) ∧ Below W.heap.size W w') := fun W => light_any o sa na sc nc W
  have HA := awake_any
  rw [h] at HLr
  rw [h2] at HLs
  have d3 : decide (r.E < 2) = false := by simpa using h3
  have d4 : decide (1099511627776 < r.E) = false := by simpa using h4
  have hw2 : wrap64 (r.E - 2) = r.E - 2 := by unfold wrap64; omega
  have hw1 : wrap64 (r.E - 1) = r.E - 1 := by unfold wrap64; omega
  have HRr : Hid (Rt w r ta tc ma mc) := hr
  have HRo : Hid (Rt w { o with E := r.E - 2 } sa sc na nc) := ⟨hs.t, hs.m, hs.tn, hs.mn, hs.tl, hs.ml, hs.th, hs.mh⟩
  have HRm : Hid (Rt w { r with E := r.E - 1 } ta tc ma mc) := ⟨hr.t, hr.m, hr.tn, hr.mn, hr.tl, hr.ml, hr.th, hr.mh⟩
  have P1 : Hid (∀ W, Below w.heap.size w W → Calls Try.prog 9 #[rootV r ta tc ma mc] W fun e w' => ∃ pa pc, e = .returned (.tuple #[.slice pa 256 pc, .int .i64 0]) ∧ Hid (BV w' pa (putS r) ∧ (pa = none → pc = 0) ∧ 256 ≤ pc ∧ pc ≤ 9223372036854775807 ∧ Below W.heap.size W w')) := fun W hW => put_ans (HRr.out.below hW) hok1
  have P2 : Hid (∀ W, Below w.heap.size w W → Calls Try.prog 9 #[rootV { o with E := r.E - 2 } sa sc na nc] W fun e w' => ∃ pa pc, e = .returned (.tuple #[.slice pa 256 pc, .int .i64 0]) ∧ Hid (BV w' pa (putS { o with E := r.E - 2 }) ∧ (pa = none → pc = 0) ∧ 256 ≤ pc ∧ pc ≤ 9223372036854775807 ∧ Below W.heap.size W w')) := fun W hW => put_ans (HRo.out.below hW) hok2
  have P3 : Hid (∀ W, Below w.heap.size w W → Calls Try.prog 9 #[rootV { r with E := r.E - 1 } ta tc ma mc] W fun e w' => ∃ pa pc, e = .returned (.tuple #[.slice pa 256 pc, .int .i64 0]) ∧ Hid (BV w' pa (putS { r with E := r.E - 1 }) ∧ (pa = none → pc = 0) ∧ 256 ≤ pc ∧ pc ≤ 9223372036854775807 ∧ Below W.heap.size W w')) := fun W hW => put_ans (HRm.out.below hW) hok3
  have HTI : Hid (∀ k, k ≤ 256 → (getS ((putS r).take k ++ (putS { o with E := r.E - 2 }).drop k)).2 = 0 → (getS ((putS r).take k ++ (putS { o with E := r.E - 2 }).drop k)).1 = r ∨ (getS ((putS r).take k ++ (putS { o with E := r.E - 2 }).drop k)).1 = { o with E := r.E - 2 }) := fun k hk hg => torn_is hok1 hok2 (by show r.E ≠ r.E - 2; omega) k hk hg
  have HLA : Hid ((putS r).length = 256 ∧ (putS { o with E := r.E - 2 }).length = 256 ∧ (putS { r with E := r.E - 1 }).length = 256 ∧ AllB (putS r) ∧ AllB (putS { o with E := r.E - 2 })) := ⟨put_len hok1, put_len hok2, put_len hok3, put_all _, put_all _⟩
  have HGC : Hid (getS (putS { r with E := r.E - 1 }) = ({ r with E := r.E - 1 }, 0)) := get_put hok3
  have HRR : Hid (Rt w r ta tc ma mc ∧ Rt w { o with E := r.E - 2 } sa sc na nc ∧ Rt w { r with E := r.E - 1 } ta tc ma mc) := ⟨HRr.out, HRo.out, HRm.out⟩
  generalize putS r = za at *
  generalize putS { o with E := r.E - 2 } = zb at *
  generalize putS { r with E := r.E - 1 } = zc at *
  clear hr hs HRr HRo HRm
  unfold rootV at *
  go_enter Try.func6, Try.ntmps6
  go_wp2_with fail
  rw [← hW0]
  clear hW0
  refine (HLr.out _).mono ?_
  rintro e w1 ⟨rfl, hb1⟩
  obtain ⟨x0, x1, x2, x3, x4, x5, _⟩ := RX.of' ((hb1.block _ (Array.getElem?_eq_some_iff.1 HXr.out).1).trans HXr.out)
  obtain ⟨y0, y1, y2, y3, y4, y5, _⟩ := RX.of' ((hb1.block _ (Array.getElem?_eq_some_iff.1 HXs.out).1).trans HXs.out)
  have HB1 : Hid (Below W0.heap.size W0 w1) := hb1
  clear HLr hb1
  go_wp2_with (first
    | (go_at_call 7; refine (HLs.out _).mono ?_; rintro e w3 ⟨rfl, hb3⟩; have HB3 : Hid (Below W0.heap.size W0 w3) := HB1.out.trans (hb3.mono HB1.out.size); clear HLs hb3 x0 x1 x2 x3 x4 x5 y0 y1 y2 y3 y4 y5; obtain ⟨x0, x1, x2, x3, x4, x5, _⟩ := RX.of' ((HB3.out.block _ (Array.getElem?_eq_some_iff.1 HXr.out).1).trans HXr.out); obtain ⟨y0, y1, y2, y3, y4, y5, yf0, yf1, yf2, yf3, yf4, yf5⟩ := RX.of' ((HB3.out.block _ (Array.getElem?_eq_some_iff.1 HXs.out).1).trans HXs.out))
    | fail)
  obtain ⟨V3, hV3⟩ : ∃ V, V = w3.setCell ⟨w.heap.size + 1, 0, none⟩ (.int .i64 (r.E - 2)) := ⟨_, rfl⟩
  rw [← hV3]
  have BV3 : Hid (Below w.heap.size w V3) := by rw [hV3]; exact (hB0.trans (HB3.out.mono hB0.size)).setCell (show w.heap.size ≤ (⟨w.heap.size + 1, 0, none⟩ : Addr).block from Nat.le_succ _) _
  have Xr3 : Hid (V3.heap[w.heap.size]? = some (.cells #[.int .i64 (r).E, .int .i64 r.B, .int .i64 r.N, .int .i64 r.S, .slice ta r.T.length tc, .slice ma r.M.length mc] 24 (0, 0))) := by rw [hV3]; exact (heap_setCell_other _ ⟨w.heap.size + 1, 0, none⟩ _ _ (by show w.heap.size ≠ w.heap.size + 1; omega)).trans ((HB3.out.block _ (Array.getElem?_eq_some_iff.1 HXr.out).1).trans HXr.out)
  have Xo3 : Hid (V3.heap[w.heap.size + 1]? = some (.cells #[.int .i64 (r.E - 2), .int .i64 o.B, .int .i64 o.N, .int .i64 o.S, .slice sa o.T.length sc, .slice na o.M.length nc] 24 (0, 0))) := by rw [hV3]; exact heap_setCell_same w3 (w.heap.size + 1) 0 _ 24 _ ((HB3.out.block _ (Array.getElem?_eq_some_iff.1 HXs.out).1).trans HXs.out)
  clear hV3 x0 x1 x2 x3 x4 x5 y0 y1 y2 y3 y4 y5 yf0 yf1 yf2 yf3 yf4 yf5 HXr HXs HB1 HB3 hB0
  refine (P1.out V3 BV3.out).mono ?_
  rintro e w4 ⟨p1a, p1c, rfl, H1⟩
  have hbw4 := H1.out.2.2.2.2
  have S4 : Hid (Below V3.heap.size V3 w4) := hbw4
  have B4 : Hid (Below w.heap.size w w4) := BV3.out.trans (hbw4.mono BV3.out.size)
  obtain ⟨x0, x1, x2, x3, x4, x5, _⟩ := RX.of' ((hbw4.block _ (Array.getElem?_eq_some_iff.1 Xr3.out).1).trans Xr3.out)
  obtain ⟨y0, y1, y2, y3, y4, y5, _⟩ := RX.of' ((hbw4.block _ (Array.getElem?_eq_some_iff.1 Xo3.out).1).trans Xo3.out)
  clear P1
  go_wp2_with fail
  refine (P2.out w4 B4.out).mono ?_
  rintro e w5 ⟨p2a, p2c, rfl, H2⟩
  have hbw5 := H2.out.2.2.2.2
  have S5 : Hid (Below V3.heap.size V3 w5) := S4.out.trans (hbw5.mono S4.out.size)
  clear P2 x0 x1 x2 x3 x4 x5 y0 y1 y2 y3 y4 y5
  obtain ⟨x0, x1, x2, x3, x4, x5, _⟩ := RX.of' ((S5.out.block _ (Array.getElem?_eq_some_iff.1 Xr3.out).1).trans Xr3.out)
  have hlt5 : w.heap.size < w5.heap.size := Nat.lt_of_lt_of_le (Array.getElem?_eq_some_iff.1 Xr3.out).1 S5.out.size
  have z0 : (w5.alloc (.cells #[.int .i64 (r).E, .int .i64 r.B, .int .i64 r.N, .int .i64 r.S, .slice ta r.T.length tc, .slice ma r.M.length mc] 24)).cell? ⟨w.heap.size, 0, none⟩ = some (.int .i64 r.E) := (((Below.refl w5.heap.size w5).alloc (Nat.le_refl _) (.cells #[.int .i64 (r).E, .int .i64 r.B, .int .i64 r.N, .int .i64 r.S, .slice ta r.T.length tc, .slice ma r.M.length mc] 24)).cell (p := ⟨w.heap.size, 0, none⟩) hlt5).trans x0
  go_wp2_with fail
  clear z0
  obtain ⟨V5, hV5⟩ : ∃ V, V = w5.alloc (.cells #[.int .i64 (r.E - 1), .int .i64 r.B, .int .i64 r.N, .int .i64 r.S, .slice ta r.T.length tc, .slice ma r.M.length mc] 24) := ⟨_, rfl⟩
  rw [← hV5]
  have hb5V : Below w5.heap.size w5 V5 := by rw [hV5]; exact (Below.refl _ _).alloc (Nat.le_refl _) _
  have Xm5 : Hid (V5.heap[w5.heap.size]? = some (.cells #[.int .i64 (r.E - 1), .int .i64 r.B, .int .i64 r.N, .int .i64 r.S, .slice ta r.T.length tc, .slice ma r.M.length mc] 24 (0, 0))) := by rw [hV5]; exact heap_alloc_last _ _
  have SV5 : Hid (Below V3.heap.size V3 V5) := S5.out.trans (hb5V.mono S5.out.size)
  have BV5 : Hid (Below w.heap.size w V5) := BV3.out.trans (SV5.out.mono BV3.out.size)
  refine (P3.out V5 BV5.out).mono ?_
  rintro e w6 ⟨p3a, p3c, rfl, H3⟩
  have hbw6 := H3.out.2.2.2.2
  have S6 : Hid (Below V3.heap.size V3 w6) := SV5.out.trans (hbw6.mono SV5.out.size)
  have B6 : Hid (Below w.heap.size w w6) := BV3.out.trans (S6.out.mono BV3.out.size)
  have Xm6 : Hid (w6.heap[w5.heap.size]? = some (.cells #[.int .i64 (r.E - 1), .int .i64 r.B, .int .i64 r.N, .int .i64 r.S, .slice ta r.T.length tc, .slice ma r.M.length mc] 24 (0, 0))) := (hbw6.block _ (Array.getElem?_eq_some_iff.1 Xm5.out).1).trans Xm5.out
  have HZ5 : Hid (V3.heap.size ≤ w5.heap.size) := S5.out.size
  clear P3 x0 x1 x2 x3 x4 x5 hV5
  obtain ⟨kk, hkk⟩ : ∃ kk : Nat, t % 257 = (kk : Int) := Int.eq_ofNat_of_zero_le (by omega)
  have hk256 : kk ≤ 256 := by omega
  have htm : Int.tmod t 257 = (kk : Int) := by rw [Int.tmod_eq_emod_of_nonneg ht.1]; exact hkk
  obtain ⟨b1, o1, rfl⟩ : ∃ b1 o1, p1a = some ⟨b1, o1, none⟩ := by
    obtain ⟨_, e | ⟨b, off, e, _⟩⟩ := H1.out.1
    · have := HLA.out.1; rw [e] at this; simp at this
    · exact ⟨b, off, e⟩
  obtain ⟨b2, o2, rfl⟩ : ∃ b2 o2, p2a = some ⟨b2, o2, none⟩ := by
    obtain ⟨_, e | ⟨b, off, e, _⟩⟩ := H2.out.1
    · have := HLA.out.2.1; rw [e] at this; simp at this
    · exact ⟨b, off, e⟩
  have hkc1 : (kk : Int) ≤ (p1c : Int) := by have := H1.out.2.2.1; omega
  have hkc2 : (kk : Int) ≤ 256 := by omega
  have HV1 : Hid (BV w6 (some ⟨b1, o1, none⟩) za) := ((H1.out.1.below hbw5).below hb5V).below hbw6
  have HV2 : Hid (BV w6 (some ⟨b2, o2, none⟩) zb) := (H2.out.1.below hb5V).below hbw6
  obtain ⟨da, hda⟩ : ∃ da : Option Addr, da = (if p2c = kk then (some ⟨b2, o2, none⟩ : Option Addr) else some ⟨b2, o2 + kk, none⟩) := ⟨_, rfl⟩
  obtain ⟨dad, hdad⟩ : ∃ dad : Addr, da = some dad := by rw [hda]; split; exact ⟨_, rfl⟩; exact ⟨_, rfl⟩
  have HVD : Hid (∀ W, Below w6.heap.size w6 W → BV W (some dad) (zb.drop kk)) := fun W hW => by
    rw [← hdad, hda]
    by_cases e : p2c = kk
    · rw [if_pos e]
      have : kk = 256 := by have := H2.out.2.2.1; omega
      refine ⟨HLA.out.2.2.2.2.drop kk, .inl ?_⟩
      apply List.drop_of_length_le
      rw [HLA.out.2.1]; omega
    · rw [if_neg e]
      exact (HV2.out.below hW).drop kk
  have HHC : Hid (p3c ≤ 9223372036854775807 ∧ 256 ≤ p3c) := ⟨H3.out.2.2.2.1, H3.out.2.2.1⟩
  have HV3 : Hid (BV w6 p3a zc ∧ (p3a = none → p3c = 0)) := ⟨H3.out.1, H3.out.2.1⟩
  have hk0 : (0 : Int) ≤ (kk : Int) := by omega
  clear hbw4 hbw5 hbw6 hb5V
  go_wp2_with fail

  refine wp_region_noPanic ?_
  refine name_ops ?_
  intro O QQ HO HQ
  refine wp_region_held_drew (S := fun W' => Below w6.heap.size w6 W') (by kernel_rfl) (Below.refl _ _).drew (fun hS => ?_)
  rw [show O.size = 10 by rw [HO.out]; rfl]
  refine wpAnyH_take (i := 1) (v := .slice (some ⟨b1, o1, none⟩) 256 p1c) (by rw [HO.out]; simp only [List.getElem?_toArray, List.getElem?_cons_succ, List.getElem?_cons_zero]; rfl) (by rw [HO.out]; kernel_rfl) (by rw [HO.out]; kernel_rfl) (by rw [HO.out]; kernel_rfl) (by rw [HQ.out]; exact fun _ _ _ h => h) (Or.inl ⟨by rfl, ?_⟩) hS ?_
  · intro w' hSw
    go_simp
  try simp only [Act.put, List.setIfInBounds_toArray, List.set_cons_zero, List.set_cons_succ]
  refine wpAnyH_take (i := 2) (v := .int .i64 kk) (by rw [HO.out]; simp only [List.getElem?_toArray, List.getElem?_cons_succ, List.getElem?_cons_zero]; rfl) (by rw [HO.out]; kernel_rfl) (by rw [HO.out]; kernel_rfl) (by rw [HO.out]; kernel_rfl) (by rw [HQ.out]; exact fun _ _ _ h => h) (Or.inl ⟨by rfl, ?_⟩) hS ?_
  · intro w' hSw
    go_simp
  try simp only [Act.put, List.setIfInBounds_toArray, List.set_cons_zero, List.set_cons_succ]
  refine wpAnyH_take (i := 3) (v := .slice (some ⟨b1, o1, none⟩) kk p1c) (by rw [HO.out]; simp only [List.getElem?_toArray, List.getElem?_cons_succ, List.getElem?_cons_zero]; rfl) (by rw [HO.out]; kernel_rfl) (by rw [HO.out]; kernel_rfl) (by rw [HO.out]; kernel_rfl) (by rw [HQ.out]; exact fun _ _ _ h => h) (Or.inl ⟨by rfl, ?_⟩) hS ?_
  · intro w' hSw
    go_simp
  try simp only [Act.put, List.setIfInBounds_toArray, List.set_cons_zero, List.set_cons_succ]
  refine wpAnyH_take (i := 5) (v := .slice (some ⟨b2, o2, none⟩) 256 p2c) (by rw [HO.out]; simp only [List.getElem?_toArray, List.getElem?_cons_succ, List.getElem?_cons_zero]; rfl) (by rw [HO.out]; kernel_rfl) (by rw [HO.out]; kernel_rfl) (by rw [HO.out]; kernel_rfl) (by rw [HQ.out]; exact fun _ _ _ h => h) (Or.inl ⟨by rfl, ?_⟩) hS ?_
  · intro w' hSw
    go_simp
  try simp only [Act.put, List.setIfInBounds_toArray, List.set_cons_zero, List.set_cons_succ]
  refine wpAnyH_take (i := 6) (v := .int .i64 kk) (by rw [HO.out]; simp only [List.getElem?_toArray, List.getElem?_cons_succ, List.getElem?_cons_zero]; rfl) (by rw [HO.out]; kernel_rfl) (by rw [HO.out]; kernel_rfl) (by rw [HO.out]; kernel_rfl) (by rw [HQ.out]; exact fun _ _ _ h => h) (Or.inl ⟨by rfl, ?_⟩) hS ?_
  · intro w' hSw
    go_simp
  try simp only [Act.put, List.setIfInBounds_toArray, List.set_cons_zero, List.set_cons_succ]
  refine wpAnyH_take (i := 7) (v := .slice (some dad) (256 - kk) (p2c - kk)) (by rw [HO.out]; simp only [List.getElem?_toArray, List.getElem?_cons_succ, List.getElem?_cons_zero]; rfl) (by rw [HO.out]; kernel_rfl) (by rw [HO.out]; kernel_rfl) (by rw [HO.out]; kernel_rfl) (by rw [HQ.out]; exact fun _ _ _ h => h) (Or.inl ⟨by rfl, ?_⟩) hS ?_
  · intro w' hSw
    go_simp
    try simp only [hkc2, hk0, if_true, if_false]
    try (rw [← hdad, hda])
    try rfl
  try simp only [Act.put, List.setIfInBounds_toArray, List.set_cons_zero, List.set_cons_succ]
  refine wpAnyH_ready (rs := [0]) (by rw [HO.out]; kernel_rfl) (by simp) ?_
  refine AllReadyH.cons (o := _) (by rw [HO.out]; simp only [List.getElem?_toArray, List.getElem?_cons_succ, List.getElem?_cons_zero]; rfl) (fun K0 hK0 => ?_) AllReadyH.nil
  go_simp
  have hl0 : Own (w6.drew.alloc (.cells #[] 5)) w6.heap.size (.slice (some ⟨w6.heap.size, 0, none⟩) 0 0) [] := World.ownsRow_lit w6.drew #[] 0 (Nat.le_refl _) (by decide) rfl
  have hb0 : Below w6.heap.size w6 (w6.drew.alloc (.cells #[] 5)) := (Below.refl _ _).drew.alloc (Nat.le_refl _) _
  refine hK0.out _ _ hb0 (fun _ => ?_)
  try simp only [Act.put, List.setIfInBounds_toArray, List.set_cons_zero, List.set_cons_succ]
  refine wpAnyH_ready (rs := [4]) (by rw [HO.out]; kernel_rfl) (by simp) ?_
  refine AllReadyH.cons (o := _) (by rw [HO.out]; simp only [List.getElem?_toArray, List.getElem?_cons_succ, List.getElem?_cons_zero]; rfl) (fun K4 hK4 => ?_) AllReadyH.nil
  rw [if_pos (by rfl)]
  refine op_app_s _ _ rfl w6.heap.size _ [] (za.take kk) rfl hl0 ⟨b1, o1, none⟩ kk p1c rfl ((HV1.out.below hb0).take kk) (by rw [List.length_take, HLA.out.1]; omega) (by show 0 + kk ≤ 1000000; omega) hb0.size ?_
  intro v8 w8 ho8 hb8
  have HB8 : Hid (Below w6.heap.size w6 w8) := hb0.trans hb8
  refine hK4.out _ _ HB8.out (fun _ => ?_)
  try simp only [Act.put, List.setIfInBounds_toArray, List.set_cons_zero, List.set_cons_succ]
  refine wpAnyH_ready (rs := [8]) (by rw [HO.out]; kernel_rfl) (by simp) ?_
  refine AllReadyH.cons (o := _) (by rw [HO.out]; simp only [List.getElem?_toArray, List.getElem?_cons_succ, List.getElem?_cons_zero]; rfl) (fun K8 hK8 => ?_) AllReadyH.nil
  rw [if_pos (by rfl)]
  refine op_app_s _ _ rfl w6.heap.size _ ([] ++ za.take kk) (zb.drop kk) rfl ho8 dad (256 - kk) (p2c - kk) rfl (HVD.out w8 HB8.out) (by rw [List.length_drop, HLA.out.2.1]) (by simp [HLA.out.1]; omega) HB8.out.size ?_
  intro v9 w9 ho9 hb9
  have HB9 : Hid (Below w6.heap.size w6 w9) := HB8.out.trans hb9
  refine hK8.out _ _ HB9.out (fun _ => ?_)
  try simp only [Act.put, List.setIfInBounds_toArray, List.set_cons_zero, List.set_cons_succ]
  refine wpAnyH_ready (rs := [9]) (by rw [HO.out]; kernel_rfl) (by simp) ?_
  refine AllReadyH.cons (o := _) (by rw [HO.out]; simp only [List.getElem?_toArray, List.getElem?_cons_succ, List.getElem?_cons_zero]; rfl) (fun K9 hK9 => ?_) AllReadyH.nil
  go_simp
  refine hK9.out _ _ HB9.out (fun _ => ?_)
  try simp only [Act.put, List.setIfInBounds_toArray, List.set_cons_zero, List.set_cons_succ]
  refine wpAnyH_done (by rw [HO.out]; kernel_rfl) ?_ _
  rw [HQ.out]
  refine NoPanic.normal ?_
  obtain ⟨ts, hts⟩ : ∃ ts, ts = za.take kk ++ zb.drop kk := ⟨_, rfl⟩
  have HT9 : Hid (Own w9 w6.heap.size v9 ts) := by rw [hts]; have h := ho9; simp only [List.nil_append] at h; exact h
  have HTL : Hid (ts.length = 256 ∧ AllB ts) := by rw [hts]; exact ⟨torn_len za zb kk HLA.out.1 HLA.out.2.1 hk256, (HLA.out.2.2.2.1.take kk).append (HLA.out.2.2.2.2.drop kk)⟩
  have HTS : Hid ((getS ts).2 = 0 → (getS ts).1 = r ∨ (getS ts).1 = { o with E := r.E - 2 }) := by rw [hts]; exact HTI.out kk hk256
  clear hts ho9
  obtain ⟨va, vc, hve, hvn, hvb, hvl, hvm⟩ := HT9.out.slice HTL.out.2
  rw [HTL.out.1] at hve hvl
  subst hve
  have HTB : Hid (BV w9 va ts ∧ ts.length = 256 ∧ 256 ≤ vc ∧ vc ≤ 9223372036854775807) := ⟨hvb, HTL.out.1, hvl, by unfold maxLen at hvm; omega⟩
  have HGT : Hid (Calls Try.prog 14 #[.slice va 256 vc] w9 fun e w' => GetPost w9 (getS ts) e w') := by
    have h := groot_any va vc ts w9 hvb (by rw [HTL.out.1]; exact hvl) (by unfold maxLen at hvm; omega)
    rw [HTL.out.1] at h
    exact h
  have S9 : Hid (Below V3.heap.size V3 w9) := S6.out.trans (HB9.out.mono S6.out.size)
  obtain ⟨gg, hgg⟩ : ∃ gg, gg = getS ts := ⟨_, rfl⟩
  have HTG0 := HTS.out
  rw [← hgg] at HGT HTG0
  obtain ⟨g1, g2⟩ := gg
  have HTG : Hid (g2 = 0 → g1 = r ∨ g1 = { o with E := r.E - 2 }) := HTG0
  unfold GetPost rootV at HGT
  simp only at HGT
  clear HTG0 hgg hvb hvl hvm hvn HT9 HTI HO HQ HV1 HV2 HVD hl0 hb0 ho8 hb8 HB8 hb9
  have hE2 : 2 ≤ r.E := by omega
  by_cases hpar : r.E.tmod 2 = 1
  · have hpq : (r.E.tmod 2 == 1) = true := by simpa using hpar
    have hpe : r.E % 2 = 1 := by rw [Int.tmod_eq_emod_of_nonneg (by omega)] at hpar; exact hpar
    obtain ⟨c, hc⟩ : ∃ c, chS zc ts 2 = c := ⟨_, rfl⟩
    have HCC : Hid (c.e = 0 ∧ (c.r = r ∨ c.r = { r with E := r.E - 1 })) := by
      have h := torn_odd HGC.out (by show (r.E - 1).tmod 2 = 0; rw [Int.tmod_eq_emod_of_nonneg (by omega)]; omega) hpar (by show (r.E - 2).tmod 2 = 1; rw [Int.tmod_eq_emod_of_nonneg (by omega)]; omega) (by show r.E - 1 < r.E; omega) (by show ¬ r.E - 1 < r.E - 2; omega) HTS.out
      rw [hc] at h
      exact h
    have HCH : Hid (∀ W, Below w9.heap.size w9 W → Calls Try.prog 16 #[.slice p3a 256 p3c, .slice va 256 vc] W fun e w' => ∃ ta tc ma mc, e = .returned (.tuple #[rootV c.r ta tc ma mc, .int .i64 c.n, .int .i64 0]) ∧ Hid (Rt w' c.r ta tc ma mc ∧ Below W.heap.size W w' ∧ IVh W.heap.size w' ta c.r.T ∧ IVh W.heap.size w' ma c.r.M)) := fun W hW => by
      have h := choose_ans (HV3.out.1.below (HB9.out.trans (hW.mono HB9.out.size))) (HTB.out.1.below hW) HLA.out.2.2.1 HTB.out.2.1 HHC.out.2 HTB.out.2.2.1 HHC.out.1 HTB.out.2.2.2 hc
      rw [HCC.out.1] at h
      exact h
    unfold rootV at HCH
    clear hc
    by_cases hg2 : g2 = 0
    · subst hg2
      by_cases hs1 : sameB g1 r = true
      · by_cases hd1 : sameB c.r r = true
        · have HSg : Hid (∀ W qa qc qb qd, Rt W g1 qa qc qb qd → Below w.heap.size w W → Calls Try.prog 13 #[.agg #[.int .i64 g1.E, .int .i64 g1.B, .int .i64 g1.N, .int .i64 g1.S, .slice qa g1.T.length qc, .slice qb g1.M.length qd], .agg #[.int .i64 (r).E, .int .i64 r.B, .int .i64 r.N, .int .i64 r.S, .slice ta r.T.length tc, .slice ma r.M.length mc]] W fun e w' => e = .returned (.bool true) ∧ Below W.heap.size W w') := fun W qa qc qb qd h1 h2 => by
            have h := rsame_any g1 r qa qb qc qd ta ma tc mc W h1 (HRR.out.1.below h2)
            rw [hs1] at h
            exact h
          have HSy : Hid (∀ W qa qc qb qd, Rt W c.r qa qc qb qd → Below w.heap.size w W → Calls Try.prog 13 #[.agg #[.int .i64 c.r.E, .int .i64 c.r.B, .int .i64 c.r.N, .int .i64 c.r.S, .slice qa c.r.T.length qc, .slice qb c.r.M.length qd], .agg #[.int .i64 (r).E, .int .i64 r.B, .int .i64 r.N, .int .i64 r.S, .slice ta r.T.length tc, .slice ma r.M.length mc]] W fun e w' => e = .returned (.bool true) ∧ Below W.heap.size W w') := fun W qa qc qb qd h1 h2 => by
            have h := rsame_any c.r r qa qb qc qd ta ma tc mc W h1 (HRR.out.1.below h2)
            rw [hd1] at h
            exact h
          go_wp2_with (first
            | (go_at_call 14; refine HGT.out.mono ?_; rintro e w10 ⟨ua, uc, va2, vc2, rfl, H10⟩; have hal : Below w10.heap.size w10 (w10.alloc (.cells #[.int .i64 g1.E, .int .i64 g1.B, .int .i64 g1.N, .int .i64 g1.S, .slice ua g1.T.length uc, .slice va2 g1.M.length vc2] 31)) := (Below.refl _ _).alloc (Nat.le_refl _) _; have B9U : Hid (Below w9.heap.size w9 (w10.alloc (.cells #[.int .i64 g1.E, .int .i64 g1.B, .int .i64 g1.N, .int .i64 g1.S, .slice ua g1.T.length uc, .slice va2 g1.M.length vc2] 31))) := H10.out.2.1.trans (hal.mono H10.out.2.1.size); have SU : Hid (Below V3.heap.size V3 (w10.alloc (.cells #[.int .i64 g1.E, .int .i64 g1.B, .int .i64 g1.N, .int .i64 g1.S, .slice ua g1.T.length uc, .slice va2 g1.M.length vc2] 31))) := S9.out.trans (B9U.out.mono S9.out.size); have BU : Hid (Below w.heap.size w (w10.alloc (.cells #[.int .i64 g1.E, .int .i64 g1.B, .int .i64 g1.N, .int .i64 g1.S, .slice ua g1.T.length uc, .slice va2 g1.M.length vc2] 31))) := BV3.out.trans (SU.out.mono BV3.out.size); have RG : Hid (Rt (w10.alloc (.cells #[.int .i64 g1.E, .int .i64 g1.B, .int .i64 g1.N, .int .i64 g1.S, .slice ua g1.T.length uc, .slice va2 g1.M.length vc2] 31)) g1 ua uc va2 vc2) := H10.out.1.below hal; have Xx : Hid ((w10.alloc (.cells #[.int .i64 g1.E, .int .i64 g1.B, .int .i64 g1.N, .int .i64 g1.S, .slice ua g1.T.length uc, .slice va2 g1.M.length vc2] 31)).heap[w10.heap.size]? = some (.cells #[.int .i64 g1.E, .int .i64 g1.B, .int .i64 g1.N, .int .i64 g1.S, .slice ua g1.T.length uc, .slice va2 g1.M.length vc2] 31 (0, 0))) := heap_alloc_last _ _; obtain ⟨x0, x1, x2, x3, x4, x5, _⟩ := RX.of' ((SU.out.block _ (Array.getElem?_eq_some_iff.1 Xr3.out).1).trans Xr3.out); obtain ⟨y0, y1, y2, y3, y4, y5, _⟩ := RX.of' ((SU.out.block _ (Array.getElem?_eq_some_iff.1 Xo3.out).1).trans Xo3.out); clear HGT hal H10)
            | (go_at_call 13; refine (HSg.out _ ua uc va2 vc2 RG.out BU.out).mono ?_; rintro e w11 ⟨rfl, hb11⟩; have S11 : Hid (Below V3.heap.size V3 w11) := SU.out.trans (hb11.mono SU.out.size); have B11 : Hid (Below w.heap.size w w11) := BU.out.trans (hb11.mono BU.out.size); have B911 : Hid (Below w9.heap.size w9 w11) := B9U.out.trans (hb11.mono B9U.out.size); have R11 : Hid (Rt w11 g1 ua uc va2 vc2) := RG.out.below hb11; clear x0 x1 x2 x3 x4 x5 y0 y1 y2 y3 y4 y5; obtain ⟨x0, x1, x2, x3, x4, x5, _⟩ := RX.of' ((S11.out.block _ (Array.getElem?_eq_some_iff.1 Xr3.out).1).trans Xr3.out); obtain ⟨y0, y1, y2, y3, y4, y5, _⟩ := RX.of' ((S11.out.block _ (Array.getElem?_eq_some_iff.1 Xo3.out).1).trans Xo3.out); obtain ⟨k0, k1, k2, k3, k4, k5, _⟩ := RX.of' ((hb11.block _ (Array.getElem?_eq_some_iff.1 Xx.out).1).trans Xx.out); clear HSg hb11)
            | (go_at_call 16; refine (HCH.out _ B911.out).mono ?_; rintro e w13 ⟨ya, yc, yb, yd, rfl, H13⟩; have hal : Below w13.heap.size w13 (w13.alloc (.cells #[.int .i64 c.r.E, .int .i64 c.r.B, .int .i64 c.r.N, .int .i64 c.r.S, .slice ya c.r.T.length yc, .slice yb c.r.M.length yd] 31)) := (Below.refl _ _).alloc (Nat.le_refl _) _; have S13 : Hid (Below V3.heap.size V3 (w13.alloc (.cells #[.int .i64 c.r.E, .int .i64 c.r.B, .int .i64 c.r.N, .int .i64 c.r.S, .slice ya c.r.T.length yc, .slice yb c.r.M.length yd] 31))) := (S11.out.trans (H13.out.2.1.mono S11.out.size)).trans (hal.mono (Nat.le_trans S11.out.size H13.out.2.1.size)); have B13 : Hid (Below w.heap.size w (w13.alloc (.cells #[.int .i64 c.r.E, .int .i64 c.r.B, .int .i64 c.r.N, .int .i64 c.r.S, .slice ya c.r.T.length yc, .slice yb c.r.M.length yd] 31))) := BV3.out.trans (S13.out.mono BV3.out.size); have RY : Hid (Rt (w13.alloc (.cells #[.int .i64 c.r.E, .int .i64 c.r.B, .int .i64 c.r.N, .int .i64 c.r.S, .slice ya c.r.T.length yc, .slice yb c.r.M.length yd] 31)) c.r ya yc yb yd) := H13.out.1.below hal; have Xy : Hid ((w13.alloc (.cells #[.int .i64 c.r.E, .int .i64 c.r.B, .int .i64 c.r.N, .int .i64 c.r.S, .slice ya c.r.T.length yc, .slice yb c.r.M.length yd] 31)).heap[w13.heap.size]? = some (.cells #[.int .i64 c.r.E, .int .i64 c.r.B, .int .i64 c.r.N, .int .i64 c.r.S, .slice ya c.r.T.length yc, .slice yb c.r.M.length yd] 31 (0, 0))) := heap_alloc_last _ _; have S613 : Hid (Below w6.heap.size w6 (w13.alloc (.cells #[.int .i64 c.r.E, .int .i64 c.r.B, .int .i64 c.r.N, .int .i64 c.r.S, .slice ya c.r.T.length yc, .slice yb c.r.M.length yd] 31))) := (HB9.out.trans (B911.out.mono HB9.out.size)).trans (((H13.out.2.1).mono (Nat.le_trans HB9.out.size B911.out.size)).trans (hal.mono (Nat.le_trans (Nat.le_trans HB9.out.size B911.out.size) H13.out.2.1.size))); clear x0 x1 x2 x3 x4 x5; obtain ⟨x0, x1, x2, x3, x4, x5, _⟩ := RX.of' ((S13.out.block _ (Array.getElem?_eq_some_iff.1 Xr3.out).1).trans Xr3.out); clear HCH hal H13)
            | (go_at_call 13; refine (HSy.out _ ya yc yb yd RY.out B13.out).mono ?_; rintro e w14 ⟨rfl, hb14⟩; have B14 : Hid (Below w.heap.size w w14) := B13.out.trans (hb14.mono B13.out.size); have R14 : Hid (Rt w14 c.r ya yc yb yd) := RY.out.below hb14; obtain ⟨l0, l1, l2, l3, l4, l5, _⟩ := RX.of' ((hb14.block _ (Array.getElem?_eq_some_iff.1 Xy.out).1).trans Xy.out); have S614 : Hid (Below w6.heap.size w6 w14) := S613.out.trans (hb14.mono S613.out.size); obtain ⟨n0, n1, n2, n3, n4, n5, _⟩ := RX.of' ((S614.out.block _ (Array.getElem?_eq_some_iff.1 Xm6.out).1).trans Xm6.out); clear HSy hb14)
            | (go_at_call 8; refine (HA _).mono ?_; rintro e w16 ⟨rfl, hb16⟩; clear HA)
            | fail)
          go_ret
          exact ⟨rfl, B14.out.trans (hb16.mono B14.out.size)⟩
        · have hd1 : sameB c.r r = false := by simpa using hd1
          have hd2 : sameB c.r { r with E := r.E - 1 } = true := by
            rcases HCC.out.2 with e | e
            · rw [(sameB_iff c.r r).2 e] at hd1; cases hd1
            · exact (sameB_iff _ _).2 e
          have HSg : Hid (∀ W qa qc qb qd, Rt W g1 qa qc qb qd → Below w.heap.size w W → Calls Try.prog 13 #[.agg #[.int .i64 g1.E, .int .i64 g1.B, .int .i64 g1.N, .int .i64 g1.S, .slice qa g1.T.length qc, .slice qb g1.M.length qd], .agg #[.int .i64 (r).E, .int .i64 r.B, .int .i64 r.N, .int .i64 r.S, .slice ta r.T.length tc, .slice ma r.M.length mc]] W fun e w' => e = .returned (.bool true) ∧ Below W.heap.size W w') := fun W qa qc qb qd h1 h2 => by
            have h := rsame_any g1 r qa qb qc qd ta ma tc mc W h1 (HRR.out.1.below h2)
            rw [hs1] at h
            exact h
          have HSy : Hid (∀ W qa qc qb qd, Rt W c.r qa qc qb qd → Below w.heap.size w W → Calls Try.prog 13 #[.agg #[.int .i64 c.r.E, .int .i64 c.r.B, .int .i64 c.r.N, .int .i64 c.r.S, .slice qa c.r.T.length qc, .slice qb c.r.M.length qd], .agg #[.int .i64 (r).E, .int .i64 r.B, .int .i64 r.N, .int .i64 r.S, .slice ta r.T.length tc, .slice ma r.M.length mc]] W fun e w' => e = .returned (.bool false) ∧ Below W.heap.size W w') := fun W qa qc qb qd h1 h2 => by
            have h := rsame_any c.r r qa qb qc qd ta ma tc mc W h1 (HRR.out.1.below h2)
            rw [hd1] at h
            exact h
          have HSm : Hid (∀ W qa qc qb qd, Rt W c.r qa qc qb qd → Below w.heap.size w W → Calls Try.prog 13 #[.agg #[.int .i64 c.r.E, .int .i64 c.r.B, .int .i64 c.r.N, .int .i64 c.r.S, .slice qa c.r.T.length qc, .slice qb c.r.M.length qd], .agg #[.int .i64 (r.E - 1), .int .i64 r.B, .int .i64 r.N, .int .i64 r.S, .slice ta r.T.length tc, .slice ma r.M.length mc]] W fun e w' => e = .returned (.bool true) ∧ Below W.heap.size W w') := fun W qa qc qb qd h1 h2 => by
            have h := rsame_any c.r { r with E := r.E - 1 } qa qb qc qd ta ma tc mc W h1 (HRR.out.2.2.below h2)
            rw [hd2] at h
            exact h
          go_wp2_with (first
            | (go_at_call 14; refine HGT.out.mono ?_; rintro e w10 ⟨ua, uc, va2, vc2, rfl, H10⟩; have hal : Below w10.heap.size w10 (w10.alloc (.cells #[.int .i64 g1.E, .int .i64 g1.B, .int .i64 g1.N, .int .i64 g1.S, .slice ua g1.T.length uc, .slice va2 g1.M.length vc2] 31)) := (Below.refl _ _).alloc (Nat.le_refl _) _; have B9U : Hid (Below w9.heap.size w9 (w10.alloc (.cells #[.int .i64 g1.E, .int .i64 g1.B, .int .i64 g1.N, .int .i64 g1.S, .slice ua g1.T.length uc, .slice va2 g1.M.length vc2] 31))) := H10.out.2.1.trans (hal.mono H10.out.2.1.size); have SU : Hid (Below V3.heap.size V3 (w10.alloc (.cells #[.int .i64 g1.E, .int .i64 g1.B, .int .i64 g1.N, .int .i64 g1.S, .slice ua g1.T.length uc, .slice va2 g1.M.length vc2] 31))) := S9.out.trans (B9U.out.mono S9.out.size); have BU : Hid (Below w.heap.size w (w10.alloc (.cells #[.int .i64 g1.E, .int .i64 g1.B, .int .i64 g1.N, .int .i64 g1.S, .slice ua g1.T.length uc, .slice va2 g1.M.length vc2] 31))) := BV3.out.trans (SU.out.mono BV3.out.size); have RG : Hid (Rt (w10.alloc (.cells #[.int .i64 g1.E, .int .i64 g1.B, .int .i64 g1.N, .int .i64 g1.S, .slice ua g1.T.length uc, .slice va2 g1.M.length vc2] 31)) g1 ua uc va2 vc2) := H10.out.1.below hal; have Xx : Hid ((w10.alloc (.cells #[.int .i64 g1.E, .int .i64 g1.B, .int .i64 g1.N, .int .i64 g1.S, .slice ua g1.T.length uc, .slice va2 g1.M.length vc2] 31)).heap[w10.heap.size]? = some (.cells #[.int .i64 g1.E, .int .i64 g1.B, .int .i64 g1.N, .int .i64 g1.S, .slice ua g1.T.length uc, .slice va2 g1.M.length vc2] 31 (0, 0))) := heap_alloc_last _ _; obtain ⟨x0, x1, x2, x3, x4, x5, _⟩ := RX.of' ((SU.out.block _ (Array.getElem?_eq_some_iff.1 Xr3.out).1).trans Xr3.out); obtain ⟨y0, y1, y2, y3, y4, y5, _⟩ := RX.of' ((SU.out.block _ (Array.getElem?_eq_some_iff.1 Xo3.out).1).trans Xo3.out); clear HGT hal H10)
            | (go_at_call 13; refine (HSg.out _ ua uc va2 vc2 RG.out BU.out).mono ?_; rintro e w11 ⟨rfl, hb11⟩; have S11 : Hid (Below V3.heap.size V3 w11) := SU.out.trans (hb11.mono SU.out.size); have B11 : Hid (Below w.heap.size w w11) := BU.out.trans (hb11.mono BU.out.size); have B911 : Hid (Below w9.heap.size w9 w11) := B9U.out.trans (hb11.mono B9U.out.size); have R11 : Hid (Rt w11 g1 ua uc va2 vc2) := RG.out.below hb11; clear x0 x1 x2 x3 x4 x5 y0 y1 y2 y3 y4 y5; obtain ⟨x0, x1, x2, x3, x4, x5, _⟩ := RX.of' ((S11.out.block _ (Array.getElem?_eq_some_iff.1 Xr3.out).1).trans Xr3.out); obtain ⟨y0, y1, y2, y3, y4, y5, _⟩ := RX.of' ((S11.out.block _ (Array.getElem?_eq_some_iff.1 Xo3.out).1).trans Xo3.out); obtain ⟨k0, k1, k2, k3, k4, k5, _⟩ := RX.of' ((hb11.block _ (Array.getElem?_eq_some_iff.1 Xx.out).1).trans Xx.out); clear HSg hb11)
            | (go_at_call 16; refine (HCH.out _ B911.out).mono ?_; rintro e w13 ⟨ya, yc, yb, yd, rfl, H13⟩; have hal : Below w13.heap.size w13 (w13.alloc (.cells #[.int .i64 c.r.E, .int .i64 c.r.B, .int .i64 c.r.N, .int .i64 c.r.S, .slice ya c.r.T.length yc, .slice yb c.r.M.length yd] 31)) := (Below.refl _ _).alloc (Nat.le_refl _) _; have S13 : Hid (Below V3.heap.size V3 (w13.alloc (.cells #[.int .i64 c.r.E, .int .i64 c.r.B, .int .i64 c.r.N, .int .i64 c.r.S, .slice ya c.r.T.length yc, .slice yb c.r.M.length yd] 31))) := (S11.out.trans (H13.out.2.1.mono S11.out.size)).trans (hal.mono (Nat.le_trans S11.out.size H13.out.2.1.size)); have B13 : Hid (Below w.heap.size w (w13.alloc (.cells #[.int .i64 c.r.E, .int .i64 c.r.B, .int .i64 c.r.N, .int .i64 c.r.S, .slice ya c.r.T.length yc, .slice yb c.r.M.length yd] 31))) := BV3.out.trans (S13.out.mono BV3.out.size); have RY : Hid (Rt (w13.alloc (.cells #[.int .i64 c.r.E, .int .i64 c.r.B, .int .i64 c.r.N, .int .i64 c.r.S, .slice ya c.r.T.length yc, .slice yb c.r.M.length yd] 31)) c.r ya yc yb yd) := H13.out.1.below hal; have Xy : Hid ((w13.alloc (.cells #[.int .i64 c.r.E, .int .i64 c.r.B, .int .i64 c.r.N, .int .i64 c.r.S, .slice ya c.r.T.length yc, .slice yb c.r.M.length yd] 31)).heap[w13.heap.size]? = some (.cells #[.int .i64 c.r.E, .int .i64 c.r.B, .int .i64 c.r.N, .int .i64 c.r.S, .slice ya c.r.T.length yc, .slice yb c.r.M.length yd] 31 (0, 0))) := heap_alloc_last _ _; have S613 : Hid (Below w6.heap.size w6 (w13.alloc (.cells #[.int .i64 c.r.E, .int .i64 c.r.B, .int .i64 c.r.N, .int .i64 c.r.S, .slice ya c.r.T.length yc, .slice yb c.r.M.length yd] 31))) := (HB9.out.trans (B911.out.mono HB9.out.size)).trans (((H13.out.2.1).mono (Nat.le_trans HB9.out.size B911.out.size)).trans (hal.mono (Nat.le_trans (Nat.le_trans HB9.out.size B911.out.size) H13.out.2.1.size))); clear x0 x1 x2 x3 x4 x5; obtain ⟨x0, x1, x2, x3, x4, x5, _⟩ := RX.of' ((S13.out.block _ (Array.getElem?_eq_some_iff.1 Xr3.out).1).trans Xr3.out); clear HCH hal H13)
            | (go_at_call 13; refine (HSy.out _ ya yc yb yd RY.out B13.out).mono ?_; rintro e w14 ⟨rfl, hb14⟩; have B14 : Hid (Below w.heap.size w w14) := B13.out.trans (hb14.mono B13.out.size); have R14 : Hid (Rt w14 c.r ya yc yb yd) := RY.out.below hb14; obtain ⟨l0, l1, l2, l3, l4, l5, _⟩ := RX.of' ((hb14.block _ (Array.getElem?_eq_some_iff.1 Xy.out).1).trans Xy.out); have S614 : Hid (Below w6.heap.size w6 w14) := S613.out.trans (hb14.mono S613.out.size); obtain ⟨n0, n1, n2, n3, n4, n5, _⟩ := RX.of' ((S614.out.block _ (Array.getElem?_eq_some_iff.1 Xm6.out).1).trans Xm6.out); clear HSy hb14)
            | (go_at_call 13; refine (HSm.out _ ya yc yb yd R14.out B14.out).mono ?_; rintro e w15 ⟨rfl, hb15⟩; have B15 : Hid (Below w.heap.size w w15) := B14.out.trans (hb15.mono B14.out.size); clear HSm hb15)
            | (go_at_call 8; refine (HA _).mono ?_; rintro e w16 ⟨rfl, hb16⟩; clear HA)
            | fail)
          go_ret
          exact ⟨rfl, B15.out.trans (hb16.mono B15.out.size)⟩
      · have hs1 : sameB g1 r = false := by simpa using hs1
        have hs2 : sameB g1 { o with E := r.E - 2 } = true := by
          rcases HTG.out rfl with e | e
          · rw [(sameB_iff g1 r).2 e] at hs1; cases hs1
          · exact (sameB_iff _ _).2 e
        by_cases hd1 : sameB c.r r = true
        · have HSg : Hid (∀ W qa qc qb qd, Rt W g1 qa qc qb qd → Below w.heap.size w W → Calls Try.prog 13 #[.agg #[.int .i64 g1.E, .int .i64 g1.B, .int .i64 g1.N, .int .i64 g1.S, .slice qa g1.T.length qc, .slice qb g1.M.length qd], .agg #[.int .i64 (r).E, .int .i64 r.B, .int .i64 r.N, .int .i64 r.S, .slice ta r.T.length tc, .slice ma r.M.length mc]] W fun e w' => e = .returned (.bool false) ∧ Below W.heap.size W w') := fun W qa qc qb qd h1 h2 => by
            have h := rsame_any g1 r qa qb qc qd ta ma tc mc W h1 (HRR.out.1.below h2)
            rw [hs1] at h
            exact h
          have HSo : Hid (∀ W qa qc qb qd, Rt W g1 qa qc qb qd → Below w.heap.size w W → Calls Try.prog 13 #[.agg #[.int .i64 g1.E, .int .i64 g1.B, .int .i64 g1.N, .int .i64 g1.S, .slice qa g1.T.length qc, .slice qb g1.M.length qd], .agg #[.int .i64 (r.E - 2), .int .i64 o.B, .int .i64 o.N, .int .i64 o.S, .slice sa o.T.length sc, .slice na o.M.length nc]] W fun e w' => e = .returned (.bool true) ∧ Below W.heap.size W w') := fun W qa qc qb qd h1 h2 => by
            have h := rsame_any g1 { o with E := r.E - 2 } qa qb qc qd sa na sc nc W h1 (HRR.out.2.1.below h2)
            rw [hs2] at h
            exact h
          have HSy : Hid (∀ W qa qc qb qd, Rt W c.r qa qc qb qd → Below w.heap.size w W → Calls Try.prog 13 #[.agg #[.int .i64 c.r.E, .int .i64 c.r.B, .int .i64 c.r.N, .int .i64 c.r.S, .slice qa c.r.T.length qc, .slice qb c.r.M.length qd], .agg #[.int .i64 (r).E, .int .i64 r.B, .int .i64 r.N, .int .i64 r.S, .slice ta r.T.length tc, .slice ma r.M.length mc]] W fun e w' => e = .returned (.bool true) ∧ Below W.heap.size W w') := fun W qa qc qb qd h1 h2 => by
            have h := rsame_any c.r r qa qb qc qd ta ma tc mc W h1 (HRR.out.1.below h2)
            rw [hd1] at h
            exact h
          go_wp2_with (first
            | (go_at_call 14; refine HGT.out.mono ?_; rintro e w10 ⟨ua, uc, va2, vc2, rfl, H10⟩; have hal : Below w10.heap.size w10 (w10.alloc (.cells #[.int .i64 g1.E, .int .i64 g1.B, .int .i64 g1.N, .int .i64 g1.S, .slice ua g1.T.length uc, .slice va2 g1.M.length vc2] 31)) := (Below.refl _ _).alloc (Nat.le_refl _) _; have B9U : Hid (Below w9.heap.size w9 (w10.alloc (.cells #[.int .i64 g1.E, .int .i64 g1.B, .int .i64 g1.N, .int .i64 g1.S, .slice ua g1.T.length uc, .slice va2 g1.M.length vc2] 31))) := H10.out.2.1.trans (hal.mono H10.out.2.1.size); have SU : Hid (Below V3.heap.size V3 (w10.alloc (.cells #[.int .i64 g1.E, .int .i64 g1.B, .int .i64 g1.N, .int .i64 g1.S, .slice ua g1.T.length uc, .slice va2 g1.M.length vc2] 31))) := S9.out.trans (B9U.out.mono S9.out.size); have BU : Hid (Below w.heap.size w (w10.alloc (.cells #[.int .i64 g1.E, .int .i64 g1.B, .int .i64 g1.N, .int .i64 g1.S, .slice ua g1.T.length uc, .slice va2 g1.M.length vc2] 31))) := BV3.out.trans (SU.out.mono BV3.out.size); have RG : Hid (Rt (w10.alloc (.cells #[.int .i64 g1.E, .int .i64 g1.B, .int .i64 g1.N, .int .i64 g1.S, .slice ua g1.T.length uc, .slice va2 g1.M.length vc2] 31)) g1 ua uc va2 vc2) := H10.out.1.below hal; have Xx : Hid ((w10.alloc (.cells #[.int .i64 g1.E, .int .i64 g1.B, .int .i64 g1.N, .int .i64 g1.S, .slice ua g1.T.length uc, .slice va2 g1.M.length vc2] 31)).heap[w10.heap.size]? = some (.cells #[.int .i64 g1.E, .int .i64 g1.B, .int .i64 g1.N, .int .i64 g1.S, .slice ua g1.T.length uc, .slice va2 g1.M.length vc2] 31 (0, 0))) := heap_alloc_last _ _; obtain ⟨x0, x1, x2, x3, x4, x5, _⟩ := RX.of' ((SU.out.block _ (Array.getElem?_eq_some_iff.1 Xr3.out).1).trans Xr3.out); obtain ⟨y0, y1, y2, y3, y4, y5, _⟩ := RX.of' ((SU.out.block _ (Array.getElem?_eq_some_iff.1 Xo3.out).1).trans Xo3.out); clear HGT hal H10)
            | (go_at_call 13; refine (HSg.out _ ua uc va2 vc2 RG.out BU.out).mono ?_; rintro e w11 ⟨rfl, hb11⟩; have S11 : Hid (Below V3.heap.size V3 w11) := SU.out.trans (hb11.mono SU.out.size); have B11 : Hid (Below w.heap.size w w11) := BU.out.trans (hb11.mono BU.out.size); have B911 : Hid (Below w9.heap.size w9 w11) := B9U.out.trans (hb11.mono B9U.out.size); have R11 : Hid (Rt w11 g1 ua uc va2 vc2) := RG.out.below hb11; clear x0 x1 x2 x3 x4 x5 y0 y1 y2 y3 y4 y5; obtain ⟨x0, x1, x2, x3, x4, x5, _⟩ := RX.of' ((S11.out.block _ (Array.getElem?_eq_some_iff.1 Xr3.out).1).trans Xr3.out); obtain ⟨y0, y1, y2, y3, y4, y5, _⟩ := RX.of' ((S11.out.block _ (Array.getElem?_eq_some_iff.1 Xo3.out).1).trans Xo3.out); obtain ⟨k0, k1, k2, k3, k4, k5, _⟩ := RX.of' ((hb11.block _ (Array.getElem?_eq_some_iff.1 Xx.out).1).trans Xx.out); clear HSg hb11)
            | (go_at_call 13; refine (HSo.out _ ua uc va2 vc2 R11.out B11.out).mono ?_; rintro e w12 ⟨rfl, hb12⟩; have S12 : Hid (Below V3.heap.size V3 w12) := S11.out.trans (hb12.mono S11.out.size); have B12 : Hid (Below w.heap.size w w12) := B11.out.trans (hb12.mono B11.out.size); have B912 : Hid (Below w9.heap.size w9 w12) := B911.out.trans (hb12.mono B911.out.size); clear x0 x1 x2 x3 x4 x5 y0 y1 y2 y3 y4 y5 k0 k1 k2 k3 k4 k5; obtain ⟨x0, x1, x2, x3, x4, x5, _⟩ := RX.of' ((S12.out.block _ (Array.getElem?_eq_some_iff.1 Xr3.out).1).trans Xr3.out); clear HSo hb12)
            | (go_at_call 16; refine (HCH.out _ B912.out).mono ?_; rintro e w13 ⟨ya, yc, yb, yd, rfl, H13⟩; have hal : Below w13.heap.size w13 (w13.alloc (.cells #[.int .i64 c.r.E, .int .i64 c.r.B, .int .i64 c.r.N, .int .i64 c.r.S, .slice ya c.r.T.length yc, .slice yb c.r.M.length yd] 31)) := (Below.refl _ _).alloc (Nat.le_refl _) _; have S13 : Hid (Below V3.heap.size V3 (w13.alloc (.cells #[.int .i64 c.r.E, .int .i64 c.r.B, .int .i64 c.r.N, .int .i64 c.r.S, .slice ya c.r.T.length yc, .slice yb c.r.M.length yd] 31))) := (S12.out.trans (H13.out.2.1.mono S12.out.size)).trans (hal.mono (Nat.le_trans S12.out.size H13.out.2.1.size)); have B13 : Hid (Below w.heap.size w (w13.alloc (.cells #[.int .i64 c.r.E, .int .i64 c.r.B, .int .i64 c.r.N, .int .i64 c.r.S, .slice ya c.r.T.length yc, .slice yb c.r.M.length yd] 31))) := BV3.out.trans (S13.out.mono BV3.out.size); have RY : Hid (Rt (w13.alloc (.cells #[.int .i64 c.r.E, .int .i64 c.r.B, .int .i64 c.r.N, .int .i64 c.r.S, .slice ya c.r.T.length yc, .slice yb c.r.M.length yd] 31)) c.r ya yc yb yd) := H13.out.1.below hal; have Xy : Hid ((w13.alloc (.cells #[.int .i64 c.r.E, .int .i64 c.r.B, .int .i64 c.r.N, .int .i64 c.r.S, .slice ya c.r.T.length yc, .slice yb c.r.M.length yd] 31)).heap[w13.heap.size]? = some (.cells #[.int .i64 c.r.E, .int .i64 c.r.B, .int .i64 c.r.N, .int .i64 c.r.S, .slice ya c.r.T.length yc, .slice yb c.r.M.length yd] 31 (0, 0))) := heap_alloc_last _ _; have S613 : Hid (Below w6.heap.size w6 (w13.alloc (.cells #[.int .i64 c.r.E, .int .i64 c.r.B, .int .i64 c.r.N, .int .i64 c.r.S, .slice ya c.r.T.length yc, .slice yb c.r.M.length yd] 31))) := (HB9.out.trans (B912.out.mono HB9.out.size)).trans (((H13.out.2.1).mono (Nat.le_trans HB9.out.size B912.out.size)).trans (hal.mono (Nat.le_trans (Nat.le_trans HB9.out.size B912.out.size) H13.out.2.1.size))); clear x0 x1 x2 x3 x4 x5; obtain ⟨x0, x1, x2, x3, x4, x5, _⟩ := RX.of' ((S13.out.block _ (Array.getElem?_eq_some_iff.1 Xr3.out).1).trans Xr3.out); clear HCH hal H13)
            | (go_at_call 13; refine (HSy.out _ ya yc yb yd RY.out B13.out).mono ?_; rintro e w14 ⟨rfl, hb14⟩; have B14 : Hid (Below w.heap.size w w14) := B13.out.trans (hb14.mono B13.out.size); have R14 : Hid (Rt w14 c.r ya yc yb yd) := RY.out.below hb14; obtain ⟨l0, l1, l2, l3, l4, l5, _⟩ := RX.of' ((hb14.block _ (Array.getElem?_eq_some_iff.1 Xy.out).1).trans Xy.out); have S614 : Hid (Below w6.heap.size w6 w14) := S613.out.trans (hb14.mono S613.out.size); obtain ⟨n0, n1, n2, n3, n4, n5, _⟩ := RX.of' ((S614.out.block _ (Array.getElem?_eq_some_iff.1 Xm6.out).1).trans Xm6.out); clear HSy hb14)
            | (go_at_call 8; refine (HA _).mono ?_; rintro e w16 ⟨rfl, hb16⟩; clear HA)
            | fail)
          go_ret
          exact ⟨rfl, B14.out.trans (hb16.mono B14.out.size)⟩
        · have hd1 : sameB c.r r = false := by simpa using hd1
          have hd2 : sameB c.r { r with E := r.E - 1 } = true := by
            rcases HCC.out.2 with e | e
            · rw [(sameB_iff c.r r).2 e] at hd1; cases hd1
            · exact (sameB_iff _ _).2 e
          have HSg : Hid (∀ W qa qc qb qd, Rt W g1 qa qc qb qd → Below w.heap.size w W → Calls Try.prog 13 #[.agg #[.int .i64 g1.E, .int .i64 g1.B, .int .i64 g1.N, .int .i64 g1.S, .slice qa g1.T.length qc, .slice qb g1.M.length qd], .agg #[.int .i64 (r).E, .int .i64 r.B, .int .i64 r.N, .int .i64 r.S, .slice ta r.T.length tc, .slice ma r.M.length mc]] W fun e w' => e = .returned (.bool false) ∧ Below W.heap.size W w') := fun W qa qc qb qd h1 h2 => by
            have h := rsame_any g1 r qa qb qc qd ta ma tc mc W h1 (HRR.out.1.below h2)
            rw [hs1] at h
            exact h
          have HSo : Hid (∀ W qa qc qb qd, Rt W g1 qa qc qb qd → Below w.heap.size w W → Calls Try.prog 13 #[.agg #[.int .i64 g1.E, .int .i64 g1.B, .int .i64 g1.N, .int .i64 g1.S, .slice qa g1.T.length qc, .slice qb g1.M.length qd], .agg #[.int .i64 (r.E - 2), .int .i64 o.B, .int .i64 o.N, .int .i64 o.S, .slice sa o.T.length sc, .slice na o.M.length nc]] W fun e w' => e = .returned (.bool true) ∧ Below W.heap.size W w') := fun W qa qc qb qd h1 h2 => by
            have h := rsame_any g1 { o with E := r.E - 2 } qa qb qc qd sa na sc nc W h1 (HRR.out.2.1.below h2)
            rw [hs2] at h
            exact h
          have HSy : Hid (∀ W qa qc qb qd, Rt W c.r qa qc qb qd → Below w.heap.size w W → Calls Try.prog 13 #[.agg #[.int .i64 c.r.E, .int .i64 c.r.B, .int .i64 c.r.N, .int .i64 c.r.S, .slice qa c.r.T.length qc, .slice qb c.r.M.length qd], .agg #[.int .i64 (r).E, .int .i64 r.B, .int .i64 r.N, .int .i64 r.S, .slice ta r.T.length tc, .slice ma r.M.length mc]] W fun e w' => e = .returned (.bool false) ∧ Below W.heap.size W w') := fun W qa qc qb qd h1 h2 => by
            have h := rsame_any c.r r qa qb qc qd ta ma tc mc W h1 (HRR.out.1.below h2)
            rw [hd1] at h
            exact h
          have HSm : Hid (∀ W qa qc qb qd, Rt W c.r qa qc qb qd → Below w.heap.size w W → Calls Try.prog 13 #[.agg #[.int .i64 c.r.E, .int .i64 c.r.B, .int .i64 c.r.N, .int .i64 c.r.S, .slice qa c.r.T.length qc, .slice qb c.r.M.length qd], .agg #[.int .i64 (r.E - 1), .int .i64 r.B, .int .i64 r.N, .int .i64 r.S, .slice ta r.T.length tc, .slice ma r.M.length mc]] W fun e w' => e = .returned (.bool true) ∧ Below W.heap.size W w') := fun W qa qc qb qd h1 h2 => by
            have h := rsame_any c.r { r with E := r.E - 1 } qa qb qc qd ta ma tc mc W h1 (HRR.out.2.2.below h2)
            rw [hd2] at h
            exact h
          go_wp2_with (first
            | (go_at_call 14; refine HGT.out.mono ?_; rintro e w10 ⟨ua, uc, va2, vc2, rfl, H10⟩; have hal : Below w10.heap.size w10 (w10.alloc (.cells #[.int .i64 g1.E, .int .i64 g1.B, .int .i64 g1.N, .int .i64 g1.S, .slice ua g1.T.length uc, .slice va2 g1.M.length vc2] 31)) := (Below.refl _ _).alloc (Nat.le_refl _) _; have B9U : Hid (Below w9.heap.size w9 (w10.alloc (.cells #[.int .i64 g1.E, .int .i64 g1.B, .int .i64 g1.N, .int .i64 g1.S, .slice ua g1.T.length uc, .slice va2 g1.M.length vc2] 31))) := H10.out.2.1.trans (hal.mono H10.out.2.1.size); have SU : Hid (Below V3.heap.size V3 (w10.alloc (.cells #[.int .i64 g1.E, .int .i64 g1.B, .int .i64 g1.N, .int .i64 g1.S, .slice ua g1.T.length uc, .slice va2 g1.M.length vc2] 31))) := S9.out.trans (B9U.out.mono S9.out.size); have BU : Hid (Below w.heap.size w (w10.alloc (.cells #[.int .i64 g1.E, .int .i64 g1.B, .int .i64 g1.N, .int .i64 g1.S, .slice ua g1.T.length uc, .slice va2 g1.M.length vc2] 31))) := BV3.out.trans (SU.out.mono BV3.out.size); have RG : Hid (Rt (w10.alloc (.cells #[.int .i64 g1.E, .int .i64 g1.B, .int .i64 g1.N, .int .i64 g1.S, .slice ua g1.T.length uc, .slice va2 g1.M.length vc2] 31)) g1 ua uc va2 vc2) := H10.out.1.below hal; have Xx : Hid ((w10.alloc (.cells #[.int .i64 g1.E, .int .i64 g1.B, .int .i64 g1.N, .int .i64 g1.S, .slice ua g1.T.length uc, .slice va2 g1.M.length vc2] 31)).heap[w10.heap.size]? = some (.cells #[.int .i64 g1.E, .int .i64 g1.B, .int .i64 g1.N, .int .i64 g1.S, .slice ua g1.T.length uc, .slice va2 g1.M.length vc2] 31 (0, 0))) := heap_alloc_last _ _; obtain ⟨x0, x1, x2, x3, x4, x5, _⟩ := RX.of' ((SU.out.block _ (Array.getElem?_eq_some_iff.1 Xr3.out).1).trans Xr3.out); obtain ⟨y0, y1, y2, y3, y4, y5, _⟩ := RX.of' ((SU.out.block _ (Array.getElem?_eq_some_iff.1 Xo3.out).1).trans Xo3.out); clear HGT hal H10)
            | (go_at_call 13; refine (HSg.out _ ua uc va2 vc2 RG.out BU.out).mono ?_; rintro e w11 ⟨rfl, hb11⟩; have S11 : Hid (Below V3.heap.size V3 w11) := SU.out.trans (hb11.mono SU.out.size); have B11 : Hid (Below w.heap.size w w11) := BU.out.trans (hb11.mono BU.out.size); have B911 : Hid (Below w9.heap.size w9 w11) := B9U.out.trans (hb11.mono B9U.out.size); have R11 : Hid (Rt w11 g1 ua uc va2 vc2) := RG.out.below hb11; clear x0 x1 x2 x3 x4 x5 y0 y1 y2 y3 y4 y5; obtain ⟨x0, x1, x2, x3, x4, x5, _⟩ := RX.of' ((S11.out.block _ (Array.getElem?_eq_some_iff.1 Xr3.out).1).trans Xr3.out); obtain ⟨y0, y1, y2, y3, y4, y5, _⟩ := RX.of' ((S11.out.block _ (Array.getElem?_eq_some_iff.1 Xo3.out).1).trans Xo3.out); obtain ⟨k0, k1, k2, k3, k4, k5, _⟩ := RX.of' ((hb11.block _ (Array.getElem?_eq_some_iff.1 Xx.out).1).trans Xx.out); clear HSg hb11)
            | (go_at_call 13; refine (HSo.out _ ua uc va2 vc2 R11.out B11.out).mono ?_; rintro e w12 ⟨rfl, hb12⟩; have S12 : Hid (Below V3.heap.size V3 w12) := S11.out.trans (hb12.mono S11.out.size); have B12 : Hid (Below w.heap.size w w12) := B11.out.trans (hb12.mono B11.out.size); have B912 : Hid (Below w9.heap.size w9 w12) := B911.out.trans (hb12.mono B911.out.size); clear x0 x1 x2 x3 x4 x5 y0 y1 y2 y3 y4 y5 k0 k1 k2 k3 k4 k5; obtain ⟨x0, x1, x2, x3, x4, x5, _⟩ := RX.of' ((S12.out.block _ (Array.getElem?_eq_some_iff.1 Xr3.out).1).trans Xr3.out); clear HSo hb12)
            | (go_at_call 16; refine (HCH.out _ B912.out).mono ?_; rintro e w13 ⟨ya, yc, yb, yd, rfl, H13⟩; have hal : Below w13.heap.size w13 (w13.alloc (.cells #[.int .i64 c.r.E, .int .i64 c.r.B, .int .i64 c.r.N, .int .i64 c.r.S, .slice ya c.r.T.length yc, .slice yb c.r.M.length yd] 31)) := (Below.refl _ _).alloc (Nat.le_refl _) _; have S13 : Hid (Below V3.heap.size V3 (w13.alloc (.cells #[.int .i64 c.r.E, .int .i64 c.r.B, .int .i64 c.r.N, .int .i64 c.r.S, .slice ya c.r.T.length yc, .slice yb c.r.M.length yd] 31))) := (S12.out.trans (H13.out.2.1.mono S12.out.size)).trans (hal.mono (Nat.le_trans S12.out.size H13.out.2.1.size)); have B13 : Hid (Below w.heap.size w (w13.alloc (.cells #[.int .i64 c.r.E, .int .i64 c.r.B, .int .i64 c.r.N, .int .i64 c.r.S, .slice ya c.r.T.length yc, .slice yb c.r.M.length yd] 31))) := BV3.out.trans (S13.out.mono BV3.out.size); have RY : Hid (Rt (w13.alloc (.cells #[.int .i64 c.r.E, .int .i64 c.r.B, .int .i64 c.r.N, .int .i64 c.r.S, .slice ya c.r.T.length yc, .slice yb c.r.M.length yd] 31)) c.r ya yc yb yd) := H13.out.1.below hal; have Xy : Hid ((w13.alloc (.cells #[.int .i64 c.r.E, .int .i64 c.r.B, .int .i64 c.r.N, .int .i64 c.r.S, .slice ya c.r.T.length yc, .slice yb c.r.M.length yd] 31)).heap[w13.heap.size]? = some (.cells #[.int .i64 c.r.E, .int .i64 c.r.B, .int .i64 c.r.N, .int .i64 c.r.S, .slice ya c.r.T.length yc, .slice yb c.r.M.length yd] 31 (0, 0))) := heap_alloc_last _ _; have S613 : Hid (Below w6.heap.size w6 (w13.alloc (.cells #[.int .i64 c.r.E, .int .i64 c.r.B, .int .i64 c.r.N, .int .i64 c.r.S, .slice ya c.r.T.length yc, .slice yb c.r.M.length yd] 31))) := (HB9.out.trans (B912.out.mono HB9.out.size)).trans (((H13.out.2.1).mono (Nat.le_trans HB9.out.size B912.out.size)).trans (hal.mono (Nat.le_trans (Nat.le_trans HB9.out.size B912.out.size) H13.out.2.1.size))); clear x0 x1 x2 x3 x4 x5; obtain ⟨x0, x1, x2, x3, x4, x5, _⟩ := RX.of' ((S13.out.block _ (Array.getElem?_eq_some_iff.1 Xr3.out).1).trans Xr3.out); clear HCH hal H13)
            | (go_at_call 13; refine (HSy.out _ ya yc yb yd RY.out B13.out).mono ?_; rintro e w14 ⟨rfl, hb14⟩; have B14 : Hid (Below w.heap.size w w14) := B13.out.trans (hb14.mono B13.out.size); have R14 : Hid (Rt w14 c.r ya yc yb yd) := RY.out.below hb14; obtain ⟨l0, l1, l2, l3, l4, l5, _⟩ := RX.of' ((hb14.block _ (Array.getElem?_eq_some_iff.1 Xy.out).1).trans Xy.out); have S614 : Hid (Below w6.heap.size w6 w14) := S613.out.trans (hb14.mono S613.out.size); obtain ⟨n0, n1, n2, n3, n4, n5, _⟩ := RX.of' ((S614.out.block _ (Array.getElem?_eq_some_iff.1 Xm6.out).1).trans Xm6.out); clear HSy hb14)
            | (go_at_call 13; refine (HSm.out _ ya yc yb yd R14.out B14.out).mono ?_; rintro e w15 ⟨rfl, hb15⟩; have B15 : Hid (Below w.heap.size w w15) := B14.out.trans (hb15.mono B14.out.size); clear HSm hb15)
            | (go_at_call 8; refine (HA _).mono ?_; rintro e w16 ⟨rfl, hb16⟩; clear HA)
            | fail)
          go_ret
          exact ⟨rfl, B15.out.trans (hb16.mono B15.out.size)⟩
    · by_cases hd1 : sameB c.r r = true
      · have hq2 : (g2 == 0) = false := by simpa using hg2
        have HSy : Hid (∀ W qa qc qb qd, Rt W c.r qa qc qb qd → Below w.heap.size w W → Calls Try.prog 13 #[.agg #[.int .i64 c.r.E, .int .i64 c.r.B, .int .i64 c.r.N, .int .i64 c.r.S, .slice qa c.r.T.length qc, .slice qb c.r.M.length qd], .agg #[.int .i64 (r).E, .int .i64 r.B, .int .i64 r.N, .int .i64 r.S, .slice ta r.T.length tc, .slice ma r.M.length mc]] W fun e w' => e = .returned (.bool true) ∧ Below W.heap.size W w') := fun W qa qc qb qd h1 h2 => by
          have h := rsame_any c.r r qa qb qc qd ta ma tc mc W h1 (HRR.out.1.below h2)
          rw [hd1] at h
          exact h
        go_wp2_with (first
          | (go_at_call 14; refine HGT.out.mono ?_; rintro e w10 ⟨ua, uc, va2, vc2, rfl, H10⟩; have hal : Below w10.heap.size w10 (w10.alloc (.cells #[.int .i64 g1.E, .int .i64 g1.B, .int .i64 g1.N, .int .i64 g1.S, .slice ua g1.T.length uc, .slice va2 g1.M.length vc2] 31)) := (Below.refl _ _).alloc (Nat.le_refl _) _; have B9U : Hid (Below w9.heap.size w9 (w10.alloc (.cells #[.int .i64 g1.E, .int .i64 g1.B, .int .i64 g1.N, .int .i64 g1.S, .slice ua g1.T.length uc, .slice va2 g1.M.length vc2] 31))) := H10.out.2.1.trans (hal.mono H10.out.2.1.size); have SU : Hid (Below V3.heap.size V3 (w10.alloc (.cells #[.int .i64 g1.E, .int .i64 g1.B, .int .i64 g1.N, .int .i64 g1.S, .slice ua g1.T.length uc, .slice va2 g1.M.length vc2] 31))) := S9.out.trans (B9U.out.mono S9.out.size); have BU : Hid (Below w.heap.size w (w10.alloc (.cells #[.int .i64 g1.E, .int .i64 g1.B, .int .i64 g1.N, .int .i64 g1.S, .slice ua g1.T.length uc, .slice va2 g1.M.length vc2] 31))) := BV3.out.trans (SU.out.mono BV3.out.size); have RG : Hid (Rt (w10.alloc (.cells #[.int .i64 g1.E, .int .i64 g1.B, .int .i64 g1.N, .int .i64 g1.S, .slice ua g1.T.length uc, .slice va2 g1.M.length vc2] 31)) g1 ua uc va2 vc2) := H10.out.1.below hal; have Xx : Hid ((w10.alloc (.cells #[.int .i64 g1.E, .int .i64 g1.B, .int .i64 g1.N, .int .i64 g1.S, .slice ua g1.T.length uc, .slice va2 g1.M.length vc2] 31)).heap[w10.heap.size]? = some (.cells #[.int .i64 g1.E, .int .i64 g1.B, .int .i64 g1.N, .int .i64 g1.S, .slice ua g1.T.length uc, .slice va2 g1.M.length vc2] 31 (0, 0))) := heap_alloc_last _ _; obtain ⟨x0, x1, x2, x3, x4, x5, _⟩ := RX.of' ((SU.out.block _ (Array.getElem?_eq_some_iff.1 Xr3.out).1).trans Xr3.out); obtain ⟨y0, y1, y2, y3, y4, y5, _⟩ := RX.of' ((SU.out.block _ (Array.getElem?_eq_some_iff.1 Xo3.out).1).trans Xo3.out); clear HGT hal H10)
          | (go_at_call 16; refine (HCH.out _ B9U.out).mono ?_; rintro e w13 ⟨ya, yc, yb, yd, rfl, H13⟩; have hal : Below w13.heap.size w13 (w13.alloc (.cells #[.int .i64 c.r.E, .int .i64 c.r.B, .int .i64 c.r.N, .int .i64 c.r.S, .slice ya c.r.T.length yc, .slice yb c.r.M.length yd] 31)) := (Below.refl _ _).alloc (Nat.le_refl _) _; have S13 : Hid (Below V3.heap.size V3 (w13.alloc (.cells #[.int .i64 c.r.E, .int .i64 c.r.B, .int .i64 c.r.N, .int .i64 c.r.S, .slice ya c.r.T.length yc, .slice yb c.r.M.length yd] 31))) := (SU.out.trans (H13.out.2.1.mono SU.out.size)).trans (hal.mono (Nat.le_trans SU.out.size H13.out.2.1.size)); have B13 : Hid (Below w.heap.size w (w13.alloc (.cells #[.int .i64 c.r.E, .int .i64 c.r.B, .int .i64 c.r.N, .int .i64 c.r.S, .slice ya c.r.T.length yc, .slice yb c.r.M.length yd] 31))) := BV3.out.trans (S13.out.mono BV3.out.size); have RY : Hid (Rt (w13.alloc (.cells #[.int .i64 c.r.E, .int .i64 c.r.B, .int .i64 c.r.N, .int .i64 c.r.S, .slice ya c.r.T.length yc, .slice yb c.r.M.length yd] 31)) c.r ya yc yb yd) := H13.out.1.below hal; have Xy : Hid ((w13.alloc (.cells #[.int .i64 c.r.E, .int .i64 c.r.B, .int .i64 c.r.N, .int .i64 c.r.S, .slice ya c.r.T.length yc, .slice yb c.r.M.length yd] 31)).heap[w13.heap.size]? = some (.cells #[.int .i64 c.r.E, .int .i64 c.r.B, .int .i64 c.r.N, .int .i64 c.r.S, .slice ya c.r.T.length yc, .slice yb c.r.M.length yd] 31 (0, 0))) := heap_alloc_last _ _; have S613 : Hid (Below w6.heap.size w6 (w13.alloc (.cells #[.int .i64 c.r.E, .int .i64 c.r.B, .int .i64 c.r.N, .int .i64 c.r.S, .slice ya c.r.T.length yc, .slice yb c.r.M.length yd] 31))) := (HB9.out.trans (B9U.out.mono HB9.out.size)).trans (((H13.out.2.1).mono (Nat.le_trans HB9.out.size B9U.out.size)).trans (hal.mono (Nat.le_trans (Nat.le_trans HB9.out.size B9U.out.size) H13.out.2.1.size))); clear x0 x1 x2 x3 x4 x5; obtain ⟨x0, x1, x2, x3, x4, x5, _⟩ := RX.of' ((S13.out.block _ (Array.getElem?_eq_some_iff.1 Xr3.out).1).trans Xr3.out); clear HCH hal H13)
          | (go_at_call 13; refine (HSy.out _ ya yc yb yd RY.out B13.out).mono ?_; rintro e w14 ⟨rfl, hb14⟩; have B14 : Hid (Below w.heap.size w w14) := B13.out.trans (hb14.mono B13.out.size); have R14 : Hid (Rt w14 c.r ya yc yb yd) := RY.out.below hb14; obtain ⟨l0, l1, l2, l3, l4, l5, _⟩ := RX.of' ((hb14.block _ (Array.getElem?_eq_some_iff.1 Xy.out).1).trans Xy.out); have S614 : Hid (Below w6.heap.size w6 w14) := S613.out.trans (hb14.mono S613.out.size); obtain ⟨n0, n1, n2, n3, n4, n5, _⟩ := RX.of' ((S614.out.block _ (Array.getElem?_eq_some_iff.1 Xm6.out).1).trans Xm6.out); clear HSy hb14)
          | (go_at_call 8; refine (HA _).mono ?_; rintro e w16 ⟨rfl, hb16⟩; clear HA)
          | fail)
        go_ret
        exact ⟨rfl, B14.out.trans (hb16.mono B14.out.size)⟩
      · have hd1 : sameB c.r r = false := by simpa using hd1
        have hd2 : sameB c.r { r with E := r.E - 1 } = true := by
          rcases HCC.out.2 with e | e
          · rw [(sameB_iff c.r r).2 e] at hd1; cases hd1
          · exact (sameB_iff _ _).2 e
        have hq2 : (g2 == 0) = false := by simpa using hg2
        have HSy : Hid (∀ W qa qc qb qd, Rt W c.r qa qc qb qd → Below w.heap.size w W → Calls Try.prog 13 #[.agg #[.int .i64 c.r.E, .int .i64 c.r.B, .int .i64 c.r.N, .int .i64 c.r.S, .slice qa c.r.T.length qc, .slice qb c.r.M.length qd], .agg #[.int .i64 (r).E, .int .i64 r.B, .int .i64 r.N, .int .i64 r.S, .slice ta r.T.length tc, .slice ma r.M.length mc]] W fun e w' => e = .returned (.bool false) ∧ Below W.heap.size W w') := fun W qa qc qb qd h1 h2 => by
          have h := rsame_any c.r r qa qb qc qd ta ma tc mc W h1 (HRR.out.1.below h2)
          rw [hd1] at h
          exact h
        have HSm : Hid (∀ W qa qc qb qd, Rt W c.r qa qc qb qd → Below w.heap.size w W → Calls Try.prog 13 #[.agg #[.int .i64 c.r.E, .int .i64 c.r.B, .int .i64 c.r.N, .int .i64 c.r.S, .slice qa c.r.T.length qc, .slice qb c.r.M.length qd], .agg #[.int .i64 (r.E - 1), .int .i64 r.B, .int .i64 r.N, .int .i64 r.S, .slice ta r.T.length tc, .slice ma r.M.length mc]] W fun e w' => e = .returned (.bool true) ∧ Below W.heap.size W w') := fun W qa qc qb qd h1 h2 => by
          have h := rsame_any c.r { r with E := r.E - 1 } qa qb qc qd ta ma tc mc W h1 (HRR.out.2.2.below h2)
          rw [hd2] at h
          exact h
        go_wp2_with (first
          | (go_at_call 14; refine HGT.out.mono ?_; rintro e w10 ⟨ua, uc, va2, vc2, rfl, H10⟩; have hal : Below w10.heap.size w10 (w10.alloc (.cells #[.int .i64 g1.E, .int .i64 g1.B, .int .i64 g1.N, .int .i64 g1.S, .slice ua g1.T.length uc, .slice va2 g1.M.length vc2] 31)) := (Below.refl _ _).alloc (Nat.le_refl _) _; have B9U : Hid (Below w9.heap.size w9 (w10.alloc (.cells #[.int .i64 g1.E, .int .i64 g1.B, .int .i64 g1.N, .int .i64 g1.S, .slice ua g1.T.length uc, .slice va2 g1.M.length vc2] 31))) := H10.out.2.1.trans (hal.mono H10.out.2.1.size); have SU : Hid (Below V3.heap.size V3 (w10.alloc (.cells #[.int .i64 g1.E, .int .i64 g1.B, .int .i64 g1.N, .int .i64 g1.S, .slice ua g1.T.length uc, .slice va2 g1.M.length vc2] 31))) := S9.out.trans (B9U.out.mono S9.out.size); have BU : Hid (Below w.heap.size w (w10.alloc (.cells #[.int .i64 g1.E, .int .i64 g1.B, .int .i64 g1.N, .int .i64 g1.S, .slice ua g1.T.length uc, .slice va2 g1.M.length vc2] 31))) := BV3.out.trans (SU.out.mono BV3.out.size); have RG : Hid (Rt (w10.alloc (.cells #[.int .i64 g1.E, .int .i64 g1.B, .int .i64 g1.N, .int .i64 g1.S, .slice ua g1.T.length uc, .slice va2 g1.M.length vc2] 31)) g1 ua uc va2 vc2) := H10.out.1.below hal; have Xx : Hid ((w10.alloc (.cells #[.int .i64 g1.E, .int .i64 g1.B, .int .i64 g1.N, .int .i64 g1.S, .slice ua g1.T.length uc, .slice va2 g1.M.length vc2] 31)).heap[w10.heap.size]? = some (.cells #[.int .i64 g1.E, .int .i64 g1.B, .int .i64 g1.N, .int .i64 g1.S, .slice ua g1.T.length uc, .slice va2 g1.M.length vc2] 31 (0, 0))) := heap_alloc_last _ _; obtain ⟨x0, x1, x2, x3, x4, x5, _⟩ := RX.of' ((SU.out.block _ (Array.getElem?_eq_some_iff.1 Xr3.out).1).trans Xr3.out); obtain ⟨y0, y1, y2, y3, y4, y5, _⟩ := RX.of' ((SU.out.block _ (Array.getElem?_eq_some_iff.1 Xo3.out).1).trans Xo3.out); clear HGT hal H10)
          | (go_at_call 16; refine (HCH.out _ B9U.out).mono ?_; rintro e w13 ⟨ya, yc, yb, yd, rfl, H13⟩; have hal : Below w13.heap.size w13 (w13.alloc (.cells #[.int .i64 c.r.E, .int .i64 c.r.B, .int .i64 c.r.N, .int .i64 c.r.S, .slice ya c.r.T.length yc, .slice yb c.r.M.length yd] 31)) := (Below.refl _ _).alloc (Nat.le_refl _) _; have S13 : Hid (Below V3.heap.size V3 (w13.alloc (.cells #[.int .i64 c.r.E, .int .i64 c.r.B, .int .i64 c.r.N, .int .i64 c.r.S, .slice ya c.r.T.length yc, .slice yb c.r.M.length yd] 31))) := (SU.out.trans (H13.out.2.1.mono SU.out.size)).trans (hal.mono (Nat.le_trans SU.out.size H13.out.2.1.size)); have B13 : Hid (Below w.heap.size w (w13.alloc (.cells #[.int .i64 c.r.E, .int .i64 c.r.B, .int .i64 c.r.N, .int .i64 c.r.S, .slice ya c.r.T.length yc, .slice yb c.r.M.length yd] 31))) := BV3.out.trans (S13.out.mono BV3.out.size); have RY : Hid (Rt (w13.alloc (.cells #[.int .i64 c.r.E, .int .i64 c.r.B, .int .i64 c.r.N, .int .i64 c.r.S, .slice ya c.r.T.length yc, .slice yb c.r.M.length yd] 31)) c.r ya yc yb yd) := H13.out.1.below hal; have Xy : Hid ((w13.alloc (.cells #[.int .i64 c.r.E, .int .i64 c.r.B, .int .i64 c.r.N, .int .i64 c.r.S, .slice ya c.r.T.length yc, .slice yb c.r.M.length yd] 31)).heap[w13.heap.size]? = some (.cells #[.int .i64 c.r.E, .int .i64 c.r.B, .int .i64 c.r.N, .int .i64 c.r.S, .slice ya c.r.T.length yc, .slice yb c.r.M.length yd] 31 (0, 0))) := heap_alloc_last _ _; have S613 : Hid (Below w6.heap.size w6 (w13.alloc (.cells #[.int .i64 c.r.E, .int .i64 c.r.B, .int .i64 c.r.N, .int .i64 c.r.S, .slice ya c.r.T.length yc, .slice yb c.r.M.length yd] 31))) := (HB9.out.trans (B9U.out.mono HB9.out.size)).trans (((H13.out.2.1).mono (Nat.le_trans HB9.out.size B9U.out.size)).trans (hal.mono (Nat.le_trans (Nat.le_trans HB9.out.size B9U.out.size) H13.out.2.1.size))); clear x0 x1 x2 x3 x4 x5; obtain ⟨x0, x1, x2, x3, x4, x5, _⟩ := RX.of' ((S13.out.block _ (Array.getElem?_eq_some_iff.1 Xr3.out).1).trans Xr3.out); clear HCH hal H13)
          | (go_at_call 13; refine (HSy.out _ ya yc yb yd RY.out B13.out).mono ?_; rintro e w14 ⟨rfl, hb14⟩; have B14 : Hid (Below w.heap.size w w14) := B13.out.trans (hb14.mono B13.out.size); have R14 : Hid (Rt w14 c.r ya yc yb yd) := RY.out.below hb14; obtain ⟨l0, l1, l2, l3, l4, l5, _⟩ := RX.of' ((hb14.block _ (Array.getElem?_eq_some_iff.1 Xy.out).1).trans Xy.out); have S614 : Hid (Below w6.heap.size w6 w14) := S613.out.trans (hb14.mono S613.out.size); obtain ⟨n0, n1, n2, n3, n4, n5, _⟩ := RX.of' ((S614.out.block _ (Array.getElem?_eq_some_iff.1 Xm6.out).1).trans Xm6.out); clear HSy hb14)
          | (go_at_call 13; refine (HSm.out _ ya yc yb yd R14.out B14.out).mono ?_; rintro e w15 ⟨rfl, hb15⟩; have B15 : Hid (Below w.heap.size w w15) := B14.out.trans (hb15.mono B14.out.size); clear HSm hb15)
          | (go_at_call 8; refine (HA _).mono ?_; rintro e w16 ⟨rfl, hb16⟩; clear HA)
          | fail)
        go_ret
        exact ⟨rfl, B15.out.trans (hb16.mono B15.out.size)⟩
  · have hpq : (r.E.tmod 2 == 1) = false := by simpa using hpar
    have hpar0 : r.E.tmod 2 = 0 := by rw [Int.tmod_eq_emod_of_nonneg (by omega)] at hpar ⊢; omega
    have hpe : r.E % 2 = 0 := by rw [Int.tmod_eq_emod_of_nonneg (by omega)] at hpar0; exact hpar0
    obtain ⟨c, hc⟩ : ∃ c, chS ts zc 2 = c := ⟨_, rfl⟩
    have HCC : Hid (c.e = 0 ∧ (c.r = r ∨ c.r = { r with E := r.E - 1 })) := by
      have h := torn_even HGC.out (by show (r.E - 1).tmod 2 = 1; rw [Int.tmod_eq_emod_of_nonneg (by omega)]; omega) hpar0 (by show (r.E - 2).tmod 2 = 0; rw [Int.tmod_eq_emod_of_nonneg (by omega)]; omega) (by show ¬ r.E < r.E - 1; omega) (by show r.E - 2 < r.E - 1; omega) HTS.out
      rw [hc] at h
      exact h
    have HCH : Hid (∀ W, Below w9.heap.size w9 W → Calls Try.prog 16 #[.slice va 256 vc, .slice p3a 256 p3c] W fun e w' => ∃ ta tc ma mc, e = .returned (.tuple #[rootV c.r ta tc ma mc, .int .i64 c.n, .int .i64 0]) ∧ Hid (Rt w' c.r ta tc ma mc ∧ Below W.heap.size W w' ∧ IVh W.heap.size w' ta c.r.T ∧ IVh W.heap.size w' ma c.r.M)) := fun W hW => by
      have h := choose_ans (HTB.out.1.below hW) (HV3.out.1.below (HB9.out.trans (hW.mono HB9.out.size))) HTB.out.2.1 HLA.out.2.2.1 HTB.out.2.2.1 HHC.out.2 HTB.out.2.2.2 HHC.out.1 hc
      rw [HCC.out.1] at h
      exact h
    unfold rootV at HCH
    clear hc
    by_cases hg2 : g2 = 0
    · subst hg2
      by_cases hs1 : sameB g1 r = true
      · by_cases hd1 : sameB c.r r = true
        · have HSg : Hid (∀ W qa qc qb qd, Rt W g1 qa qc qb qd → Below w.heap.size w W → Calls Try.prog 13 #[.agg #[.int .i64 g1.E, .int .i64 g1.B, .int .i64 g1.N, .int .i64 g1.S, .slice qa g1.T.length qc, .slice qb g1.M.length qd], .agg #[.int .i64 (r).E, .int .i64 r.B, .int .i64 r.N, .int .i64 r.S, .slice ta r.T.length tc, .slice ma r.M.length mc]] W fun e w' => e = .returned (.bool true) ∧ Below W.heap.size W w') := fun W qa qc qb qd h1 h2 => by
            have h := rsame_any g1 r qa qb qc qd ta ma tc mc W h1 (HRR.out.1.below h2)
            rw [hs1] at h
            exact h
          have HSy : Hid (∀ W qa qc qb qd, Rt W c.r qa qc qb qd → Below w.heap.size w W → Calls Try.prog 13 #[.agg #[.int .i64 c.r.E, .int .i64 c.r.B, .int .i64 c.r.N, .int .i64 c.r.S, .slice qa c.r.T.length qc, .slice qb c.r.M.length qd], .agg #[.int .i64 (r).E, .int .i64 r.B, .int .i64 r.N, .int .i64 r.S, .slice ta r.T.length tc, .slice ma r.M.length mc]] W fun e w' => e = .returned (.bool true) ∧ Below W.heap.size W w') := fun W qa qc qb qd h1 h2 => by
            have h := rsame_any c.r r qa qb qc qd ta ma tc mc W h1 (HRR.out.1.below h2)
            rw [hd1] at h
            exact h
          go_wp2_with (first
            | (go_at_call 14; refine HGT.out.mono ?_; rintro e w10 ⟨ua, uc, va2, vc2, rfl, H10⟩; have hal : Below w10.heap.size w10 (w10.alloc (.cells #[.int .i64 g1.E, .int .i64 g1.B, .int .i64 g1.N, .int .i64 g1.S, .slice ua g1.T.length uc, .slice va2 g1.M.length vc2] 31)) := (Below.refl _ _).alloc (Nat.le_refl _) _; have B9U : Hid (Below w9.heap.size w9 (w10.alloc (.cells #[.int .i64 g1.E, .int .i64 g1.B, .int .i64 g1.N, .int .i64 g1.S, .slice ua g1.T.length uc, .slice va2 g1.M.length vc2] 31))) := H10.out.2.1.trans (hal.mono H10.out.2.1.size); have SU : Hid (Below V3.heap.size V3 (w10.alloc (.cells #[.int .i64 g1.E, .int .i64 g1.B, .int .i64 g1.N, .int .i64 g1.S, .slice ua g1.T.length uc, .slice va2 g1.M.length vc2] 31))) := S9.out.trans (B9U.out.mono S9.out.size); have BU : Hid (Below w.heap.size w (w10.alloc (.cells #[.int .i64 g1.E, .int .i64 g1.B, .int .i64 g1.N, .int .i64 g1.S, .slice ua g1.T.length uc, .slice va2 g1.M.length vc2] 31))) := BV3.out.trans (SU.out.mono BV3.out.size); have RG : Hid (Rt (w10.alloc (.cells #[.int .i64 g1.E, .int .i64 g1.B, .int .i64 g1.N, .int .i64 g1.S, .slice ua g1.T.length uc, .slice va2 g1.M.length vc2] 31)) g1 ua uc va2 vc2) := H10.out.1.below hal; have Xx : Hid ((w10.alloc (.cells #[.int .i64 g1.E, .int .i64 g1.B, .int .i64 g1.N, .int .i64 g1.S, .slice ua g1.T.length uc, .slice va2 g1.M.length vc2] 31)).heap[w10.heap.size]? = some (.cells #[.int .i64 g1.E, .int .i64 g1.B, .int .i64 g1.N, .int .i64 g1.S, .slice ua g1.T.length uc, .slice va2 g1.M.length vc2] 31 (0, 0))) := heap_alloc_last _ _; obtain ⟨x0, x1, x2, x3, x4, x5, _⟩ := RX.of' ((SU.out.block _ (Array.getElem?_eq_some_iff.1 Xr3.out).1).trans Xr3.out); obtain ⟨y0, y1, y2, y3, y4, y5, _⟩ := RX.of' ((SU.out.block _ (Array.getElem?_eq_some_iff.1 Xo3.out).1).trans Xo3.out); clear HGT hal H10)
            | (go_at_call 13; refine (HSg.out _ ua uc va2 vc2 RG.out BU.out).mono ?_; rintro e w11 ⟨rfl, hb11⟩; have S11 : Hid (Below V3.heap.size V3 w11) := SU.out.trans (hb11.mono SU.out.size); have B11 : Hid (Below w.heap.size w w11) := BU.out.trans (hb11.mono BU.out.size); have B911 : Hid (Below w9.heap.size w9 w11) := B9U.out.trans (hb11.mono B9U.out.size); have R11 : Hid (Rt w11 g1 ua uc va2 vc2) := RG.out.below hb11; clear x0 x1 x2 x3 x4 x5 y0 y1 y2 y3 y4 y5; obtain ⟨x0, x1, x2, x3, x4, x5, _⟩ := RX.of' ((S11.out.block _ (Array.getElem?_eq_some_iff.1 Xr3.out).1).trans Xr3.out); obtain ⟨y0, y1, y2, y3, y4, y5, _⟩ := RX.of' ((S11.out.block _ (Array.getElem?_eq_some_iff.1 Xo3.out).1).trans Xo3.out); obtain ⟨k0, k1, k2, k3, k4, k5, _⟩ := RX.of' ((hb11.block _ (Array.getElem?_eq_some_iff.1 Xx.out).1).trans Xx.out); clear HSg hb11)
            | (go_at_call 16; refine (HCH.out _ B911.out).mono ?_; rintro e w13 ⟨ya, yc, yb, yd, rfl, H13⟩; have hal : Below w13.heap.size w13 (w13.alloc (.cells #[.int .i64 c.r.E, .int .i64 c.r.B, .int .i64 c.r.N, .int .i64 c.r.S, .slice ya c.r.T.length yc, .slice yb c.r.M.length yd] 31)) := (Below.refl _ _).alloc (Nat.le_refl _) _; have S13 : Hid (Below V3.heap.size V3 (w13.alloc (.cells #[.int .i64 c.r.E, .int .i64 c.r.B, .int .i64 c.r.N, .int .i64 c.r.S, .slice ya c.r.T.length yc, .slice yb c.r.M.length yd] 31))) := (S11.out.trans (H13.out.2.1.mono S11.out.size)).trans (hal.mono (Nat.le_trans S11.out.size H13.out.2.1.size)); have B13 : Hid (Below w.heap.size w (w13.alloc (.cells #[.int .i64 c.r.E, .int .i64 c.r.B, .int .i64 c.r.N, .int .i64 c.r.S, .slice ya c.r.T.length yc, .slice yb c.r.M.length yd] 31))) := BV3.out.trans (S13.out.mono BV3.out.size); have RY : Hid (Rt (w13.alloc (.cells #[.int .i64 c.r.E, .int .i64 c.r.B, .int .i64 c.r.N, .int .i64 c.r.S, .slice ya c.r.T.length yc, .slice yb c.r.M.length yd] 31)) c.r ya yc yb yd) := H13.out.1.below hal; have Xy : Hid ((w13.alloc (.cells #[.int .i64 c.r.E, .int .i64 c.r.B, .int .i64 c.r.N, .int .i64 c.r.S, .slice ya c.r.T.length yc, .slice yb c.r.M.length yd] 31)).heap[w13.heap.size]? = some (.cells #[.int .i64 c.r.E, .int .i64 c.r.B, .int .i64 c.r.N, .int .i64 c.r.S, .slice ya c.r.T.length yc, .slice yb c.r.M.length yd] 31 (0, 0))) := heap_alloc_last _ _; have S613 : Hid (Below w6.heap.size w6 (w13.alloc (.cells #[.int .i64 c.r.E, .int .i64 c.r.B, .int .i64 c.r.N, .int .i64 c.r.S, .slice ya c.r.T.length yc, .slice yb c.r.M.length yd] 31))) := (HB9.out.trans (B911.out.mono HB9.out.size)).trans (((H13.out.2.1).mono (Nat.le_trans HB9.out.size B911.out.size)).trans (hal.mono (Nat.le_trans (Nat.le_trans HB9.out.size B911.out.size) H13.out.2.1.size))); clear x0 x1 x2 x3 x4 x5; obtain ⟨x0, x1, x2, x3, x4, x5, _⟩ := RX.of' ((S13.out.block _ (Array.getElem?_eq_some_iff.1 Xr3.out).1).trans Xr3.out); clear HCH hal H13)
            | (go_at_call 13; refine (HSy.out _ ya yc yb yd RY.out B13.out).mono ?_; rintro e w14 ⟨rfl, hb14⟩; have B14 : Hid (Below w.heap.size w w14) := B13.out.trans (hb14.mono B13.out.size); have R14 : Hid (Rt w14 c.r ya yc yb yd) := RY.out.below hb14; obtain ⟨l0, l1, l2, l3, l4, l5, _⟩ := RX.of' ((hb14.block _ (Array.getElem?_eq_some_iff.1 Xy.out).1).trans Xy.out); have S614 : Hid (Below w6.heap.size w6 w14) := S613.out.trans (hb14.mono S613.out.size); obtain ⟨n0, n1, n2, n3, n4, n5, _⟩ := RX.of' ((S614.out.block _ (Array.getElem?_eq_some_iff.1 Xm6.out).1).trans Xm6.out); clear HSy hb14)
            | (go_at_call 8; refine (HA _).mono ?_; rintro e w16 ⟨rfl, hb16⟩; clear HA)
            | fail)
          go_ret
          exact ⟨rfl, B14.out.trans (hb16.mono B14.out.size)⟩
        · have hd1 : sameB c.r r = false := by simpa using hd1
          have hd2 : sameB c.r { r with E := r.E - 1 } = true := by
            rcases HCC.out.2 with e | e
            · rw [(sameB_iff c.r r).2 e] at hd1; cases hd1
            · exact (sameB_iff _ _).2 e
          have HSg : Hid (∀ W qa qc qb qd, Rt W g1 qa qc qb qd → Below w.heap.size w W → Calls Try.prog 13 #[.agg #[.int .i64 g1.E, .int .i64 g1.B, .int .i64 g1.N, .int .i64 g1.S, .slice qa g1.T.length qc, .slice qb g1.M.length qd], .agg #[.int .i64 (r).E, .int .i64 r.B, .int .i64 r.N, .int .i64 r.S, .slice ta r.T.length tc, .slice ma r.M.length mc]] W fun e w' => e = .returned (.bool true) ∧ Below W.heap.size W w') := fun W qa qc qb qd h1 h2 => by
            have h := rsame_any g1 r qa qb qc qd ta ma tc mc W h1 (HRR.out.1.below h2)
            rw [hs1] at h
            exact h
          have HSy : Hid (∀ W qa qc qb qd, Rt W c.r qa qc qb qd → Below w.heap.size w W → Calls Try.prog 13 #[.agg #[.int .i64 c.r.E, .int .i64 c.r.B, .int .i64 c.r.N, .int .i64 c.r.S, .slice qa c.r.T.length qc, .slice qb c.r.M.length qd], .agg #[.int .i64 (r).E, .int .i64 r.B, .int .i64 r.N, .int .i64 r.S, .slice ta r.T.length tc, .slice ma r.M.length mc]] W fun e w' => e = .returned (.bool false) ∧ Below W.heap.size W w') := fun W qa qc qb qd h1 h2 => by
            have h := rsame_any c.r r qa qb qc qd ta ma tc mc W h1 (HRR.out.1.below h2)
            rw [hd1] at h
            exact h
          have HSm : Hid (∀ W qa qc qb qd, Rt W c.r qa qc qb qd → Below w.heap.size w W → Calls Try.prog 13 #[.agg #[.int .i64 c.r.E, .int .i64 c.r.B, .int .i64 c.r.N, .int .i64 c.r.S, .slice qa c.r.T.length qc, .slice qb c.r.M.length qd], .agg #[.int .i64 (r.E - 1), .int .i64 r.B, .int .i64 r.N, .int .i64 r.S, .slice ta r.T.length tc, .slice ma r.M.length mc]] W fun e w' => e = .returned (.bool true) ∧ Below W.heap.size W w') := fun W qa qc qb qd h1 h2 => by
            have h := rsame_any c.r { r with E := r.E - 1 } qa qb qc qd ta ma tc mc W h1 (HRR.out.2.2.below h2)
            rw [hd2] at h
            exact h
          go_wp2_with (first
            | (go_at_call 14; refine HGT.out.mono ?_; rintro e w10 ⟨ua, uc, va2, vc2, rfl, H10⟩; have hal : Below w10.heap.size w10 (w10.alloc (.cells #[.int .i64 g1.E, .int .i64 g1.B, .int .i64 g1.N, .int .i64 g1.S, .slice ua g1.T.length uc, .slice va2 g1.M.length vc2] 31)) := (Below.refl _ _).alloc (Nat.le_refl _) _; have B9U : Hid (Below w9.heap.size w9 (w10.alloc (.cells #[.int .i64 g1.E, .int .i64 g1.B, .int .i64 g1.N, .int .i64 g1.S, .slice ua g1.T.length uc, .slice va2 g1.M.length vc2] 31))) := H10.out.2.1.trans (hal.mono H10.out.2.1.size); have SU : Hid (Below V3.heap.size V3 (w10.alloc (.cells #[.int .i64 g1.E, .int .i64 g1.B, .int .i64 g1.N, .int .i64 g1.S, .slice ua g1.T.length uc, .slice va2 g1.M.length vc2] 31))) := S9.out.trans (B9U.out.mono S9.out.size); have BU : Hid (Below w.heap.size w (w10.alloc (.cells #[.int .i64 g1.E, .int .i64 g1.B, .int .i64 g1.N, .int .i64 g1.S, .slice ua g1.T.length uc, .slice va2 g1.M.length vc2] 31))) := BV3.out.trans (SU.out.mono BV3.out.size); have RG : Hid (Rt (w10.alloc (.cells #[.int .i64 g1.E, .int .i64 g1.B, .int .i64 g1.N, .int .i64 g1.S, .slice ua g1.T.length uc, .slice va2 g1.M.length vc2] 31)) g1 ua uc va2 vc2) := H10.out.1.below hal; have Xx : Hid ((w10.alloc (.cells #[.int .i64 g1.E, .int .i64 g1.B, .int .i64 g1.N, .int .i64 g1.S, .slice ua g1.T.length uc, .slice va2 g1.M.length vc2] 31)).heap[w10.heap.size]? = some (.cells #[.int .i64 g1.E, .int .i64 g1.B, .int .i64 g1.N, .int .i64 g1.S, .slice ua g1.T.length uc, .slice va2 g1.M.length vc2] 31 (0, 0))) := heap_alloc_last _ _; obtain ⟨x0, x1, x2, x3, x4, x5, _⟩ := RX.of' ((SU.out.block _ (Array.getElem?_eq_some_iff.1 Xr3.out).1).trans Xr3.out); obtain ⟨y0, y1, y2, y3, y4, y5, _⟩ := RX.of' ((SU.out.block _ (Array.getElem?_eq_some_iff.1 Xo3.out).1).trans Xo3.out); clear HGT hal H10)
            | (go_at_call 13; refine (HSg.out _ ua uc va2 vc2 RG.out BU.out).mono ?_; rintro e w11 ⟨rfl, hb11⟩; have S11 : Hid (Below V3.heap.size V3 w11) := SU.out.trans (hb11.mono SU.out.size); have B11 : Hid (Below w.heap.size w w11) := BU.out.trans (hb11.mono BU.out.size); have B911 : Hid (Below w9.heap.size w9 w11) := B9U.out.trans (hb11.mono B9U.out.size); have R11 : Hid (Rt w11 g1 ua uc va2 vc2) := RG.out.below hb11; clear x0 x1 x2 x3 x4 x5 y0 y1 y2 y3 y4 y5; obtain ⟨x0, x1, x2, x3, x4, x5, _⟩ := RX.of' ((S11.out.block _ (Array.getElem?_eq_some_iff.1 Xr3.out).1).trans Xr3.out); obtain ⟨y0, y1, y2, y3, y4, y5, _⟩ := RX.of' ((S11.out.block _ (Array.getElem?_eq_some_iff.1 Xo3.out).1).trans Xo3.out); obtain ⟨k0, k1, k2, k3, k4, k5, _⟩ := RX.of' ((hb11.block _ (Array.getElem?_eq_some_iff.1 Xx.out).1).trans Xx.out); clear HSg hb11)
            | (go_at_call 16; refine (HCH.out _ B911.out).mono ?_; rintro e w13 ⟨ya, yc, yb, yd, rfl, H13⟩; have hal : Below w13.heap.size w13 (w13.alloc (.cells #[.int .i64 c.r.E, .int .i64 c.r.B, .int .i64 c.r.N, .int .i64 c.r.S, .slice ya c.r.T.length yc, .slice yb c.r.M.length yd] 31)) := (Below.refl _ _).alloc (Nat.le_refl _) _; have S13 : Hid (Below V3.heap.size V3 (w13.alloc (.cells #[.int .i64 c.r.E, .int .i64 c.r.B, .int .i64 c.r.N, .int .i64 c.r.S, .slice ya c.r.T.length yc, .slice yb c.r.M.length yd] 31))) := (S11.out.trans (H13.out.2.1.mono S11.out.size)).trans (hal.mono (Nat.le_trans S11.out.size H13.out.2.1.size)); have B13 : Hid (Below w.heap.size w (w13.alloc (.cells #[.int .i64 c.r.E, .int .i64 c.r.B, .int .i64 c.r.N, .int .i64 c.r.S, .slice ya c.r.T.length yc, .slice yb c.r.M.length yd] 31))) := BV3.out.trans (S13.out.mono BV3.out.size); have RY : Hid (Rt (w13.alloc (.cells #[.int .i64 c.r.E, .int .i64 c.r.B, .int .i64 c.r.N, .int .i64 c.r.S, .slice ya c.r.T.length yc, .slice yb c.r.M.length yd] 31)) c.r ya yc yb yd) := H13.out.1.below hal; have Xy : Hid ((w13.alloc (.cells #[.int .i64 c.r.E, .int .i64 c.r.B, .int .i64 c.r.N, .int .i64 c.r.S, .slice ya c.r.T.length yc, .slice yb c.r.M.length yd] 31)).heap[w13.heap.size]? = some (.cells #[.int .i64 c.r.E, .int .i64 c.r.B, .int .i64 c.r.N, .int .i64 c.r.S, .slice ya c.r.T.length yc, .slice yb c.r.M.length yd] 31 (0, 0))) := heap_alloc_last _ _; have S613 : Hid (Below w6.heap.size w6 (w13.alloc (.cells #[.int .i64 c.r.E, .int .i64 c.r.B, .int .i64 c.r.N, .int .i64 c.r.S, .slice ya c.r.T.length yc, .slice yb c.r.M.length yd] 31))) := (HB9.out.trans (B911.out.mono HB9.out.size)).trans (((H13.out.2.1).mono (Nat.le_trans HB9.out.size B911.out.size)).trans (hal.mono (Nat.le_trans (Nat.le_trans HB9.out.size B911.out.size) H13.out.2.1.size))); clear x0 x1 x2 x3 x4 x5; obtain ⟨x0, x1, x2, x3, x4, x5, _⟩ := RX.of' ((S13.out.block _ (Array.getElem?_eq_some_iff.1 Xr3.out).1).trans Xr3.out); clear HCH hal H13)
            | (go_at_call 13; refine (HSy.out _ ya yc yb yd RY.out B13.out).mono ?_; rintro e w14 ⟨rfl, hb14⟩; have B14 : Hid (Below w.heap.size w w14) := B13.out.trans (hb14.mono B13.out.size); have R14 : Hid (Rt w14 c.r ya yc yb yd) := RY.out.below hb14; obtain ⟨l0, l1, l2, l3, l4, l5, _⟩ := RX.of' ((hb14.block _ (Array.getElem?_eq_some_iff.1 Xy.out).1).trans Xy.out); have S614 : Hid (Below w6.heap.size w6 w14) := S613.out.trans (hb14.mono S613.out.size); obtain ⟨n0, n1, n2, n3, n4, n5, _⟩ := RX.of' ((S614.out.block _ (Array.getElem?_eq_some_iff.1 Xm6.out).1).trans Xm6.out); clear HSy hb14)
            | (go_at_call 13; refine (HSm.out _ ya yc yb yd R14.out B14.out).mono ?_; rintro e w15 ⟨rfl, hb15⟩; have B15 : Hid (Below w.heap.size w w15) := B14.out.trans (hb15.mono B14.out.size); clear HSm hb15)
            | (go_at_call 8; refine (HA _).mono ?_; rintro e w16 ⟨rfl, hb16⟩; clear HA)
            | fail)
          go_ret
          exact ⟨rfl, B15.out.trans (hb16.mono B15.out.size)⟩
      · have hs1 : sameB g1 r = false := by simpa using hs1
        have hs2 : sameB g1 { o with E := r.E - 2 } = true := by
          rcases HTG.out rfl with e | e
          · rw [(sameB_iff g1 r).2 e] at hs1; cases hs1
          · exact (sameB_iff _ _).2 e
        by_cases hd1 : sameB c.r r = true
        · have HSg : Hid (∀ W qa qc qb qd, Rt W g1 qa qc qb qd → Below w.heap.size w W → Calls Try.prog 13 #[.agg #[.int .i64 g1.E, .int .i64 g1.B, .int .i64 g1.N, .int .i64 g1.S, .slice qa g1.T.length qc, .slice qb g1.M.length qd], .agg #[.int .i64 (r).E, .int .i64 r.B, .int .i64 r.N, .int .i64 r.S, .slice ta r.T.length tc, .slice ma r.M.length mc]] W fun e w' => e = .returned (.bool false) ∧ Below W.heap.size W w') := fun W qa qc qb qd h1 h2 => by
            have h := rsame_any g1 r qa qb qc qd ta ma tc mc W h1 (HRR.out.1.below h2)
            rw [hs1] at h
            exact h
          have HSo : Hid (∀ W qa qc qb qd, Rt W g1 qa qc qb qd → Below w.heap.size w W → Calls Try.prog 13 #[.agg #[.int .i64 g1.E, .int .i64 g1.B, .int .i64 g1.N, .int .i64 g1.S, .slice qa g1.T.length qc, .slice qb g1.M.length qd], .agg #[.int .i64 (r.E - 2), .int .i64 o.B, .int .i64 o.N, .int .i64 o.S, .slice sa o.T.length sc, .slice na o.M.length nc]] W fun e w' => e = .returned (.bool true) ∧ Below W.heap.size W w') := fun W qa qc qb qd h1 h2 => by
            have h := rsame_any g1 { o with E := r.E - 2 } qa qb qc qd sa na sc nc W h1 (HRR.out.2.1.below h2)
            rw [hs2] at h
            exact h
          have HSy : Hid (∀ W qa qc qb qd, Rt W c.r qa qc qb qd → Below w.heap.size w W → Calls Try.prog 13 #[.agg #[.int .i64 c.r.E, .int .i64 c.r.B, .int .i64 c.r.N, .int .i64 c.r.S, .slice qa c.r.T.length qc, .slice qb c.r.M.length qd], .agg #[.int .i64 (r).E, .int .i64 r.B, .int .i64 r.N, .int .i64 r.S, .slice ta r.T.length tc, .slice ma r.M.length mc]] W fun e w' => e = .returned (.bool true) ∧ Below W.heap.size W w') := fun W qa qc qb qd h1 h2 => by
            have h := rsame_any c.r r qa qb qc qd ta ma tc mc W h1 (HRR.out.1.below h2)
            rw [hd1] at h
            exact h
          go_wp2_with (first
            | (go_at_call 14; refine HGT.out.mono ?_; rintro e w10 ⟨ua, uc, va2, vc2, rfl, H10⟩; have hal : Below w10.heap.size w10 (w10.alloc (.cells #[.int .i64 g1.E, .int .i64 g1.B, .int .i64 g1.N, .int .i64 g1.S, .slice ua g1.T.length uc, .slice va2 g1.M.length vc2] 31)) := (Below.refl _ _).alloc (Nat.le_refl _) _; have B9U : Hid (Below w9.heap.size w9 (w10.alloc (.cells #[.int .i64 g1.E, .int .i64 g1.B, .int .i64 g1.N, .int .i64 g1.S, .slice ua g1.T.length uc, .slice va2 g1.M.length vc2] 31))) := H10.out.2.1.trans (hal.mono H10.out.2.1.size); have SU : Hid (Below V3.heap.size V3 (w10.alloc (.cells #[.int .i64 g1.E, .int .i64 g1.B, .int .i64 g1.N, .int .i64 g1.S, .slice ua g1.T.length uc, .slice va2 g1.M.length vc2] 31))) := S9.out.trans (B9U.out.mono S9.out.size); have BU : Hid (Below w.heap.size w (w10.alloc (.cells #[.int .i64 g1.E, .int .i64 g1.B, .int .i64 g1.N, .int .i64 g1.S, .slice ua g1.T.length uc, .slice va2 g1.M.length vc2] 31))) := BV3.out.trans (SU.out.mono BV3.out.size); have RG : Hid (Rt (w10.alloc (.cells #[.int .i64 g1.E, .int .i64 g1.B, .int .i64 g1.N, .int .i64 g1.S, .slice ua g1.T.length uc, .slice va2 g1.M.length vc2] 31)) g1 ua uc va2 vc2) := H10.out.1.below hal; have Xx : Hid ((w10.alloc (.cells #[.int .i64 g1.E, .int .i64 g1.B, .int .i64 g1.N, .int .i64 g1.S, .slice ua g1.T.length uc, .slice va2 g1.M.length vc2] 31)).heap[w10.heap.size]? = some (.cells #[.int .i64 g1.E, .int .i64 g1.B, .int .i64 g1.N, .int .i64 g1.S, .slice ua g1.T.length uc, .slice va2 g1.M.length vc2] 31 (0, 0))) := heap_alloc_last _ _; obtain ⟨x0, x1, x2, x3, x4, x5, _⟩ := RX.of' ((SU.out.block _ (Array.getElem?_eq_some_iff.1 Xr3.out).1).trans Xr3.out); obtain ⟨y0, y1, y2, y3, y4, y5, _⟩ := RX.of' ((SU.out.block _ (Array.getElem?_eq_some_iff.1 Xo3.out).1).trans Xo3.out); clear HGT hal H10)
            | (go_at_call 13; refine (HSg.out _ ua uc va2 vc2 RG.out BU.out).mono ?_; rintro e w11 ⟨rfl, hb11⟩; have S11 : Hid (Below V3.heap.size V3 w11) := SU.out.trans (hb11.mono SU.out.size); have B11 : Hid (Below w.heap.size w w11) := BU.out.trans (hb11.mono BU.out.size); have B911 : Hid (Below w9.heap.size w9 w11) := B9U.out.trans (hb11.mono B9U.out.size); have R11 : Hid (Rt w11 g1 ua uc va2 vc2) := RG.out.below hb11; clear x0 x1 x2 x3 x4 x5 y0 y1 y2 y3 y4 y5; obtain ⟨x0, x1, x2, x3, x4, x5, _⟩ := RX.of' ((S11.out.block _ (Array.getElem?_eq_some_iff.1 Xr3.out).1).trans Xr3.out); obtain ⟨y0, y1, y2, y3, y4, y5, _⟩ := RX.of' ((S11.out.block _ (Array.getElem?_eq_some_iff.1 Xo3.out).1).trans Xo3.out); obtain ⟨k0, k1, k2, k3, k4, k5, _⟩ := RX.of' ((hb11.block _ (Array.getElem?_eq_some_iff.1 Xx.out).1).trans Xx.out); clear HSg hb11)
            | (go_at_call 13; refine (HSo.out _ ua uc va2 vc2 R11.out B11.out).mono ?_; rintro e w12 ⟨rfl, hb12⟩; have S12 : Hid (Below V3.heap.size V3 w12) := S11.out.trans (hb12.mono S11.out.size); have B12 : Hid (Below w.heap.size w w12) := B11.out.trans (hb12.mono B11.out.size); have B912 : Hid (Below w9.heap.size w9 w12) := B911.out.trans (hb12.mono B911.out.size); clear x0 x1 x2 x3 x4 x5 y0 y1 y2 y3 y4 y5 k0 k1 k2 k3 k4 k5; obtain ⟨x0, x1, x2, x3, x4, x5, _⟩ := RX.of' ((S12.out.block _ (Array.getElem?_eq_some_iff.1 Xr3.out).1).trans Xr3.out); clear HSo hb12)
            | (go_at_call 16; refine (HCH.out _ B912.out).mono ?_; rintro e w13 ⟨ya, yc, yb, yd, rfl, H13⟩; have hal : Below w13.heap.size w13 (w13.alloc (.cells #[.int .i64 c.r.E, .int .i64 c.r.B, .int .i64 c.r.N, .int .i64 c.r.S, .slice ya c.r.T.length yc, .slice yb c.r.M.length yd] 31)) := (Below.refl _ _).alloc (Nat.le_refl _) _; have S13 : Hid (Below V3.heap.size V3 (w13.alloc (.cells #[.int .i64 c.r.E, .int .i64 c.r.B, .int .i64 c.r.N, .int .i64 c.r.S, .slice ya c.r.T.length yc, .slice yb c.r.M.length yd] 31))) := (S12.out.trans (H13.out.2.1.mono S12.out.size)).trans (hal.mono (Nat.le_trans S12.out.size H13.out.2.1.size)); have B13 : Hid (Below w.heap.size w (w13.alloc (.cells #[.int .i64 c.r.E, .int .i64 c.r.B, .int .i64 c.r.N, .int .i64 c.r.S, .slice ya c.r.T.length yc, .slice yb c.r.M.length yd] 31))) := BV3.out.trans (S13.out.mono BV3.out.size); have RY : Hid (Rt (w13.alloc (.cells #[.int .i64 c.r.E, .int .i64 c.r.B, .int .i64 c.r.N, .int .i64 c.r.S, .slice ya c.r.T.length yc, .slice yb c.r.M.length yd] 31)) c.r ya yc yb yd) := H13.out.1.below hal; have Xy : Hid ((w13.alloc (.cells #[.int .i64 c.r.E, .int .i64 c.r.B, .int .i64 c.r.N, .int .i64 c.r.S, .slice ya c.r.T.length yc, .slice yb c.r.M.length yd] 31)).heap[w13.heap.size]? = some (.cells #[.int .i64 c.r.E, .int .i64 c.r.B, .int .i64 c.r.N, .int .i64 c.r.S, .slice ya c.r.T.length yc, .slice yb c.r.M.length yd] 31 (0, 0))) := heap_alloc_last _ _; have S613 : Hid (Below w6.heap.size w6 (w13.alloc (.cells #[.int .i64 c.r.E, .int .i64 c.r.B, .int .i64 c.r.N, .int .i64 c.r.S, .slice ya c.r.T.length yc, .slice yb c.r.M.length yd] 31))) := (HB9.out.trans (B912.out.mono HB9.out.size)).trans (((H13.out.2.1).mono (Nat.le_trans HB9.out.size B912.out.size)).trans (hal.mono (Nat.le_trans (Nat.le_trans HB9.out.size B912.out.size) H13.out.2.1.size))); clear x0 x1 x2 x3 x4 x5; obtain ⟨x0, x1, x2, x3, x4, x5, _⟩ := RX.of' ((S13.out.block _ (Array.getElem?_eq_some_iff.1 Xr3.out).1).trans Xr3.out); clear HCH hal H13)
            | (go_at_call 13; refine (HSy.out _ ya yc yb yd RY.out B13.out).mono ?_; rintro e w14 ⟨rfl, hb14⟩; have B14 : Hid (Below w.heap.size w w14) := B13.out.trans (hb14.mono B13.out.size); have R14 : Hid (Rt w14 c.r ya yc yb yd) := RY.out.below hb14; obtain ⟨l0, l1, l2, l3, l4, l5, _⟩ := RX.of' ((hb14.block _ (Array.getElem?_eq_some_iff.1 Xy.out).1).trans Xy.out); have S614 : Hid (Below w6.heap.size w6 w14) := S613.out.trans (hb14.mono S613.out.size); obtain ⟨n0, n1, n2, n3, n4, n5, _⟩ := RX.of' ((S614.out.block _ (Array.getElem?_eq_some_iff.1 Xm6.out).1).trans Xm6.out); clear HSy hb14)
            | (go_at_call 8; refine (HA _).mono ?_; rintro e w16 ⟨rfl, hb16⟩; clear HA)
            | fail)
          go_ret
          exact ⟨rfl, B14.out.trans (hb16.mono B14.out.size)⟩
        · have hd1 : sameB c.r r = false := by simpa using hd1
          have hd2 : sameB c.r { r with E := r.E - 1 } = true := by
            rcases HCC.out.2 with e | e
            · rw [(sameB_iff c.r r).2 e] at hd1; cases hd1
            · exact (sameB_iff _ _).2 e
          have HSg : Hid (∀ W qa qc qb qd, Rt W g1 qa qc qb qd → Below w.heap.size w W → Calls Try.prog 13 #[.agg #[.int .i64 g1.E, .int .i64 g1.B, .int .i64 g1.N, .int .i64 g1.S, .slice qa g1.T.length qc, .slice qb g1.M.length qd], .agg #[.int .i64 (r).E, .int .i64 r.B, .int .i64 r.N, .int .i64 r.S, .slice ta r.T.length tc, .slice ma r.M.length mc]] W fun e w' => e = .returned (.bool false) ∧ Below W.heap.size W w') := fun W qa qc qb qd h1 h2 => by
            have h := rsame_any g1 r qa qb qc qd ta ma tc mc W h1 (HRR.out.1.below h2)
            rw [hs1] at h
            exact h
          have HSo : Hid (∀ W qa qc qb qd, Rt W g1 qa qc qb qd → Below w.heap.size w W → Calls Try.prog 13 #[.agg #[.int .i64 g1.E, .int .i64 g1.B, .int .i64 g1.N, .int .i64 g1.S, .slice qa g1.T.length qc, .slice qb g1.M.length qd], .agg #[.int .i64 (r.E - 2), .int .i64 o.B, .int .i64 o.N, .int .i64 o.S, .slice sa o.T.length sc, .slice na o.M.length nc]] W fun e w' => e = .returned (.bool true) ∧ Below W.heap.size W w') := fun W qa qc qb qd h1 h2 => by
            have h := rsame_any g1 { o with E := r.E - 2 } qa qb qc qd sa na sc nc W h1 (HRR.out.2.1.below h2)
            rw [hs2] at h
            exact h
          have HSy : Hid (∀ W qa qc qb qd, Rt W c.r qa qc qb qd → Below w.heap.size w W → Calls Try.prog 13 #[.agg #[.int .i64 c.r.E, .int .i64 c.r.B, .int .i64 c.r.N, .int .i64 c.r.S, .slice qa c.r.T.length qc, .slice qb c.r.M.length qd], .agg #[.int .i64 (r).E, .int .i64 r.B, .int .i64 r.N, .int .i64 r.S, .slice ta r.T.length tc, .slice ma r.M.length mc]] W fun e w' => e = .returned (.bool false) ∧ Below W.heap.size W w') := fun W qa qc qb qd h1 h2 => by
            have h := rsame_any c.r r qa qb qc qd ta ma tc mc W h1 (HRR.out.1.below h2)
            rw [hd1] at h
            exact h
          have HSm : Hid (∀ W qa qc qb qd, Rt W c.r qa qc qb qd → Below w.heap.size w W → Calls Try.prog 13 #[.agg #[.int .i64 c.r.E, .int .i64 c.r.B, .int .i64 c.r.N, .int .i64 c.r.S, .slice qa c.r.T.length qc, .slice qb c.r.M.length qd], .agg #[.int .i64 (r.E - 1), .int .i64 r.B, .int .i64 r.N, .int .i64 r.S, .slice ta r.T.length tc, .slice ma r.M.length mc]] W fun e w' => e = .returned (.bool true) ∧ Below W.heap.size W w') := fun W qa qc qb qd h1 h2 => by
            have h := rsame_any c.r { r with E := r.E - 1 } qa qb qc qd ta ma tc mc W h1 (HRR.out.2.2.below h2)
            rw [hd2] at h
            exact h
          go_wp2_with (first
            | (go_at_call 14; refine HGT.out.mono ?_; rintro e w10 ⟨ua, uc, va2, vc2, rfl, H10⟩; have hal : Below w10.heap.size w10 (w10.alloc (.cells #[.int .i64 g1.E, .int .i64 g1.B, .int .i64 g1.N, .int .i64 g1.S, .slice ua g1.T.length uc, .slice va2 g1.M.length vc2] 31)) := (Below.refl _ _).alloc (Nat.le_refl _) _; have B9U : Hid (Below w9.heap.size w9 (w10.alloc (.cells #[.int .i64 g1.E, .int .i64 g1.B, .int .i64 g1.N, .int .i64 g1.S, .slice ua g1.T.length uc, .slice va2 g1.M.length vc2] 31))) := H10.out.2.1.trans (hal.mono H10.out.2.1.size); have SU : Hid (Below V3.heap.size V3 (w10.alloc (.cells #[.int .i64 g1.E, .int .i64 g1.B, .int .i64 g1.N, .int .i64 g1.S, .slice ua g1.T.length uc, .slice va2 g1.M.length vc2] 31))) := S9.out.trans (B9U.out.mono S9.out.size); have BU : Hid (Below w.heap.size w (w10.alloc (.cells #[.int .i64 g1.E, .int .i64 g1.B, .int .i64 g1.N, .int .i64 g1.S, .slice ua g1.T.length uc, .slice va2 g1.M.length vc2] 31))) := BV3.out.trans (SU.out.mono BV3.out.size); have RG : Hid (Rt (w10.alloc (.cells #[.int .i64 g1.E, .int .i64 g1.B, .int .i64 g1.N, .int .i64 g1.S, .slice ua g1.T.length uc, .slice va2 g1.M.length vc2] 31)) g1 ua uc va2 vc2) := H10.out.1.below hal; have Xx : Hid ((w10.alloc (.cells #[.int .i64 g1.E, .int .i64 g1.B, .int .i64 g1.N, .int .i64 g1.S, .slice ua g1.T.length uc, .slice va2 g1.M.length vc2] 31)).heap[w10.heap.size]? = some (.cells #[.int .i64 g1.E, .int .i64 g1.B, .int .i64 g1.N, .int .i64 g1.S, .slice ua g1.T.length uc, .slice va2 g1.M.length vc2] 31 (0, 0))) := heap_alloc_last _ _; obtain ⟨x0, x1, x2, x3, x4, x5, _⟩ := RX.of' ((SU.out.block _ (Array.getElem?_eq_some_iff.1 Xr3.out).1).trans Xr3.out); obtain ⟨y0, y1, y2, y3, y4, y5, _⟩ := RX.of' ((SU.out.block _ (Array.getElem?_eq_some_iff.1 Xo3.out).1).trans Xo3.out); clear HGT hal H10)
            | (go_at_call 13; refine (HSg.out _ ua uc va2 vc2 RG.out BU.out).mono ?_; rintro e w11 ⟨rfl, hb11⟩; have S11 : Hid (Below V3.heap.size V3 w11) := SU.out.trans (hb11.mono SU.out.size); have B11 : Hid (Below w.heap.size w w11) := BU.out.trans (hb11.mono BU.out.size); have B911 : Hid (Below w9.heap.size w9 w11) := B9U.out.trans (hb11.mono B9U.out.size); have R11 : Hid (Rt w11 g1 ua uc va2 vc2) := RG.out.below hb11; clear x0 x1 x2 x3 x4 x5 y0 y1 y2 y3 y4 y5; obtain ⟨x0, x1, x2, x3, x4, x5, _⟩ := RX.of' ((S11.out.block _ (Array.getElem?_eq_some_iff.1 Xr3.out).1).trans Xr3.out); obtain ⟨y0, y1, y2, y3, y4, y5, _⟩ := RX.of' ((S11.out.block _ (Array.getElem?_eq_some_iff.1 Xo3.out).1).trans Xo3.out); obtain ⟨k0, k1, k2, k3, k4, k5, _⟩ := RX.of' ((hb11.block _ (Array.getElem?_eq_some_iff.1 Xx.out).1).trans Xx.out); clear HSg hb11)
            | (go_at_call 13; refine (HSo.out _ ua uc va2 vc2 R11.out B11.out).mono ?_; rintro e w12 ⟨rfl, hb12⟩; have S12 : Hid (Below V3.heap.size V3 w12) := S11.out.trans (hb12.mono S11.out.size); have B12 : Hid (Below w.heap.size w w12) := B11.out.trans (hb12.mono B11.out.size); have B912 : Hid (Below w9.heap.size w9 w12) := B911.out.trans (hb12.mono B911.out.size); clear x0 x1 x2 x3 x4 x5 y0 y1 y2 y3 y4 y5 k0 k1 k2 k3 k4 k5; obtain ⟨x0, x1, x2, x3, x4, x5, _⟩ := RX.of' ((S12.out.block _ (Array.getElem?_eq_some_iff.1 Xr3.out).1).trans Xr3.out); clear HSo hb12)
            | (go_at_call 16; refine (HCH.out _ B912.out).mono ?_; rintro e w13 ⟨ya, yc, yb, yd, rfl, H13⟩; have hal : Below w13.heap.size w13 (w13.alloc (.cells #[.int .i64 c.r.E, .int .i64 c.r.B, .int .i64 c.r.N, .int .i64 c.r.S, .slice ya c.r.T.length yc, .slice yb c.r.M.length yd] 31)) := (Below.refl _ _).alloc (Nat.le_refl _) _; have S13 : Hid (Below V3.heap.size V3 (w13.alloc (.cells #[.int .i64 c.r.E, .int .i64 c.r.B, .int .i64 c.r.N, .int .i64 c.r.S, .slice ya c.r.T.length yc, .slice yb c.r.M.length yd] 31))) := (S12.out.trans (H13.out.2.1.mono S12.out.size)).trans (hal.mono (Nat.le_trans S12.out.size H13.out.2.1.size)); have B13 : Hid (Below w.heap.size w (w13.alloc (.cells #[.int .i64 c.r.E, .int .i64 c.r.B, .int .i64 c.r.N, .int .i64 c.r.S, .slice ya c.r.T.length yc, .slice yb c.r.M.length yd] 31))) := BV3.out.trans (S13.out.mono BV3.out.size); have RY : Hid (Rt (w13.alloc (.cells #[.int .i64 c.r.E, .int .i64 c.r.B, .int .i64 c.r.N, .int .i64 c.r.S, .slice ya c.r.T.length yc, .slice yb c.r.M.length yd] 31)) c.r ya yc yb yd) := H13.out.1.below hal; have Xy : Hid ((w13.alloc (.cells #[.int .i64 c.r.E, .int .i64 c.r.B, .int .i64 c.r.N, .int .i64 c.r.S, .slice ya c.r.T.length yc, .slice yb c.r.M.length yd] 31)).heap[w13.heap.size]? = some (.cells #[.int .i64 c.r.E, .int .i64 c.r.B, .int .i64 c.r.N, .int .i64 c.r.S, .slice ya c.r.T.length yc, .slice yb c.r.M.length yd] 31 (0, 0))) := heap_alloc_last _ _; have S613 : Hid (Below w6.heap.size w6 (w13.alloc (.cells #[.int .i64 c.r.E, .int .i64 c.r.B, .int .i64 c.r.N, .int .i64 c.r.S, .slice ya c.r.T.length yc, .slice yb c.r.M.length yd] 31))) := (HB9.out.trans (B912.out.mono HB9.out.size)).trans (((H13.out.2.1).mono (Nat.le_trans HB9.out.size B912.out.size)).trans (hal.mono (Nat.le_trans (Nat.le_trans HB9.out.size B912.out.size) H13.out.2.1.size))); clear x0 x1 x2 x3 x4 x5; obtain ⟨x0, x1, x2, x3, x4, x5, _⟩ := RX.of' ((S13.out.block _ (Array.getElem?_eq_some_iff.1 Xr3.out).1).trans Xr3.out); clear HCH hal H13)
            | (go_at_call 13; refine (HSy.out _ ya yc yb yd RY.out B13.out).mono ?_; rintro e w14 ⟨rfl, hb14⟩; have B14 : Hid (Below w.heap.size w w14) := B13.out.trans (hb14.mono B13.out.size); have R14 : Hid (Rt w14 c.r ya yc yb yd) := RY.out.below hb14; obtain ⟨l0, l1, l2, l3, l4, l5, _⟩ := RX.of' ((hb14.block _ (Array.getElem?_eq_some_iff.1 Xy.out).1).trans Xy.out); have S614 : Hid (Below w6.heap.size w6 w14) := S613.out.trans (hb14.mono S613.out.size); obtain ⟨n0, n1, n2, n3, n4, n5, _⟩ := RX.of' ((S614.out.block _ (Array.getElem?_eq_some_iff.1 Xm6.out).1).trans Xm6.out); clear HSy hb14)
            | (go_at_call 13; refine (HSm.out _ ya yc yb yd R14.out B14.out).mono ?_; rintro e w15 ⟨rfl, hb15⟩; have B15 : Hid (Below w.heap.size w w15) := B14.out.trans (hb15.mono B14.out.size); clear HSm hb15)
            | (go_at_call 8; refine (HA _).mono ?_; rintro e w16 ⟨rfl, hb16⟩; clear HA)
            | fail)
          go_ret
          exact ⟨rfl, B15.out.trans (hb16.mono B15.out.size)⟩
    · by_cases hd1 : sameB c.r r = true
      · have hq2 : (g2 == 0) = false := by simpa using hg2
        have HSy : Hid (∀ W qa qc qb qd, Rt W c.r qa qc qb qd → Below w.heap.size w W → Calls Try.prog 13 #[.agg #[.int .i64 c.r.E, .int .i64 c.r.B, .int .i64 c.r.N, .int .i64 c.r.S, .slice qa c.r.T.length qc, .slice qb c.r.M.length qd], .agg #[.int .i64 (r).E, .int .i64 r.B, .int .i64 r.N, .int .i64 r.S, .slice ta r.T.length tc, .slice ma r.M.length mc]] W fun e w' => e = .returned (.bool true) ∧ Below W.heap.size W w') := fun W qa qc qb qd h1 h2 => by
          have h := rsame_any c.r r qa qb qc qd ta ma tc mc W h1 (HRR.out.1.below h2)
          rw [hd1] at h
          exact h
        go_wp2_with (first
          | (go_at_call 14; refine HGT.out.mono ?_; rintro e w10 ⟨ua, uc, va2, vc2, rfl, H10⟩; have hal : Below w10.heap.size w10 (w10.alloc (.cells #[.int .i64 g1.E, .int .i64 g1.B, .int .i64 g1.N, .int .i64 g1.S, .slice ua g1.T.length uc, .slice va2 g1.M.length vc2] 31)) := (Below.refl _ _).alloc (Nat.le_refl _) _; have B9U : Hid (Below w9.heap.size w9 (w10.alloc (.cells #[.int .i64 g1.E, .int .i64 g1.B, .int .i64 g1.N, .int .i64 g1.S, .slice ua g1.T.length uc, .slice va2 g1.M.length vc2] 31))) := H10.out.2.1.trans (hal.mono H10.out.2.1.size); have SU : Hid (Below V3.heap.size V3 (w10.alloc (.cells #[.int .i64 g1.E, .int .i64 g1.B, .int .i64 g1.N, .int .i64 g1.S, .slice ua g1.T.length uc, .slice va2 g1.M.length vc2] 31))) := S9.out.trans (B9U.out.mono S9.out.size); have BU : Hid (Below w.heap.size w (w10.alloc (.cells #[.int .i64 g1.E, .int .i64 g1.B, .int .i64 g1.N, .int .i64 g1.S, .slice ua g1.T.length uc, .slice va2 g1.M.length vc2] 31))) := BV3.out.trans (SU.out.mono BV3.out.size); have RG : Hid (Rt (w10.alloc (.cells #[.int .i64 g1.E, .int .i64 g1.B, .int .i64 g1.N, .int .i64 g1.S, .slice ua g1.T.length uc, .slice va2 g1.M.length vc2] 31)) g1 ua uc va2 vc2) := H10.out.1.below hal; have Xx : Hid ((w10.alloc (.cells #[.int .i64 g1.E, .int .i64 g1.B, .int .i64 g1.N, .int .i64 g1.S, .slice ua g1.T.length uc, .slice va2 g1.M.length vc2] 31)).heap[w10.heap.size]? = some (.cells #[.int .i64 g1.E, .int .i64 g1.B, .int .i64 g1.N, .int .i64 g1.S, .slice ua g1.T.length uc, .slice va2 g1.M.length vc2] 31 (0, 0))) := heap_alloc_last _ _; obtain ⟨x0, x1, x2, x3, x4, x5, _⟩ := RX.of' ((SU.out.block _ (Array.getElem?_eq_some_iff.1 Xr3.out).1).trans Xr3.out); obtain ⟨y0, y1, y2, y3, y4, y5, _⟩ := RX.of' ((SU.out.block _ (Array.getElem?_eq_some_iff.1 Xo3.out).1).trans Xo3.out); clear HGT hal H10)
          | (go_at_call 16; refine (HCH.out _ B9U.out).mono ?_; rintro e w13 ⟨ya, yc, yb, yd, rfl, H13⟩; have hal : Below w13.heap.size w13 (w13.alloc (.cells #[.int .i64 c.r.E, .int .i64 c.r.B, .int .i64 c.r.N, .int .i64 c.r.S, .slice ya c.r.T.length yc, .slice yb c.r.M.length yd] 31)) := (Below.refl _ _).alloc (Nat.le_refl _) _; have S13 : Hid (Below V3.heap.size V3 (w13.alloc (.cells #[.int .i64 c.r.E, .int .i64 c.r.B, .int .i64 c.r.N, .int .i64 c.r.S, .slice ya c.r.T.length yc, .slice yb c.r.M.length yd] 31))) := (SU.out.trans (H13.out.2.1.mono SU.out.size)).trans (hal.mono (Nat.le_trans SU.out.size H13.out.2.1.size)); have B13 : Hid (Below w.heap.size w (w13.alloc (.cells #[.int .i64 c.r.E, .int .i64 c.r.B, .int .i64 c.r.N, .int .i64 c.r.S, .slice ya c.r.T.length yc, .slice yb c.r.M.length yd] 31))) := BV3.out.trans (S13.out.mono BV3.out.size); have RY : Hid (Rt (w13.alloc (.cells #[.int .i64 c.r.E, .int .i64 c.r.B, .int .i64 c.r.N, .int .i64 c.r.S, .slice ya c.r.T.length yc, .slice yb c.r.M.length yd] 31)) c.r ya yc yb yd) := H13.out.1.below hal; have Xy : Hid ((w13.alloc (.cells #[.int .i64 c.r.E, .int .i64 c.r.B, .int .i64 c.r.N, .int .i64 c.r.S, .slice ya c.r.T.length yc, .slice yb c.r.M.length yd] 31)).heap[w13.heap.size]? = some (.cells #[.int .i64 c.r.E, .int .i64 c.r.B, .int .i64 c.r.N, .int .i64 c.r.S, .slice ya c.r.T.length yc, .slice yb c.r.M.length yd] 31 (0, 0))) := heap_alloc_last _ _; have S613 : Hid (Below w6.heap.size w6 (w13.alloc (.cells #[.int .i64 c.r.E, .int .i64 c.r.B, .int .i64 c.r.N, .int .i64 c.r.S, .slice ya c.r.T.length yc, .slice yb c.r.M.length yd] 31))) := (HB9.out.trans (B9U.out.mono HB9.out.size)).trans (((H13.out.2.1).mono (Nat.le_trans HB9.out.size B9U.out.size)).trans (hal.mono (Nat.le_trans (Nat.le_trans HB9.out.size B9U.out.size) H13.out.2.1.size))); clear x0 x1 x2 x3 x4 x5; obtain ⟨x0, x1, x2, x3, x4, x5, _⟩ := RX.of' ((S13.out.block _ (Array.getElem?_eq_some_iff.1 Xr3.out).1).trans Xr3.out); clear HCH hal H13)
          | (go_at_call 13; refine (HSy.out _ ya yc yb yd RY.out B13.out).mono ?_; rintro e w14 ⟨rfl, hb14⟩; have B14 : Hid (Below w.heap.size w w14) := B13.out.trans (hb14.mono B13.out.size); have R14 : Hid (Rt w14 c.r ya yc yb yd) := RY.out.below hb14; obtain ⟨l0, l1, l2, l3, l4, l5, _⟩ := RX.of' ((hb14.block _ (Array.getElem?_eq_some_iff.1 Xy.out).1).trans Xy.out); have S614 : Hid (Below w6.heap.size w6 w14) := S613.out.trans (hb14.mono S613.out.size); obtain ⟨n0, n1, n2, n3, n4, n5, _⟩ := RX.of' ((S614.out.block _ (Array.getElem?_eq_some_iff.1 Xm6.out).1).trans Xm6.out); clear HSy hb14)
          | (go_at_call 8; refine (HA _).mono ?_; rintro e w16 ⟨rfl, hb16⟩; clear HA)
          | fail)
        go_ret
        exact ⟨rfl, B14.out.trans (hb16.mono B14.out.size)⟩
      · have hd1 : sameB c.r r = false := by simpa using hd1
        have hd2 : sameB c.r { r with E := r.E - 1 } = true := by
          rcases HCC.out.2 with e | e
          · rw [(sameB_iff c.r r).2 e] at hd1; cases hd1
          · exact (sameB_iff _ _).2 e
        have hq2 : (g2 == 0) = false := by simpa using hg2
        have HSy : Hid (∀ W qa qc qb qd, Rt W c.r qa qc qb qd → Below w.heap.size w W → Calls Try.prog 13 #[.agg #[.int .i64 c.r.E, .int .i64 c.r.B, .int .i64 c.r.N, .int .i64 c.r.S, .slice qa c.r.T.length qc, .slice qb c.r.M.length qd], .agg #[.int .i64 (r).E, .int .i64 r.B, .int .i64 r.N, .int .i64 r.S, .slice ta r.T.length tc, .slice ma r.M.length mc]] W fun e w' => e = .returned (.bool false) ∧ Below W.heap.size W w') := fun W qa qc qb qd h1 h2 => by
          have h := rsame_any c.r r qa qb qc qd ta ma tc mc W h1 (HRR.out.1.below h2)
          rw [hd1] at h
          exact h
        have HSm : Hid (∀ W qa qc qb qd, Rt W c.r qa qc qb qd → Below w.heap.size w W → Calls Try.prog 13 #[.agg #[.int .i64 c.r.E, .int .i64 c.r.B, .int .i64 c.r.N, .int .i64 c.r.S, .slice qa c.r.T.length qc, .slice qb c.r.M.length qd], .agg #[.int .i64 (r.E - 1), .int .i64 r.B, .int .i64 r.N, .int .i64 r.S, .slice ta r.T.length tc, .slice ma r.M.length mc]] W fun e w' => e = .returned (.bool true) ∧ Below W.heap.size W w') := fun W qa qc qb qd h1 h2 => by
          have h := rsame_any c.r { r with E := r.E - 1 } qa qb qc qd ta ma tc mc W h1 (HRR.out.2.2.below h2)
          rw [hd2] at h
          exact h
        go_wp2_with (first
          | (go_at_call 14; refine HGT.out.mono ?_; rintro e w10 ⟨ua, uc, va2, vc2, rfl, H10⟩; have hal : Below w10.heap.size w10 (w10.alloc (.cells #[.int .i64 g1.E, .int .i64 g1.B, .int .i64 g1.N, .int .i64 g1.S, .slice ua g1.T.length uc, .slice va2 g1.M.length vc2] 31)) := (Below.refl _ _).alloc (Nat.le_refl _) _; have B9U : Hid (Below w9.heap.size w9 (w10.alloc (.cells #[.int .i64 g1.E, .int .i64 g1.B, .int .i64 g1.N, .int .i64 g1.S, .slice ua g1.T.length uc, .slice va2 g1.M.length vc2] 31))) := H10.out.2.1.trans (hal.mono H10.out.2.1.size); have SU : Hid (Below V3.heap.size V3 (w10.alloc (.cells #[.int .i64 g1.E, .int .i64 g1.B, .int .i64 g1.N, .int .i64 g1.S, .slice ua g1.T.length uc, .slice va2 g1.M.length vc2] 31))) := S9.out.trans (B9U.out.mono S9.out.size); have BU : Hid (Below w.heap.size w (w10.alloc (.cells #[.int .i64 g1.E, .int .i64 g1.B, .int .i64 g1.N, .int .i64 g1.S, .slice ua g1.T.length uc, .slice va2 g1.M.length vc2] 31))) := BV3.out.trans (SU.out.mono BV3.out.size); have RG : Hid (Rt (w10.alloc (.cells #[.int .i64 g1.E, .int .i64 g1.B, .int .i64 g1.N, .int .i64 g1.S, .slice ua g1.T.length uc, .slice va2 g1.M.length vc2] 31)) g1 ua uc va2 vc2) := H10.out.1.below hal; have Xx : Hid ((w10.alloc (.cells #[.int .i64 g1.E, .int .i64 g1.B, .int .i64 g1.N, .int .i64 g1.S, .slice ua g1.T.length uc, .slice va2 g1.M.length vc2] 31)).heap[w10.heap.size]? = some (.cells #[.int .i64 g1.E, .int .i64 g1.B, .int .i64 g1.N, .int .i64 g1.S, .slice ua g1.T.length uc, .slice va2 g1.M.length vc2] 31 (0, 0))) := heap_alloc_last _ _; obtain ⟨x0, x1, x2, x3, x4, x5, _⟩ := RX.of' ((SU.out.block _ (Array.getElem?_eq_some_iff.1 Xr3.out).1).trans Xr3.out); obtain ⟨y0, y1, y2, y3, y4, y5, _⟩ := RX.of' ((SU.out.block _ (Array.getElem?_eq_some_iff.1 Xo3.out).1).trans Xo3.out); clear HGT hal H10)
          | (go_at_call 16; refine (HCH.out _ B9U.out).mono ?_; rintro e w13 ⟨ya, yc, yb, yd, rfl, H13⟩; have hal : Below w13.heap.size w13 (w13.alloc (.cells #[.int .i64 c.r.E, .int .i64 c.r.B, .int .i64 c.r.N, .int .i64 c.r.S, .slice ya c.r.T.length yc, .slice yb c.r.M.length yd] 31)) := (Below.refl _ _).alloc (Nat.le_refl _) _; have S13 : Hid (Below V3.heap.size V3 (w13.alloc (.cells #[.int .i64 c.r.E, .int .i64 c.r.B, .int .i64 c.r.N, .int .i64 c.r.S, .slice ya c.r.T.length yc, .slice yb c.r.M.length yd] 31))) := (SU.out.trans (H13.out.2.1.mono SU.out.size)).trans (hal.mono (Nat.le_trans SU.out.size H13.out.2.1.size)); have B13 : Hid (Below w.heap.size w (w13.alloc (.cells #[.int .i64 c.r.E, .int .i64 c.r.B, .int .i64 c.r.N, .int .i64 c.r.S, .slice ya c.r.T.length yc, .slice yb c.r.M.length yd] 31))) := BV3.out.trans (S13.out.mono BV3.out.size); have RY : Hid (Rt (w13.alloc (.cells #[.int .i64 c.r.E, .int .i64 c.r.B, .int .i64 c.r.N, .int .i64 c.r.S, .slice ya c.r.T.length yc, .slice yb c.r.M.length yd] 31)) c.r ya yc yb yd) := H13.out.1.below hal; have Xy : Hid ((w13.alloc (.cells #[.int .i64 c.r.E, .int .i64 c.r.B, .int .i64 c.r.N, .int .i64 c.r.S, .slice ya c.r.T.length yc, .slice yb c.r.M.length yd] 31)).heap[w13.heap.size]? = some (.cells #[.int .i64 c.r.E, .int .i64 c.r.B, .int .i64 c.r.N, .int .i64 c.r.S, .slice ya c.r.T.length yc, .slice yb c.r.M.length yd] 31 (0, 0))) := heap_alloc_last _ _; have S613 : Hid (Below w6.heap.size w6 (w13.alloc (.cells #[.int .i64 c.r.E, .int .i64 c.r.B, .int .i64 c.r.N, .int .i64 c.r.S, .slice ya c.r.T.length yc, .slice yb c.r.M.length yd] 31))) := (HB9.out.trans (B9U.out.mono HB9.out.size)).trans (((H13.out.2.1).mono (Nat.le_trans HB9.out.size B9U.out.size)).trans (hal.mono (Nat.le_trans (Nat.le_trans HB9.out.size B9U.out.size) H13.out.2.1.size))); clear x0 x1 x2 x3 x4 x5; obtain ⟨x0, x1, x2, x3, x4, x5, _⟩ := RX.of' ((S13.out.block _ (Array.getElem?_eq_some_iff.1 Xr3.out).1).trans Xr3.out); clear HCH hal H13)
          | (go_at_call 13; refine (HSy.out _ ya yc yb yd RY.out B13.out).mono ?_; rintro e w14 ⟨rfl, hb14⟩; have B14 : Hid (Below w.heap.size w w14) := B13.out.trans (hb14.mono B13.out.size); have R14 : Hid (Rt w14 c.r ya yc yb yd) := RY.out.below hb14; obtain ⟨l0, l1, l2, l3, l4, l5, _⟩ := RX.of' ((hb14.block _ (Array.getElem?_eq_some_iff.1 Xy.out).1).trans Xy.out); have S614 : Hid (Below w6.heap.size w6 w14) := S613.out.trans (hb14.mono S613.out.size); obtain ⟨n0, n1, n2, n3, n4, n5, _⟩ := RX.of' ((S614.out.block _ (Array.getElem?_eq_some_iff.1 Xm6.out).1).trans Xm6.out); clear HSy hb14)
          | (go_at_call 13; refine (HSm.out _ ya yc yb yd R14.out B14.out).mono ?_; rintro e w15 ⟨rfl, hb15⟩; have B15 : Hid (Below w.heap.size w w15) := B14.out.trans (hb15.mono B14.out.size); clear HSm hb15)
          | (go_at_call 8; refine (HA _).mono ?_; rintro e w16 ⟨rfl, hb16⟩; clear HA)
          | fail)
        go_ret
        exact ⟨rfl, B15.out.trans (hb16.mono B15.out.size)⟩
theorem walk_main (r : RD) (ta ma : Option Addr) (tc mc : Nat) (o : RD) (sa na : Option Addr) (sc nc : Nat) (t : Int) (w : World) (hr : Rt w r ta tc ma mc) (hs : Rt w o sa sc na nc) (ht : 0 ≤ t ∧ t ≤ 65535) (h : lightB r = true) (h2 : lightB o = true) (h3 : ¬ r.E < 2) (h4 : ¬ 1099511627776 < r.E) :
    Calls Try.prog 6 #[rootV r ta tc ma mc, rootV o sa sc na nc, .int .u16 t] w fun e w' => e = .returned (.bool true) ∧ Below w.heap.size w w' := by
  by_cases hc1 : checkE r = 0
  · have ok1 := ok_checkE hc1
    by_cases hc2 : checkE { o with E := r.E - 2 } = 0
    · exact walk_e3 r ta ma tc mc o sa na sc nc t w hr hs ht h h2 h3 h4 ok1 (ok_checkE hc2) ⟨by show 0 ≤ r.E - 1; omega, by show r.E - 1 ≤ 1099511627776; omega, ok1.b0, ok1.b1, ok1.n0, ok1.n1, ok1.s0, ok1.s1, ok1.t1, ok1.m1, ok1.tb, ok1.mb⟩
    · exact walk_e2 r ta ma tc mc o sa na sc nc t w hr hs ht h h2 h3 h4 ok1 hc2
  · exact walk_e1 r ta ma tc mc o sa na sc nc t w hr hs ht h h2 h3 h4 hc1
theorem walk (r : RD) (ta ma : Option Addr) (tc mc : Nat) (o : RD) (sa na : Option Addr) (sc nc : Nat) (t : Int) (w : World) (hr : Rt w r ta tc ma mc) (hs : Rt w o sa sc na nc) (ht : (Lit.int .u16 t).wf = true) :
    Calls Try.prog 6 #[rootV r ta tc ma mc, rootV o sa sc na nc, .int .u16 t] w fun e w' => e = .returned (.bool true) ∧ Below w.heap.size w w' := by
  have hb : 0 ≤ t ∧ t ≤ 65535 := by have := bounds_u16 ht; omega
  cases h : lightB r
  · exact walk_r r ta ma tc mc o sa na sc nc t w hr hs hb h
  · cases h2 : lightB o
    · exact walk_s r ta ma tc mc o sa na sc nc t w hr hs hb h h2
    · by_cases h3 : r.E < 2
      · exact walk_lo r ta ma tc mc o sa na sc nc t w hr hs hb h h2 h3
      · by_cases h4 : 1099511627776 < r.E
        · exact walk_hi r ta ma tc mc o sa na sc nc t w hr hs hb h h2 h3 h4
        · exact walk_main r ta ma tc mc o sa na sc nc t w hr hs hb h h2 h3 h4
set_option maxRecDepth 100000 in
theorem lifted (os : Os) (started : os.Started) (H : Type) (enc : TypeId × Value → H) :
    ReturnsInHanded {} Try.checked os 6 .any (Rows.rootTornSpec.pre6 enc Try.prog Try.f6 Rows.rootTornRow.domain false) (Rows.rootTornSpec.post enc Try.prog Try.f6 false true false false) := by
  refine returnsInHanded_of_change (C := Try.checked) own started (by kernel_rfl) Try.func6
    (ChangeSpec.witness6 (enc := enc) (C := Try.checked) false ⟨#[], #[.agg #[.int .i64 0, .int .i64 0, .int .i64 0, .int .i64 0, .slice none 0 0, .slice none 0 0], .agg #[.int .i64 0, .int .i64 0, .int .i64 0, .int .i64 0, .slice none 0 0, .slice none 0 0], .int .u16 0], []⟩ 8 (by kernel_rfl) (by kernel_rfl) (by kernel_rfl) (by kernel_rfl)) ?_
  intro W base args ds gs before hval0 hW hcnd _
  have hval : ∀ (j : Nat) t v, Try.f6.params[j]? = some t → args[j]? = some v → Value.okWide Try.prog W .any base t v := hval0
  have hW' := hW
  obtain ⟨p, q, hA0, hV, rfl, hfz, hnd⟩ := hW
  have hA : DataW.TrodAll enc Try.prog W 0 (fun _ => true) true Try.f6.params.toList args.toList ds p := hA0
  rw [Try.params6] at hA hval
  obtain ⟨v0, vs0, d0, ds0, p0, q0, hargs, rfl, rfl, h0, r0⟩ := trodAll_cons hA
  obtain ⟨v1, vs1, d1, ds1, p1, q1, rfl, rfl, rfl, h1, r1⟩ := trodAll_cons r0
  obtain ⟨v2, vs2, d2, ds2, p2, q2, rfl, rfl, rfl, h2, r2⟩ := trodAll_cons r1
  obtain ⟨rfl, rfl, rfl⟩ := trodAll_nil r2
  obtain rfl : args = #[v0, v1, v2] := by cases args; simp_all
  obtain ⟨rfl, rfl⟩ := trodVars_none hV
  have k0 := h0
  have lt0 : ∀ x ∈ p0, x.block < W.heap.size := by obtain ⟨m, hm⟩ := k0; exact DataW.trod_lt m _ _ _ hm
  obtain ⟨r_0, ta0, tc0, ma0, mc0, rfl, w0⟩ := open_root (hval 0 24 v0 rfl rfl) h0
  have k1 := h1
  have lt1 : ∀ x ∈ p1, x.block < W.heap.size := by obtain ⟨m, hm⟩ := k1; exact DataW.trod_lt m _ _ _ hm
  obtain ⟨r_1, ta1, tc1, ma1, mc1, rfl, w1⟩ := open_root (hval 1 24 v1 rfl rfl) h1
  obtain ⟨a2, rfl, rfl, rfl, w2⟩ := open_int Try.underlying46 (hval 2 46 v2 rfl rfl) h2
  clear hA0 hval0
  refine (walk r_0 ta0 ma0 tc0 mc0 r_1 ta1 ma1 tc1 mc1 a2 W w0 w1 w2).mono fun e W' ⟨he, bel⟩ => ?_
  subst he
  exact ⟨_, rfl, _, _, _, [], _, [], hW', trodAll_mk1 (shut_bool Try.underlying4 _), (trodAll_cons_mk (Below.trod laidOut (by kernel_rfl) (of_decide_eq_true (by kernel_rfl)) k0 bel lt0) (trodAll_cons_mk (Below.trod laidOut (by kernel_rfl) (of_decide_eq_true (by kernel_rfl)) k1 bel lt1) (trodAll_cons_mk (shut_int Try.underlying46 w2) trodAll_mk0))), rfl, bel.frame _, fun h => by cases h⟩

theorem over : Rows.rootTornRow.holds Try.pinned (OpenSpec.ofChange Rows.rootTornSpec) :=
  OpenClaim.holds_of_wide 6 Try.f6 rfl rfl rfl rfl rfl rfl rfl ⟨rfl, rfl, rfl, rfl, rfl⟩ rfl rfl rfl rfl rfl (by kernel_rfl) Try.func6 (by kernel_rfl)
    (of_decide_eq_true (by kernel_rfl)) (by unfold Func.isWrapper; first | (rw [if_pos (by decide +kernel)]; kernel_rfl) | (rw [if_neg (by decide +kernel)]; exact ⟨rfl, rfl⟩))
    (fun os started H enc _ => lifted os started H enc)
end Go.Proofs.Ytadnflaocgmfgaa.rootTorn

namespace Go.Proofs.Ytadnflaocgmfgaa
theorem rootTorn_holds : Rows.RootTornSaid := rootTorn.over
#print axioms rootTorn_holds
end Go.Proofs.Ytadnflaocgmfgaa
