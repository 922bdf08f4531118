/- RootGets: what Get and Choose tell of any bytes is what the document's tell. -/
import Derived.Test.YtadnflaocgmfgaaRows
import Derived.Test.YtadnflaocgmfgaaArg
import Derived.WalkKit
import Derived.ProofKit
import Derived.OpenShut
import Derived.ShutString
import Derived.ChangeOld
import Derived.Below
import Derived.Test.YtadnflaocgmfgaaRCh2
namespace Go.Proofs.Ytadnflaocgmfgaa.rootGets
open Go.ChangeShapes Go.WideShapes Go.ChangeAt Go.RowKit
set_option linter.unusedVariables false
set_option linter.unusedSimpArgs false
set_option maxRecDepth 20000

theorem own : ownKnob Try.prog.godebug = none := by kernel_rfl
theorem laidOut : laidOutB Try.prog = true := by kernel_rfl
theorem bytes_of {w : World} {a : Option Addr} {len cap : Nat} {zs : List Int} (h : (a = none ∧ len = 0 ∧ cap = 0 ∧ zs = []) ∨ ∃ x, a = some x ∧ len ≤ cap ∧ cap ≤ maxLen ∧ zs.length = cap ∧ (∀ i, i < zs.length → w.cell? (x.add i) = some (.int .u8 (zs.getD i 0))) ∧ ∀ n ∈ zs, (Lit.int .u8 n).wf = true) :
    ∃ ys : List Int, ys.length = len ∧ BV w a ys ∧ (a = none → cap = 0) ∧ len ≤ cap ∧ cap ≤ 9223372036854775807 := by
  rcases h with ⟨rfl, rfl, rfl, rfl⟩ | ⟨x, rfl, hl, hm, hz, hcell, hwz⟩
  · exact ⟨[], rfl, ⟨AllB.nil, .inl rfl⟩, fun _ => rfl, Nat.le_refl _, by decide⟩
  · refine ⟨zs.take len, by simp; omega, ⟨?_, ?_⟩, (fun h => by cases h), hl, by unfold maxLen at hm; omega⟩
    · intro z hz'
      have := bounds_u8 (hwz z (List.mem_of_mem_take hz'))
      omega
    · by_cases h0 : len = 0
      · left; simp [h0]
      · right
        obtain ⟨b, off, spot⟩ := x
        have hc := hcell 0 (by omega)
        have hspot : spot = none := by simpa [Addr.add] using World.cell?_spot hc
        subst hspot
        refine ⟨b, off, rfl, ?_, ?_⟩
        · have := World.block_lt_of_cell? _ _ hc
          simpa [Addr.add] using this
        · intro i hi
          rw [List.length_take] at hi
          have := hcell i (by omega)
          rw [add_plain] at this
          rw [this, List.getD_eq_getElem?_getD, List.getD_eq_getElem?_getD, List.getElem?_take, if_pos (by omega)]
theorem same_self (r : RD) : sameB r r = true := by simp [sameB]
/-- A box with a root in it. -/
def Bx (t : TypeId) (W : World) (p : Nat) (r : RD) (ta : Option Addr) (tc : Nat) (ma : Option Addr) (mc : Nat) : Prop := W.heap[p]? = some (.cells #[.int .i64 r.E, .int .i64 r.B, .int .i64 r.N, .int .i64 r.S, .slice ta r.T.length tc, .slice ma r.M.length mc] t (0, 0)) ∧ Rt W r ta tc ma mc
theorem Bx.below {t : TypeId} {W W' : World} {p : Nat} {r : RD} {ta ma : Option Addr} {tc mc : Nat} (h : Bx t W p r ta tc ma mc) (hb : Below W.heap.size W W') : Bx t W' p r ta tc ma mc := ⟨(hb.block _ (Array.getElem?_eq_some_iff.1 h.1).1).trans h.1, h.2.below hb⟩
theorem Bx.new {t : TypeId} {w W : World} {p : Nat} {r : RD} {ta ma : Option Addr} {tc mc : Nat} (hr : Rt w r ta tc ma mc) (hp : p = w.heap.size) (hW : W = w.alloc (.cells #[.int .i64 r.E, .int .i64 r.B, .int .i64 r.N, .int .i64 r.S, .slice ta r.T.length tc, .slice ma r.M.length mc] t)) : Bx t W p r ta tc ma mc := by
  refine ⟨?_, ?_⟩
  · rw [hp, hW]; exact heap_alloc_last _ _
  · rw [hW]; exact hr.below ((Below.refl _ _).alloc (Nat.le_refl _) _)
set_option maxHeartbeats 1000000 in
theorem walk_l (a0 : Option Addr) (len0 cap0 : Nat) (y0 : List Int) (a1 : Option Addr) (len1 cap1 : Nat) (y1 : List Int) (w : World) (w0 : y0.length = len0 ∧ BV w a0 y0 ∧ (a0 = none → cap0 = 0) ∧ len0 ≤ cap0 ∧ cap0 ≤ 9223372036854775807) (w1 : y1.length = len1 ∧ BV w a1 y1 ∧ (a1 = none → cap1 = 0) ∧ len1 ≤ cap1 ∧ cap1 ≤ 9223372036854775807) (h : 400 < len0) :
    Calls Try.prog 4 #[.slice a0 len0 cap0, .slice a1 len1 cap1] w fun e w' => e = .returned (.bool true) ∧ Below w.heap.size w w' := by
  have HA := awake_any
  have h1 : decide ((400 : Int) < (len0 : Int)) = true := by simp; omega
  clear w0 w1
  go_enter Try.func4, Try.ntmps4
  go_wp2_with (first | (go_at_call 8; refine (HA _).mono ?_; rintro e w2 ⟨rfl, hb2⟩; clear HA) | fail)
  go_ret
  exact ⟨rfl, hb2⟩
set_option maxHeartbeats 1000000 in
theorem walk_r (a0 : Option Addr) (len0 cap0 : Nat) (y0 : List Int) (a1 : Option Addr) (len1 cap1 : Nat) (y1 : List Int) (w : World) (w0 : y0.length = len0 ∧ BV w a0 y0 ∧ (a0 = none → cap0 = 0) ∧ len0 ≤ cap0 ∧ cap0 ≤ 9223372036854775807) (w1 : y1.length = len1 ∧ BV w a1 y1 ∧ (a1 = none → cap1 = 0) ∧ len1 ≤ cap1 ∧ cap1 ≤ 9223372036854775807) (h : ¬ 400 < len0) (h2 : 400 < len1) :
    Calls Try.prog 4 #[.slice a0 len0 cap0, .slice a1 len1 cap1] w fun e w' => e = .returned (.bool true) ∧ Below w.heap.size w w' := by
  have HA := awake_any
  have h1 : decide ((400 : Int) < (len0 : Int)) = false := by simp; omega
  have h3 : decide ((400 : Int) < (len1 : Int)) = true := by simp; omega
  clear w0 w1
  go_enter Try.func4, Try.ntmps4
  go_wp2_with (first | (go_at_call 8; refine (HA _).mono ?_; rintro e w2 ⟨rfl, hb2⟩; clear HA) | fail)
  go_ret
  exact ⟨rfl, hb2⟩
set_option maxHeartbeats 1600000 in
theorem walk_m (a0 : Option Addr) (len0 cap0 : Nat) (y0 : List Int) (a1 : Option Addr) (len1 cap1 : Nat) (y1 : List Int) (w : World) (w0 : y0.length = len0 ∧ BV w a0 y0 ∧ (a0 = none → cap0 = 0) ∧ len0 ≤ cap0 ∧ cap0 ≤ 9223372036854775807) (w1 : y1.length = len1 ∧ BV w a1 y1 ∧ (a1 = none → cap1 = 0) ∧ len1 ≤ cap1 ∧ cap1 ≤ 9223372036854775807) (h : ¬ 400 < len0) (h2 : ¬ 400 < len1) :
    Calls Try.prog 4 #[.slice a0 len0 cap0, .slice a1 len1 cap1] w fun e w' => e = .returned (.bool true) ∧ Below w.heap.size w w' := by
  have HA := awake_any
  have h1 : decide ((400 : Int) < (len0 : Int)) = false := by simp; omega
  have h3 : decide ((400 : Int) < (len1 : Int)) = false := by simp; omega
  obtain ⟨rfl, hb0, _, hc0, hm0⟩ := w0
  obtain ⟨rfl, hb1, _, hc1, hm1⟩ := w1
  have HG1 : Hid (∀ W, Below w.heap.size w W → Calls Try.prog 14 #[.slice a0 y0.length cap0] W fun e w' => GetPost W (getS y0) e w') := fun W hW => groot_any a0 cap0 y0 W (hb0.below hW) hc0 hm0
  have HG2 : Hid (∀ W, Below w.heap.size w W → Calls Try.prog 15 #[.slice a0 y0.length cap0] W fun e w' => GetPost W (getS y0) e w') := fun W hW => rgroot_any a0 cap0 y0 W (hb0.below hW) hc0 hm0
  have HC1 : Hid (∀ W, Below w.heap.size w W → Calls Try.prog 16 #[.slice a0 y0.length cap0, .slice a1 y1.length cap1] W fun e w' => ChoosePost W (chS y0 y1 2) e w') := fun W hW => choose_any a0 a1 cap0 cap1 y0 y1 W (hb0.below hW) (hb1.below hW) hc0 hc1 hm0 hm1
  have HC2 : Hid (∀ W, Below w.heap.size w W → Calls Try.prog 17 #[.slice a0 y0.length cap0, .slice a1 y1.length cap1] W fun e w' => ChoosePost W (chS y0 y1 2) e w') := fun W hW => rch_any a0 a1 cap0 cap1 y0 y1 W (hb0.below hW) (hb1.below hW) hc0 hc1 hm0 hm1
  generalize getS y0 = g at *
  generalize chS y0 y1 2 = c at *
  generalize y0.length = n0 at *
  generalize y1.length = n1 at *
  obtain ⟨x, ge⟩ := g
  obtain ⟨z, cn, ce⟩ := c
  have B0 : Hid (Below w.heap.size w w) := Below.refl _ _
  clear hb0 hb1 hc0 hm0 hc1 hm1 h h2
  go_enter Try.func4, Try.ntmps4
  go_wp2_with fail
  refine (HG1.out _ B0.out).mono ?_
  rintro r1 w1 ⟨ta1, tc1, ma1, mc1, rfl, H1⟩
  unfold rootV
  obtain ⟨p1, hp⟩ : ∃ p, p = w1.heap.size := ⟨_, rfl⟩
  obtain ⟨W1, hW⟩ : ∃ W, W = w1.alloc (.cells #[.int .i64 x.E, .int .i64 x.B, .int .i64 x.N, .int .i64 x.S, .slice ta1 x.T.length tc1, .slice ma1 x.M.length mc1] 31) := ⟨_, rfl⟩
  have bb : Below w.heap.size w W1 := by
    have q : Below w.heap.size w w1 := H1.out.2.1
    rw [hW]
    exact q.trans (((Below.refl _ _).alloc (Nat.le_refl _) _).mono q.size)
  have B1 : Hid (Below w.heap.size w W1) := B0.out.trans (bb.mono B0.out.size)
  have X1 : Hid (Bx 31 W1 p1 x ta1 tc1 ma1 mc1) := Bx.new H1.out.1 hp hW
  go_wp2_with fail
  rw [← hW, ← hp]
  clear hW hp bb H1 HG1
  refine (HG2.out _ B1.out).mono ?_
  rintro r2 w2 ⟨ta2, tc2, ma2, mc2, rfl, H2⟩
  unfold rootV
  obtain ⟨p2, hp⟩ : ∃ p, p = w2.heap.size := ⟨_, rfl⟩
  obtain ⟨W2, hW⟩ : ∃ W, W = w2.alloc (.cells #[.int .i64 x.E, .int .i64 x.B, .int .i64 x.N, .int .i64 x.S, .slice ta2 x.T.length tc2, .slice ma2 x.M.length mc2] 24) := ⟨_, rfl⟩
  have bb : Below W1.heap.size W1 W2 := by
    have q : Below W1.heap.size W1 w2 := H2.out.2.1
    rw [hW]
    exact q.trans (((Below.refl _ _).alloc (Nat.le_refl _) _).mono q.size)
  have B2 : Hid (Below w.heap.size w W2) := B1.out.trans (bb.mono B1.out.size)
  replace X1 : Hid (Bx 31 W2 p1 x ta1 tc1 ma1 mc1) := X1.out.below bb
  have X2 : Hid (Bx 24 W2 p2 x ta2 tc2 ma2 mc2) := Bx.new H2.out.1 hp hW
  go_wp2_with fail
  rw [← hW, ← hp]
  clear hW hp bb H2 HG2
  refine (HC1.out _ B2.out).mono ?_
  rintro r3 w3 ⟨ta3, tc3, ma3, mc3, rfl, H3⟩
  unfold rootV
  obtain ⟨p3, hp⟩ : ∃ p, p = w3.heap.size := ⟨_, rfl⟩
  obtain ⟨W3, hW⟩ : ∃ W, W = w3.alloc (.cells #[.int .i64 z.E, .int .i64 z.B, .int .i64 z.N, .int .i64 z.S, .slice ta3 z.T.length tc3, .slice ma3 z.M.length mc3] 31) := ⟨_, rfl⟩
  have bb : Below W2.heap.size W2 W3 := by
    have q : Below W2.heap.size W2 w3 := H3.out.2.1
    rw [hW]
    exact q.trans (((Below.refl _ _).alloc (Nat.le_refl _) _).mono q.size)
  have B3 : Hid (Below w.heap.size w W3) := B2.out.trans (bb.mono B2.out.size)
  replace X1 : Hid (Bx 31 W3 p1 x ta1 tc1 ma1 mc1) := X1.out.below bb
  replace X2 : Hid (Bx 24 W3 p2 x ta2 tc2 ma2 mc2) := X2.out.below bb
  have X3 : Hid (Bx 31 W3 p3 z ta3 tc3 ma3 mc3) := Bx.new H3.out.1 hp hW
  go_wp2_with fail
  rw [← hW, ← hp]
  clear hW hp bb H3 HC1
  refine (HC2.out _ B3.out).mono ?_
  rintro r4 w4 ⟨ta4, tc4, ma4, mc4, rfl, H4⟩
  unfold rootV
  obtain ⟨p4, hp⟩ : ∃ p, p = w4.heap.size := ⟨_, rfl⟩
  obtain ⟨W4, hW⟩ : ∃ W, W = w4.alloc (.cells #[.int .i64 z.E, .int .i64 z.B, .int .i64 z.N, .int .i64 z.S, .slice ta4 z.T.length tc4, .slice ma4 z.M.length mc4] 24) := ⟨_, rfl⟩
  have bb : Below W3.heap.size W3 W4 := by
    have q : Below W3.heap.size W3 w4 := H4.out.2.1
    rw [hW]
    exact q.trans (((Below.refl _ _).alloc (Nat.le_refl _) _).mono q.size)
  have B4 : Hid (Below w.heap.size w W4) := B3.out.trans (bb.mono B3.out.size)
  replace X1 : Hid (Bx 31 W4 p1 x ta1 tc1 ma1 mc1) := X1.out.below bb
  replace X2 : Hid (Bx 24 W4 p2 x ta2 tc2 ma2 mc2) := X2.out.below bb
  replace X3 : Hid (Bx 31 W4 p3 z ta3 tc3 ma3 mc3) := X3.out.below bb
  have X4 : Hid (Bx 24 W4 p4 z ta4 tc4 ma4 mc4) := Bx.new H4.out.1 hp hW
  obtain ⟨c10, c11, c12, c13, c14, c15, _, _, _, _, _, _⟩ := RX.of' X1.out.1
  obtain ⟨c20, c21, c22, c23, c24, c25, _, _, _, _, _, _⟩ := RX.of' X2.out.1
  have HS : Hid (Calls Try.prog 13 #[.agg #[.int .i64 x.E, .int .i64 x.B, .int .i64 x.N, .int .i64 x.S, .slice ta1 x.T.length tc1, .slice ma1 x.M.length mc1], .agg #[.int .i64 x.E, .int .i64 x.B, .int .i64 x.N, .int .i64 x.S, .slice ta2 x.T.length tc2, .slice ma2 x.M.length mc2]] W4 fun e w' => e = .returned (.bool true) ∧ Below W4.heap.size W4 w') := by
    have q := rsame_any x x ta1 ma1 tc1 mc1 ta2 ma2 tc2 mc2 W4 X1.out.2 X2.out.2
    rw [same_self] at q
    exact q
  have hp4 := hp
  have hW4 := hW
  rw [hW4] at c10 c11 c12 c13 c14 c15 c20 c21 c22 c23 c24 c25
  go_wp2_with fail
  rw [← hW]
  try rw [← hp]
  clear hW hp hp4 hW4 bb H4 HC2 c10 c11 c12 c13 c14 c15 c20 c21 c22 c23 c24 c25
  refine (HS.out).mono ?_
  rintro r5 w5 ⟨rfl, hb5⟩
  have B5 : Hid (Below w.heap.size w w5) := B4.out.trans (hb5.mono B4.out.size)
  have Y3 : Hid (Bx 31 w5 p3 z ta3 tc3 ma3 mc3) := X3.out.below hb5
  have Y4 : Hid (Bx 24 w5 p4 z ta4 tc4 ma4 mc4) := X4.out.below hb5
  obtain ⟨c30, c31, c32, c33, c34, c35, _, _, _, _, _, _⟩ := RX.of' Y3.out.1
  obtain ⟨c40, c41, c42, c43, c44, c45, _, _, _, _, _, _⟩ := RX.of' Y4.out.1
  have HS2 : Hid (Calls Try.prog 13 #[.agg #[.int .i64 z.E, .int .i64 z.B, .int .i64 z.N, .int .i64 z.S, .slice ta3 z.T.length tc3, .slice ma3 z.M.length mc3], .agg #[.int .i64 z.E, .int .i64 z.B, .int .i64 z.N, .int .i64 z.S, .slice ta4 z.T.length tc4, .slice ma4 z.M.length mc4]] w5 fun e w' => e = .returned (.bool true) ∧ Below w5.heap.size w5 w') := by
    have q := rsame_any z z ta3 ma3 tc3 mc3 ta4 ma4 tc4 mc4 w5 Y3.out.2 Y4.out.2
    rw [same_self] at q
    exact q
  clear HS X1 X2 X3 X4
  go_wp2_with fail
  refine (HS2.out).mono ?_
  rintro r6 w6 ⟨rfl, hb6⟩
  have B6 : Hid (Below w.heap.size w w6) := B5.out.trans (hb6.mono B5.out.size)
  clear c30 c31 c32 c33 c34 c35 c40 c41 c42 c43 c44 c45 HS2
  go_wp2_with (first | (go_at_call 8; refine (HA _).mono ?_; rintro e w7 ⟨rfl, hb7⟩; clear HA) | fail)
  go_ret
  exact ⟨rfl, B6.out.trans (hb7.mono B6.out.size)⟩
theorem walk (a0 : Option Addr) (len0 cap0 : Nat) (y0 : List Int) (a1 : Option Addr) (len1 cap1 : Nat) (y1 : List Int) (w : World) (w0 : y0.length = len0 ∧ BV w a0 y0 ∧ (a0 = none → cap0 = 0) ∧ len0 ≤ cap0 ∧ cap0 ≤ 9223372036854775807) (w1 : y1.length = len1 ∧ BV w a1 y1 ∧ (a1 = none → cap1 = 0) ∧ len1 ≤ cap1 ∧ cap1 ≤ 9223372036854775807) :
    Calls Try.prog 4 #[.slice a0 len0 cap0, .slice a1 len1 cap1] w fun e w' => e = .returned (.bool true) ∧ Below w.heap.size w w' := by
  by_cases h : 400 < len0
  · exact walk_l a0 len0 cap0 y0 a1 len1 cap1 y1 w w0 w1 h
  · by_cases h2 : 400 < len1
    · exact walk_r a0 len0 cap0 y0 a1 len1 cap1 y1 w w0 w1 h h2
    · exact walk_m a0 len0 cap0 y0 a1 len1 cap1 y1 w w0 w1 h h2
set_option maxRecDepth 100000 in
theorem lifted (os : Os) (started : os.Started) (H : Type) (enc : TypeId × Value → H) :
    ReturnsInHanded {} Try.checked os 4 .any (Rows.rootGetsSpec.pre6 enc Try.prog Try.f4 Rows.rootGetsRow.domain false) (Rows.rootGetsSpec.post enc Try.prog Try.f4 false true false false) := by
  refine returnsInHanded_of_change (C := Try.checked) own started (by kernel_rfl) Try.func4
    (ChangeSpec.witness6 (enc := enc) (C := Try.checked) false ⟨#[], #[.slice none 0 0, .slice none 0 0], []⟩ 8 (by kernel_rfl) (by kernel_rfl) (by kernel_rfl) (by kernel_rfl)) ?_
  intro W base args ds gs before hval0 hW hcnd _
  have hval : ∀ (j : Nat) t v, Try.f4.params[j]? = some t → args[j]? = some v → Value.okWide Try.prog W .any base t v := hval0
  have hW' := hW
  obtain ⟨p, q, hA0, hV, rfl, hfz, hnd⟩ := hW
  have hA : DataW.TrodAll enc Try.prog W 0 (fun _ => true) true Try.f4.params.toList args.toList ds p := hA0
  rw [Try.params4] at hA hval
  obtain ⟨v0, vs0, d0, ds0, p0, q0, hargs, rfl, rfl, h0, r0⟩ := trodAll_cons hA
  obtain ⟨v1, vs1, d1, ds1, p1, q1, rfl, rfl, rfl, h1, r1⟩ := trodAll_cons r0
  obtain ⟨rfl, rfl, rfl⟩ := trodAll_nil r1
  obtain rfl : args = #[v0, v1] := by cases args; simp_all
  obtain ⟨rfl, rfl⟩ := trodVars_none hV
  obtain ⟨a0, len0, cap0, rfl⟩ := okWide_slice Try.underlying27 (hval 0 27 v0 rfl rfl)
  have k0 := h0
  have lt0 : ∀ x ∈ p0, x.block < W.heap.size := by obtain ⟨m, hm⟩ := k0; exact DataW.trod_lt m _ _ _ hm
  obtain ⟨y0, w0⟩ : ∃ ys : List Int, ys.length = len0 ∧ BV W a0 ys ∧ (a0 = none → cap0 = 0) ∧ len0 ≤ cap0 ∧ cap0 ≤ 9223372036854775807 := by
    obtain ⟨fuel, hf⟩ := h0
    rcases open_ints Try.underlying27 Try.underlying5 (by kernel_rfl) hf with ⟨hcs, _⟩ | ⟨x, l, c, zs, hcs, _, hl, hm, hz, _, hcell, hwz⟩
    · simp [Value.cells] at hcs
      obtain ⟨rfl, rfl, rfl⟩ := hcs
      exact bytes_of (zs := []) (.inl ⟨rfl, rfl, rfl, rfl⟩)
    · simp [Value.cells] at hcs
      obtain ⟨rfl, rfl, rfl⟩ := hcs
      exact bytes_of (.inr ⟨_, rfl, hl, hm, by simpa using hz, hcell, hwz⟩)
  obtain ⟨a1, len1, cap1, rfl⟩ := okWide_slice Try.underlying27 (hval 1 27 v1 rfl rfl)
  have k1 := h1
  have lt1 : ∀ x ∈ p1, x.block < W.heap.size := by obtain ⟨m, hm⟩ := k1; exact DataW.trod_lt m _ _ _ hm
  obtain ⟨y1, w1⟩ : ∃ ys : List Int, ys.length = len1 ∧ BV W a1 ys ∧ (a1 = none → cap1 = 0) ∧ len1 ≤ cap1 ∧ cap1 ≤ 9223372036854775807 := by
    obtain ⟨fuel, hf⟩ := h1
    rcases open_ints Try.underlying27 Try.underlying5 (by kernel_rfl) hf with ⟨hcs, _⟩ | ⟨x, l, c, zs, hcs, _, hl, hm, hz, _, hcell, hwz⟩
    · simp [Value.cells] at hcs
      obtain ⟨rfl, rfl, rfl⟩ := hcs
      exact bytes_of (zs := []) (.inl ⟨rfl, rfl, rfl, rfl⟩)
    · simp [Value.cells] at hcs
      obtain ⟨rfl, rfl, rfl⟩ := hcs
      exact bytes_of (.inr ⟨_, rfl, hl, hm, by simpa using hz, hcell, hwz⟩)
  clear hA0 hval0
  refine (walk a0 len0 cap0 y0 a1 len1 cap1 y1 W w0 w1).mono fun e W' ⟨he, bel⟩ => ?_
  subst he
  exact ⟨_, rfl, _, _, _, [], _, [], hW', trodAll_mk1 (shut_bool Try.underlying4 _), (trodAll_cons_mk (Below.trod laidOut (by kernel_rfl) (of_decide_eq_true (by kernel_rfl)) k0 bel lt0) (trodAll_cons_mk (Below.trod laidOut (by kernel_rfl) (of_decide_eq_true (by kernel_rfl)) k1 bel lt1) trodAll_mk0)), rfl, bel.frame _, fun h => by cases h⟩

theorem over : Rows.rootGetsRow.holds Try.pinned (OpenSpec.ofChange Rows.rootGetsSpec) :=
  OpenClaim.holds_of_wide 4 Try.f4 rfl rfl rfl rfl rfl rfl rfl ⟨rfl, rfl, rfl, rfl, rfl⟩ rfl rfl rfl rfl rfl (by kernel_rfl) Try.func4 (by kernel_rfl)
    (of_decide_eq_true (by kernel_rfl)) (by unfold Func.isWrapper; first | (rw [if_pos (by decide +kernel)]; kernel_rfl) | (rw [if_neg (by decide +kernel)]; exact ⟨rfl, rfl⟩))
    (fun os started H enc _ => lifted os started H enc)
end Go.Proofs.Ytadnflaocgmfgaa.rootGets

namespace Go.Proofs.Ytadnflaocgmfgaa
theorem rootGets_holds : Rows.RootGetsSaid := rootGets.over
#print axioms rootGets_holds
end Go.Proofs.Ytadnflaocgmfgaa
