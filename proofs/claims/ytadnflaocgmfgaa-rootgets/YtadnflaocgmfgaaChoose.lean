/- Choose: the program's. -/
import Derived.Test.YtadnflaocgmfgaaGet
namespace Go.Proofs.Ytadnflaocgmfgaa
open Go.RowKit
set_option linter.unusedVariables false
/-- What is chosen: a root, its number, an error. -/
structure CS where
  r : RD
  n : Int
  e : Int
open Classical in
/-- One block more. -/
noncomputable def pick (i : Int) (zs : List Int) (c : CS) : CS :=
  if (getS zs).2 ≠ 0 ∨ (getS zs).1.E.tmod 2 ≠ i then c else if c.e ≠ 0 ∨ c.r.E < (getS zs).1.E then ⟨(getS zs).1, i, 0⟩ else c
noncomputable def chS (xs ys : List Int) : Nat → CS
  | 0 => ⟨zero, 0, 4⟩
  | 1 => pick 0 xs ⟨zero, 0, 4⟩
  | _ => pick 1 ys (pick 0 xs ⟨zero, 0, 4⟩)
def ChoosePost (w : World) (c : CS) (e : Ending) (w' : World) : Prop := ∃ ta tc ma mc, e = .returned (.tuple #[rootV c.r ta tc ma mc, .int .i64 c.n, .int .i64 c.e]) ∧ Hid (Rt w' c.r ta tc ma mc ∧ Below w.heap.size w w' ∧ IVh w.heap.size w' ta c.r.T ∧ IVh w.heap.size w' ma c.r.M)
/-- The boxes of Choose, with what is chosen so far. -/
structure CB (w W : World) (xs ys : List Int) (a : Option Addr) (ca : Nat) (b : Option Addr) (cb : Nat) (c : CS) (ta : Option Addr) (tc : Nat) (ma : Option Addr) (mc : Nat) : Prop where
  o : W.heap[w.heap.size]? = some (.cells #[.int .i64 0, .int .i64 0, .int .i64 0, .int .i64 0, .slice none 0 0, .slice none 0 0] 31 (0, 0))
  x : W.heap[w.heap.size + 1]? = some (.cells #[.int .i64 c.r.E, .int .i64 c.r.B, .int .i64 c.r.N, .int .i64 c.r.S, .slice ta c.r.T.length tc, .slice ma c.r.M.length mc] 31 (0, 0))
  l : W.heap[w.heap.size + 2]? = some (.cells #[.slice a xs.length ca, .slice b ys.length cb] 27 (0, 0))
  rt : Rt W c.r ta tc ma mc
  it : IVh (w.heap.size + 3) W ta c.r.T
  im : IVh (w.heap.size + 3) W ma c.r.M
  bl : Below w.heap.size w W
theorem CB.size {w W : World} {xs ys : List Int} {a b ta ma : Option Addr} {ca cb tc mc : Nat} {c : CS} (h : CB w W xs ys a ca b cb c ta tc ma mc) : w.heap.size + 3 ≤ W.heap.size := (Array.getElem?_eq_some_iff.1 h.l).1
theorem CB.below {w W W' : World} {xs ys : List Int} {a b ta ma : Option Addr} {ca cb tc mc : Nat} {c : CS} (h : CB w W xs ys a ca b cb c ta tc ma mc) (hb : Below W.heap.size W W') : CB w W' xs ys a ca b cb c ta tc ma mc := by
  have hs := h.size
  exact ⟨(hb.block _ (by omega)).trans h.o, (hb.block _ (by omega)).trans h.x, (hb.block _ (by omega)).trans h.l, h.rt.below hb, h.it.below hb, h.im.below hb, h.bl.trans (hb.mono (by omega))⟩
theorem RX.set6 {W : World} {p : Nat} {c0 c1 c2 c3 c4 c5 : Value} (h : W.heap[p]? = some (.cells #[c0, c1, c2, c3, c4, c5] 31 (0, 0))) (u0 u1 u2 u3 u4 u5 : Value) : ((((((W.setCell ⟨p, 0, none⟩ u0).setCell ⟨p, 1, none⟩ u1).setCell ⟨p, 2, none⟩ u2).setCell ⟨p, 3, none⟩ u3).setCell ⟨p, 4, none⟩ u4).setCell ⟨p, 5, none⟩ u5).heap[p]? = some (.cells #[u0, u1, u2, u3, u4, u5] 31 (0, 0)) := by
  have h0 := heap_setCell_same W p 0 _ 31 u0 h
  have h1 := heap_setCell_same _ p 1 _ 31 u1 h0
  have h2 := heap_setCell_same _ p 2 _ 31 u2 h1
  have h3 := heap_setCell_same _ p 3 _ 31 u3 h2
  have h4 := heap_setCell_same _ p 4 _ 31 u4 h3
  have h5 := heap_setCell_same _ p 5 _ 31 u5 h4
  exact h5
theorem block_set6 {W : World} {p k : Nat} (h : k ≠ p) (u0 u1 u2 u3 u4 u5 : Value) : ((((((W.setCell ⟨p, 0, none⟩ u0).setCell ⟨p, 1, none⟩ u1).setCell ⟨p, 2, none⟩ u2).setCell ⟨p, 3, none⟩ u3).setCell ⟨p, 4, none⟩ u4).setCell ⟨p, 5, none⟩ u5).heap[k]? = W.heap[k]? :=
  (heap_setCell_other _ ⟨p, 5, none⟩ k _ h).trans ((heap_setCell_other _ ⟨p, 4, none⟩ k _ h).trans ((heap_setCell_other _ ⟨p, 3, none⟩ k _ h).trans ((heap_setCell_other _ ⟨p, 2, none⟩ k _ h).trans ((heap_setCell_other _ ⟨p, 1, none⟩ k _ h).trans (heap_setCell_other _ ⟨p, 0, none⟩ k _ h)))))
theorem below_set6 {n p : Nat} {w W : World} (h : Below n w W) (hp : n ≤ p) (u0 u1 u2 u3 u4 u5 : Value) : Below n w ((((((W.setCell ⟨p, 0, none⟩ u0).setCell ⟨p, 1, none⟩ u1).setCell ⟨p, 2, none⟩ u2).setCell ⟨p, 3, none⟩ u3).setCell ⟨p, 4, none⟩ u4).setCell ⟨p, 5, none⟩ u5) :=
  (((((h.setCell (p := ⟨p, 0, none⟩) hp _).setCell (p := ⟨p, 1, none⟩) hp _).setCell (p := ⟨p, 2, none⟩) hp _).setCell (p := ⟨p, 3, none⟩) hp _).setCell (p := ⟨p, 4, none⟩) hp _).setCell (p := ⟨p, 5, none⟩) hp _
theorem ivh_set6 {K p : Nat} {W : World} {a : Option Addr} {zs : List Int} (h : IVh K W a zs) (hp : p < K) (u0 u1 u2 u3 u4 u5 : Value) : IVh K ((((((W.setCell ⟨p, 0, none⟩ u0).setCell ⟨p, 1, none⟩ u1).setCell ⟨p, 2, none⟩ u2).setCell ⟨p, 3, none⟩ u3).setCell ⟨p, 4, none⟩ u4).setCell ⟨p, 5, none⟩ u5) a zs :=
  (((((h.set (i := 0) u0 hp).set (i := 1) u1 hp).set (i := 2) u2 hp).set (i := 3) u3 hp).set (i := 4) u4 hp).set (i := 5) u5 hp
theorem CB.set {w W : World} {xs ys : List Int} {a b ta ma ua va : Option Addr} {ca cb tc mc uc vc : Nat} {c : CS} {g : RD} (h : CB w W xs ys a ca b cb c ta tc ma mc) (hr : Rt W g ua uc va vc) (h1 : IVh (w.heap.size + 3) W ua g.T) (h2 : IVh (w.heap.size + 3) W va g.M) (n e : Int) :
    CB w ((((((W.setCell ⟨w.heap.size + 1, 0, none⟩ (.int .i64 g.E)).setCell ⟨w.heap.size + 1, 1, none⟩ (.int .i64 g.B)).setCell ⟨w.heap.size + 1, 2, none⟩ (.int .i64 g.N)).setCell ⟨w.heap.size + 1, 3, none⟩ (.int .i64 g.S)).setCell ⟨w.heap.size + 1, 4, none⟩ (.slice ua g.T.length uc)).setCell ⟨w.heap.size + 1, 5, none⟩ (.slice va g.M.length vc)) xs ys a ca b cb ⟨g, n, e⟩ ua uc va vc :=
  have q1 := ivh_set6 (p := w.heap.size + 1) h1 (by omega) (.int .i64 g.E) (.int .i64 g.B) (.int .i64 g.N) (.int .i64 g.S) (.slice ua g.T.length uc) (.slice va g.M.length vc)
  have q2 := ivh_set6 (p := w.heap.size + 1) h2 (by omega) (.int .i64 g.E) (.int .i64 g.B) (.int .i64 g.N) (.int .i64 g.S) (.slice ua g.T.length uc) (.slice va g.M.length vc)
  ⟨(block_set6 (by omega) _ _ _ _ _ _).trans h.o, RX.set6 h.x _ _ _ _ _ _, (block_set6 (by omega) _ _ _ _ _ _).trans h.l, ⟨q1.iv, q2.iv, hr.tn, hr.mn, hr.tl, hr.ml, hr.th, hr.mh⟩, q1, q2, below_set6 h.bl (by omega) _ _ _ _ _ _⟩
theorem pick_skip1 {i : Int} {zs : List Int} {c : CS} (h : (getS zs).2 ≠ 0) : pick i zs c = c := by unfold pick; rw [if_pos (Or.inl h)]
theorem pick_skip2 {i : Int} {zs : List Int} {c : CS} (h : (getS zs).1.E.tmod 2 ≠ i) : pick i zs c = c := by unfold pick; rw [if_pos (Or.inr h)]
theorem pick_take {i : Int} {zs : List Int} {c : CS} (h0 : (getS zs).2 = 0) (h1 : (getS zs).1.E.tmod 2 = i) (h2 : c.e ≠ 0 ∨ c.r.E < (getS zs).1.E) : pick i zs c = ⟨(getS zs).1, i, 0⟩ := by
  unfold pick; rw [if_neg (by rintro (h | h); exact h h0; exact h h1), if_pos h2]
theorem pick_keep {i : Int} {zs : List Int} {c : CS} (h2 : ¬ (c.e ≠ 0 ∨ c.r.E < (getS zs).1.E)) : pick i zs c = c := by
  unfold pick
  by_cases h : (getS zs).2 ≠ 0 ∨ (getS zs).1.E.tmod 2 ≠ i
  · rw [if_pos h]
  · rw [if_neg h, if_neg h2]
set_option maxHeartbeats 3200000 in
theorem choose_any (a b : Option Addr) (ca cb : Nat) (xs ys : List Int) (w : World) (ha : BV w a xs) (hb : BV w b ys) (hca : xs.length ≤ ca) (hcb : ys.length ≤ cb) (hma : ca ≤ 9223372036854775807) (hmb : cb ≤ 9223372036854775807) :
    Calls Try.prog 16 #[.slice a xs.length ca, .slice b ys.length cb] w fun e w' => ChoosePost w (chS xs ys 2) e w' := by
  have HGA : Hid (∀ W, Below w.heap.size w W → Calls Try.prog 14 #[.slice a xs.length ca] W fun e w' => GetPost W (getS xs) e w') := fun W hW => groot_any a ca xs W (ha.below hW) hca hma
  have HGB : Hid (∀ W, Below w.heap.size w W → Calls Try.prog 14 #[.slice b ys.length cb] W fun e w' => GetPost W (getS ys) e w') := fun W hW => groot_any b cb ys W (hb.below hW) hcb hmb
  obtain ⟨W0, hW0⟩ : ∃ W, W = ((w.alloc (.cells #[.int .i64 0, .int .i64 0, .int .i64 0, .int .i64 0, .slice none 0 0, .slice none 0 0] 31)).alloc (.cells #[.int .i64 0, .int .i64 0, .int .i64 0, .int .i64 0, .slice none 0 0, .slice none 0 0] 31)).alloc (.cells #[.slice a xs.length ca, .slice b ys.length cb] 27) := ⟨_, rfl⟩
  have HC0 : Hid (CB w W0 xs ys a ca b cb ⟨zero, 0, 4⟩ none 0 none 0) := by
    have l1 := heap_alloc_last w (.cells #[.int .i64 0, .int .i64 0, .int .i64 0, .int .i64 0, .slice none 0 0, .slice none 0 0] 31 (0, 0))
    have l2 := heap_alloc_last (w.alloc (.cells #[.int .i64 0, .int .i64 0, .int .i64 0, .int .i64 0, .slice none 0 0, .slice none 0 0] 31)) (.cells #[.int .i64 0, .int .i64 0, .int .i64 0, .int .i64 0, .slice none 0 0, .slice none 0 0] 31 (0, 0))
    have l3 := heap_alloc_last ((w.alloc (.cells #[.int .i64 0, .int .i64 0, .int .i64 0, .int .i64 0, .slice none 0 0, .slice none 0 0] 31)).alloc (.cells #[.int .i64 0, .int .i64 0, .int .i64 0, .int .i64 0, .slice none 0 0, .slice none 0 0] 31)) (.cells #[.slice a xs.length ca, .slice b ys.length cb] 27 (0, 0))
    have b1 : Below (w.heap.size + 1) (w.alloc (.cells #[.int .i64 0, .int .i64 0, .int .i64 0, .int .i64 0, .slice none 0 0, .slice none 0 0] 31)) W0 := by rw [hW0]; exact ((Below.refl _ _).alloc (by simp) _).alloc (by simp) _
    have b2 : Below (w.heap.size + 2) ((w.alloc (.cells #[.int .i64 0, .int .i64 0, .int .i64 0, .int .i64 0, .slice none 0 0, .slice none 0 0] 31)).alloc (.cells #[.int .i64 0, .int .i64 0, .int .i64 0, .int .i64 0, .slice none 0 0, .slice none 0 0] 31)) W0 := by rw [hW0]; exact (Below.refl _ _).alloc (by simp) _
    simp only [World.size_alloc] at l2 l3
    refine ⟨(b1.block _ (by omega)).trans l1, (b2.block _ (by omega)).trans l2, ?_, rt_zero _, .inl rfl, .inl rfl, ?_⟩
    · rw [hW0]; exact l3
    · rw [hW0]; exact (((Below.refl _ _).alloc (Nat.le_refl _) _).alloc (by simp) _).alloc (by simp; omega) _
  clear ha hb
  go_enter Try.func16, Try.ntmps16
  go_wp2_with fail
  rw [← hW0]
  clear hW0
  go_loopw [8, 9, 19] (fun nv ev iv wr => ∃ (k : Nat) (c : CS) (ta : Option Addr) (tc : Nat) (ma : Option Addr) (mc : Nat), k ≤ 2 ∧ iv = .int .i64 k ∧ nv = .int .i64 c.n ∧ ev = .int .i64 c.e ∧ Hid (c = chS xs ys k) ∧ Hid (CB w wr xs ys a ca b cb c ta tc ma mc)) (fun _ _ iv _ => 2 - (intOf iv).toNat)
  case atStart => exact ⟨0, ⟨zero, 0, 4⟩, none, 0, none, 0, Nat.zero_le _, rfl, rfl, rfl, rfl, HC0.out⟩
  case round =>
    obtain ⟨k, c, ta, tc, ma, mc, hk, rfl, rfl, rfl, HCQ, HCB⟩ := hrel
    clear HC0
    by_cases hlt : k < 2
    · obtain ⟨sa, sc, zs, hcell, HG, HPK⟩ : ∃ (sa : Option Addr) (sc : Nat) (zs : List Int), wr.cell? ⟨w.heap.size + 1 + 1, k, none⟩ = some (.slice sa zs.length sc) ∧ Hid (∀ W, Below w.heap.size w W → Calls Try.prog 14 #[.slice sa zs.length sc] W fun e w' => GetPost W (getS zs) e w') ∧ Hid (chS xs ys (k + 1) = pick k zs c) := by
        have hk2 : k = 0 ∨ k = 1 := by omega
        rcases hk2 with e | e
        · exact ⟨a, ca, xs, by rw [e, cell_of_row _ _ _ _ _ _ HCB.out.l]; rfl, HGA.out, by rw [e, HCQ.out, e]; rfl⟩
        · exact ⟨b, cb, ys, by rw [e, cell_of_row _ _ _ _ _ _ HCB.out.l]; rfl, HGB.out, by rw [e, HCQ.out, e]; rfl⟩
      have hK : w.heap.size + 3 ≤ wr.heap.size := HCB.out.size
      have HP1 := @pick_skip1 k zs c
      have HP2 := @pick_skip2 k zs c
      have HP3 := @pick_take k zs c
      have HP4 := @pick_keep k zs c
      have HPP : Hid (((getS zs).2 ≠ 0 → pick k zs c = c) ∧ ((getS zs).1.E.tmod 2 ≠ k → pick k zs c = c) ∧ ((getS zs).2 = 0 → (getS zs).1.E.tmod 2 = k → c.e ≠ 0 ∨ c.r.E < (getS zs).1.E → pick k zs c = ⟨(getS zs).1, k, 0⟩) ∧ (¬ (c.e ≠ 0 ∨ c.r.E < (getS zs).1.E) → pick k zs c = c)) := ⟨HP1, HP2, HP3, HP4⟩
      clear HP1 HP2 HP3 HP4 HGA HGB HCQ
      generalize getS zs = gg at *
      obtain ⟨g1, g2⟩ := gg
      simp only at HPP
      by_cases h0 : g2 = 0
      · subst h0
        by_cases h1 : g1.E.tmod 2 = k
        · by_cases h2 : c.e = 0
          · by_cases h3 : c.r.E < g1.E
            · have HEQ : Hid (⟨g1, k, 0⟩ = chS xs ys (k + 1)) := (HPK.out.trans (HPP.out.2.2.1 rfl h1 (Or.inr h3))).symm
              have hq3 : decide (c.r.E < g1.E) = true := by simpa using h3
              go_wp2_with (first
                | (go_at_call 14; refine (HG.out _ HCB.out.bl).mono ?_; rintro e w2 ⟨ua, uc, va, vc, rfl, H2⟩; unfold rootV; have HC2 : Hid (CB w w2 xs ys a ca b cb c ta tc ma mc) := HCB.out.below H2.out.2.1; clear HG HCB; obtain ⟨x0, x1, x2, x3, x4, x5, y0, y1, y2, y3, y4, y5⟩ := RX.of (HC2.out.below ((Below.refl _ _).alloc (Nat.le_refl _) (.cells #[.int .i64 g1.E, .int .i64 g1.B, .int .i64 g1.N, .int .i64 g1.S, .slice ua g1.T.length uc, .slice va g1.M.length vc] 31))).x)
                | fail)
              have HC3 : Hid (∃ W3, W3 = w2.alloc (.cells #[.int .i64 g1.E, .int .i64 g1.B, .int .i64 g1.N, .int .i64 g1.S, .slice ua g1.T.length uc, .slice va g1.M.length vc] 31) ∧ CB w W3 xs ys a ca b cb c ta tc ma mc ∧ Rt W3 g1 ua uc va vc ∧ IVh (w.heap.size + 3) W3 ua g1.T ∧ IVh (w.heap.size + 3) W3 va g1.M) := ⟨_, rfl, HC2.out.below ((Below.refl _ _).alloc (Nat.le_refl _) _), H2.out.1.below ((Below.refl _ _).alloc (Nat.le_refl _) _), (H2.out.2.2.1.mono hK).below ((Below.refl _ _).alloc (Nat.le_refl _) _), (H2.out.2.2.2.mono hK).below ((Below.refl _ _).alloc (Nat.le_refl _) _)⟩
              obtain ⟨W3, hW3, HC4⟩ := HC3.out
              have HC5 : Hid (CB w _ xs ys a ca b cb ⟨g1, k, 0⟩ ua uc va vc) := HC4.1.set HC4.2.1 HC4.2.2.1 HC4.2.2.2 k 0
              rw [hW3] at HC5
              go_roundw
              case rel => exact ⟨k + 1, ⟨g1, k, 0⟩, ua, uc, va, vc, by omega, by go_num, rfl, rfl, HEQ.out, HC5.out⟩
              case measure => simp [intOf]; omega
            · have HEQ : Hid (c = chS xs ys (k + 1)) := (HPK.out.trans (HPP.out.2.2.2 (by rintro (h | h); exact h h2; exact h3 h))).symm
              have hq3 : decide (c.r.E < g1.E) = false := by simpa using h3
              go_wp2_with (first
                | (go_at_call 14; refine (HG.out _ HCB.out.bl).mono ?_; rintro e w2 ⟨ua, uc, va, vc, rfl, H2⟩; unfold rootV; have HC2 : Hid (CB w w2 xs ys a ca b cb c ta tc ma mc) := HCB.out.below H2.out.2.1; clear HG HCB; obtain ⟨x0, x1, x2, x3, x4, x5, y0, y1, y2, y3, y4, y5⟩ := RX.of (HC2.out.below ((Below.refl _ _).alloc (Nat.le_refl _) (.cells #[.int .i64 g1.E, .int .i64 g1.B, .int .i64 g1.N, .int .i64 g1.S, .slice ua g1.T.length uc, .slice va g1.M.length vc] 31))).x)
                | fail)
              have HC3 : Hid (CB w (w2.alloc (.cells #[.int .i64 g1.E, .int .i64 g1.B, .int .i64 g1.N, .int .i64 g1.S, .slice ua g1.T.length uc, .slice va g1.M.length vc] 31)) xs ys a ca b cb c ta tc ma mc) := HC2.out.below ((Below.refl _ _).alloc (Nat.le_refl _) _)
              go_roundw
              case rel => exact ⟨k + 1, c, ta, tc, ma, mc, by omega, by go_num, rfl, by rw [h2], HEQ.out, HC3.out⟩
              case measure => simp [intOf]; omega
          · have HEQ : Hid (⟨g1, k, 0⟩ = chS xs ys (k + 1)) := (HPK.out.trans (HPP.out.2.2.1 rfl h1 (Or.inl h2))).symm
            have hq2 : (c.e == 0) = false := by simpa using h2
            go_wp2_with (first
              | (go_at_call 14; refine (HG.out _ HCB.out.bl).mono ?_; rintro e w2 ⟨ua, uc, va, vc, rfl, H2⟩; unfold rootV; have HC2 : Hid (CB w w2 xs ys a ca b cb c ta tc ma mc) := HCB.out.below H2.out.2.1; clear HG HCB; obtain ⟨x0, x1, x2, x3, x4, x5, y0, y1, y2, y3, y4, y5⟩ := RX.of (HC2.out.below ((Below.refl _ _).alloc (Nat.le_refl _) (.cells #[.int .i64 g1.E, .int .i64 g1.B, .int .i64 g1.N, .int .i64 g1.S, .slice ua g1.T.length uc, .slice va g1.M.length vc] 31))).x)
              | fail)
            have HC3 : Hid (∃ W3, W3 = w2.alloc (.cells #[.int .i64 g1.E, .int .i64 g1.B, .int .i64 g1.N, .int .i64 g1.S, .slice ua g1.T.length uc, .slice va g1.M.length vc] 31) ∧ CB w W3 xs ys a ca b cb c ta tc ma mc ∧ Rt W3 g1 ua uc va vc ∧ IVh (w.heap.size + 3) W3 ua g1.T ∧ IVh (w.heap.size + 3) W3 va g1.M) := ⟨_, rfl, HC2.out.below ((Below.refl _ _).alloc (Nat.le_refl _) _), H2.out.1.below ((Below.refl _ _).alloc (Nat.le_refl _) _), (H2.out.2.2.1.mono hK).below ((Below.refl _ _).alloc (Nat.le_refl _) _), (H2.out.2.2.2.mono hK).below ((Below.refl _ _).alloc (Nat.le_refl _) _)⟩
            obtain ⟨W3, hW3, HC4⟩ := HC3.out
            have HC5 : Hid (CB w _ xs ys a ca b cb ⟨g1, k, 0⟩ ua uc va vc) := HC4.1.set HC4.2.1 HC4.2.2.1 HC4.2.2.2 k 0
            rw [hW3] at HC5
            go_roundw
            case rel => exact ⟨k + 1, ⟨g1, k, 0⟩, ua, uc, va, vc, by omega, by go_num, rfl, rfl, HEQ.out, HC5.out⟩
            case measure => simp [intOf]; omega
        · have HEQ : Hid (c = chS xs ys (k + 1)) := (HPK.out.trans (HPP.out.2.1 h1)).symm
          have hq1 : (g1.E.tmod 2 == (k : Int)) = false := by simpa using h1
          go_wp2_with (first
            | (go_at_call 14; refine (HG.out _ HCB.out.bl).mono ?_; rintro e w2 ⟨ua, uc, va, vc, rfl, H2⟩; unfold rootV; have HC2 : Hid (CB w w2 xs ys a ca b cb c ta tc ma mc) := HCB.out.below H2.out.2.1; clear HG HCB; obtain ⟨x0, x1, x2, x3, x4, x5, y0, y1, y2, y3, y4, y5⟩ := RX.of (HC2.out.below ((Below.refl _ _).alloc (Nat.le_refl _) (.cells #[.int .i64 g1.E, .int .i64 g1.B, .int .i64 g1.N, .int .i64 g1.S, .slice ua g1.T.length uc, .slice va g1.M.length vc] 31))).x)
            | fail)
          have HC3 : Hid (CB w (w2.alloc (.cells #[.int .i64 g1.E, .int .i64 g1.B, .int .i64 g1.N, .int .i64 g1.S, .slice ua g1.T.length uc, .slice va g1.M.length vc] 31)) xs ys a ca b cb c ta tc ma mc) := HC2.out.below ((Below.refl _ _).alloc (Nat.le_refl _) _)
          go_roundw
          case rel => exact ⟨k + 1, c, ta, tc, ma, mc, by omega, by go_num, rfl, rfl, HEQ.out, HC3.out⟩
          case measure => simp [intOf]; omega
      · have HEQ : Hid (c = chS xs ys (k + 1)) := (HPK.out.trans (HPP.out.1 h0)).symm
        have hq0 : (g2 == 0) = false := by simpa using h0
        go_wp2_with (first
          | (go_at_call 14; refine (HG.out _ HCB.out.bl).mono ?_; rintro e w2 ⟨ua, uc, va, vc, rfl, H2⟩; unfold rootV; have HC2 : Hid (CB w w2 xs ys a ca b cb c ta tc ma mc) := HCB.out.below H2.out.2.1; clear HG HCB; obtain ⟨x0, x1, x2, x3, x4, x5, y0, y1, y2, y3, y4, y5⟩ := RX.of (HC2.out.below ((Below.refl _ _).alloc (Nat.le_refl _) (.cells #[.int .i64 g1.E, .int .i64 g1.B, .int .i64 g1.N, .int .i64 g1.S, .slice ua g1.T.length uc, .slice va g1.M.length vc] 31))).x)
          | fail)
        have HC3 : Hid (CB w (w2.alloc (.cells #[.int .i64 g1.E, .int .i64 g1.B, .int .i64 g1.N, .int .i64 g1.S, .slice ua g1.T.length uc, .slice va g1.M.length vc] 31)) xs ys a ca b cb c ta tc ma mc) := HC2.out.below ((Below.refl _ _).alloc (Nat.le_refl _) _)
        go_roundw
        case rel => exact ⟨k + 1, c, ta, tc, ma, mc, by omega, by go_num, rfl, rfl, HEQ.out, HC3.out⟩
        case measure => simp [intOf]; omega
    · have HCE : Hid (c = chS xs ys 2) := by
        have e : k = 2 := by omega
        have h := HCQ.out
        rw [e] at h
        exact h
      obtain ⟨x0, x1, x2, x3, x4, x5, _⟩ := RX.of HCB.out.x
      obtain ⟨z0, z1, z2, z3, z4, z5, v0, v1, v2, v3, v4, v5⟩ := RX.of HCB.out.o
      clear HGA HGB HCQ
      go_wp2_with fail
      exact bodyPost_ret (v := .tuple #[.agg #[.int .i64 c.r.E, .int .i64 c.r.B, .int .i64 c.r.N, .int .i64 c.r.S, .slice ta c.r.T.length tc, .slice ma c.r.M.length mc], .int .i64 c.n, .int .i64 c.e]) (by simp [results, Try.results16, go_sem, *]) rfl (by rw [← HCE.out]; exact ⟨ta, tc, ma, mc, rfl, ⟨(ivh_set6 (p := w.heap.size) HCB.out.it (by omega) _ _ _ _ _ _).iv, (ivh_set6 (p := w.heap.size) HCB.out.im (by omega) _ _ _ _ _ _).iv, HCB.out.rt.tn, HCB.out.rt.mn, HCB.out.rt.tl, HCB.out.rt.ml, HCB.out.rt.th, HCB.out.rt.mh⟩, set6_below HCB.out.bl _ _ _ _ _ _, (ivh_set6 (p := w.heap.size) HCB.out.it (by omega) _ _ _ _ _ _).mono (by omega), (ivh_set6 (p := w.heap.size) HCB.out.im (by omega) _ _ _ _ _ _).mono (by omega)⟩)
end Go.Proofs.Ytadnflaocgmfgaa
