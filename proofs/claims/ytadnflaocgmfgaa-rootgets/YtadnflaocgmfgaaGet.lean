/- Get: the program's. -/
import Derived.Test.YtadnflaocgmfgaaRead2
import Derived.Test.YtadnflaocgmfgaaBeq
import Derived.Test.YtadnflaocgmfgaaPut
namespace Go.Proofs.Ytadnflaocgmfgaa
open Go.RowKit
set_option linter.unusedVariables false
set_option linter.unusedSimpArgs false
def zero : RD := ⟨0, 0, 0, 0, [], []⟩
open Classical in
/-- What Get tells of a block. -/
noncomputable def getS (zs : List Int) : RD × Int :=
  if zs.length ≠ 256 then (zero, 2) else if zs.drop 250 ≠ (zs.drop 4).take 6 then (zero, 3) else if ¬ Good (zs.take 250) then (zero, 13) else
  if checkE (readS (zs.take 246)) = 0 ∧ putS (readS (zs.take 246)) = zs then (readS (zs.take 246), 0) else (zero, 4)
def GetPost (w : World) (g : RD × Int) (e : Ending) (w' : World) : Prop := ∃ ta tc ma mc, e = .returned (.tuple #[rootV g.1 ta tc ma mc, .int .i64 g.2]) ∧ Hid (Rt w' g.1 ta tc ma mc ∧ Below w.heap.size w w' ∧ IVh w.heap.size w' ta g.1.T ∧ IVh w.heap.size w' ma g.1.M)
theorem rt_zero (w : World) : Rt w zero none 0 none 0 := ⟨.inl rfl, .inl rfl, fun _ => rfl, fun _ => rfl, Nat.le_refl _, Nat.le_refl _, by decide, by decide⟩
theorem post_zero {w w' : World} (c : Int) (hb : Below w.heap.size w w') : GetPost w (zero, c) (.returned (.tuple #[.agg #[.int .i64 0, .int .i64 0, .int .i64 0, .int .i64 0, .slice none 0 0, .slice none 0 0], .int .i64 c])) w' := ⟨none, 0, none, 0, rfl, rt_zero _, hb, .inl rfl, .inl rfl⟩
set_option maxHeartbeats 400000 in
theorem get_arg1 (a : Option Addr) (n cap : Nat) (w : World) (h : n ≠ 256) : Calls Try.prog 14 #[.slice a n cap] w fun e w' => GetPost w (zero, 2) e w' := by
  have hd : ((n : Int) == 256) = false := by simp; omega
  have B0 : Below w.heap.size w (w.alloc (.cells #[.int .i64 0, .int .i64 0, .int .i64 0, .int .i64 0, .slice none 0 0, .slice none 0 0] 31)) := (Below.refl _ _).alloc (Nat.le_refl _) _
  go_enter Try.func14, Try.ntmps14
  go_wp2
  exact bodyPost_ret (v := .tuple #[.agg #[.int .i64 0, .int .i64 0, .int .i64 0, .int .i64 0, .slice none 0 0, .slice none 0 0], .int .i64 2]) (by simp [results, Try.results14, go_sem]) rfl (post_zero 2 B0)
theorem set6_below {w W : World} (h : Below w.heap.size w W) (u0 u1 u2 u3 u4 u5 : Value) : Below w.heap.size w ((((((W.setCell ⟨w.heap.size, 0, none⟩ u0).setCell ⟨w.heap.size, 1, none⟩ u1).setCell ⟨w.heap.size, 2, none⟩ u2).setCell ⟨w.heap.size, 3, none⟩ u3).setCell ⟨w.heap.size, 4, none⟩ u4).setCell ⟨w.heap.size, 5, none⟩ u5) :=
  (((((h.setCell (p := ⟨w.heap.size, 0, none⟩) (Nat.le_refl _) _).setCell (p := ⟨w.heap.size, 1, none⟩) (Nat.le_refl _) _).setCell (p := ⟨w.heap.size, 2, none⟩) (Nat.le_refl _) _).setCell (p := ⟨w.heap.size, 3, none⟩) (Nat.le_refl _) _).setCell (p := ⟨w.heap.size, 4, none⟩) (Nat.le_refl _) _).setCell (p := ⟨w.heap.size, 5, none⟩) (Nat.le_refl _) _
theorem IVh.below {K : Nat} {w w' : World} {a : Option Addr} {zs : List Int} (h : IVh K w a zs) (hb : Below w.heap.size w w') : IVh K w' a zs := h.keep (fun k _ hl => hb.block k hl) hb.size
theorem IVh.set6 {w W : World} {a : Option Addr} {zs : List Int} (h : IVh (w.heap.size + 1) W a zs) (u0 u1 u2 u3 u4 u5 : Value) : IVh (w.heap.size + 1) ((((((W.setCell ⟨w.heap.size, 0, none⟩ u0).setCell ⟨w.heap.size, 1, none⟩ u1).setCell ⟨w.heap.size, 2, none⟩ u2).setCell ⟨w.heap.size, 3, none⟩ u3).setCell ⟨w.heap.size, 4, none⟩ u4).setCell ⟨w.heap.size, 5, none⟩ u5) a zs :=
  (((((h.set (i := 0) u0 (Nat.lt_succ_self _)).set (i := 1) u1 (Nat.lt_succ_self _)).set (i := 2) u2 (Nat.lt_succ_self _)).set (i := 3) u3 (Nat.lt_succ_self _)).set (i := 4) u4 (Nat.lt_succ_self _)).set (i := 5) u5 (Nat.lt_succ_self _)
theorem rt_set6 {w W : World} {r : RD} {ta ma : Option Addr} {tc mc : Nat} (h : Rt W r ta tc ma mc) (ht : IVh (w.heap.size + 1) W ta r.T) (hm : IVh (w.heap.size + 1) W ma r.M) (u0 u1 u2 u3 u4 u5 : Value) : Rt ((((((W.setCell ⟨w.heap.size, 0, none⟩ u0).setCell ⟨w.heap.size, 1, none⟩ u1).setCell ⟨w.heap.size, 2, none⟩ u2).setCell ⟨w.heap.size, 3, none⟩ u3).setCell ⟨w.heap.size, 4, none⟩ u4).setCell ⟨w.heap.size, 5, none⟩ u5) r ta tc ma mc :=
  ⟨(ht.set6 u0 u1 u2 u3 u4 u5).iv, (hm.set6 u0 u1 u2 u3 u4 u5).iv, h.tn, h.mn, h.tl, h.ml, h.th, h.mh⟩
theorem good250 {zs : List Int} (hl : zs.length = 256) : openE (zs.take 250) = (if Good (zs.take 250) then 0 else 13) ∧ (Good (zs.take 250) → openL (zs.take 250) = zs.take 246) := by
  have h1 : (zs.take 250).length = 250 := by rw [List.length_take]; omega
  refine ⟨?_, fun hg => ?_⟩
  · unfold openE; rw [if_neg (by omega)]
  · unfold openL
    rw [if_neg (by omega), if_pos hg, h1, List.take_take]
    rfl
set_option maxHeartbeats 3200000 in
theorem get_all (b off cap : Nat) (zs : List Int) (w : World) (hb : BV w (some ⟨b, off, none⟩) zs) (hl : zs.length = 256) (hc : 256 ≤ cap) (hcm : cap ≤ 9223372036854775807) : Calls Try.prog 14 #[.slice (some ⟨b, off, none⟩) 256 cap] w fun e w' => GetPost w (getS zs) e w' := by
  obtain ⟨gs, hgs⟩ : ∃ gs, gs = getS zs := ⟨_, rfl⟩
  rw [← hgs]
  have HGZ : Hid (gs = getS zs) := hgs
  clear hgs
  obtain ⟨q, hq⟩ : ∃ q, q = decide (zs.drop 250 = (zs.drop 4).take 6) := ⟨_, rfl⟩
  have HEQ : Hid (∀ W, Below w.heap.size w W → Calls Try.prog 28 #[.slice (some ⟨b, off + 250, none⟩) 6 (cap - 250), .slice (some ⟨b, off + 4, none⟩) 6 (cap - 4)] W fun e w' => e = .returned (.bool q) ∧ Below W.heap.size W w') := fun W hW => by
    have h := beq_any (some ⟨b, off + 250, none⟩) (some ⟨b, off + 4, none⟩) (cap - 250) (cap - 4) (zs.drop 250) ((zs.drop 4).take 6) W ((hb.below hW).drop 250) (((hb.below hW).drop 4).take 6) (by intro h; cases h) (by intro h; cases h)
    rw [List.length_drop, List.length_take, List.length_drop, hl, ← hq] at h
    exact h
  have HOP : Hid (∀ W, Below w.heap.size w W → Calls Try.prog 29 #[.slice (some ⟨b, off, none⟩) 250 cap] W fun e w' => ∃ v, e = .returned (.tuple #[v, .int .i64 (openE (zs.take 250))]) ∧ Own w' W.heap.size v (openL (zs.take 250)) ∧ Below W.heap.size W w') := fun W hW => by
    have h := open_any (some ⟨b, off, none⟩) cap (zs.take 250) W ((hb.below hW).take 250) (by rw [List.length_take]; omega) (by rw [List.length_take]; omega)
    rw [List.length_take, hl] at h
    exact h
  have HBV : Hid (BV w (some ⟨b, off, none⟩) zs) := hb
  have HLZ : Hid (zs.length = 256) := hl
  obtain ⟨W0, hW0⟩ : ∃ W, W = w.alloc (.cells #[.int .i64 0, .int .i64 0, .int .i64 0, .int .i64 0, .slice none 0 0, .slice none 0 0] 31) := ⟨_, rfl⟩
  have hB0 : Below w.heap.size w W0 := by rw [hW0]; exact (Below.refl _ _).alloc (Nat.le_refl _) _
  have HX0 : Hid (W0.drew.heap[w.heap.size]? = some (.cells #[.int .i64 0, .int .i64 0, .int .i64 0, .int .i64 0, .slice none 0 0, .slice none 0 0] 31 (0, 0))) := by
    have : W0.heap[w.heap.size]? = some (.cells #[.int .i64 0, .int .i64 0, .int .i64 0, .int .i64 0, .slice none 0 0, .slice none 0 0] 31 (0, 0)) := by rw [hW0]; exact heap_alloc_last _ _
    exact this
  have hWs : w.heap.size < W0.drew.heap.size := (Array.getElem?_eq_some_iff.1 HX0.out).1
  have HQD : Hid (q = decide (zs.drop 250 = (zs.drop 4).take 6)) := hq
  have hc10 : (10 : Int) ≤ (cap : Int) := by omega
  have hc4 : ¬ cap = 4 := by omega
  have hc250 : ¬ cap = 250 := by omega
  clear hb hl hq
  go_enter Try.func14, Try.ntmps14
  go_wp2_with fail
  rw [← hW0]
  clear hW0
  refine wp_region_noPanic ?_
  refine name_ops ?_
  intro O QQ HO HQ
  refine wp_region_held_drew (S := fun W' => Below w.heap.size w W') (by kernel_rfl) hB0.drew (fun hS => ?_)
  rw [show O.size = 6 by rw [HO.out]; rfl]
  refine wpAnyH_take (i := 0) (v := .slice (some ⟨b, off, none⟩) 256 cap) (by rw [HO.out]; simp only [List.getElem?_toArray, List.getElem?_cons_succ, List.getElem?_cons_zero]; rfl) (by rw [HO.out]; kernel_rfl) (by rw [HO.out]; kernel_rfl) (by rw [HO.out]; kernel_rfl) (by rw [HQ.out]; exact fun _ _ _ h => h) (Or.inl ⟨by rfl, ?_⟩) hS ?_
  · intro w' hSw
    go_simp
  try simp only [Act.put, List.setIfInBounds_toArray, List.set_cons_zero, List.set_cons_succ]
  refine wpAnyH_take (i := 1) (v := .slice (some ⟨b, off + 250, none⟩) 6 (cap - 250)) (by rw [HO.out]; simp only [List.getElem?_toArray, List.getElem?_cons_succ, List.getElem?_cons_zero]; rfl) (by rw [HO.out]; kernel_rfl) (by rw [HO.out]; kernel_rfl) (by rw [HO.out]; kernel_rfl) (by rw [HQ.out]; exact fun _ _ _ h => h) (Or.inl ⟨by rfl, ?_⟩) hS ?_
  · intro w' hSw
    go_simp
  try simp only [Act.put, List.setIfInBounds_toArray, List.set_cons_zero, List.set_cons_succ]
  refine wpAnyH_take (i := 2) (v := .slice (some ⟨b, off, none⟩) 256 cap) (by rw [HO.out]; simp only [List.getElem?_toArray, List.getElem?_cons_succ, List.getElem?_cons_zero]; rfl) (by rw [HO.out]; kernel_rfl) (by rw [HO.out]; kernel_rfl) (by rw [HO.out]; kernel_rfl) (by rw [HQ.out]; exact fun _ _ _ h => h) (Or.inl ⟨by rfl, ?_⟩) hS ?_
  · intro w' hSw
    go_simp
  try simp only [Act.put, List.setIfInBounds_toArray, List.set_cons_zero, List.set_cons_succ]
  refine wpAnyH_take (i := 3) (v := .slice (some ⟨b, off + 4, none⟩) 6 (cap - 4)) (by rw [HO.out]; simp only [List.getElem?_toArray, List.getElem?_cons_succ, List.getElem?_cons_zero]; rfl) (by rw [HO.out]; kernel_rfl) (by rw [HO.out]; kernel_rfl) (by rw [HO.out]; kernel_rfl) (by rw [HQ.out]; exact fun _ _ _ h => h) (Or.inl ⟨by rfl, ?_⟩) hS ?_
  · intro w' hSw
    go_simp
  try simp only [Act.put, List.setIfInBounds_toArray, List.set_cons_zero, List.set_cons_succ]
  refine wpAnyH_ready (rs := [4]) (by rw [HO.out]; kernel_rfl) (by simp) ?_
  refine AllReadyH.cons (o := _) (by rw [HO.out]; simp only [List.getElem?_toArray, List.getElem?_cons_succ, List.getElem?_cons_zero]; rfl) (fun K4 hK4 => ?_) ?_
  · go_simp
    refine (HEQ.out _ hS).mono ?_
    rintro e w1 ⟨rfl, hb1⟩
    have HB1 : Hid (Below w.heap.size w w1) := hS.trans (hb1.mono hS.size)
    have HX1 : Hid (w1.heap[w.heap.size]? = some (.cells #[.int .i64 0, .int .i64 0, .int .i64 0, .int .i64 0, .slice none 0 0, .slice none 0 0] 31 (0, 0))) := (hb1.block w.heap.size hWs).trans HX0.out
    refine hK4.out _ _ HB1.out (fun hS1 => ?_)
    try simp only [Act.put, List.setIfInBounds_toArray, List.set_cons_zero, List.set_cons_succ]
    refine wpAnyH_take (i := 5) (v := .bool (!q)) (by rw [HO.out]; simp only [List.getElem?_toArray, List.getElem?_cons_succ, List.getElem?_cons_zero]; rfl) (by rw [HO.out]; kernel_rfl) (by rw [HO.out]; kernel_rfl) (by rw [HO.out]; kernel_rfl) (by rw [HQ.out]; exact fun _ _ _ h => h) (Or.inl ⟨by rfl, ?_⟩) HB1.out ?_
    · intro w' hSw
      go_simp
    try simp only [Act.put, List.setIfInBounds_toArray, List.set_cons_zero, List.set_cons_succ]
    refine wpAnyH_done (by rw [HO.out]; kernel_rfl) ?_ _
    rw [HQ.out]
    refine NoPanic.normal ?_
    clear hS hS1 HEQ hB0 HX0 hb1
    obtain ⟨z0, z1, z2, z3, z4, z5, v0, v1, v2, v3, v4, v5⟩ := RX.of HX1.out
    cases q
    · have HG : Hid (gs = (zero, 3)) := by
        have hne : zs.drop 250 ≠ (zs.drop 4).take 6 := by have := HQD.out; simpa using this.symm
        rw [HGZ.out]
        show _ = _
        unfold getS
        rw [if_neg (by rw [HLZ.out]; simp), if_pos hne]
      go_wp2_with fail
      exact bodyPost_ret (v := .tuple #[.agg #[.int .i64 0, .int .i64 0, .int .i64 0, .int .i64 0, .slice none 0 0, .slice none 0 0], .int .i64 3]) (by simp [results, Try.results14, go_sem, *]) rfl (by rw [HG.out]; exact post_zero 3 (set6_below HB1.out _ _ _ _ _ _))
    · have hqt : zs.drop 250 = (zs.drop 4).take 6 := by have := HQD.out; simpa using this.symm
      clear z0 z1 z2 z3 z4 z5 v0 v1 v2 v3 v4 v5
      go_wp2_with fail
      refine (HOP.out _ HB1.out).mono ?_
      rintro e w2 ⟨v, rfl, ho2, hb2⟩
      have HB2 : Hid (Below w.heap.size w w2) := HB1.out.trans (hb2.mono HB1.out.size)
      have HX2 : Hid (w2.heap[w.heap.size]? = some (.cells #[.int .i64 0, .int .i64 0, .int .i64 0, .int .i64 0, .slice none 0 0, .slice none 0 0] 31 (0, 0))) := (hb2.block w.heap.size (Array.getElem?_eq_some_iff.1 HX1.out).1).trans HX1.out
      have hgE := (good250 HLZ.out).1
      by_cases hg : Good (zs.take 250)
      · have HOL : Hid (Own w2 w1.heap.size v (zs.take 246)) := by
          have h := ho2
          rw [(good250 HLZ.out).2 hg] at h
          exact h
        have hE : openE (zs.take 250) = 0 := by rw [hgE, if_pos hg]
        have hl246 : (zs.take 246).length = 246 := by rw [List.length_take, HLZ.out]; rfl
        obtain ⟨ga, gc, rfl, hgn, hgb, hgl, hgm⟩ := HOL.out.slice (HBV.out.1.take 246)
        rw [hl246] at hgl ⊢
        have HRE : Hid (Calls Try.prog 30 #[.slice ga 246 gc] w2 fun e w' => ∃ ta tc ma mc, e = .returned (rootV (readS (zs.take 246)) ta tc ma mc) ∧ Rt w' (readS (zs.take 246)) ta tc ma mc ∧ (IVh w2.heap.size w' ta (readS (zs.take 246)).T ∧ IVh w2.heap.size w' ma (readS (zs.take 246)).M) ∧ Below w2.heap.size w2 w') := by
          have h := read_any ga gc (zs.take 246) w2 hgb hl246 (by rw [hl246]; exact hgl)
          rw [hl246] at h
          exact h
        have HG1 : Hid (checkE (readS (zs.take 246)) = 0 ∧ putS (readS (zs.take 246)) = zs → gs = (readS (zs.take 246), 0)) := fun h0 => by
          rw [HGZ.out]
          unfold getS
          rw [if_neg (by rw [HLZ.out]; simp), if_neg (fun h => h hqt), if_neg (fun h => h hg), if_pos h0]
        have HG2 : Hid (¬ (checkE (readS (zs.take 246)) = 0 ∧ putS (readS (zs.take 246)) = zs) → gs = (zero, 4)) := fun h0 => by
          rw [HGZ.out]
          unfold getS
          rw [if_neg (by rw [HLZ.out]; simp), if_neg (fun h => h hqt), if_neg (fun h => h hg), if_neg h0]
        rw [hE]
        clear HOP hgE hE hg hgb ho2 HOL hqt HQD hb2 HB1 HX1
        generalize readS (zs.take 246) = r at *
        go_wp2_with (first
          | (go_at_call 30; refine HRE.out.mono ?_; rintro e w3 ⟨ta, tc, ma, mc, rfl, hr3, hrt3, hb3⟩; unfold rootV; clear HRE)
          | fail)
        obtain ⟨W4, hW4⟩ : ∃ W, W = w3.alloc (.cells #[.int .i64 r.E, .int .i64 r.B, .int .i64 r.N, .int .i64 r.S, .slice ta r.T.length tc, .slice ma r.M.length mc] 31) := ⟨_, rfl⟩
        rw [← hW4]
        have hb34 : Below w3.heap.size w3 W4 := by rw [hW4]; exact (Below.refl _ _).alloc (Nat.le_refl _) _
        have HB4 : Hid (Below w.heap.size w W4) := (HB2.out.trans (hb3.mono HB2.out.size)).trans (hb34.mono (Nat.le_trans HB2.out.size hb3.size))
        have HX4 : Hid (W4.heap[w.heap.size]? = some (.cells #[.int .i64 0, .int .i64 0, .int .i64 0, .int .i64 0, .slice none 0 0, .slice none 0 0] 31 (0, 0))) := (hb34.block w.heap.size (Nat.lt_of_lt_of_le (Array.getElem?_eq_some_iff.1 HX2.out).1 hb3.size)).trans ((hb3.block w.heap.size (Array.getElem?_eq_some_iff.1 HX2.out).1).trans HX2.out)
        have HR4 : Hid (Rt W4 r ta tc ma mc) := hr3.below hb34
        have HY4 : Hid (W4.heap[w3.heap.size]? = some (.cells #[.int .i64 r.E, .int .i64 r.B, .int .i64 r.N, .int .i64 r.S, .slice ta r.T.length tc, .slice ma r.M.length mc] 31 (0, 0))) := by rw [hW4]; exact heap_alloc_last _ _
        have hk2 : w.heap.size + 1 ≤ w2.heap.size := (Array.getElem?_eq_some_iff.1 HX2.out).1
        have HRT : Hid (IVh (w.heap.size + 1) W4 ta r.T ∧ IVh (w.heap.size + 1) W4 ma r.M) := ⟨(hrt3.1.mono hk2).below hb34, (hrt3.2.mono hk2).below hb34⟩
        clear hrt3 hk2
        clear hW4 hb34 hr3 HB2
        have HNE : Hid (w.heap.size ≠ w3.heap.size) := by have h1 := (Array.getElem?_eq_some_iff.1 HX2.out).1; have h2 := hb3.size; exact (by omega : w.heap.size ≠ w3.heap.size)
        clear hb3 HX2
        generalize w3.heap.size = xb at *
        have HFIN : Hid (∀ W, Below w.heap.size w W → Rt W r ta tc ma mc → IVh (w.heap.size + 1) W ta r.T → IVh (w.heap.size + 1) W ma r.M → GetPost w (r, 0) (.returned (.tuple #[.agg #[.int .i64 r.E, .int .i64 r.B, .int .i64 r.N, .int .i64 r.S, .slice ta r.T.length tc, .slice ma r.M.length mc], .int .i64 0])) W) := fun W h1 h2 h3 h4 => ⟨ta, tc, ma, mc, rfl, h2, h1, h3.mono (Nat.le_succ _), h4.mono (Nat.le_succ _)⟩
        by_cases hck : checkE r = 0
        · have hok := ok_checkE hck
          have HPU : Hid (Calls Try.prog 9 #[rootV r ta tc ma mc] W4 fun e w' => ∃ pa pc, e = .returned (.tuple #[.slice pa 256 pc, .int .i64 0]) ∧ Hid (BV w' pa (putS r) ∧ (pa = none → pc = 0) ∧ Below W4.heap.size W4 w')) := by
            refine (put_good r ta ma tc mc W4 HR4.out hok).mono ?_
            rintro e w' ⟨v, rfl, ho, hb⟩
            obtain ⟨pa, pc, rfl, q1, q2, q3, q4⟩ := ho.slice (put_all r)
            rw [put_len hok]
            exact ⟨pa, pc, rfl, q2, q1, hb⟩
          unfold rootV at HPU
          obtain ⟨x0, x1, x2, x3, x4, x5, _⟩ := RX.of HY4.out
          obtain ⟨q, hq⟩ : ∃ q, q = decide (putS r = zs) := ⟨_, rfl⟩
          have HEQ : Hid (∀ W pa pc, BV W pa (putS r) → (pa = none → pc = 0) → Below w.heap.size w W → Calls Try.prog 28 #[.slice pa 256 pc, .slice (some ⟨b, off, none⟩) 256 cap] W fun e w' => e = .returned (.bool q) ∧ Below W.heap.size W w') := fun W pa pc h1 h2 h3 => by
            have h := beq_any pa (some ⟨b, off, none⟩) pc cap (putS r) zs W h1 (HBV.out.below h3) h2 (by intro h; cases h)
            rw [put_len hok, HLZ.out, ← hq] at h
            exact h
          have HQ2 : Hid (q = decide (putS r = zs)) := hq
          have HCK : Hid (checkE r = 0) := hck
          clear hq hok hck
          have hne : w.heap.size ≠ xb := HNE.out
          have hne2 : xb ≠ w.heap.size := fun e => hne e.symm
          cases q
          · have HG : Hid (gs = (zero, 4)) := HG2.out (fun h => by have := HQ2.out; simp at this; exact this h.2)
            go_wp2_with (first
              | (go_at_call 9; refine HPU.out.mono ?_; rintro e w5 ⟨pa, pc, rfl, H5⟩; have HB5 : Hid (Below w.heap.size w w5) := HB4.out.trans (H5.out.2.2.mono HB4.out.size); clear HPU x0 x1 x2 x3 x4 x5)
              | (go_at_call 28; refine (HEQ.out _ pa pc H5.out.1 H5.out.2.1 HB5.out).mono ?_; rintro e w6 ⟨rfl, hb6⟩; have HB6 : Hid (Below W4.heap.size W4 w6) := H5.out.2.2.trans (hb6.mono H5.out.2.2.size); obtain ⟨z0, z1, z2, z3, z4, z5, v0, v1, v2, v3, v4, v5⟩ := RX.of ((HB6.out.block w.heap.size (Array.getElem?_eq_some_iff.1 HX4.out).1).trans HX4.out); obtain ⟨y0, y1, y2, y3, y4, y5, _⟩ := RX.of ((HB6.out.block xb (Array.getElem?_eq_some_iff.1 HY4.out).1).trans HY4.out); clear HEQ hb6)
              | fail)
            have HW6 : Hid (Below w.heap.size w w6 ∧ Rt w6 r ta tc ma mc) := ⟨HB4.out.trans (HB6.out.mono HB4.out.size), HR4.out.below HB6.out⟩
            exact bodyPost_ret (v := .tuple #[.agg #[.int .i64 0, .int .i64 0, .int .i64 0, .int .i64 0, .slice none 0 0, .slice none 0 0], .int .i64 4]) (by simp [results, Try.results14, go_sem, *]) rfl (by rw [HG.out]; exact post_zero 4 (set6_below HW6.out.1 _ _ _ _ _ _))
          · have HG : Hid (gs = (r, 0)) := HG1.out ⟨HCK.out, by have := HQ2.out; simpa using this.symm⟩
            go_wp2_with (first
              | (go_at_call 9; refine HPU.out.mono ?_; rintro e w5 ⟨pa, pc, rfl, H5⟩; have HB5 : Hid (Below w.heap.size w w5) := HB4.out.trans (H5.out.2.2.mono HB4.out.size); clear HPU x0 x1 x2 x3 x4 x5)
              | (go_at_call 28; refine (HEQ.out _ pa pc H5.out.1 H5.out.2.1 HB5.out).mono ?_; rintro e w6 ⟨rfl, hb6⟩; have HB6 : Hid (Below W4.heap.size W4 w6) := H5.out.2.2.trans (hb6.mono H5.out.2.2.size); obtain ⟨z0, z1, z2, z3, z4, z5, v0, v1, v2, v3, v4, v5⟩ := RX.of ((HB6.out.block w.heap.size (Array.getElem?_eq_some_iff.1 HX4.out).1).trans HX4.out); obtain ⟨y0, y1, y2, y3, y4, y5, _⟩ := RX.of ((HB6.out.block xb (Array.getElem?_eq_some_iff.1 HY4.out).1).trans HY4.out); clear HEQ hb6)
              | fail)
            have HW6 : Hid (Below w.heap.size w w6 ∧ Rt w6 r ta tc ma mc) := ⟨HB4.out.trans (HB6.out.mono HB4.out.size), HR4.out.below HB6.out⟩
            exact bodyPost_ret (v := .tuple #[.agg #[.int .i64 r.E, .int .i64 r.B, .int .i64 r.N, .int .i64 r.S, .slice ta r.T.length tc, .slice ma r.M.length mc], .int .i64 0]) (by simp [results, Try.results14, go_sem, *]) rfl (by rw [HG.out]; exact HFIN.out _ (set6_below HW6.out.1 _ _ _ _ _ _) (rt_set6 HW6.out.2 (HRT.out.1.below HB6.out) (HRT.out.2.below HB6.out) _ _ _ _ _ _) ((HRT.out.1.below HB6.out).set6 _ _ _ _ _ _) ((HRT.out.2.below HB6.out).set6 _ _ _ _ _ _))
        · have HG : Hid (gs = (zero, 4)) := HG2.out (fun h => hck h.1)
          have HPU : Hid (Calls Try.prog 9 #[rootV r ta tc ma mc] W4 fun e w' => e = .returned (.tuple #[.slice none 0 0, .int .i64 (checkE r)]) ∧ Below W4.heap.size W4 w') := put_bad r ta ma tc mc W4 HR4.out hck
          unfold rootV at HPU
          have hce : (checkE r == 0) = false := by simpa using hck
          obtain ⟨x0, x1, x2, x3, x4, x5, _⟩ := RX.of HY4.out
          clear HG1 HG2
          generalize checkE r = ce at *
          go_wp2_with (first
            | (go_at_call 9; refine HPU.out.mono ?_; rintro e w5 ⟨rfl, hb5⟩; have HB5 : Hid (Below w.heap.size w w5) := HB4.out.trans (hb5.mono HB4.out.size); obtain ⟨z0, z1, z2, z3, z4, z5, v0, v1, v2, v3, v4, v5⟩ := RX.of ((hb5.block w.heap.size (Array.getElem?_eq_some_iff.1 HX4.out).1).trans HX4.out); clear HPU x0 x1 x2 x3 x4 x5)
            | fail)
          exact bodyPost_ret (v := .tuple #[.agg #[.int .i64 0, .int .i64 0, .int .i64 0, .int .i64 0, .slice none 0 0, .slice none 0 0], .int .i64 4]) (by simp [results, Try.results14, go_sem, *]) rfl (by rw [HG.out]; exact post_zero 4 (set6_below HB5.out _ _ _ _ _ _))
      · have hE : openE (zs.take 250) = 13 := by rw [hgE, if_neg hg]
        have HG : Hid (gs = (zero, 13)) := by
          rw [HGZ.out]
          show _ = _
          unfold getS
          rw [if_neg (by rw [HLZ.out]; simp), if_neg (fun h => h hqt), if_pos hg]
        rw [hE]
        obtain ⟨z0, z1, z2, z3, z4, z5, v0, v1, v2, v3, v4, v5⟩ := RX.of HX2.out
        clear HOP hgE hE hg ho2 hqt HQD hb2 HB1 HX1
        go_wp2_with fail
        exact bodyPost_ret (v := .tuple #[.agg #[.int .i64 0, .int .i64 0, .int .i64 0, .int .i64 0, .slice none 0 0, .slice none 0 0], .int .i64 13]) (by simp [results, Try.results14, go_sem, *]) rfl (by rw [HG.out]; exact post_zero 13 (set6_below HB2.out _ _ _ _ _ _))
  exact AllReadyH.nil
theorem groot_any (a : Option Addr) (cap : Nat) (zs : List Int) (w : World) (hb : BV w a zs) (hc : zs.length ≤ cap) (hcm : cap ≤ 9223372036854775807) : Calls Try.prog 14 #[.slice a zs.length cap] w fun e w' => GetPost w (getS zs) e w' := by
  by_cases h : zs.length = 256
  · rw [h]
    have hb0 := hb
    obtain ⟨_, rfl | ⟨b, off, rfl, _, _⟩⟩ := hb
    · simp at h
    · exact get_all b off cap zs w hb0 h (by omega) hcm
  · have e : getS zs = (zero, 2) := by
      unfold getS
      rw [if_pos h]
    rw [e]
    exact get_arg1 a zs.length cap w h
end Go.Proofs.Ytadnflaocgmfgaa
