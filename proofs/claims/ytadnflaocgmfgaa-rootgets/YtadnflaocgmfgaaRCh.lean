/- The document's Choose. -/
import Derived.Test.YtadnflaocgmfgaaRGet
import Derived.Test.YtadnflaocgmfgaaChoose
namespace Go.Proofs.Ytadnflaocgmfgaa
open Go.RowKit
set_option linter.unusedVariables false
set_option linter.unusedSimpArgs false
set_option maxHeartbeats 1000000 in
theorem rch_EE (a b : Option Addr) (ca cb n m : Nat) (x y : RD) (e f : Int) (w : World) (hx : (e == 0) = false) (hy : (f == 0) = false)
    (HGA : Hid (∀ W, Below w.heap.size w W → Calls Try.prog 15 #[.slice a n ca] W fun r w' => GetPost W (x, e) r w'))
    (HGB : Hid (∀ W, Below w.heap.size w W → Calls Try.prog 15 #[.slice b m cb] W fun r w' => GetPost W (y, f) r w')) :
    Calls Try.prog 17 #[.slice a n ca, .slice b m cb] w fun r w' => ChoosePost w ⟨zero, 0, 4⟩ r w' := by
  obtain ⟨W0, hW0⟩ : ∃ W, W = w.alloc (.cells #[.int .i64 0, .int .i64 0, .int .i64 0, .int .i64 0, .slice none 0 0, .slice none 0 0] 24) := ⟨_, rfl⟩
  have hB0 : Below w.heap.size w W0 := by rw [hW0]; exact (Below.refl _ _).alloc (Nat.le_refl _) _
  have X0 : Hid (W0.heap[w.heap.size]? = some (.cells #[.int .i64 0, .int .i64 0, .int .i64 0, .int .i64 0, .slice none 0 0, .slice none 0 0] 24 (0, 0))) := by rw [hW0]; exact heap_alloc_last _ _
  go_enter Try.func17, Try.ntmps17
  go_wp2_with fail
  rw [← hW0]
  clear hW0
  refine (HGA.out _ hB0).mono ?_
  rintro r1 w1 ⟨ta, tc, ma, mc, rfl, H1⟩
  unfold rootV
  obtain ⟨px, hpx⟩ : ∃ p, p = w1.heap.size := ⟨_, rfl⟩
  obtain ⟨W1, hW1⟩ : ∃ W, W = w1.alloc (.cells #[.int .i64 x.E, .int .i64 x.B, .int .i64 x.N, .int .i64 x.S, .slice ta x.T.length tc, .slice ma x.M.length mc] 24) := ⟨_, rfl⟩
  have b01 : Below W0.heap.size W0 w1 := H1.out.2.1
  have b1 : Below w1.heap.size w1 W1 := by rw [hW1]; exact (Below.refl _ _).alloc (Nat.le_refl _) _
  have s0 : w.heap.size < W0.heap.size := (Array.getElem?_eq_some_iff.1 X0.out).1
  have X1 : Hid (W1.heap[w.heap.size]? = some (.cells #[.int .i64 0, .int .i64 0, .int .i64 0, .int .i64 0, .slice none 0 0, .slice none 0 0] 24 (0, 0)) ∧ W1.heap[px]? = some (.cells #[.int .i64 x.E, .int .i64 x.B, .int .i64 x.N, .int .i64 x.S, .slice ta x.T.length tc, .slice ma x.M.length mc] 24 (0, 0)) ∧ w.heap.size < px ∧ px < W1.heap.size) := by
    refine ⟨(b1.block _ (Nat.lt_of_lt_of_le s0 b01.size)).trans ((b01.block _ s0).trans X0.out), by rw [hpx, hW1]; exact heap_alloc_last _ _, by rw [hpx]; exact Nat.lt_of_lt_of_le s0 b01.size, by rw [hpx, hW1]; simp⟩
  have B1 : Hid (Below w.heap.size w W1) := (hB0.trans (b01.mono (Nat.le_of_lt s0))).trans (b1.mono (Nat.le_trans (Nat.le_of_lt s0) b01.size))
  have R1 : Hid (Rt W1 x ta tc ma mc ∧ IVh (w.heap.size + 1) W1 ta x.T ∧ IVh (w.heap.size + 1) W1 ma x.M) :=
    ⟨⟨(H1.out.2.2.1.below b1).iv, (H1.out.2.2.2.below b1).iv, H1.out.1.tn, H1.out.1.mn, H1.out.1.tl, H1.out.1.ml, H1.out.1.th, H1.out.1.mh⟩, (H1.out.2.2.1.below b1).mono s0, (H1.out.2.2.2.below b1).mono s0⟩
  go_wp2_with fail
  rw [← hW1, ← hpx]
  clear hW1 hpx X0 hB0 H1 b01 b1 s0 HGA
  refine (HGB.out _ B1.out).mono ?_
  rintro r2 w2 ⟨ua, uc, va, vc, rfl, H2⟩
  unfold rootV
  obtain ⟨py, hpy⟩ : ∃ p, p = w2.heap.size := ⟨_, rfl⟩
  obtain ⟨W2, hW2⟩ : ∃ W, W = w2.alloc (.cells #[.int .i64 y.E, .int .i64 y.B, .int .i64 y.N, .int .i64 y.S, .slice ua y.T.length uc, .slice va y.M.length vc] 24) := ⟨_, rfl⟩
  have b12 : Below W1.heap.size W1 w2 := H2.out.2.1
  have b2 : Below w2.heap.size w2 W2 := by rw [hW2]; exact (Below.refl _ _).alloc (Nat.le_refl _) _
  have b22 : Below W1.heap.size W1 W2 := b12.trans (b2.mono b12.size)
  have s1 : w.heap.size < W1.heap.size := Nat.lt_trans X1.out.2.2.1 X1.out.2.2.2
  have X2 : Hid (W2.heap[w.heap.size]? = some (.cells #[.int .i64 0, .int .i64 0, .int .i64 0, .int .i64 0, .slice none 0 0, .slice none 0 0] 24 (0, 0)) ∧ W2.heap[px]? = some (.cells #[.int .i64 x.E, .int .i64 x.B, .int .i64 x.N, .int .i64 x.S, .slice ta x.T.length tc, .slice ma x.M.length mc] 24 (0, 0)) ∧ W2.heap[py]? = some (.cells #[.int .i64 y.E, .int .i64 y.B, .int .i64 y.N, .int .i64 y.S, .slice ua y.T.length uc, .slice va y.M.length vc] 24 (0, 0))) :=
    ⟨(b22.block _ s1).trans X1.out.1, (b22.block _ X1.out.2.2.2).trans X1.out.2.1, by rw [hpy, hW2]; exact heap_alloc_last _ _⟩
  have B2 : Hid (Below w.heap.size w W2) := B1.out.trans (b22.mono (Nat.le_of_lt s1))
  have RX2 : Hid (Rt W2 x ta tc ma mc ∧ IVh (w.heap.size + 1) W2 ta x.T ∧ IVh (w.heap.size + 1) W2 ma x.M) :=
    ⟨⟨(R1.out.2.1.below b22).iv, (R1.out.2.2.below b22).iv, R1.out.1.tn, R1.out.1.mn, R1.out.1.tl, R1.out.1.ml, R1.out.1.th, R1.out.1.mh⟩, R1.out.2.1.below b22, R1.out.2.2.below b22⟩
  have RY2 : Hid (Rt W2 y ua uc va vc ∧ IVh (w.heap.size + 1) W2 ua y.T ∧ IVh (w.heap.size + 1) W2 va y.M) :=
    ⟨⟨(H2.out.2.2.1.below b2).iv, (H2.out.2.2.2.below b2).iv, H2.out.1.tn, H2.out.1.mn, H2.out.1.tl, H2.out.1.ml, H2.out.1.th, H2.out.1.mh⟩, (H2.out.2.2.1.below b2).mono s1, (H2.out.2.2.2.below b2).mono s1⟩
  have X3 : Hid (∀ W', Below W2.heap.size W2 W' → W'.heap[w.heap.size]? = some (.cells #[.int .i64 0, .int .i64 0, .int .i64 0, .int .i64 0, .slice none 0 0, .slice none 0 0] 24 (0, 0)) ∧ W'.heap[px]? = some (.cells #[.int .i64 x.E, .int .i64 x.B, .int .i64 x.N, .int .i64 x.S, .slice ta x.T.length tc, .slice ma x.M.length mc] 24 (0, 0)) ∧ W'.heap[py]? = some (.cells #[.int .i64 y.E, .int .i64 y.B, .int .i64 y.N, .int .i64 y.S, .slice ua y.T.length uc, .slice va y.M.length vc] 24 (0, 0))) := fun W' hW =>
    ⟨(hW.block _ (Array.getElem?_eq_some_iff.1 X2.out.1).1).trans X2.out.1, (hW.block _ (Array.getElem?_eq_some_iff.1 X2.out.2.1).1).trans X2.out.2.1, (hW.block _ (Array.getElem?_eq_some_iff.1 X2.out.2.2).1).trans X2.out.2.2⟩
  go_wp2_with fail
  rw [← hW2, ← hpy]
  clear hW2 hpy H2 b12 b2 b22 s1 HGB R1 B1 X1
  refine wp_region_noPanic ?_
  refine name_ops ?_
  intro O QQ HO HQ
  refine wp_region_held_drew (S := fun W' => Below W2.heap.size W2 W') (by kernel_rfl) (Below.refl _ _).drew (fun hS => ?_)
  rw [show O.size = 18 by rw [HO.out]; rfl]
  refine wpAnyH_take (i := 0) (v := .int .i64 e) (by rw [HO.out]; simp only [List.getElem?_toArray, List.getElem?_cons_succ, List.getElem?_cons_zero]; rfl) (by rw [HO.out]; kernel_rfl) (by rw [HO.out]; kernel_rfl) (by rw [HO.out]; kernel_rfl) (by rw [HQ.out]; exact fun _ _ _ h => h) (Or.inl ⟨by rw [HO.out]; kernel_rfl, ?_⟩) hS ?_
  · intro w' hSw
    go_simp
  try simp only [Act.put, List.setIfInBounds_toArray, List.set_cons_zero, List.set_cons_succ]
  refine wpAnyH_take (i := 1) (v := .bool false) (by rw [HO.out]; simp only [List.getElem?_toArray, List.getElem?_cons_succ, List.getElem?_cons_zero]; rfl) (by rw [HO.out]; kernel_rfl) (by rw [HO.out]; kernel_rfl) (by rw [HO.out]; kernel_rfl) (by rw [HQ.out]; exact fun _ _ _ h => h) (Or.inl ⟨by rw [HO.out]; kernel_rfl, ?_⟩) hS ?_
  · intro w' hSw
    go_simp
  try simp only [Act.put, List.setIfInBounds_toArray, List.set_cons_zero, List.set_cons_succ]
  refine wpAnyH_take (i := 2) (v := .bool false) (by rw [HO.out]; simp only [List.getElem?_toArray, List.getElem?_cons_succ, List.getElem?_cons_zero]; rfl) (by rw [HO.out]; kernel_rfl) (by rw [HO.out]; kernel_rfl) (by rw [HO.out]; kernel_rfl) (by rw [HQ.out]; exact fun _ _ _ h => h) (Or.inl ⟨by rw [HO.out]; kernel_rfl, ?_⟩) hS ?_
  · intro w' hSw
    go_simp
  try simp only [Act.put, List.setIfInBounds_toArray, List.set_cons_zero, List.set_cons_succ]
  refine wpAnyH_take (i := 3) (v := undef) (by rw [HO.out]; simp only [List.getElem?_toArray, List.getElem?_cons_succ, List.getElem?_cons_zero]; rfl) (by rw [HO.out]; kernel_rfl) (by rw [HO.out]; kernel_rfl) (by rw [HO.out]; kernel_rfl) (by rw [HQ.out]; exact fun _ _ _ h => h) (Or.inr ⟨by rw [HO.out]; kernel_rfl, rfl⟩) hS ?_
  try simp only [Act.put, List.setIfInBounds_toArray, List.set_cons_zero, List.set_cons_succ]
  refine wpAnyH_take (i := 4) (v := undef) (by rw [HO.out]; simp only [List.getElem?_toArray, List.getElem?_cons_succ, List.getElem?_cons_zero]; rfl) (by rw [HO.out]; kernel_rfl) (by rw [HO.out]; kernel_rfl) (by rw [HO.out]; kernel_rfl) (by rw [HQ.out]; exact fun _ _ _ h => h) (Or.inr ⟨by rw [HO.out]; kernel_rfl, rfl⟩) hS ?_
  try simp only [Act.put, List.setIfInBounds_toArray, List.set_cons_zero, List.set_cons_succ]
  refine wpAnyH_take (i := 5) (v := undef) (by rw [HO.out]; simp only [List.getElem?_toArray, List.getElem?_cons_succ, List.getElem?_cons_zero]; rfl) (by rw [HO.out]; kernel_rfl) (by rw [HO.out]; kernel_rfl) (by rw [HO.out]; kernel_rfl) (by rw [HQ.out]; exact fun _ _ _ h => h) (Or.inr ⟨by rw [HO.out]; kernel_rfl, rfl⟩) hS ?_
  try simp only [Act.put, List.setIfInBounds_toArray, List.set_cons_zero, List.set_cons_succ]
  refine wpAnyH_take (i := 6) (v := undef) (by rw [HO.out]; simp only [List.getElem?_toArray, List.getElem?_cons_succ, List.getElem?_cons_zero]; rfl) (by rw [HO.out]; kernel_rfl) (by rw [HO.out]; kernel_rfl) (by rw [HO.out]; kernel_rfl) (by rw [HQ.out]; exact fun _ _ _ h => h) (Or.inr ⟨by rw [HO.out]; kernel_rfl, rfl⟩) hS ?_
  try simp only [Act.put, List.setIfInBounds_toArray, List.set_cons_zero, List.set_cons_succ]
  refine wpAnyH_take (i := 7) (v := .bool false) (by rw [HO.out]; simp only [List.getElem?_toArray, List.getElem?_cons_succ, List.getElem?_cons_zero]; rfl) (by rw [HO.out]; kernel_rfl) (by rw [HO.out]; kernel_rfl) (by rw [HO.out]; kernel_rfl) (by rw [HQ.out]; exact fun _ _ _ h => h) (Or.inl ⟨by rw [HO.out]; kernel_rfl, ?_⟩) hS ?_
  · intro w' hSw
    go_simp
  try simp only [Act.put, List.setIfInBounds_toArray, List.set_cons_zero, List.set_cons_succ]
  refine wpAnyH_take (i := 8) (v := .int .i64 f) (by rw [HO.out]; simp only [List.getElem?_toArray, List.getElem?_cons_succ, List.getElem?_cons_zero]; rfl) (by rw [HO.out]; kernel_rfl) (by rw [HO.out]; kernel_rfl) (by rw [HO.out]; kernel_rfl) (by rw [HQ.out]; exact fun _ _ _ h => h) (Or.inl ⟨by rw [HO.out]; kernel_rfl, ?_⟩) hS ?_
  · intro w' hSw
    go_simp
  try simp only [Act.put, List.setIfInBounds_toArray, List.set_cons_zero, List.set_cons_succ]
  refine wpAnyH_take (i := 9) (v := .bool false) (by rw [HO.out]; simp only [List.getElem?_toArray, List.getElem?_cons_succ, List.getElem?_cons_zero]; rfl) (by rw [HO.out]; kernel_rfl) (by rw [HO.out]; kernel_rfl) (by rw [HO.out]; kernel_rfl) (by rw [HQ.out]; exact fun _ _ _ h => h) (Or.inl ⟨by rw [HO.out]; kernel_rfl, ?_⟩) hS ?_
  · intro w' hSw
    go_simp
  try simp only [Act.put, List.setIfInBounds_toArray, List.set_cons_zero, List.set_cons_succ]
  refine wpAnyH_take (i := 10) (v := .bool false) (by rw [HO.out]; simp only [List.getElem?_toArray, List.getElem?_cons_succ, List.getElem?_cons_zero]; rfl) (by rw [HO.out]; kernel_rfl) (by rw [HO.out]; kernel_rfl) (by rw [HO.out]; kernel_rfl) (by rw [HQ.out]; exact fun _ _ _ h => h) (Or.inl ⟨by rw [HO.out]; kernel_rfl, ?_⟩) hS ?_
  · intro w' hSw
    go_simp
  try simp only [Act.put, List.setIfInBounds_toArray, List.set_cons_zero, List.set_cons_succ]
  refine wpAnyH_take (i := 11) (v := undef) (by rw [HO.out]; simp only [List.getElem?_toArray, List.getElem?_cons_succ, List.getElem?_cons_zero]; rfl) (by rw [HO.out]; kernel_rfl) (by rw [HO.out]; kernel_rfl) (by rw [HO.out]; kernel_rfl) (by rw [HQ.out]; exact fun _ _ _ h => h) (Or.inr ⟨by rw [HO.out]; kernel_rfl, rfl⟩) hS ?_
  try simp only [Act.put, List.setIfInBounds_toArray, List.set_cons_zero, List.set_cons_succ]
  refine wpAnyH_take (i := 12) (v := undef) (by rw [HO.out]; simp only [List.getElem?_toArray, List.getElem?_cons_succ, List.getElem?_cons_zero]; rfl) (by rw [HO.out]; kernel_rfl) (by rw [HO.out]; kernel_rfl) (by rw [HO.out]; kernel_rfl) (by rw [HQ.out]; exact fun _ _ _ h => h) (Or.inr ⟨by rw [HO.out]; kernel_rfl, rfl⟩) hS ?_
  try simp only [Act.put, List.setIfInBounds_toArray, List.set_cons_zero, List.set_cons_succ]
  refine wpAnyH_take (i := 13) (v := undef) (by rw [HO.out]; simp only [List.getElem?_toArray, List.getElem?_cons_succ, List.getElem?_cons_zero]; rfl) (by rw [HO.out]; kernel_rfl) (by rw [HO.out]; kernel_rfl) (by rw [HO.out]; kernel_rfl) (by rw [HQ.out]; exact fun _ _ _ h => h) (Or.inr ⟨by rw [HO.out]; kernel_rfl, rfl⟩) hS ?_
  try simp only [Act.put, List.setIfInBounds_toArray, List.set_cons_zero, List.set_cons_succ]
  refine wpAnyH_take (i := 14) (v := undef) (by rw [HO.out]; simp only [List.getElem?_toArray, List.getElem?_cons_succ, List.getElem?_cons_zero]; rfl) (by rw [HO.out]; kernel_rfl) (by rw [HO.out]; kernel_rfl) (by rw [HO.out]; kernel_rfl) (by rw [HQ.out]; exact fun _ _ _ h => h) (Or.inr ⟨by rw [HO.out]; kernel_rfl, rfl⟩) hS ?_
  try simp only [Act.put, List.setIfInBounds_toArray, List.set_cons_zero, List.set_cons_succ]
  refine wpAnyH_take (i := 15) (v := .bool false) (by rw [HO.out]; simp only [List.getElem?_toArray, List.getElem?_cons_succ, List.getElem?_cons_zero]; rfl) (by rw [HO.out]; kernel_rfl) (by rw [HO.out]; kernel_rfl) (by rw [HO.out]; kernel_rfl) (by rw [HQ.out]; exact fun _ _ _ h => h) (Or.inl ⟨by rw [HO.out]; kernel_rfl, ?_⟩) hS ?_
  · intro w' hSw
    go_simp
  try simp only [Act.put, List.setIfInBounds_toArray, List.set_cons_zero, List.set_cons_succ]
  refine wpAnyH_ready (rs := [16]) (by rw [HO.out]; kernel_rfl) (by simp) ?_
  refine AllReadyH.cons (o := _) (by rw [HO.out]; simp only [List.getElem?_toArray, List.getElem?_cons_succ, List.getElem?_cons_zero]; rfl) (fun K16 hK16 => ?_) AllReadyH.nil
  rw [HO.out]
  go_simp
  refine hK16.out _ _ hS (fun _ => ?_)
  try simp only [Act.put, List.setIfInBounds_toArray, List.set_cons_zero, List.set_cons_succ]
  refine wpAnyH_ready (rs := [17]) (by rw [HO.out]; kernel_rfl) (by simp) ?_
  refine AllReadyH.cons (o := _) (by rw [HO.out]; simp only [List.getElem?_toArray, List.getElem?_cons_succ, List.getElem?_cons_zero]; rfl) (fun K17 hK17 => ?_) AllReadyH.nil
  rw [HO.out]
  go_simp
  refine hK17.out _ _ hS (fun _ => ?_)
  try simp only [Act.put, List.setIfInBounds_toArray, List.set_cons_zero, List.set_cons_succ]
  refine wpAnyH_done (by rw [HO.out]; kernel_rfl) ?_ _
  rw [HQ.out]
  refine NoPanic.normal ?_
  have X4 := X3.out _ hS
  have B4 : Hid (Below w.heap.size w W2.drew) := B2.out.drew
  have RX4 : Hid (Rt W2.drew x ta tc ma mc ∧ IVh (w.heap.size + 1) W2.drew ta x.T ∧ IVh (w.heap.size + 1) W2.drew ma x.M) := ⟨⟨(RX2.out.2.1.below hS).iv, (RX2.out.2.2.below hS).iv, RX2.out.1.tn, RX2.out.1.mn, RX2.out.1.tl, RX2.out.1.ml, RX2.out.1.th, RX2.out.1.mh⟩, RX2.out.2.1.below hS, RX2.out.2.2.below hS⟩
  have RY4 : Hid (Rt W2.drew y ua uc va vc ∧ IVh (w.heap.size + 1) W2.drew ua y.T ∧ IVh (w.heap.size + 1) W2.drew va y.M) := ⟨⟨(RY2.out.2.1.below hS).iv, (RY2.out.2.2.below hS).iv, RY2.out.1.tn, RY2.out.1.mn, RY2.out.1.tl, RY2.out.1.ml, RY2.out.1.th, RY2.out.1.mh⟩, RY2.out.2.1.below hS, RY2.out.2.2.below hS⟩
  clear hS X2 X3 B2 RX2 RY2 HO HQ
  generalize W2.drew = W4 at X4 B4 RX4 RY4 ⊢
  obtain ⟨o4, x4, y4⟩ := X4
  obtain ⟨i0, i1, i2, i3, i4, i5, g0, g1, g2, g3, g4, g5⟩ := RX.of' o4
  obtain ⟨j0, j1, j2, j3, j4, j5, _, _, _, _, _, _⟩ := RX.of' x4
  obtain ⟨k0, k1, k2, k3, k4, k5, _, _, _, _, _, _⟩ := RX.of' y4
  clear o4 x4 y4
  go_wp2_with fail
  exact bodyPost_ret (v := .tuple #[.agg #[.int .i64 0, .int .i64 0, .int .i64 0, .int .i64 0, .slice none 0 0, .slice none 0 0], .int .i64 0, .int .i64 4]) (by simp [results, Try.results17, go_sem, *]) rfl ⟨none, 0, none, 0, rfl, rt_zero _, set6_below B4.out _ _ _ _ _ _, .inl rfl, .inl rfl⟩
set_option maxHeartbeats 1000000 in
theorem rch_ET (a b : Option Addr) (ca cb n m : Nat) (x y : RD) (e f : Int) (w : World) (hx : (e == 0) = false) (hy : (y.E.tmod 2 == 1) = true)
    (HGA : Hid (∀ W, Below w.heap.size w W → Calls Try.prog 15 #[.slice a n ca] W fun r w' => GetPost W (x, e) r w'))
    (HGB : Hid (∀ W, Below w.heap.size w W → Calls Try.prog 15 #[.slice b m cb] W fun r w' => GetPost W (y, 0) r w')) :
    Calls Try.prog 17 #[.slice a n ca, .slice b m cb] w fun r w' => ChoosePost w ⟨y, 1, 0⟩ r w' := by
  obtain ⟨W0, hW0⟩ : ∃ W, W = w.alloc (.cells #[.int .i64 0, .int .i64 0, .int .i64 0, .int .i64 0, .slice none 0 0, .slice none 0 0] 24) := ⟨_, rfl⟩
  have hB0 : Below w.heap.size w W0 := by rw [hW0]; exact (Below.refl _ _).alloc (Nat.le_refl _) _
  have X0 : Hid (W0.heap[w.heap.size]? = some (.cells #[.int .i64 0, .int .i64 0, .int .i64 0, .int .i64 0, .slice none 0 0, .slice none 0 0] 24 (0, 0))) := by rw [hW0]; exact heap_alloc_last _ _
  go_enter Try.func17, Try.ntmps17
  go_wp2_with fail
  rw [← hW0]
  clear hW0
  refine (HGA.out _ hB0).mono ?_
  rintro r1 w1 ⟨ta, tc, ma, mc, rfl, H1⟩
  unfold rootV
  obtain ⟨px, hpx⟩ : ∃ p, p = w1.heap.size := ⟨_, rfl⟩
  obtain ⟨W1, hW1⟩ : ∃ W, W = w1.alloc (.cells #[.int .i64 x.E, .int .i64 x.B, .int .i64 x.N, .int .i64 x.S, .slice ta x.T.length tc, .slice ma x.M.length mc] 24) := ⟨_, rfl⟩
  have b01 : Below W0.heap.size W0 w1 := H1.out.2.1
  have b1 : Below w1.heap.size w1 W1 := by rw [hW1]; exact (Below.refl _ _).alloc (Nat.le_refl _) _
  have s0 : w.heap.size < W0.heap.size := (Array.getElem?_eq_some_iff.1 X0.out).1
  have X1 : Hid (W1.heap[w.heap.size]? = some (.cells #[.int .i64 0, .int .i64 0, .int .i64 0, .int .i64 0, .slice none 0 0, .slice none 0 0] 24 (0, 0)) ∧ W1.heap[px]? = some (.cells #[.int .i64 x.E, .int .i64 x.B, .int .i64 x.N, .int .i64 x.S, .slice ta x.T.length tc, .slice ma x.M.length mc] 24 (0, 0)) ∧ w.heap.size < px ∧ px < W1.heap.size) := by
    refine ⟨(b1.block _ (Nat.lt_of_lt_of_le s0 b01.size)).trans ((b01.block _ s0).trans X0.out), by rw [hpx, hW1]; exact heap_alloc_last _ _, by rw [hpx]; exact Nat.lt_of_lt_of_le s0 b01.size, by rw [hpx, hW1]; simp⟩
  have B1 : Hid (Below w.heap.size w W1) := (hB0.trans (b01.mono (Nat.le_of_lt s0))).trans (b1.mono (Nat.le_trans (Nat.le_of_lt s0) b01.size))
  have R1 : Hid (Rt W1 x ta tc ma mc ∧ IVh (w.heap.size + 1) W1 ta x.T ∧ IVh (w.heap.size + 1) W1 ma x.M) :=
    ⟨⟨(H1.out.2.2.1.below b1).iv, (H1.out.2.2.2.below b1).iv, H1.out.1.tn, H1.out.1.mn, H1.out.1.tl, H1.out.1.ml, H1.out.1.th, H1.out.1.mh⟩, (H1.out.2.2.1.below b1).mono s0, (H1.out.2.2.2.below b1).mono s0⟩
  go_wp2_with fail
  rw [← hW1, ← hpx]
  clear hW1 hpx X0 hB0 H1 b01 b1 s0 HGA
  refine (HGB.out _ B1.out).mono ?_
  rintro r2 w2 ⟨ua, uc, va, vc, rfl, H2⟩
  unfold rootV
  obtain ⟨py, hpy⟩ : ∃ p, p = w2.heap.size := ⟨_, rfl⟩
  obtain ⟨W2, hW2⟩ : ∃ W, W = w2.alloc (.cells #[.int .i64 y.E, .int .i64 y.B, .int .i64 y.N, .int .i64 y.S, .slice ua y.T.length uc, .slice va y.M.length vc] 24) := ⟨_, rfl⟩
  have b12 : Below W1.heap.size W1 w2 := H2.out.2.1
  have b2 : Below w2.heap.size w2 W2 := by rw [hW2]; exact (Below.refl _ _).alloc (Nat.le_refl _) _
  have b22 : Below W1.heap.size W1 W2 := b12.trans (b2.mono b12.size)
  have s1 : w.heap.size < W1.heap.size := Nat.lt_trans X1.out.2.2.1 X1.out.2.2.2
  have X2 : Hid (W2.heap[w.heap.size]? = some (.cells #[.int .i64 0, .int .i64 0, .int .i64 0, .int .i64 0, .slice none 0 0, .slice none 0 0] 24 (0, 0)) ∧ W2.heap[px]? = some (.cells #[.int .i64 x.E, .int .i64 x.B, .int .i64 x.N, .int .i64 x.S, .slice ta x.T.length tc, .slice ma x.M.length mc] 24 (0, 0)) ∧ W2.heap[py]? = some (.cells #[.int .i64 y.E, .int .i64 y.B, .int .i64 y.N, .int .i64 y.S, .slice ua y.T.length uc, .slice va y.M.length vc] 24 (0, 0))) :=
    ⟨(b22.block _ s1).trans X1.out.1, (b22.block _ X1.out.2.2.2).trans X1.out.2.1, by rw [hpy, hW2]; exact heap_alloc_last _ _⟩
  have B2 : Hid (Below w.heap.size w W2) := B1.out.trans (b22.mono (Nat.le_of_lt s1))
  have RX2 : Hid (Rt W2 x ta tc ma mc ∧ IVh (w.heap.size + 1) W2 ta x.T ∧ IVh (w.heap.size + 1) W2 ma x.M) :=
    ⟨⟨(R1.out.2.1.below b22).iv, (R1.out.2.2.below b22).iv, R1.out.1.tn, R1.out.1.mn, R1.out.1.tl, R1.out.1.ml, R1.out.1.th, R1.out.1.mh⟩, R1.out.2.1.below b22, R1.out.2.2.below b22⟩
  have RY2 : Hid (Rt W2 y ua uc va vc ∧ IVh (w.heap.size + 1) W2 ua y.T ∧ IVh (w.heap.size + 1) W2 va y.M) :=
    ⟨⟨(H2.out.2.2.1.below b2).iv, (H2.out.2.2.2.below b2).iv, H2.out.1.tn, H2.out.1.mn, H2.out.1.tl, H2.out.1.ml, H2.out.1.th, H2.out.1.mh⟩, (H2.out.2.2.1.below b2).mono s1, (H2.out.2.2.2.below b2).mono s1⟩
  have X3 : Hid (∀ W', Below W2.heap.size W2 W' → W'.heap[w.heap.size]? = some (.cells #[.int .i64 0, .int .i64 0, .int .i64 0, .int .i64 0, .slice none 0 0, .slice none 0 0] 24 (0, 0)) ∧ W'.heap[px]? = some (.cells #[.int .i64 x.E, .int .i64 x.B, .int .i64 x.N, .int .i64 x.S, .slice ta x.T.length tc, .slice ma x.M.length mc] 24 (0, 0)) ∧ W'.heap[py]? = some (.cells #[.int .i64 y.E, .int .i64 y.B, .int .i64 y.N, .int .i64 y.S, .slice ua y.T.length uc, .slice va y.M.length vc] 24 (0, 0))) := fun W' hW =>
    ⟨(hW.block _ (Array.getElem?_eq_some_iff.1 X2.out.1).1).trans X2.out.1, (hW.block _ (Array.getElem?_eq_some_iff.1 X2.out.2.1).1).trans X2.out.2.1, (hW.block _ (Array.getElem?_eq_some_iff.1 X2.out.2.2).1).trans X2.out.2.2⟩
  go_wp2_with fail
  rw [← hW2, ← hpy]
  clear hW2 hpy H2 b12 b2 b22 s1 HGB R1 B1 X1
  refine wp_region_noPanic ?_
  refine name_ops ?_
  intro O QQ HO HQ
  refine wp_region_held_drew (S := fun W' => Below W2.heap.size W2 W') (by kernel_rfl) (Below.refl _ _).drew (fun hS => ?_)
  rw [show O.size = 18 by rw [HO.out]; rfl]
  refine wpAnyH_take (i := 0) (v := .int .i64 e) (by rw [HO.out]; simp only [List.getElem?_toArray, List.getElem?_cons_succ, List.getElem?_cons_zero]; rfl) (by rw [HO.out]; kernel_rfl) (by rw [HO.out]; kernel_rfl) (by rw [HO.out]; kernel_rfl) (by rw [HQ.out]; exact fun _ _ _ h => h) (Or.inl ⟨by rw [HO.out]; kernel_rfl, ?_⟩) hS ?_
  · intro w' hSw
    go_simp
  try simp only [Act.put, List.setIfInBounds_toArray, List.set_cons_zero, List.set_cons_succ]
  refine wpAnyH_take (i := 1) (v := .bool false) (by rw [HO.out]; simp only [List.getElem?_toArray, List.getElem?_cons_succ, List.getElem?_cons_zero]; rfl) (by rw [HO.out]; kernel_rfl) (by rw [HO.out]; kernel_rfl) (by rw [HO.out]; kernel_rfl) (by rw [HQ.out]; exact fun _ _ _ h => h) (Or.inl ⟨by rw [HO.out]; kernel_rfl, ?_⟩) hS ?_
  · intro w' hSw
    go_simp
  try simp only [Act.put, List.setIfInBounds_toArray, List.set_cons_zero, List.set_cons_succ]
  refine wpAnyH_take (i := 2) (v := .bool false) (by rw [HO.out]; simp only [List.getElem?_toArray, List.getElem?_cons_succ, List.getElem?_cons_zero]; rfl) (by rw [HO.out]; kernel_rfl) (by rw [HO.out]; kernel_rfl) (by rw [HO.out]; kernel_rfl) (by rw [HQ.out]; exact fun _ _ _ h => h) (Or.inl ⟨by rw [HO.out]; kernel_rfl, ?_⟩) hS ?_
  · intro w' hSw
    go_simp
  try simp only [Act.put, List.setIfInBounds_toArray, List.set_cons_zero, List.set_cons_succ]
  refine wpAnyH_take (i := 3) (v := undef) (by rw [HO.out]; simp only [List.getElem?_toArray, List.getElem?_cons_succ, List.getElem?_cons_zero]; rfl) (by rw [HO.out]; kernel_rfl) (by rw [HO.out]; kernel_rfl) (by rw [HO.out]; kernel_rfl) (by rw [HQ.out]; exact fun _ _ _ h => h) (Or.inr ⟨by rw [HO.out]; kernel_rfl, rfl⟩) hS ?_
  try simp only [Act.put, List.setIfInBounds_toArray, List.set_cons_zero, List.set_cons_succ]
  refine wpAnyH_take (i := 4) (v := undef) (by rw [HO.out]; simp only [List.getElem?_toArray, List.getElem?_cons_succ, List.getElem?_cons_zero]; rfl) (by rw [HO.out]; kernel_rfl) (by rw [HO.out]; kernel_rfl) (by rw [HO.out]; kernel_rfl) (by rw [HQ.out]; exact fun _ _ _ h => h) (Or.inr ⟨by rw [HO.out]; kernel_rfl, rfl⟩) hS ?_
  try simp only [Act.put, List.setIfInBounds_toArray, List.set_cons_zero, List.set_cons_succ]
  refine wpAnyH_take (i := 5) (v := undef) (by rw [HO.out]; simp only [List.getElem?_toArray, List.getElem?_cons_succ, List.getElem?_cons_zero]; rfl) (by rw [HO.out]; kernel_rfl) (by rw [HO.out]; kernel_rfl) (by rw [HO.out]; kernel_rfl) (by rw [HQ.out]; exact fun _ _ _ h => h) (Or.inr ⟨by rw [HO.out]; kernel_rfl, rfl⟩) hS ?_
  try simp only [Act.put, List.setIfInBounds_toArray, List.set_cons_zero, List.set_cons_succ]
  refine wpAnyH_take (i := 6) (v := undef) (by rw [HO.out]; simp only [List.getElem?_toArray, List.getElem?_cons_succ, List.getElem?_cons_zero]; rfl) (by rw [HO.out]; kernel_rfl) (by rw [HO.out]; kernel_rfl) (by rw [HO.out]; kernel_rfl) (by rw [HQ.out]; exact fun _ _ _ h => h) (Or.inr ⟨by rw [HO.out]; kernel_rfl, rfl⟩) hS ?_
  try simp only [Act.put, List.setIfInBounds_toArray, List.set_cons_zero, List.set_cons_succ]
  refine wpAnyH_take (i := 7) (v := .bool false) (by rw [HO.out]; simp only [List.getElem?_toArray, List.getElem?_cons_succ, List.getElem?_cons_zero]; rfl) (by rw [HO.out]; kernel_rfl) (by rw [HO.out]; kernel_rfl) (by rw [HO.out]; kernel_rfl) (by rw [HQ.out]; exact fun _ _ _ h => h) (Or.inl ⟨by rw [HO.out]; kernel_rfl, ?_⟩) hS ?_
  · intro w' hSw
    go_simp
  try simp only [Act.put, List.setIfInBounds_toArray, List.set_cons_zero, List.set_cons_succ]
  refine wpAnyH_take (i := 8) (v := .int .i64 0) (by rw [HO.out]; simp only [List.getElem?_toArray, List.getElem?_cons_succ, List.getElem?_cons_zero]; rfl) (by rw [HO.out]; kernel_rfl) (by rw [HO.out]; kernel_rfl) (by rw [HO.out]; kernel_rfl) (by rw [HQ.out]; exact fun _ _ _ h => h) (Or.inl ⟨by rw [HO.out]; kernel_rfl, ?_⟩) hS ?_
  · intro w' hSw
    go_simp
  try simp only [Act.put, List.setIfInBounds_toArray, List.set_cons_zero, List.set_cons_succ]
  refine wpAnyH_take (i := 9) (v := .bool true) (by rw [HO.out]; simp only [List.getElem?_toArray, List.getElem?_cons_succ, List.getElem?_cons_zero]; rfl) (by rw [HO.out]; kernel_rfl) (by rw [HO.out]; kernel_rfl) (by rw [HO.out]; kernel_rfl) (by rw [HQ.out]; exact fun _ _ _ h => h) (Or.inl ⟨by rw [HO.out]; kernel_rfl, ?_⟩) hS ?_
  · intro w' hSw
    go_simp
  try simp only [Act.put, List.setIfInBounds_toArray, List.set_cons_zero, List.set_cons_succ]
  refine wpAnyH_take (i := 10) (v := .bool true) (by rw [HO.out]; simp only [List.getElem?_toArray, List.getElem?_cons_succ, List.getElem?_cons_zero]; rfl) (by rw [HO.out]; kernel_rfl) (by rw [HO.out]; kernel_rfl) (by rw [HO.out]; kernel_rfl) (by rw [HQ.out]; exact fun _ _ _ h => h) (Or.inl ⟨by rw [HO.out]; kernel_rfl, ?_⟩) hS ?_
  · intro w' hSw
    go_simp
  try simp only [Act.put, List.setIfInBounds_toArray, List.set_cons_zero, List.set_cons_succ]
  refine wpAnyH_take (i := 11) (v := .pointer (some ⟨py, 0, none⟩)) (by rw [HO.out]; simp only [List.getElem?_toArray, List.getElem?_cons_succ, List.getElem?_cons_zero]; rfl) (by rw [HO.out]; kernel_rfl) (by rw [HO.out]; kernel_rfl) (by rw [HO.out]; kernel_rfl) (by rw [HQ.out]; exact fun _ _ _ h => h) (Or.inl ⟨by rw [HO.out]; kernel_rfl, ?_⟩) hS ?_
  · intro w' hSw
    go_simp
  try simp only [Act.put, List.setIfInBounds_toArray, List.set_cons_zero, List.set_cons_succ]
  refine wpAnyH_take (i := 12) (v := .int .i64 y.E) (by rw [HO.out]; simp only [List.getElem?_toArray, List.getElem?_cons_succ, List.getElem?_cons_zero]; rfl) (by rw [HO.out]; kernel_rfl) (by rw [HO.out]; kernel_rfl) (by rw [HO.out]; kernel_rfl) (by rw [HQ.out]; exact fun _ _ _ h => h) (Or.inl ⟨by rw [HO.out]; kernel_rfl, ?_⟩) hS ?_
  · intro w' hSw
    have j0 := (RX.of' (X3.out w' hSw).2.2).c0
    go_simp
  try simp only [Act.put, List.setIfInBounds_toArray, List.set_cons_zero, List.set_cons_succ]
  refine wpAnyH_take (i := 13) (v := .int .i64 (y.E.tmod 2)) (by rw [HO.out]; simp only [List.getElem?_toArray, List.getElem?_cons_succ, List.getElem?_cons_zero]; rfl) (by rw [HO.out]; kernel_rfl) (by rw [HO.out]; kernel_rfl) (by rw [HO.out]; kernel_rfl) (by rw [HQ.out]; exact fun _ _ _ h => h) (Or.inl ⟨by rw [HO.out]; kernel_rfl, ?_⟩) hS ?_
  · intro w' hSw
    go_simp
  try simp only [Act.put, List.setIfInBounds_toArray, List.set_cons_zero, List.set_cons_succ]
  refine wpAnyH_take (i := 14) (v := .bool true) (by rw [HO.out]; simp only [List.getElem?_toArray, List.getElem?_cons_succ, List.getElem?_cons_zero]; rfl) (by rw [HO.out]; kernel_rfl) (by rw [HO.out]; kernel_rfl) (by rw [HO.out]; kernel_rfl) (by rw [HQ.out]; exact fun _ _ _ h => h) (Or.inl ⟨by rw [HO.out]; kernel_rfl, ?_⟩) hS ?_
  · intro w' hSw
    go_simp
  try simp only [Act.put, List.setIfInBounds_toArray, List.set_cons_zero, List.set_cons_succ]
  refine wpAnyH_take (i := 15) (v := .bool true) (by rw [HO.out]; simp only [List.getElem?_toArray, List.getElem?_cons_succ, List.getElem?_cons_zero]; rfl) (by rw [HO.out]; kernel_rfl) (by rw [HO.out]; kernel_rfl) (by rw [HO.out]; kernel_rfl) (by rw [HQ.out]; exact fun _ _ _ h => h) (Or.inl ⟨by rw [HO.out]; kernel_rfl, ?_⟩) hS ?_
  · intro w' hSw
    go_simp
  try simp only [Act.put, List.setIfInBounds_toArray, List.set_cons_zero, List.set_cons_succ]
  refine wpAnyH_ready (rs := [16]) (by rw [HO.out]; kernel_rfl) (by simp) ?_
  refine AllReadyH.cons (o := _) (by rw [HO.out]; simp only [List.getElem?_toArray, List.getElem?_cons_succ, List.getElem?_cons_zero]; rfl) (fun K16 hK16 => ?_) AllReadyH.nil
  rw [HO.out]
  go_simp
  refine hK16.out _ _ hS (fun _ => ?_)
  try simp only [Act.put, List.setIfInBounds_toArray, List.set_cons_zero, List.set_cons_succ]
  refine wpAnyH_ready (rs := [17]) (by rw [HO.out]; kernel_rfl) (by simp) ?_
  refine AllReadyH.cons (o := _) (by rw [HO.out]; simp only [List.getElem?_toArray, List.getElem?_cons_succ, List.getElem?_cons_zero]; rfl) (fun K17 hK17 => ?_) AllReadyH.nil
  rw [HO.out]
  go_simp
  refine hK17.out _ _ hS (fun _ => ?_)
  try simp only [Act.put, List.setIfInBounds_toArray, List.set_cons_zero, List.set_cons_succ]
  refine wpAnyH_done (by rw [HO.out]; kernel_rfl) ?_ _
  rw [HQ.out]
  refine NoPanic.normal ?_
  have X4 := X3.out _ hS
  have B4 : Hid (Below w.heap.size w W2.drew) := B2.out.drew
  have RX4 : Hid (Rt W2.drew x ta tc ma mc ∧ IVh (w.heap.size + 1) W2.drew ta x.T ∧ IVh (w.heap.size + 1) W2.drew ma x.M) := ⟨⟨(RX2.out.2.1.below hS).iv, (RX2.out.2.2.below hS).iv, RX2.out.1.tn, RX2.out.1.mn, RX2.out.1.tl, RX2.out.1.ml, RX2.out.1.th, RX2.out.1.mh⟩, RX2.out.2.1.below hS, RX2.out.2.2.below hS⟩
  have RY4 : Hid (Rt W2.drew y ua uc va vc ∧ IVh (w.heap.size + 1) W2.drew ua y.T ∧ IVh (w.heap.size + 1) W2.drew va y.M) := ⟨⟨(RY2.out.2.1.below hS).iv, (RY2.out.2.2.below hS).iv, RY2.out.1.tn, RY2.out.1.mn, RY2.out.1.tl, RY2.out.1.ml, RY2.out.1.th, RY2.out.1.mh⟩, RY2.out.2.1.below hS, RY2.out.2.2.below hS⟩
  clear hS X2 X3 B2 RX2 RY2 HO HQ
  generalize W2.drew = W4 at X4 B4 RX4 RY4 ⊢
  obtain ⟨o4, x4, y4⟩ := X4
  obtain ⟨i0, i1, i2, i3, i4, i5, g0, g1, g2, g3, g4, g5⟩ := RX.of' o4
  obtain ⟨j0, j1, j2, j3, j4, j5, _, _, _, _, _, _⟩ := RX.of' x4
  obtain ⟨k0, k1, k2, k3, k4, k5, _, _, _, _, _, _⟩ := RX.of' y4
  clear o4 x4 y4
  go_wp2_with fail
  exact bodyPost_ret (v := .tuple #[.agg #[.int .i64 y.E, .int .i64 y.B, .int .i64 y.N, .int .i64 y.S, .slice ua y.T.length uc, .slice va y.M.length vc], .int .i64 1, .int .i64 0]) (by simp [results, Try.results17, go_sem, *]) rfl ⟨ua, uc, va, vc, rfl, rt_set6 RY4.out.1 RY4.out.2.1 RY4.out.2.2 _ _ _ _ _ _, set6_below B4.out _ _ _ _ _ _, (RY4.out.2.1.set6 _ _ _ _ _ _).mono (Nat.le_succ _), (RY4.out.2.2.set6 _ _ _ _ _ _).mono (Nat.le_succ _)⟩
set_option maxHeartbeats 1000000 in
theorem rch_EF (a b : Option Addr) (ca cb n m : Nat) (x y : RD) (e f : Int) (w : World) (hx : (e == 0) = false) (hy : (y.E.tmod 2 == 1) = false)
    (HGA : Hid (∀ W, Below w.heap.size w W → Calls Try.prog 15 #[.slice a n ca] W fun r w' => GetPost W (x, e) r w'))
    (HGB : Hid (∀ W, Below w.heap.size w W → Calls Try.prog 15 #[.slice b m cb] W fun r w' => GetPost W (y, 0) r w')) :
    Calls Try.prog 17 #[.slice a n ca, .slice b m cb] w fun r w' => ChoosePost w ⟨zero, 0, 4⟩ r w' := by
  obtain ⟨W0, hW0⟩ : ∃ W, W = w.alloc (.cells #[.int .i64 0, .int .i64 0, .int .i64 0, .int .i64 0, .slice none 0 0, .slice none 0 0] 24) := ⟨_, rfl⟩
  have hB0 : Below w.heap.size w W0 := by rw [hW0]; exact (Below.refl _ _).alloc (Nat.le_refl _) _
  have X0 : Hid (W0.heap[w.heap.size]? = some (.cells #[.int .i64 0, .int .i64 0, .int .i64 0, .int .i64 0, .slice none 0 0, .slice none 0 0] 24 (0, 0))) := by rw [hW0]; exact heap_alloc_last _ _
  go_enter Try.func17, Try.ntmps17
  go_wp2_with fail
  rw [← hW0]
  clear hW0
  refine (HGA.out _ hB0).mono ?_
  rintro r1 w1 ⟨ta, tc, ma, mc, rfl, H1⟩
  unfold rootV
  obtain ⟨px, hpx⟩ : ∃ p, p = w1.heap.size := ⟨_, rfl⟩
  obtain ⟨W1, hW1⟩ : ∃ W, W = w1.alloc (.cells #[.int .i64 x.E, .int .i64 x.B, .int .i64 x.N, .int .i64 x.S, .slice ta x.T.length tc, .slice ma x.M.length mc] 24) := ⟨_, rfl⟩
  have b01 : Below W0.heap.size W0 w1 := H1.out.2.1
  have b1 : Below w1.heap.size w1 W1 := by rw [hW1]; exact (Below.refl _ _).alloc (Nat.le_refl _) _
  have s0 : w.heap.size < W0.heap.size := (Array.getElem?_eq_some_iff.1 X0.out).1
  have X1 : Hid (W1.heap[w.heap.size]? = some (.cells #[.int .i64 0, .int .i64 0, .int .i64 0, .int .i64 0, .slice none 0 0, .slice none 0 0] 24 (0, 0)) ∧ W1.heap[px]? = some (.cells #[.int .i64 x.E, .int .i64 x.B, .int .i64 x.N, .int .i64 x.S, .slice ta x.T.length tc, .slice ma x.M.length mc] 24 (0, 0)) ∧ w.heap.size < px ∧ px < W1.heap.size) := by
    refine ⟨(b1.block _ (Nat.lt_of_lt_of_le s0 b01.size)).trans ((b01.block _ s0).trans X0.out), by rw [hpx, hW1]; exact heap_alloc_last _ _, by rw [hpx]; exact Nat.lt_of_lt_of_le s0 b01.size, by rw [hpx, hW1]; simp⟩
  have B1 : Hid (Below w.heap.size w W1) := (hB0.trans (b01.mono (Nat.le_of_lt s0))).trans (b1.mono (Nat.le_trans (Nat.le_of_lt s0) b01.size))
  have R1 : Hid (Rt W1 x ta tc ma mc ∧ IVh (w.heap.size + 1) W1 ta x.T ∧ IVh (w.heap.size + 1) W1 ma x.M) :=
    ⟨⟨(H1.out.2.2.1.below b1).iv, (H1.out.2.2.2.below b1).iv, H1.out.1.tn, H1.out.1.mn, H1.out.1.tl, H1.out.1.ml, H1.out.1.th, H1.out.1.mh⟩, (H1.out.2.2.1.below b1).mono s0, (H1.out.2.2.2.below b1).mono s0⟩
  go_wp2_with fail
  rw [← hW1, ← hpx]
  clear hW1 hpx X0 hB0 H1 b01 b1 s0 HGA
  refine (HGB.out _ B1.out).mono ?_
  rintro r2 w2 ⟨ua, uc, va, vc, rfl, H2⟩
  unfold rootV
  obtain ⟨py, hpy⟩ : ∃ p, p = w2.heap.size := ⟨_, rfl⟩
  obtain ⟨W2, hW2⟩ : ∃ W, W = w2.alloc (.cells #[.int .i64 y.E, .int .i64 y.B, .int .i64 y.N, .int .i64 y.S, .slice ua y.T.length uc, .slice va y.M.length vc] 24) := ⟨_, rfl⟩
  have b12 : Below W1.heap.size W1 w2 := H2.out.2.1
  have b2 : Below w2.heap.size w2 W2 := by rw [hW2]; exact (Below.refl _ _).alloc (Nat.le_refl _) _
  have b22 : Below W1.heap.size W1 W2 := b12.trans (b2.mono b12.size)
  have s1 : w.heap.size < W1.heap.size := Nat.lt_trans X1.out.2.2.1 X1.out.2.2.2
  have X2 : Hid (W2.heap[w.heap.size]? = some (.cells #[.int .i64 0, .int .i64 0, .int .i64 0, .int .i64 0, .slice none 0 0, .slice none 0 0] 24 (0, 0)) ∧ W2.heap[px]? = some (.cells #[.int .i64 x.E, .int .i64 x.B, .int .i64 x.N, .int .i64 x.S, .slice ta x.T.length tc, .slice ma x.M.length mc] 24 (0, 0)) ∧ W2.heap[py]? = some (.cells #[.int .i64 y.E, .int .i64 y.B, .int .i64 y.N, .int .i64 y.S, .slice ua y.T.length uc, .slice va y.M.length vc] 24 (0, 0))) :=
    ⟨(b22.block _ s1).trans X1.out.1, (b22.block _ X1.out.2.2.2).trans X1.out.2.1, by rw [hpy, hW2]; exact heap_alloc_last _ _⟩
  have B2 : Hid (Below w.heap.size w W2) := B1.out.trans (b22.mono (Nat.le_of_lt s1))
  have RX2 : Hid (Rt W2 x ta tc ma mc ∧ IVh (w.heap.size + 1) W2 ta x.T ∧ IVh (w.heap.size + 1) W2 ma x.M) :=
    ⟨⟨(R1.out.2.1.below b22).iv, (R1.out.2.2.below b22).iv, R1.out.1.tn, R1.out.1.mn, R1.out.1.tl, R1.out.1.ml, R1.out.1.th, R1.out.1.mh⟩, R1.out.2.1.below b22, R1.out.2.2.below b22⟩
  have RY2 : Hid (Rt W2 y ua uc va vc ∧ IVh (w.heap.size + 1) W2 ua y.T ∧ IVh (w.heap.size + 1) W2 va y.M) :=
    ⟨⟨(H2.out.2.2.1.below b2).iv, (H2.out.2.2.2.below b2).iv, H2.out.1.tn, H2.out.1.mn, H2.out.1.tl, H2.out.1.ml, H2.out.1.th, H2.out.1.mh⟩, (H2.out.2.2.1.below b2).mono s1, (H2.out.2.2.2.below b2).mono s1⟩
  have X3 : Hid (∀ W', Below W2.heap.size W2 W' → W'.heap[w.heap.size]? = some (.cells #[.int .i64 0, .int .i64 0, .int .i64 0, .int .i64 0, .slice none 0 0, .slice none 0 0] 24 (0, 0)) ∧ W'.heap[px]? = some (.cells #[.int .i64 x.E, .int .i64 x.B, .int .i64 x.N, .int .i64 x.S, .slice ta x.T.length tc, .slice ma x.M.length mc] 24 (0, 0)) ∧ W'.heap[py]? = some (.cells #[.int .i64 y.E, .int .i64 y.B, .int .i64 y.N, .int .i64 y.S, .slice ua y.T.length uc, .slice va y.M.length vc] 24 (0, 0))) := fun W' hW =>
    ⟨(hW.block _ (Array.getElem?_eq_some_iff.1 X2.out.1).1).trans X2.out.1, (hW.block _ (Array.getElem?_eq_some_iff.1 X2.out.2.1).1).trans X2.out.2.1, (hW.block _ (Array.getElem?_eq_some_iff.1 X2.out.2.2).1).trans X2.out.2.2⟩
  go_wp2_with fail
  rw [← hW2, ← hpy]
  clear hW2 hpy H2 b12 b2 b22 s1 HGB R1 B1 X1
  refine wp_region_noPanic ?_
  refine name_ops ?_
  intro O QQ HO HQ
  refine wp_region_held_drew (S := fun W' => Below W2.heap.size W2 W') (by kernel_rfl) (Below.refl _ _).drew (fun hS => ?_)
  rw [show O.size = 18 by rw [HO.out]; rfl]
  refine wpAnyH_take (i := 0) (v := .int .i64 e) (by rw [HO.out]; simp only [List.getElem?_toArray, List.getElem?_cons_succ, List.getElem?_cons_zero]; rfl) (by rw [HO.out]; kernel_rfl) (by rw [HO.out]; kernel_rfl) (by rw [HO.out]; kernel_rfl) (by rw [HQ.out]; exact fun _ _ _ h => h) (Or.inl ⟨by rw [HO.out]; kernel_rfl, ?_⟩) hS ?_
  · intro w' hSw
    go_simp
  try simp only [Act.put, List.setIfInBounds_toArray, List.set_cons_zero, List.set_cons_succ]
  refine wpAnyH_take (i := 1) (v := .bool false) (by rw [HO.out]; simp only [List.getElem?_toArray, List.getElem?_cons_succ, List.getElem?_cons_zero]; rfl) (by rw [HO.out]; kernel_rfl) (by rw [HO.out]; kernel_rfl) (by rw [HO.out]; kernel_rfl) (by rw [HQ.out]; exact fun _ _ _ h => h) (Or.inl ⟨by rw [HO.out]; kernel_rfl, ?_⟩) hS ?_
  · intro w' hSw
    go_simp
  try simp only [Act.put, List.setIfInBounds_toArray, List.set_cons_zero, List.set_cons_succ]
  refine wpAnyH_take (i := 2) (v := .bool false) (by rw [HO.out]; simp only [List.getElem?_toArray, List.getElem?_cons_succ, List.getElem?_cons_zero]; rfl) (by rw [HO.out]; kernel_rfl) (by rw [HO.out]; kernel_rfl) (by rw [HO.out]; kernel_rfl) (by rw [HQ.out]; exact fun _ _ _ h => h) (Or.inl ⟨by rw [HO.out]; kernel_rfl, ?_⟩) hS ?_
  · intro w' hSw
    go_simp
  try simp only [Act.put, List.setIfInBounds_toArray, List.set_cons_zero, List.set_cons_succ]
  refine wpAnyH_take (i := 3) (v := undef) (by rw [HO.out]; simp only [List.getElem?_toArray, List.getElem?_cons_succ, List.getElem?_cons_zero]; rfl) (by rw [HO.out]; kernel_rfl) (by rw [HO.out]; kernel_rfl) (by rw [HO.out]; kernel_rfl) (by rw [HQ.out]; exact fun _ _ _ h => h) (Or.inr ⟨by rw [HO.out]; kernel_rfl, rfl⟩) hS ?_
  try simp only [Act.put, List.setIfInBounds_toArray, List.set_cons_zero, List.set_cons_succ]
  refine wpAnyH_take (i := 4) (v := undef) (by rw [HO.out]; simp only [List.getElem?_toArray, List.getElem?_cons_succ, List.getElem?_cons_zero]; rfl) (by rw [HO.out]; kernel_rfl) (by rw [HO.out]; kernel_rfl) (by rw [HO.out]; kernel_rfl) (by rw [HQ.out]; exact fun _ _ _ h => h) (Or.inr ⟨by rw [HO.out]; kernel_rfl, rfl⟩) hS ?_
  try simp only [Act.put, List.setIfInBounds_toArray, List.set_cons_zero, List.set_cons_succ]
  refine wpAnyH_take (i := 5) (v := undef) (by rw [HO.out]; simp only [List.getElem?_toArray, List.getElem?_cons_succ, List.getElem?_cons_zero]; rfl) (by rw [HO.out]; kernel_rfl) (by rw [HO.out]; kernel_rfl) (by rw [HO.out]; kernel_rfl) (by rw [HQ.out]; exact fun _ _ _ h => h) (Or.inr ⟨by rw [HO.out]; kernel_rfl, rfl⟩) hS ?_
  try simp only [Act.put, List.setIfInBounds_toArray, List.set_cons_zero, List.set_cons_succ]
  refine wpAnyH_take (i := 6) (v := undef) (by rw [HO.out]; simp only [List.getElem?_toArray, List.getElem?_cons_succ, List.getElem?_cons_zero]; rfl) (by rw [HO.out]; kernel_rfl) (by rw [HO.out]; kernel_rfl) (by rw [HO.out]; kernel_rfl) (by rw [HQ.out]; exact fun _ _ _ h => h) (Or.inr ⟨by rw [HO.out]; kernel_rfl, rfl⟩) hS ?_
  try simp only [Act.put, List.setIfInBounds_toArray, List.set_cons_zero, List.set_cons_succ]
  refine wpAnyH_take (i := 7) (v := .bool false) (by rw [HO.out]; simp only [List.getElem?_toArray, List.getElem?_cons_succ, List.getElem?_cons_zero]; rfl) (by rw [HO.out]; kernel_rfl) (by rw [HO.out]; kernel_rfl) (by rw [HO.out]; kernel_rfl) (by rw [HQ.out]; exact fun _ _ _ h => h) (Or.inl ⟨by rw [HO.out]; kernel_rfl, ?_⟩) hS ?_
  · intro w' hSw
    go_simp
  try simp only [Act.put, List.setIfInBounds_toArray, List.set_cons_zero, List.set_cons_succ]
  refine wpAnyH_take (i := 8) (v := .int .i64 0) (by rw [HO.out]; simp only [List.getElem?_toArray, List.getElem?_cons_succ, List.getElem?_cons_zero]; rfl) (by rw [HO.out]; kernel_rfl) (by rw [HO.out]; kernel_rfl) (by rw [HO.out]; kernel_rfl) (by rw [HQ.out]; exact fun _ _ _ h => h) (Or.inl ⟨by rw [HO.out]; kernel_rfl, ?_⟩) hS ?_
  · intro w' hSw
    go_simp
  try simp only [Act.put, List.setIfInBounds_toArray, List.set_cons_zero, List.set_cons_succ]
  refine wpAnyH_take (i := 9) (v := .bool true) (by rw [HO.out]; simp only [List.getElem?_toArray, List.getElem?_cons_succ, List.getElem?_cons_zero]; rfl) (by rw [HO.out]; kernel_rfl) (by rw [HO.out]; kernel_rfl) (by rw [HO.out]; kernel_rfl) (by rw [HQ.out]; exact fun _ _ _ h => h) (Or.inl ⟨by rw [HO.out]; kernel_rfl, ?_⟩) hS ?_
  · intro w' hSw
    go_simp
  try simp only [Act.put, List.setIfInBounds_toArray, List.set_cons_zero, List.set_cons_succ]
  refine wpAnyH_take (i := 10) (v := .bool true) (by rw [HO.out]; simp only [List.getElem?_toArray, List.getElem?_cons_succ, List.getElem?_cons_zero]; rfl) (by rw [HO.out]; kernel_rfl) (by rw [HO.out]; kernel_rfl) (by rw [HO.out]; kernel_rfl) (by rw [HQ.out]; exact fun _ _ _ h => h) (Or.inl ⟨by rw [HO.out]; kernel_rfl, ?_⟩) hS ?_
  · intro w' hSw
    go_simp
  try simp only [Act.put, List.setIfInBounds_toArray, List.set_cons_zero, List.set_cons_succ]
  refine wpAnyH_take (i := 11) (v := .pointer (some ⟨py, 0, none⟩)) (by rw [HO.out]; simp only [List.getElem?_toArray, List.getElem?_cons_succ, List.getElem?_cons_zero]; rfl) (by rw [HO.out]; kernel_rfl) (by rw [HO.out]; kernel_rfl) (by rw [HO.out]; kernel_rfl) (by rw [HQ.out]; exact fun _ _ _ h => h) (Or.inl ⟨by rw [HO.out]; kernel_rfl, ?_⟩) hS ?_
  · intro w' hSw
    go_simp
  try simp only [Act.put, List.setIfInBounds_toArray, List.set_cons_zero, List.set_cons_succ]
  refine wpAnyH_take (i := 12) (v := .int .i64 y.E) (by rw [HO.out]; simp only [List.getElem?_toArray, List.getElem?_cons_succ, List.getElem?_cons_zero]; rfl) (by rw [HO.out]; kernel_rfl) (by rw [HO.out]; kernel_rfl) (by rw [HO.out]; kernel_rfl) (by rw [HQ.out]; exact fun _ _ _ h => h) (Or.inl ⟨by rw [HO.out]; kernel_rfl, ?_⟩) hS ?_
  · intro w' hSw
    have j0 := (RX.of' (X3.out w' hSw).2.2).c0
    go_simp
  try simp only [Act.put, List.setIfInBounds_toArray, List.set_cons_zero, List.set_cons_succ]
  refine wpAnyH_take (i := 13) (v := .int .i64 (y.E.tmod 2)) (by rw [HO.out]; simp only [List.getElem?_toArray, List.getElem?_cons_succ, List.getElem?_cons_zero]; rfl) (by rw [HO.out]; kernel_rfl) (by rw [HO.out]; kernel_rfl) (by rw [HO.out]; kernel_rfl) (by rw [HQ.out]; exact fun _ _ _ h => h) (Or.inl ⟨by rw [HO.out]; kernel_rfl, ?_⟩) hS ?_
  · intro w' hSw
    go_simp
  try simp only [Act.put, List.setIfInBounds_toArray, List.set_cons_zero, List.set_cons_succ]
  refine wpAnyH_take (i := 14) (v := .bool false) (by rw [HO.out]; simp only [List.getElem?_toArray, List.getElem?_cons_succ, List.getElem?_cons_zero]; rfl) (by rw [HO.out]; kernel_rfl) (by rw [HO.out]; kernel_rfl) (by rw [HO.out]; kernel_rfl) (by rw [HQ.out]; exact fun _ _ _ h => h) (Or.inl ⟨by rw [HO.out]; kernel_rfl, ?_⟩) hS ?_
  · intro w' hSw
    go_simp
  try simp only [Act.put, List.setIfInBounds_toArray, List.set_cons_zero, List.set_cons_succ]
  refine wpAnyH_take (i := 15) (v := .bool false) (by rw [HO.out]; simp only [List.getElem?_toArray, List.getElem?_cons_succ, List.getElem?_cons_zero]; rfl) (by rw [HO.out]; kernel_rfl) (by rw [HO.out]; kernel_rfl) (by rw [HO.out]; kernel_rfl) (by rw [HQ.out]; exact fun _ _ _ h => h) (Or.inl ⟨by rw [HO.out]; kernel_rfl, ?_⟩) hS ?_
  · intro w' hSw
    go_simp
  try simp only [Act.put, List.setIfInBounds_toArray, List.set_cons_zero, List.set_cons_succ]
  refine wpAnyH_ready (rs := [16]) (by rw [HO.out]; kernel_rfl) (by simp) ?_
  refine AllReadyH.cons (o := _) (by rw [HO.out]; simp only [List.getElem?_toArray, List.getElem?_cons_succ, List.getElem?_cons_zero]; rfl) (fun K16 hK16 => ?_) AllReadyH.nil
  rw [HO.out]
  go_simp
  refine hK16.out _ _ hS (fun _ => ?_)
  try simp only [Act.put, List.setIfInBounds_toArray, List.set_cons_zero, List.set_cons_succ]
  refine wpAnyH_ready (rs := [17]) (by rw [HO.out]; kernel_rfl) (by simp) ?_
  refine AllReadyH.cons (o := _) (by rw [HO.out]; simp only [List.getElem?_toArray, List.getElem?_cons_succ, List.getElem?_cons_zero]; rfl) (fun K17 hK17 => ?_) AllReadyH.nil
  rw [HO.out]
  go_simp
  refine hK17.out _ _ hS (fun _ => ?_)
  try simp only [Act.put, List.setIfInBounds_toArray, List.set_cons_zero, List.set_cons_succ]
  refine wpAnyH_done (by rw [HO.out]; kernel_rfl) ?_ _
  rw [HQ.out]
  refine NoPanic.normal ?_
  have X4 := X3.out _ hS
  have B4 : Hid (Below w.heap.size w W2.drew) := B2.out.drew
  have RX4 : Hid (Rt W2.drew x ta tc ma mc ∧ IVh (w.heap.size + 1) W2.drew ta x.T ∧ IVh (w.heap.size + 1) W2.drew ma x.M) := ⟨⟨(RX2.out.2.1.below hS).iv, (RX2.out.2.2.below hS).iv, RX2.out.1.tn, RX2.out.1.mn, RX2.out.1.tl, RX2.out.1.ml, RX2.out.1.th, RX2.out.1.mh⟩, RX2.out.2.1.below hS, RX2.out.2.2.below hS⟩
  have RY4 : Hid (Rt W2.drew y ua uc va vc ∧ IVh (w.heap.size + 1) W2.drew ua y.T ∧ IVh (w.heap.size + 1) W2.drew va y.M) := ⟨⟨(RY2.out.2.1.below hS).iv, (RY2.out.2.2.below hS).iv, RY2.out.1.tn, RY2.out.1.mn, RY2.out.1.tl, RY2.out.1.ml, RY2.out.1.th, RY2.out.1.mh⟩, RY2.out.2.1.below hS, RY2.out.2.2.below hS⟩
  clear hS X2 X3 B2 RX2 RY2 HO HQ
  generalize W2.drew = W4 at X4 B4 RX4 RY4 ⊢
  obtain ⟨o4, x4, y4⟩ := X4
  obtain ⟨i0, i1, i2, i3, i4, i5, g0, g1, g2, g3, g4, g5⟩ := RX.of' o4
  obtain ⟨j0, j1, j2, j3, j4, j5, _, _, _, _, _, _⟩ := RX.of' x4
  obtain ⟨k0, k1, k2, k3, k4, k5, _, _, _, _, _, _⟩ := RX.of' y4
  clear o4 x4 y4
  go_wp2_with fail
  exact bodyPost_ret (v := .tuple #[.agg #[.int .i64 0, .int .i64 0, .int .i64 0, .int .i64 0, .slice none 0 0, .slice none 0 0], .int .i64 0, .int .i64 4]) (by simp [results, Try.results17, go_sem, *]) rfl ⟨none, 0, none, 0, rfl, rt_zero _, set6_below B4.out _ _ _ _ _ _, .inl rfl, .inl rfl⟩
set_option maxHeartbeats 1000000 in
theorem rch_TE (a b : Option Addr) (ca cb n m : Nat) (x y : RD) (e f : Int) (w : World) (hx : (x.E.tmod 2 == 0) = true) (hy : (f == 0) = false)
    (HGA : Hid (∀ W, Below w.heap.size w W → Calls Try.prog 15 #[.slice a n ca] W fun r w' => GetPost W (x, 0) r w'))
    (HGB : Hid (∀ W, Below w.heap.size w W → Calls Try.prog 15 #[.slice b m cb] W fun r w' => GetPost W (y, f) r w')) :
    Calls Try.prog 17 #[.slice a n ca, .slice b m cb] w fun r w' => ChoosePost w ⟨x, 0, 0⟩ r w' := by
  obtain ⟨W0, hW0⟩ : ∃ W, W = w.alloc (.cells #[.int .i64 0, .int .i64 0, .int .i64 0, .int .i64 0, .slice none 0 0, .slice none 0 0] 24) := ⟨_, rfl⟩
  have hB0 : Below w.heap.size w W0 := by rw [hW0]; exact (Below.refl _ _).alloc (Nat.le_refl _) _
  have X0 : Hid (W0.heap[w.heap.size]? = some (.cells #[.int .i64 0, .int .i64 0, .int .i64 0, .int .i64 0, .slice none 0 0, .slice none 0 0] 24 (0, 0))) := by rw [hW0]; exact heap_alloc_last _ _
  go_enter Try.func17, Try.ntmps17
  go_wp2_with fail
  rw [← hW0]
  clear hW0
  refine (HGA.out _ hB0).mono ?_
  rintro r1 w1 ⟨ta, tc, ma, mc, rfl, H1⟩
  unfold rootV
  obtain ⟨px, hpx⟩ : ∃ p, p = w1.heap.size := ⟨_, rfl⟩
  obtain ⟨W1, hW1⟩ : ∃ W, W = w1.alloc (.cells #[.int .i64 x.E, .int .i64 x.B, .int .i64 x.N, .int .i64 x.S, .slice ta x.T.length tc, .slice ma x.M.length mc] 24) := ⟨_, rfl⟩
  have b01 : Below W0.heap.size W0 w1 := H1.out.2.1
  have b1 : Below w1.heap.size w1 W1 := by rw [hW1]; exact (Below.refl _ _).alloc (Nat.le_refl _) _
  have s0 : w.heap.size < W0.heap.size := (Array.getElem?_eq_some_iff.1 X0.out).1
  have X1 : Hid (W1.heap[w.heap.size]? = some (.cells #[.int .i64 0, .int .i64 0, .int .i64 0, .int .i64 0, .slice none 0 0, .slice none 0 0] 24 (0, 0)) ∧ W1.heap[px]? = some (.cells #[.int .i64 x.E, .int .i64 x.B, .int .i64 x.N, .int .i64 x.S, .slice ta x.T.length tc, .slice ma x.M.length mc] 24 (0, 0)) ∧ w.heap.size < px ∧ px < W1.heap.size) := by
    refine ⟨(b1.block _ (Nat.lt_of_lt_of_le s0 b01.size)).trans ((b01.block _ s0).trans X0.out), by rw [hpx, hW1]; exact heap_alloc_last _ _, by rw [hpx]; exact Nat.lt_of_lt_of_le s0 b01.size, by rw [hpx, hW1]; simp⟩
  have B1 : Hid (Below w.heap.size w W1) := (hB0.trans (b01.mono (Nat.le_of_lt s0))).trans (b1.mono (Nat.le_trans (Nat.le_of_lt s0) b01.size))
  have R1 : Hid (Rt W1 x ta tc ma mc ∧ IVh (w.heap.size + 1) W1 ta x.T ∧ IVh (w.heap.size + 1) W1 ma x.M) :=
    ⟨⟨(H1.out.2.2.1.below b1).iv, (H1.out.2.2.2.below b1).iv, H1.out.1.tn, H1.out.1.mn, H1.out.1.tl, H1.out.1.ml, H1.out.1.th, H1.out.1.mh⟩, (H1.out.2.2.1.below b1).mono s0, (H1.out.2.2.2.below b1).mono s0⟩
  go_wp2_with fail
  rw [← hW1, ← hpx]
  clear hW1 hpx X0 hB0 H1 b01 b1 s0 HGA
  refine (HGB.out _ B1.out).mono ?_
  rintro r2 w2 ⟨ua, uc, va, vc, rfl, H2⟩
  unfold rootV
  obtain ⟨py, hpy⟩ : ∃ p, p = w2.heap.size := ⟨_, rfl⟩
  obtain ⟨W2, hW2⟩ : ∃ W, W = w2.alloc (.cells #[.int .i64 y.E, .int .i64 y.B, .int .i64 y.N, .int .i64 y.S, .slice ua y.T.length uc, .slice va y.M.length vc] 24) := ⟨_, rfl⟩
  have b12 : Below W1.heap.size W1 w2 := H2.out.2.1
  have b2 : Below w2.heap.size w2 W2 := by rw [hW2]; exact (Below.refl _ _).alloc (Nat.le_refl _) _
  have b22 : Below W1.heap.size W1 W2 := b12.trans (b2.mono b12.size)
  have s1 : w.heap.size < W1.heap.size := Nat.lt_trans X1.out.2.2.1 X1.out.2.2.2
  have X2 : Hid (W2.heap[w.heap.size]? = some (.cells #[.int .i64 0, .int .i64 0, .int .i64 0, .int .i64 0, .slice none 0 0, .slice none 0 0] 24 (0, 0)) ∧ W2.heap[px]? = some (.cells #[.int .i64 x.E, .int .i64 x.B, .int .i64 x.N, .int .i64 x.S, .slice ta x.T.length tc, .slice ma x.M.length mc] 24 (0, 0)) ∧ W2.heap[py]? = some (.cells #[.int .i64 y.E, .int .i64 y.B, .int .i64 y.N, .int .i64 y.S, .slice ua y.T.length uc, .slice va y.M.length vc] 24 (0, 0))) :=
    ⟨(b22.block _ s1).trans X1.out.1, (b22.block _ X1.out.2.2.2).trans X1.out.2.1, by rw [hpy, hW2]; exact heap_alloc_last _ _⟩
  have B2 : Hid (Below w.heap.size w W2) := B1.out.trans (b22.mono (Nat.le_of_lt s1))
  have RX2 : Hid (Rt W2 x ta tc ma mc ∧ IVh (w.heap.size + 1) W2 ta x.T ∧ IVh (w.heap.size + 1) W2 ma x.M) :=
    ⟨⟨(R1.out.2.1.below b22).iv, (R1.out.2.2.below b22).iv, R1.out.1.tn, R1.out.1.mn, R1.out.1.tl, R1.out.1.ml, R1.out.1.th, R1.out.1.mh⟩, R1.out.2.1.below b22, R1.out.2.2.below b22⟩
  have RY2 : Hid (Rt W2 y ua uc va vc ∧ IVh (w.heap.size + 1) W2 ua y.T ∧ IVh (w.heap.size + 1) W2 va y.M) :=
    ⟨⟨(H2.out.2.2.1.below b2).iv, (H2.out.2.2.2.below b2).iv, H2.out.1.tn, H2.out.1.mn, H2.out.1.tl, H2.out.1.ml, H2.out.1.th, H2.out.1.mh⟩, (H2.out.2.2.1.below b2).mono s1, (H2.out.2.2.2.below b2).mono s1⟩
  have X3 : Hid (∀ W', Below W2.heap.size W2 W' → W'.heap[w.heap.size]? = some (.cells #[.int .i64 0, .int .i64 0, .int .i64 0, .int .i64 0, .slice none 0 0, .slice none 0 0] 24 (0, 0)) ∧ W'.heap[px]? = some (.cells #[.int .i64 x.E, .int .i64 x.B, .int .i64 x.N, .int .i64 x.S, .slice ta x.T.length tc, .slice ma x.M.length mc] 24 (0, 0)) ∧ W'.heap[py]? = some (.cells #[.int .i64 y.E, .int .i64 y.B, .int .i64 y.N, .int .i64 y.S, .slice ua y.T.length uc, .slice va y.M.length vc] 24 (0, 0))) := fun W' hW =>
    ⟨(hW.block _ (Array.getElem?_eq_some_iff.1 X2.out.1).1).trans X2.out.1, (hW.block _ (Array.getElem?_eq_some_iff.1 X2.out.2.1).1).trans X2.out.2.1, (hW.block _ (Array.getElem?_eq_some_iff.1 X2.out.2.2).1).trans X2.out.2.2⟩
  go_wp2_with fail
  rw [← hW2, ← hpy]
  clear hW2 hpy H2 b12 b2 b22 s1 HGB R1 B1 X1
  refine wp_region_noPanic ?_
  refine name_ops ?_
  intro O QQ HO HQ
  refine wp_region_held_drew (S := fun W' => Below W2.heap.size W2 W') (by kernel_rfl) (Below.refl _ _).drew (fun hS => ?_)
  rw [show O.size = 18 by rw [HO.out]; rfl]
  refine wpAnyH_take (i := 0) (v := .int .i64 0) (by rw [HO.out]; simp only [List.getElem?_toArray, List.getElem?_cons_succ, List.getElem?_cons_zero]; rfl) (by rw [HO.out]; kernel_rfl) (by rw [HO.out]; kernel_rfl) (by rw [HO.out]; kernel_rfl) (by rw [HQ.out]; exact fun _ _ _ h => h) (Or.inl ⟨by rw [HO.out]; kernel_rfl, ?_⟩) hS ?_
  · intro w' hSw
    go_simp
  try simp only [Act.put, List.setIfInBounds_toArray, List.set_cons_zero, List.set_cons_succ]
  refine wpAnyH_take (i := 1) (v := .bool true) (by rw [HO.out]; simp only [List.getElem?_toArray, List.getElem?_cons_succ, List.getElem?_cons_zero]; rfl) (by rw [HO.out]; kernel_rfl) (by rw [HO.out]; kernel_rfl) (by rw [HO.out]; kernel_rfl) (by rw [HQ.out]; exact fun _ _ _ h => h) (Or.inl ⟨by rw [HO.out]; kernel_rfl, ?_⟩) hS ?_
  · intro w' hSw
    go_simp
  try simp only [Act.put, List.setIfInBounds_toArray, List.set_cons_zero, List.set_cons_succ]
  refine wpAnyH_take (i := 2) (v := .bool true) (by rw [HO.out]; simp only [List.getElem?_toArray, List.getElem?_cons_succ, List.getElem?_cons_zero]; rfl) (by rw [HO.out]; kernel_rfl) (by rw [HO.out]; kernel_rfl) (by rw [HO.out]; kernel_rfl) (by rw [HQ.out]; exact fun _ _ _ h => h) (Or.inl ⟨by rw [HO.out]; kernel_rfl, ?_⟩) hS ?_
  · intro w' hSw
    go_simp
  try simp only [Act.put, List.setIfInBounds_toArray, List.set_cons_zero, List.set_cons_succ]
  refine wpAnyH_take (i := 3) (v := .pointer (some ⟨px, 0, none⟩)) (by rw [HO.out]; simp only [List.getElem?_toArray, List.getElem?_cons_succ, List.getElem?_cons_zero]; rfl) (by rw [HO.out]; kernel_rfl) (by rw [HO.out]; kernel_rfl) (by rw [HO.out]; kernel_rfl) (by rw [HQ.out]; exact fun _ _ _ h => h) (Or.inl ⟨by rw [HO.out]; kernel_rfl, ?_⟩) hS ?_
  · intro w' hSw
    go_simp
  try simp only [Act.put, List.setIfInBounds_toArray, List.set_cons_zero, List.set_cons_succ]
  refine wpAnyH_take (i := 4) (v := .int .i64 x.E) (by rw [HO.out]; simp only [List.getElem?_toArray, List.getElem?_cons_succ, List.getElem?_cons_zero]; rfl) (by rw [HO.out]; kernel_rfl) (by rw [HO.out]; kernel_rfl) (by rw [HO.out]; kernel_rfl) (by rw [HQ.out]; exact fun _ _ _ h => h) (Or.inl ⟨by rw [HO.out]; kernel_rfl, ?_⟩) hS ?_
  · intro w' hSw
    have j0 := (RX.of' (X3.out w' hSw).2.1).c0
    go_simp
  try simp only [Act.put, List.setIfInBounds_toArray, List.set_cons_zero, List.set_cons_succ]
  refine wpAnyH_take (i := 5) (v := .int .i64 (x.E.tmod 2)) (by rw [HO.out]; simp only [List.getElem?_toArray, List.getElem?_cons_succ, List.getElem?_cons_zero]; rfl) (by rw [HO.out]; kernel_rfl) (by rw [HO.out]; kernel_rfl) (by rw [HO.out]; kernel_rfl) (by rw [HQ.out]; exact fun _ _ _ h => h) (Or.inl ⟨by rw [HO.out]; kernel_rfl, ?_⟩) hS ?_
  · intro w' hSw
    go_simp
  try simp only [Act.put, List.setIfInBounds_toArray, List.set_cons_zero, List.set_cons_succ]
  refine wpAnyH_take (i := 6) (v := .bool true) (by rw [HO.out]; simp only [List.getElem?_toArray, List.getElem?_cons_succ, List.getElem?_cons_zero]; rfl) (by rw [HO.out]; kernel_rfl) (by rw [HO.out]; kernel_rfl) (by rw [HO.out]; kernel_rfl) (by rw [HQ.out]; exact fun _ _ _ h => h) (Or.inl ⟨by rw [HO.out]; kernel_rfl, ?_⟩) hS ?_
  · intro w' hSw
    go_simp
  try simp only [Act.put, List.setIfInBounds_toArray, List.set_cons_zero, List.set_cons_succ]
  refine wpAnyH_take (i := 7) (v := .bool true) (by rw [HO.out]; simp only [List.getElem?_toArray, List.getElem?_cons_succ, List.getElem?_cons_zero]; rfl) (by rw [HO.out]; kernel_rfl) (by rw [HO.out]; kernel_rfl) (by rw [HO.out]; kernel_rfl) (by rw [HQ.out]; exact fun _ _ _ h => h) (Or.inl ⟨by rw [HO.out]; kernel_rfl, ?_⟩) hS ?_
  · intro w' hSw
    go_simp
  try simp only [Act.put, List.setIfInBounds_toArray, List.set_cons_zero, List.set_cons_succ]
  refine wpAnyH_take (i := 8) (v := .int .i64 f) (by rw [HO.out]; simp only [List.getElem?_toArray, List.getElem?_cons_succ, List.getElem?_cons_zero]; rfl) (by rw [HO.out]; kernel_rfl) (by rw [HO.out]; kernel_rfl) (by rw [HO.out]; kernel_rfl) (by rw [HQ.out]; exact fun _ _ _ h => h) (Or.inl ⟨by rw [HO.out]; kernel_rfl, ?_⟩) hS ?_
  · intro w' hSw
    go_simp
  try simp only [Act.put, List.setIfInBounds_toArray, List.set_cons_zero, List.set_cons_succ]
  refine wpAnyH_take (i := 9) (v := .bool false) (by rw [HO.out]; simp only [List.getElem?_toArray, List.getElem?_cons_succ, List.getElem?_cons_zero]; rfl) (by rw [HO.out]; kernel_rfl) (by rw [HO.out]; kernel_rfl) (by rw [HO.out]; kernel_rfl) (by rw [HQ.out]; exact fun _ _ _ h => h) (Or.inl ⟨by rw [HO.out]; kernel_rfl, ?_⟩) hS ?_
  · intro w' hSw
    go_simp
  try simp only [Act.put, List.setIfInBounds_toArray, List.set_cons_zero, List.set_cons_succ]
  refine wpAnyH_take (i := 10) (v := .bool false) (by rw [HO.out]; simp only [List.getElem?_toArray, List.getElem?_cons_succ, List.getElem?_cons_zero]; rfl) (by rw [HO.out]; kernel_rfl) (by rw [HO.out]; kernel_rfl) (by rw [HO.out]; kernel_rfl) (by rw [HQ.out]; exact fun _ _ _ h => h) (Or.inl ⟨by rw [HO.out]; kernel_rfl, ?_⟩) hS ?_
  · intro w' hSw
    go_simp
  try simp only [Act.put, List.setIfInBounds_toArray, List.set_cons_zero, List.set_cons_succ]
  refine wpAnyH_take (i := 11) (v := undef) (by rw [HO.out]; simp only [List.getElem?_toArray, List.getElem?_cons_succ, List.getElem?_cons_zero]; rfl) (by rw [HO.out]; kernel_rfl) (by rw [HO.out]; kernel_rfl) (by rw [HO.out]; kernel_rfl) (by rw [HQ.out]; exact fun _ _ _ h => h) (Or.inr ⟨by rw [HO.out]; kernel_rfl, rfl⟩) hS ?_
  try simp only [Act.put, List.setIfInBounds_toArray, List.set_cons_zero, List.set_cons_succ]
  refine wpAnyH_take (i := 12) (v := undef) (by rw [HO.out]; simp only [List.getElem?_toArray, List.getElem?_cons_succ, List.getElem?_cons_zero]; rfl) (by rw [HO.out]; kernel_rfl) (by rw [HO.out]; kernel_rfl) (by rw [HO.out]; kernel_rfl) (by rw [HQ.out]; exact fun _ _ _ h => h) (Or.inr ⟨by rw [HO.out]; kernel_rfl, rfl⟩) hS ?_
  try simp only [Act.put, List.setIfInBounds_toArray, List.set_cons_zero, List.set_cons_succ]
  refine wpAnyH_take (i := 13) (v := undef) (by rw [HO.out]; simp only [List.getElem?_toArray, List.getElem?_cons_succ, List.getElem?_cons_zero]; rfl) (by rw [HO.out]; kernel_rfl) (by rw [HO.out]; kernel_rfl) (by rw [HO.out]; kernel_rfl) (by rw [HQ.out]; exact fun _ _ _ h => h) (Or.inr ⟨by rw [HO.out]; kernel_rfl, rfl⟩) hS ?_
  try simp only [Act.put, List.setIfInBounds_toArray, List.set_cons_zero, List.set_cons_succ]
  refine wpAnyH_take (i := 14) (v := undef) (by rw [HO.out]; simp only [List.getElem?_toArray, List.getElem?_cons_succ, List.getElem?_cons_zero]; rfl) (by rw [HO.out]; kernel_rfl) (by rw [HO.out]; kernel_rfl) (by rw [HO.out]; kernel_rfl) (by rw [HQ.out]; exact fun _ _ _ h => h) (Or.inr ⟨by rw [HO.out]; kernel_rfl, rfl⟩) hS ?_
  try simp only [Act.put, List.setIfInBounds_toArray, List.set_cons_zero, List.set_cons_succ]
  refine wpAnyH_take (i := 15) (v := .bool false) (by rw [HO.out]; simp only [List.getElem?_toArray, List.getElem?_cons_succ, List.getElem?_cons_zero]; rfl) (by rw [HO.out]; kernel_rfl) (by rw [HO.out]; kernel_rfl) (by rw [HO.out]; kernel_rfl) (by rw [HQ.out]; exact fun _ _ _ h => h) (Or.inl ⟨by rw [HO.out]; kernel_rfl, ?_⟩) hS ?_
  · intro w' hSw
    go_simp
  try simp only [Act.put, List.setIfInBounds_toArray, List.set_cons_zero, List.set_cons_succ]
  refine wpAnyH_ready (rs := [16]) (by rw [HO.out]; kernel_rfl) (by simp) ?_
  refine AllReadyH.cons (o := _) (by rw [HO.out]; simp only [List.getElem?_toArray, List.getElem?_cons_succ, List.getElem?_cons_zero]; rfl) (fun K16 hK16 => ?_) AllReadyH.nil
  rw [HO.out]
  go_simp
  refine hK16.out _ _ hS (fun _ => ?_)
  try simp only [Act.put, List.setIfInBounds_toArray, List.set_cons_zero, List.set_cons_succ]
  refine wpAnyH_ready (rs := [17]) (by rw [HO.out]; kernel_rfl) (by simp) ?_
  refine AllReadyH.cons (o := _) (by rw [HO.out]; simp only [List.getElem?_toArray, List.getElem?_cons_succ, List.getElem?_cons_zero]; rfl) (fun K17 hK17 => ?_) AllReadyH.nil
  rw [HO.out]
  go_simp
  refine hK17.out _ _ hS (fun _ => ?_)
  try simp only [Act.put, List.setIfInBounds_toArray, List.set_cons_zero, List.set_cons_succ]
  refine wpAnyH_done (by rw [HO.out]; kernel_rfl) ?_ _
  rw [HQ.out]
  refine NoPanic.normal ?_
  have X4 := X3.out _ hS
  have B4 : Hid (Below w.heap.size w W2.drew) := B2.out.drew
  have RX4 : Hid (Rt W2.drew x ta tc ma mc ∧ IVh (w.heap.size + 1) W2.drew ta x.T ∧ IVh (w.heap.size + 1) W2.drew ma x.M) := ⟨⟨(RX2.out.2.1.below hS).iv, (RX2.out.2.2.below hS).iv, RX2.out.1.tn, RX2.out.1.mn, RX2.out.1.tl, RX2.out.1.ml, RX2.out.1.th, RX2.out.1.mh⟩, RX2.out.2.1.below hS, RX2.out.2.2.below hS⟩
  have RY4 : Hid (Rt W2.drew y ua uc va vc ∧ IVh (w.heap.size + 1) W2.drew ua y.T ∧ IVh (w.heap.size + 1) W2.drew va y.M) := ⟨⟨(RY2.out.2.1.below hS).iv, (RY2.out.2.2.below hS).iv, RY2.out.1.tn, RY2.out.1.mn, RY2.out.1.tl, RY2.out.1.ml, RY2.out.1.th, RY2.out.1.mh⟩, RY2.out.2.1.below hS, RY2.out.2.2.below hS⟩
  clear hS X2 X3 B2 RX2 RY2 HO HQ
  generalize W2.drew = W4 at X4 B4 RX4 RY4 ⊢
  obtain ⟨o4, x4, y4⟩ := X4
  obtain ⟨i0, i1, i2, i3, i4, i5, g0, g1, g2, g3, g4, g5⟩ := RX.of' o4
  obtain ⟨j0, j1, j2, j3, j4, j5, _, _, _, _, _, _⟩ := RX.of' x4
  obtain ⟨k0, k1, k2, k3, k4, k5, _, _, _, _, _, _⟩ := RX.of' y4
  clear o4 x4 y4
  go_wp2_with fail
  exact bodyPost_ret (v := .tuple #[.agg #[.int .i64 x.E, .int .i64 x.B, .int .i64 x.N, .int .i64 x.S, .slice ta x.T.length tc, .slice ma x.M.length mc], .int .i64 0, .int .i64 0]) (by simp [results, Try.results17, go_sem, *]) rfl ⟨ta, tc, ma, mc, rfl, rt_set6 RX4.out.1 RX4.out.2.1 RX4.out.2.2 _ _ _ _ _ _, set6_below B4.out _ _ _ _ _ _, (RX4.out.2.1.set6 _ _ _ _ _ _).mono (Nat.le_succ _), (RX4.out.2.2.set6 _ _ _ _ _ _).mono (Nat.le_succ _)⟩
set_option maxHeartbeats 1000000 in
theorem rch_TF (a b : Option Addr) (ca cb n m : Nat) (x y : RD) (e f : Int) (w : World) (hx : (x.E.tmod 2 == 0) = true) (hy : (y.E.tmod 2 == 1) = false)
    (HGA : Hid (∀ W, Below w.heap.size w W → Calls Try.prog 15 #[.slice a n ca] W fun r w' => GetPost W (x, 0) r w'))
    (HGB : Hid (∀ W, Below w.heap.size w W → Calls Try.prog 15 #[.slice b m cb] W fun r w' => GetPost W (y, 0) r w')) :
    Calls Try.prog 17 #[.slice a n ca, .slice b m cb] w fun r w' => ChoosePost w ⟨x, 0, 0⟩ r w' := by
  obtain ⟨W0, hW0⟩ : ∃ W, W = w.alloc (.cells #[.int .i64 0, .int .i64 0, .int .i64 0, .int .i64 0, .slice none 0 0, .slice none 0 0] 24) := ⟨_, rfl⟩
  have hB0 : Below w.heap.size w W0 := by rw [hW0]; exact (Below.refl _ _).alloc (Nat.le_refl _) _
  have X0 : Hid (W0.heap[w.heap.size]? = some (.cells #[.int .i64 0, .int .i64 0, .int .i64 0, .int .i64 0, .slice none 0 0, .slice none 0 0] 24 (0, 0))) := by rw [hW0]; exact heap_alloc_last _ _
  go_enter Try.func17, Try.ntmps17
  go_wp2_with fail
  rw [← hW0]
  clear hW0
  refine (HGA.out _ hB0).mono ?_
  rintro r1 w1 ⟨ta, tc, ma, mc, rfl, H1⟩
  unfold rootV
  obtain ⟨px, hpx⟩ : ∃ p, p = w1.heap.size := ⟨_, rfl⟩
  obtain ⟨W1, hW1⟩ : ∃ W, W = w1.alloc (.cells #[.int .i64 x.E, .int .i64 x.B, .int .i64 x.N, .int .i64 x.S, .slice ta x.T.length tc, .slice ma x.M.length mc] 24) := ⟨_, rfl⟩
  have b01 : Below W0.heap.size W0 w1 := H1.out.2.1
  have b1 : Below w1.heap.size w1 W1 := by rw [hW1]; exact (Below.refl _ _).alloc (Nat.le_refl _) _
  have s0 : w.heap.size < W0.heap.size := (Array.getElem?_eq_some_iff.1 X0.out).1
  have X1 : Hid (W1.heap[w.heap.size]? = some (.cells #[.int .i64 0, .int .i64 0, .int .i64 0, .int .i64 0, .slice none 0 0, .slice none 0 0] 24 (0, 0)) ∧ W1.heap[px]? = some (.cells #[.int .i64 x.E, .int .i64 x.B, .int .i64 x.N, .int .i64 x.S, .slice ta x.T.length tc, .slice ma x.M.length mc] 24 (0, 0)) ∧ w.heap.size < px ∧ px < W1.heap.size) := by
    refine ⟨(b1.block _ (Nat.lt_of_lt_of_le s0 b01.size)).trans ((b01.block _ s0).trans X0.out), by rw [hpx, hW1]; exact heap_alloc_last _ _, by rw [hpx]; exact Nat.lt_of_lt_of_le s0 b01.size, by rw [hpx, hW1]; simp⟩
  have B1 : Hid (Below w.heap.size w W1) := (hB0.trans (b01.mono (Nat.le_of_lt s0))).trans (b1.mono (Nat.le_trans (Nat.le_of_lt s0) b01.size))
  have R1 : Hid (Rt W1 x ta tc ma mc ∧ IVh (w.heap.size + 1) W1 ta x.T ∧ IVh (w.heap.size + 1) W1 ma x.M) :=
    ⟨⟨(H1.out.2.2.1.below b1).iv, (H1.out.2.2.2.below b1).iv, H1.out.1.tn, H1.out.1.mn, H1.out.1.tl, H1.out.1.ml, H1.out.1.th, H1.out.1.mh⟩, (H1.out.2.2.1.below b1).mono s0, (H1.out.2.2.2.below b1).mono s0⟩
  go_wp2_with fail
  rw [← hW1, ← hpx]
  clear hW1 hpx X0 hB0 H1 b01 b1 s0 HGA
  refine (HGB.out _ B1.out).mono ?_
  rintro r2 w2 ⟨ua, uc, va, vc, rfl, H2⟩
  unfold rootV
  obtain ⟨py, hpy⟩ : ∃ p, p = w2.heap.size := ⟨_, rfl⟩
  obtain ⟨W2, hW2⟩ : ∃ W, W = w2.alloc (.cells #[.int .i64 y.E, .int .i64 y.B, .int .i64 y.N, .int .i64 y.S, .slice ua y.T.length uc, .slice va y.M.length vc] 24) := ⟨_, rfl⟩
  have b12 : Below W1.heap.size W1 w2 := H2.out.2.1
  have b2 : Below w2.heap.size w2 W2 := by rw [hW2]; exact (Below.refl _ _).alloc (Nat.le_refl _) _
  have b22 : Below W1.heap.size W1 W2 := b12.trans (b2.mono b12.size)
  have s1 : w.heap.size < W1.heap.size := Nat.lt_trans X1.out.2.2.1 X1.out.2.2.2
  have X2 : Hid (W2.heap[w.heap.size]? = some (.cells #[.int .i64 0, .int .i64 0, .int .i64 0, .int .i64 0, .slice none 0 0, .slice none 0 0] 24 (0, 0)) ∧ W2.heap[px]? = some (.cells #[.int .i64 x.E, .int .i64 x.B, .int .i64 x.N, .int .i64 x.S, .slice ta x.T.length tc, .slice ma x.M.length mc] 24 (0, 0)) ∧ W2.heap[py]? = some (.cells #[.int .i64 y.E, .int .i64 y.B, .int .i64 y.N, .int .i64 y.S, .slice ua y.T.length uc, .slice va y.M.length vc] 24 (0, 0))) :=
    ⟨(b22.block _ s1).trans X1.out.1, (b22.block _ X1.out.2.2.2).trans X1.out.2.1, by rw [hpy, hW2]; exact heap_alloc_last _ _⟩
  have B2 : Hid (Below w.heap.size w W2) := B1.out.trans (b22.mono (Nat.le_of_lt s1))
  have RX2 : Hid (Rt W2 x ta tc ma mc ∧ IVh (w.heap.size + 1) W2 ta x.T ∧ IVh (w.heap.size + 1) W2 ma x.M) :=
    ⟨⟨(R1.out.2.1.below b22).iv, (R1.out.2.2.below b22).iv, R1.out.1.tn, R1.out.1.mn, R1.out.1.tl, R1.out.1.ml, R1.out.1.th, R1.out.1.mh⟩, R1.out.2.1.below b22, R1.out.2.2.below b22⟩
  have RY2 : Hid (Rt W2 y ua uc va vc ∧ IVh (w.heap.size + 1) W2 ua y.T ∧ IVh (w.heap.size + 1) W2 va y.M) :=
    ⟨⟨(H2.out.2.2.1.below b2).iv, (H2.out.2.2.2.below b2).iv, H2.out.1.tn, H2.out.1.mn, H2.out.1.tl, H2.out.1.ml, H2.out.1.th, H2.out.1.mh⟩, (H2.out.2.2.1.below b2).mono s1, (H2.out.2.2.2.below b2).mono s1⟩
  have X3 : Hid (∀ W', Below W2.heap.size W2 W' → W'.heap[w.heap.size]? = some (.cells #[.int .i64 0, .int .i64 0, .int .i64 0, .int .i64 0, .slice none 0 0, .slice none 0 0] 24 (0, 0)) ∧ W'.heap[px]? = some (.cells #[.int .i64 x.E, .int .i64 x.B, .int .i64 x.N, .int .i64 x.S, .slice ta x.T.length tc, .slice ma x.M.length mc] 24 (0, 0)) ∧ W'.heap[py]? = some (.cells #[.int .i64 y.E, .int .i64 y.B, .int .i64 y.N, .int .i64 y.S, .slice ua y.T.length uc, .slice va y.M.length vc] 24 (0, 0))) := fun W' hW =>
    ⟨(hW.block _ (Array.getElem?_eq_some_iff.1 X2.out.1).1).trans X2.out.1, (hW.block _ (Array.getElem?_eq_some_iff.1 X2.out.2.1).1).trans X2.out.2.1, (hW.block _ (Array.getElem?_eq_some_iff.1 X2.out.2.2).1).trans X2.out.2.2⟩
  go_wp2_with fail
  rw [← hW2, ← hpy]
  clear hW2 hpy H2 b12 b2 b22 s1 HGB R1 B1 X1
  refine wp_region_noPanic ?_
  refine name_ops ?_
  intro O QQ HO HQ
  refine wp_region_held_drew (S := fun W' => Below W2.heap.size W2 W') (by kernel_rfl) (Below.refl _ _).drew (fun hS => ?_)
  rw [show O.size = 18 by rw [HO.out]; rfl]
  refine wpAnyH_take (i := 0) (v := .int .i64 0) (by rw [HO.out]; simp only [List.getElem?_toArray, List.getElem?_cons_succ, List.getElem?_cons_zero]; rfl) (by rw [HO.out]; kernel_rfl) (by rw [HO.out]; kernel_rfl) (by rw [HO.out]; kernel_rfl) (by rw [HQ.out]; exact fun _ _ _ h => h) (Or.inl ⟨by rw [HO.out]; kernel_rfl, ?_⟩) hS ?_
  · intro w' hSw
    go_simp
  try simp only [Act.put, List.setIfInBounds_toArray, List.set_cons_zero, List.set_cons_succ]
  refine wpAnyH_take (i := 1) (v := .bool true) (by rw [HO.out]; simp only [List.getElem?_toArray, List.getElem?_cons_succ, List.getElem?_cons_zero]; rfl) (by rw [HO.out]; kernel_rfl) (by rw [HO.out]; kernel_rfl) (by rw [HO.out]; kernel_rfl) (by rw [HQ.out]; exact fun _ _ _ h => h) (Or.inl ⟨by rw [HO.out]; kernel_rfl, ?_⟩) hS ?_
  · intro w' hSw
    go_simp
  try simp only [Act.put, List.setIfInBounds_toArray, List.set_cons_zero, List.set_cons_succ]
  refine wpAnyH_take (i := 2) (v := .bool true) (by rw [HO.out]; simp only [List.getElem?_toArray, List.getElem?_cons_succ, List.getElem?_cons_zero]; rfl) (by rw [HO.out]; kernel_rfl) (by rw [HO.out]; kernel_rfl) (by rw [HO.out]; kernel_rfl) (by rw [HQ.out]; exact fun _ _ _ h => h) (Or.inl ⟨by rw [HO.out]; kernel_rfl, ?_⟩) hS ?_
  · intro w' hSw
    go_simp
  try simp only [Act.put, List.setIfInBounds_toArray, List.set_cons_zero, List.set_cons_succ]
  refine wpAnyH_take (i := 3) (v := .pointer (some ⟨px, 0, none⟩)) (by rw [HO.out]; simp only [List.getElem?_toArray, List.getElem?_cons_succ, List.getElem?_cons_zero]; rfl) (by rw [HO.out]; kernel_rfl) (by rw [HO.out]; kernel_rfl) (by rw [HO.out]; kernel_rfl) (by rw [HQ.out]; exact fun _ _ _ h => h) (Or.inl ⟨by rw [HO.out]; kernel_rfl, ?_⟩) hS ?_
  · intro w' hSw
    go_simp
  try simp only [Act.put, List.setIfInBounds_toArray, List.set_cons_zero, List.set_cons_succ]
  refine wpAnyH_take (i := 4) (v := .int .i64 x.E) (by rw [HO.out]; simp only [List.getElem?_toArray, List.getElem?_cons_succ, List.getElem?_cons_zero]; rfl) (by rw [HO.out]; kernel_rfl) (by rw [HO.out]; kernel_rfl) (by rw [HO.out]; kernel_rfl) (by rw [HQ.out]; exact fun _ _ _ h => h) (Or.inl ⟨by rw [HO.out]; kernel_rfl, ?_⟩) hS ?_
  · intro w' hSw
    have j0 := (RX.of' (X3.out w' hSw).2.1).c0
    go_simp
  try simp only [Act.put, List.setIfInBounds_toArray, List.set_cons_zero, List.set_cons_succ]
  refine wpAnyH_take (i := 5) (v := .int .i64 (x.E.tmod 2)) (by rw [HO.out]; simp only [List.getElem?_toArray, List.getElem?_cons_succ, List.getElem?_cons_zero]; rfl) (by rw [HO.out]; kernel_rfl) (by rw [HO.out]; kernel_rfl) (by rw [HO.out]; kernel_rfl) (by rw [HQ.out]; exact fun _ _ _ h => h) (Or.inl ⟨by rw [HO.out]; kernel_rfl, ?_⟩) hS ?_
  · intro w' hSw
    go_simp
  try simp only [Act.put, List.setIfInBounds_toArray, List.set_cons_zero, List.set_cons_succ]
  refine wpAnyH_take (i := 6) (v := .bool true) (by rw [HO.out]; simp only [List.getElem?_toArray, List.getElem?_cons_succ, List.getElem?_cons_zero]; rfl) (by rw [HO.out]; kernel_rfl) (by rw [HO.out]; kernel_rfl) (by rw [HO.out]; kernel_rfl) (by rw [HQ.out]; exact fun _ _ _ h => h) (Or.inl ⟨by rw [HO.out]; kernel_rfl, ?_⟩) hS ?_
  · intro w' hSw
    go_simp
  try simp only [Act.put, List.setIfInBounds_toArray, List.set_cons_zero, List.set_cons_succ]
  refine wpAnyH_take (i := 7) (v := .bool true) (by rw [HO.out]; simp only [List.getElem?_toArray, List.getElem?_cons_succ, List.getElem?_cons_zero]; rfl) (by rw [HO.out]; kernel_rfl) (by rw [HO.out]; kernel_rfl) (by rw [HO.out]; kernel_rfl) (by rw [HQ.out]; exact fun _ _ _ h => h) (Or.inl ⟨by rw [HO.out]; kernel_rfl, ?_⟩) hS ?_
  · intro w' hSw
    go_simp
  try simp only [Act.put, List.setIfInBounds_toArray, List.set_cons_zero, List.set_cons_succ]
  refine wpAnyH_take (i := 8) (v := .int .i64 0) (by rw [HO.out]; simp only [List.getElem?_toArray, List.getElem?_cons_succ, List.getElem?_cons_zero]; rfl) (by rw [HO.out]; kernel_rfl) (by rw [HO.out]; kernel_rfl) (by rw [HO.out]; kernel_rfl) (by rw [HQ.out]; exact fun _ _ _ h => h) (Or.inl ⟨by rw [HO.out]; kernel_rfl, ?_⟩) hS ?_
  · intro w' hSw
    go_simp
  try simp only [Act.put, List.setIfInBounds_toArray, List.set_cons_zero, List.set_cons_succ]
  refine wpAnyH_take (i := 9) (v := .bool true) (by rw [HO.out]; simp only [List.getElem?_toArray, List.getElem?_cons_succ, List.getElem?_cons_zero]; rfl) (by rw [HO.out]; kernel_rfl) (by rw [HO.out]; kernel_rfl) (by rw [HO.out]; kernel_rfl) (by rw [HQ.out]; exact fun _ _ _ h => h) (Or.inl ⟨by rw [HO.out]; kernel_rfl, ?_⟩) hS ?_
  · intro w' hSw
    go_simp
  try simp only [Act.put, List.setIfInBounds_toArray, List.set_cons_zero, List.set_cons_succ]
  refine wpAnyH_take (i := 10) (v := .bool true) (by rw [HO.out]; simp only [List.getElem?_toArray, List.getElem?_cons_succ, List.getElem?_cons_zero]; rfl) (by rw [HO.out]; kernel_rfl) (by rw [HO.out]; kernel_rfl) (by rw [HO.out]; kernel_rfl) (by rw [HQ.out]; exact fun _ _ _ h => h) (Or.inl ⟨by rw [HO.out]; kernel_rfl, ?_⟩) hS ?_
  · intro w' hSw
    go_simp
  try simp only [Act.put, List.setIfInBounds_toArray, List.set_cons_zero, List.set_cons_succ]
  refine wpAnyH_take (i := 11) (v := .pointer (some ⟨py, 0, none⟩)) (by rw [HO.out]; simp only [List.getElem?_toArray, List.getElem?_cons_succ, List.getElem?_cons_zero]; rfl) (by rw [HO.out]; kernel_rfl) (by rw [HO.out]; kernel_rfl) (by rw [HO.out]; kernel_rfl) (by rw [HQ.out]; exact fun _ _ _ h => h) (Or.inl ⟨by rw [HO.out]; kernel_rfl, ?_⟩) hS ?_
  · intro w' hSw
    go_simp
  try simp only [Act.put, List.setIfInBounds_toArray, List.set_cons_zero, List.set_cons_succ]
  refine wpAnyH_take (i := 12) (v := .int .i64 y.E) (by rw [HO.out]; simp only [List.getElem?_toArray, List.getElem?_cons_succ, List.getElem?_cons_zero]; rfl) (by rw [HO.out]; kernel_rfl) (by rw [HO.out]; kernel_rfl) (by rw [HO.out]; kernel_rfl) (by rw [HQ.out]; exact fun _ _ _ h => h) (Or.inl ⟨by rw [HO.out]; kernel_rfl, ?_⟩) hS ?_
  · intro w' hSw
    have j0 := (RX.of' (X3.out w' hSw).2.2).c0
    go_simp
  try simp only [Act.put, List.setIfInBounds_toArray, List.set_cons_zero, List.set_cons_succ]
  refine wpAnyH_take (i := 13) (v := .int .i64 (y.E.tmod 2)) (by rw [HO.out]; simp only [List.getElem?_toArray, List.getElem?_cons_succ, List.getElem?_cons_zero]; rfl) (by rw [HO.out]; kernel_rfl) (by rw [HO.out]; kernel_rfl) (by rw [HO.out]; kernel_rfl) (by rw [HQ.out]; exact fun _ _ _ h => h) (Or.inl ⟨by rw [HO.out]; kernel_rfl, ?_⟩) hS ?_
  · intro w' hSw
    go_simp
  try simp only [Act.put, List.setIfInBounds_toArray, List.set_cons_zero, List.set_cons_succ]
  refine wpAnyH_take (i := 14) (v := .bool false) (by rw [HO.out]; simp only [List.getElem?_toArray, List.getElem?_cons_succ, List.getElem?_cons_zero]; rfl) (by rw [HO.out]; kernel_rfl) (by rw [HO.out]; kernel_rfl) (by rw [HO.out]; kernel_rfl) (by rw [HQ.out]; exact fun _ _ _ h => h) (Or.inl ⟨by rw [HO.out]; kernel_rfl, ?_⟩) hS ?_
  · intro w' hSw
    go_simp
  try simp only [Act.put, List.setIfInBounds_toArray, List.set_cons_zero, List.set_cons_succ]
  refine wpAnyH_take (i := 15) (v := .bool false) (by rw [HO.out]; simp only [List.getElem?_toArray, List.getElem?_cons_succ, List.getElem?_cons_zero]; rfl) (by rw [HO.out]; kernel_rfl) (by rw [HO.out]; kernel_rfl) (by rw [HO.out]; kernel_rfl) (by rw [HQ.out]; exact fun _ _ _ h => h) (Or.inl ⟨by rw [HO.out]; kernel_rfl, ?_⟩) hS ?_
  · intro w' hSw
    go_simp
  try simp only [Act.put, List.setIfInBounds_toArray, List.set_cons_zero, List.set_cons_succ]
  refine wpAnyH_ready (rs := [16]) (by rw [HO.out]; kernel_rfl) (by simp) ?_
  refine AllReadyH.cons (o := _) (by rw [HO.out]; simp only [List.getElem?_toArray, List.getElem?_cons_succ, List.getElem?_cons_zero]; rfl) (fun K16 hK16 => ?_) AllReadyH.nil
  rw [HO.out]
  go_simp
  refine hK16.out _ _ hS (fun _ => ?_)
  try simp only [Act.put, List.setIfInBounds_toArray, List.set_cons_zero, List.set_cons_succ]
  refine wpAnyH_ready (rs := [17]) (by rw [HO.out]; kernel_rfl) (by simp) ?_
  refine AllReadyH.cons (o := _) (by rw [HO.out]; simp only [List.getElem?_toArray, List.getElem?_cons_succ, List.getElem?_cons_zero]; rfl) (fun K17 hK17 => ?_) AllReadyH.nil
  rw [HO.out]
  go_simp
  refine hK17.out _ _ hS (fun _ => ?_)
  try simp only [Act.put, List.setIfInBounds_toArray, List.set_cons_zero, List.set_cons_succ]
  refine wpAnyH_done (by rw [HO.out]; kernel_rfl) ?_ _
  rw [HQ.out]
  refine NoPanic.normal ?_
  have X4 := X3.out _ hS
  have B4 : Hid (Below w.heap.size w W2.drew) := B2.out.drew
  have RX4 : Hid (Rt W2.drew x ta tc ma mc ∧ IVh (w.heap.size + 1) W2.drew ta x.T ∧ IVh (w.heap.size + 1) W2.drew ma x.M) := ⟨⟨(RX2.out.2.1.below hS).iv, (RX2.out.2.2.below hS).iv, RX2.out.1.tn, RX2.out.1.mn, RX2.out.1.tl, RX2.out.1.ml, RX2.out.1.th, RX2.out.1.mh⟩, RX2.out.2.1.below hS, RX2.out.2.2.below hS⟩
  have RY4 : Hid (Rt W2.drew y ua uc va vc ∧ IVh (w.heap.size + 1) W2.drew ua y.T ∧ IVh (w.heap.size + 1) W2.drew va y.M) := ⟨⟨(RY2.out.2.1.below hS).iv, (RY2.out.2.2.below hS).iv, RY2.out.1.tn, RY2.out.1.mn, RY2.out.1.tl, RY2.out.1.ml, RY2.out.1.th, RY2.out.1.mh⟩, RY2.out.2.1.below hS, RY2.out.2.2.below hS⟩
  clear hS X2 X3 B2 RX2 RY2 HO HQ
  generalize W2.drew = W4 at X4 B4 RX4 RY4 ⊢
  obtain ⟨o4, x4, y4⟩ := X4
  obtain ⟨i0, i1, i2, i3, i4, i5, g0, g1, g2, g3, g4, g5⟩ := RX.of' o4
  obtain ⟨j0, j1, j2, j3, j4, j5, _, _, _, _, _, _⟩ := RX.of' x4
  obtain ⟨k0, k1, k2, k3, k4, k5, _, _, _, _, _, _⟩ := RX.of' y4
  clear o4 x4 y4
  go_wp2_with fail
  exact bodyPost_ret (v := .tuple #[.agg #[.int .i64 x.E, .int .i64 x.B, .int .i64 x.N, .int .i64 x.S, .slice ta x.T.length tc, .slice ma x.M.length mc], .int .i64 0, .int .i64 0]) (by simp [results, Try.results17, go_sem, *]) rfl ⟨ta, tc, ma, mc, rfl, rt_set6 RX4.out.1 RX4.out.2.1 RX4.out.2.2 _ _ _ _ _ _, set6_below B4.out _ _ _ _ _ _, (RX4.out.2.1.set6 _ _ _ _ _ _).mono (Nat.le_succ _), (RX4.out.2.2.set6 _ _ _ _ _ _).mono (Nat.le_succ _)⟩
set_option maxHeartbeats 1000000 in
theorem rch_FE (a b : Option Addr) (ca cb n m : Nat) (x y : RD) (e f : Int) (w : World) (hx : (x.E.tmod 2 == 0) = false) (hy : (f == 0) = false)
    (HGA : Hid (∀ W, Below w.heap.size w W → Calls Try.prog 15 #[.slice a n ca] W fun r w' => GetPost W (x, 0) r w'))
    (HGB : Hid (∀ W, Below w.heap.size w W → Calls Try.prog 15 #[.slice b m cb] W fun r w' => GetPost W (y, f) r w')) :
    Calls Try.prog 17 #[.slice a n ca, .slice b m cb] w fun r w' => ChoosePost w ⟨zero, 0, 4⟩ r w' := by
  obtain ⟨W0, hW0⟩ : ∃ W, W = w.alloc (.cells #[.int .i64 0, .int .i64 0, .int .i64 0, .int .i64 0, .slice none 0 0, .slice none 0 0] 24) := ⟨_, rfl⟩
  have hB0 : Below w.heap.size w W0 := by rw [hW0]; exact (Below.refl _ _).alloc (Nat.le_refl _) _
  have X0 : Hid (W0.heap[w.heap.size]? = some (.cells #[.int .i64 0, .int .i64 0, .int .i64 0, .int .i64 0, .slice none 0 0, .slice none 0 0] 24 (0, 0))) := by rw [hW0]; exact heap_alloc_last _ _
  go_enter Try.func17, Try.ntmps17
  go_wp2_with fail
  rw [← hW0]
  clear hW0
  refine (HGA.out _ hB0).mono ?_
  rintro r1 w1 ⟨ta, tc, ma, mc, rfl, H1⟩
  unfold rootV
  obtain ⟨px, hpx⟩ : ∃ p, p = w1.heap.size := ⟨_, rfl⟩
  obtain ⟨W1, hW1⟩ : ∃ W, W = w1.alloc (.cells #[.int .i64 x.E, .int .i64 x.B, .int .i64 x.N, .int .i64 x.S, .slice ta x.T.length tc, .slice ma x.M.length mc] 24) := ⟨_, rfl⟩
  have b01 : Below W0.heap.size W0 w1 := H1.out.2.1
  have b1 : Below w1.heap.size w1 W1 := by rw [hW1]; exact (Below.refl _ _).alloc (Nat.le_refl _) _
  have s0 : w.heap.size < W0.heap.size := (Array.getElem?_eq_some_iff.1 X0.out).1
  have X1 : Hid (W1.heap[w.heap.size]? = some (.cells #[.int .i64 0, .int .i64 0, .int .i64 0, .int .i64 0, .slice none 0 0, .slice none 0 0] 24 (0, 0)) ∧ W1.heap[px]? = some (.cells #[.int .i64 x.E, .int .i64 x.B, .int .i64 x.N, .int .i64 x.S, .slice ta x.T.length tc, .slice ma x.M.length mc] 24 (0, 0)) ∧ w.heap.size < px ∧ px < W1.heap.size) := by
    refine ⟨(b1.block _ (Nat.lt_of_lt_of_le s0 b01.size)).trans ((b01.block _ s0).trans X0.out), by rw [hpx, hW1]; exact heap_alloc_last _ _, by rw [hpx]; exact Nat.lt_of_lt_of_le s0 b01.size, by rw [hpx, hW1]; simp⟩
  have B1 : Hid (Below w.heap.size w W1) := (hB0.trans (b01.mono (Nat.le_of_lt s0))).trans (b1.mono (Nat.le_trans (Nat.le_of_lt s0) b01.size))
  have R1 : Hid (Rt W1 x ta tc ma mc ∧ IVh (w.heap.size + 1) W1 ta x.T ∧ IVh (w.heap.size + 1) W1 ma x.M) :=
    ⟨⟨(H1.out.2.2.1.below b1).iv, (H1.out.2.2.2.below b1).iv, H1.out.1.tn, H1.out.1.mn, H1.out.1.tl, H1.out.1.ml, H1.out.1.th, H1.out.1.mh⟩, (H1.out.2.2.1.below b1).mono s0, (H1.out.2.2.2.below b1).mono s0⟩
  go_wp2_with fail
  rw [← hW1, ← hpx]
  clear hW1 hpx X0 hB0 H1 b01 b1 s0 HGA
  refine (HGB.out _ B1.out).mono ?_
  rintro r2 w2 ⟨ua, uc, va, vc, rfl, H2⟩
  unfold rootV
  obtain ⟨py, hpy⟩ : ∃ p, p = w2.heap.size := ⟨_, rfl⟩
  obtain ⟨W2, hW2⟩ : ∃ W, W = w2.alloc (.cells #[.int .i64 y.E, .int .i64 y.B, .int .i64 y.N, .int .i64 y.S, .slice ua y.T.length uc, .slice va y.M.length vc] 24) := ⟨_, rfl⟩
  have b12 : Below W1.heap.size W1 w2 := H2.out.2.1
  have b2 : Below w2.heap.size w2 W2 := by rw [hW2]; exact (Below.refl _ _).alloc (Nat.le_refl _) _
  have b22 : Below W1.heap.size W1 W2 := b12.trans (b2.mono b12.size)
  have s1 : w.heap.size < W1.heap.size := Nat.lt_trans X1.out.2.2.1 X1.out.2.2.2
  have X2 : Hid (W2.heap[w.heap.size]? = some (.cells #[.int .i64 0, .int .i64 0, .int .i64 0, .int .i64 0, .slice none 0 0, .slice none 0 0] 24 (0, 0)) ∧ W2.heap[px]? = some (.cells #[.int .i64 x.E, .int .i64 x.B, .int .i64 x.N, .int .i64 x.S, .slice ta x.T.length tc, .slice ma x.M.length mc] 24 (0, 0)) ∧ W2.heap[py]? = some (.cells #[.int .i64 y.E, .int .i64 y.B, .int .i64 y.N, .int .i64 y.S, .slice ua y.T.length uc, .slice va y.M.length vc] 24 (0, 0))) :=
    ⟨(b22.block _ s1).trans X1.out.1, (b22.block _ X1.out.2.2.2).trans X1.out.2.1, by rw [hpy, hW2]; exact heap_alloc_last _ _⟩
  have B2 : Hid (Below w.heap.size w W2) := B1.out.trans (b22.mono (Nat.le_of_lt s1))
  have RX2 : Hid (Rt W2 x ta tc ma mc ∧ IVh (w.heap.size + 1) W2 ta x.T ∧ IVh (w.heap.size + 1) W2 ma x.M) :=
    ⟨⟨(R1.out.2.1.below b22).iv, (R1.out.2.2.below b22).iv, R1.out.1.tn, R1.out.1.mn, R1.out.1.tl, R1.out.1.ml, R1.out.1.th, R1.out.1.mh⟩, R1.out.2.1.below b22, R1.out.2.2.below b22⟩
  have RY2 : Hid (Rt W2 y ua uc va vc ∧ IVh (w.heap.size + 1) W2 ua y.T ∧ IVh (w.heap.size + 1) W2 va y.M) :=
    ⟨⟨(H2.out.2.2.1.below b2).iv, (H2.out.2.2.2.below b2).iv, H2.out.1.tn, H2.out.1.mn, H2.out.1.tl, H2.out.1.ml, H2.out.1.th, H2.out.1.mh⟩, (H2.out.2.2.1.below b2).mono s1, (H2.out.2.2.2.below b2).mono s1⟩
  have X3 : Hid (∀ W', Below W2.heap.size W2 W' → W'.heap[w.heap.size]? = some (.cells #[.int .i64 0, .int .i64 0, .int .i64 0, .int .i64 0, .slice none 0 0, .slice none 0 0] 24 (0, 0)) ∧ W'.heap[px]? = some (.cells #[.int .i64 x.E, .int .i64 x.B, .int .i64 x.N, .int .i64 x.S, .slice ta x.T.length tc, .slice ma x.M.length mc] 24 (0, 0)) ∧ W'.heap[py]? = some (.cells #[.int .i64 y.E, .int .i64 y.B, .int .i64 y.N, .int .i64 y.S, .slice ua y.T.length uc, .slice va y.M.length vc] 24 (0, 0))) := fun W' hW =>
    ⟨(hW.block _ (Array.getElem?_eq_some_iff.1 X2.out.1).1).trans X2.out.1, (hW.block _ (Array.getElem?_eq_some_iff.1 X2.out.2.1).1).trans X2.out.2.1, (hW.block _ (Array.getElem?_eq_some_iff.1 X2.out.2.2).1).trans X2.out.2.2⟩
  go_wp2_with fail
  rw [← hW2, ← hpy]
  clear hW2 hpy H2 b12 b2 b22 s1 HGB R1 B1 X1
  refine wp_region_noPanic ?_
  refine name_ops ?_
  intro O QQ HO HQ
  refine wp_region_held_drew (S := fun W' => Below W2.heap.size W2 W') (by kernel_rfl) (Below.refl _ _).drew (fun hS => ?_)
  rw [show O.size = 18 by rw [HO.out]; rfl]
  refine wpAnyH_take (i := 0) (v := .int .i64 0) (by rw [HO.out]; simp only [List.getElem?_toArray, List.getElem?_cons_succ, List.getElem?_cons_zero]; rfl) (by rw [HO.out]; kernel_rfl) (by rw [HO.out]; kernel_rfl) (by rw [HO.out]; kernel_rfl) (by rw [HQ.out]; exact fun _ _ _ h => h) (Or.inl ⟨by rw [HO.out]; kernel_rfl, ?_⟩) hS ?_
  · intro w' hSw
    go_simp
  try simp only [Act.put, List.setIfInBounds_toArray, List.set_cons_zero, List.set_cons_succ]
  refine wpAnyH_take (i := 1) (v := .bool true) (by rw [HO.out]; simp only [List.getElem?_toArray, List.getElem?_cons_succ, List.getElem?_cons_zero]; rfl) (by rw [HO.out]; kernel_rfl) (by rw [HO.out]; kernel_rfl) (by rw [HO.out]; kernel_rfl) (by rw [HQ.out]; exact fun _ _ _ h => h) (Or.inl ⟨by rw [HO.out]; kernel_rfl, ?_⟩) hS ?_
  · intro w' hSw
    go_simp
  try simp only [Act.put, List.setIfInBounds_toArray, List.set_cons_zero, List.set_cons_succ]
  refine wpAnyH_take (i := 2) (v := .bool true) (by rw [HO.out]; simp only [List.getElem?_toArray, List.getElem?_cons_succ, List.getElem?_cons_zero]; rfl) (by rw [HO.out]; kernel_rfl) (by rw [HO.out]; kernel_rfl) (by rw [HO.out]; kernel_rfl) (by rw [HQ.out]; exact fun _ _ _ h => h) (Or.inl ⟨by rw [HO.out]; kernel_rfl, ?_⟩) hS ?_
  · intro w' hSw
    go_simp
  try simp only [Act.put, List.setIfInBounds_toArray, List.set_cons_zero, List.set_cons_succ]
  refine wpAnyH_take (i := 3) (v := .pointer (some ⟨px, 0, none⟩)) (by rw [HO.out]; simp only [List.getElem?_toArray, List.getElem?_cons_succ, List.getElem?_cons_zero]; rfl) (by rw [HO.out]; kernel_rfl) (by rw [HO.out]; kernel_rfl) (by rw [HO.out]; kernel_rfl) (by rw [HQ.out]; exact fun _ _ _ h => h) (Or.inl ⟨by rw [HO.out]; kernel_rfl, ?_⟩) hS ?_
  · intro w' hSw
    go_simp
  try simp only [Act.put, List.setIfInBounds_toArray, List.set_cons_zero, List.set_cons_succ]
  refine wpAnyH_take (i := 4) (v := .int .i64 x.E) (by rw [HO.out]; simp only [List.getElem?_toArray, List.getElem?_cons_succ, List.getElem?_cons_zero]; rfl) (by rw [HO.out]; kernel_rfl) (by rw [HO.out]; kernel_rfl) (by rw [HO.out]; kernel_rfl) (by rw [HQ.out]; exact fun _ _ _ h => h) (Or.inl ⟨by rw [HO.out]; kernel_rfl, ?_⟩) hS ?_
  · intro w' hSw
    have j0 := (RX.of' (X3.out w' hSw).2.1).c0
    go_simp
  try simp only [Act.put, List.setIfInBounds_toArray, List.set_cons_zero, List.set_cons_succ]
  refine wpAnyH_take (i := 5) (v := .int .i64 (x.E.tmod 2)) (by rw [HO.out]; simp only [List.getElem?_toArray, List.getElem?_cons_succ, List.getElem?_cons_zero]; rfl) (by rw [HO.out]; kernel_rfl) (by rw [HO.out]; kernel_rfl) (by rw [HO.out]; kernel_rfl) (by rw [HQ.out]; exact fun _ _ _ h => h) (Or.inl ⟨by rw [HO.out]; kernel_rfl, ?_⟩) hS ?_
  · intro w' hSw
    go_simp
  try simp only [Act.put, List.setIfInBounds_toArray, List.set_cons_zero, List.set_cons_succ]
  refine wpAnyH_take (i := 6) (v := .bool false) (by rw [HO.out]; simp only [List.getElem?_toArray, List.getElem?_cons_succ, List.getElem?_cons_zero]; rfl) (by rw [HO.out]; kernel_rfl) (by rw [HO.out]; kernel_rfl) (by rw [HO.out]; kernel_rfl) (by rw [HQ.out]; exact fun _ _ _ h => h) (Or.inl ⟨by rw [HO.out]; kernel_rfl, ?_⟩) hS ?_
  · intro w' hSw
    go_simp
  try simp only [Act.put, List.setIfInBounds_toArray, List.set_cons_zero, List.set_cons_succ]
  refine wpAnyH_take (i := 7) (v := .bool false) (by rw [HO.out]; simp only [List.getElem?_toArray, List.getElem?_cons_succ, List.getElem?_cons_zero]; rfl) (by rw [HO.out]; kernel_rfl) (by rw [HO.out]; kernel_rfl) (by rw [HO.out]; kernel_rfl) (by rw [HQ.out]; exact fun _ _ _ h => h) (Or.inl ⟨by rw [HO.out]; kernel_rfl, ?_⟩) hS ?_
  · intro w' hSw
    go_simp
  try simp only [Act.put, List.setIfInBounds_toArray, List.set_cons_zero, List.set_cons_succ]
  refine wpAnyH_take (i := 8) (v := .int .i64 f) (by rw [HO.out]; simp only [List.getElem?_toArray, List.getElem?_cons_succ, List.getElem?_cons_zero]; rfl) (by rw [HO.out]; kernel_rfl) (by rw [HO.out]; kernel_rfl) (by rw [HO.out]; kernel_rfl) (by rw [HQ.out]; exact fun _ _ _ h => h) (Or.inl ⟨by rw [HO.out]; kernel_rfl, ?_⟩) hS ?_
  · intro w' hSw
    go_simp
  try simp only [Act.put, List.setIfInBounds_toArray, List.set_cons_zero, List.set_cons_succ]
  refine wpAnyH_take (i := 9) (v := .bool false) (by rw [HO.out]; simp only [List.getElem?_toArray, List.getElem?_cons_succ, List.getElem?_cons_zero]; rfl) (by rw [HO.out]; kernel_rfl) (by rw [HO.out]; kernel_rfl) (by rw [HO.out]; kernel_rfl) (by rw [HQ.out]; exact fun _ _ _ h => h) (Or.inl ⟨by rw [HO.out]; kernel_rfl, ?_⟩) hS ?_
  · intro w' hSw
    go_simp
  try simp only [Act.put, List.setIfInBounds_toArray, List.set_cons_zero, List.set_cons_succ]
  refine wpAnyH_take (i := 10) (v := .bool false) (by rw [HO.out]; simp only [List.getElem?_toArray, List.getElem?_cons_succ, List.getElem?_cons_zero]; rfl) (by rw [HO.out]; kernel_rfl) (by rw [HO.out]; kernel_rfl) (by rw [HO.out]; kernel_rfl) (by rw [HQ.out]; exact fun _ _ _ h => h) (Or.inl ⟨by rw [HO.out]; kernel_rfl, ?_⟩) hS ?_
  · intro w' hSw
    go_simp
  try simp only [Act.put, List.setIfInBounds_toArray, List.set_cons_zero, List.set_cons_succ]
  refine wpAnyH_take (i := 11) (v := undef) (by rw [HO.out]; simp only [List.getElem?_toArray, List.getElem?_cons_succ, List.getElem?_cons_zero]; rfl) (by rw [HO.out]; kernel_rfl) (by rw [HO.out]; kernel_rfl) (by rw [HO.out]; kernel_rfl) (by rw [HQ.out]; exact fun _ _ _ h => h) (Or.inr ⟨by rw [HO.out]; kernel_rfl, rfl⟩) hS ?_
  try simp only [Act.put, List.setIfInBounds_toArray, List.set_cons_zero, List.set_cons_succ]
  refine wpAnyH_take (i := 12) (v := undef) (by rw [HO.out]; simp only [List.getElem?_toArray, List.getElem?_cons_succ, List.getElem?_cons_zero]; rfl) (by rw [HO.out]; kernel_rfl) (by rw [HO.out]; kernel_rfl) (by rw [HO.out]; kernel_rfl) (by rw [HQ.out]; exact fun _ _ _ h => h) (Or.inr ⟨by rw [HO.out]; kernel_rfl, rfl⟩) hS ?_
  try simp only [Act.put, List.setIfInBounds_toArray, List.set_cons_zero, List.set_cons_succ]
  refine wpAnyH_take (i := 13) (v := undef) (by rw [HO.out]; simp only [List.getElem?_toArray, List.getElem?_cons_succ, List.getElem?_cons_zero]; rfl) (by rw [HO.out]; kernel_rfl) (by rw [HO.out]; kernel_rfl) (by rw [HO.out]; kernel_rfl) (by rw [HQ.out]; exact fun _ _ _ h => h) (Or.inr ⟨by rw [HO.out]; kernel_rfl, rfl⟩) hS ?_
  try simp only [Act.put, List.setIfInBounds_toArray, List.set_cons_zero, List.set_cons_succ]
  refine wpAnyH_take (i := 14) (v := undef) (by rw [HO.out]; simp only [List.getElem?_toArray, List.getElem?_cons_succ, List.getElem?_cons_zero]; rfl) (by rw [HO.out]; kernel_rfl) (by rw [HO.out]; kernel_rfl) (by rw [HO.out]; kernel_rfl) (by rw [HQ.out]; exact fun _ _ _ h => h) (Or.inr ⟨by rw [HO.out]; kernel_rfl, rfl⟩) hS ?_
  try simp only [Act.put, List.setIfInBounds_toArray, List.set_cons_zero, List.set_cons_succ]
  refine wpAnyH_take (i := 15) (v := .bool false) (by rw [HO.out]; simp only [List.getElem?_toArray, List.getElem?_cons_succ, List.getElem?_cons_zero]; rfl) (by rw [HO.out]; kernel_rfl) (by rw [HO.out]; kernel_rfl) (by rw [HO.out]; kernel_rfl) (by rw [HQ.out]; exact fun _ _ _ h => h) (Or.inl ⟨by rw [HO.out]; kernel_rfl, ?_⟩) hS ?_
  · intro w' hSw
    go_simp
  try simp only [Act.put, List.setIfInBounds_toArray, List.set_cons_zero, List.set_cons_succ]
  refine wpAnyH_ready (rs := [16]) (by rw [HO.out]; kernel_rfl) (by simp) ?_
  refine AllReadyH.cons (o := _) (by rw [HO.out]; simp only [List.getElem?_toArray, List.getElem?_cons_succ, List.getElem?_cons_zero]; rfl) (fun K16 hK16 => ?_) AllReadyH.nil
  rw [HO.out]
  go_simp
  refine hK16.out _ _ hS (fun _ => ?_)
  try simp only [Act.put, List.setIfInBounds_toArray, List.set_cons_zero, List.set_cons_succ]
  refine wpAnyH_ready (rs := [17]) (by rw [HO.out]; kernel_rfl) (by simp) ?_
  refine AllReadyH.cons (o := _) (by rw [HO.out]; simp only [List.getElem?_toArray, List.getElem?_cons_succ, List.getElem?_cons_zero]; rfl) (fun K17 hK17 => ?_) AllReadyH.nil
  rw [HO.out]
  go_simp
  refine hK17.out _ _ hS (fun _ => ?_)
  try simp only [Act.put, List.setIfInBounds_toArray, List.set_cons_zero, List.set_cons_succ]
  refine wpAnyH_done (by rw [HO.out]; kernel_rfl) ?_ _
  rw [HQ.out]
  refine NoPanic.normal ?_
  have X4 := X3.out _ hS
  have B4 : Hid (Below w.heap.size w W2.drew) := B2.out.drew
  have RX4 : Hid (Rt W2.drew x ta tc ma mc ∧ IVh (w.heap.size + 1) W2.drew ta x.T ∧ IVh (w.heap.size + 1) W2.drew ma x.M) := ⟨⟨(RX2.out.2.1.below hS).iv, (RX2.out.2.2.below hS).iv, RX2.out.1.tn, RX2.out.1.mn, RX2.out.1.tl, RX2.out.1.ml, RX2.out.1.th, RX2.out.1.mh⟩, RX2.out.2.1.below hS, RX2.out.2.2.below hS⟩
  have RY4 : Hid (Rt W2.drew y ua uc va vc ∧ IVh (w.heap.size + 1) W2.drew ua y.T ∧ IVh (w.heap.size + 1) W2.drew va y.M) := ⟨⟨(RY2.out.2.1.below hS).iv, (RY2.out.2.2.below hS).iv, RY2.out.1.tn, RY2.out.1.mn, RY2.out.1.tl, RY2.out.1.ml, RY2.out.1.th, RY2.out.1.mh⟩, RY2.out.2.1.below hS, RY2.out.2.2.below hS⟩
  clear hS X2 X3 B2 RX2 RY2 HO HQ
  generalize W2.drew = W4 at X4 B4 RX4 RY4 ⊢
  obtain ⟨o4, x4, y4⟩ := X4
  obtain ⟨i0, i1, i2, i3, i4, i5, g0, g1, g2, g3, g4, g5⟩ := RX.of' o4
  obtain ⟨j0, j1, j2, j3, j4, j5, _, _, _, _, _, _⟩ := RX.of' x4
  obtain ⟨k0, k1, k2, k3, k4, k5, _, _, _, _, _, _⟩ := RX.of' y4
  clear o4 x4 y4
  go_wp2_with fail
  exact bodyPost_ret (v := .tuple #[.agg #[.int .i64 0, .int .i64 0, .int .i64 0, .int .i64 0, .slice none 0 0, .slice none 0 0], .int .i64 0, .int .i64 4]) (by simp [results, Try.results17, go_sem, *]) rfl ⟨none, 0, none, 0, rfl, rt_zero _, set6_below B4.out _ _ _ _ _ _, .inl rfl, .inl rfl⟩
set_option maxHeartbeats 1000000 in
theorem rch_FT (a b : Option Addr) (ca cb n m : Nat) (x y : RD) (e f : Int) (w : World) (hx : (x.E.tmod 2 == 0) = false) (hy : (y.E.tmod 2 == 1) = true)
    (HGA : Hid (∀ W, Below w.heap.size w W → Calls Try.prog 15 #[.slice a n ca] W fun r w' => GetPost W (x, 0) r w'))
    (HGB : Hid (∀ W, Below w.heap.size w W → Calls Try.prog 15 #[.slice b m cb] W fun r w' => GetPost W (y, 0) r w')) :
    Calls Try.prog 17 #[.slice a n ca, .slice b m cb] w fun r w' => ChoosePost w ⟨y, 1, 0⟩ r w' := by
  obtain ⟨W0, hW0⟩ : ∃ W, W = w.alloc (.cells #[.int .i64 0, .int .i64 0, .int .i64 0, .int .i64 0, .slice none 0 0, .slice none 0 0] 24) := ⟨_, rfl⟩
  have hB0 : Below w.heap.size w W0 := by rw [hW0]; exact (Below.refl _ _).alloc (Nat.le_refl _) _
  have X0 : Hid (W0.heap[w.heap.size]? = some (.cells #[.int .i64 0, .int .i64 0, .int .i64 0, .int .i64 0, .slice none 0 0, .slice none 0 0] 24 (0, 0))) := by rw [hW0]; exact heap_alloc_last _ _
  go_enter Try.func17, Try.ntmps17
  go_wp2_with fail
  rw [← hW0]
  clear hW0
  refine (HGA.out _ hB0).mono ?_
  rintro r1 w1 ⟨ta, tc, ma, mc, rfl, H1⟩
  unfold rootV
  obtain ⟨px, hpx⟩ : ∃ p, p = w1.heap.size := ⟨_, rfl⟩
  obtain ⟨W1, hW1⟩ : ∃ W, W = w1.alloc (.cells #[.int .i64 x.E, .int .i64 x.B, .int .i64 x.N, .int .i64 x.S, .slice ta x.T.length tc, .slice ma x.M.length mc] 24) := ⟨_, rfl⟩
  have b01 : Below W0.heap.size W0 w1 := H1.out.2.1
  have b1 : Below w1.heap.size w1 W1 := by rw [hW1]; exact (Below.refl _ _).alloc (Nat.le_refl _) _
  have s0 : w.heap.size < W0.heap.size := (Array.getElem?_eq_some_iff.1 X0.out).1
  have X1 : Hid (W1.heap[w.heap.size]? = some (.cells #[.int .i64 0, .int .i64 0, .int .i64 0, .int .i64 0, .slice none 0 0, .slice none 0 0] 24 (0, 0)) ∧ W1.heap[px]? = some (.cells #[.int .i64 x.E, .int .i64 x.B, .int .i64 x.N, .int .i64 x.S, .slice ta x.T.length tc, .slice ma x.M.length mc] 24 (0, 0)) ∧ w.heap.size < px ∧ px < W1.heap.size) := by
    refine ⟨(b1.block _ (Nat.lt_of_lt_of_le s0 b01.size)).trans ((b01.block _ s0).trans X0.out), by rw [hpx, hW1]; exact heap_alloc_last _ _, by rw [hpx]; exact Nat.lt_of_lt_of_le s0 b01.size, by rw [hpx, hW1]; simp⟩
  have B1 : Hid (Below w.heap.size w W1) := (hB0.trans (b01.mono (Nat.le_of_lt s0))).trans (b1.mono (Nat.le_trans (Nat.le_of_lt s0) b01.size))
  have R1 : Hid (Rt W1 x ta tc ma mc ∧ IVh (w.heap.size + 1) W1 ta x.T ∧ IVh (w.heap.size + 1) W1 ma x.M) :=
    ⟨⟨(H1.out.2.2.1.below b1).iv, (H1.out.2.2.2.below b1).iv, H1.out.1.tn, H1.out.1.mn, H1.out.1.tl, H1.out.1.ml, H1.out.1.th, H1.out.1.mh⟩, (H1.out.2.2.1.below b1).mono s0, (H1.out.2.2.2.below b1).mono s0⟩
  go_wp2_with fail
  rw [← hW1, ← hpx]
  clear hW1 hpx X0 hB0 H1 b01 b1 s0 HGA
  refine (HGB.out _ B1.out).mono ?_
  rintro r2 w2 ⟨ua, uc, va, vc, rfl, H2⟩
  unfold rootV
  obtain ⟨py, hpy⟩ : ∃ p, p = w2.heap.size := ⟨_, rfl⟩
  obtain ⟨W2, hW2⟩ : ∃ W, W = w2.alloc (.cells #[.int .i64 y.E, .int .i64 y.B, .int .i64 y.N, .int .i64 y.S, .slice ua y.T.length uc, .slice va y.M.length vc] 24) := ⟨_, rfl⟩
  have b12 : Below W1.heap.size W1 w2 := H2.out.2.1
  have b2 : Below w2.heap.size w2 W2 := by rw [hW2]; exact (Below.refl _ _).alloc (Nat.le_refl _) _
  have b22 : Below W1.heap.size W1 W2 := b12.trans (b2.mono b12.size)
  have s1 : w.heap.size < W1.heap.size := Nat.lt_trans X1.out.2.2.1 X1.out.2.2.2
  have X2 : Hid (W2.heap[w.heap.size]? = some (.cells #[.int .i64 0, .int .i64 0, .int .i64 0, .int .i64 0, .slice none 0 0, .slice none 0 0] 24 (0, 0)) ∧ W2.heap[px]? = some (.cells #[.int .i64 x.E, .int .i64 x.B, .int .i64 x.N, .int .i64 x.S, .slice ta x.T.length tc, .slice ma x.M.length mc] 24 (0, 0)) ∧ W2.heap[py]? = some (.cells #[.int .i64 y.E, .int .i64 y.B, .int .i64 y.N, .int .i64 y.S, .slice ua y.T.length uc, .slice va y.M.length vc] 24 (0, 0))) :=
    ⟨(b22.block _ s1).trans X1.out.1, (b22.block _ X1.out.2.2.2).trans X1.out.2.1, by rw [hpy, hW2]; exact heap_alloc_last _ _⟩
  have B2 : Hid (Below w.heap.size w W2) := B1.out.trans (b22.mono (Nat.le_of_lt s1))
  have RX2 : Hid (Rt W2 x ta tc ma mc ∧ IVh (w.heap.size + 1) W2 ta x.T ∧ IVh (w.heap.size + 1) W2 ma x.M) :=
    ⟨⟨(R1.out.2.1.below b22).iv, (R1.out.2.2.below b22).iv, R1.out.1.tn, R1.out.1.mn, R1.out.1.tl, R1.out.1.ml, R1.out.1.th, R1.out.1.mh⟩, R1.out.2.1.below b22, R1.out.2.2.below b22⟩
  have RY2 : Hid (Rt W2 y ua uc va vc ∧ IVh (w.heap.size + 1) W2 ua y.T ∧ IVh (w.heap.size + 1) W2 va y.M) :=
    ⟨⟨(H2.out.2.2.1.below b2).iv, (H2.out.2.2.2.below b2).iv, H2.out.1.tn, H2.out.1.mn, H2.out.1.tl, H2.out.1.ml, H2.out.1.th, H2.out.1.mh⟩, (H2.out.2.2.1.below b2).mono s1, (H2.out.2.2.2.below b2).mono s1⟩
  have X3 : Hid (∀ W', Below W2.heap.size W2 W' → W'.heap[w.heap.size]? = some (.cells #[.int .i64 0, .int .i64 0, .int .i64 0, .int .i64 0, .slice none 0 0, .slice none 0 0] 24 (0, 0)) ∧ W'.heap[px]? = some (.cells #[.int .i64 x.E, .int .i64 x.B, .int .i64 x.N, .int .i64 x.S, .slice ta x.T.length tc, .slice ma x.M.length mc] 24 (0, 0)) ∧ W'.heap[py]? = some (.cells #[.int .i64 y.E, .int .i64 y.B, .int .i64 y.N, .int .i64 y.S, .slice ua y.T.length uc, .slice va y.M.length vc] 24 (0, 0))) := fun W' hW =>
    ⟨(hW.block _ (Array.getElem?_eq_some_iff.1 X2.out.1).1).trans X2.out.1, (hW.block _ (Array.getElem?_eq_some_iff.1 X2.out.2.1).1).trans X2.out.2.1, (hW.block _ (Array.getElem?_eq_some_iff.1 X2.out.2.2).1).trans X2.out.2.2⟩
  go_wp2_with fail
  rw [← hW2, ← hpy]
  clear hW2 hpy H2 b12 b2 b22 s1 HGB R1 B1 X1
  refine wp_region_noPanic ?_
  refine name_ops ?_
  intro O QQ HO HQ
  refine wp_region_held_drew (S := fun W' => Below W2.heap.size W2 W') (by kernel_rfl) (Below.refl _ _).drew (fun hS => ?_)
  rw [show O.size = 18 by rw [HO.out]; rfl]
  refine wpAnyH_take (i := 0) (v := .int .i64 0) (by rw [HO.out]; simp only [List.getElem?_toArray, List.getElem?_cons_succ, List.getElem?_cons_zero]; rfl) (by rw [HO.out]; kernel_rfl) (by rw [HO.out]; kernel_rfl) (by rw [HO.out]; kernel_rfl) (by rw [HQ.out]; exact fun _ _ _ h => h) (Or.inl ⟨by rw [HO.out]; kernel_rfl, ?_⟩) hS ?_
  · intro w' hSw
    go_simp
  try simp only [Act.put, List.setIfInBounds_toArray, List.set_cons_zero, List.set_cons_succ]
  refine wpAnyH_take (i := 1) (v := .bool true) (by rw [HO.out]; simp only [List.getElem?_toArray, List.getElem?_cons_succ, List.getElem?_cons_zero]; rfl) (by rw [HO.out]; kernel_rfl) (by rw [HO.out]; kernel_rfl) (by rw [HO.out]; kernel_rfl) (by rw [HQ.out]; exact fun _ _ _ h => h) (Or.inl ⟨by rw [HO.out]; kernel_rfl, ?_⟩) hS ?_
  · intro w' hSw
    go_simp
  try simp only [Act.put, List.setIfInBounds_toArray, List.set_cons_zero, List.set_cons_succ]
  refine wpAnyH_take (i := 2) (v := .bool true) (by rw [HO.out]; simp only [List.getElem?_toArray, List.getElem?_cons_succ, List.getElem?_cons_zero]; rfl) (by rw [HO.out]; kernel_rfl) (by rw [HO.out]; kernel_rfl) (by rw [HO.out]; kernel_rfl) (by rw [HQ.out]; exact fun _ _ _ h => h) (Or.inl ⟨by rw [HO.out]; kernel_rfl, ?_⟩) hS ?_
  · intro w' hSw
    go_simp
  try simp only [Act.put, List.setIfInBounds_toArray, List.set_cons_zero, List.set_cons_succ]
  refine wpAnyH_take (i := 3) (v := .pointer (some ⟨px, 0, none⟩)) (by rw [HO.out]; simp only [List.getElem?_toArray, List.getElem?_cons_succ, List.getElem?_cons_zero]; rfl) (by rw [HO.out]; kernel_rfl) (by rw [HO.out]; kernel_rfl) (by rw [HO.out]; kernel_rfl) (by rw [HQ.out]; exact fun _ _ _ h => h) (Or.inl ⟨by rw [HO.out]; kernel_rfl, ?_⟩) hS ?_
  · intro w' hSw
    go_simp
  try simp only [Act.put, List.setIfInBounds_toArray, List.set_cons_zero, List.set_cons_succ]
  refine wpAnyH_take (i := 4) (v := .int .i64 x.E) (by rw [HO.out]; simp only [List.getElem?_toArray, List.getElem?_cons_succ, List.getElem?_cons_zero]; rfl) (by rw [HO.out]; kernel_rfl) (by rw [HO.out]; kernel_rfl) (by rw [HO.out]; kernel_rfl) (by rw [HQ.out]; exact fun _ _ _ h => h) (Or.inl ⟨by rw [HO.out]; kernel_rfl, ?_⟩) hS ?_
  · intro w' hSw
    have j0 := (RX.of' (X3.out w' hSw).2.1).c0
    go_simp
  try simp only [Act.put, List.setIfInBounds_toArray, List.set_cons_zero, List.set_cons_succ]
  refine wpAnyH_take (i := 5) (v := .int .i64 (x.E.tmod 2)) (by rw [HO.out]; simp only [List.getElem?_toArray, List.getElem?_cons_succ, List.getElem?_cons_zero]; rfl) (by rw [HO.out]; kernel_rfl) (by rw [HO.out]; kernel_rfl) (by rw [HO.out]; kernel_rfl) (by rw [HQ.out]; exact fun _ _ _ h => h) (Or.inl ⟨by rw [HO.out]; kernel_rfl, ?_⟩) hS ?_
  · intro w' hSw
    go_simp
  try simp only [Act.put, List.setIfInBounds_toArray, List.set_cons_zero, List.set_cons_succ]
  refine wpAnyH_take (i := 6) (v := .bool false) (by rw [HO.out]; simp only [List.getElem?_toArray, List.getElem?_cons_succ, List.getElem?_cons_zero]; rfl) (by rw [HO.out]; kernel_rfl) (by rw [HO.out]; kernel_rfl) (by rw [HO.out]; kernel_rfl) (by rw [HQ.out]; exact fun _ _ _ h => h) (Or.inl ⟨by rw [HO.out]; kernel_rfl, ?_⟩) hS ?_
  · intro w' hSw
    go_simp
  try simp only [Act.put, List.setIfInBounds_toArray, List.set_cons_zero, List.set_cons_succ]
  refine wpAnyH_take (i := 7) (v := .bool false) (by rw [HO.out]; simp only [List.getElem?_toArray, List.getElem?_cons_succ, List.getElem?_cons_zero]; rfl) (by rw [HO.out]; kernel_rfl) (by rw [HO.out]; kernel_rfl) (by rw [HO.out]; kernel_rfl) (by rw [HQ.out]; exact fun _ _ _ h => h) (Or.inl ⟨by rw [HO.out]; kernel_rfl, ?_⟩) hS ?_
  · intro w' hSw
    go_simp
  try simp only [Act.put, List.setIfInBounds_toArray, List.set_cons_zero, List.set_cons_succ]
  refine wpAnyH_take (i := 8) (v := .int .i64 0) (by rw [HO.out]; simp only [List.getElem?_toArray, List.getElem?_cons_succ, List.getElem?_cons_zero]; rfl) (by rw [HO.out]; kernel_rfl) (by rw [HO.out]; kernel_rfl) (by rw [HO.out]; kernel_rfl) (by rw [HQ.out]; exact fun _ _ _ h => h) (Or.inl ⟨by rw [HO.out]; kernel_rfl, ?_⟩) hS ?_
  · intro w' hSw
    go_simp
  try simp only [Act.put, List.setIfInBounds_toArray, List.set_cons_zero, List.set_cons_succ]
  refine wpAnyH_take (i := 9) (v := .bool true) (by rw [HO.out]; simp only [List.getElem?_toArray, List.getElem?_cons_succ, List.getElem?_cons_zero]; rfl) (by rw [HO.out]; kernel_rfl) (by rw [HO.out]; kernel_rfl) (by rw [HO.out]; kernel_rfl) (by rw [HQ.out]; exact fun _ _ _ h => h) (Or.inl ⟨by rw [HO.out]; kernel_rfl, ?_⟩) hS ?_
  · intro w' hSw
    go_simp
  try simp only [Act.put, List.setIfInBounds_toArray, List.set_cons_zero, List.set_cons_succ]
  refine wpAnyH_take (i := 10) (v := .bool true) (by rw [HO.out]; simp only [List.getElem?_toArray, List.getElem?_cons_succ, List.getElem?_cons_zero]; rfl) (by rw [HO.out]; kernel_rfl) (by rw [HO.out]; kernel_rfl) (by rw [HO.out]; kernel_rfl) (by rw [HQ.out]; exact fun _ _ _ h => h) (Or.inl ⟨by rw [HO.out]; kernel_rfl, ?_⟩) hS ?_
  · intro w' hSw
    go_simp
  try simp only [Act.put, List.setIfInBounds_toArray, List.set_cons_zero, List.set_cons_succ]
  refine wpAnyH_take (i := 11) (v := .pointer (some ⟨py, 0, none⟩)) (by rw [HO.out]; simp only [List.getElem?_toArray, List.getElem?_cons_succ, List.getElem?_cons_zero]; rfl) (by rw [HO.out]; kernel_rfl) (by rw [HO.out]; kernel_rfl) (by rw [HO.out]; kernel_rfl) (by rw [HQ.out]; exact fun _ _ _ h => h) (Or.inl ⟨by rw [HO.out]; kernel_rfl, ?_⟩) hS ?_
  · intro w' hSw
    go_simp
  try simp only [Act.put, List.setIfInBounds_toArray, List.set_cons_zero, List.set_cons_succ]
  refine wpAnyH_take (i := 12) (v := .int .i64 y.E) (by rw [HO.out]; simp only [List.getElem?_toArray, List.getElem?_cons_succ, List.getElem?_cons_zero]; rfl) (by rw [HO.out]; kernel_rfl) (by rw [HO.out]; kernel_rfl) (by rw [HO.out]; kernel_rfl) (by rw [HQ.out]; exact fun _ _ _ h => h) (Or.inl ⟨by rw [HO.out]; kernel_rfl, ?_⟩) hS ?_
  · intro w' hSw
    have j0 := (RX.of' (X3.out w' hSw).2.2).c0
    go_simp
  try simp only [Act.put, List.setIfInBounds_toArray, List.set_cons_zero, List.set_cons_succ]
  refine wpAnyH_take (i := 13) (v := .int .i64 (y.E.tmod 2)) (by rw [HO.out]; simp only [List.getElem?_toArray, List.getElem?_cons_succ, List.getElem?_cons_zero]; rfl) (by rw [HO.out]; kernel_rfl) (by rw [HO.out]; kernel_rfl) (by rw [HO.out]; kernel_rfl) (by rw [HQ.out]; exact fun _ _ _ h => h) (Or.inl ⟨by rw [HO.out]; kernel_rfl, ?_⟩) hS ?_
  · intro w' hSw
    go_simp
  try simp only [Act.put, List.setIfInBounds_toArray, List.set_cons_zero, List.set_cons_succ]
  refine wpAnyH_take (i := 14) (v := .bool true) (by rw [HO.out]; simp only [List.getElem?_toArray, List.getElem?_cons_succ, List.getElem?_cons_zero]; rfl) (by rw [HO.out]; kernel_rfl) (by rw [HO.out]; kernel_rfl) (by rw [HO.out]; kernel_rfl) (by rw [HQ.out]; exact fun _ _ _ h => h) (Or.inl ⟨by rw [HO.out]; kernel_rfl, ?_⟩) hS ?_
  · intro w' hSw
    go_simp
  try simp only [Act.put, List.setIfInBounds_toArray, List.set_cons_zero, List.set_cons_succ]
  refine wpAnyH_take (i := 15) (v := .bool true) (by rw [HO.out]; simp only [List.getElem?_toArray, List.getElem?_cons_succ, List.getElem?_cons_zero]; rfl) (by rw [HO.out]; kernel_rfl) (by rw [HO.out]; kernel_rfl) (by rw [HO.out]; kernel_rfl) (by rw [HQ.out]; exact fun _ _ _ h => h) (Or.inl ⟨by rw [HO.out]; kernel_rfl, ?_⟩) hS ?_
  · intro w' hSw
    go_simp
  try simp only [Act.put, List.setIfInBounds_toArray, List.set_cons_zero, List.set_cons_succ]
  refine wpAnyH_ready (rs := [16]) (by rw [HO.out]; kernel_rfl) (by simp) ?_
  refine AllReadyH.cons (o := _) (by rw [HO.out]; simp only [List.getElem?_toArray, List.getElem?_cons_succ, List.getElem?_cons_zero]; rfl) (fun K16 hK16 => ?_) AllReadyH.nil
  rw [HO.out]
  go_simp
  refine hK16.out _ _ hS (fun _ => ?_)
  try simp only [Act.put, List.setIfInBounds_toArray, List.set_cons_zero, List.set_cons_succ]
  refine wpAnyH_ready (rs := [17]) (by rw [HO.out]; kernel_rfl) (by simp) ?_
  refine AllReadyH.cons (o := _) (by rw [HO.out]; simp only [List.getElem?_toArray, List.getElem?_cons_succ, List.getElem?_cons_zero]; rfl) (fun K17 hK17 => ?_) AllReadyH.nil
  rw [HO.out]
  go_simp
  refine hK17.out _ _ hS (fun _ => ?_)
  try simp only [Act.put, List.setIfInBounds_toArray, List.set_cons_zero, List.set_cons_succ]
  refine wpAnyH_done (by rw [HO.out]; kernel_rfl) ?_ _
  rw [HQ.out]
  refine NoPanic.normal ?_
  have X4 := X3.out _ hS
  have B4 : Hid (Below w.heap.size w W2.drew) := B2.out.drew
  have RX4 : Hid (Rt W2.drew x ta tc ma mc ∧ IVh (w.heap.size + 1) W2.drew ta x.T ∧ IVh (w.heap.size + 1) W2.drew ma x.M) := ⟨⟨(RX2.out.2.1.below hS).iv, (RX2.out.2.2.below hS).iv, RX2.out.1.tn, RX2.out.1.mn, RX2.out.1.tl, RX2.out.1.ml, RX2.out.1.th, RX2.out.1.mh⟩, RX2.out.2.1.below hS, RX2.out.2.2.below hS⟩
  have RY4 : Hid (Rt W2.drew y ua uc va vc ∧ IVh (w.heap.size + 1) W2.drew ua y.T ∧ IVh (w.heap.size + 1) W2.drew va y.M) := ⟨⟨(RY2.out.2.1.below hS).iv, (RY2.out.2.2.below hS).iv, RY2.out.1.tn, RY2.out.1.mn, RY2.out.1.tl, RY2.out.1.ml, RY2.out.1.th, RY2.out.1.mh⟩, RY2.out.2.1.below hS, RY2.out.2.2.below hS⟩
  clear hS X2 X3 B2 RX2 RY2 HO HQ
  generalize W2.drew = W4 at X4 B4 RX4 RY4 ⊢
  obtain ⟨o4, x4, y4⟩ := X4
  obtain ⟨i0, i1, i2, i3, i4, i5, g0, g1, g2, g3, g4, g5⟩ := RX.of' o4
  obtain ⟨j0, j1, j2, j3, j4, j5, _, _, _, _, _, _⟩ := RX.of' x4
  obtain ⟨k0, k1, k2, k3, k4, k5, _, _, _, _, _, _⟩ := RX.of' y4
  clear o4 x4 y4
  go_wp2_with fail
  exact bodyPost_ret (v := .tuple #[.agg #[.int .i64 y.E, .int .i64 y.B, .int .i64 y.N, .int .i64 y.S, .slice ua y.T.length uc, .slice va y.M.length vc], .int .i64 1, .int .i64 0]) (by simp [results, Try.results17, go_sem, *]) rfl ⟨ua, uc, va, vc, rfl, rt_set6 RY4.out.1 RY4.out.2.1 RY4.out.2.2 _ _ _ _ _ _, set6_below B4.out _ _ _ _ _ _, (RY4.out.2.1.set6 _ _ _ _ _ _).mono (Nat.le_succ _), (RY4.out.2.2.set6 _ _ _ _ _ _).mono (Nat.le_succ _)⟩
set_option maxHeartbeats 1000000 in
theorem rch_FF (a b : Option Addr) (ca cb n m : Nat) (x y : RD) (e f : Int) (w : World) (hx : (x.E.tmod 2 == 0) = false) (hy : (y.E.tmod 2 == 1) = false)
    (HGA : Hid (∀ W, Below w.heap.size w W → Calls Try.prog 15 #[.slice a n ca] W fun r w' => GetPost W (x, 0) r w'))
    (HGB : Hid (∀ W, Below w.heap.size w W → Calls Try.prog 15 #[.slice b m cb] W fun r w' => GetPost W (y, 0) r w')) :
    Calls Try.prog 17 #[.slice a n ca, .slice b m cb] w fun r w' => ChoosePost w ⟨zero, 0, 4⟩ r w' := by
  obtain ⟨W0, hW0⟩ : ∃ W, W = w.alloc (.cells #[.int .i64 0, .int .i64 0, .int .i64 0, .int .i64 0, .slice none 0 0, .slice none 0 0] 24) := ⟨_, rfl⟩
  have hB0 : Below w.heap.size w W0 := by rw [hW0]; exact (Below.refl _ _).alloc (Nat.le_refl _) _
  have X0 : Hid (W0.heap[w.heap.size]? = some (.cells #[.int .i64 0, .int .i64 0, .int .i64 0, .int .i64 0, .slice none 0 0, .slice none 0 0] 24 (0, 0))) := by rw [hW0]; exact heap_alloc_last _ _
  go_enter Try.func17, Try.ntmps17
  go_wp2_with fail
  rw [← hW0]
  clear hW0
  refine (HGA.out _ hB0).mono ?_
  rintro r1 w1 ⟨ta, tc, ma, mc, rfl, H1⟩
  unfold rootV
  obtain ⟨px, hpx⟩ : ∃ p, p = w1.heap.size := ⟨_, rfl⟩
  obtain ⟨W1, hW1⟩ : ∃ W, W = w1.alloc (.cells #[.int .i64 x.E, .int .i64 x.B, .int .i64 x.N, .int .i64 x.S, .slice ta x.T.length tc, .slice ma x.M.length mc] 24) := ⟨_, rfl⟩
  have b01 : Below W0.heap.size W0 w1 := H1.out.2.1
  have b1 : Below w1.heap.size w1 W1 := by rw [hW1]; exact (Below.refl _ _).alloc (Nat.le_refl _) _
  have s0 : w.heap.size < W0.heap.size := (Array.getElem?_eq_some_iff.1 X0.out).1
  have X1 : Hid (W1.heap[w.heap.size]? = some (.cells #[.int .i64 0, .int .i64 0, .int .i64 0, .int .i64 0, .slice none 0 0, .slice none 0 0] 24 (0, 0)) ∧ W1.heap[px]? = some (.cells #[.int .i64 x.E, .int .i64 x.B, .int .i64 x.N, .int .i64 x.S, .slice ta x.T.length tc, .slice ma x.M.length mc] 24 (0, 0)) ∧ w.heap.size < px ∧ px < W1.heap.size) := by
    refine ⟨(b1.block _ (Nat.lt_of_lt_of_le s0 b01.size)).trans ((b01.block _ s0).trans X0.out), by rw [hpx, hW1]; exact heap_alloc_last _ _, by rw [hpx]; exact Nat.lt_of_lt_of_le s0 b01.size, by rw [hpx, hW1]; simp⟩
  have B1 : Hid (Below w.heap.size w W1) := (hB0.trans (b01.mono (Nat.le_of_lt s0))).trans (b1.mono (Nat.le_trans (Nat.le_of_lt s0) b01.size))
  have R1 : Hid (Rt W1 x ta tc ma mc ∧ IVh (w.heap.size + 1) W1 ta x.T ∧ IVh (w.heap.size + 1) W1 ma x.M) :=
    ⟨⟨(H1.out.2.2.1.below b1).iv, (H1.out.2.2.2.below b1).iv, H1.out.1.tn, H1.out.1.mn, H1.out.1.tl, H1.out.1.ml, H1.out.1.th, H1.out.1.mh⟩, (H1.out.2.2.1.below b1).mono s0, (H1.out.2.2.2.below b1).mono s0⟩
  go_wp2_with fail
  rw [← hW1, ← hpx]
  clear hW1 hpx X0 hB0 H1 b01 b1 s0 HGA
  refine (HGB.out _ B1.out).mono ?_
  rintro r2 w2 ⟨ua, uc, va, vc, rfl, H2⟩
  unfold rootV
  obtain ⟨py, hpy⟩ : ∃ p, p = w2.heap.size := ⟨_, rfl⟩
  obtain ⟨W2, hW2⟩ : ∃ W, W = w2.alloc (.cells #[.int .i64 y.E, .int .i64 y.B, .int .i64 y.N, .int .i64 y.S, .slice ua y.T.length uc, .slice va y.M.length vc] 24) := ⟨_, rfl⟩
  have b12 : Below W1.heap.size W1 w2 := H2.out.2.1
  have b2 : Below w2.heap.size w2 W2 := by rw [hW2]; exact (Below.refl _ _).alloc (Nat.le_refl _) _
  have b22 : Below W1.heap.size W1 W2 := b12.trans (b2.mono b12.size)
  have s1 : w.heap.size < W1.heap.size := Nat.lt_trans X1.out.2.2.1 X1.out.2.2.2
  have X2 : Hid (W2.heap[w.heap.size]? = some (.cells #[.int .i64 0, .int .i64 0, .int .i64 0, .int .i64 0, .slice none 0 0, .slice none 0 0] 24 (0, 0)) ∧ W2.heap[px]? = some (.cells #[.int .i64 x.E, .int .i64 x.B, .int .i64 x.N, .int .i64 x.S, .slice ta x.T.length tc, .slice ma x.M.length mc] 24 (0, 0)) ∧ W2.heap[py]? = some (.cells #[.int .i64 y.E, .int .i64 y.B, .int .i64 y.N, .int .i64 y.S, .slice ua y.T.length uc, .slice va y.M.length vc] 24 (0, 0))) :=
    ⟨(b22.block _ s1).trans X1.out.1, (b22.block _ X1.out.2.2.2).trans X1.out.2.1, by rw [hpy, hW2]; exact heap_alloc_last _ _⟩
  have B2 : Hid (Below w.heap.size w W2) := B1.out.trans (b22.mono (Nat.le_of_lt s1))
  have RX2 : Hid (Rt W2 x ta tc ma mc ∧ IVh (w.heap.size + 1) W2 ta x.T ∧ IVh (w.heap.size + 1) W2 ma x.M) :=
    ⟨⟨(R1.out.2.1.below b22).iv, (R1.out.2.2.below b22).iv, R1.out.1.tn, R1.out.1.mn, R1.out.1.tl, R1.out.1.ml, R1.out.1.th, R1.out.1.mh⟩, R1.out.2.1.below b22, R1.out.2.2.below b22⟩
  have RY2 : Hid (Rt W2 y ua uc va vc ∧ IVh (w.heap.size + 1) W2 ua y.T ∧ IVh (w.heap.size + 1) W2 va y.M) :=
    ⟨⟨(H2.out.2.2.1.below b2).iv, (H2.out.2.2.2.below b2).iv, H2.out.1.tn, H2.out.1.mn, H2.out.1.tl, H2.out.1.ml, H2.out.1.th, H2.out.1.mh⟩, (H2.out.2.2.1.below b2).mono s1, (H2.out.2.2.2.below b2).mono s1⟩
  have X3 : Hid (∀ W', Below W2.heap.size W2 W' → W'.heap[w.heap.size]? = some (.cells #[.int .i64 0, .int .i64 0, .int .i64 0, .int .i64 0, .slice none 0 0, .slice none 0 0] 24 (0, 0)) ∧ W'.heap[px]? = some (.cells #[.int .i64 x.E, .int .i64 x.B, .int .i64 x.N, .int .i64 x.S, .slice ta x.T.length tc, .slice ma x.M.length mc] 24 (0, 0)) ∧ W'.heap[py]? = some (.cells #[.int .i64 y.E, .int .i64 y.B, .int .i64 y.N, .int .i64 y.S, .slice ua y.T.length uc, .slice va y.M.length vc] 24 (0, 0))) := fun W' hW =>
    ⟨(hW.block _ (Array.getElem?_eq_some_iff.1 X2.out.1).1).trans X2.out.1, (hW.block _ (Array.getElem?_eq_some_iff.1 X2.out.2.1).1).trans X2.out.2.1, (hW.block _ (Array.getElem?_eq_some_iff.1 X2.out.2.2).1).trans X2.out.2.2⟩
  go_wp2_with fail
  rw [← hW2, ← hpy]
  clear hW2 hpy H2 b12 b2 b22 s1 HGB R1 B1 X1
  refine wp_region_noPanic ?_
  refine name_ops ?_
  intro O QQ HO HQ
  refine wp_region_held_drew (S := fun W' => Below W2.heap.size W2 W') (by kernel_rfl) (Below.refl _ _).drew (fun hS => ?_)
  rw [show O.size = 18 by rw [HO.out]; rfl]
  refine wpAnyH_take (i := 0) (v := .int .i64 0) (by rw [HO.out]; simp only [List.getElem?_toArray, List.getElem?_cons_succ, List.getElem?_cons_zero]; rfl) (by rw [HO.out]; kernel_rfl) (by rw [HO.out]; kernel_rfl) (by rw [HO.out]; kernel_rfl) (by rw [HQ.out]; exact fun _ _ _ h => h) (Or.inl ⟨by rw [HO.out]; kernel_rfl, ?_⟩) hS ?_
  · intro w' hSw
    go_simp
  try simp only [Act.put, List.setIfInBounds_toArray, List.set_cons_zero, List.set_cons_succ]
  refine wpAnyH_take (i := 1) (v := .bool true) (by rw [HO.out]; simp only [List.getElem?_toArray, List.getElem?_cons_succ, List.getElem?_cons_zero]; rfl) (by rw [HO.out]; kernel_rfl) (by rw [HO.out]; kernel_rfl) (by rw [HO.out]; kernel_rfl) (by rw [HQ.out]; exact fun _ _ _ h => h) (Or.inl ⟨by rw [HO.out]; kernel_rfl, ?_⟩) hS ?_
  · intro w' hSw
    go_simp
  try simp only [Act.put, List.setIfInBounds_toArray, List.set_cons_zero, List.set_cons_succ]
  refine wpAnyH_take (i := 2) (v := .bool true) (by rw [HO.out]; simp only [List.getElem?_toArray, List.getElem?_cons_succ, List.getElem?_cons_zero]; rfl) (by rw [HO.out]; kernel_rfl) (by rw [HO.out]; kernel_rfl) (by rw [HO.out]; kernel_rfl) (by rw [HQ.out]; exact fun _ _ _ h => h) (Or.inl ⟨by rw [HO.out]; kernel_rfl, ?_⟩) hS ?_
  · intro w' hSw
    go_simp
  try simp only [Act.put, List.setIfInBounds_toArray, List.set_cons_zero, List.set_cons_succ]
  refine wpAnyH_take (i := 3) (v := .pointer (some ⟨px, 0, none⟩)) (by rw [HO.out]; simp only [List.getElem?_toArray, List.getElem?_cons_succ, List.getElem?_cons_zero]; rfl) (by rw [HO.out]; kernel_rfl) (by rw [HO.out]; kernel_rfl) (by rw [HO.out]; kernel_rfl) (by rw [HQ.out]; exact fun _ _ _ h => h) (Or.inl ⟨by rw [HO.out]; kernel_rfl, ?_⟩) hS ?_
  · intro w' hSw
    go_simp
  try simp only [Act.put, List.setIfInBounds_toArray, List.set_cons_zero, List.set_cons_succ]
  refine wpAnyH_take (i := 4) (v := .int .i64 x.E) (by rw [HO.out]; simp only [List.getElem?_toArray, List.getElem?_cons_succ, List.getElem?_cons_zero]; rfl) (by rw [HO.out]; kernel_rfl) (by rw [HO.out]; kernel_rfl) (by rw [HO.out]; kernel_rfl) (by rw [HQ.out]; exact fun _ _ _ h => h) (Or.inl ⟨by rw [HO.out]; kernel_rfl, ?_⟩) hS ?_
  · intro w' hSw
    have j0 := (RX.of' (X3.out w' hSw).2.1).c0
    go_simp
  try simp only [Act.put, List.setIfInBounds_toArray, List.set_cons_zero, List.set_cons_succ]
  refine wpAnyH_take (i := 5) (v := .int .i64 (x.E.tmod 2)) (by rw [HO.out]; simp only [List.getElem?_toArray, List.getElem?_cons_succ, List.getElem?_cons_zero]; rfl) (by rw [HO.out]; kernel_rfl) (by rw [HO.out]; kernel_rfl) (by rw [HO.out]; kernel_rfl) (by rw [HQ.out]; exact fun _ _ _ h => h) (Or.inl ⟨by rw [HO.out]; kernel_rfl, ?_⟩) hS ?_
  · intro w' hSw
    go_simp
  try simp only [Act.put, List.setIfInBounds_toArray, List.set_cons_zero, List.set_cons_succ]
  refine wpAnyH_take (i := 6) (v := .bool false) (by rw [HO.out]; simp only [List.getElem?_toArray, List.getElem?_cons_succ, List.getElem?_cons_zero]; rfl) (by rw [HO.out]; kernel_rfl) (by rw [HO.out]; kernel_rfl) (by rw [HO.out]; kernel_rfl) (by rw [HQ.out]; exact fun _ _ _ h => h) (Or.inl ⟨by rw [HO.out]; kernel_rfl, ?_⟩) hS ?_
  · intro w' hSw
    go_simp
  try simp only [Act.put, List.setIfInBounds_toArray, List.set_cons_zero, List.set_cons_succ]
  refine wpAnyH_take (i := 7) (v := .bool false) (by rw [HO.out]; simp only [List.getElem?_toArray, List.getElem?_cons_succ, List.getElem?_cons_zero]; rfl) (by rw [HO.out]; kernel_rfl) (by rw [HO.out]; kernel_rfl) (by rw [HO.out]; kernel_rfl) (by rw [HQ.out]; exact fun _ _ _ h => h) (Or.inl ⟨by rw [HO.out]; kernel_rfl, ?_⟩) hS ?_
  · intro w' hSw
    go_simp
  try simp only [Act.put, List.setIfInBounds_toArray, List.set_cons_zero, List.set_cons_succ]
  refine wpAnyH_take (i := 8) (v := .int .i64 0) (by rw [HO.out]; simp only [List.getElem?_toArray, List.getElem?_cons_succ, List.getElem?_cons_zero]; rfl) (by rw [HO.out]; kernel_rfl) (by rw [HO.out]; kernel_rfl) (by rw [HO.out]; kernel_rfl) (by rw [HQ.out]; exact fun _ _ _ h => h) (Or.inl ⟨by rw [HO.out]; kernel_rfl, ?_⟩) hS ?_
  · intro w' hSw
    go_simp
  try simp only [Act.put, List.setIfInBounds_toArray, List.set_cons_zero, List.set_cons_succ]
  refine wpAnyH_take (i := 9) (v := .bool true) (by rw [HO.out]; simp only [List.getElem?_toArray, List.getElem?_cons_succ, List.getElem?_cons_zero]; rfl) (by rw [HO.out]; kernel_rfl) (by rw [HO.out]; kernel_rfl) (by rw [HO.out]; kernel_rfl) (by rw [HQ.out]; exact fun _ _ _ h => h) (Or.inl ⟨by rw [HO.out]; kernel_rfl, ?_⟩) hS ?_
  · intro w' hSw
    go_simp
  try simp only [Act.put, List.setIfInBounds_toArray, List.set_cons_zero, List.set_cons_succ]
  refine wpAnyH_take (i := 10) (v := .bool true) (by rw [HO.out]; simp only [List.getElem?_toArray, List.getElem?_cons_succ, List.getElem?_cons_zero]; rfl) (by rw [HO.out]; kernel_rfl) (by rw [HO.out]; kernel_rfl) (by rw [HO.out]; kernel_rfl) (by rw [HQ.out]; exact fun _ _ _ h => h) (Or.inl ⟨by rw [HO.out]; kernel_rfl, ?_⟩) hS ?_
  · intro w' hSw
    go_simp
  try simp only [Act.put, List.setIfInBounds_toArray, List.set_cons_zero, List.set_cons_succ]
  refine wpAnyH_take (i := 11) (v := .pointer (some ⟨py, 0, none⟩)) (by rw [HO.out]; simp only [List.getElem?_toArray, List.getElem?_cons_succ, List.getElem?_cons_zero]; rfl) (by rw [HO.out]; kernel_rfl) (by rw [HO.out]; kernel_rfl) (by rw [HO.out]; kernel_rfl) (by rw [HQ.out]; exact fun _ _ _ h => h) (Or.inl ⟨by rw [HO.out]; kernel_rfl, ?_⟩) hS ?_
  · intro w' hSw
    go_simp
  try simp only [Act.put, List.setIfInBounds_toArray, List.set_cons_zero, List.set_cons_succ]
  refine wpAnyH_take (i := 12) (v := .int .i64 y.E) (by rw [HO.out]; simp only [List.getElem?_toArray, List.getElem?_cons_succ, List.getElem?_cons_zero]; rfl) (by rw [HO.out]; kernel_rfl) (by rw [HO.out]; kernel_rfl) (by rw [HO.out]; kernel_rfl) (by rw [HQ.out]; exact fun _ _ _ h => h) (Or.inl ⟨by rw [HO.out]; kernel_rfl, ?_⟩) hS ?_
  · intro w' hSw
    have j0 := (RX.of' (X3.out w' hSw).2.2).c0
    go_simp
  try simp only [Act.put, List.setIfInBounds_toArray, List.set_cons_zero, List.set_cons_succ]
  refine wpAnyH_take (i := 13) (v := .int .i64 (y.E.tmod 2)) (by rw [HO.out]; simp only [List.getElem?_toArray, List.getElem?_cons_succ, List.getElem?_cons_zero]; rfl) (by rw [HO.out]; kernel_rfl) (by rw [HO.out]; kernel_rfl) (by rw [HO.out]; kernel_rfl) (by rw [HQ.out]; exact fun _ _ _ h => h) (Or.inl ⟨by rw [HO.out]; kernel_rfl, ?_⟩) hS ?_
  · intro w' hSw
    go_simp
  try simp only [Act.put, List.setIfInBounds_toArray, List.set_cons_zero, List.set_cons_succ]
  refine wpAnyH_take (i := 14) (v := .bool false) (by rw [HO.out]; simp only [List.getElem?_toArray, List.getElem?_cons_succ, List.getElem?_cons_zero]; rfl) (by rw [HO.out]; kernel_rfl) (by rw [HO.out]; kernel_rfl) (by rw [HO.out]; kernel_rfl) (by rw [HQ.out]; exact fun _ _ _ h => h) (Or.inl ⟨by rw [HO.out]; kernel_rfl, ?_⟩) hS ?_
  · intro w' hSw
    go_simp
  try simp only [Act.put, List.setIfInBounds_toArray, List.set_cons_zero, List.set_cons_succ]
  refine wpAnyH_take (i := 15) (v := .bool false) (by rw [HO.out]; simp only [List.getElem?_toArray, List.getElem?_cons_succ, List.getElem?_cons_zero]; rfl) (by rw [HO.out]; kernel_rfl) (by rw [HO.out]; kernel_rfl) (by rw [HO.out]; kernel_rfl) (by rw [HQ.out]; exact fun _ _ _ h => h) (Or.inl ⟨by rw [HO.out]; kernel_rfl, ?_⟩) hS ?_
  · intro w' hSw
    go_simp
  try simp only [Act.put, List.setIfInBounds_toArray, List.set_cons_zero, List.set_cons_succ]
  refine wpAnyH_ready (rs := [16]) (by rw [HO.out]; kernel_rfl) (by simp) ?_
  refine AllReadyH.cons (o := _) (by rw [HO.out]; simp only [List.getElem?_toArray, List.getElem?_cons_succ, List.getElem?_cons_zero]; rfl) (fun K16 hK16 => ?_) AllReadyH.nil
  rw [HO.out]
  go_simp
  refine hK16.out _ _ hS (fun _ => ?_)
  try simp only [Act.put, List.setIfInBounds_toArray, List.set_cons_zero, List.set_cons_succ]
  refine wpAnyH_ready (rs := [17]) (by rw [HO.out]; kernel_rfl) (by simp) ?_
  refine AllReadyH.cons (o := _) (by rw [HO.out]; simp only [List.getElem?_toArray, List.getElem?_cons_succ, List.getElem?_cons_zero]; rfl) (fun K17 hK17 => ?_) AllReadyH.nil
  rw [HO.out]
  go_simp
  refine hK17.out _ _ hS (fun _ => ?_)
  try simp only [Act.put, List.setIfInBounds_toArray, List.set_cons_zero, List.set_cons_succ]
  refine wpAnyH_done (by rw [HO.out]; kernel_rfl) ?_ _
  rw [HQ.out]
  refine NoPanic.normal ?_
  have X4 := X3.out _ hS
  have B4 : Hid (Below w.heap.size w W2.drew) := B2.out.drew
  have RX4 : Hid (Rt W2.drew x ta tc ma mc ∧ IVh (w.heap.size + 1) W2.drew ta x.T ∧ IVh (w.heap.size + 1) W2.drew ma x.M) := ⟨⟨(RX2.out.2.1.below hS).iv, (RX2.out.2.2.below hS).iv, RX2.out.1.tn, RX2.out.1.mn, RX2.out.1.tl, RX2.out.1.ml, RX2.out.1.th, RX2.out.1.mh⟩, RX2.out.2.1.below hS, RX2.out.2.2.below hS⟩
  have RY4 : Hid (Rt W2.drew y ua uc va vc ∧ IVh (w.heap.size + 1) W2.drew ua y.T ∧ IVh (w.heap.size + 1) W2.drew va y.M) := ⟨⟨(RY2.out.2.1.below hS).iv, (RY2.out.2.2.below hS).iv, RY2.out.1.tn, RY2.out.1.mn, RY2.out.1.tl, RY2.out.1.ml, RY2.out.1.th, RY2.out.1.mh⟩, RY2.out.2.1.below hS, RY2.out.2.2.below hS⟩
  clear hS X2 X3 B2 RX2 RY2 HO HQ
  generalize W2.drew = W4 at X4 B4 RX4 RY4 ⊢
  obtain ⟨o4, x4, y4⟩ := X4
  obtain ⟨i0, i1, i2, i3, i4, i5, g0, g1, g2, g3, g4, g5⟩ := RX.of' o4
  obtain ⟨j0, j1, j2, j3, j4, j5, _, _, _, _, _, _⟩ := RX.of' x4
  obtain ⟨k0, k1, k2, k3, k4, k5, _, _, _, _, _, _⟩ := RX.of' y4
  clear o4 x4 y4
  go_wp2_with fail
  exact bodyPost_ret (v := .tuple #[.agg #[.int .i64 0, .int .i64 0, .int .i64 0, .int .i64 0, .slice none 0 0, .slice none 0 0], .int .i64 0, .int .i64 4]) (by simp [results, Try.results17, go_sem, *]) rfl ⟨none, 0, none, 0, rfl, rt_zero _, set6_below B4.out _ _ _ _ _ _, .inl rfl, .inl rfl⟩
set_option maxHeartbeats 1000000 in
theorem rch_TTg (a b : Option Addr) (ca cb n m : Nat) (x y : RD) (e f : Int) (w : World) (hx : (x.E.tmod 2 == 0) = true) (hy : (y.E.tmod 2 == 1) = true) (hg : decide (y.E < x.E) = true)
    (HGA : Hid (∀ W, Below w.heap.size w W → Calls Try.prog 15 #[.slice a n ca] W fun r w' => GetPost W (x, 0) r w'))
    (HGB : Hid (∀ W, Below w.heap.size w W → Calls Try.prog 15 #[.slice b m cb] W fun r w' => GetPost W (y, 0) r w')) :
    Calls Try.prog 17 #[.slice a n ca, .slice b m cb] w fun r w' => ChoosePost w ⟨x, 0, 0⟩ r w' := by
  obtain ⟨W0, hW0⟩ : ∃ W, W = w.alloc (.cells #[.int .i64 0, .int .i64 0, .int .i64 0, .int .i64 0, .slice none 0 0, .slice none 0 0] 24) := ⟨_, rfl⟩
  have hB0 : Below w.heap.size w W0 := by rw [hW0]; exact (Below.refl _ _).alloc (Nat.le_refl _) _
  have X0 : Hid (W0.heap[w.heap.size]? = some (.cells #[.int .i64 0, .int .i64 0, .int .i64 0, .int .i64 0, .slice none 0 0, .slice none 0 0] 24 (0, 0))) := by rw [hW0]; exact heap_alloc_last _ _
  go_enter Try.func17, Try.ntmps17
  go_wp2_with fail
  rw [← hW0]
  clear hW0
  refine (HGA.out _ hB0).mono ?_
  rintro r1 w1 ⟨ta, tc, ma, mc, rfl, H1⟩
  unfold rootV
  obtain ⟨px, hpx⟩ : ∃ p, p = w1.heap.size := ⟨_, rfl⟩
  obtain ⟨W1, hW1⟩ : ∃ W, W = w1.alloc (.cells #[.int .i64 x.E, .int .i64 x.B, .int .i64 x.N, .int .i64 x.S, .slice ta x.T.length tc, .slice ma x.M.length mc] 24) := ⟨_, rfl⟩
  have b01 : Below W0.heap.size W0 w1 := H1.out.2.1
  have b1 : Below w1.heap.size w1 W1 := by rw [hW1]; exact (Below.refl _ _).alloc (Nat.le_refl _) _
  have s0 : w.heap.size < W0.heap.size := (Array.getElem?_eq_some_iff.1 X0.out).1
  have X1 : Hid (W1.heap[w.heap.size]? = some (.cells #[.int .i64 0, .int .i64 0, .int .i64 0, .int .i64 0, .slice none 0 0, .slice none 0 0] 24 (0, 0)) ∧ W1.heap[px]? = some (.cells #[.int .i64 x.E, .int .i64 x.B, .int .i64 x.N, .int .i64 x.S, .slice ta x.T.length tc, .slice ma x.M.length mc] 24 (0, 0)) ∧ w.heap.size < px ∧ px < W1.heap.size) := by
    refine ⟨(b1.block _ (Nat.lt_of_lt_of_le s0 b01.size)).trans ((b01.block _ s0).trans X0.out), by rw [hpx, hW1]; exact heap_alloc_last _ _, by rw [hpx]; exact Nat.lt_of_lt_of_le s0 b01.size, by rw [hpx, hW1]; simp⟩
  have B1 : Hid (Below w.heap.size w W1) := (hB0.trans (b01.mono (Nat.le_of_lt s0))).trans (b1.mono (Nat.le_trans (Nat.le_of_lt s0) b01.size))
  have R1 : Hid (Rt W1 x ta tc ma mc ∧ IVh (w.heap.size + 1) W1 ta x.T ∧ IVh (w.heap.size + 1) W1 ma x.M) :=
    ⟨⟨(H1.out.2.2.1.below b1).iv, (H1.out.2.2.2.below b1).iv, H1.out.1.tn, H1.out.1.mn, H1.out.1.tl, H1.out.1.ml, H1.out.1.th, H1.out.1.mh⟩, (H1.out.2.2.1.below b1).mono s0, (H1.out.2.2.2.below b1).mono s0⟩
  go_wp2_with fail
  rw [← hW1, ← hpx]
  clear hW1 hpx X0 hB0 H1 b01 b1 s0 HGA
  refine (HGB.out _ B1.out).mono ?_
  rintro r2 w2 ⟨ua, uc, va, vc, rfl, H2⟩
  unfold rootV
  obtain ⟨py, hpy⟩ : ∃ p, p = w2.heap.size := ⟨_, rfl⟩
  obtain ⟨W2, hW2⟩ : ∃ W, W = w2.alloc (.cells #[.int .i64 y.E, .int .i64 y.B, .int .i64 y.N, .int .i64 y.S, .slice ua y.T.length uc, .slice va y.M.length vc] 24) := ⟨_, rfl⟩
  have b12 : Below W1.heap.size W1 w2 := H2.out.2.1
  have b2 : Below w2.heap.size w2 W2 := by rw [hW2]; exact (Below.refl _ _).alloc (Nat.le_refl _) _
  have b22 : Below W1.heap.size W1 W2 := b12.trans (b2.mono b12.size)
  have s1 : w.heap.size < W1.heap.size := Nat.lt_trans X1.out.2.2.1 X1.out.2.2.2
  have X2 : Hid (W2.heap[w.heap.size]? = some (.cells #[.int .i64 0, .int .i64 0, .int .i64 0, .int .i64 0, .slice none 0 0, .slice none 0 0] 24 (0, 0)) ∧ W2.heap[px]? = some (.cells #[.int .i64 x.E, .int .i64 x.B, .int .i64 x.N, .int .i64 x.S, .slice ta x.T.length tc, .slice ma x.M.length mc] 24 (0, 0)) ∧ W2.heap[py]? = some (.cells #[.int .i64 y.E, .int .i64 y.B, .int .i64 y.N, .int .i64 y.S, .slice ua y.T.length uc, .slice va y.M.length vc] 24 (0, 0))) :=
    ⟨(b22.block _ s1).trans X1.out.1, (b22.block _ X1.out.2.2.2).trans X1.out.2.1, by rw [hpy, hW2]; exact heap_alloc_last _ _⟩
  have B2 : Hid (Below w.heap.size w W2) := B1.out.trans (b22.mono (Nat.le_of_lt s1))
  have RX2 : Hid (Rt W2 x ta tc ma mc ∧ IVh (w.heap.size + 1) W2 ta x.T ∧ IVh (w.heap.size + 1) W2 ma x.M) :=
    ⟨⟨(R1.out.2.1.below b22).iv, (R1.out.2.2.below b22).iv, R1.out.1.tn, R1.out.1.mn, R1.out.1.tl, R1.out.1.ml, R1.out.1.th, R1.out.1.mh⟩, R1.out.2.1.below b22, R1.out.2.2.below b22⟩
  have RY2 : Hid (Rt W2 y ua uc va vc ∧ IVh (w.heap.size + 1) W2 ua y.T ∧ IVh (w.heap.size + 1) W2 va y.M) :=
    ⟨⟨(H2.out.2.2.1.below b2).iv, (H2.out.2.2.2.below b2).iv, H2.out.1.tn, H2.out.1.mn, H2.out.1.tl, H2.out.1.ml, H2.out.1.th, H2.out.1.mh⟩, (H2.out.2.2.1.below b2).mono s1, (H2.out.2.2.2.below b2).mono s1⟩
  have X3 : Hid (∀ W', Below W2.heap.size W2 W' → W'.heap[w.heap.size]? = some (.cells #[.int .i64 0, .int .i64 0, .int .i64 0, .int .i64 0, .slice none 0 0, .slice none 0 0] 24 (0, 0)) ∧ W'.heap[px]? = some (.cells #[.int .i64 x.E, .int .i64 x.B, .int .i64 x.N, .int .i64 x.S, .slice ta x.T.length tc, .slice ma x.M.length mc] 24 (0, 0)) ∧ W'.heap[py]? = some (.cells #[.int .i64 y.E, .int .i64 y.B, .int .i64 y.N, .int .i64 y.S, .slice ua y.T.length uc, .slice va y.M.length vc] 24 (0, 0))) := fun W' hW =>
    ⟨(hW.block _ (Array.getElem?_eq_some_iff.1 X2.out.1).1).trans X2.out.1, (hW.block _ (Array.getElem?_eq_some_iff.1 X2.out.2.1).1).trans X2.out.2.1, (hW.block _ (Array.getElem?_eq_some_iff.1 X2.out.2.2).1).trans X2.out.2.2⟩
  go_wp2_with fail
  rw [← hW2, ← hpy]
  clear hW2 hpy H2 b12 b2 b22 s1 HGB R1 B1 X1
  refine wp_region_noPanic ?_
  refine name_ops ?_
  intro O QQ HO HQ
  refine wp_region_held_drew (S := fun W' => Below W2.heap.size W2 W') (by kernel_rfl) (Below.refl _ _).drew (fun hS => ?_)
  rw [show O.size = 18 by rw [HO.out]; rfl]
  refine wpAnyH_take (i := 0) (v := .int .i64 0) (by rw [HO.out]; simp only [List.getElem?_toArray, List.getElem?_cons_succ, List.getElem?_cons_zero]; rfl) (by rw [HO.out]; kernel_rfl) (by rw [HO.out]; kernel_rfl) (by rw [HO.out]; kernel_rfl) (by rw [HQ.out]; exact fun _ _ _ h => h) (Or.inl ⟨by rw [HO.out]; kernel_rfl, ?_⟩) hS ?_
  · intro w' hSw
    go_simp
  try simp only [Act.put, List.setIfInBounds_toArray, List.set_cons_zero, List.set_cons_succ]
  refine wpAnyH_take (i := 1) (v := .bool true) (by rw [HO.out]; simp only [List.getElem?_toArray, List.getElem?_cons_succ, List.getElem?_cons_zero]; rfl) (by rw [HO.out]; kernel_rfl) (by rw [HO.out]; kernel_rfl) (by rw [HO.out]; kernel_rfl) (by rw [HQ.out]; exact fun _ _ _ h => h) (Or.inl ⟨by rw [HO.out]; kernel_rfl, ?_⟩) hS ?_
  · intro w' hSw
    go_simp
  try simp only [Act.put, List.setIfInBounds_toArray, List.set_cons_zero, List.set_cons_succ]
  refine wpAnyH_take (i := 2) (v := .bool true) (by rw [HO.out]; simp only [List.getElem?_toArray, List.getElem?_cons_succ, List.getElem?_cons_zero]; rfl) (by rw [HO.out]; kernel_rfl) (by rw [HO.out]; kernel_rfl) (by rw [HO.out]; kernel_rfl) (by rw [HQ.out]; exact fun _ _ _ h => h) (Or.inl ⟨by rw [HO.out]; kernel_rfl, ?_⟩) hS ?_
  · intro w' hSw
    go_simp
  try simp only [Act.put, List.setIfInBounds_toArray, List.set_cons_zero, List.set_cons_succ]
  refine wpAnyH_take (i := 3) (v := .pointer (some ⟨px, 0, none⟩)) (by rw [HO.out]; simp only [List.getElem?_toArray, List.getElem?_cons_succ, List.getElem?_cons_zero]; rfl) (by rw [HO.out]; kernel_rfl) (by rw [HO.out]; kernel_rfl) (by rw [HO.out]; kernel_rfl) (by rw [HQ.out]; exact fun _ _ _ h => h) (Or.inl ⟨by rw [HO.out]; kernel_rfl, ?_⟩) hS ?_
  · intro w' hSw
    go_simp
  try simp only [Act.put, List.setIfInBounds_toArray, List.set_cons_zero, List.set_cons_succ]
  refine wpAnyH_take (i := 4) (v := .int .i64 x.E) (by rw [HO.out]; simp only [List.getElem?_toArray, List.getElem?_cons_succ, List.getElem?_cons_zero]; rfl) (by rw [HO.out]; kernel_rfl) (by rw [HO.out]; kernel_rfl) (by rw [HO.out]; kernel_rfl) (by rw [HQ.out]; exact fun _ _ _ h => h) (Or.inl ⟨by rw [HO.out]; kernel_rfl, ?_⟩) hS ?_
  · intro w' hSw
    have j0 := (RX.of' (X3.out w' hSw).2.1).c0
    go_simp
  try simp only [Act.put, List.setIfInBounds_toArray, List.set_cons_zero, List.set_cons_succ]
  refine wpAnyH_take (i := 5) (v := .int .i64 (x.E.tmod 2)) (by rw [HO.out]; simp only [List.getElem?_toArray, List.getElem?_cons_succ, List.getElem?_cons_zero]; rfl) (by rw [HO.out]; kernel_rfl) (by rw [HO.out]; kernel_rfl) (by rw [HO.out]; kernel_rfl) (by rw [HQ.out]; exact fun _ _ _ h => h) (Or.inl ⟨by rw [HO.out]; kernel_rfl, ?_⟩) hS ?_
  · intro w' hSw
    go_simp
  try simp only [Act.put, List.setIfInBounds_toArray, List.set_cons_zero, List.set_cons_succ]
  refine wpAnyH_take (i := 6) (v := .bool true) (by rw [HO.out]; simp only [List.getElem?_toArray, List.getElem?_cons_succ, List.getElem?_cons_zero]; rfl) (by rw [HO.out]; kernel_rfl) (by rw [HO.out]; kernel_rfl) (by rw [HO.out]; kernel_rfl) (by rw [HQ.out]; exact fun _ _ _ h => h) (Or.inl ⟨by rw [HO.out]; kernel_rfl, ?_⟩) hS ?_
  · intro w' hSw
    go_simp
  try simp only [Act.put, List.setIfInBounds_toArray, List.set_cons_zero, List.set_cons_succ]
  refine wpAnyH_take (i := 7) (v := .bool true) (by rw [HO.out]; simp only [List.getElem?_toArray, List.getElem?_cons_succ, List.getElem?_cons_zero]; rfl) (by rw [HO.out]; kernel_rfl) (by rw [HO.out]; kernel_rfl) (by rw [HO.out]; kernel_rfl) (by rw [HQ.out]; exact fun _ _ _ h => h) (Or.inl ⟨by rw [HO.out]; kernel_rfl, ?_⟩) hS ?_
  · intro w' hSw
    go_simp
  try simp only [Act.put, List.setIfInBounds_toArray, List.set_cons_zero, List.set_cons_succ]
  refine wpAnyH_take (i := 8) (v := .int .i64 0) (by rw [HO.out]; simp only [List.getElem?_toArray, List.getElem?_cons_succ, List.getElem?_cons_zero]; rfl) (by rw [HO.out]; kernel_rfl) (by rw [HO.out]; kernel_rfl) (by rw [HO.out]; kernel_rfl) (by rw [HQ.out]; exact fun _ _ _ h => h) (Or.inl ⟨by rw [HO.out]; kernel_rfl, ?_⟩) hS ?_
  · intro w' hSw
    go_simp
  try simp only [Act.put, List.setIfInBounds_toArray, List.set_cons_zero, List.set_cons_succ]
  refine wpAnyH_take (i := 9) (v := .bool true) (by rw [HO.out]; simp only [List.getElem?_toArray, List.getElem?_cons_succ, List.getElem?_cons_zero]; rfl) (by rw [HO.out]; kernel_rfl) (by rw [HO.out]; kernel_rfl) (by rw [HO.out]; kernel_rfl) (by rw [HQ.out]; exact fun _ _ _ h => h) (Or.inl ⟨by rw [HO.out]; kernel_rfl, ?_⟩) hS ?_
  · intro w' hSw
    go_simp
  try simp only [Act.put, List.setIfInBounds_toArray, List.set_cons_zero, List.set_cons_succ]
  refine wpAnyH_take (i := 10) (v := .bool true) (by rw [HO.out]; simp only [List.getElem?_toArray, List.getElem?_cons_succ, List.getElem?_cons_zero]; rfl) (by rw [HO.out]; kernel_rfl) (by rw [HO.out]; kernel_rfl) (by rw [HO.out]; kernel_rfl) (by rw [HQ.out]; exact fun _ _ _ h => h) (Or.inl ⟨by rw [HO.out]; kernel_rfl, ?_⟩) hS ?_
  · intro w' hSw
    go_simp
  try simp only [Act.put, List.setIfInBounds_toArray, List.set_cons_zero, List.set_cons_succ]
  refine wpAnyH_take (i := 11) (v := .pointer (some ⟨py, 0, none⟩)) (by rw [HO.out]; simp only [List.getElem?_toArray, List.getElem?_cons_succ, List.getElem?_cons_zero]; rfl) (by rw [HO.out]; kernel_rfl) (by rw [HO.out]; kernel_rfl) (by rw [HO.out]; kernel_rfl) (by rw [HQ.out]; exact fun _ _ _ h => h) (Or.inl ⟨by rw [HO.out]; kernel_rfl, ?_⟩) hS ?_
  · intro w' hSw
    go_simp
  try simp only [Act.put, List.setIfInBounds_toArray, List.set_cons_zero, List.set_cons_succ]
  refine wpAnyH_take (i := 12) (v := .int .i64 y.E) (by rw [HO.out]; simp only [List.getElem?_toArray, List.getElem?_cons_succ, List.getElem?_cons_zero]; rfl) (by rw [HO.out]; kernel_rfl) (by rw [HO.out]; kernel_rfl) (by rw [HO.out]; kernel_rfl) (by rw [HQ.out]; exact fun _ _ _ h => h) (Or.inl ⟨by rw [HO.out]; kernel_rfl, ?_⟩) hS ?_
  · intro w' hSw
    have j0 := (RX.of' (X3.out w' hSw).2.2).c0
    go_simp
  try simp only [Act.put, List.setIfInBounds_toArray, List.set_cons_zero, List.set_cons_succ]
  refine wpAnyH_take (i := 13) (v := .int .i64 (y.E.tmod 2)) (by rw [HO.out]; simp only [List.getElem?_toArray, List.getElem?_cons_succ, List.getElem?_cons_zero]; rfl) (by rw [HO.out]; kernel_rfl) (by rw [HO.out]; kernel_rfl) (by rw [HO.out]; kernel_rfl) (by rw [HQ.out]; exact fun _ _ _ h => h) (Or.inl ⟨by rw [HO.out]; kernel_rfl, ?_⟩) hS ?_
  · intro w' hSw
    go_simp
  try simp only [Act.put, List.setIfInBounds_toArray, List.set_cons_zero, List.set_cons_succ]
  refine wpAnyH_take (i := 14) (v := .bool true) (by rw [HO.out]; simp only [List.getElem?_toArray, List.getElem?_cons_succ, List.getElem?_cons_zero]; rfl) (by rw [HO.out]; kernel_rfl) (by rw [HO.out]; kernel_rfl) (by rw [HO.out]; kernel_rfl) (by rw [HQ.out]; exact fun _ _ _ h => h) (Or.inl ⟨by rw [HO.out]; kernel_rfl, ?_⟩) hS ?_
  · intro w' hSw
    go_simp
  try simp only [Act.put, List.setIfInBounds_toArray, List.set_cons_zero, List.set_cons_succ]
  refine wpAnyH_take (i := 15) (v := .bool true) (by rw [HO.out]; simp only [List.getElem?_toArray, List.getElem?_cons_succ, List.getElem?_cons_zero]; rfl) (by rw [HO.out]; kernel_rfl) (by rw [HO.out]; kernel_rfl) (by rw [HO.out]; kernel_rfl) (by rw [HQ.out]; exact fun _ _ _ h => h) (Or.inl ⟨by rw [HO.out]; kernel_rfl, ?_⟩) hS ?_
  · intro w' hSw
    go_simp
  try simp only [Act.put, List.setIfInBounds_toArray, List.set_cons_zero, List.set_cons_succ]
  refine wpAnyH_ready (rs := [16]) (by rw [HO.out]; kernel_rfl) (by simp) ?_
  refine AllReadyH.cons (o := _) (by rw [HO.out]; simp only [List.getElem?_toArray, List.getElem?_cons_succ, List.getElem?_cons_zero]; rfl) (fun K16 hK16 => ?_) AllReadyH.nil
  rw [HO.out]
  go_simp
  refine hK16.out _ _ hS (fun _ => ?_)
  try simp only [Act.put, List.setIfInBounds_toArray, List.set_cons_zero, List.set_cons_succ]
  refine wpAnyH_ready (rs := [17]) (by rw [HO.out]; kernel_rfl) (by simp) ?_
  refine AllReadyH.cons (o := _) (by rw [HO.out]; simp only [List.getElem?_toArray, List.getElem?_cons_succ, List.getElem?_cons_zero]; rfl) (fun K17 hK17 => ?_) AllReadyH.nil
  rw [HO.out]
  go_simp
  refine hK17.out _ _ hS (fun _ => ?_)
  try simp only [Act.put, List.setIfInBounds_toArray, List.set_cons_zero, List.set_cons_succ]
  refine wpAnyH_done (by rw [HO.out]; kernel_rfl) ?_ _
  rw [HQ.out]
  refine NoPanic.normal ?_
  have X4 := X3.out _ hS
  have B4 : Hid (Below w.heap.size w W2.drew) := B2.out.drew
  have RX4 : Hid (Rt W2.drew x ta tc ma mc ∧ IVh (w.heap.size + 1) W2.drew ta x.T ∧ IVh (w.heap.size + 1) W2.drew ma x.M) := ⟨⟨(RX2.out.2.1.below hS).iv, (RX2.out.2.2.below hS).iv, RX2.out.1.tn, RX2.out.1.mn, RX2.out.1.tl, RX2.out.1.ml, RX2.out.1.th, RX2.out.1.mh⟩, RX2.out.2.1.below hS, RX2.out.2.2.below hS⟩
  have RY4 : Hid (Rt W2.drew y ua uc va vc ∧ IVh (w.heap.size + 1) W2.drew ua y.T ∧ IVh (w.heap.size + 1) W2.drew va y.M) := ⟨⟨(RY2.out.2.1.below hS).iv, (RY2.out.2.2.below hS).iv, RY2.out.1.tn, RY2.out.1.mn, RY2.out.1.tl, RY2.out.1.ml, RY2.out.1.th, RY2.out.1.mh⟩, RY2.out.2.1.below hS, RY2.out.2.2.below hS⟩
  clear hS X2 X3 B2 RX2 RY2 HO HQ
  generalize W2.drew = W4 at X4 B4 RX4 RY4 ⊢
  obtain ⟨o4, x4, y4⟩ := X4
  obtain ⟨i0, i1, i2, i3, i4, i5, g0, g1, g2, g3, g4, g5⟩ := RX.of' o4
  obtain ⟨j0, j1, j2, j3, j4, j5, _, _, _, _, _, _⟩ := RX.of' x4
  obtain ⟨k0, k1, k2, k3, k4, k5, _, _, _, _, _, _⟩ := RX.of' y4
  clear o4 x4 y4
  go_wp2_with fail
  exact bodyPost_ret (v := .tuple #[.agg #[.int .i64 x.E, .int .i64 x.B, .int .i64 x.N, .int .i64 x.S, .slice ta x.T.length tc, .slice ma x.M.length mc], .int .i64 0, .int .i64 0]) (by simp [results, Try.results17, go_sem, *]) rfl ⟨ta, tc, ma, mc, rfl, rt_set6 RX4.out.1 RX4.out.2.1 RX4.out.2.2 _ _ _ _ _ _, set6_below B4.out _ _ _ _ _ _, (RX4.out.2.1.set6 _ _ _ _ _ _).mono (Nat.le_succ _), (RX4.out.2.2.set6 _ _ _ _ _ _).mono (Nat.le_succ _)⟩
set_option maxHeartbeats 1000000 in
theorem rch_TTl (a b : Option Addr) (ca cb n m : Nat) (x y : RD) (e f : Int) (w : World) (hx : (x.E.tmod 2 == 0) = true) (hy : (y.E.tmod 2 == 1) = true) (hg : decide (y.E < x.E) = false)
    (HGA : Hid (∀ W, Below w.heap.size w W → Calls Try.prog 15 #[.slice a n ca] W fun r w' => GetPost W (x, 0) r w'))
    (HGB : Hid (∀ W, Below w.heap.size w W → Calls Try.prog 15 #[.slice b m cb] W fun r w' => GetPost W (y, 0) r w')) :
    Calls Try.prog 17 #[.slice a n ca, .slice b m cb] w fun r w' => ChoosePost w ⟨y, 1, 0⟩ r w' := by
  obtain ⟨W0, hW0⟩ : ∃ W, W = w.alloc (.cells #[.int .i64 0, .int .i64 0, .int .i64 0, .int .i64 0, .slice none 0 0, .slice none 0 0] 24) := ⟨_, rfl⟩
  have hB0 : Below w.heap.size w W0 := by rw [hW0]; exact (Below.refl _ _).alloc (Nat.le_refl _) _
  have X0 : Hid (W0.heap[w.heap.size]? = some (.cells #[.int .i64 0, .int .i64 0, .int .i64 0, .int .i64 0, .slice none 0 0, .slice none 0 0] 24 (0, 0))) := by rw [hW0]; exact heap_alloc_last _ _
  go_enter Try.func17, Try.ntmps17
  go_wp2_with fail
  rw [← hW0]
  clear hW0
  refine (HGA.out _ hB0).mono ?_
  rintro r1 w1 ⟨ta, tc, ma, mc, rfl, H1⟩
  unfold rootV
  obtain ⟨px, hpx⟩ : ∃ p, p = w1.heap.size := ⟨_, rfl⟩
  obtain ⟨W1, hW1⟩ : ∃ W, W = w1.alloc (.cells #[.int .i64 x.E, .int .i64 x.B, .int .i64 x.N, .int .i64 x.S, .slice ta x.T.length tc, .slice ma x.M.length mc] 24) := ⟨_, rfl⟩
  have b01 : Below W0.heap.size W0 w1 := H1.out.2.1
  have b1 : Below w1.heap.size w1 W1 := by rw [hW1]; exact (Below.refl _ _).alloc (Nat.le_refl _) _
  have s0 : w.heap.size < W0.heap.size := (Array.getElem?_eq_some_iff.1 X0.out).1
  have X1 : Hid (W1.heap[w.heap.size]? = some (.cells #[.int .i64 0, .int .i64 0, .int .i64 0, .int .i64 0, .slice none 0 0, .slice none 0 0] 24 (0, 0)) ∧ W1.heap[px]? = some (.cells #[.int .i64 x.E, .int .i64 x.B, .int .i64 x.N, .int .i64 x.S, .slice ta x.T.length tc, .slice ma x.M.length mc] 24 (0, 0)) ∧ w.heap.size < px ∧ px < W1.heap.size) := by
    refine ⟨(b1.block _ (Nat.lt_of_lt_of_le s0 b01.size)).trans ((b01.block _ s0).trans X0.out), by rw [hpx, hW1]; exact heap_alloc_last _ _, by rw [hpx]; exact Nat.lt_of_lt_of_le s0 b01.size, by rw [hpx, hW1]; simp⟩
  have B1 : Hid (Below w.heap.size w W1) := (hB0.trans (b01.mono (Nat.le_of_lt s0))).trans (b1.mono (Nat.le_trans (Nat.le_of_lt s0) b01.size))
  have R1 : Hid (Rt W1 x ta tc ma mc ∧ IVh (w.heap.size + 1) W1 ta x.T ∧ IVh (w.heap.size + 1) W1 ma x.M) :=
    ⟨⟨(H1.out.2.2.1.below b1).iv, (H1.out.2.2.2.below b1).iv, H1.out.1.tn, H1.out.1.mn, H1.out.1.tl, H1.out.1.ml, H1.out.1.th, H1.out.1.mh⟩, (H1.out.2.2.1.below b1).mono s0, (H1.out.2.2.2.below b1).mono s0⟩
  go_wp2_with fail
  rw [← hW1, ← hpx]
  clear hW1 hpx X0 hB0 H1 b01 b1 s0 HGA
  refine (HGB.out _ B1.out).mono ?_
  rintro r2 w2 ⟨ua, uc, va, vc, rfl, H2⟩
  unfold rootV
  obtain ⟨py, hpy⟩ : ∃ p, p = w2.heap.size := ⟨_, rfl⟩
  obtain ⟨W2, hW2⟩ : ∃ W, W = w2.alloc (.cells #[.int .i64 y.E, .int .i64 y.B, .int .i64 y.N, .int .i64 y.S, .slice ua y.T.length uc, .slice va y.M.length vc] 24) := ⟨_, rfl⟩
  have b12 : Below W1.heap.size W1 w2 := H2.out.2.1
  have b2 : Below w2.heap.size w2 W2 := by rw [hW2]; exact (Below.refl _ _).alloc (Nat.le_refl _) _
  have b22 : Below W1.heap.size W1 W2 := b12.trans (b2.mono b12.size)
  have s1 : w.heap.size < W1.heap.size := Nat.lt_trans X1.out.2.2.1 X1.out.2.2.2
  have X2 : Hid (W2.heap[w.heap.size]? = some (.cells #[.int .i64 0, .int .i64 0, .int .i64 0, .int .i64 0, .slice none 0 0, .slice none 0 0] 24 (0, 0)) ∧ W2.heap[px]? = some (.cells #[.int .i64 x.E, .int .i64 x.B, .int .i64 x.N, .int .i64 x.S, .slice ta x.T.length tc, .slice ma x.M.length mc] 24 (0, 0)) ∧ W2.heap[py]? = some (.cells #[.int .i64 y.E, .int .i64 y.B, .int .i64 y.N, .int .i64 y.S, .slice ua y.T.length uc, .slice va y.M.length vc] 24 (0, 0))) :=
    ⟨(b22.block _ s1).trans X1.out.1, (b22.block _ X1.out.2.2.2).trans X1.out.2.1, by rw [hpy, hW2]; exact heap_alloc_last _ _⟩
  have B2 : Hid (Below w.heap.size w W2) := B1.out.trans (b22.mono (Nat.le_of_lt s1))
  have RX2 : Hid (Rt W2 x ta tc ma mc ∧ IVh (w.heap.size + 1) W2 ta x.T ∧ IVh (w.heap.size + 1) W2 ma x.M) :=
    ⟨⟨(R1.out.2.1.below b22).iv, (R1.out.2.2.below b22).iv, R1.out.1.tn, R1.out.1.mn, R1.out.1.tl, R1.out.1.ml, R1.out.1.th, R1.out.1.mh⟩, R1.out.2.1.below b22, R1.out.2.2.below b22⟩
  have RY2 : Hid (Rt W2 y ua uc va vc ∧ IVh (w.heap.size + 1) W2 ua y.T ∧ IVh (w.heap.size + 1) W2 va y.M) :=
    ⟨⟨(H2.out.2.2.1.below b2).iv, (H2.out.2.2.2.below b2).iv, H2.out.1.tn, H2.out.1.mn, H2.out.1.tl, H2.out.1.ml, H2.out.1.th, H2.out.1.mh⟩, (H2.out.2.2.1.below b2).mono s1, (H2.out.2.2.2.below b2).mono s1⟩
  have X3 : Hid (∀ W', Below W2.heap.size W2 W' → W'.heap[w.heap.size]? = some (.cells #[.int .i64 0, .int .i64 0, .int .i64 0, .int .i64 0, .slice none 0 0, .slice none 0 0] 24 (0, 0)) ∧ W'.heap[px]? = some (.cells #[.int .i64 x.E, .int .i64 x.B, .int .i64 x.N, .int .i64 x.S, .slice ta x.T.length tc, .slice ma x.M.length mc] 24 (0, 0)) ∧ W'.heap[py]? = some (.cells #[.int .i64 y.E, .int .i64 y.B, .int .i64 y.N, .int .i64 y.S, .slice ua y.T.length uc, .slice va y.M.length vc] 24 (0, 0))) := fun W' hW =>
    ⟨(hW.block _ (Array.getElem?_eq_some_iff.1 X2.out.1).1).trans X2.out.1, (hW.block _ (Array.getElem?_eq_some_iff.1 X2.out.2.1).1).trans X2.out.2.1, (hW.block _ (Array.getElem?_eq_some_iff.1 X2.out.2.2).1).trans X2.out.2.2⟩
  go_wp2_with fail
  rw [← hW2, ← hpy]
  clear hW2 hpy H2 b12 b2 b22 s1 HGB R1 B1 X1
  refine wp_region_noPanic ?_
  refine name_ops ?_
  intro O QQ HO HQ
  refine wp_region_held_drew (S := fun W' => Below W2.heap.size W2 W') (by kernel_rfl) (Below.refl _ _).drew (fun hS => ?_)
  rw [show O.size = 18 by rw [HO.out]; rfl]
  refine wpAnyH_take (i := 0) (v := .int .i64 0) (by rw [HO.out]; simp only [List.getElem?_toArray, List.getElem?_cons_succ, List.getElem?_cons_zero]; rfl) (by rw [HO.out]; kernel_rfl) (by rw [HO.out]; kernel_rfl) (by rw [HO.out]; kernel_rfl) (by rw [HQ.out]; exact fun _ _ _ h => h) (Or.inl ⟨by rw [HO.out]; kernel_rfl, ?_⟩) hS ?_
  · intro w' hSw
    go_simp
  try simp only [Act.put, List.setIfInBounds_toArray, List.set_cons_zero, List.set_cons_succ]
  refine wpAnyH_take (i := 1) (v := .bool true) (by rw [HO.out]; simp only [List.getElem?_toArray, List.getElem?_cons_succ, List.getElem?_cons_zero]; rfl) (by rw [HO.out]; kernel_rfl) (by rw [HO.out]; kernel_rfl) (by rw [HO.out]; kernel_rfl) (by rw [HQ.out]; exact fun _ _ _ h => h) (Or.inl ⟨by rw [HO.out]; kernel_rfl, ?_⟩) hS ?_
  · intro w' hSw
    go_simp
  try simp only [Act.put, List.setIfInBounds_toArray, List.set_cons_zero, List.set_cons_succ]
  refine wpAnyH_take (i := 2) (v := .bool true) (by rw [HO.out]; simp only [List.getElem?_toArray, List.getElem?_cons_succ, List.getElem?_cons_zero]; rfl) (by rw [HO.out]; kernel_rfl) (by rw [HO.out]; kernel_rfl) (by rw [HO.out]; kernel_rfl) (by rw [HQ.out]; exact fun _ _ _ h => h) (Or.inl ⟨by rw [HO.out]; kernel_rfl, ?_⟩) hS ?_
  · intro w' hSw
    go_simp
  try simp only [Act.put, List.setIfInBounds_toArray, List.set_cons_zero, List.set_cons_succ]
  refine wpAnyH_take (i := 3) (v := .pointer (some ⟨px, 0, none⟩)) (by rw [HO.out]; simp only [List.getElem?_toArray, List.getElem?_cons_succ, List.getElem?_cons_zero]; rfl) (by rw [HO.out]; kernel_rfl) (by rw [HO.out]; kernel_rfl) (by rw [HO.out]; kernel_rfl) (by rw [HQ.out]; exact fun _ _ _ h => h) (Or.inl ⟨by rw [HO.out]; kernel_rfl, ?_⟩) hS ?_
  · intro w' hSw
    go_simp
  try simp only [Act.put, List.setIfInBounds_toArray, List.set_cons_zero, List.set_cons_succ]
  refine wpAnyH_take (i := 4) (v := .int .i64 x.E) (by rw [HO.out]; simp only [List.getElem?_toArray, List.getElem?_cons_succ, List.getElem?_cons_zero]; rfl) (by rw [HO.out]; kernel_rfl) (by rw [HO.out]; kernel_rfl) (by rw [HO.out]; kernel_rfl) (by rw [HQ.out]; exact fun _ _ _ h => h) (Or.inl ⟨by rw [HO.out]; kernel_rfl, ?_⟩) hS ?_
  · intro w' hSw
    have j0 := (RX.of' (X3.out w' hSw).2.1).c0
    go_simp
  try simp only [Act.put, List.setIfInBounds_toArray, List.set_cons_zero, List.set_cons_succ]
  refine wpAnyH_take (i := 5) (v := .int .i64 (x.E.tmod 2)) (by rw [HO.out]; simp only [List.getElem?_toArray, List.getElem?_cons_succ, List.getElem?_cons_zero]; rfl) (by rw [HO.out]; kernel_rfl) (by rw [HO.out]; kernel_rfl) (by rw [HO.out]; kernel_rfl) (by rw [HQ.out]; exact fun _ _ _ h => h) (Or.inl ⟨by rw [HO.out]; kernel_rfl, ?_⟩) hS ?_
  · intro w' hSw
    go_simp
  try simp only [Act.put, List.setIfInBounds_toArray, List.set_cons_zero, List.set_cons_succ]
  refine wpAnyH_take (i := 6) (v := .bool true) (by rw [HO.out]; simp only [List.getElem?_toArray, List.getElem?_cons_succ, List.getElem?_cons_zero]; rfl) (by rw [HO.out]; kernel_rfl) (by rw [HO.out]; kernel_rfl) (by rw [HO.out]; kernel_rfl) (by rw [HQ.out]; exact fun _ _ _ h => h) (Or.inl ⟨by rw [HO.out]; kernel_rfl, ?_⟩) hS ?_
  · intro w' hSw
    go_simp
  try simp only [Act.put, List.setIfInBounds_toArray, List.set_cons_zero, List.set_cons_succ]
  refine wpAnyH_take (i := 7) (v := .bool true) (by rw [HO.out]; simp only [List.getElem?_toArray, List.getElem?_cons_succ, List.getElem?_cons_zero]; rfl) (by rw [HO.out]; kernel_rfl) (by rw [HO.out]; kernel_rfl) (by rw [HO.out]; kernel_rfl) (by rw [HQ.out]; exact fun _ _ _ h => h) (Or.inl ⟨by rw [HO.out]; kernel_rfl, ?_⟩) hS ?_
  · intro w' hSw
    go_simp
  try simp only [Act.put, List.setIfInBounds_toArray, List.set_cons_zero, List.set_cons_succ]
  refine wpAnyH_take (i := 8) (v := .int .i64 0) (by rw [HO.out]; simp only [List.getElem?_toArray, List.getElem?_cons_succ, List.getElem?_cons_zero]; rfl) (by rw [HO.out]; kernel_rfl) (by rw [HO.out]; kernel_rfl) (by rw [HO.out]; kernel_rfl) (by rw [HQ.out]; exact fun _ _ _ h => h) (Or.inl ⟨by rw [HO.out]; kernel_rfl, ?_⟩) hS ?_
  · intro w' hSw
    go_simp
  try simp only [Act.put, List.setIfInBounds_toArray, List.set_cons_zero, List.set_cons_succ]
  refine wpAnyH_take (i := 9) (v := .bool true) (by rw [HO.out]; simp only [List.getElem?_toArray, List.getElem?_cons_succ, List.getElem?_cons_zero]; rfl) (by rw [HO.out]; kernel_rfl) (by rw [HO.out]; kernel_rfl) (by rw [HO.out]; kernel_rfl) (by rw [HQ.out]; exact fun _ _ _ h => h) (Or.inl ⟨by rw [HO.out]; kernel_rfl, ?_⟩) hS ?_
  · intro w' hSw
    go_simp
  try simp only [Act.put, List.setIfInBounds_toArray, List.set_cons_zero, List.set_cons_succ]
  refine wpAnyH_take (i := 10) (v := .bool true) (by rw [HO.out]; simp only [List.getElem?_toArray, List.getElem?_cons_succ, List.getElem?_cons_zero]; rfl) (by rw [HO.out]; kernel_rfl) (by rw [HO.out]; kernel_rfl) (by rw [HO.out]; kernel_rfl) (by rw [HQ.out]; exact fun _ _ _ h => h) (Or.inl ⟨by rw [HO.out]; kernel_rfl, ?_⟩) hS ?_
  · intro w' hSw
    go_simp
  try simp only [Act.put, List.setIfInBounds_toArray, List.set_cons_zero, List.set_cons_succ]
  refine wpAnyH_take (i := 11) (v := .pointer (some ⟨py, 0, none⟩)) (by rw [HO.out]; simp only [List.getElem?_toArray, List.getElem?_cons_succ, List.getElem?_cons_zero]; rfl) (by rw [HO.out]; kernel_rfl) (by rw [HO.out]; kernel_rfl) (by rw [HO.out]; kernel_rfl) (by rw [HQ.out]; exact fun _ _ _ h => h) (Or.inl ⟨by rw [HO.out]; kernel_rfl, ?_⟩) hS ?_
  · intro w' hSw
    go_simp
  try simp only [Act.put, List.setIfInBounds_toArray, List.set_cons_zero, List.set_cons_succ]
  refine wpAnyH_take (i := 12) (v := .int .i64 y.E) (by rw [HO.out]; simp only [List.getElem?_toArray, List.getElem?_cons_succ, List.getElem?_cons_zero]; rfl) (by rw [HO.out]; kernel_rfl) (by rw [HO.out]; kernel_rfl) (by rw [HO.out]; kernel_rfl) (by rw [HQ.out]; exact fun _ _ _ h => h) (Or.inl ⟨by rw [HO.out]; kernel_rfl, ?_⟩) hS ?_
  · intro w' hSw
    have j0 := (RX.of' (X3.out w' hSw).2.2).c0
    go_simp
  try simp only [Act.put, List.setIfInBounds_toArray, List.set_cons_zero, List.set_cons_succ]
  refine wpAnyH_take (i := 13) (v := .int .i64 (y.E.tmod 2)) (by rw [HO.out]; simp only [List.getElem?_toArray, List.getElem?_cons_succ, List.getElem?_cons_zero]; rfl) (by rw [HO.out]; kernel_rfl) (by rw [HO.out]; kernel_rfl) (by rw [HO.out]; kernel_rfl) (by rw [HQ.out]; exact fun _ _ _ h => h) (Or.inl ⟨by rw [HO.out]; kernel_rfl, ?_⟩) hS ?_
  · intro w' hSw
    go_simp
  try simp only [Act.put, List.setIfInBounds_toArray, List.set_cons_zero, List.set_cons_succ]
  refine wpAnyH_take (i := 14) (v := .bool true) (by rw [HO.out]; simp only [List.getElem?_toArray, List.getElem?_cons_succ, List.getElem?_cons_zero]; rfl) (by rw [HO.out]; kernel_rfl) (by rw [HO.out]; kernel_rfl) (by rw [HO.out]; kernel_rfl) (by rw [HQ.out]; exact fun _ _ _ h => h) (Or.inl ⟨by rw [HO.out]; kernel_rfl, ?_⟩) hS ?_
  · intro w' hSw
    go_simp
  try simp only [Act.put, List.setIfInBounds_toArray, List.set_cons_zero, List.set_cons_succ]
  refine wpAnyH_take (i := 15) (v := .bool true) (by rw [HO.out]; simp only [List.getElem?_toArray, List.getElem?_cons_succ, List.getElem?_cons_zero]; rfl) (by rw [HO.out]; kernel_rfl) (by rw [HO.out]; kernel_rfl) (by rw [HO.out]; kernel_rfl) (by rw [HQ.out]; exact fun _ _ _ h => h) (Or.inl ⟨by rw [HO.out]; kernel_rfl, ?_⟩) hS ?_
  · intro w' hSw
    go_simp
  try simp only [Act.put, List.setIfInBounds_toArray, List.set_cons_zero, List.set_cons_succ]
  refine wpAnyH_ready (rs := [16]) (by rw [HO.out]; kernel_rfl) (by simp) ?_
  refine AllReadyH.cons (o := _) (by rw [HO.out]; simp only [List.getElem?_toArray, List.getElem?_cons_succ, List.getElem?_cons_zero]; rfl) (fun K16 hK16 => ?_) AllReadyH.nil
  rw [HO.out]
  go_simp
  refine hK16.out _ _ hS (fun _ => ?_)
  try simp only [Act.put, List.setIfInBounds_toArray, List.set_cons_zero, List.set_cons_succ]
  refine wpAnyH_ready (rs := [17]) (by rw [HO.out]; kernel_rfl) (by simp) ?_
  refine AllReadyH.cons (o := _) (by rw [HO.out]; simp only [List.getElem?_toArray, List.getElem?_cons_succ, List.getElem?_cons_zero]; rfl) (fun K17 hK17 => ?_) AllReadyH.nil
  rw [HO.out]
  go_simp
  refine hK17.out _ _ hS (fun _ => ?_)
  try simp only [Act.put, List.setIfInBounds_toArray, List.set_cons_zero, List.set_cons_succ]
  refine wpAnyH_done (by rw [HO.out]; kernel_rfl) ?_ _
  rw [HQ.out]
  refine NoPanic.normal ?_
  have X4 := X3.out _ hS
  have B4 : Hid (Below w.heap.size w W2.drew) := B2.out.drew
  have RX4 : Hid (Rt W2.drew x ta tc ma mc ∧ IVh (w.heap.size + 1) W2.drew ta x.T ∧ IVh (w.heap.size + 1) W2.drew ma x.M) := ⟨⟨(RX2.out.2.1.below hS).iv, (RX2.out.2.2.below hS).iv, RX2.out.1.tn, RX2.out.1.mn, RX2.out.1.tl, RX2.out.1.ml, RX2.out.1.th, RX2.out.1.mh⟩, RX2.out.2.1.below hS, RX2.out.2.2.below hS⟩
  have RY4 : Hid (Rt W2.drew y ua uc va vc ∧ IVh (w.heap.size + 1) W2.drew ua y.T ∧ IVh (w.heap.size + 1) W2.drew va y.M) := ⟨⟨(RY2.out.2.1.below hS).iv, (RY2.out.2.2.below hS).iv, RY2.out.1.tn, RY2.out.1.mn, RY2.out.1.tl, RY2.out.1.ml, RY2.out.1.th, RY2.out.1.mh⟩, RY2.out.2.1.below hS, RY2.out.2.2.below hS⟩
  clear hS X2 X3 B2 RX2 RY2 HO HQ
  generalize W2.drew = W4 at X4 B4 RX4 RY4 ⊢
  obtain ⟨o4, x4, y4⟩ := X4
  obtain ⟨i0, i1, i2, i3, i4, i5, g0, g1, g2, g3, g4, g5⟩ := RX.of' o4
  obtain ⟨j0, j1, j2, j3, j4, j5, _, _, _, _, _, _⟩ := RX.of' x4
  obtain ⟨k0, k1, k2, k3, k4, k5, _, _, _, _, _, _⟩ := RX.of' y4
  clear o4 x4 y4
  go_wp2_with fail
  exact bodyPost_ret (v := .tuple #[.agg #[.int .i64 y.E, .int .i64 y.B, .int .i64 y.N, .int .i64 y.S, .slice ua y.T.length uc, .slice va y.M.length vc], .int .i64 1, .int .i64 0]) (by simp [results, Try.results17, go_sem, *]) rfl ⟨ua, uc, va, vc, rfl, rt_set6 RY4.out.1 RY4.out.2.1 RY4.out.2.2 _ _ _ _ _ _, set6_below B4.out _ _ _ _ _ _, (RY4.out.2.1.set6 _ _ _ _ _ _).mono (Nat.le_succ _), (RY4.out.2.2.set6 _ _ _ _ _ _).mono (Nat.le_succ _)⟩
end Go.Proofs.Ytadnflaocgmfgaa
