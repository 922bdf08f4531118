/- Get of the document, whole. -/
import Derived.Test.YtnnndkpmlpbpcaaRg
namespace Go.Proofs.Ytnnndkpmlpbpcaa
open Go.RowKit
set_option linter.unusedVariables false
set_option maxRecDepth 20000

set_option maxHeartbeats 2000000 in
theorem rget_long (a : Option Addr) (cap : Nat) (zs : List Int) (w : World) (hl : 246 < zs.length) :
    Calls Try.prog 13 #[.slice a zs.length cap] w fun e w' => e = .returned (.tuple #[.agg #[.int .i64 0, .int .i64 0, .slice none 0 0], .int .i64 4]) ∧ Below w.heap.size w w' := by
  have h1 : (246 : Int) < (zs.length : Int) := by omega
  go_enter Try.func13, Try.ntmps13
  go_wp2
  refine bodyPost_ret (v := .tuple #[.agg #[.int .i64 0, .int .i64 0, .slice none 0 0], .int .i64 4]) (by simp [results, Try.results13, go_sem]) rfl ⟨rfl, ?_⟩
  exact two_blocks _ _ _
theorem g_bad {zs : List Int} (h : isB zs = false) : gD zs = 0 ∧ gN zs = 0 ∧ gP zs = [] ∧ gE zs = 4 := by unfold gD gN gP gE; rw [h]; exact ⟨rfl, rfl, rfl, rfl⟩
theorem g_good {zs : List Int} (h : isB zs = true) : gD zs = readD zs ∧ gN zs = readN zs ∧ gP zs = readP zs ∧ gE zs = 0 := by unfold gD gN gP gE; rw [h]; exact ⟨rfl, rfl, rfl, rfl⟩
theorem setCell_size (w : World) (a : Addr) (u : Value) : (w.setCell a u).heap.size = w.heap.size := by
  unfold World.setCell
  simp
theorem RgI.step {w z : World} {X P i : Nat} {cv v : Value} {e d n : Int} {qs : List PR} (h : RgI w z X cv e d n v qs) (cv' : Value) (e' : Int) (u : Value) (hP : ∀ g, v.ownBlock = some g → g < P) (hX : X < P) : RgI w (((z.setCell ⟨X, 0, none⟩ cv').setCell ⟨X, 1, none⟩ (.int .i64 e')).setCell ⟨P, i, none⟩ u) X cv' e' d n v qs :=
  (h.setX (cv' := cv') (e' := e')).setP (fun g hg => Nat.ne_of_lt (hP g hg)) hX
theorem pl_chain (z : World) (a b c : Addr) (x y u : Value) (p : PR) : PV ((((z.setCell a x).setCell b y).setCell c u).alloc (.cells #[.string p.1, .string p.2] 45)) (some ⟨z.heap.size, 0, none⟩) [p] := by
  have h9 := pv_lit (((z.setCell a x).setCell b y).setCell c u) p
  rw [setCell_size, setCell_size, setCell_size] at h9
  exact h9
theorem rg_start {w w3 : World} {c : Value} {e : Int} (hb : Below ((w.alloc (.cells #[.int .i64 0, .int .i64 0, .slice none 0 0] 24)).alloc (.cells #[.int .i64 0, .int .i64 0, .slice none 0 0] 24)).heap.size ((w.alloc (.cells #[.int .i64 0, .int .i64 0, .slice none 0 0] 24)).alloc (.cells #[.int .i64 0, .int .i64 0, .slice none 0 0] 24)) w3) : RgI w (w3.alloc (.cells #[c, .int .i64 e] 71)) w3.heap.size c e 0 0 (.slice none 0 0) [] := by
  have hs := hb.size
  have h2 : ((w.alloc (.cells #[.int .i64 0, .int .i64 0, .slice none 0 0] 24)).alloc (.cells #[.int .i64 0, .int .i64 0, .slice none 0 0] 24)).heap.size = w.heap.size + 2 := by simp
  have hR : w3.heap[w.heap.size]? = some (.cells #[.int .i64 0, .int .i64 0, .slice none 0 0] 24 (0, 0)) := (hb.block _ (by omega)).trans ((Below.heap_alloc _ _ _ (by simp)).trans (heap_alloc_new w _))
  have hT : w3.heap[w.heap.size + 1]? = some (.cells #[.int .i64 0, .int .i64 0, .slice none 0 0] 24 (0, 0)) := by
    refine (hb.block _ (by omega)).trans ?_
    have := heap_alloc_new (w.alloc (.cells #[.int .i64 0, .int .i64 0, .slice none 0 0] 24)) (.cells #[.int .i64 0, .int .i64 0, .slice none 0 0] 24)
    rw [show (w.alloc (.cells #[.int .i64 0, .int .i64 0, .slice none 0 0] 24)).heap.size = w.heap.size + 1 by simp] at this
    exact this
  exact ⟨heap_alloc_new w3 _, (Below.heap_alloc _ _ _ (blk_lt hT)).trans hT, (Below.heap_alloc _ _ _ (blk_lt hR)).trans hR, OwnQ.nil _ _, by omega, bt (bt (two_blocks _ _ _) hb) (one_block _ _)⟩
set_option maxHeartbeats 16000000 in
theorem rget_short (a : Option Addr) (cap : Nat) (zs : List Int) (w : World) (hb : BV w a zs) (hl : ¬ 246 < zs.length) (hn : a = none → cap = 0) (hcl : zs.length ≤ cap) (hcap : cap ≤ 9223372036854775807) :
    Calls Try.prog 13 #[.slice a zs.length cap] w fun e w' => ∃ v, e = .returned (.tuple #[.agg #[.int .i64 (gD zs), .int .i64 (gN zs), v], .int .i64 (gE zs)]) ∧ OwnQ w' w.heap.size v (gP zs) ∧ Below w.heap.size w w' := by
  have h1 : ¬ (246 : Int) < (zs.length : Int) := by omega
  have HBV : Hid (BV w a zs) := hb
  have HHN : Hid (a = none → cap = 0) := hn
  have S0 : Hid (Sl w a cap (zs, 0)) := ⟨hb, hcl, hcap⟩
  have N1 : Hid (∀ W, Below w.heap.size w W → Calls Try.prog 39 #[.agg #[.slice a zs.length cap, .int .i64 0], .int .i64 1] W fun r w' => ∃ c cap', r = .returned (.tuple #[.agg #[.slice c (p1 zs).1.length cap', .int .i64 (p1 zs).2], .int .i64 (readD zs)]) ∧ Sl w c cap' (p1 zs) ∧ Below W.heap.size W w') := fun W hW => sl_num 1 S0.out hW
  have N2 : Hid (∀ W c cap', Sl w c cap' (p1 zs) → Below w.heap.size w W → Calls Try.prog 39 #[.agg #[.slice c (p1 zs).1.length cap', .int .i64 (p1 zs).2], .int .i64 2] W fun r w' => ∃ c cap', r = .returned (.tuple #[.agg #[.slice c (p2 zs).1.length cap', .int .i64 (p2 zs).2], .int .i64 (readN zs)]) ∧ Sl w c cap' (p2 zs) ∧ Below W.heap.size W w') := fun W c cap' hs hW => sl_num 2 hs hW
  have N3 : Hid (∀ W c cap', Sl w c cap' (p2 zs) → Below w.heap.size w W → Calls Try.prog 39 #[.agg #[.slice c (p2 zs).1.length cap', .int .i64 (p2 zs).2], .int .i64 1] W fun r w' => ∃ c cap', r = .returned (.tuple #[.agg #[.slice c (p3 zs).1.length cap', .int .i64 (p3 zs).2], .int .i64 (readM zs)]) ∧ Sl w c cap' (p3 zs) ∧ Below W.heap.size W w') := fun W c cap' hs hW => sl_num 1 hs hW
  have HM : Hid (0 ≤ readM zs ∧ readM zs ≤ 255) := readM_bound hb.1
  have HPL : Hid (∀ k q, q ∈ pairsR k (p3 zs) → Lp q) := fun k => pairsR_lp (p3_all hb.1) k
  obtain ⟨gd, hgd⟩ : ∃ x, x = gD zs := ⟨_, rfl⟩
  obtain ⟨gn, hgn⟩ : ∃ x, x = gN zs := ⟨_, rfl⟩
  obtain ⟨gp, hgp⟩ : ∃ x, x = gP zs := ⟨_, rfl⟩
  obtain ⟨ge, hge⟩ : ∃ x, x = gE zs := ⟨_, rfl⟩
  rw [← hgd, ← hgn, ← hgp, ← hge]
  have HG : Hid (gd = gD zs ∧ gn = gN zs ∧ gp = gP zs ∧ ge = gE zs) := ⟨hgd, hgn, hgp, hge⟩
  clear hgd hgn hgp hge hb hn hcl hcap
  obtain ⟨l1, hl1⟩ : ∃ l1, l1 = (p1 zs).1.length := ⟨_, rfl⟩
  obtain ⟨e1, he1⟩ : ∃ e1, e1 = (p1 zs).2 := ⟨_, rfl⟩
  obtain ⟨l2, hl2⟩ : ∃ l2, l2 = (p2 zs).1.length := ⟨_, rfl⟩
  obtain ⟨e2, he2⟩ : ∃ e2, e2 = (p2 zs).2 := ⟨_, rfl⟩
  rw [← hl1, ← he1] at N1 N2
  rw [← hl2, ← he2] at N2 N3
  clear hl1 he1 hl2 he2
  go_enter Try.func13, Try.ntmps13
  go_wp2_with (first | (go_at_call 39; refine (N1.out _ (two_blocks _ _ _)).mono ?_; rintro e w3 ⟨c1, k1, rfl, s1, hb3⟩; clear N1) | (go_at_call 39; refine (N2.out _ _ _ s1 (bt (bt (two_blocks _ _ _) hb3) (one_block _ _))).mono ?_; rintro e w4 ⟨c2, k2, rfl, s2, hb4⟩; clear N2; have I4 : Hid (RgI w w4 w3.heap.size (.slice c1 l1 k1) e1 0 0 (.slice none 0 0) []) := (rg_start hb3).below hb4; clear hb3 hb4; obtain ⟨x0, x1, f0, f1⟩ := cells2 I4.out.hX) | (go_at_call 39; refine (N3.out _ _ _ s2 I4.out.setX.bl).mono ?_; rintro e w5 ⟨c3, k3, rfl, s3, hb5⟩; clear N3; have I5 : Hid (RgI w w5 w3.heap.size (.slice c2 l2 k2) e2 0 0 (.slice none 0 0) []) := I4.out.setX.below hb5; clear hb5 x0 x1 f0 f1; obtain ⟨x0, x1, f0, f1⟩ := cells2 I5.out.hX; obtain ⟨y0, y1, y2, g0, g1, g2⟩ := cells3 I5.out.hT; have hXT : w3.heap.size ≠ w.heap.size + 1 := by have := I5.out.ord; omega))
  have I6 : Hid (RgI w ((((w5.setCell ⟨w3.heap.size, 0, none⟩ (.slice c3 (p3 zs).1.length k3)).setCell ⟨w3.heap.size, 1, none⟩ (.int .i64 (p3 zs).2)).setCell ⟨w.heap.size + 1, 0, none⟩ (.int .i64 (readD zs))).setCell ⟨w.heap.size + 1, 1, none⟩ (.int .i64 (readN zs))) w3.heap.size (.slice c3 (p3 zs).1.length k3) (p3 zs).2 (readD zs) (readN zs) (.slice none 0 0) []) := (I5.out.setX (cv' := .slice c3 (p3 zs).1.length k3) (e' := (p3 zs).2)).setT (readD zs) (readN zs)
  have S3 : Hid (Sl w c3 k3 (p3 zs)) := s3
  obtain ⟨hm1, hm2⟩ := HM.out
  obtain ⟨M, hM⟩ := Int.eq_ofNat_of_zero_le hm1
  rw [hM] at hm1 hm2 ⊢
  have HRM : Hid ((readM zs).toNat = M) := by show (readM zs).toNat = M; rw [hM]; rfl
  clear I4 I5 x0 x1 f0 f1 y0 y1 y2 g0 g1 g2 s1 s2 s3 hM HM
  have HXT : Hid (w3.heap.size ≠ w.heap.size + 1) := hXT
  clear hXT
  generalize w3.heap.size = X at *
  generalize hW6 : ((((w5.setCell ⟨X, 0, none⟩ (.slice c3 (p3 zs).1.length k3)).setCell ⟨X, 1, none⟩ (.int .i64 (p3 zs).2)).setCell ⟨w.heap.size + 1, 0, none⟩ (.int .i64 (readD zs))).setCell ⟨w.heap.size + 1, 1, none⟩ (.int .i64 (readN zs))) = W6 at I6 ⊢
  clear hW6
  go_loopw [9] (fun i wr => ∃ (j : Nat) (c : Option Addr) (k : Nat) (v : Value), j ≤ M ∧ i = .int .i64 j ∧ Hid (Sl w c k (itT j (p3 zs))) ∧ Hid (RgI w wr X (.slice c (itT j (p3 zs)).1.length k) (itT j (p3 zs)).2 (readD zs) (readN zs) v (pairsR j (p3 zs)))) (fun i _ => M - (intOf i).toNat)
  case atStart => exact ⟨0, c3, k3, _, Nat.zero_le _, rfl, S3, I6⟩
  case round =>
    clear I6 S3
    obtain ⟨j, c, k, v, hj, rfl, HS, HI⟩ := hrel
    obtain ⟨x0, x1, f0, f1⟩ := cells2 HI.out.hX
    obtain ⟨y0, y1, y2, g0, g1, g2⟩ := cells3 HI.out.hT
    obtain ⟨av, cv, rfl, _, _, _⟩ := HI.out.own.view
    by_cases hgo : j < M ∧ (itT j (p3 zs)).2 = 0
    · obtain ⟨hlt, he0⟩ := hgo
      have hlt2 : (j : Int) < (M : Int) := by omega
      have hP1 : Hid (itT (j + 1) (p3 zs) = tstep (tstep (itT j (p3 zs)))) := rfl
      have hP2 : Hid (pairsR (j + 1) (p3 zs) = pairsR j (p3 zs) ++ [(tval (itT j (p3 zs)), tval (tstep (itT j (p3 zs))))]) := pairsR_succ j _
      have hlen : Hid ((pairsR j (p3 zs)).length = j) := pairsR_len j (p3 zs)
      have HOB : Hid (∀ g, (Value.slice av (pairsR j (p3 zs)).length cv).ownBlock = some g → g < wr.heap.size) := fun g hg => (World.ownsRow.lt HI.out.own g hg).2
      have hXl : X < wr.heap.size := blk_lt HI.out.hX
      have hXn : X ≠ wr.heap.size := by omega
      have hXn2 : wr.heap.size ≠ X := by omega
      have hTn : w.heap.size + 1 ≠ wr.heap.size := by have := blk_lt HI.out.hT; omega
      have hTn2 : wr.heap.size ≠ w.heap.size + 1 := by omega
      have hXT : X ≠ w.heap.size + 1 := HXT.out
      have hXT2 : w.heap.size + 1 ≠ X := fun e => hXT e.symm
      generalize itT j (p3 zs) = p at *
      generalize pairsR j (p3 zs) = qs at *
      have T1 : Hid (∀ W, Below w.heap.size w W → Calls Try.prog 40 #[.agg #[.slice c p.1.length k, .int .i64 p.2]] W fun r w' => ∃ c cap', r = .returned (.tuple #[.agg #[.slice c (tstep p).1.length cap', .int .i64 (tstep p).2], .string (tval p)]) ∧ Sl w c cap' (tstep p) ∧ Below W.heap.size W w') := fun W hW => sl_text HS.out hW
      have T2 : Hid (∀ W c cap', Sl w c cap' (tstep p) → Below w.heap.size w W → Calls Try.prog 40 #[.agg #[.slice c (tstep p).1.length cap', .int .i64 (tstep p).2]] W fun r w' => ∃ c cap', r = .returned (.tuple #[.agg #[.slice c (tstep (tstep p)).1.length cap', .int .i64 (tstep (tstep p)).2], .string (tval (tstep p))]) ∧ Sl w c cap' (tstep (tstep p)) ∧ Below W.heap.size W w') := fun W c cap' hs hW => sl_text hs hW
      rw [he0] at T1
      have HE0 : Hid (p.2 = 0) := he0
      rw [he0] at x1
      clear he0
      generalize tval p = s1 at *
      generalize tval (tstep p) = s2 at *
      generalize hq : tstep p = q at *
      generalize hq2 : tstep q = q2 at *
      generalize hl0 : p.1.length = l0 at *
      generalize hl4 : q.1.length = l4 at *
      generalize hl5 : q2.1.length = l5 at *
      generalize he4 : q.2 = e4 at *
      generalize he5 : q2.2 = e5 at *
      have HL5 : Hid (q2.1.length = l5) := hl5
      have HE5 : Hid (q2.2 = e5) := he5
      clear hq hq2 hl0 hl4 hl5 he4 he5
      go_wp2_with (first | (go_at_call 40; refine (T1.out _ (bt HI.out.bl (one_block _ _))).mono ?_; rintro e z5 ⟨c5, k5, rfl, s5, hb5⟩; clear T1; have J5 : Hid (RgI w z5 X (.slice c l0 k) p.2 (readD zs) (readN zs) (.slice av qs.length cv) qs) := (HI.out.below (one_block _ _)).below hb5; have P5 : Hid (z5.heap[wr.heap.size]? = some (.cells #[.string ByteArray.empty, .string ByteArray.empty] 45 (0, 0))) := (hb5.block _ (by simp)).trans (heap_alloc_new wr _); clear hb5 x0 x1 f0 f1 y0 y1 y2 g0 g1 g2; obtain ⟨x0, x1, f0, f1⟩ := cells2 J5.out.hX; obtain ⟨t0, t1, t2, t3⟩ := cells2 P5.out) | (go_at_call 40; have JJ : Hid (RgI w (((z5.setCell ⟨X, 0, none⟩ (.slice c5 l4 k5)).setCell ⟨X, 1, none⟩ (.int .i64 e4)).setCell ⟨wr.heap.size, 0, none⟩ (.string s1)) X (.slice c5 l4 k5) e4 (readD zs) (readN zs) (.slice av qs.length cv) qs) := J5.out.step _ _ _ HOB.out hXl; have PP : Hid ((((z5.setCell ⟨X, 0, none⟩ (.slice c5 l4 k5)).setCell ⟨X, 1, none⟩ (.int .i64 e4)).setCell ⟨wr.heap.size, 0, none⟩ (.string s1)).heap[wr.heap.size]? = some (.cells #[.string s1, .string ByteArray.empty] 45 (0, 0))) := set_blk (i := 0) (u := .string s1) ((set_far hXn2).trans ((set_far hXn2).trans P5.out)); have TT := T2.out _ _ _ s5 JJ.out.bl; refine TT.mono ?_; clear TT; rintro e z6 ⟨c6, k6, rfl, s6, hb6⟩; clear T2; have J6 : Hid (RgI w z6 X (.slice c5 l4 k5) e4 (readD zs) (readN zs) (.slice av qs.length cv) qs) := JJ.out.below hb6; have P6 : Hid (z6.heap[wr.heap.size]? = some (.cells #[.string s1, .string ByteArray.empty] 45 (0, 0))) := (hb6.block _ (blk_lt PP.out)).trans PP.out; clear hb6 JJ PP x0 x1 f0 f1 t0 t1 t2 t3; obtain ⟨x0, x1, f0, f1⟩ := cells2 J6.out.hX; obtain ⟨t0, t1, t2, t3⟩ := cells2 P6.out; obtain ⟨y0, y1, y2, g0, g1, g2⟩ := cells3 J6.out.hT) | (at_builtin; have JJ : Hid (RgI w (((z6.setCell ⟨X, 0, none⟩ (.slice c6 l5 k6)).setCell ⟨X, 1, none⟩ (.int .i64 e5)).setCell ⟨wr.heap.size, 1, none⟩ (.string s2)) X (.slice c6 l5 k6) e5 (readD zs) (readN zs) (.slice av qs.length cv) qs) := J6.out.step _ _ _ HOB.out hXl; have PL : Hid (PV ((((z6.setCell ⟨X, 0, none⟩ (.slice c6 l5 k6)).setCell ⟨X, 1, none⟩ (.int .i64 e5)).setCell ⟨wr.heap.size, 1, none⟩ (.string s2)).alloc (.cells #[.string s1, .string s2] 45)) (some ⟨z6.heap.size, 0, none⟩) [(s1, s2)]) := pl_chain z6 _ _ _ _ _ _ (s1, s2); refine wp_app_pv rfl _ _ rfl (X + 1) (.slice av qs.length cv) qs [(s1, s2)] rfl (JJ.out.below (one_block _ _)).own (some ⟨z6.heap.size, 0, none⟩) 1 rfl PL.out (fun h => by cases h) (by have := hlen.out; simp; omega) (by have := blk_lt (JJ.out.below (one_block _ (.cells #[.string s1, .string s2] 45))).hX; omega) ?_; intro v7 w7 ho7 hb7; obtain ⟨b9, l9, c9, rfl⟩ := ho7.isSlice; have J8 : Hid (RgI w (w7.setCell ⟨w.heap.size + 1, 2, none⟩ (.slice b9 l9 c9)) X (.slice c6 l5 k6) e5 (readD zs) (readN zs) (.slice b9 l9 c9) (qs ++ [(s1, s2)])) := (JJ.out.below (one_block _ _)).app ho7 hb7; have hT8 := (hb7.block _ (by have := JJ.out.ord; omega)).trans (JJ.out.below (one_block _ (.cells #[.string s1, .string s2] 45))).hT; clear hb7 ho7 PL JJ x0 x1 f0 f1 t0 t1 t2 t3 y0 y1 y2 g0 g1 g2; obtain ⟨y0, y1, y2, g0, g1, g2⟩ := cells3 hT8; clear hT8))
      refine ⟨⟨j + 1, c6, k6, .slice b9 l9 c9, by omega, by go_num, ?_, ?_⟩, by simp [intOf]; omega⟩
      · rw [hP1.out]; exact s6
      · rw [hP1.out, hP2.out, HL5.out, HE5.out]; exact J8.out
    · have HJ : Hid (j < M → (itT j (p3 zs)).2 ≠ 0) := fun h1 h2 => hgo ⟨h1, h2⟩
      have HLP : Hid (∀ q ∈ pairsR j (p3 zs), Lp q) := fun q hq => HPL.out j q hq
      have hlen : (pairsR j (p3 zs)).length ≤ 255 := by rw [pairsR_len]; omega
      have PT : Hid (∀ W, PV W av (pairsR j (p3 zs)) → Calls Try.prog 11 #[.agg #[.int .i64 (readD zs), .int .i64 (readN zs), .slice av (pairsR j (p3 zs)).length cv]] W fun e w' => ∃ v, e = .returned (.tuple #[v, .int .i64 (checkE (readD zs) (readN zs) (pairsR j (p3 zs)))]) ∧ Own w' W.heap.size v (putB (readD zs) (readN zs) (pairsR j (p3 zs))) ∧ Below W.heap.size W w') := fun W h9 => brput_any _ _ av cv _ W h9 (by omega) HLP.out
      have PVW : Hid (PV wr av (pairsR j (p3 zs))) := by
        obtain ⟨a9, c9, e9, _, h9, _⟩ := HI.out.own.view
        cases e9
        exact h9
      have PA : Hid (AllB (putB (readD zs) (readN zs) (pairsR j (p3 zs)))) := putB_all _ _ _
      -- when all is read, it is what the program reads
      have HRD : Hid ((itT j (p3 zs)).2 = 0 → pairsR j (p3 zs) = readP zs) := fun h9 => by
        have : j = M := by
          rcases Nat.lt_or_ge j M with h8 | h8
          · exact absurd h9 (HJ.out h8)
          · omega
        unfold readP
        rw [HRM.out, this]
      have HEN : Hid ((itT j (p3 zs)).2 ≠ 0 → isB zs = false) := fun h9 => by
        cases hB : isB zs
        · rfl
        · have h8 := isB_end hB
          rw [HRM.out] at h8
          have := sticky h9 hj
          rw [h8] at this
          exact absurd rfl this
      have hgo2 : j < M → ((itT j (p3 zs)).2 == 0) = false := fun h9 => by simpa using HJ.out h9
      generalize hps : pairsR j (p3 zs) = ps at *
      generalize hE9 : (itT j (p3 zs)).2 = e9 at *
      generalize hEE : checkE (readD zs) (readN zs) ps = E at *
      generalize hbs : putB (readD zs) (readN zs) ps = bs at *
      have HPS : Hid (checkE (readD zs) (readN zs) ps = E ∧ putB (readD zs) (readN zs) ps = bs) := ⟨hEE, hbs⟩
      clear hps hE9 hEE hbs hgo
      generalize (itT j (p3 zs)).1.length = l9 at *
      by_cases hlt : j < M
      · have he9 : e9 ≠ 0 := HJ.out hlt
        have hlt2 : (j : Int) < (M : Int) := by omega
        have hb9 : (e9 == 0) = false := by simpa using he9
        have HQ : Hid (isB zs = false) := HEN.out he9
        go_wp2_with (first | (go_at_call 11; refine (PT.out _ PVW.out).mono ?_; rintro e w7 ⟨v7, rfl, ho7, hb7⟩; clear PT; obtain ⟨a7, k7, rfl, n7, bv7, _, _⟩ := ho7.slice PA.out; have J7 : Hid (RgI w w7 X (.slice c l9 k) e9 (readD zs) (readN zs) (.slice av ps.length cv) ps) := HI.out.below hb7; clear x0 x1 f0 f1 y0 y1 y2 g0 g1 g2; obtain ⟨x0, x1, f0, f1⟩ := cells2 J7.out.hX; obtain ⟨y0, y1, y2, g0, g1, g2⟩ := cells3 J7.out.hT; obtain ⟨z0, z1, z2, q0, q1, q2⟩ := cells3 J7.out.hR; have cx := conv_bv bv7 n7; have cy := conv_bv (HBV.out.below J7.out.bl) HHN.out))
        refine bodyPost_ret (v := .tuple #[.agg #[.int .i64 0, .int .i64 0, .slice none 0 0], .int .i64 4]) (by simp [results, Try.results13, go_sem, z0, z1, z2]) rfl ⟨_, by rw [HG.out.1, HG.out.2.1, HG.out.2.2.2, (g_bad HQ.out).1, (g_bad HQ.out).2.1, (g_bad HQ.out).2.2.2], by rw [HG.out.2.2.1, (g_bad HQ.out).2.2.1]; exact OwnQ.nil _ _, ?_⟩
        exact ((J7.out.bl.setCell (by simp) _).setCell (by simp) _).setCell (by simp) _
      · have hlt2 : ¬ (j : Int) < (M : Int) := by omega
        by_cases he9 : e9 = 0
        · have hrd : ps = readP zs := HRD.out he9
          have hiB : isB zs = decide (E = 0 ∧ bs = zs) := by
            unfold isB
            rw [← hrd, HPS.out.1, HPS.out.2]
          have HIB : Hid (isB zs = decide (E = 0 ∧ bs = zs)) := hiB
          have HRP : Hid (ps = readP zs) := hrd
          clear hiB hrd

          by_cases hE0 : E = 0
          · subst hE0
            by_cases hz : bs = zs
            · have hstr : ((strOfNums bs).toList == (strOfNums zs).toList) = true := by rw [hz]; simp
              have HZ : Hid (bs.length = zs.length) := by rw [hz]; rfl
              have hr0 : isB zs = true := by rw [HIB.out]; simp [hz]
              clear hz
              have hstr2 : (strOfNums bs).toList = (strOfNums zs).toList := by simpa using hstr
              have HQ : Hid (isB zs = true) := hr0
              go_wp2_with (first | (go_at_call 11; refine (PT.out _ PVW.out).mono ?_; rintro e w7 ⟨v7, rfl, ho7, hb7⟩; clear PT; obtain ⟨a7, k7, rfl, n7, bv7, _, _⟩ := ho7.slice PA.out; have J7 : Hid (RgI w w7 X (.slice c l9 k) e9 (readD zs) (readN zs) (.slice av ps.length cv) ps) := HI.out.below hb7; clear x0 x1 f0 f1 y0 y1 y2 g0 g1 g2; obtain ⟨x0, x1, f0, f1⟩ := cells2 J7.out.hX; obtain ⟨y0, y1, y2, g0, g1, g2⟩ := cells3 J7.out.hT; obtain ⟨z0, z1, z2, q0, q1, q2⟩ := cells3 J7.out.hR; have cx := conv_bv bv7 n7; have cy := conv_bv (HBV.out.below J7.out.bl) HHN.out))
              refine bodyPost_ret (v := .tuple #[.agg #[.int .i64 (readD zs), .int .i64 (readN zs), .slice av ps.length cv], .int .i64 0]) (by simp [results, Try.results13, go_sem, z0, z1, z2]) rfl ⟨.slice av ps.length cv, by rw [HG.out.1, HG.out.2.1, HG.out.2.2.2, (g_good HQ.out).1, (g_good HQ.out).2.1, (g_good HQ.out).2.2.2], ?_, ?_⟩
              · rw [HG.out.2.2.1, (g_good HQ.out).2.2.1, ← HRP.out]; exact own_set3 J7.out.own (by have := J7.out.ord; omega) (by have := J7.out.ord; omega)
              · exact ((J7.out.bl.setCell (by simp) _).setCell (by simp) _).setCell (by simp) _
            · have hstr : ((strOfNums bs).toList == (strOfNums zs).toList) = false := str_ne PA.out HBV.out.1 hz
              have hr0 : isB zs = false := by rw [HIB.out]; simp [hz]
              clear hz
              have hstr2 : ¬ (strOfNums bs).toList = (strOfNums zs).toList := by simpa using hstr
              have HQ : Hid (isB zs = false) := hr0
              go_wp2_with (first | (go_at_call 11; refine (PT.out _ PVW.out).mono ?_; rintro e w7 ⟨v7, rfl, ho7, hb7⟩; clear PT; obtain ⟨a7, k7, rfl, n7, bv7, _, _⟩ := ho7.slice PA.out; have J7 : Hid (RgI w w7 X (.slice c l9 k) e9 (readD zs) (readN zs) (.slice av ps.length cv) ps) := HI.out.below hb7; clear x0 x1 f0 f1 y0 y1 y2 g0 g1 g2; obtain ⟨x0, x1, f0, f1⟩ := cells2 J7.out.hX; obtain ⟨y0, y1, y2, g0, g1, g2⟩ := cells3 J7.out.hT; obtain ⟨z0, z1, z2, q0, q1, q2⟩ := cells3 J7.out.hR; have cx := conv_bv bv7 n7; have cy := conv_bv (HBV.out.below J7.out.bl) HHN.out))
              refine bodyPost_ret (v := .tuple #[.agg #[.int .i64 0, .int .i64 0, .slice none 0 0], .int .i64 4]) (by simp [results, Try.results13, go_sem, z0, z1, z2]) rfl ⟨_, by rw [HG.out.1, HG.out.2.1, HG.out.2.2.2, (g_bad HQ.out).1, (g_bad HQ.out).2.1, (g_bad HQ.out).2.2.2], by rw [HG.out.2.2.1, (g_bad HQ.out).2.2.1]; exact OwnQ.nil _ _, ?_⟩
              exact ((J7.out.bl.setCell (by simp) _).setCell (by simp) _).setCell (by simp) _
          · have hr0 : isB zs = false := by rw [HIB.out]; simp [hE0]
            have hbE : (E == 0) = false := by simpa using hE0
            have HQ : Hid (isB zs = false) := hr0
            go_wp2_with (first | (go_at_call 11; refine (PT.out _ PVW.out).mono ?_; rintro e w7 ⟨v7, rfl, ho7, hb7⟩; clear PT; obtain ⟨a7, k7, rfl, n7, bv7, _, _⟩ := ho7.slice PA.out; have J7 : Hid (RgI w w7 X (.slice c l9 k) e9 (readD zs) (readN zs) (.slice av ps.length cv) ps) := HI.out.below hb7; clear x0 x1 f0 f1 y0 y1 y2 g0 g1 g2; obtain ⟨x0, x1, f0, f1⟩ := cells2 J7.out.hX; obtain ⟨y0, y1, y2, g0, g1, g2⟩ := cells3 J7.out.hT; obtain ⟨z0, z1, z2, q0, q1, q2⟩ := cells3 J7.out.hR; have cx := conv_bv bv7 n7; have cy := conv_bv (HBV.out.below J7.out.bl) HHN.out))
            refine bodyPost_ret (v := .tuple #[.agg #[.int .i64 0, .int .i64 0, .slice none 0 0], .int .i64 4]) (by simp [results, Try.results13, go_sem, z0, z1, z2]) rfl ⟨_, by rw [HG.out.1, HG.out.2.1, HG.out.2.2.2, (g_bad HQ.out).1, (g_bad HQ.out).2.1, (g_bad HQ.out).2.2.2], by rw [HG.out.2.2.1, (g_bad HQ.out).2.2.1]; exact OwnQ.nil _ _, ?_⟩
            exact ((J7.out.bl.setCell (by simp) _).setCell (by simp) _).setCell (by simp) _
        · have hb9 : (e9 == 0) = false := by simpa using he9
          have HQ : Hid (isB zs = false) := HEN.out he9
          go_wp2_with (first | (go_at_call 11; refine (PT.out _ PVW.out).mono ?_; rintro e w7 ⟨v7, rfl, ho7, hb7⟩; clear PT; obtain ⟨a7, k7, rfl, n7, bv7, _, _⟩ := ho7.slice PA.out; have J7 : Hid (RgI w w7 X (.slice c l9 k) e9 (readD zs) (readN zs) (.slice av ps.length cv) ps) := HI.out.below hb7; clear x0 x1 f0 f1 y0 y1 y2 g0 g1 g2; obtain ⟨x0, x1, f0, f1⟩ := cells2 J7.out.hX; obtain ⟨y0, y1, y2, g0, g1, g2⟩ := cells3 J7.out.hT; obtain ⟨z0, z1, z2, q0, q1, q2⟩ := cells3 J7.out.hR; have cx := conv_bv bv7 n7; have cy := conv_bv (HBV.out.below J7.out.bl) HHN.out))
          refine bodyPost_ret (v := .tuple #[.agg #[.int .i64 0, .int .i64 0, .slice none 0 0], .int .i64 4]) (by simp [results, Try.results13, go_sem, z0, z1, z2]) rfl ⟨_, by rw [HG.out.1, HG.out.2.1, HG.out.2.2.2, (g_bad HQ.out).1, (g_bad HQ.out).2.1, (g_bad HQ.out).2.2.2], by rw [HG.out.2.2.1, (g_bad HQ.out).2.2.1]; exact OwnQ.nil _ _, ?_⟩
          exact ((J7.out.bl.setCell (by simp) _).setCell (by simp) _).setCell (by simp) _
theorem rget2_any (a : Option Addr) (cap : Nat) (zs : List Int) (w : World) (hb : BV w a zs) (hn : a = none → cap = 0) (hcl : zs.length ≤ cap) (hcap : cap ≤ 9223372036854775807) :
    Calls Try.prog 13 #[.slice a zs.length cap] w fun e w' => ∃ v, e = .returned (.tuple #[.agg #[.int .i64 (gD zs), .int .i64 (gN zs), v], .int .i64 (gE zs)]) ∧ OwnQ w' w.heap.size v (gP zs) ∧ Below w.heap.size w w' := by
  by_cases hl : 246 < zs.length
  · have hB : isB zs = false := by
      cases hB : isB zs
      · rfl
      · have := isB_len hB; omega
    unfold gD gN gP gE
    rw [hB]
    refine (rget_long a cap zs w hl).mono ?_
    rintro e w' ⟨rfl, h⟩
    exact ⟨_, rfl, OwnQ.nil _ _, h⟩
  · exact rget_short a cap zs w hb hl hn hcl hcap
end Go.Proofs.Ytnnndkpmlpbpcaa
