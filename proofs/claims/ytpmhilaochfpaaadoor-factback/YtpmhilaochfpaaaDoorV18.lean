import Derived.Test.YtpmhilaochfpaaaDoorV8
import Derived.Test.YtpmhilaochfpaaaDoorV17
import Derived.Test.YtpmhilaochfpaaaDoorV10
namespace Go.Proofs.YtpmhilaochfpaaaDoor
set_option maxRecDepth 20000
open Go.RowKit
set_option linter.unusedVariables false
set_option linter.unusedSimpArgs false
set_option maxRecDepth 20000
theorem three_new (w : World) (o p q : Obj) : Below w.heap.size w (((w.alloc o).alloc p).alloc q) := (two_new w o p).alloc (by simp; omega) _
theorem gt3 {zs : List Int} (h : tkE zs = 3) : gtA zs = .tuple #[vv 0 0 ByteArray.empty, .int .i64 0, .int .i64 3] := by
  have : gtE zs = 3 := by unfold gtE; rw [if_pos h]
  unfold gtA; rw [this]; rfl
theorem gt4 {zs : List Int} (h3 : tkE zs ≠ 3) (h : tkE zs ≠ 0 ∨ chkE (tkK zs) (tkN zs) (tkS zs).data.toList ≠ 0) : gtA zs = .tuple #[vv 0 0 ByteArray.empty, .int .i64 0, .int .i64 4] := by
  have : gtE zs = 4 := by unfold gtE; rw [if_neg h3, if_pos h]
  unfold gtA; rw [this]; rfl
theorem gt0 {zs : List Int} (h0 : tkE zs = 0) (hc0 : chkE (tkK zs) (tkN zs) (tkS zs).data.toList = 0) : gtA zs = .tuple #[vv (tkK zs) (tkN zs) (tkS zs), .int .i64 ((zs.length : Int) - (tkZ zs).length), .int .i64 0] := by
  have : gtE zs = 0 := by unfold gtE; rw [if_neg (by rw [h0]; decide), if_neg (by simp [h0, hc0])]
  unfold gtA; rw [if_pos this]
set_option maxHeartbeats 4000000 in
theorem rget_one0 (b off len cap : Nat) (zs : List Int) (w : World) (hb : BV w (some ⟨b, off, none⟩) zs) (hl : zs.length = len) (hm : len ≤ 300) (hc : len ≤ cap) (hcm : cap ≤ 9223372036854775807) (hz : zs ≠ []) (h1 : tkK zs = 1) (hcap : ¬ cap = 1) :
    Calls Tryd.prog 30 #[.slice (some ⟨b, off, none⟩) len cap] w fun e w' => e = .returned (gtA zs) ∧ Below w.heap.size w w' := by
  have hp : 1 ≤ len := by have := List.length_pos_iff.2 hz; omega
  have hbv : ∀ w', Below w.heap.size w w' → BV w' (some ⟨b, off + 1, none⟩) (zs.drop 1) := fun w' hbw => Sub.drop b off zs 1 w' (hb.below hbw)
  obtain ⟨hall, hz' | ⟨b', off', e, hlt, hcell⟩⟩ := hb
  · exact absurd hz' hz
  obtain ⟨rfl, rfl, -⟩ : b = b' ∧ off = off' ∧ True := by simp at e; exact ⟨e.1, e.2, trivial⟩
  clear e
  have hc0 := hcell 0 (by omega)
  rw [Nat.add_zero, show zs.getD 0 0 = tkK zs from rfl, h1] at hc0
  have p1 : (0 : Int) < len := by omega
  have p2 : (1 : Int) ≤ len := by omega
  have p3 : (len : Int) ≤ cap := by omega
  have p4 : ((len : Int) == 0) = false := by rw [beq_eq_false_iff_ne]; omega
  have hdl : (zs.drop 1).length = len - 1 := by rw [List.length_drop, hl]
  have hS := tkS_le hall
  obtain ⟨hk0, hk1⟩ := tkK_b hall
  have CC := fun w' => rchk_any (tkK zs) (tkN zs) (tkS zs) w' hk0 hk1 (by omega)
  have hZ := tkZ_le zs
  rw [hl] at hZ
  have CS := fun w' hbw => rsgd_any (some ⟨b, off + 1, none⟩) (cap - 1) (zs.drop 1) 0 w' (hbv w' hbw) (by omega) (by omega)
  rw [hdl] at CS
  have t1 : tkN zs = sgdV (zs.drop 1) 0 := by unfold tkN; rw [if_pos h1]
  have t2 : tkE zs = sgdE (zs.drop 1) 0 := by unfold tkE; rw [if_neg hz, if_pos h1]
  have t3 : tkZ zs = sgdZ (zs.drop 1) 0 := by unfold tkZ; rw [if_neg hz, if_pos h1]
  have t4 : tkS zs = ByteArray.empty := by unfold tkS; rw [if_neg (by rw [h1]; decide)]
  have HG0 := @gt0 zs
  rw [← t1, ← t2, ← t3] at CS
  rw [h1, t4] at HG0 CC
  by_cases h3 : tkE zs = 3
  · have HA : Hid (gtA zs = .tuple #[vv 0 0 ByteArray.empty, .int .i64 0, .int .i64 3]) := gt3 h3
    rw [h3] at CS
    generalize gtA zs = ans at *
    generalize tkN zs = N at *
    generalize tkZ zs = Z at *
    unfold vv at CC
    clear hz h1 t1 t2 t3 t4 hall hcell hbv hdl hS HG0
    clear h3
    go_enter Tryd.func30, Tryd.ntmps30
    go_wp2_with (first | (go_at_call 44; refine (CS _ (three_new _ _ _ _)).mono ?_; rintro e w1 ⟨c, cap', rfl, hq1, hq2, _, hb1⟩; clear CS; obtain ⟨hc1, hf1⟩ := bcell hb1; have cT0 : w1.cell? ⟨w.heap.size, 0, none⟩ = some (.int .u8 0) := ((hc1 _ _ (by simp; omega)).trans (by go_simp)); have cT1 : w1.cell? ⟨w.heap.size, 1, none⟩ = some (.int .i64 0) := ((hc1 _ _ (by simp; omega)).trans (by go_simp)); have cT2 : w1.cell? ⟨w.heap.size, 2, none⟩ = some (.string ⟨#[]⟩) := ((hc1 _ _ (by simp; omega)).trans (by go_simp)); have hz0 : w.heap.size + 1 + 1 < w1.heap.size := (by { have := hb1.size; simp at this; omega }); have hz1 : w.heap.size + 1 < w1.heap.size := (by omega); have hz2 : w.heap.size < w1.heap.size := (by omega); have HB1 : Hid (Below w.heap.size w w1) := ((three_new _ _ _ _).trans (hb1.mono (by simp; omega)))))
    all_goals
      refine bodyPost_ret (v := .tuple #[vv 0 0 ByteArray.empty, .int .i64 0, .int .i64 3]) (by simp [results, Tryd.results30, go_sem, vv, cT0, cT1, cT2, hz0, hz1, hz2] <;> rfl) rfl ⟨by rw [HA.out], ?_⟩
      exact set3 (((HB1.out.setCell (p := ⟨w.heap.size + 1 + 1, 0, none⟩) (by simp; omega) _).setCell (p := ⟨w.heap.size + 1 + 1, 1, none⟩) (by simp; omega) _).setCell (p := ⟨w.heap.size + 1, 1, none⟩) (by simp) _) w.heap.size (Nat.le_refl _) _ _ _
  by_cases h0 : tkE zs = 0
  · rw [h0] at CS
    by_cases hck : chkE 1 (tkN zs) ByteArray.empty.data.toList = 0
    · have HA : Hid (gtA zs = .tuple #[vv 1 (tkN zs) ByteArray.empty, .int .i64 ((len : Int) - (tkZ zs).length), .int .i64 0]) := by
        have hx : ((zs.length : Int) - (tkZ zs).length) = ((len : Int) - (tkZ zs).length) := by rw [hl]; try omega
        show gtA zs = _
        rw [HG0 h0 hck, hx]
      generalize gtA zs = ans at *
      generalize tkN zs = N at *
      generalize tkZ zs = Z at *
      unfold vv at CC
      rw [hck] at CC
      have hwr : IntKind.i64.wrap ((len : Int) - Z.length) = (len : Int) - Z.length := wr_small _ (by omega) (by omega)
      clear hz h1 t1 t2 t3 t4 hall hcell hbv hdl hS HG0
      clear hck h0 h3
      go_enter Tryd.func30, Tryd.ntmps30
      go_wp2_with (first | (go_at_call 44; refine (CS _ (three_new _ _ _ _)).mono ?_; rintro e w1 ⟨c, cap', rfl, hq1, hq2, _, hb1⟩; clear CS; obtain ⟨hc1, hf1⟩ := bcell hb1; have cT0 : w1.cell? ⟨w.heap.size, 0, none⟩ = some (.int .u8 0) := ((hc1 _ _ (by simp; omega)).trans (by go_simp)); have cT1 : w1.cell? ⟨w.heap.size, 1, none⟩ = some (.int .i64 0) := ((hc1 _ _ (by simp; omega)).trans (by go_simp)); have cT2 : w1.cell? ⟨w.heap.size, 2, none⟩ = some (.string ⟨#[]⟩) := ((hc1 _ _ (by simp; omega)).trans (by go_simp)); have hz0 : w.heap.size + 1 + 1 < w1.heap.size := (by { have := hb1.size; simp at this; omega }); have hz1 : w.heap.size + 1 < w1.heap.size := (by omega); have hz2 : w.heap.size < w1.heap.size := (by omega); have HB1 : Hid (Below w.heap.size w w1) := ((three_new _ _ _ _).trans (hb1.mono (by simp; omega)))) | (go_at_call 40; refine (CC _).mono ?_; rintro e w2 ⟨rfl, hb2⟩; clear CC; obtain ⟨hc2, hf2⟩ := bcell hb2; have cU0 : w2.cell? ⟨w.heap.size, 0, none⟩ = some (.int .u8 0) := ((hc2 _ _ (by simp [World.setCell]; omega)).trans (by go_simp)); have cU1 : w2.cell? ⟨w.heap.size, 1, none⟩ = some (.int .i64 0) := ((hc2 _ _ (by simp [World.setCell]; omega)).trans (by go_simp)); have cU2 : w2.cell? ⟨w.heap.size, 2, none⟩ = some (.string ⟨#[]⟩) := ((hc2 _ _ (by simp [World.setCell]; omega)).trans (by go_simp)); have hy : w1.heap.size ≤ w2.heap.size := (by { have := hb2.size; simp [World.setCell] at this; omega })))
      go_region
      all_goals go_wp2
      all_goals
        refine bodyPost_ret (v := .tuple #[vv 1 N ByteArray.empty, .int .i64 ((len : Int) - Z.length), .int .i64 0]) (by simp [results, Tryd.results30, go_sem, vv, cT0, cT1, cT2, hz0, hz1, hz2, cU0, cU1, cU2, hy, hwr] <;> rfl) rfl ⟨by rw [HA.out], ?_⟩
        exact (set3 ((((HB1.out.setCell (p := ⟨w.heap.size + 1 + 1, 0, none⟩) (by simp; omega) _).setCell (p := ⟨w.heap.size + 1 + 1, 1, none⟩) (by simp; omega) _).setCell (p := ⟨w.heap.size + 1, 1, none⟩) (by simp) _).trans (hb2.mono (((HB1.out.setCell (p := ⟨w.heap.size + 1 + 1, 0, none⟩) (by simp; omega) _).setCell (p := ⟨w.heap.size + 1 + 1, 1, none⟩) (by simp; omega) _).setCell (p := ⟨w.heap.size + 1, 1, none⟩) (by simp) _).size)) w.heap.size (Nat.le_refl _) _ _ _).drew
    · have HA : Hid (gtA zs = .tuple #[vv 0 0 ByteArray.empty, .int .i64 0, .int .i64 4]) := gt4 (by rw [h0]; decide) (.inr (by rw [h1, t4]; exact hck))
      have hne : ((chkE 1 (tkN zs) ByteArray.empty.data.toList : Int) != 0) = true := by rw [bne_iff_ne]; exact hck
      generalize gtA zs = ans at *
      generalize tkN zs = N at *
      generalize tkZ zs = Z at *
      unfold vv at CC
      generalize chkE 1 N ByteArray.empty.data.toList = ce at *
      clear hz h1 t1 t2 t3 t4 hall hcell hbv hdl hS HG0
      clear hck h0 h3
      go_enter Tryd.func30, Tryd.ntmps30
      go_wp2_with (first | (go_at_call 44; refine (CS _ (three_new _ _ _ _)).mono ?_; rintro e w1 ⟨c, cap', rfl, hq1, hq2, _, hb1⟩; clear CS; obtain ⟨hc1, hf1⟩ := bcell hb1; have cT0 : w1.cell? ⟨w.heap.size, 0, none⟩ = some (.int .u8 0) := ((hc1 _ _ (by simp; omega)).trans (by go_simp)); have cT1 : w1.cell? ⟨w.heap.size, 1, none⟩ = some (.int .i64 0) := ((hc1 _ _ (by simp; omega)).trans (by go_simp)); have cT2 : w1.cell? ⟨w.heap.size, 2, none⟩ = some (.string ⟨#[]⟩) := ((hc1 _ _ (by simp; omega)).trans (by go_simp)); have hz0 : w.heap.size + 1 + 1 < w1.heap.size := (by { have := hb1.size; simp at this; omega }); have hz1 : w.heap.size + 1 < w1.heap.size := (by omega); have hz2 : w.heap.size < w1.heap.size := (by omega); have HB1 : Hid (Below w.heap.size w w1) := ((three_new _ _ _ _).trans (hb1.mono (by simp; omega)))) | (go_at_call 40; refine (CC _).mono ?_; rintro e w2 ⟨rfl, hb2⟩; clear CC; obtain ⟨hc2, hf2⟩ := bcell hb2; have cU0 : w2.cell? ⟨w.heap.size, 0, none⟩ = some (.int .u8 0) := ((hc2 _ _ (by simp [World.setCell]; omega)).trans (by go_simp)); have cU1 : w2.cell? ⟨w.heap.size, 1, none⟩ = some (.int .i64 0) := ((hc2 _ _ (by simp [World.setCell]; omega)).trans (by go_simp)); have cU2 : w2.cell? ⟨w.heap.size, 2, none⟩ = some (.string ⟨#[]⟩) := ((hc2 _ _ (by simp [World.setCell]; omega)).trans (by go_simp)); have hy : w1.heap.size ≤ w2.heap.size := (by { have := hb2.size; simp [World.setCell] at this; omega })))
      all_goals
        refine bodyPost_ret (v := .tuple #[vv 0 0 ByteArray.empty, .int .i64 0, .int .i64 4]) (by simp [results, Tryd.results30, go_sem, vv, cT0, cT1, cT2, hz0, hz1, hz2, cU0, cU1, cU2, hy] <;> rfl) rfl ⟨by rw [HA.out], ?_⟩
        exact set3 ((((HB1.out.setCell (p := ⟨w.heap.size + 1 + 1, 0, none⟩) (by simp; omega) _).setCell (p := ⟨w.heap.size + 1 + 1, 1, none⟩) (by simp; omega) _).setCell (p := ⟨w.heap.size + 1, 1, none⟩) (by simp) _).trans (hb2.mono (((HB1.out.setCell (p := ⟨w.heap.size + 1 + 1, 0, none⟩) (by simp; omega) _).setCell (p := ⟨w.heap.size + 1 + 1, 1, none⟩) (by simp; omega) _).setCell (p := ⟨w.heap.size + 1, 1, none⟩) (by simp) _).size)) w.heap.size (Nat.le_refl _) _ _ _
  · have HA : Hid (gtA zs = .tuple #[vv 0 0 ByteArray.empty, .int .i64 0, .int .i64 4]) := gt4 h3 (.inl h0)
    have b3 : (tkE zs == 3) = false := by rw [beq_eq_false_iff_ne]; exact h3
    have b0 : (tkE zs != 0) = true := by rw [bne_iff_ne]; exact h0
    generalize tkE zs = E at *
    generalize gtA zs = ans at *
    generalize tkN zs = N at *
    generalize tkZ zs = Z at *
    unfold vv at CC
    clear hz h1 t1 t2 t3 t4 hall hcell hbv hdl hS HG0
    clear h3 h0
    go_enter Tryd.func30, Tryd.ntmps30
    go_wp2_with (first | (go_at_call 44; refine (CS _ (three_new _ _ _ _)).mono ?_; rintro e w1 ⟨c, cap', rfl, hq1, hq2, _, hb1⟩; clear CS; obtain ⟨hc1, hf1⟩ := bcell hb1; have cT0 : w1.cell? ⟨w.heap.size, 0, none⟩ = some (.int .u8 0) := ((hc1 _ _ (by simp; omega)).trans (by go_simp)); have cT1 : w1.cell? ⟨w.heap.size, 1, none⟩ = some (.int .i64 0) := ((hc1 _ _ (by simp; omega)).trans (by go_simp)); have cT2 : w1.cell? ⟨w.heap.size, 2, none⟩ = some (.string ⟨#[]⟩) := ((hc1 _ _ (by simp; omega)).trans (by go_simp)); have hz0 : w.heap.size + 1 + 1 < w1.heap.size := (by { have := hb1.size; simp at this; omega }); have hz1 : w.heap.size + 1 < w1.heap.size := (by omega); have hz2 : w.heap.size < w1.heap.size := (by omega); have HB1 : Hid (Below w.heap.size w w1) := ((three_new _ _ _ _).trans (hb1.mono (by simp; omega)))))
    all_goals
      refine bodyPost_ret (v := .tuple #[vv 0 0 ByteArray.empty, .int .i64 0, .int .i64 4]) (by simp [results, Tryd.results30, go_sem, vv, cT0, cT1, cT2, hz0, hz1, hz2] <;> rfl) rfl ⟨by rw [HA.out], ?_⟩
      exact set3 (((HB1.out.setCell (p := ⟨w.heap.size + 1 + 1, 0, none⟩) (by simp; omega) _).setCell (p := ⟨w.heap.size + 1 + 1, 1, none⟩) (by simp; omega) _).setCell (p := ⟨w.heap.size + 1, 1, none⟩) (by simp) _) w.heap.size (Nat.le_refl _) _ _ _
set_option maxHeartbeats 4000000 in
theorem rget_one1 (b off len cap : Nat) (zs : List Int) (w : World) (hb : BV w (some ⟨b, off, none⟩) zs) (hl : zs.length = len) (hm : len ≤ 300) (hc : len ≤ cap) (hcm : cap ≤ 9223372036854775807) (hz : zs ≠ []) (h1 : tkK zs = 1) (hcap : cap = 1) :
    Calls Tryd.prog 30 #[.slice (some ⟨b, off, none⟩) len cap] w fun e w' => e = .returned (gtA zs) ∧ Below w.heap.size w w' := by
  have hp : 1 ≤ len := by have := List.length_pos_iff.2 hz; omega
  have hbv : ∀ w', Below w.heap.size w w' → BV w' (some ⟨b, off, none⟩) (zs.drop 1) := fun w' hbw => Sub.tail (some ⟨b, off, none⟩) (some ⟨b, off, none⟩) zs 1 (by omega) w' (hb.below hbw)
  obtain ⟨hall, hz' | ⟨b', off', e, hlt, hcell⟩⟩ := hb
  · exact absurd hz' hz
  obtain ⟨rfl, rfl, -⟩ : b = b' ∧ off = off' ∧ True := by simp at e; exact ⟨e.1, e.2, trivial⟩
  clear e
  have hc0 := hcell 0 (by omega)
  rw [Nat.add_zero, show zs.getD 0 0 = tkK zs from rfl, h1] at hc0
  have p1 : (0 : Int) < len := by omega
  have p2 : (1 : Int) ≤ len := by omega
  have p3 : (len : Int) ≤ cap := by omega
  have p4 : ((len : Int) == 0) = false := by rw [beq_eq_false_iff_ne]; omega
  have hdl : (zs.drop 1).length = len - 1 := by rw [List.length_drop, hl]
  have hS := tkS_le hall
  obtain ⟨hk0, hk1⟩ := tkK_b hall
  have CC := fun w' => rchk_any (tkK zs) (tkN zs) (tkS zs) w' hk0 hk1 (by omega)
  have hZ := tkZ_le zs
  rw [hl] at hZ
  obtain rfl : len = 1 := by omega
  subst hcap
  have CS := fun w' hbw => rsgd_any (some ⟨b, off, none⟩) 0 (zs.drop 1) 0 w' (hbv w' hbw) (by omega) (by omega)
  rw [hdl] at CS
  have t1 : tkN zs = sgdV (zs.drop 1) 0 := by unfold tkN; rw [if_pos h1]
  have t2 : tkE zs = sgdE (zs.drop 1) 0 := by unfold tkE; rw [if_neg hz, if_pos h1]
  have t3 : tkZ zs = sgdZ (zs.drop 1) 0 := by unfold tkZ; rw [if_neg hz, if_pos h1]
  have t4 : tkS zs = ByteArray.empty := by unfold tkS; rw [if_neg (by rw [h1]; decide)]
  have HG0 := @gt0 zs
  rw [← t1, ← t2, ← t3] at CS
  rw [h1, t4] at HG0 CC
  by_cases h3 : tkE zs = 3
  · have HA : Hid (gtA zs = .tuple #[vv 0 0 ByteArray.empty, .int .i64 0, .int .i64 3]) := gt3 h3
    rw [h3] at CS
    generalize gtA zs = ans at *
    generalize tkN zs = N at *
    generalize tkZ zs = Z at *
    unfold vv at CC
    clear hz h1 t1 t2 t3 t4 hall hcell hbv hdl hS HG0
    clear h3
    go_enter Tryd.func30, Tryd.ntmps30
    go_wp2_with (first | (go_at_call 44; refine (CS _ (three_new _ _ _ _)).mono ?_; rintro e w1 ⟨c, cap', rfl, hq1, hq2, _, hb1⟩; clear CS; obtain ⟨hc1, hf1⟩ := bcell hb1; have cT0 : w1.cell? ⟨w.heap.size, 0, none⟩ = some (.int .u8 0) := ((hc1 _ _ (by simp; omega)).trans (by go_simp)); have cT1 : w1.cell? ⟨w.heap.size, 1, none⟩ = some (.int .i64 0) := ((hc1 _ _ (by simp; omega)).trans (by go_simp)); have cT2 : w1.cell? ⟨w.heap.size, 2, none⟩ = some (.string ⟨#[]⟩) := ((hc1 _ _ (by simp; omega)).trans (by go_simp)); have hz0 : w.heap.size + 1 + 1 < w1.heap.size := (by { have := hb1.size; simp at this; omega }); have hz1 : w.heap.size + 1 < w1.heap.size := (by omega); have hz2 : w.heap.size < w1.heap.size := (by omega); have HB1 : Hid (Below w.heap.size w w1) := ((three_new _ _ _ _).trans (hb1.mono (by simp; omega)))))
    all_goals
      refine bodyPost_ret (v := .tuple #[vv 0 0 ByteArray.empty, .int .i64 0, .int .i64 3]) (by simp [results, Tryd.results30, go_sem, vv, cT0, cT1, cT2, hz0, hz1, hz2] <;> rfl) rfl ⟨by rw [HA.out], ?_⟩
      exact set3 (((HB1.out.setCell (p := ⟨w.heap.size + 1 + 1, 0, none⟩) (by simp; omega) _).setCell (p := ⟨w.heap.size + 1 + 1, 1, none⟩) (by simp; omega) _).setCell (p := ⟨w.heap.size + 1, 1, none⟩) (by simp) _) w.heap.size (Nat.le_refl _) _ _ _
  by_cases h0 : tkE zs = 0
  · rw [h0] at CS
    by_cases hck : chkE 1 (tkN zs) ByteArray.empty.data.toList = 0
    · have HA : Hid (gtA zs = .tuple #[vv 1 (tkN zs) ByteArray.empty, .int .i64 ((1 : Int) - (tkZ zs).length), .int .i64 0]) := by
        have hx : ((zs.length : Int) - (tkZ zs).length) = ((1 : Int) - (tkZ zs).length) := by rw [hl]; try omega
        show gtA zs = _
        rw [HG0 h0 hck, hx]
      generalize gtA zs = ans at *
      generalize tkN zs = N at *
      generalize tkZ zs = Z at *
      unfold vv at CC
      rw [hck] at CC
      have hwr : IntKind.i64.wrap ((1 : Int) - Z.length) = (1 : Int) - Z.length := wr_small _ (by omega) (by omega)
      clear hz h1 t1 t2 t3 t4 hall hcell hbv hdl hS HG0
      clear hck h0 h3
      go_enter Tryd.func30, Tryd.ntmps30
      go_wp2_with (first | (go_at_call 44; refine (CS _ (three_new _ _ _ _)).mono ?_; rintro e w1 ⟨c, cap', rfl, hq1, hq2, _, hb1⟩; clear CS; obtain ⟨hc1, hf1⟩ := bcell hb1; have cT0 : w1.cell? ⟨w.heap.size, 0, none⟩ = some (.int .u8 0) := ((hc1 _ _ (by simp; omega)).trans (by go_simp)); have cT1 : w1.cell? ⟨w.heap.size, 1, none⟩ = some (.int .i64 0) := ((hc1 _ _ (by simp; omega)).trans (by go_simp)); have cT2 : w1.cell? ⟨w.heap.size, 2, none⟩ = some (.string ⟨#[]⟩) := ((hc1 _ _ (by simp; omega)).trans (by go_simp)); have hz0 : w.heap.size + 1 + 1 < w1.heap.size := (by { have := hb1.size; simp at this; omega }); have hz1 : w.heap.size + 1 < w1.heap.size := (by omega); have hz2 : w.heap.size < w1.heap.size := (by omega); have HB1 : Hid (Below w.heap.size w w1) := ((three_new _ _ _ _).trans (hb1.mono (by simp; omega)))) | (go_at_call 40; refine (CC _).mono ?_; rintro e w2 ⟨rfl, hb2⟩; clear CC; obtain ⟨hc2, hf2⟩ := bcell hb2; have cU0 : w2.cell? ⟨w.heap.size, 0, none⟩ = some (.int .u8 0) := ((hc2 _ _ (by simp [World.setCell]; omega)).trans (by go_simp)); have cU1 : w2.cell? ⟨w.heap.size, 1, none⟩ = some (.int .i64 0) := ((hc2 _ _ (by simp [World.setCell]; omega)).trans (by go_simp)); have cU2 : w2.cell? ⟨w.heap.size, 2, none⟩ = some (.string ⟨#[]⟩) := ((hc2 _ _ (by simp [World.setCell]; omega)).trans (by go_simp)); have hy : w1.heap.size ≤ w2.heap.size := (by { have := hb2.size; simp [World.setCell] at this; omega })))
      go_region
      all_goals go_wp2
      all_goals
        refine bodyPost_ret (v := .tuple #[vv 1 N ByteArray.empty, .int .i64 ((1 : Int) - Z.length), .int .i64 0]) (by simp [results, Tryd.results30, go_sem, vv, cT0, cT1, cT2, hz0, hz1, hz2, cU0, cU1, cU2, hy, hwr] <;> rfl) rfl ⟨by rw [HA.out], ?_⟩
        exact (set3 ((((HB1.out.setCell (p := ⟨w.heap.size + 1 + 1, 0, none⟩) (by simp; omega) _).setCell (p := ⟨w.heap.size + 1 + 1, 1, none⟩) (by simp; omega) _).setCell (p := ⟨w.heap.size + 1, 1, none⟩) (by simp) _).trans (hb2.mono (((HB1.out.setCell (p := ⟨w.heap.size + 1 + 1, 0, none⟩) (by simp; omega) _).setCell (p := ⟨w.heap.size + 1 + 1, 1, none⟩) (by simp; omega) _).setCell (p := ⟨w.heap.size + 1, 1, none⟩) (by simp) _).size)) w.heap.size (Nat.le_refl _) _ _ _).drew
    · have HA : Hid (gtA zs = .tuple #[vv 0 0 ByteArray.empty, .int .i64 0, .int .i64 4]) := gt4 (by rw [h0]; decide) (.inr (by rw [h1, t4]; exact hck))
      have hne : ((chkE 1 (tkN zs) ByteArray.empty.data.toList : Int) != 0) = true := by rw [bne_iff_ne]; exact hck
      generalize gtA zs = ans at *
      generalize tkN zs = N at *
      generalize tkZ zs = Z at *
      unfold vv at CC
      generalize chkE 1 N ByteArray.empty.data.toList = ce at *
      clear hz h1 t1 t2 t3 t4 hall hcell hbv hdl hS HG0
      clear hck h0 h3
      go_enter Tryd.func30, Tryd.ntmps30
      go_wp2_with (first | (go_at_call 44; refine (CS _ (three_new _ _ _ _)).mono ?_; rintro e w1 ⟨c, cap', rfl, hq1, hq2, _, hb1⟩; clear CS; obtain ⟨hc1, hf1⟩ := bcell hb1; have cT0 : w1.cell? ⟨w.heap.size, 0, none⟩ = some (.int .u8 0) := ((hc1 _ _ (by simp; omega)).trans (by go_simp)); have cT1 : w1.cell? ⟨w.heap.size, 1, none⟩ = some (.int .i64 0) := ((hc1 _ _ (by simp; omega)).trans (by go_simp)); have cT2 : w1.cell? ⟨w.heap.size, 2, none⟩ = some (.string ⟨#[]⟩) := ((hc1 _ _ (by simp; omega)).trans (by go_simp)); have hz0 : w.heap.size + 1 + 1 < w1.heap.size := (by { have := hb1.size; simp at this; omega }); have hz1 : w.heap.size + 1 < w1.heap.size := (by omega); have hz2 : w.heap.size < w1.heap.size := (by omega); have HB1 : Hid (Below w.heap.size w w1) := ((three_new _ _ _ _).trans (hb1.mono (by simp; omega)))) | (go_at_call 40; refine (CC _).mono ?_; rintro e w2 ⟨rfl, hb2⟩; clear CC; obtain ⟨hc2, hf2⟩ := bcell hb2; have cU0 : w2.cell? ⟨w.heap.size, 0, none⟩ = some (.int .u8 0) := ((hc2 _ _ (by simp [World.setCell]; omega)).trans (by go_simp)); have cU1 : w2.cell? ⟨w.heap.size, 1, none⟩ = some (.int .i64 0) := ((hc2 _ _ (by simp [World.setCell]; omega)).trans (by go_simp)); have cU2 : w2.cell? ⟨w.heap.size, 2, none⟩ = some (.string ⟨#[]⟩) := ((hc2 _ _ (by simp [World.setCell]; omega)).trans (by go_simp)); have hy : w1.heap.size ≤ w2.heap.size := (by { have := hb2.size; simp [World.setCell] at this; omega })))
      all_goals
        refine bodyPost_ret (v := .tuple #[vv 0 0 ByteArray.empty, .int .i64 0, .int .i64 4]) (by simp [results, Tryd.results30, go_sem, vv, cT0, cT1, cT2, hz0, hz1, hz2, cU0, cU1, cU2, hy] <;> rfl) rfl ⟨by rw [HA.out], ?_⟩
        exact set3 ((((HB1.out.setCell (p := ⟨w.heap.size + 1 + 1, 0, none⟩) (by simp; omega) _).setCell (p := ⟨w.heap.size + 1 + 1, 1, none⟩) (by simp; omega) _).setCell (p := ⟨w.heap.size + 1, 1, none⟩) (by simp) _).trans (hb2.mono (((HB1.out.setCell (p := ⟨w.heap.size + 1 + 1, 0, none⟩) (by simp; omega) _).setCell (p := ⟨w.heap.size + 1 + 1, 1, none⟩) (by simp; omega) _).setCell (p := ⟨w.heap.size + 1, 1, none⟩) (by simp) _).size)) w.heap.size (Nat.le_refl _) _ _ _
  · have HA : Hid (gtA zs = .tuple #[vv 0 0 ByteArray.empty, .int .i64 0, .int .i64 4]) := gt4 h3 (.inl h0)
    have b3 : (tkE zs == 3) = false := by rw [beq_eq_false_iff_ne]; exact h3
    have b0 : (tkE zs != 0) = true := by rw [bne_iff_ne]; exact h0
    generalize tkE zs = E at *
    generalize gtA zs = ans at *
    generalize tkN zs = N at *
    generalize tkZ zs = Z at *
    unfold vv at CC
    clear hz h1 t1 t2 t3 t4 hall hcell hbv hdl hS HG0
    clear h3 h0
    go_enter Tryd.func30, Tryd.ntmps30
    go_wp2_with (first | (go_at_call 44; refine (CS _ (three_new _ _ _ _)).mono ?_; rintro e w1 ⟨c, cap', rfl, hq1, hq2, _, hb1⟩; clear CS; obtain ⟨hc1, hf1⟩ := bcell hb1; have cT0 : w1.cell? ⟨w.heap.size, 0, none⟩ = some (.int .u8 0) := ((hc1 _ _ (by simp; omega)).trans (by go_simp)); have cT1 : w1.cell? ⟨w.heap.size, 1, none⟩ = some (.int .i64 0) := ((hc1 _ _ (by simp; omega)).trans (by go_simp)); have cT2 : w1.cell? ⟨w.heap.size, 2, none⟩ = some (.string ⟨#[]⟩) := ((hc1 _ _ (by simp; omega)).trans (by go_simp)); have hz0 : w.heap.size + 1 + 1 < w1.heap.size := (by { have := hb1.size; simp at this; omega }); have hz1 : w.heap.size + 1 < w1.heap.size := (by omega); have hz2 : w.heap.size < w1.heap.size := (by omega); have HB1 : Hid (Below w.heap.size w w1) := ((three_new _ _ _ _).trans (hb1.mono (by simp; omega)))))
    all_goals
      refine bodyPost_ret (v := .tuple #[vv 0 0 ByteArray.empty, .int .i64 0, .int .i64 4]) (by simp [results, Tryd.results30, go_sem, vv, cT0, cT1, cT2, hz0, hz1, hz2] <;> rfl) rfl ⟨by rw [HA.out], ?_⟩
      exact set3 (((HB1.out.setCell (p := ⟨w.heap.size + 1 + 1, 0, none⟩) (by simp; omega) _).setCell (p := ⟨w.heap.size + 1 + 1, 1, none⟩) (by simp; omega) _).setCell (p := ⟨w.heap.size + 1, 1, none⟩) (by simp) _) w.heap.size (Nat.le_refl _) _ _ _
set_option maxHeartbeats 4000000 in
theorem rget_two0 (b off len cap : Nat) (zs : List Int) (w : World) (hb : BV w (some ⟨b, off, none⟩) zs) (hl : zs.length = len) (hm : len ≤ 300) (hc : len ≤ cap) (hcm : cap ≤ 9223372036854775807) (hz : zs ≠ []) (h2 : tkK zs = 2) (hcap : ¬ cap = 1) :
    Calls Tryd.prog 30 #[.slice (some ⟨b, off, none⟩) len cap] w fun e w' => e = .returned (gtA zs) ∧ Below w.heap.size w w' := by
  have hp : 1 ≤ len := by have := List.length_pos_iff.2 hz; omega
  have hbv : ∀ w', Below w.heap.size w w' → BV w' (some ⟨b, off + 1, none⟩) (zs.drop 1) := fun w' hbw => Sub.drop b off zs 1 w' (hb.below hbw)
  obtain ⟨hall, hz' | ⟨b', off', e, hlt, hcell⟩⟩ := hb
  · exact absurd hz' hz
  obtain ⟨rfl, rfl, -⟩ : b = b' ∧ off = off' ∧ True := by simp at e; exact ⟨e.1, e.2, trivial⟩
  clear e
  have hc0 := hcell 0 (by omega)
  rw [Nat.add_zero, show zs.getD 0 0 = tkK zs from rfl, h2] at hc0
  have p1 : (0 : Int) < len := by omega
  have p2 : (1 : Int) ≤ len := by omega
  have p3 : (len : Int) ≤ cap := by omega
  have p4 : ((len : Int) == 0) = false := by rw [beq_eq_false_iff_ne]; omega
  have hdl : (zs.drop 1).length = len - 1 := by rw [List.length_drop, hl]
  have hS := tkS_le hall
  obtain ⟨hk0, hk1⟩ := tkK_b hall
  have CC := fun w' => rchk_any (tkK zs) (tkN zs) (tkS zs) w' hk0 hk1 (by omega)
  have hZ := tkZ_le zs
  rw [hl] at hZ
  have CS := fun w' hbw => rtxt_any (some ⟨b, off + 1, none⟩) (cap - 1) (zs.drop 1) 0 w' (hbv w' hbw) (by omega) (by omega)
  rw [hdl] at CS
  have h1 : ¬ tkK zs = 1 := by rw [h2]; decide
  have t1 : tkN zs = 0 := by unfold tkN; rw [if_neg h1]
  have t2 : tkE zs = rtxE (zs.drop 1) 0 := by unfold tkE; rw [if_neg hz, if_neg h1, if_pos h2]
  have t3 : tkZ zs = rtxZ (zs.drop 1) 0 := by unfold tkZ; rw [if_neg hz, if_neg h1, if_pos h2]
  have t4 : tkS zs = rtxS (zs.drop 1) 0 := by unfold tkS; rw [if_pos h2]
  have HG0 := @gt0 zs
  rw [← t2, ← t3, ← t4] at CS
  rw [h2, t1] at HG0 CC
  by_cases h3 : tkE zs = 3
  · have HA : Hid (gtA zs = .tuple #[vv 0 0 ByteArray.empty, .int .i64 0, .int .i64 3]) := gt3 h3
    rw [h3] at CS
    generalize gtA zs = ans at *
    generalize tkS zs = S at *
    generalize tkZ zs = Z at *
    unfold vv at CC
    clear hz h1 h2 t1 t2 t3 t4 hall hcell hbv hdl hS HG0
    clear h3
    go_enter Tryd.func30, Tryd.ntmps30
    go_wp2_with (first | (go_at_call 45; refine (CS _ (three_new _ _ _ _)).mono ?_; rintro e w1 ⟨c, cap', rfl, hq1, hq2, _, hb1⟩; clear CS; obtain ⟨hc1, hf1⟩ := bcell hb1; have cT0 : w1.cell? ⟨w.heap.size, 0, none⟩ = some (.int .u8 0) := ((hc1 _ _ (by simp; omega)).trans (by go_simp)); have cT1 : w1.cell? ⟨w.heap.size, 1, none⟩ = some (.int .i64 0) := ((hc1 _ _ (by simp; omega)).trans (by go_simp)); have cT2 : w1.cell? ⟨w.heap.size, 2, none⟩ = some (.string ⟨#[]⟩) := ((hc1 _ _ (by simp; omega)).trans (by go_simp)); have hz0 : w.heap.size + 1 + 1 < w1.heap.size := (by { have := hb1.size; simp at this; omega }); have hz1 : w.heap.size + 1 < w1.heap.size := (by omega); have hz2 : w.heap.size < w1.heap.size := (by omega); have HB1 : Hid (Below w.heap.size w w1) := ((three_new _ _ _ _).trans (hb1.mono (by simp; omega)))))
    all_goals
      refine bodyPost_ret (v := .tuple #[vv 0 0 ByteArray.empty, .int .i64 0, .int .i64 3]) (by simp [results, Tryd.results30, go_sem, vv, cT0, cT1, cT2, hz0, hz1, hz2] <;> rfl) rfl ⟨by rw [HA.out], ?_⟩
      exact set3 (((HB1.out.setCell (p := ⟨w.heap.size + 1 + 1, 0, none⟩) (by simp; omega) _).setCell (p := ⟨w.heap.size + 1 + 1, 1, none⟩) (by simp; omega) _).setCell (p := ⟨w.heap.size + 1, 2, none⟩) (by simp) _) w.heap.size (Nat.le_refl _) _ _ _
  by_cases h0 : tkE zs = 0
  · rw [h0] at CS
    by_cases hck : chkE 2 0 (tkS zs).data.toList = 0
    · have HA : Hid (gtA zs = .tuple #[vv 2 0 (tkS zs), .int .i64 ((len : Int) - (tkZ zs).length), .int .i64 0]) := by
        have hx : ((zs.length : Int) - (tkZ zs).length) = ((len : Int) - (tkZ zs).length) := by rw [hl]; try omega
        show gtA zs = _
        rw [HG0 h0 hck, hx]
      generalize gtA zs = ans at *
      generalize tkS zs = S at *
      generalize tkZ zs = Z at *
      unfold vv at CC
      rw [hck] at CC
      have hwr : IntKind.i64.wrap ((len : Int) - Z.length) = (len : Int) - Z.length := wr_small _ (by omega) (by omega)
      clear hz h1 h2 t1 t2 t3 t4 hall hcell hbv hdl hS HG0
      clear hck h0 h3
      go_enter Tryd.func30, Tryd.ntmps30
      go_wp2_with (first | (go_at_call 45; refine (CS _ (three_new _ _ _ _)).mono ?_; rintro e w1 ⟨c, cap', rfl, hq1, hq2, _, hb1⟩; clear CS; obtain ⟨hc1, hf1⟩ := bcell hb1; have cT0 : w1.cell? ⟨w.heap.size, 0, none⟩ = some (.int .u8 0) := ((hc1 _ _ (by simp; omega)).trans (by go_simp)); have cT1 : w1.cell? ⟨w.heap.size, 1, none⟩ = some (.int .i64 0) := ((hc1 _ _ (by simp; omega)).trans (by go_simp)); have cT2 : w1.cell? ⟨w.heap.size, 2, none⟩ = some (.string ⟨#[]⟩) := ((hc1 _ _ (by simp; omega)).trans (by go_simp)); have hz0 : w.heap.size + 1 + 1 < w1.heap.size := (by { have := hb1.size; simp at this; omega }); have hz1 : w.heap.size + 1 < w1.heap.size := (by omega); have hz2 : w.heap.size < w1.heap.size := (by omega); have HB1 : Hid (Below w.heap.size w w1) := ((three_new _ _ _ _).trans (hb1.mono (by simp; omega)))) | (go_at_call 40; refine (CC _).mono ?_; rintro e w2 ⟨rfl, hb2⟩; clear CC; obtain ⟨hc2, hf2⟩ := bcell hb2; have cU0 : w2.cell? ⟨w.heap.size, 0, none⟩ = some (.int .u8 0) := ((hc2 _ _ (by simp [World.setCell]; omega)).trans (by go_simp)); have cU1 : w2.cell? ⟨w.heap.size, 1, none⟩ = some (.int .i64 0) := ((hc2 _ _ (by simp [World.setCell]; omega)).trans (by go_simp)); have cU2 : w2.cell? ⟨w.heap.size, 2, none⟩ = some (.string ⟨#[]⟩) := ((hc2 _ _ (by simp [World.setCell]; omega)).trans (by go_simp)); have hy : w1.heap.size ≤ w2.heap.size := (by { have := hb2.size; simp [World.setCell] at this; omega })))
      go_region
      all_goals go_wp2
      all_goals
        refine bodyPost_ret (v := .tuple #[vv 2 0 S, .int .i64 ((len : Int) - Z.length), .int .i64 0]) (by simp [results, Tryd.results30, go_sem, vv, cT0, cT1, cT2, hz0, hz1, hz2, cU0, cU1, cU2, hy, hwr] <;> rfl) rfl ⟨by rw [HA.out], ?_⟩
        exact (set3 ((((HB1.out.setCell (p := ⟨w.heap.size + 1 + 1, 0, none⟩) (by simp; omega) _).setCell (p := ⟨w.heap.size + 1 + 1, 1, none⟩) (by simp; omega) _).setCell (p := ⟨w.heap.size + 1, 2, none⟩) (by simp) _).trans (hb2.mono (((HB1.out.setCell (p := ⟨w.heap.size + 1 + 1, 0, none⟩) (by simp; omega) _).setCell (p := ⟨w.heap.size + 1 + 1, 1, none⟩) (by simp; omega) _).setCell (p := ⟨w.heap.size + 1, 2, none⟩) (by simp) _).size)) w.heap.size (Nat.le_refl _) _ _ _).drew
    · have HA : Hid (gtA zs = .tuple #[vv 0 0 ByteArray.empty, .int .i64 0, .int .i64 4]) := gt4 (by rw [h0]; decide) (.inr (by rw [h2, t1]; exact hck))
      have hne : ((chkE 2 0 (tkS zs).data.toList : Int) != 0) = true := by rw [bne_iff_ne]; exact hck
      generalize gtA zs = ans at *
      generalize tkS zs = S at *
      generalize tkZ zs = Z at *
      unfold vv at CC
      generalize chkE 2 0 S.data.toList = ce at *
      clear hz h1 h2 t1 t2 t3 t4 hall hcell hbv hdl hS HG0
      clear hck h0 h3
      go_enter Tryd.func30, Tryd.ntmps30
      go_wp2_with (first | (go_at_call 45; refine (CS _ (three_new _ _ _ _)).mono ?_; rintro e w1 ⟨c, cap', rfl, hq1, hq2, _, hb1⟩; clear CS; obtain ⟨hc1, hf1⟩ := bcell hb1; have cT0 : w1.cell? ⟨w.heap.size, 0, none⟩ = some (.int .u8 0) := ((hc1 _ _ (by simp; omega)).trans (by go_simp)); have cT1 : w1.cell? ⟨w.heap.size, 1, none⟩ = some (.int .i64 0) := ((hc1 _ _ (by simp; omega)).trans (by go_simp)); have cT2 : w1.cell? ⟨w.heap.size, 2, none⟩ = some (.string ⟨#[]⟩) := ((hc1 _ _ (by simp; omega)).trans (by go_simp)); have hz0 : w.heap.size + 1 + 1 < w1.heap.size := (by { have := hb1.size; simp at this; omega }); have hz1 : w.heap.size + 1 < w1.heap.size := (by omega); have hz2 : w.heap.size < w1.heap.size := (by omega); have HB1 : Hid (Below w.heap.size w w1) := ((three_new _ _ _ _).trans (hb1.mono (by simp; omega)))) | (go_at_call 40; refine (CC _).mono ?_; rintro e w2 ⟨rfl, hb2⟩; clear CC; obtain ⟨hc2, hf2⟩ := bcell hb2; have cU0 : w2.cell? ⟨w.heap.size, 0, none⟩ = some (.int .u8 0) := ((hc2 _ _ (by simp [World.setCell]; omega)).trans (by go_simp)); have cU1 : w2.cell? ⟨w.heap.size, 1, none⟩ = some (.int .i64 0) := ((hc2 _ _ (by simp [World.setCell]; omega)).trans (by go_simp)); have cU2 : w2.cell? ⟨w.heap.size, 2, none⟩ = some (.string ⟨#[]⟩) := ((hc2 _ _ (by simp [World.setCell]; omega)).trans (by go_simp)); have hy : w1.heap.size ≤ w2.heap.size := (by { have := hb2.size; simp [World.setCell] at this; omega })))
      all_goals
        refine bodyPost_ret (v := .tuple #[vv 0 0 ByteArray.empty, .int .i64 0, .int .i64 4]) (by simp [results, Tryd.results30, go_sem, vv, cT0, cT1, cT2, hz0, hz1, hz2, cU0, cU1, cU2, hy] <;> rfl) rfl ⟨by rw [HA.out], ?_⟩
        exact set3 ((((HB1.out.setCell (p := ⟨w.heap.size + 1 + 1, 0, none⟩) (by simp; omega) _).setCell (p := ⟨w.heap.size + 1 + 1, 1, none⟩) (by simp; omega) _).setCell (p := ⟨w.heap.size + 1, 2, none⟩) (by simp) _).trans (hb2.mono (((HB1.out.setCell (p := ⟨w.heap.size + 1 + 1, 0, none⟩) (by simp; omega) _).setCell (p := ⟨w.heap.size + 1 + 1, 1, none⟩) (by simp; omega) _).setCell (p := ⟨w.heap.size + 1, 2, none⟩) (by simp) _).size)) w.heap.size (Nat.le_refl _) _ _ _
  · have HA : Hid (gtA zs = .tuple #[vv 0 0 ByteArray.empty, .int .i64 0, .int .i64 4]) := gt4 h3 (.inl h0)
    have b3 : (tkE zs == 3) = false := by rw [beq_eq_false_iff_ne]; exact h3
    have b0 : (tkE zs != 0) = true := by rw [bne_iff_ne]; exact h0
    generalize tkE zs = E at *
    generalize gtA zs = ans at *
    generalize tkS zs = S at *
    generalize tkZ zs = Z at *
    unfold vv at CC
    clear hz h1 h2 t1 t2 t3 t4 hall hcell hbv hdl hS HG0
    clear h3 h0
    go_enter Tryd.func30, Tryd.ntmps30
    go_wp2_with (first | (go_at_call 45; refine (CS _ (three_new _ _ _ _)).mono ?_; rintro e w1 ⟨c, cap', rfl, hq1, hq2, _, hb1⟩; clear CS; obtain ⟨hc1, hf1⟩ := bcell hb1; have cT0 : w1.cell? ⟨w.heap.size, 0, none⟩ = some (.int .u8 0) := ((hc1 _ _ (by simp; omega)).trans (by go_simp)); have cT1 : w1.cell? ⟨w.heap.size, 1, none⟩ = some (.int .i64 0) := ((hc1 _ _ (by simp; omega)).trans (by go_simp)); have cT2 : w1.cell? ⟨w.heap.size, 2, none⟩ = some (.string ⟨#[]⟩) := ((hc1 _ _ (by simp; omega)).trans (by go_simp)); have hz0 : w.heap.size + 1 + 1 < w1.heap.size := (by { have := hb1.size; simp at this; omega }); have hz1 : w.heap.size + 1 < w1.heap.size := (by omega); have hz2 : w.heap.size < w1.heap.size := (by omega); have HB1 : Hid (Below w.heap.size w w1) := ((three_new _ _ _ _).trans (hb1.mono (by simp; omega)))))
    all_goals
      refine bodyPost_ret (v := .tuple #[vv 0 0 ByteArray.empty, .int .i64 0, .int .i64 4]) (by simp [results, Tryd.results30, go_sem, vv, cT0, cT1, cT2, hz0, hz1, hz2] <;> rfl) rfl ⟨by rw [HA.out], ?_⟩
      exact set3 (((HB1.out.setCell (p := ⟨w.heap.size + 1 + 1, 0, none⟩) (by simp; omega) _).setCell (p := ⟨w.heap.size + 1 + 1, 1, none⟩) (by simp; omega) _).setCell (p := ⟨w.heap.size + 1, 2, none⟩) (by simp) _) w.heap.size (Nat.le_refl _) _ _ _
set_option maxHeartbeats 4000000 in
theorem rget_two1 (b off len cap : Nat) (zs : List Int) (w : World) (hb : BV w (some ⟨b, off, none⟩) zs) (hl : zs.length = len) (hm : len ≤ 300) (hc : len ≤ cap) (hcm : cap ≤ 9223372036854775807) (hz : zs ≠ []) (h2 : tkK zs = 2) (hcap : cap = 1) :
    Calls Tryd.prog 30 #[.slice (some ⟨b, off, none⟩) len cap] w fun e w' => e = .returned (gtA zs) ∧ Below w.heap.size w w' := by
  have hp : 1 ≤ len := by have := List.length_pos_iff.2 hz; omega
  have hbv : ∀ w', Below w.heap.size w w' → BV w' (some ⟨b, off, none⟩) (zs.drop 1) := fun w' hbw => Sub.tail (some ⟨b, off, none⟩) (some ⟨b, off, none⟩) zs 1 (by omega) w' (hb.below hbw)
  obtain ⟨hall, hz' | ⟨b', off', e, hlt, hcell⟩⟩ := hb
  · exact absurd hz' hz
  obtain ⟨rfl, rfl, -⟩ : b = b' ∧ off = off' ∧ True := by simp at e; exact ⟨e.1, e.2, trivial⟩
  clear e
  have hc0 := hcell 0 (by omega)
  rw [Nat.add_zero, show zs.getD 0 0 = tkK zs from rfl, h2] at hc0
  have p1 : (0 : Int) < len := by omega
  have p2 : (1 : Int) ≤ len := by omega
  have p3 : (len : Int) ≤ cap := by omega
  have p4 : ((len : Int) == 0) = false := by rw [beq_eq_false_iff_ne]; omega
  have hdl : (zs.drop 1).length = len - 1 := by rw [List.length_drop, hl]
  have hS := tkS_le hall
  obtain ⟨hk0, hk1⟩ := tkK_b hall
  have CC := fun w' => rchk_any (tkK zs) (tkN zs) (tkS zs) w' hk0 hk1 (by omega)
  have hZ := tkZ_le zs
  rw [hl] at hZ
  obtain rfl : len = 1 := by omega
  subst hcap
  have CS := fun w' hbw => rtxt_any (some ⟨b, off, none⟩) 0 (zs.drop 1) 0 w' (hbv w' hbw) (by omega) (by omega)
  rw [hdl] at CS
  have h1 : ¬ tkK zs = 1 := by rw [h2]; decide
  have t1 : tkN zs = 0 := by unfold tkN; rw [if_neg h1]
  have t2 : tkE zs = rtxE (zs.drop 1) 0 := by unfold tkE; rw [if_neg hz, if_neg h1, if_pos h2]
  have t3 : tkZ zs = rtxZ (zs.drop 1) 0 := by unfold tkZ; rw [if_neg hz, if_neg h1, if_pos h2]
  have t4 : tkS zs = rtxS (zs.drop 1) 0 := by unfold tkS; rw [if_pos h2]
  have HG0 := @gt0 zs
  rw [← t2, ← t3, ← t4] at CS
  rw [h2, t1] at HG0 CC
  by_cases h3 : tkE zs = 3
  · have HA : Hid (gtA zs = .tuple #[vv 0 0 ByteArray.empty, .int .i64 0, .int .i64 3]) := gt3 h3
    rw [h3] at CS
    generalize gtA zs = ans at *
    generalize tkS zs = S at *
    generalize tkZ zs = Z at *
    unfold vv at CC
    clear hz h1 h2 t1 t2 t3 t4 hall hcell hbv hdl hS HG0
    clear h3
    go_enter Tryd.func30, Tryd.ntmps30
    go_wp2_with (first | (go_at_call 45; refine (CS _ (three_new _ _ _ _)).mono ?_; rintro e w1 ⟨c, cap', rfl, hq1, hq2, _, hb1⟩; clear CS; obtain ⟨hc1, hf1⟩ := bcell hb1; have cT0 : w1.cell? ⟨w.heap.size, 0, none⟩ = some (.int .u8 0) := ((hc1 _ _ (by simp; omega)).trans (by go_simp)); have cT1 : w1.cell? ⟨w.heap.size, 1, none⟩ = some (.int .i64 0) := ((hc1 _ _ (by simp; omega)).trans (by go_simp)); have cT2 : w1.cell? ⟨w.heap.size, 2, none⟩ = some (.string ⟨#[]⟩) := ((hc1 _ _ (by simp; omega)).trans (by go_simp)); have hz0 : w.heap.size + 1 + 1 < w1.heap.size := (by { have := hb1.size; simp at this; omega }); have hz1 : w.heap.size + 1 < w1.heap.size := (by omega); have hz2 : w.heap.size < w1.heap.size := (by omega); have HB1 : Hid (Below w.heap.size w w1) := ((three_new _ _ _ _).trans (hb1.mono (by simp; omega)))))
    all_goals
      refine bodyPost_ret (v := .tuple #[vv 0 0 ByteArray.empty, .int .i64 0, .int .i64 3]) (by simp [results, Tryd.results30, go_sem, vv, cT0, cT1, cT2, hz0, hz1, hz2] <;> rfl) rfl ⟨by rw [HA.out], ?_⟩
      exact set3 (((HB1.out.setCell (p := ⟨w.heap.size + 1 + 1, 0, none⟩) (by simp; omega) _).setCell (p := ⟨w.heap.size + 1 + 1, 1, none⟩) (by simp; omega) _).setCell (p := ⟨w.heap.size + 1, 2, none⟩) (by simp) _) w.heap.size (Nat.le_refl _) _ _ _
  by_cases h0 : tkE zs = 0
  · rw [h0] at CS
    by_cases hck : chkE 2 0 (tkS zs).data.toList = 0
    · have HA : Hid (gtA zs = .tuple #[vv 2 0 (tkS zs), .int .i64 ((1 : Int) - (tkZ zs).length), .int .i64 0]) := by
        have hx : ((zs.length : Int) - (tkZ zs).length) = ((1 : Int) - (tkZ zs).length) := by rw [hl]; try omega
        show gtA zs = _
        rw [HG0 h0 hck, hx]
      generalize gtA zs = ans at *
      generalize tkS zs = S at *
      generalize tkZ zs = Z at *
      unfold vv at CC
      rw [hck] at CC
      have hwr : IntKind.i64.wrap ((1 : Int) - Z.length) = (1 : Int) - Z.length := wr_small _ (by omega) (by omega)
      clear hz h1 h2 t1 t2 t3 t4 hall hcell hbv hdl hS HG0
      clear hck h0 h3
      go_enter Tryd.func30, Tryd.ntmps30
      go_wp2_with (first | (go_at_call 45; refine (CS _ (three_new _ _ _ _)).mono ?_; rintro e w1 ⟨c, cap', rfl, hq1, hq2, _, hb1⟩; clear CS; obtain ⟨hc1, hf1⟩ := bcell hb1; have cT0 : w1.cell? ⟨w.heap.size, 0, none⟩ = some (.int .u8 0) := ((hc1 _ _ (by simp; omega)).trans (by go_simp)); have cT1 : w1.cell? ⟨w.heap.size, 1, none⟩ = some (.int .i64 0) := ((hc1 _ _ (by simp; omega)).trans (by go_simp)); have cT2 : w1.cell? ⟨w.heap.size, 2, none⟩ = some (.string ⟨#[]⟩) := ((hc1 _ _ (by simp; omega)).trans (by go_simp)); have hz0 : w.heap.size + 1 + 1 < w1.heap.size := (by { have := hb1.size; simp at this; omega }); have hz1 : w.heap.size + 1 < w1.heap.size := (by omega); have hz2 : w.heap.size < w1.heap.size := (by omega); have HB1 : Hid (Below w.heap.size w w1) := ((three_new _ _ _ _).trans (hb1.mono (by simp; omega)))) | (go_at_call 40; refine (CC _).mono ?_; rintro e w2 ⟨rfl, hb2⟩; clear CC; obtain ⟨hc2, hf2⟩ := bcell hb2; have cU0 : w2.cell? ⟨w.heap.size, 0, none⟩ = some (.int .u8 0) := ((hc2 _ _ (by simp [World.setCell]; omega)).trans (by go_simp)); have cU1 : w2.cell? ⟨w.heap.size, 1, none⟩ = some (.int .i64 0) := ((hc2 _ _ (by simp [World.setCell]; omega)).trans (by go_simp)); have cU2 : w2.cell? ⟨w.heap.size, 2, none⟩ = some (.string ⟨#[]⟩) := ((hc2 _ _ (by simp [World.setCell]; omega)).trans (by go_simp)); have hy : w1.heap.size ≤ w2.heap.size := (by { have := hb2.size; simp [World.setCell] at this; omega })))
      go_region
      all_goals go_wp2
      all_goals
        refine bodyPost_ret (v := .tuple #[vv 2 0 S, .int .i64 ((1 : Int) - Z.length), .int .i64 0]) (by simp [results, Tryd.results30, go_sem, vv, cT0, cT1, cT2, hz0, hz1, hz2, cU0, cU1, cU2, hy, hwr] <;> rfl) rfl ⟨by rw [HA.out], ?_⟩
        exact (set3 ((((HB1.out.setCell (p := ⟨w.heap.size + 1 + 1, 0, none⟩) (by simp; omega) _).setCell (p := ⟨w.heap.size + 1 + 1, 1, none⟩) (by simp; omega) _).setCell (p := ⟨w.heap.size + 1, 2, none⟩) (by simp) _).trans (hb2.mono (((HB1.out.setCell (p := ⟨w.heap.size + 1 + 1, 0, none⟩) (by simp; omega) _).setCell (p := ⟨w.heap.size + 1 + 1, 1, none⟩) (by simp; omega) _).setCell (p := ⟨w.heap.size + 1, 2, none⟩) (by simp) _).size)) w.heap.size (Nat.le_refl _) _ _ _).drew
    · have HA : Hid (gtA zs = .tuple #[vv 0 0 ByteArray.empty, .int .i64 0, .int .i64 4]) := gt4 (by rw [h0]; decide) (.inr (by rw [h2, t1]; exact hck))
      have hne : ((chkE 2 0 (tkS zs).data.toList : Int) != 0) = true := by rw [bne_iff_ne]; exact hck
      generalize gtA zs = ans at *
      generalize tkS zs = S at *
      generalize tkZ zs = Z at *
      unfold vv at CC
      generalize chkE 2 0 S.data.toList = ce at *
      clear hz h1 h2 t1 t2 t3 t4 hall hcell hbv hdl hS HG0
      clear hck h0 h3
      go_enter Tryd.func30, Tryd.ntmps30
      go_wp2_with (first | (go_at_call 45; refine (CS _ (three_new _ _ _ _)).mono ?_; rintro e w1 ⟨c, cap', rfl, hq1, hq2, _, hb1⟩; clear CS; obtain ⟨hc1, hf1⟩ := bcell hb1; have cT0 : w1.cell? ⟨w.heap.size, 0, none⟩ = some (.int .u8 0) := ((hc1 _ _ (by simp; omega)).trans (by go_simp)); have cT1 : w1.cell? ⟨w.heap.size, 1, none⟩ = some (.int .i64 0) := ((hc1 _ _ (by simp; omega)).trans (by go_simp)); have cT2 : w1.cell? ⟨w.heap.size, 2, none⟩ = some (.string ⟨#[]⟩) := ((hc1 _ _ (by simp; omega)).trans (by go_simp)); have hz0 : w.heap.size + 1 + 1 < w1.heap.size := (by { have := hb1.size; simp at this; omega }); have hz1 : w.heap.size + 1 < w1.heap.size := (by omega); have hz2 : w.heap.size < w1.heap.size := (by omega); have HB1 : Hid (Below w.heap.size w w1) := ((three_new _ _ _ _).trans (hb1.mono (by simp; omega)))) | (go_at_call 40; refine (CC _).mono ?_; rintro e w2 ⟨rfl, hb2⟩; clear CC; obtain ⟨hc2, hf2⟩ := bcell hb2; have cU0 : w2.cell? ⟨w.heap.size, 0, none⟩ = some (.int .u8 0) := ((hc2 _ _ (by simp [World.setCell]; omega)).trans (by go_simp)); have cU1 : w2.cell? ⟨w.heap.size, 1, none⟩ = some (.int .i64 0) := ((hc2 _ _ (by simp [World.setCell]; omega)).trans (by go_simp)); have cU2 : w2.cell? ⟨w.heap.size, 2, none⟩ = some (.string ⟨#[]⟩) := ((hc2 _ _ (by simp [World.setCell]; omega)).trans (by go_simp)); have hy : w1.heap.size ≤ w2.heap.size := (by { have := hb2.size; simp [World.setCell] at this; omega })))
      all_goals
        refine bodyPost_ret (v := .tuple #[vv 0 0 ByteArray.empty, .int .i64 0, .int .i64 4]) (by simp [results, Tryd.results30, go_sem, vv, cT0, cT1, cT2, hz0, hz1, hz2, cU0, cU1, cU2, hy] <;> rfl) rfl ⟨by rw [HA.out], ?_⟩
        exact set3 ((((HB1.out.setCell (p := ⟨w.heap.size + 1 + 1, 0, none⟩) (by simp; omega) _).setCell (p := ⟨w.heap.size + 1 + 1, 1, none⟩) (by simp; omega) _).setCell (p := ⟨w.heap.size + 1, 2, none⟩) (by simp) _).trans (hb2.mono (((HB1.out.setCell (p := ⟨w.heap.size + 1 + 1, 0, none⟩) (by simp; omega) _).setCell (p := ⟨w.heap.size + 1 + 1, 1, none⟩) (by simp; omega) _).setCell (p := ⟨w.heap.size + 1, 2, none⟩) (by simp) _).size)) w.heap.size (Nat.le_refl _) _ _ _
  · have HA : Hid (gtA zs = .tuple #[vv 0 0 ByteArray.empty, .int .i64 0, .int .i64 4]) := gt4 h3 (.inl h0)
    have b3 : (tkE zs == 3) = false := by rw [beq_eq_false_iff_ne]; exact h3
    have b0 : (tkE zs != 0) = true := by rw [bne_iff_ne]; exact h0
    generalize tkE zs = E at *
    generalize gtA zs = ans at *
    generalize tkS zs = S at *
    generalize tkZ zs = Z at *
    unfold vv at CC
    clear hz h1 h2 t1 t2 t3 t4 hall hcell hbv hdl hS HG0
    clear h3 h0
    go_enter Tryd.func30, Tryd.ntmps30
    go_wp2_with (first | (go_at_call 45; refine (CS _ (three_new _ _ _ _)).mono ?_; rintro e w1 ⟨c, cap', rfl, hq1, hq2, _, hb1⟩; clear CS; obtain ⟨hc1, hf1⟩ := bcell hb1; have cT0 : w1.cell? ⟨w.heap.size, 0, none⟩ = some (.int .u8 0) := ((hc1 _ _ (by simp; omega)).trans (by go_simp)); have cT1 : w1.cell? ⟨w.heap.size, 1, none⟩ = some (.int .i64 0) := ((hc1 _ _ (by simp; omega)).trans (by go_simp)); have cT2 : w1.cell? ⟨w.heap.size, 2, none⟩ = some (.string ⟨#[]⟩) := ((hc1 _ _ (by simp; omega)).trans (by go_simp)); have hz0 : w.heap.size + 1 + 1 < w1.heap.size := (by { have := hb1.size; simp at this; omega }); have hz1 : w.heap.size + 1 < w1.heap.size := (by omega); have hz2 : w.heap.size < w1.heap.size := (by omega); have HB1 : Hid (Below w.heap.size w w1) := ((three_new _ _ _ _).trans (hb1.mono (by simp; omega)))))
    all_goals
      refine bodyPost_ret (v := .tuple #[vv 0 0 ByteArray.empty, .int .i64 0, .int .i64 4]) (by simp [results, Tryd.results30, go_sem, vv, cT0, cT1, cT2, hz0, hz1, hz2] <;> rfl) rfl ⟨by rw [HA.out], ?_⟩
      exact set3 (((HB1.out.setCell (p := ⟨w.heap.size + 1 + 1, 0, none⟩) (by simp; omega) _).setCell (p := ⟨w.heap.size + 1 + 1, 1, none⟩) (by simp; omega) _).setCell (p := ⟨w.heap.size + 1, 2, none⟩) (by simp) _) w.heap.size (Nat.le_refl _) _ _ _
set_option maxHeartbeats 4000000 in
theorem rget_oth0 (b off len cap : Nat) (zs : List Int) (w : World) (hb : BV w (some ⟨b, off, none⟩) zs) (hl : zs.length = len) (hm : len ≤ 300) (hc : len ≤ cap) (hcm : cap ≤ 9223372036854775807) (hz : zs ≠ []) (h1 : tkK zs ≠ 1) (h2 : tkK zs ≠ 2) (hcap : ¬ cap = 1) :
    Calls Tryd.prog 30 #[.slice (some ⟨b, off, none⟩) len cap] w fun e w' => e = .returned (gtA zs) ∧ Below w.heap.size w w' := by
  have hp : 1 ≤ len := by have := List.length_pos_iff.2 hz; omega
  have hbv : ∀ w', Below w.heap.size w w' → BV w' (some ⟨b, off + 1, none⟩) (zs.drop 1) := fun w' hbw => Sub.drop b off zs 1 w' (hb.below hbw)
  obtain ⟨hall, hz' | ⟨b', off', e, hlt, hcell⟩⟩ := hb
  · exact absurd hz' hz
  obtain ⟨rfl, rfl, -⟩ : b = b' ∧ off = off' ∧ True := by simp at e; exact ⟨e.1, e.2, trivial⟩
  clear e
  have hc0 := hcell 0 (by omega)
  rw [Nat.add_zero, show zs.getD 0 0 = tkK zs from rfl] at hc0
  have p1 : (0 : Int) < len := by omega
  have p2 : (1 : Int) ≤ len := by omega
  have p3 : (len : Int) ≤ cap := by omega
  have p4 : ((len : Int) == 0) = false := by rw [beq_eq_false_iff_ne]; omega
  have hdl : (zs.drop 1).length = len - 1 := by rw [List.length_drop, hl]
  have hS := tkS_le hall
  obtain ⟨hk0, hk1⟩ := tkK_b hall
  have CC := fun w' => rchk_any (tkK zs) (tkN zs) (tkS zs) w' hk0 hk1 (by omega)
  have hZ := tkZ_le zs
  rw [hl] at hZ
  have t1 : tkN zs = 0 := by unfold tkN; rw [if_neg h1]
  have t2 : tkE zs = 0 := by unfold tkE; rw [if_neg hz, if_neg h1, if_neg h2]
  have t3 : tkZ zs = zs.drop 1 := by unfold tkZ; rw [if_neg hz, if_neg h1, if_neg h2]
  have t4 : tkS zs = ByteArray.empty := by unfold tkS; rw [if_neg h2]
  have HG0 := @gt0 zs
  have b1 : (tkK zs == 1) = false := by rw [beq_eq_false_iff_ne]; exact h1
  have b2 : (tkK zs == 2) = false := by rw [beq_eq_false_iff_ne]; exact h2
  rw [t1, t4] at HG0 CC
  by_cases hck : chkE (tkK zs) 0 ByteArray.empty.data.toList = 0
  · have HA : Hid (gtA zs = .tuple #[vv (tkK zs) 0 ByteArray.empty, .int .i64 1, .int .i64 0]) := by
      have hx : ((zs.length : Int) - (tkZ zs).length) = 1 := by rw [hl, t3, hdl]; try omega
      show gtA zs = _
      rw [HG0 t2 hck, hx]
    generalize gtA zs = ans at *
    generalize tkK zs = K at *
    unfold vv at CC
    rw [hck] at CC
    have hwr : IntKind.i64.wrap ((len : Int) - ((len - 1 : Nat) : Int)) = 1 := by rw [wr_small _ (by omega) (by omega)]; omega
    clear hz h1 h2 t1 t2 t4 hall hcell hbv hS HG0
    clear hck
    go_enter Tryd.func30, Tryd.ntmps30
    go_wp2_with (first | (go_at_call 40; refine (CC _).mono ?_; rintro e w2 ⟨rfl, hb2⟩; clear CC; obtain ⟨hc2, hf2⟩ := bcell hb2; have cU0 : w2.cell? ⟨w.heap.size, 0, none⟩ = some (.int .u8 0) := ((hc2 _ _ (by simp [World.setCell]; omega)).trans (by go_simp)); have cU1 : w2.cell? ⟨w.heap.size, 1, none⟩ = some (.int .i64 0) := ((hc2 _ _ (by simp [World.setCell]; omega)).trans (by go_simp)); have cU2 : w2.cell? ⟨w.heap.size, 2, none⟩ = some (.string ⟨#[]⟩) := ((hc2 _ _ (by simp [World.setCell]; omega)).trans (by go_simp)); have hy : w.heap.size + 1 + 1 + 1 ≤ w2.heap.size := (by { have := hb2.size; simp [World.setCell] at this; omega })))
    go_region
    all_goals go_wp2
    all_goals
      refine bodyPost_ret (v := .tuple #[vv K 0 ByteArray.empty, .int .i64 1, .int .i64 0]) (by simp [results, Tryd.results30, go_sem, vv, cU0, cU1, cU2, hy, hwr] <;> rfl) rfl ⟨by rw [HA.out], ?_⟩
      exact (set3 ((three_new _ _ _ _).trans (hb2.mono (three_new _ _ _ _).size)) w.heap.size (Nat.le_refl _) _ _ _).drew
  · have HA : Hid (gtA zs = .tuple #[vv 0 0 ByteArray.empty, .int .i64 0, .int .i64 4]) := gt4 (by rw [t2]; decide) (.inr (by rw [t1, t4]; exact hck))
    have hne : ((chkE (tkK zs) 0 ByteArray.empty.data.toList : Int) != 0) = true := by rw [bne_iff_ne]; exact hck
    generalize gtA zs = ans at *
    generalize tkK zs = K at *
    unfold vv at CC
    generalize chkE K 0 ByteArray.empty.data.toList = ce at *
    clear hz h1 h2 t1 t2 t4 hall hcell hbv hS HG0
    clear hck
    go_enter Tryd.func30, Tryd.ntmps30
    go_wp2_with (first | (go_at_call 40; refine (CC _).mono ?_; rintro e w2 ⟨rfl, hb2⟩; clear CC; obtain ⟨hc2, hf2⟩ := bcell hb2; have cU0 : w2.cell? ⟨w.heap.size, 0, none⟩ = some (.int .u8 0) := ((hc2 _ _ (by simp [World.setCell]; omega)).trans (by go_simp)); have cU1 : w2.cell? ⟨w.heap.size, 1, none⟩ = some (.int .i64 0) := ((hc2 _ _ (by simp [World.setCell]; omega)).trans (by go_simp)); have cU2 : w2.cell? ⟨w.heap.size, 2, none⟩ = some (.string ⟨#[]⟩) := ((hc2 _ _ (by simp [World.setCell]; omega)).trans (by go_simp)); have hy : w.heap.size + 1 + 1 + 1 ≤ w2.heap.size := (by { have := hb2.size; simp [World.setCell] at this; omega })))
    all_goals
      refine bodyPost_ret (v := .tuple #[vv 0 0 ByteArray.empty, .int .i64 0, .int .i64 4]) (by simp [results, Tryd.results30, go_sem, vv, cU0, cU1, cU2, hy] <;> rfl) rfl ⟨by rw [HA.out], ?_⟩
      exact set3 ((three_new _ _ _ _).trans (hb2.mono (three_new _ _ _ _).size)) w.heap.size (Nat.le_refl _) _ _ _
set_option maxHeartbeats 4000000 in
theorem rget_oth1 (b off len cap : Nat) (zs : List Int) (w : World) (hb : BV w (some ⟨b, off, none⟩) zs) (hl : zs.length = len) (hm : len ≤ 300) (hc : len ≤ cap) (hcm : cap ≤ 9223372036854775807) (hz : zs ≠ []) (h1 : tkK zs ≠ 1) (h2 : tkK zs ≠ 2) (hcap : cap = 1) :
    Calls Tryd.prog 30 #[.slice (some ⟨b, off, none⟩) len cap] w fun e w' => e = .returned (gtA zs) ∧ Below w.heap.size w w' := by
  have hp : 1 ≤ len := by have := List.length_pos_iff.2 hz; omega
  have hbv : ∀ w', Below w.heap.size w w' → BV w' (some ⟨b, off, none⟩) (zs.drop 1) := fun w' hbw => Sub.tail (some ⟨b, off, none⟩) (some ⟨b, off, none⟩) zs 1 (by omega) w' (hb.below hbw)
  obtain ⟨hall, hz' | ⟨b', off', e, hlt, hcell⟩⟩ := hb
  · exact absurd hz' hz
  obtain ⟨rfl, rfl, -⟩ : b = b' ∧ off = off' ∧ True := by simp at e; exact ⟨e.1, e.2, trivial⟩
  clear e
  have hc0 := hcell 0 (by omega)
  rw [Nat.add_zero, show zs.getD 0 0 = tkK zs from rfl] at hc0
  have p1 : (0 : Int) < len := by omega
  have p2 : (1 : Int) ≤ len := by omega
  have p3 : (len : Int) ≤ cap := by omega
  have p4 : ((len : Int) == 0) = false := by rw [beq_eq_false_iff_ne]; omega
  have hdl : (zs.drop 1).length = len - 1 := by rw [List.length_drop, hl]
  have hS := tkS_le hall
  obtain ⟨hk0, hk1⟩ := tkK_b hall
  have CC := fun w' => rchk_any (tkK zs) (tkN zs) (tkS zs) w' hk0 hk1 (by omega)
  have hZ := tkZ_le zs
  rw [hl] at hZ
  obtain rfl : len = 1 := by omega
  subst hcap
  have t1 : tkN zs = 0 := by unfold tkN; rw [if_neg h1]
  have t2 : tkE zs = 0 := by unfold tkE; rw [if_neg hz, if_neg h1, if_neg h2]
  have t3 : tkZ zs = zs.drop 1 := by unfold tkZ; rw [if_neg hz, if_neg h1, if_neg h2]
  have t4 : tkS zs = ByteArray.empty := by unfold tkS; rw [if_neg h2]
  have HG0 := @gt0 zs
  have b1 : (tkK zs == 1) = false := by rw [beq_eq_false_iff_ne]; exact h1
  have b2 : (tkK zs == 2) = false := by rw [beq_eq_false_iff_ne]; exact h2
  rw [t1, t4] at HG0 CC
  by_cases hck : chkE (tkK zs) 0 ByteArray.empty.data.toList = 0
  · have HA : Hid (gtA zs = .tuple #[vv (tkK zs) 0 ByteArray.empty, .int .i64 1, .int .i64 0]) := by
      have hx : ((zs.length : Int) - (tkZ zs).length) = 1 := by rw [hl, t3, hdl]; try omega
      show gtA zs = _
      rw [HG0 t2 hck, hx]
    generalize gtA zs = ans at *
    generalize tkK zs = K at *
    unfold vv at CC
    rw [hck] at CC
    clear hz h1 h2 t1 t2 t4 hall hcell hbv hS HG0
    clear hck
    go_enter Tryd.func30, Tryd.ntmps30
    go_wp2_with (first | (go_at_call 40; refine (CC _).mono ?_; rintro e w2 ⟨rfl, hb2⟩; clear CC; obtain ⟨hc2, hf2⟩ := bcell hb2; have cU0 : w2.cell? ⟨w.heap.size, 0, none⟩ = some (.int .u8 0) := ((hc2 _ _ (by simp [World.setCell]; omega)).trans (by go_simp)); have cU1 : w2.cell? ⟨w.heap.size, 1, none⟩ = some (.int .i64 0) := ((hc2 _ _ (by simp [World.setCell]; omega)).trans (by go_simp)); have cU2 : w2.cell? ⟨w.heap.size, 2, none⟩ = some (.string ⟨#[]⟩) := ((hc2 _ _ (by simp [World.setCell]; omega)).trans (by go_simp)); have hy : w.heap.size + 1 + 1 + 1 ≤ w2.heap.size := (by { have := hb2.size; simp [World.setCell] at this; omega })))
    go_region
    all_goals go_wp2
    all_goals
      refine bodyPost_ret (v := .tuple #[vv K 0 ByteArray.empty, .int .i64 1, .int .i64 0]) (by simp [results, Tryd.results30, go_sem, vv, cU0, cU1, cU2, hy] <;> rfl) rfl ⟨by rw [HA.out], ?_⟩
      exact (set3 ((three_new _ _ _ _).trans (hb2.mono (three_new _ _ _ _).size)) w.heap.size (Nat.le_refl _) _ _ _).drew
  · have HA : Hid (gtA zs = .tuple #[vv 0 0 ByteArray.empty, .int .i64 0, .int .i64 4]) := gt4 (by rw [t2]; decide) (.inr (by rw [t1, t4]; exact hck))
    have hne : ((chkE (tkK zs) 0 ByteArray.empty.data.toList : Int) != 0) = true := by rw [bne_iff_ne]; exact hck
    generalize gtA zs = ans at *
    generalize tkK zs = K at *
    unfold vv at CC
    generalize chkE K 0 ByteArray.empty.data.toList = ce at *
    clear hz h1 h2 t1 t2 t4 hall hcell hbv hS HG0
    clear hck
    go_enter Tryd.func30, Tryd.ntmps30
    go_wp2_with (first | (go_at_call 40; refine (CC _).mono ?_; rintro e w2 ⟨rfl, hb2⟩; clear CC; obtain ⟨hc2, hf2⟩ := bcell hb2; have cU0 : w2.cell? ⟨w.heap.size, 0, none⟩ = some (.int .u8 0) := ((hc2 _ _ (by simp [World.setCell]; omega)).trans (by go_simp)); have cU1 : w2.cell? ⟨w.heap.size, 1, none⟩ = some (.int .i64 0) := ((hc2 _ _ (by simp [World.setCell]; omega)).trans (by go_simp)); have cU2 : w2.cell? ⟨w.heap.size, 2, none⟩ = some (.string ⟨#[]⟩) := ((hc2 _ _ (by simp [World.setCell]; omega)).trans (by go_simp)); have hy : w.heap.size + 1 + 1 + 1 ≤ w2.heap.size := (by { have := hb2.size; simp [World.setCell] at this; omega })))
    all_goals
      refine bodyPost_ret (v := .tuple #[vv 0 0 ByteArray.empty, .int .i64 0, .int .i64 4]) (by simp [results, Tryd.results30, go_sem, vv, cU0, cU1, cU2, hy] <;> rfl) rfl ⟨by rw [HA.out], ?_⟩
      exact set3 ((three_new _ _ _ _).trans (hb2.mono (three_new _ _ _ _).size)) w.heap.size (Nat.le_refl _) _ _ _
end Go.Proofs.YtpmhilaochfpaaaDoor
namespace Go.Proofs.YtpmhilaochfpaaaDoor
set_option maxRecDepth 20000
open Go.RowKit
set_option linter.unusedVariables false
set_option linter.unusedSimpArgs false
set_option maxRecDepth 20000
set_option maxHeartbeats 1000000 in
theorem rget_nil (a : Option Addr) (cap : Nat) (w : World) :
    Calls Tryd.prog 30 #[.slice a 0 cap] w fun e w' => e = .returned (gtA []) ∧ Below w.heap.size w w' := by
  have HA : Hid (gtA [] = .tuple #[vv 0 0 ByteArray.empty, .int .i64 0, .int .i64 3]) := gt3 rfl
  generalize gtA [] = ans at *
  go_enter Tryd.func30, Tryd.ntmps30
  go_wp2
  refine bodyPost_ret (v := .tuple #[vv 0 0 ByteArray.empty, .int .i64 0, .int .i64 3]) (by simp [results, Tryd.results30, go_sem, vv] <;> rfl) rfl ⟨by rw [HA.out], ?_⟩
  exact box1 _ _
theorem rget_all (a : Option Addr) (len cap : Nat) (zs : List Int) (w : World) (hb : BV w a zs) (hl : zs.length = len) (hm : len ≤ 300) (hc : len ≤ cap) (hcm : cap ≤ 9223372036854775807) :
    Calls Tryd.prog 30 #[.slice a len cap] w fun e w' => e = .returned (gtA zs) ∧ Below w.heap.size w w' := by
  by_cases hz : zs = []
  · subst hz; subst hl; exact rget_nil a cap w
  · obtain ⟨_, hz' | ⟨b, off, e, _⟩⟩ := id hb
    · exact absurd hz' hz
    subst e
    by_cases h1 : tkK zs = 1
    · by_cases hcap : cap = 1
      · exact rget_one1 b off len cap zs w hb hl hm hc hcm hz h1 hcap
      · exact rget_one0 b off len cap zs w hb hl hm hc hcm hz h1 hcap
    · by_cases h2 : tkK zs = 2
      · by_cases hcap : cap = 1
        · exact rget_two1 b off len cap zs w hb hl hm hc hcm hz h2 hcap
        · exact rget_two0 b off len cap zs w hb hl hm hc hcm hz h2 hcap
      · by_cases hcap : cap = 1
        · exact rget_oth1 b off len cap zs w hb hl hm hc hcm hz h1 h2 hcap
        · exact rget_oth0 b off len cap zs w hb hl hm hc hcm hz h1 h2 hcap
theorem put_all13 {k n : Int} {s : ByteArray} (h0 : 0 ≤ k) (h255 : k ≤ 255) : AllB (putL13 k n s) := by
  unfold putL13
  split
  · exact AllB.nil
  · intro z hz
    rcases List.mem_cons.1 hz with e | e
    · omega
    · unfold rstL at e
      split at e
      · exact signL_all n z e
      · split at e
        · exact textL_all s z e
        · cases e
end Go.Proofs.YtpmhilaochfpaaaDoor
namespace Go.Proofs.YtpmhilaochfpaaaDoor
set_option maxRecDepth 20000
open Go.RowKit
set_option linter.unusedVariables false
set_option maxRecDepth 20000
theorem sg_sign (n : Int) (ys : List Int) (h0 : -1099511627776 ≤ n) (h1 : n ≤ 1099511627776) : sgdV (signL n ++ ys) 0 = n ∧ sgdE (signL n ++ ys) 0 = 0 ∧ sgdZ (signL n ++ ys) 0 = ys := by
  have hs : signL n = dig (n + 1099511627776) 6 := by unfold signL; rw [if_neg (by omega)]
  have hl : (signL n).length = 6 := by rw [hs, dig_length]
  have ht : (signL n ++ ys).take 6 = signL n := by rw [List.take_append_of_le_length (by omega), List.take_of_length_le (by omega)]
  have hv : val (signL n) = n + 1099511627776 := by rw [hs]; exact val_dig 6 _ (by omega) (by omega)
  have he : sgE (signL n ++ ys) = 0 := by unfold sgE; rw [if_neg (by rw [List.length_append]; omega), ht, hv, if_neg (by omega)]
  refine ⟨?_, ?_, ?_⟩
  · unfold sgdV sgV; rw [if_pos rfl, if_neg (by rw [List.length_append]; omega), ht, hv, if_neg (by omega)]; omega
  · unfold sgdE; rw [if_pos rfl, he]
  · unfold sgdZ; rw [if_pos ⟨rfl, he⟩, List.drop_append_of_le_length (by omega), List.drop_of_length_le (by omega)]; rfl
theorem str_bytes (s : ByteArray) : strOfNums (bytesOf s) = s := by
  unfold strOfNums bytesOf
  cases s with
  | mk d =>
    congr 1
    apply Array.toList_inj.1
    simp [Function.comp_def]
theorem tx_text (s : ByteArray) (ys : List Int) (h : s.size ≤ 255) : rtxS (textL s ++ ys) 0 = s ∧ rtxE (textL s ++ ys) 0 = 0 ∧ rtxZ (textL s ++ ys) 0 = ys := by
  have ht : textL s = (s.size : Int) :: bytesOf s := by unfold textL; rw [if_neg (by omega)]
  have hb := bytesOf_length s
  have hg : (textL s ++ ys).getD 0 0 = s.size := by rw [ht]; rfl
  have hno : ¬ (((textL s ++ ys).length : Int) < 1 + (textL s ++ ys).getD 0 0 ∨ (textL s ++ ys).length < 1) := by
    rw [hg, ht]; simp only [List.cons_append, List.length_cons, List.length_append, hb]; omega
  have he : txE (textL s ++ ys) = 0 := by unfold txE; rw [if_neg hno]
  refine ⟨?_, ?_, ?_⟩
  · unfold rtxS txS; rw [if_pos rfl, if_neg hno]
    unfold txL; rw [hg, ht]
    have : (s.size : Int).toNat = s.size := by omega
    rw [this]
    show strOfNums ((bytesOf s ++ ys).take s.size) = s
    rw [List.take_append_of_le_length (by omega), List.take_of_length_le (by omega), str_bytes]
  · unfold rtxE; rw [if_pos rfl, he]
  · unfold rtxZ; rw [if_pos ⟨rfl, he⟩, hg, ht]
    have : 1 + (s.size : Int).toNat = s.size + 1 := by omega
    rw [this]
    show (bytesOf s ++ ys).drop s.size = ys
    rw [List.drop_append_of_le_length (by omega), List.drop_of_length_le (by omega)]; rfl
theorem get_put13 {k n : Int} {s : ByteArray} (h0 : 0 ≤ k) (hc : chkE k n s.data.toList = 0) (ys : List Int) : gtA (putL13 k n s ++ ys) = .tuple #[vv k n s, .int .i64 (putL13 k n s).length, .int .i64 0] := by
  obtain ⟨hk2, hn0, hn1, hn, hl, hsy⟩ := chk0 hc
  have key : ∀ zs, zs = putL13 k n s ++ ys → tkK zs = k → tkN zs = n → tkS zs = s → tkE zs = 0 → tkZ zs = ys → gtA zs = .tuple #[vv k n s, .int .i64 (putL13 k n s).length, .int .i64 0] := by
    intro zs hz e1 e2 e3 e4 e5
    rw [gt0 e4 (by rw [e1, e2, e3]; exact hc), e1, e2, e3, e5, hz, List.length_append]
    have : (((putL13 k n s).length + ys.length : Nat) : Int) - ys.length = (putL13 k n s).length := by omega
    rw [this]
  have hp := put_len k n s hc
  refine key _ rfl ?_ ?_ ?_ ?_ ?_ <;> rw [hp] <;> (try unfold tkN) <;> (try unfold tkS) <;> (try unfold tkE) <;> (try unfold tkZ)
  all_goals (try unfold tkK)
  all_goals simp only [List.cons_append, List.getD_cons_zero, List.drop_succ_cons, List.drop_zero, reduceCtorEq, if_false]
  · obtain h | h | h : k = 0 ∨ k = 1 ∨ k = 2 := by omega
    · subst h; rw [if_neg (by decide), hn (by decide)]
    · subst h; rw [if_pos rfl]; exact (sg_sign n ys hn0 hn1).1
    · subst h; rw [if_neg (by decide), hn (by decide)]
  · obtain h | h | h : k = 0 ∨ k = 1 ∨ k = 2 := by omega
    · subst h; rw [if_neg (by decide), emp_eq (hl (by decide))]
    · subst h; rw [if_neg (by decide), emp_eq (hl (by decide))]
    · subst h; rw [if_pos rfl]
      have := (sym_len (hsy rfl)).2
      rw [lenL] at this
      exact (tx_text s ys (by omega)).1
  · obtain h | h | h : k = 0 ∨ k = 1 ∨ k = 2 := by omega
    · subst h; rw [if_neg (by decide), if_neg (by decide)]
    · subst h; rw [if_pos rfl]; exact (sg_sign n ys hn0 hn1).2.1
    · subst h; rw [if_neg (by decide), if_pos rfl]
      have := (sym_len (hsy rfl)).2
      rw [lenL] at this
      exact (tx_text s ys (by omega)).2.1
  · obtain h | h | h : k = 0 ∨ k = 1 ∨ k = 2 := by omega
    · subst h; rw [if_neg (by decide), if_neg (by decide)]; rfl
    · subst h; rw [if_pos rfl]; exact (sg_sign n ys hn0 hn1).2.2
    · subst h; rw [if_neg (by decide), if_pos rfl]
      have := (sym_len (hsy rfl)).2
      rw [lenL] at this
      exact (tx_text s ys (by omega)).2.2
theorem put_pos {k n : Int} {s : ByteArray} (h0 : 0 ≤ k) (hc : chkE k n s.data.toList = 0) : 1 ≤ (putL13 k n s).length ∧ (putL13 k n s).length ≤ 30 := by
  obtain ⟨hk2, hn0, hn1, hn, hl, hsy⟩ := chk0 hc
  rw [put_len k n s hc, List.length_cons]
  refine ⟨by omega, ?_⟩
  unfold rstL
  split
  · unfold signL; rw [if_neg (by omega), dig_length]; omega
  · split
    · rename_i h1 h2
      have := (sym_len (hsy h2)).2
      rw [lenL] at this
      unfold textL; rw [if_neg (by omega), List.length_cons, bytesOf_length]; omega
    · simp
theorem get_cut13 {k n : Int} {s : ByteArray} (h0 : 0 ≤ k) (hc : chkE k n s.data.toList = 0) : gtA ((putL13 k n s).take ((putL13 k n s).length - 1)) = .tuple #[vv 0 0 ByteArray.empty, .int .i64 0, .int .i64 3] := by
  obtain ⟨hk2, hn0, hn1, hn, hl, hsy⟩ := chk0 hc
  refine gt3 ?_
  rw [put_len k n s hc]
  obtain h | h | h : k = 0 ∨ k = 1 ∨ k = 2 := by omega
  · subst h; rfl
  · subst h
    have hs : rstL 1 n s = signL n := rfl
    have hlen : (signL n).length = 6 := by unfold signL; rw [if_neg (by omega), dig_length]
    rw [hs, List.length_cons, hlen]
    show tkE (1 :: (signL n).take 5) = 3
    have ht : ((signL n).take 5).length = 5 := by rw [List.length_take, hlen]; rfl
    unfold tkE tkK
    simp only [List.getD_cons_zero, List.drop_succ_cons, List.drop_zero, reduceCtorEq, if_false, if_true]
    unfold sgdE sgE; rw [if_pos rfl, if_pos (by omega)]
  · subst h
    obtain ⟨g1, g2⟩ := sym_len (hsy rfl)
    rw [lenL] at g1 g2
    have hs : rstL 2 n s = (s.size : Int) :: bytesOf s := by show textL s = _; unfold textL; rw [if_neg (by omega)]
    obtain ⟨m, hm⟩ : ∃ m, s.size = m + 1 := ⟨s.size - 1, by omega⟩
    rw [hs, List.length_cons, List.length_cons, bytesOf_length]
    have e : s.size + 1 + 1 - 1 = m + 1 + 1 := by omega
    rw [e]
    show tkE (2 :: (s.size : Int) :: (bytesOf s).take m) = 3
    unfold tkE tkK
    simp only [List.getD_cons_zero, List.drop_succ_cons, List.drop_zero, reduceCtorEq, if_false, if_true]
    have ht : ((bytesOf s).take m).length = m := by rw [List.length_take, bytesOf_length]; omega
    rw [if_neg (by decide)]
    unfold rtxE txE; rw [if_pos rfl, if_pos]
    left
    simp only [List.length_cons, List.getD_cons_zero, ht]
    omega
theorem BV.take {w : World} {a : Option Addr} {zs : List Int} (h : BV w a zs) (m : Nat) : BV w a (zs.take m) := by
  obtain ⟨h1, h2 | ⟨b, off, e, hlt, hc⟩⟩ := h
  · exact ⟨h1.take m, .inl (by rw [h2]; simp)⟩
  · refine ⟨h1.take m, .inr ⟨b, off, e, hlt, fun i hi => ?_⟩⟩
    rw [List.length_take] at hi
    rw [hc i (by omega)]
    congr 2
    simp only [List.getD_eq_getElem?_getD, List.getElem?_take, if_pos (show i < m by omega)]
end Go.Proofs.YtpmhilaochfpaaaDoor
