/- An act upon both disks: Write. -/
import Derived.Test.YtmapjikbplindaaDoA
namespace Go.Proofs.Ytmapjikbplindaa
open Go.RowKit Go.Maps
set_option maxRecDepth 20000
set_option linter.unusedVariables false

theorem actB_len (c : Int) : (actB c).length = 256 := by simp [actB]
theorem actB_all {c : Int} (h0 : 0 ≤ c) (h1 : c ≤ 255) : AllB (actB c) := by
  intro z hz
  unfold actB at hz
  rcases List.mem_cons.1 hz with rfl | hz
  · omega
  · obtain ⟨_, rfl⟩ := List.mem_replicate.1 hz; exact ⟨h0, h1⟩
theorem blk_bv {w : World} {g : Nat} {zs : List Int} (hz : AllB zs) (hl : zs.length = 256) (h : w.heap[g]? = some (.cells (blkA zs) 5 (0, 0))) : BV w (some ⟨g, 0, none⟩) zs := by
  refine ⟨hz, .inr ⟨g, 0, rfl, (Array.getElem?_eq_some_iff.1 h).1, fun i hi => ?_⟩⟩
  rw [Nat.zero_add, cell_of_row _ _ _ _ _ _ h, blkA_get _ i hi]
theorem act_bv {w : World} {g : Nat} {c cut : Int} (h0 : 0 ≤ c) (h1 : c ≤ 255) (h : w.heap[g]? = some (.cells (blkA (actB c)) 5 (0, 0))) : BV w (some ⟨g, 0, none⟩) (actL c cut) := by
  have := blk_bv (actB_all h0 h1) (actB_len c) h
  unfold actL
  split
  · exact this.take _
  · exact this
theorem blkA_set (zs : List Int) (k : Nat) (z : Int) : (blkA zs).setIfInBounds k (.int .u8 z) = blkA (zs.set k z) := by
  unfold blkA
  rw [List.setIfInBounds_toArray, List.map_set]
theorem set7 {w : World} {n : Nat} {a0 a1 a2 a3 a4 a5 a6 b0 b1 b2 b3 b4 b5 b6 : Value} (h : w.heap[n]? = some (.cells #[a0, a1, a2, a3, a4, a5, a6] 28 (0, 0))) :
    (((((((w.setCell ⟨n, 0, none⟩ b0).setCell ⟨n, 1, none⟩ b1).setCell ⟨n, 2, none⟩ b2).setCell ⟨n, 3, none⟩ b3).setCell ⟨n, 4, none⟩ b4).setCell ⟨n, 5, none⟩ b5).setCell ⟨n, 6, none⟩ b6).heap[n]? = some (.cells #[b0, b1, b2, b3, b4, b5, b6] 28 (0, 0)) := by
  have h0 := heap_setCell_same w n 0 _ 28 b0 h
  have h1 := heap_setCell_same _ n 1 _ 28 b1 h0
  have h2 := heap_setCell_same _ n 2 _ 28 b2 h1
  have h3 := heap_setCell_same _ n 3 _ 28 b3 h2
  have h4 := heap_setCell_same _ n 4 _ 28 b4 h3
  have h5 := heap_setCell_same _ n 5 _ 28 b5 h4
  have h6 := heap_setCell_same _ n 6 _ 28 b6 h5
  rw [h6]
  rfl
theorem off7 (w : World) (n : Nat) (b0 b1 b2 b3 b4 b5 b6 : Value) : Off [n] w (((((((w.setCell ⟨n, 0, none⟩ b0).setCell ⟨n, 1, none⟩ b1).setCell ⟨n, 2, none⟩ b2).setCell ⟨n, 3, none⟩ b3).setCell ⟨n, 4, none⟩ b4).setCell ⟨n, 5, none⟩ b5).setCell ⟨n, 6, none⟩ b6) := by
  iterate 7 (refine Off.setCell ?_ (by simp) _)
  exact Off.refl _ _
theorem Rf.boxes {w w' : World} {X Y : List Nat} {v : Value} {s : DS} {b c : Nat} (h : Rf w X v s) (hb : ∃ cs, w.heap[b]? = some (.cells cs 28 (0, 0))) (hc : ∃ cs, w.heap[c]? = some (.cells cs 28 (0, 0))) (ho : Off Y w w') (hY : ∀ y ∈ Y, y = b ∨ y = c ∨ y ∈ X) : Rf w' X v s := by
  obtain ⟨ok, lv, done, ns, e, h1, h2, h3, h4, h5, h6⟩ := h
  refine ⟨ok, lv, done, ns, e, h1, h2, h3, h4, h5.off ho ?_, h6⟩
  intro g hg hm
  obtain ⟨cs, hb⟩ := hb
  obtain ⟨ds, hc⟩ := hc
  rcases hY g hm with rfl | rfl | hx
  · rcases h5.2 with ⟨rfl, _⟩ | ⟨g', cap, cur, rfl, _, hg', _⟩
    · cases hg
    · cases hg; rw [hb] at hg'; simp at hg'
  · rcases h5.2 with ⟨rfl, _⟩ | ⟨g', cap, cur, rfl, _, hg', _⟩
    · cases hg
    · cases hg; rw [hc] at hg'; simp at hg'
  · exact h6 g hg hx
set_option maxHeartbeats 1600000 in
theorem do_write (p nb mb : Nat) (s : DS) (r : Value) (kd n c cut : Int) (d : Bool) (fa : Option Addr) (fl fc : Nat) (fs : List Int) (w : World) (hd : Dk w p nb mb s) (hr : Rf w [p, nb, mb] r s) (hf : FV w [p, nb, mb] (.slice fa fl fc) fs) (k0 : 0 ≤ kd) (hk : kd % 8 < 4) (h0 : 0 ≤ c) (h1 : c ≤ 255) (q0 : 0 ≤ cut) (q1 : cut ≤ 255) (hn : n ≤ 9223372036854775807) :
    Calls Try.prog 11 #[.pointer (some ⟨p, 0, none⟩), r, .agg #[.int .u8 kd, .int .i64 n, .int .u8 c, .int .u8 cut, .bool d, .slice fa fl fc]] w fun e w' => ∃ r', e = .returned (.tuple #[r', .bool true]) ∧ Dk w' p nb mb (writeS s n (actL c cut)) ∧ Rf w' [p, nb, mb] r' (writeS s n (actL c cut)) ∧ Off [p, nb, mb] w w' := by
  obtain ⟨hn1, hn2, hn3, hp, hnb, hmb⟩ := hd.ne
  obtain ⟨a, m, cap, done, rfl⟩ := hr.open
  obtain ⟨W, hW⟩ : ∃ W, W = ((w.alloc (.cells #[.int .i64 s.room, .slice a m cap, .bool s.down, .int .i64 s.ops, .int .i64 s.reads, .int .i64 s.fails, .bool done] 28)).alloc (.cells #[.int .u8 kd, .int .i64 n, .int .u8 c, .int .u8 cut, .bool d, .slice fa fl fc] 34)).alloc (.cells #[.int .i64 0, .slice none 0 0, .bool false, .int .i64 0, .int .i64 0, .int .i64 0, .bool false] 28) := ⟨_, rfl⟩
  have HBW : Hid (Below w.heap.size w W) := by rw [hW]; exact box3_new _ _ _ _
  have HX0 : Hid (Bx w.heap.size W #[.int .i64 s.room, .slice a m cap, .bool s.down, .int .i64 s.ops, .int .i64 s.reads, .int .i64 s.fails, .bool done] #[.int .u8 kd, .int .i64 n, .int .u8 c, .int .u8 cut, .bool d, .slice fa fl fc]) := by rw [hW]; exact bx_new _ _ _
  have HD : Hid (Dk W p nb mb s) := hd.below HBW.out
  have HR : Hid (Rf W [p, nb, mb] (.agg (rcells s (.slice a m cap) done)) s) := hr.below HBW.out
  have HF : Hid (FV W [p, nb, mb] (.slice fa fl fc) fs) := hf.below HBW.out
  have HXL : Hid (∀ x ∈ [p, nb, mb], x < w.heap.size) := by intro x hx; simp at hx; omega
  have htm : Int.tmod kd 8 = kd % 8 := Int.tmod_eq_emod_of_nonneg k0
  have hkm : 0 ≤ kd % 8 := by omega
  have hw8 : IntKind.u8.wrap (kd % 8) = kd % 8 := by rw [IntKind.wrap_u8]; omega
  have e4 : (kd % 8 == 4) = false := beq_eq_false_iff_ne.2 (by omega)
  have e5 : (kd % 8 == 5) = false := beq_eq_false_iff_ne.2 (by omega)
  have e6 : (kd % 8 == 6) = false := beq_eq_false_iff_ne.2 (by omega)
  have e7 : (kd % 8 == 7) = false := beq_eq_false_iff_ne.2 (by omega)
  obtain ⟨L, hL⟩ : ∃ L : Nat, (if 0 < cut then cut.toNat else 256) = L := ⟨_, rfl⟩
  have hLl : (actL c cut).length = L := by
    rw [← hL]
    unfold actL
    split
    · rw [List.length_take, actB_len]; omega
    · exact actB_len c
  have hL256 : L ≤ 256 := by rw [← hL]; split <;> omega
  have HACT : Hid (∀ w1 : World, w1.heap[W.heap.size + 1]? = some (.cells (blkA (actB c)) 5 (0, 0)) → BV w1 (some ⟨W.heap.size + 1, 0, none⟩) (actL c cut)) := fun w1 h => act_bv h0 h1 h
  have HBY : Hid (Calls Try.prog 29 #[.agg #[.int .u8 kd, .int .i64 n, .int .u8 c, .int .u8 cut, .bool d, .slice fa fl fc]] W fun e w' => e = .returned (.slice (some ⟨W.heap.size + 1, 0, none⟩) L 256) ∧ w'.heap[W.heap.size + 1]? = some (.cells (blkA (actB c)) 5 (0, 0)) ∧ Below W.heap.size W w') := by
    have := bytes_any kd n c cut d fa fl fc W h0 h1 q0 q1
    rw [hL] at this
    exact this
  have HWs : Hid (W.heap.size = w.heap.size + 3) := by
    have : W.heap.size = w.heap.size + 3 := by rw [hW]; simp
    exact this
  obtain ⟨g, hg⟩ : ∃ g, W.heap.size + 1 = g := ⟨_, rfl⟩
  have hgw : w.heap.size + 4 = g := by have := HWs.out; omega
  rw [hg] at HACT HBY
  have HAB : Hid (AllB (actB c) ∧ (actB c).length = 256) := ⟨actB_all h0 h1, actB_len c⟩
  have HRX : Hid (Rf W [g, p, nb, mb] (.agg (rcells s (.slice a m cap) done)) s) := HR.out.blk _ (fun y hy => by rcases List.mem_cons.1 hy with e | e; exact .inr (by omega); exact .inl e)
  clear hd hr hf
  obtain ⟨x0, x1, x2⟩ := HX0.out
  obtain ⟨a0, a1, a2, a3, a4, a5⟩ := AC.of x1
  clear x0 x1 x2
  unfold rcells
  go_enter Try.func11, Try.ntmps11
  go_wp2_with (first
    | (go_at_call 29; rw [← hW]; refine HBY.out.mono ?_; rintro e w1 ⟨rfl, hg1, hb1⟩; have HG1 : Hid (w1.heap[g]? = some (.cells (blkA (actB c)) 5 (0, 0))) := hg1; have HB1 : Hid (Below W.heap.size W w1) := hb1; have HX1 := HX0.out.below hb1; obtain ⟨x0, x1, x2⟩ := HX1; obtain ⟨b0, b1, b2, b3, b4, b5⟩ := AC.of x1; clear x0 x1 x2 hg1 hb1 HBY)
    | (go_at_call 16; refine (write_any p nb mb s n (some ⟨g, 0, none⟩) L 256 (actL c cut) w1 (HD.out.below HB1.out) (HACT.out w1 HG1.out) hLl (by omega) (fun b off e hm => by simp at e hm; have := HXL.out b (by simpa using hm); omega)).mono ?_; rintro e w2 ⟨rfl, hd2, ho2⟩; have HD2 : Hid (Dk w2 p nb mb (writeS s n (actL c cut))) := hd2; have HO2 : Hid (Off [p, nb, mb] w1 w2) := ho2; have HX2 := (HX0.out.below HB1.out).off ho2 (fun x hx => .inl (HXL.out x hx)); obtain ⟨x0, x1, x2⟩ := HX2; obtain ⟨r0, r1, r2, r3, r4, r5, r6, _⟩ := RC.of x0; obtain ⟨d0, d1, d2, d3, d4, d5⟩ := AC.of x1; clear x0 x1 x2 hd2 ho2)
    | (go_at_call 30; refine (rwrite_any [g, p, nb, mb] _ s n (some ⟨g, 0, none⟩) 256 L (actL c cut) w2 ((HRX.out.below HB1.out).off HO2.out (fun y hy => List.mem_cons_of_mem _ hy)) (fun x hx => by have s1 := HB1.out.size; have s2 := HO2.out.size; have s3 := HWs.out; have s4 := (Array.getElem?_eq_some_iff.1 HG1.out).1; rcases List.mem_cons.1 hx with e | e; omega; have := HXL.out x e; omega) ((HACT.out w1 HG1.out).offX HO2.out (fun b off e hm => by simp at e hm; have := HXL.out b (by simpa using hm); omega)) hLl).mono ?_; rintro e w3 ⟨v', rfl, hr3, hb3⟩; obtain ⟨ay, my, capy, doney, e3⟩ := hr3.open; subst e3; have HR3 : Hid (Rf w3 [g, p, nb, mb] (.agg (rcells (writeS s n (actL c cut)) (.slice ay my capy) doney)) (writeS s n (actL c cut))) := hr3; have HB3 : Hid (Below w2.heap.size w2 w3) := hb3; have HX3 : Hid (Bx w.heap.size w3 #[.int .i64 s.room, .slice a m cap, .bool s.down, .int .i64 s.ops, .int .i64 s.reads, .int .i64 s.fails, .bool done] #[.int .u8 kd, .int .i64 n, .int .u8 c, .int .u8 cut, .bool d, .slice fa fl fc]) := ((HX0.out.below HB1.out).off HO2.out (fun x hx => .inl (HXL.out x hx))).below hb3; have HG3 : Hid (w3.heap[g]? = some (.cells (blkA (actB c)) 5 (0, 0))) := (hb3.block g (by have := HO2.out.size; have := (Array.getElem?_eq_some_iff.1 HG1.out).1; omega)).trans ((HO2.out.block g (Array.getElem?_eq_some_iff.1 HG1.out).1 (fun hm => by have := HXL.out g hm; omega)).trans HG1.out); obtain ⟨x0, x1, x2⟩ := HX3.out; obtain ⟨c0, c1, c2, c3, c4, c5, c6, f0, f1, f2, f3, f4, f5, f6⟩ := RC.of x0; clear x0 x1 x2 hr3 hb3; unfold rcells)
    | fail)
  have HEND : Hid (∀ w', Off [w.heap.size, g, w.heap.size + 2] w3 w' → Dk w' p nb mb (writeS s n (actL c cut)) ∧ Rf w' [p, nb, mb] (.agg (rcells (writeS s n (actL c cut)) (.slice ay my capy) doney)) (writeS s n (actL c cut)) ∧ Off [p, nb, mb] w w') := fun w' hoff => ⟨(HD2.out.below HB3.out).set2 hoff w.heap.size hp hnb hmb (by intro y hy; simp at hy; omega), (Rf.boxes HR3.out ⟨_, HX3.out.1⟩ ⟨_, HX3.out.2.2⟩ hoff (fun y hy => by simp at hy ⊢; omega)).blk _ (fun y hy => .inl (List.mem_cons_of_mem _ hy)), ((((Off.of_below HBW.out).trans (Off.of_below HB1.out)).join HO2.out (fun y hy => .inl hy)).trans (Off.of_below HB3.out)).join hoff (fun y hy => .inr (by simp at hy; omega))⟩
  have HRC : Hid (∃ V, V = (((((((w3.setCell ⟨w.heap.size, 0, none⟩ (.int .i64 (writeS s n (actL c cut)).room)).setCell ⟨w.heap.size, 1, none⟩ (.slice ay my capy)).setCell ⟨w.heap.size, 2, none⟩ (.bool (writeS s n (actL c cut)).down)).setCell ⟨w.heap.size, 3, none⟩ (.int .i64 (writeS s n (actL c cut)).ops)).setCell ⟨w.heap.size, 4, none⟩ (.int .i64 (writeS s n (actL c cut)).reads)).setCell ⟨w.heap.size, 5, none⟩ (.int .i64 (writeS s n (actL c cut)).fails)).setCell ⟨w.heap.size, 6, none⟩ (.bool doney)) ∧ V.heap[w.heap.size]? = some (.cells #[.int .i64 (writeS s n (actL c cut)).room, .slice ay my capy, .bool (writeS s n (actL c cut)).down, .int .i64 (writeS s n (actL c cut)).ops, .int .i64 (writeS s n (actL c cut)).reads, .int .i64 (writeS s n (actL c cut)).fails, .bool doney] 28 (0, 0)) ∧ Off [w.heap.size] w3 V) := ⟨_, rfl, set7 HX3.out.1, off7 _ _ _ _ _ _ _ _ _⟩
  obtain ⟨V, hV, v0, vo⟩ := HRC.out
  rw [← hV]
  have HZ : Hid (V.heap[w.heap.size + 2]? = some (.cells #[.int .i64 0, .slice none 0 0, .bool false, .int .i64 0, .int .i64 0, .int .i64 0, .bool false] 28 (0, 0))) := (vo.block (w.heap.size + 2) (Array.getElem?_eq_some_iff.1 HX3.out.2.2).1 (by simp)).trans HX3.out.2.2
  have HG : Hid (V.heap[g]? = some (.cells (blkA (actB c)) 5 (0, 0))) := (vo.block g (Array.getElem?_eq_some_iff.1 HG3.out).1 (by simp; omega)).trans HG3.out
  have HV0 : Hid (V.heap[w.heap.size]? = some (.cells #[.int .i64 (writeS s n (actL c cut)).room, .slice ay my capy, .bool (writeS s n (actL c cut)).down, .int .i64 (writeS s n (actL c cut)).ops, .int .i64 (writeS s n (actL c cut)).reads, .int .i64 (writeS s n (actL c cut)).fails, .bool doney] 28 (0, 0))) := v0
  have HVO : Hid (Off [w.heap.size] w3 V) := vo
  clear hV v0 vo HRC HD HR HF HRX HACT HG1 HB1 HX0 HO2 HD2 HR3 HB3 HX3 HG3 hW c0 c1 c2 c3 c4 c5 c6 f0 f1 f2 f3 f4 f5 f6 r0 r1 r2 r3 r4 r5 r6 b0 b1 b2 b3 b4 b5 d0 d1 d2 d3 d4 d5 a0 a1 a2 a3 a4 a5
  go_loopw [18] (fun iv wr => ∃ (k : Nat) (zs : List Int), k ≤ L ∧ iv = .int .i64 k ∧ zs.length = 256 ∧ Hid (AllB zs) ∧ Hid (wr.heap[g]? = some (.cells (blkA zs) 5 (0, 0))) ∧ Hid (Off [g] V wr)) (fun iv _ => L - (intOf iv).toNat)
  case atStart => exact ⟨0, actB c, Nat.zero_le _, rfl, HAB.out.2, HAB.out.1, HG.out, Off.refl _ _⟩
  case round =>
    obtain ⟨k, zs, hk, rfl, hzl, HZA, HGZ, HVW⟩ := hrel
    by_cases hlt : k < L
    · have hcz := cell_of_row wr g k _ 5 (0, 0) HGZ.out
      rw [blkA_get _ k (by omega)] at hcz
      have hfz := frozen_of_row wr g k _ 5 HGZ.out
      have hz := HZA.out.getD k
      have HN : Hid (∀ z, (wr.setCell ⟨g, k, none⟩ (.int .u8 z)).heap[g]? = some (.cells (blkA (zs.set k z)) 5 (0, 0))) := fun z => by
        rw [heap_setCell_same wr g k _ 5 _ HGZ.out, blkA_set]
      have HNA : Hid (∀ z, 0 ≤ z → z ≤ 255 → AllB (zs.set k z)) := fun z h0 h1 y hy => by
        rcases List.mem_or_eq_of_mem_set hy with h | h
        · exact HZA.out y h
        · subst h; exact ⟨h0, h1⟩
      have hdk : decide ((k : Int) < (L : Int)) = true := by simp; omega
      generalize zs.getD k 0 = z at *
      go_wp2
      go_roundw
      case rel => exact ⟨k + 1, zs.set k ((z + 1) % 256), by omega, by go_num, by rw [List.length_set]; exact hzl, HNA.out _ (by omega) (by omega), HN.out _, HVW.out.setCell (by simp) _⟩
      case measure => simp [intOf]; omega
    · have hdk : decide ((k : Int) < (L : Int)) = false := by simp; omega
      have l0 := (Array.getElem?_eq_some_iff.1 HV0.out).1
      have l2 := (Array.getElem?_eq_some_iff.1 HZ.out).1
      obtain ⟨c0, c1, c2, c3, c4, c5, c6, f0, f1, f2, f3, f4, f5, f6⟩ := RC.of ((HVW.out.block w.heap.size l0 (by simp; omega)).trans HV0.out)
      obtain ⟨z0, z1, z2, z3, z4, z5, z6, y0, y1, y2, y3, y4, y5, y6⟩ := RC.of ((HVW.out.block (w.heap.size + 2) l2 (by simp; omega)).trans HZ.out)
      have HOF : Hid (Off [w.heap.size, g, w.heap.size + 2] w3 wr) := (HVO.out.mono (by simp)).trans (HVW.out.mono (by simp))
      clear l0 l2
      go_wp2
      refine bodyPost_ret (v := .tuple #[.agg (rcells (writeS s n (actL c cut)) (.slice ay my capy) doney), .bool true]) (by simp [results, Try.results11, go_sem, z0, z1, z2, z3, z4, z5, z6]) rfl ⟨_, rfl, HEND.out _ ?_⟩
      iterate 7 (refine Off.setCell ?_ (by simp) _)
      exact HOF.out
end Go.Proofs.Ytmapjikbplindaa
