/- An act upon both disks: Read; and any act. -/
import Derived.Test.YtmapjikbplindaaDoB
namespace Go.Proofs.Ytmapjikbplindaa
open Go.RowKit Go.Maps
set_option maxRecDepth 20000
set_option linter.unusedVariables false

theorem Own.stored {w : World} {base g n cap : Nat} {zs : List Int} (h : Own w base (.slice (some ⟨g, 0, none⟩) n cap) zs) (j : Nat) (z : Int) : Own (w.setCell ⟨g, j, none⟩ (.int .u8 z)) base (.slice (some ⟨g, 0, none⟩) n cap) (zs.set j z) := by
  have hn : zs.length = n := by
    rcases h.2 with ⟨h', _⟩ | ⟨g', cap', cur, h', _⟩
    · simp at h'
    · simp at h'; omega
  subst hn
  have := (World.ownsRow.stored h j (.int .u8 z)).1
  unfold Own
  rw [List.length_set, List.map_set]
  exact this
theorem Own.cells1 {w : World} {base g n cap : Nat} {zs : List Int} (h : Own w base (.slice (some ⟨g, 0, none⟩) n cap) zs) (hz : AllB zs) (k : Nat) (hk : k < zs.length) : w.cell? ⟨g, k, none⟩ = some (.int .u8 (zs.getD k 0)) ∧ w.frozen? ⟨g, k, none⟩ = false := by
  have hn : zs.length = n := by
    rcases h.2 with ⟨h', _⟩ | ⟨g', cap', cur, h', _⟩
    · simp at h'
    · simp at h'; omega
  subst hn
  refine ⟨?_, World.ownsRow.frozenAt h k⟩
  have hc := World.ownsRow.cellAt (g := g) h k (by omega)
  rw [hc, List.getElem?_map, List.getElem?_eq_getElem hk, List.getD_eq_getElem?_getD, List.getElem?_eq_getElem hk]
  rfl
theorem AllB.set' {a : List Int} (ha : AllB a) (k : Nat) {z : Int} (h0 : 0 ≤ z) (h1 : z ≤ 255) : AllB (a.set k z) := fun y hy => by
  rcases List.mem_or_eq_of_mem_set hy with h | h
  · exact ha y h
  · subst h; exact ⟨h0, h1⟩
theorem bv_drop {w : World} {b off : Nat} {zs : List Int} (h : BV w (some ⟨b, off, none⟩) zs) : AllB zs := h.1
set_option maxHeartbeats 1600000 in
theorem do_read_ok (p nb mb : Nat) (s : DS) (r : Value) (kd n c cut : Int) (d : Bool) (fa : Option Addr) (fl fc : Nat) (fs : List Int) (w : World) (hd : Dk w p nb mb s) (hr : Rf w [p, nb, mb] r s) (hf : FV w [p, nb, mb] (.slice fa fl fc) fs) (k0 : 0 ≤ kd) (hk : kd % 8 = 5) (hE : reachE s n = 0) (hn : n ≤ 9223372036854775807) :
    Calls Try.prog 11 #[.pointer (some ⟨p, 0, none⟩), r, .agg #[.int .u8 kd, .int .i64 n, .int .u8 c, .int .u8 cut, .bool d, .slice fa fl fc]] w fun e w' => ∃ r', e = .returned (.tuple #[r', .bool true]) ∧ Dk w' p nb mb (readS s n) ∧ Rf w' [p, nb, mb] r' (readS s n) ∧ Off [p, nb, mb] w w' := by
  obtain ⟨hn1, hn2, hn3, hp, hnb, hmb⟩ := hd.ne
  obtain ⟨a, m, cap, done, rfl⟩ := hr.open
  obtain ⟨W, hW⟩ : ∃ W, W = ((w.alloc (.cells #[.int .i64 s.room, .slice a m cap, .bool s.down, .int .i64 s.ops, .int .i64 s.reads, .int .i64 s.fails, .bool done] 28)).alloc (.cells #[.int .u8 kd, .int .i64 n, .int .u8 c, .int .u8 cut, .bool d, .slice fa fl fc] 34)).alloc (.cells #[.int .i64 0, .slice none 0 0, .bool false, .int .i64 0, .int .i64 0, .int .i64 0, .bool false] 28) := ⟨_, rfl⟩
  have HBW : Hid (Below w.heap.size w W) := by rw [hW]; exact box3_new _ _ _ _
  have HX0 : Hid (Bx w.heap.size W #[.int .i64 s.room, .slice a m cap, .bool s.down, .int .i64 s.ops, .int .i64 s.reads, .int .i64 s.fails, .bool done] #[.int .u8 kd, .int .i64 n, .int .u8 c, .int .u8 cut, .bool d, .slice fa fl fc]) := by rw [hW]; exact bx_new _ _ _
  have HD : Hid (Dk W p nb mb s) := hd.below HBW.out
  have HR : Hid (Rf W [p, nb, mb] (.agg (rcells s (.slice a m cap) done)) s) := hr.below HBW.out
  have HF : Hid (FV W [p, nb, mb] (.slice fa fl fc) fs) := hf.below HBW.out
  have HXL : Hid (∀ x ∈ [p, nb, mb], x < w.heap.size) := by intro x hx; simp at hx; omega
  have htm : Int.tmod kd 8 = 5 := by rw [Int.tmod_eq_emod_of_nonneg k0]; exact hk
  clear hd hr hf
  obtain ⟨x0, x1, x2⟩ := HX0.out
  obtain ⟨a0, a1, a2, a3, a4, a5⟩ := AC.of x1
  clear x0 x1 x2
  have HRB : Hid ((readB s n).length = 256) := by
    have : (readB s n).length = 256 := by
      obtain ⟨e1, e2⟩ := readS_well hE
      rw [e2]
      exact (HD.out.1.isB _ (reach_ok hE).2.2).1
    exact this
  have HAB : Hid (AllB (readB s n)) := readB_allB HD.out.1 n
  have HWs : Hid (W.heap.size = w.heap.size + 3) := by
    have : W.heap.size = w.heap.size + 3 := by rw [hW]; simp
    exact this
  unfold rcells
  go_enter Try.func11, Try.ntmps11
  go_wp2_with (first
    | (go_at_call 15; rw [← hW]; refine (read_any p nb mb s n W HD.out).mono ?_; rintro e w1 ⟨v1, rfl, hown, hd1, ho1⟩; obtain ⟨g, cap1, e1, _, hgb, hgs⟩ := hown.shape 256 HRB.out (by decide); subst e1; have HD1 : Hid (Dk w1 p nb mb (readS s n)) := hd1; have HO1 : Hid (Off [p, nb, mb] W w1) := ho1; have HOW : Hid (Own w1 W.heap.size (.slice (some ⟨g, 0, none⟩) 256 cap1) (readB s n)) := hown; have HX1 := HX0.out.off ho1 (fun x hx => .inl (HXL.out x hx)); obtain ⟨x0, x1, x2⟩ := HX1; obtain ⟨r0, r1, r2, r3, r4, r5, r6, _⟩ := RC.of x0; obtain ⟨b0, b1, b2, b3, b4, b5⟩ := AC.of x1; clear x0 x1 x2 hd1 ho1 hown)
    | (go_at_call 26; refine (rread_any [g, p, nb, mb] _ s n w1 ((HR.out.blk [g, p, nb, mb] (fun y hy => by rcases List.mem_cons.1 hy with e | e; exact .inr (by omega); exact .inl e)).off HO1.out (fun y hy => List.mem_cons_of_mem _ hy))).mono ?_; rintro e w2 ⟨v', rfl, hr2, hb2⟩; obtain ⟨ay, my, capy, doney, e2⟩ := hr2.open; subst e2; have HR2 : Hid (Rf w2 [g, p, nb, mb] (.agg (rcells (readS s n) (.slice ay my capy) doney)) (readS s n)) := hr2; have HB2 : Hid (Below w1.heap.size w1 w2) := hb2; have HX2 : Hid (Bx w.heap.size w2 #[.int .i64 s.room, .slice a m cap, .bool s.down, .int .i64 s.ops, .int .i64 s.reads, .int .i64 s.fails, .bool done] #[.int .u8 kd, .int .i64 n, .int .u8 c, .int .u8 cut, .bool d, .slice fa fl fc]) := (HX0.out.off HO1.out (fun x hx => .inl (HXL.out x hx))).below hb2; have HO2 : Hid (Own w2 W.heap.size (.slice (some ⟨g, 0, none⟩) 256 cap1) (readB s n)) := HOW.out.below hb2; have hcv := conv_own (HOW.out.below (hb2.trans ((Below.refl w1.heap.size w2).alloc hb2.size (.cells #[.int .i64 (readS s n).room, .slice ay my capy, .bool (readS s n).down, .int .i64 (readS s n).ops, .int .i64 (readS s n).reads, .int .i64 (readS s n).fails, .bool doney] 28)))) HAB.out; clear hr2 hb2; unfold rcells)
    | fail)
  have HRC : Hid (∃ V, V = w2.alloc (.cells #[.int .i64 (readS s n).room, .slice ay my capy, .bool (readS s n).down, .int .i64 (readS s n).ops, .int .i64 (readS s n).reads, .int .i64 (readS s n).fails, .bool doney] 28) ∧ V.heap[w2.heap.size]? = some (.cells #[.int .i64 (readS s n).room, .slice ay my capy, .bool (readS s n).down, .int .i64 (readS s n).ops, .int .i64 (readS s n).reads, .int .i64 (readS s n).fails, .bool doney] 28 (0, 0)) ∧ Below w2.heap.size w2 V) := ⟨_, rfl, heap_alloc_last _ _, (Below.refl _ _).alloc (Nat.le_refl _) _⟩
  obtain ⟨V, hV, v0, vo⟩ := HRC.out
  rw [← hV]
  have HZ : Hid (V.heap[w.heap.size + 2]? = some (.cells #[.int .i64 0, .slice none 0 0, .bool false, .int .i64 0, .int .i64 0, .int .i64 0, .bool false] 28 (0, 0))) := (HX2.out.below vo).2.2
  have HEND : Hid (∀ w', Off [g, w.heap.size + 2] V w' → Dk w' p nb mb (readS s n) ∧ Rf w' [p, nb, mb] (.agg (rcells (readS s n) (.slice ay my capy) doney)) (readS s n) ∧ Off [p, nb, mb] w w') := fun w' hoff => ⟨((HD1.out.below HB2.out).below vo).set2 hoff w.heap.size hp hnb hmb (by have := HWs.out; intro y hy; simp at hy; omega), (Rf.boxes (HR2.out.below vo) ⟨_, HZ.out⟩ ⟨_, HZ.out⟩ hoff (fun y hy => by simp at hy ⊢; omega)).blk _ (fun y hy => .inl (by simp at hy ⊢; omega)), ((((Off.of_below HBW.out).join HO1.out (fun y hy => .inl hy)).trans (Off.of_below HB2.out)).trans (Off.of_below vo)).join hoff (fun y hy => .inr (by have := HWs.out; simp at hy; omega))⟩
  have HOV : Hid (Own V W.heap.size (.slice (some ⟨g, 0, none⟩) 256 cap1) (readB s n)) := HO2.out.below vo
  have HV0 : Hid (V.heap[w2.heap.size]? = some (.cells #[.int .i64 (readS s n).room, .slice ay my capy, .bool (readS s n).down, .int .i64 (readS s n).ops, .int .i64 (readS s n).reads, .int .i64 (readS s n).fails, .bool doney] 28 (0, 0))) := v0
  have hgq : g ≠ w2.heap.size := by have := HB2.out.size; omega
  have hgz : g ≠ w.heap.size + 2 := by have := HWs.out; omega
  clear hV v0 vo HRC HD HR HF HX0 HO1 HD1 HR2 HB2 HX2 HO2 HOW hW hcv r0 r1 r2 r3 r4 r5 r6 b0 b1 b2 b3 b4 b5 a0 a1 a2 a3 a4 a5
  go_loopw [16] (fun iv wr => ∃ (k : Nat) (zs : List Int), k ≤ 256 ∧ iv = .int .i64 k ∧ zs.length = 256 ∧ Hid (AllB zs) ∧ Hid (Own wr W.heap.size (.slice (some ⟨g, 0, none⟩) 256 cap1) zs) ∧ Hid (Off [g] V wr)) (fun iv _ => 256 - (intOf iv).toNat)
  case atStart => exact ⟨0, readB s n, Nat.zero_le _, rfl, HRB.out, HAB.out, HOV.out, Off.refl _ _⟩
  case round =>
    obtain ⟨k, zs, hk, rfl, hzl, HZA, HGZ, HVW⟩ := hrel
    by_cases hlt : k < 256
    · obtain ⟨hcz, hfz⟩ := HGZ.out.cells1 HZA.out k (by omega)
      have hz := HZA.out.getD k
      have HN : Hid (∀ z, Own (wr.setCell ⟨g, k, none⟩ (.int .u8 z)) W.heap.size (.slice (some ⟨g, 0, none⟩) 256 cap1) (zs.set k z)) := fun z => HGZ.out.stored k z
      have HNA : Hid (∀ z, 0 ≤ z → z ≤ 255 → AllB (zs.set k z)) := fun z h0 h1 => HZA.out.set' k h0 h1
      have hdk : decide ((k : Int) < 256) = true := by simp; omega
      generalize zs.getD k 0 = z at *
      go_wp2
      go_roundw
      case rel => exact ⟨k + 1, zs.set k ((z + 1) % 256), by omega, by go_num, by rw [List.length_set]; exact hzl, HNA.out _ (by omega) (by omega), HN.out _, HVW.out.setCell (by simp) _⟩
      case measure => simp [intOf]; omega
    · have hdk : decide ((k : Int) < 256) = false := by simp; omega
      have l0 := (Array.getElem?_eq_some_iff.1 HV0.out).1
      have l2 := (Array.getElem?_eq_some_iff.1 HZ.out).1
      have HOF : Hid (Off [g, w.heap.size + 2] V wr) := HVW.out.mono (by simp)
      have HQ : Hid (wr.heap[w2.heap.size]? = some (.cells #[.int .i64 (readS s n).room, .slice ay my capy, .bool (readS s n).down, .int .i64 (readS s n).ops, .int .i64 (readS s n).reads, .int .i64 (readS s n).fails, .bool doney] 28 (0, 0))) := (HVW.out.block w2.heap.size l0 (by simp; omega)).trans HV0.out
      have HZ2 : Hid (wr.heap[w.heap.size + 2]? = some (.cells #[.int .i64 0, .slice none 0 0, .bool false, .int .i64 0, .int .i64 0, .int .i64 0, .bool false] 28 (0, 0))) := (HVW.out.block (w.heap.size + 2) l2 (by simp; omega)).trans HZ.out
      clear l0 l2
      obtain ⟨c0, c1, c2, c3, c4, c5, c6, f0, f1, f2, f3, f4, f5, f6⟩ := RC.of (HQ.out)
      obtain ⟨z0, z1, z2, z3, z4, z5, z6, y0, y1, y2, y3, y4, y5, y6⟩ := RC.of (HZ2.out)
      go_wp2
      refine bodyPost_ret (v := .tuple #[.agg (rcells (readS s n) (.slice ay my capy) doney), .bool true]) (by simp [results, Try.results11, go_sem, z0, z1, z2, z3, z4, z5, z6]) rfl ⟨_, rfl, HEND.out _ ?_⟩
      iterate 7 (refine Off.setCell ?_ (by simp) _)
      exact HOF.out
set_option maxHeartbeats 1600000 in
theorem do_read_err (p nb mb : Nat) (s : DS) (r : Value) (kd n c cut : Int) (d : Bool) (fa : Option Addr) (fl fc : Nat) (fs : List Int) (w : World) (hd : Dk w p nb mb s) (hr : Rf w [p, nb, mb] r s) (hf : FV w [p, nb, mb] (.slice fa fl fc) fs) (k0 : 0 ≤ kd) (hk : kd % 8 = 5) (hE : reachE s n ≠ 0) (hn : n ≤ 9223372036854775807) :
    Calls Try.prog 11 #[.pointer (some ⟨p, 0, none⟩), r, .agg #[.int .u8 kd, .int .i64 n, .int .u8 c, .int .u8 cut, .bool d, .slice fa fl fc]] w fun e w' => ∃ r', e = .returned (.tuple #[r', .bool true]) ∧ Dk w' p nb mb (readS s n) ∧ Rf w' [p, nb, mb] r' (readS s n) ∧ Off [p, nb, mb] w w' := by
  obtain ⟨hn1, hn2, hn3, hp, hnb, hmb⟩ := hd.ne
  obtain ⟨a, m, cap, done, rfl⟩ := hr.open
  obtain ⟨W, hW⟩ : ∃ W, W = ((w.alloc (.cells #[.int .i64 s.room, .slice a m cap, .bool s.down, .int .i64 s.ops, .int .i64 s.reads, .int .i64 s.fails, .bool done] 28)).alloc (.cells #[.int .u8 kd, .int .i64 n, .int .u8 c, .int .u8 cut, .bool d, .slice fa fl fc] 34)).alloc (.cells #[.int .i64 0, .slice none 0 0, .bool false, .int .i64 0, .int .i64 0, .int .i64 0, .bool false] 28) := ⟨_, rfl⟩
  have HBW : Hid (Below w.heap.size w W) := by rw [hW]; exact box3_new _ _ _ _
  have HX0 : Hid (Bx w.heap.size W #[.int .i64 s.room, .slice a m cap, .bool s.down, .int .i64 s.ops, .int .i64 s.reads, .int .i64 s.fails, .bool done] #[.int .u8 kd, .int .i64 n, .int .u8 c, .int .u8 cut, .bool d, .slice fa fl fc]) := by rw [hW]; exact bx_new _ _ _
  have HD : Hid (Dk W p nb mb s) := hd.below HBW.out
  have HR : Hid (Rf W [p, nb, mb] (.agg (rcells s (.slice a m cap) done)) s) := hr.below HBW.out
  have HF : Hid (FV W [p, nb, mb] (.slice fa fl fc) fs) := hf.below HBW.out
  have HXL : Hid (∀ x ∈ [p, nb, mb], x < w.heap.size) := by intro x hx; simp at hx; omega
  have htm : Int.tmod kd 8 = 5 := by rw [Int.tmod_eq_emod_of_nonneg k0]; exact hk
  clear hd hr hf
  obtain ⟨x0, x1, x2⟩ := HX0.out
  obtain ⟨q0, q1, q2, q3, q4, q5⟩ := AC.of x1
  clear x0 x1 x2
  have HRB : Hid ((readB s n).length = 0) := by
    have : (readB s n).length = 0 := by
      obtain ⟨e1, e2⟩ := readS_err hE
      rw [e2]; rfl
    exact this
  have HAB : Hid (AllB (readB s n)) := readB_allB HD.out.1 n
  have HWs : Hid (W.heap.size = w.heap.size + 3) := by
    have : W.heap.size = w.heap.size + 3 := by rw [hW]; simp
    exact this
  unfold rcells
  go_enter Try.func11, Try.ntmps11
  go_wp2_with (first
    | (go_at_call 15; rw [← hW]; refine (read_any p nb mb s n W HD.out).mono ?_; rintro e w1 ⟨v1, rfl, hown, hd1, ho1⟩; obtain ⟨a1, cap1, e1, _⟩ := hown.view HAB.out; rw [HRB.out] at e1; subst e1; have HD1 : Hid (Dk w1 p nb mb (readS s n)) := hd1; have HO1 : Hid (Off [p, nb, mb] W w1) := ho1; have HOW : Hid (Own w1 W.heap.size (.slice a1 0 cap1) (readB s n)) := hown; have HX1 := HX0.out.off ho1 (fun x hx => .inl (HXL.out x hx)); obtain ⟨x0, x1, x2⟩ := HX1; obtain ⟨r0, r1, r2, r3, r4, r5, r6, _⟩ := RC.of x0; obtain ⟨b0, b1, b2, b3, b4, b5⟩ := AC.of x1; clear x0 x1 x2 hd1 ho1 hown)
    | (go_at_call 26; refine (rread_any [p, nb, mb] _ s n w1 (HR.out.off HO1.out (fun y hy => hy))).mono ?_; rintro e w2 ⟨v', rfl, hr2, hb2⟩; obtain ⟨ay, my, capy, doney, e2⟩ := hr2.open; subst e2; have HR2 : Hid (Rf w2 [p, nb, mb] (.agg (rcells (readS s n) (.slice ay my capy) doney)) (readS s n)) := hr2; have HB2 : Hid (Below w1.heap.size w1 w2) := hb2; have HX2 : Hid (Bx w.heap.size w2 #[.int .i64 s.room, .slice a m cap, .bool s.down, .int .i64 s.ops, .int .i64 s.reads, .int .i64 s.fails, .bool done] #[.int .u8 kd, .int .i64 n, .int .u8 c, .int .u8 cut, .bool d, .slice fa fl fc]) := (HX0.out.off HO1.out (fun x hx => .inl (HXL.out x hx))).below hb2; have HO2 : Hid (Own w2 W.heap.size (.slice a1 0 cap1) (readB s n)) := HOW.out.below hb2; have hcv := conv_own (HOW.out.below (hb2.trans ((Below.refl w1.heap.size w2).alloc hb2.size (.cells #[.int .i64 (readS s n).room, .slice ay my capy, .bool (readS s n).down, .int .i64 (readS s n).ops, .int .i64 (readS s n).reads, .int .i64 (readS s n).fails, .bool doney] 28)))) HAB.out; clear hr2 hb2; unfold rcells)
    | fail)
  have HRC : Hid (∃ V, V = w2.alloc (.cells #[.int .i64 (readS s n).room, .slice ay my capy, .bool (readS s n).down, .int .i64 (readS s n).ops, .int .i64 (readS s n).reads, .int .i64 (readS s n).fails, .bool doney] 28) ∧ V.heap[w2.heap.size]? = some (.cells #[.int .i64 (readS s n).room, .slice ay my capy, .bool (readS s n).down, .int .i64 (readS s n).ops, .int .i64 (readS s n).reads, .int .i64 (readS s n).fails, .bool doney] 28 (0, 0)) ∧ Below w2.heap.size w2 V) := ⟨_, rfl, heap_alloc_last _ _, (Below.refl _ _).alloc (Nat.le_refl _) _⟩
  obtain ⟨V, hV, v0, vo⟩ := HRC.out
  rw [← hV]
  have HZ : Hid (V.heap[w.heap.size + 2]? = some (.cells #[.int .i64 0, .slice none 0 0, .bool false, .int .i64 0, .int .i64 0, .int .i64 0, .bool false] 28 (0, 0))) := (HX2.out.below vo).2.2
  have HEND : Hid (∀ w', Off [w.heap.size + 2] V w' → Dk w' p nb mb (readS s n) ∧ Rf w' [p, nb, mb] (.agg (rcells (readS s n) (.slice ay my capy) doney)) (readS s n) ∧ Off [p, nb, mb] w w') := fun w' hoff => ⟨((HD1.out.below HB2.out).below vo).set2 hoff w.heap.size hp hnb hmb (by have := HWs.out; intro y hy; simp at hy; omega), (Rf.boxes (HR2.out.below vo) ⟨_, HZ.out⟩ ⟨_, HZ.out⟩ hoff (fun y hy => by simp at hy ⊢; omega)).blk _ (fun y hy => .inl (by simp at hy ⊢; omega)), ((((Off.of_below HBW.out).join HO1.out (fun y hy => .inl hy)).trans (Off.of_below HB2.out)).trans (Off.of_below vo)).join hoff (fun y hy => .inr (by have := HWs.out; simp at hy; omega))⟩
  have HOV : Hid (Own V W.heap.size (.slice a1 0 cap1) (readB s n)) := HO2.out.below vo
  have HV0 : Hid (V.heap[w2.heap.size]? = some (.cells #[.int .i64 (readS s n).room, .slice ay my capy, .bool (readS s n).down, .int .i64 (readS s n).ops, .int .i64 (readS s n).reads, .int .i64 (readS s n).fails, .bool doney] 28 (0, 0))) := v0
  clear hV v0 vo HRC HD HR HF HX0 HO1 HD1 HR2 HB2 HX2 HO2 HOW hW hcv r0 r1 r2 r3 r4 r5 r6 b0 b1 b2 b3 b4 b5
  go_loopw [16] (fun iv wr => iv = .int .i64 0 ∧ wr = V) (fun iv _ => 0)
  case atStart => exact ⟨rfl, rfl⟩
  case round =>
    obtain ⟨rfl, rfl⟩ := hrel
    obtain ⟨c0, c1, c2, c3, c4, c5, c6, f0, f1, f2, f3, f4, f5, f6⟩ := RC.of (HV0.out)
    obtain ⟨z0, z1, z2, z3, z4, z5, z6, y0, y1, y2, y3, y4, y5, y6⟩ := RC.of (HZ.out)
    go_wp2
    refine bodyPost_ret (v := .tuple #[.agg (rcells (readS s n) (.slice ay my capy) doney), .bool true]) (by simp [results, Try.results11, go_sem, z0, z1, z2, z3, z4, z5, z6]) rfl ⟨_, rfl, HEND.out _ ?_⟩
    iterate 7 (refine Off.setCell ?_ (by simp) _)
    exact Off.refl _ _
theorem do_any (p nb mb : Nat) (s : DS) (r : Value) (kd n c cut : Int) (d : Bool) (fa : Option Addr) (fl fc : Nat) (fs : List Int) (w : World) (hd : Dk w p nb mb s) (hr : Rf w [p, nb, mb] r s) (hf : FV w [p, nb, mb] (.slice fa fl fc) fs) (k0 : 0 ≤ kd) (hn : n ≤ 9223372036854775807) (h0 : 0 ≤ c) (h1 : c ≤ 255) (q0 : 0 ≤ cut) (q1 : cut ≤ 255) :
    Calls Try.prog 11 #[.pointer (some ⟨p, 0, none⟩), r, .agg #[.int .u8 kd, .int .i64 n, .int .u8 c, .int .u8 cut, .bool d, .slice fa fl fc]] w fun e w' => ∃ r', e = .returned (.tuple #[r', .bool true]) ∧ Dk w' p nb mb (actS s kd n c cut d fs) ∧ Rf w' [p, nb, mb] r' (actS s kd n c cut d fs) ∧ Off [p, nb, mb] w w' := by
  unfold actS
  by_cases e4 : kd % 8 = 4
  · rw [if_pos e4]
    exact do_sync p nb mb s r kd n c cut d fa fl fc fs w hd hr hf k0 e4 hn
  · rw [if_neg e4]
    by_cases e5 : kd % 8 = 5
    · rw [if_pos e5]
      by_cases hE : reachE s n = 0
      · exact do_read_ok p nb mb s r kd n c cut d fa fl fc fs w hd hr hf k0 e5 hE hn
      · exact do_read_err p nb mb s r kd n c cut d fa fl fc fs w hd hr hf k0 e5 hE hn
    · rw [if_neg e5]
      by_cases e6 : kd % 8 = 6
      · rw [if_pos e6]
        exact do_fail p nb mb s r kd n c cut d fa fl fc fs w hd hr hf k0 e6 hn
      · rw [if_neg e6]
        by_cases e7 : kd % 8 = 7
        · rw [if_pos e7]
          exact do_crash p nb mb s r kd n c cut d fa fl fc fs w hd hr hf k0 e7 hn
        · rw [if_neg e7]
          exact do_write p nb mb s r kd n c cut d fa fl fc fs w hd hr hf k0 (by omega) h0 h1 q0 q1 hn
end Go.Proofs.Ytmapjikbplindaa
