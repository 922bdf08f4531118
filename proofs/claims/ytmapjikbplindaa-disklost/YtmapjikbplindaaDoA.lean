/- An act upon both disks: what it leaves; Sync, Fail and Crash. -/
import Derived.Test.YtmapjikbplindaaRefJ
namespace Go.Proofs.Ytmapjikbplindaa
open Go.RowKit Go.Maps
set_option maxRecDepth 20000
set_option linter.unusedVariables false

/-- What an act makes of a disk. -/
def actS (s : DS) (kd n c cut : Int) (d : Bool) (fs : List Int) : DS :=
  if kd % 8 = 4 then syncS s else if kd % 8 = 5 then readS s n else if kd % 8 = 6 then failS s n d else if kd % 8 = 7 then crashS s fs else writeS s n (actL c cut)
theorem Rf.blk {w : World} {X : List Nat} {v : Value} {s : DS} (h : Rf w X v s) (Y : List Nat) (hY : ∀ y ∈ Y, y ∈ X ∨ w.heap.size ≤ y) : Rf w Y v s := by
  obtain ⟨ok, lv, done, ns, e, h1, h2, h3, h4, h5, h6⟩ := h
  refine ⟨ok, lv, done, ns, e, h1, h2, h3, h4, h5, fun g hg hm => ?_⟩
  rcases hY g hm with q | q
  · exact h6 g hg q
  · have := (World.ownsRow.lt h5 g hg).2; omega
theorem Rf.box2 {w w' : World} {X : List Nat} {v : Value} {s : DS} {b c : Nat} (h : Rf w X v s) (hb : ∃ cs, w.heap[b]? = some (.cells cs 28 (0, 0))) (hc : ∃ cs, w.heap[c]? = some (.cells cs 28 (0, 0))) (ho : Off [b, c] w w') : Rf w' X v s := by
  obtain ⟨ok, lv, done, ns, e, h1, h2, h3, h4, h5, h6⟩ := h
  refine ⟨ok, lv, done, ns, e, h1, h2, h3, h4, h5.off ho ?_, h6⟩
  intro g hg hm
  obtain ⟨cs, hb⟩ := hb
  obtain ⟨ds, hc⟩ := hc
  rcases h5.2 with ⟨rfl, _⟩ | ⟨g', cap, cur, rfl, _, hg', _⟩
  · cases hg
  · cases hg
    simp at hm
    rcases hm with rfl | rfl
    · rw [hb] at hg'; simp at hg'
    · rw [hc] at hg'; simp at hg'
/-- The three boxes of a call of Do. -/
def Bx (n : Nat) (W : World) (rc ac : Array Value) : Prop := W.heap[n]? = some (.cells rc 28 (0, 0)) ∧ W.heap[n + 1]? = some (.cells ac 34 (0, 0)) ∧ W.heap[n + 2]? = some (.cells #[.int .i64 0, .slice none 0 0, .bool false, .int .i64 0, .int .i64 0, .int .i64 0, .bool false] 28 (0, 0))
theorem Bx.off {n : Nat} {W W' : World} {rc ac : Array Value} {X : List Nat} (h : Bx n W rc ac) (ho : Off X W W') (hX : ∀ x ∈ X, x < n ∨ n + 3 ≤ x) : Bx n W' rc ac := by
  have l0 := (Array.getElem?_eq_some_iff.1 h.1).1
  have l1 := (Array.getElem?_eq_some_iff.1 h.2.1).1
  have l2 := (Array.getElem?_eq_some_iff.1 h.2.2).1
  exact ⟨(ho.block n l0 (fun hm => by have := hX _ hm; omega)).trans h.1, (ho.block (n + 1) l1 (fun hm => by have := hX _ hm; omega)).trans h.2.1, (ho.block (n + 2) l2 (fun hm => by have := hX _ hm; omega)).trans h.2.2⟩
theorem Bx.below {n : Nat} {W W' : World} {rc ac : Array Value} (h : Bx n W rc ac) (hb : Below W.heap.size W W') : Bx n W' rc ac := h.off (Off.of_below (X := []) hb) (by simp)
structure AC (w : World) (p : Nat) (c0 c1 c2 c3 c4 c5 : Value) : Prop where
  c0 : w.cell? ⟨p, 0, none⟩ = some c0
  c1 : w.cell? ⟨p, 1, none⟩ = some c1
  c2 : w.cell? ⟨p, 2, none⟩ = some c2
  c3 : w.cell? ⟨p, 3, none⟩ = some c3
  c4 : w.cell? ⟨p, 4, none⟩ = some c4
  c5 : w.cell? ⟨p, 5, none⟩ = some c5
theorem AC.of {w : World} {p : Nat} {c0 c1 c2 c3 c4 c5 : Value} (h : w.heap[p]? = some (.cells #[c0, c1, c2, c3, c4, c5] 34 (0, 0))) : AC w p c0 c1 c2 c3 c4 c5 := by
  refine ⟨?_, ?_, ?_, ?_, ?_, ?_⟩ <;> (rw [cell_of_row _ _ _ _ _ _ h]; rfl)
theorem box3_new (w : World) (o p q : Obj) : Below w.heap.size w (((w.alloc o).alloc p).alloc q) := (((Below.refl _ _).alloc (Nat.le_refl _) _).alloc (by simp) _).alloc (by simp <;> omega) _
theorem bx_new (w : World) (rc ac : Array Value) : Bx w.heap.size (((w.alloc (.cells rc 28)).alloc (.cells ac 34)).alloc (.cells #[.int .i64 0, .slice none 0 0, .bool false, .int .i64 0, .int .i64 0, .int .i64 0, .bool false] 28)) rc ac := by
  refine ⟨?_, ?_, ?_⟩
  · rw [heap_alloc_old _ _ _ (by simp <;> omega), heap_alloc_old _ _ _ (by simp <;> omega)]
    exact heap_alloc_new _ _
  · rw [heap_alloc_old _ _ _ (by simp <;> omega)]
    have := heap_alloc_new (w.alloc (.cells rc 28)) (.cells ac 34 (0, 0))
    simpa using this
  · have := heap_alloc_new ((w.alloc (.cells rc 28)).alloc (.cells ac 34 (0, 0))) (.cells #[.int .i64 0, .slice none 0 0, .bool false, .int .i64 0, .int .i64 0, .int .i64 0, .bool false] 28 (0, 0))
    simpa using this
theorem Dk.set2 {w w' : World} {p nb mb : Nat} {s : DS} {Y : List Nat} (h : Dk w p nb mb s) (ho : Off Y w w') (n : Nat) (hp : p < n) (hnb : nb < n) (hmb : mb < n) (hY : ∀ y ∈ Y, n ≤ y) : Dk w' p nb mb s :=
  h.off ho (fun hm => by have := hY _ hm; omega) (fun hm => by have := hY _ hm; omega) (fun hm => by have := hY _ hm; omega)
theorem Off.join {X Y : List Nat} {a b c : World} (h : Off X a b) (k : Off Y b c) (hY : ∀ y ∈ Y, y ∈ X ∨ a.heap.size ≤ y) : Off X a c :=
  ⟨k.os.trans h.os, k.tape.trans h.tape, k.output.trans h.output, Nat.le_trans h.size k.size, fun i hi hx => (k.block i (Nat.lt_of_lt_of_le hi h.size) (fun hm => by rcases hY i hm with q | q; exact hx q; omega)).trans (h.block i hi hx)⟩
theorem FV.free {w : World} {X : List Nat} {v : Value} {fs : List Int} (h : FV w X v fs) : FV w [] v fs := by
  obtain ⟨a, cap, e, h1, h2, h3, h4⟩ := h
  exact ⟨a, cap, e, h1, h2, h3, by simp⟩
set_option maxHeartbeats 1600000 in
theorem do_sync (p nb mb : Nat) (s : DS) (r : Value) (kd n c cut : Int) (d : Bool) (fa : Option Addr) (fl fc : Nat) (fs : List Int) (w : World) (hd : Dk w p nb mb s) (hr : Rf w [p, nb, mb] r s) (hf : FV w [p, nb, mb] (.slice fa fl fc) fs) (k0 : 0 ≤ kd) (hk : kd % 8 = 4) (hn : n ≤ 9223372036854775807) :
    Calls Try.prog 11 #[.pointer (some ⟨p, 0, none⟩), r, .agg #[.int .u8 kd, .int .i64 n, .int .u8 c, .int .u8 cut, .bool d, .slice fa fl fc]] w fun e w' => ∃ r', e = .returned (.tuple #[r', .bool true]) ∧ Dk w' p nb mb (syncS s) ∧ Rf w' [p, nb, mb] r' (syncS s) ∧ Off [p, nb, mb] w w' := by
  obtain ⟨hn1, hn2, hn3, hp, hnb, hmb⟩ := hd.ne
  obtain ⟨a, m, cap, done, rfl⟩ := hr.open
  obtain ⟨W, hW⟩ : ∃ W, W = ((w.alloc (.cells #[.int .i64 s.room, .slice a m cap, .bool s.down, .int .i64 s.ops, .int .i64 s.reads, .int .i64 s.fails, .bool done] 28)).alloc (.cells #[.int .u8 kd, .int .i64 n, .int .u8 c, .int .u8 cut, .bool d, .slice fa fl fc] 34)).alloc (.cells #[.int .i64 0, .slice none 0 0, .bool false, .int .i64 0, .int .i64 0, .int .i64 0, .bool false] 28) := ⟨_, rfl⟩
  have HBW : Hid (Below w.heap.size w W) := by rw [hW]; exact box3_new _ _ _ _
  have HX0 : Hid (Bx w.heap.size W #[.int .i64 s.room, .slice a m cap, .bool s.down, .int .i64 s.ops, .int .i64 s.reads, .int .i64 s.fails, .bool done] #[.int .u8 kd, .int .i64 n, .int .u8 c, .int .u8 cut, .bool d, .slice fa fl fc]) := by rw [hW]; exact bx_new _ _ _
  have HD : Hid (Dk W p nb mb s) := hd.below HBW.out
  have HR : Hid (Rf W [p, nb, mb] (.agg (rcells s (.slice a m cap) done)) s) := hr.below HBW.out
  have HF : Hid (FV W [p, nb, mb] (.slice fa fl fc) fs) := hf.below HBW.out
  have HXL : Hid (∀ x ∈ [p, nb, mb], x < w.heap.size) := by intro x hx; simp at hx; omega
  have htm : Int.tmod kd 8 = 4 := by rw [Int.tmod_eq_emod_of_nonneg k0]; exact hk
  clear hd hr hf
  obtain ⟨x0, x1, x2⟩ := HX0.out
  obtain ⟨a0, a1, a2, a3, a4, a5⟩ := AC.of x1
  clear x0 x1 x2
  unfold rcells
  go_enter Try.func11, Try.ntmps11
  go_wp2_with (first
    | (go_at_call 17; rw [← hW]; refine (sync_any p nb mb s W HD.out).mono ?_; rintro e w1 ⟨rfl, hd1, ho1⟩; have HD1 : Hid (Dk w1 p nb mb (syncS s)) := hd1; have HO1 : Hid (Off [p, nb, mb] W w1) := ho1; have HX1 := HX0.out.off ho1 (fun x hx => .inl (HXL.out x hx)); obtain ⟨x0, x1, x2⟩ := HX1; obtain ⟨r0, r1, r2, r3, r4, r5, r6, _⟩ := RC.of x0; obtain ⟨b0, b1, b2, b3, b4, b5⟩ := AC.of x1; clear x0 x1 x2 hd1 ho1)
    | (go_at_call 25; refine (rsync_any [p, nb, mb] _ s w1 (HR.out.off HO1.out (fun y hy => hy)) (fun x hx => Nat.lt_of_lt_of_le (Nat.lt_of_lt_of_le (HXL.out x hx) HBW.out.size) HO1.out.size)).mono ?_; rintro e w2 ⟨v', rfl, hr2, hb2⟩; obtain ⟨ay, my, capy, doney, e2⟩ := hr2.open; subst e2; have HR2 : Hid (Rf w2 [p, nb, mb] (.agg (rcells (syncS s) (.slice ay my capy) doney)) (syncS s)) := hr2; have HB2 : Hid (Below w1.heap.size w1 w2) := hb2; have HX2 : Hid (Bx w.heap.size w2 #[.int .i64 s.room, .slice a m cap, .bool s.down, .int .i64 s.ops, .int .i64 s.reads, .int .i64 s.fails, .bool done] #[.int .u8 kd, .int .i64 n, .int .u8 c, .int .u8 cut, .bool d, .slice fa fl fc]) := (HX0.out.off HO1.out (fun x hx => .inl (HXL.out x hx))).below hb2; obtain ⟨x0, x1, x2⟩ := HX2.out; obtain ⟨c0, c1, c2, c3, c4, c5, c6, f0, f1, f2, f3, f4, f5, f6⟩ := RC.of x0; obtain ⟨z0, z1, z2, z3, z4, z5, z6, y0, y1, y2, y3, y4, y5, y6⟩ := RC.of x2; clear x0 x1 x2 hr2 hb2; unfold rcells)
    | fail)
  have HEND : Hid (∀ w', Off [w.heap.size, w.heap.size + 2] w2 w' → Dk w' p nb mb (syncS s) ∧ Rf w' [p, nb, mb] (.agg (rcells (syncS s) (.slice ay my capy) doney)) (syncS s) ∧ Off [p, nb, mb] w w') := fun w' hoff => ⟨(HD1.out.below HB2.out).set2 hoff w.heap.size hp hnb hmb (by simp), Rf.box2 HR2.out ⟨_, HX2.out.1⟩ ⟨_, HX2.out.2.2⟩ hoff, (((Off.of_below HBW.out).join HO1.out (fun y hy => .inl hy)).trans (Off.of_below HB2.out)).join hoff (fun y hy => .inr (by simp at hy; omega))⟩
  refine bodyPost_ret (v := .tuple #[.agg (rcells (syncS s) (.slice ay my capy) doney), .bool true]) (by simp [results, Try.results11, go_sem, z0, z1, z2, z3, z4, z5, z6]) rfl ⟨_, rfl, HEND.out _ ?_⟩
  iterate 14 (refine Off.setCell ?_ (by simp) _)
  exact Off.refl _ _
set_option maxHeartbeats 1600000 in
theorem do_fail (p nb mb : Nat) (s : DS) (r : Value) (kd n c cut : Int) (d : Bool) (fa : Option Addr) (fl fc : Nat) (fs : List Int) (w : World) (hd : Dk w p nb mb s) (hr : Rf w [p, nb, mb] r s) (hf : FV w [p, nb, mb] (.slice fa fl fc) fs) (k0 : 0 ≤ kd) (hk : kd % 8 = 6) (hn : n ≤ 9223372036854775807) :
    Calls Try.prog 11 #[.pointer (some ⟨p, 0, none⟩), r, .agg #[.int .u8 kd, .int .i64 n, .int .u8 c, .int .u8 cut, .bool d, .slice fa fl fc]] w fun e w' => ∃ r', e = .returned (.tuple #[r', .bool true]) ∧ Dk w' p nb mb (failS s n d) ∧ Rf w' [p, nb, mb] r' (failS s n d) ∧ Off [p, nb, mb] w w' := by
  obtain ⟨hn1, hn2, hn3, hp, hnb, hmb⟩ := hd.ne
  obtain ⟨a, m, cap, done, rfl⟩ := hr.open
  obtain ⟨W, hW⟩ : ∃ W, W = ((w.alloc (.cells #[.int .i64 s.room, .slice a m cap, .bool s.down, .int .i64 s.ops, .int .i64 s.reads, .int .i64 s.fails, .bool done] 28)).alloc (.cells #[.int .u8 kd, .int .i64 n, .int .u8 c, .int .u8 cut, .bool d, .slice fa fl fc] 34)).alloc (.cells #[.int .i64 0, .slice none 0 0, .bool false, .int .i64 0, .int .i64 0, .int .i64 0, .bool false] 28) := ⟨_, rfl⟩
  have HBW : Hid (Below w.heap.size w W) := by rw [hW]; exact box3_new _ _ _ _
  have HX0 : Hid (Bx w.heap.size W #[.int .i64 s.room, .slice a m cap, .bool s.down, .int .i64 s.ops, .int .i64 s.reads, .int .i64 s.fails, .bool done] #[.int .u8 kd, .int .i64 n, .int .u8 c, .int .u8 cut, .bool d, .slice fa fl fc]) := by rw [hW]; exact bx_new _ _ _
  have HD : Hid (Dk W p nb mb s) := hd.below HBW.out
  have HR : Hid (Rf W [p, nb, mb] (.agg (rcells s (.slice a m cap) done)) s) := hr.below HBW.out
  have HF : Hid (FV W [p, nb, mb] (.slice fa fl fc) fs) := hf.below HBW.out
  have HXL : Hid (∀ x ∈ [p, nb, mb], x < w.heap.size) := by intro x hx; simp at hx; omega
  have htm : Int.tmod kd 8 = 6 := by rw [Int.tmod_eq_emod_of_nonneg k0]; exact hk
  clear hd hr hf
  obtain ⟨x0, x1, x2⟩ := HX0.out
  obtain ⟨a0, a1, a2, a3, a4, a5⟩ := AC.of x1
  clear x0 x1 x2
  unfold rcells
  go_enter Try.func11, Try.ntmps11
  go_wp2_with (first
    | (go_at_call 18; rw [← hW]; refine (fail_any p nb mb s n d W HD.out hn).mono ?_; rintro e w1 ⟨rfl, hd1, ho1⟩; have HD1 : Hid (Dk w1 p nb mb (failS s n d)) := hd1; have HO1 : Hid (Off [p, nb, mb] W w1) := ho1; have HX1 := HX0.out.off ho1 (fun x hx => .inl (HXL.out x hx)); obtain ⟨x0, x1, x2⟩ := HX1; obtain ⟨r0, r1, r2, r3, r4, r5, r6, _⟩ := RC.of x0; obtain ⟨b0, b1, b2, b3, b4, b5⟩ := AC.of x1; clear x0 x1 x2 hd1 ho1)
    | (go_at_call 27; refine (rfail_any [p, nb, mb] _ s n d w1 (HR.out.off HO1.out (fun y hy => hy)) hn).mono ?_; rintro e w2 ⟨v', rfl, hr2, hb2⟩; obtain ⟨ay, my, capy, doney, e2⟩ := hr2.open; subst e2; have HR2 : Hid (Rf w2 [p, nb, mb] (.agg (rcells (failS s n d) (.slice ay my capy) doney)) (failS s n d)) := hr2; have HB2 : Hid (Below w1.heap.size w1 w2) := hb2; have HX2 : Hid (Bx w.heap.size w2 #[.int .i64 s.room, .slice a m cap, .bool s.down, .int .i64 s.ops, .int .i64 s.reads, .int .i64 s.fails, .bool done] #[.int .u8 kd, .int .i64 n, .int .u8 c, .int .u8 cut, .bool d, .slice fa fl fc]) := (HX0.out.off HO1.out (fun x hx => .inl (HXL.out x hx))).below hb2; obtain ⟨x0, x1, x2⟩ := HX2.out; obtain ⟨c0, c1, c2, c3, c4, c5, c6, f0, f1, f2, f3, f4, f5, f6⟩ := RC.of x0; obtain ⟨z0, z1, z2, z3, z4, z5, z6, y0, y1, y2, y3, y4, y5, y6⟩ := RC.of x2; clear x0 x1 x2 hr2 hb2; unfold rcells)
    | fail)
  have HEND : Hid (∀ w', Off [w.heap.size, w.heap.size + 2] w2 w' → Dk w' p nb mb (failS s n d) ∧ Rf w' [p, nb, mb] (.agg (rcells (failS s n d) (.slice ay my capy) doney)) (failS s n d) ∧ Off [p, nb, mb] w w') := fun w' hoff => ⟨(HD1.out.below HB2.out).set2 hoff w.heap.size hp hnb hmb (by simp), Rf.box2 HR2.out ⟨_, HX2.out.1⟩ ⟨_, HX2.out.2.2⟩ hoff, (((Off.of_below HBW.out).join HO1.out (fun y hy => .inl hy)).trans (Off.of_below HB2.out)).join hoff (fun y hy => .inr (by simp at hy; omega))⟩
  refine bodyPost_ret (v := .tuple #[.agg (rcells (failS s n d) (.slice ay my capy) doney), .bool true]) (by simp [results, Try.results11, go_sem, z0, z1, z2, z3, z4, z5, z6]) rfl ⟨_, rfl, HEND.out _ ?_⟩
  iterate 14 (refine Off.setCell ?_ (by simp) _)
  exact Off.refl _ _
set_option maxHeartbeats 1600000 in
theorem do_crash (p nb mb : Nat) (s : DS) (r : Value) (kd n c cut : Int) (d : Bool) (fa : Option Addr) (fl fc : Nat) (fs : List Int) (w : World) (hd : Dk w p nb mb s) (hr : Rf w [p, nb, mb] r s) (hf : FV w [p, nb, mb] (.slice fa fl fc) fs) (k0 : 0 ≤ kd) (hk : kd % 8 = 7) (hn : n ≤ 9223372036854775807) :
    Calls Try.prog 11 #[.pointer (some ⟨p, 0, none⟩), r, .agg #[.int .u8 kd, .int .i64 n, .int .u8 c, .int .u8 cut, .bool d, .slice fa fl fc]] w fun e w' => ∃ r', e = .returned (.tuple #[r', .bool true]) ∧ Dk w' p nb mb (crashS s fs) ∧ Rf w' [p, nb, mb] r' (crashS s fs) ∧ Off [p, nb, mb] w w' := by
  obtain ⟨hn1, hn2, hn3, hp, hnb, hmb⟩ := hd.ne
  obtain ⟨a, m, cap, done, rfl⟩ := hr.open
  obtain ⟨W, hW⟩ : ∃ W, W = ((w.alloc (.cells #[.int .i64 s.room, .slice a m cap, .bool s.down, .int .i64 s.ops, .int .i64 s.reads, .int .i64 s.fails, .bool done] 28)).alloc (.cells #[.int .u8 kd, .int .i64 n, .int .u8 c, .int .u8 cut, .bool d, .slice fa fl fc] 34)).alloc (.cells #[.int .i64 0, .slice none 0 0, .bool false, .int .i64 0, .int .i64 0, .int .i64 0, .bool false] 28) := ⟨_, rfl⟩
  have HBW : Hid (Below w.heap.size w W) := by rw [hW]; exact box3_new _ _ _ _
  have HX0 : Hid (Bx w.heap.size W #[.int .i64 s.room, .slice a m cap, .bool s.down, .int .i64 s.ops, .int .i64 s.reads, .int .i64 s.fails, .bool done] #[.int .u8 kd, .int .i64 n, .int .u8 c, .int .u8 cut, .bool d, .slice fa fl fc]) := by rw [hW]; exact bx_new _ _ _
  have HD : Hid (Dk W p nb mb s) := hd.below HBW.out
  have HR : Hid (Rf W [p, nb, mb] (.agg (rcells s (.slice a m cap) done)) s) := hr.below HBW.out
  have HF : Hid (FV W [p, nb, mb] (.slice fa fl fc) fs) := hf.below HBW.out
  have HXL : Hid (∀ x ∈ [p, nb, mb], x < w.heap.size) := by intro x hx; simp at hx; omega
  have htm : Int.tmod kd 8 = 7 := by rw [Int.tmod_eq_emod_of_nonneg k0]; exact hk
  clear hd hr hf
  obtain ⟨x0, x1, x2⟩ := HX0.out
  obtain ⟨a0, a1, a2, a3, a4, a5⟩ := AC.of x1
  clear x0 x1 x2
  unfold rcells
  go_enter Try.func11, Try.ntmps11
  go_wp2_with (first
    | (go_at_call 14; rw [← hW]; refine (crash_any p nb mb s _ fs W HD.out HF.out).mono ?_; rintro e w1 ⟨rfl, hd1, ho1⟩; have HD1 : Hid (Dk w1 p nb mb (crashS s fs)) := hd1; have HO1 : Hid (Off [p, nb, mb] W w1) := ho1; have HX1 := HX0.out.off ho1 (fun x hx => .inl (HXL.out x hx)); obtain ⟨x0, x1, x2⟩ := HX1; obtain ⟨r0, r1, r2, r3, r4, r5, r6, _⟩ := RC.of x0; obtain ⟨b0, b1, b2, b3, b4, b5⟩ := AC.of x1; clear x0 x1 x2 hd1 ho1)
    | (go_at_call 28; refine (rcrash_any [p, nb, mb] _ _ s fs w1 (HR.out.off HO1.out (fun y hy => hy)) (fun x hx => Nat.lt_of_lt_of_le (Nat.lt_of_lt_of_le (HXL.out x hx) HBW.out.size) HO1.out.size) (HF.out.off HO1.out (fun y hy => hy)).free).mono ?_; rintro e w2 ⟨v', rfl, hr2, hb2⟩; obtain ⟨ay, my, capy, doney, e2⟩ := hr2.open; subst e2; have HR2 : Hid (Rf w2 [p, nb, mb] (.agg (rcells (crashS s fs) (.slice ay my capy) doney)) (crashS s fs)) := hr2; have HB2 : Hid (Below w1.heap.size w1 w2) := hb2; have HX2 : Hid (Bx w.heap.size w2 #[.int .i64 s.room, .slice a m cap, .bool s.down, .int .i64 s.ops, .int .i64 s.reads, .int .i64 s.fails, .bool done] #[.int .u8 kd, .int .i64 n, .int .u8 c, .int .u8 cut, .bool d, .slice fa fl fc]) := (HX0.out.off HO1.out (fun x hx => .inl (HXL.out x hx))).below hb2; obtain ⟨x0, x1, x2⟩ := HX2.out; obtain ⟨c0, c1, c2, c3, c4, c5, c6, f0, f1, f2, f3, f4, f5, f6⟩ := RC.of x0; obtain ⟨z0, z1, z2, z3, z4, z5, z6, y0, y1, y2, y3, y4, y5, y6⟩ := RC.of x2; clear x0 x1 x2 hr2 hb2; unfold rcells)
    | fail)
  have HEND : Hid (∀ w', Off [w.heap.size, w.heap.size + 2] w2 w' → Dk w' p nb mb (crashS s fs) ∧ Rf w' [p, nb, mb] (.agg (rcells (crashS s fs) (.slice ay my capy) doney)) (crashS s fs) ∧ Off [p, nb, mb] w w') := fun w' hoff => ⟨(HD1.out.below HB2.out).set2 hoff w.heap.size hp hnb hmb (by simp), Rf.box2 HR2.out ⟨_, HX2.out.1⟩ ⟨_, HX2.out.2.2⟩ hoff, (((Off.of_below HBW.out).join HO1.out (fun y hy => .inl hy)).trans (Off.of_below HB2.out)).join hoff (fun y hy => .inr (by simp at hy; omega))⟩
  refine bodyPost_ret (v := .tuple #[.agg (rcells (crashS s fs) (.slice ay my capy) doney), .bool true]) (by simp [results, Try.results11, go_sem, z0, z1, z2, z3, z4, z5, z6]) rfl ⟨_, rfl, HEND.out _ ?_⟩
  iterate 14 (refine Off.setCell ?_ (by simp) _)
  exact Off.refl _ _
end Go.Proofs.Ytmapjikbplindaa
