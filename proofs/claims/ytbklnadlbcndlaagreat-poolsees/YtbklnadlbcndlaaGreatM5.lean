import Derived.Test.YtbklnadlbcndlaaGreatM4
import Derived.Laws.CopyOwn
import Derived.StillTailTactics
import Derived.Laws.MakeOwn
namespace Go.Proofs.YtbklnadlbcndlaaGreat.D
set_option maxRecDepth 20000
open Go.RowKit Go.Maps
set_option maxRecDepth 20000
theorem size_blkA {zs : List Int} (h : zs.length = 256) : (blkA zs).size = 256 := by simp [blkA, h]
theorem blkA_get (zs : List Int) (i : Nat) (h : i < zs.length) : (blkA zs)[i]? = some (.int .u8 (zs.getD i 0)) := by
  simp [blkA, List.getElem?_map, List.getElem?_eq_getElem h, List.getD_eq_getElem?_getD]
theorem blkA_one (zs : List Int) : (blkA zs).all (·.oneCell') = true := by
  simp [blkA, Value.oneCell']
theorem len_zs256 : zs256.length = 256 := by unfold zs256; exact List.length_replicate
theorem ld_of {w : World} {g off : Nat} {flat : Array Value} {t : TypeId} (hg : w.heap[g]? = some (.cells flat t (0, 0))) {zs : List Int} (hl : zs.length = 256) (hc : ∀ i, i < 256 → flat[off + i]? = some (.int .u8 (zs.getD i 0))) :
    (loadCellsFrom ⟨g, off, none⟩ 0 256 #[]).run Tryz.prog w = .ok (blkA zs) w := by
  have h := run_loadCells_list (P := Tryz.prog) w ⟨g, off, none⟩ (blkA zs).toList (fun j v hv => by
    have hadd : (⟨g, off, none⟩ : Addr).add j = ⟨g, off + j, none⟩ := by unfold Addr.add; split <;> simp_all
    have hj : j < zs.length := by
      have := (List.getElem?_eq_some_iff.1 hv).1
      simpa [blkA] using this
    rw [hadd, cell_of_row _ _ _ _ _ _ hg, hc j (by omega)]
    rw [Array.getElem?_toList, blkA_get zs j hj] at hv
    exact hv)
  have hs : (blkA zs).toList.length = 256 := by simpa using size_blkA hl
  rw [hs] at h
  simpa [loadCells] using h

theorem run_loadAt71 {w : World} {g off : Nat} {flat : Array Value} {t : TypeId} (hg : w.heap[g]? = some (.cells flat t (0, 0))) {zs : List Int} (hl : zs.length = 256) (hc : ∀ i, i < 256 → flat[off + i]? = some (.int .u8 (zs.getD i 0))) :
    (Instr.loadAt 182 (.pointer (some ⟨g, off, none⟩))).run Tryz.prog w = .ok (.agg (blkA zs)) w := by
  have h := ld_of hg hl hc
  simp only [Instr.loadAt, Instr.sureAddr, Sem.run_bind, Sem.run_pure, Result.andThen, loadVar, Tryz.isAgg182, Tryz.sizeOf182, loadCells, if_true]
  rw [h]
theorem still_load71 {ops : Array Oper} {rest : List Oper} {o : Oper} {a : Act} {w : World} {Q : Act → Prop} (hgd : o.guard = none) (x : Operand) (ho : o.op = .load 182 x) (g off : Nat)
    (hx : a.eval x = .pointer (some ⟨g, off, none⟩)) (zs : List Int) (hrun : (Instr.loadAt 182 (.pointer (some ⟨g, off, none⟩))).run Tryz.prog w = .ok (.agg (blkA zs)) w)
    (h : wpStill Tryz.prog ops w Q rest (a.put o.dst (.agg (blkA zs)))) : wpStill Tryz.prog ops w Q (o :: rest) a := by
  refine wpStill_step fun K hK => ?_
  have hw : Region.wanted o (yielded ops a.tmps) = true := by simp [Region.wanted, hgd]
  rw [if_pos hw]
  unfold Oper.still
  simp only [execOp, ho, hx, Sem.run_bind, hrun, Result.andThen, Sem.run_pure, Oper.stillUpon]
  exact ⟨trivial, hK _ h⟩
theorem wp_alloc71 {ops : Array Oper} {rest : List Oper} {o : Oper} {a : Act} {w : World} {Q : Exit → Act → World → Prop} (hgd : o.guard = none) (ho : o.op = .alloc 182)
    (h : wpList Tryz.prog ops Q rest (a.put o.dst (.pointer (some ⟨w.heap.size, 0, none⟩))) (w.alloc (.cells (blkA zs256) 182))) : wpList Tryz.prog ops Q (o :: rest) a w := by
  refine wpList_plain hgd fun K hK => ?_
  unfold Oper.wp
  have hz := zero71.1
  unfold blkV at hz
  simp only [execOp, ho]
  simp [Instr.alloc, newVar, hz, Value.cells, Result.andThen]
  exact hK _ _ h

theorem wp_store71_new {ops : Array Oper} {rest : List Oper} {o : Oper} {a : Act} {w : World} {Q : Exit → Act → World → Prop} (hgd : o.guard = none) (x y : Operand) (ho : o.op = .store 182 x y)
    (us vs : List Int) (hu : us.length = 256) (hv : vs.length = 256) (hx : a.eval x = .pointer (some ⟨w.heap.size, 0, none⟩)) (hy : a.eval y = .agg (blkA vs))
    (h : ∀ w1, w1.heap.size = w.heap.size + 1 → w1.heap[w.heap.size]? = some (.cells (blkA vs) 182 (0, 0)) → Below w.heap.size w w1 → wpList Tryz.prog ops Q rest (a.put o.dst undef) w1) : wpList Tryz.prog ops Q (o :: rest) a (w.alloc (.cells (blkA us) 182)) := by
  refine wpList_store_row hgd 182 x y ho w.heap.size (blkA vs) hx hy 182 (blkA us) (heap_alloc_last _ _) (by rw [size_blkA hv]; exact zero71.2) (by rw [size_blkA hu, size_blkA hv]) (blkA_one vs) ?_
  rw [World.setRow_alloc_new]
  exact h _ (by simp) (heap_alloc_last _ _) ((Below.refl _ _).alloc (Nat.le_refl _) _)
def lay (flat : Array Value) (off : Nat) (zs : List Int) : Array Value := (flat.toList.take off ++ (zs.map (Value.int .u8) ++ flat.toList.drop (off + zs.length))).toArray
theorem size_lay (flat : Array Value) (off : Nat) (zs : List Int) (h : off + zs.length ≤ flat.size) : (lay flat off zs).size = flat.size := by
  simp [lay]; omega
theorem lay_at (flat : Array Value) (off : Nat) (zs : List Int) (h : off + zs.length ≤ flat.size) (i : Nat) (hi : i < zs.length) : (lay flat off zs)[off + i]? = some (.int .u8 (zs.getD i 0)) := by
  unfold lay
  rw [List.getElem?_toArray, List.getElem?_append_right (by simp; omega), List.getElem?_append_left (by simp; omega)]
  have e : off + i - (flat.toList.take off).length = i := by simp; omega
  rw [e, List.getElem?_map, List.getElem?_eq_getElem hi, List.getD_eq_getElem?_getD, List.getElem?_eq_getElem hi]
  rfl
theorem lay_low (flat : Array Value) (off : Nat) (zs : List Int) (h : off + zs.length ≤ flat.size) (k : Nat) (hk : k < off) : (lay flat off zs)[k]? = flat[k]? := by
  unfold lay
  rw [List.getElem?_toArray, List.getElem?_append_left (by simp; omega), List.getElem?_take_of_lt hk, Array.getElem?_toList]
theorem lay_high (flat : Array Value) (off : Nat) (zs : List Int) (h : off + zs.length ≤ flat.size) (k : Nat) (hk : off + zs.length ≤ k) : (lay flat off zs)[k]? = flat[k]? := by
  unfold lay
  rw [List.getElem?_toArray, List.getElem?_append_right (by simp; omega), List.getElem?_append_right (by simp; omega), List.getElem?_drop, Array.getElem?_toList]
  congr 1
  simp; omega
theorem Rows256.lay {flat : Array Value} {room : Nat} {B : Nat → List Int} (h : Rows256 flat room B) {n : Nat} (hn : n < room) {zs : List Int} (hz : zs.length = 256) : Rows256 (lay flat (n * 256) zs) room (upd B n zs) := by
  have hfit : n * 256 + zs.length ≤ flat.size := by have := h.1; omega
  refine ⟨by rw [size_lay _ _ _ hfit]; exact h.1, fun k hk i hi => ?_⟩
  by_cases e : k = n
  · subst e
    rw [upd_same]
    exact lay_at _ _ _ hfit i (by omega)
  · rw [upd_other _ _ e, ← h.2 k hk i hi]
    by_cases e2 : k < n
    · exact lay_low _ _ _ hfit _ (by omega)
    · exact lay_high _ _ _ hfit _ (by omega)
theorem BV.turned {w w' : World} {a : Option Addr} {zs : List Int} {mb room : Nat} {L : Nat → Bool} {S : Nat → List Int} (h : BV w a zs) (hm : Mp w mb room L S) (hg : w.grownBy w' (some mb)) : BV w' a zs := by
  obtain ⟨hz, h1 | ⟨b, off, rfl, hlt, hc⟩⟩ := h
  · exact ⟨hz, .inl h1⟩
  · by_cases e : zs = []
    · exact ⟨hz, .inl e⟩
    · have hne : b ≠ mb := by
        rintro rfl
        obtain ⟨D, ⟨es, clock, hb, _⟩, _⟩ := hm
        have := hc 0 (List.length_pos_iff.2 e)
        simp [World.cell?, hb] at this
      refine ⟨hz, .inr ⟨b, off, rfl, Nat.lt_of_lt_of_le hlt hg.size, fun i hi => ?_⟩⟩
      exact (World.cell?_of_block (w := w) (a := ⟨b, off + i, none⟩) (hg.block b hlt (by simp; exact hne))).trans (hc i hi)
theorem wp_copy_blk {ops : Array Oper} {rest : List Oper} {o : Oper} {a : Act} {w : World} {Q : Exit → Act → World → Prop} (hgd : o.guard = none) (d s : Operand)
    (ho : o.op = .call { callee := .builtin .copy, args := #[d, s], argTypes := #[29, 29] }) (g off m dcap scap : Nat) (ad : Option Addr) (k : Nat) (hd : a.eval d = .slice (some ⟨g, off, none⟩) m dcap) (hs : a.eval s = .slice ad k scap)
    (zs : List Int) (hz : zs.length = Nat.min k m) (hbv : BV w ad zs) (hp : 0 < zs.length) (flat : Array Value) (t : TypeId) (hg : w.heap[g]? = some (.cells flat t (0, 0))) (hfit : off + zs.length ≤ flat.size)
    (h : ∀ w', w'.heap[g]? = some (.cells (lay flat off zs) t (0, 0)) → Off [g] w w' → wpList Tryz.prog ops Q rest (a.put o.dst (goInt zs.length)) w') : wpList Tryz.prog ops Q (o :: rest) a w := by
  rcases hbv.2 with rfl | ⟨b, off', rfl, hlt, hc⟩
  · simp at hp
  · have := wpList_copy_own (P := Tryz.prog) (w := w) (Q := Q) (rest := rest) (ops := ops) hgd d s 29 29 ho 5 Tryz.underlying29 (by kernel_rfl) g off m dcap ⟨b, off', none⟩ k scap hd hs flat t hg (zs.map (Value.int .u8)) (by simpa using hz)
      (fun j v hv => by
        rw [List.getElem?_map, Option.map_eq_some_iff] at hv
        obtain ⟨z, hz1, rfl⟩ := hv
        have hj := (List.getElem?_eq_some_iff.1 hz1).1
        rw [add_plain, hc j hj, List.getD_eq_getElem?_getD, hz1]; rfl) (by simpa using hfit) (u8row zs)
    refine this ?_
    rw [List.length_map]
    exact h _ (setRow_heap w g _ _ t _ hg) ((Off.refl _ _).setRow (by simp) _)

set_option maxHeartbeats 400000 in
theorem put_loose (p nb mb : Nat) (s : DS) (n : Nat) (a : Option Addr) (cap' : Nat) (zs : List Int) (w : World) (h : Dk w p nb mb s) (hn : n < s.room) (hz : IsB zs) (hbv : BV w a zs) (hl : s.L n = true) :
    Calls Tryz.prog 156 #[.pointer (some ⟨p, 0, none⟩), .int .i64 n, .slice a 256 cap'] w fun e w' => e = .returned (.tuple #[]) ∧ Dk w' p nb mb (putS s n zs) ∧ Off [p, nb, mb] w w' := by
  have hne := h.ne
  obtain ⟨hn1, hn2, hn3, hp, hnb, hmb⟩ := hne
  have ok' := putS_ok h.1 (n := n) hz
  obtain ⟨ok, cap, set, after, done, flat, d1, d2, d3, d4, d5, d6⟩ := h
  obtain ⟨c0, c1, c2, c3, c4, c5, c6, c7, f0, f1, f2, f3, f4, f5, f6, f7⟩ := d1.cells
  have hlook := d5.look_ok hn ok.room
  rw [hl] at hlook
  have hus : (if true = true then s.S n else zs256).length = 256 := by simpa using (ok.isS n hn).1
  generalize (if true = true then s.S n else zs256) = us at hlook hus
  unfold blkV at hlook
  have h1 : (n : Int) < s.room := by omega
  have hb1 : decide ((n : Int) < 0) = false := by simp
  have D5 : Hid (Mp w mb s.room s.L s.S) := d5
  have D2 : Hid (w.heap[nb]? = some (.cells flat 182 (0, 0))) := d2
  have D1 : Hid (DkB w p (.slice (some ⟨nb, 0, none⟩) s.room cap) (.map (some mb)) (.bool s.down) (.bool set) (.int .i64 after) (.bool done) (.int .i64 s.ops) (.int .i64 s.reads)) := d1
  have HZ : Hid (IsB zs) := hz
  have HR : Hid (n * 256 + zs.length ≤ flat.size) := by
    have e1 := d4.1
    have e2 := hz.1
    have : n * 256 + zs.length ≤ flat.size := by omega
    exact this
  clear d1 d5 d2 hz
  go_enter Tryz.func156, Tryz.ntmps156
  go_wp2_with (first
    | (refine wp_alloc71 rfl rfl ?_)
    | (refine wp_store71_new rfl _ _ rfl zs256 us len_zs256 hus rfl rfl ?_; intro w1 hs1 hk1 hb1'; have c0' := (hb1'.cell (p := ⟨p, 0, none⟩) hp).trans c0; have c1' := (hb1'.cell (p := ⟨p, 1, none⟩) hp).trans c1)
    | (refine wp_copy_blk rfl _ _ rfl nb (n * 256) 256 256 cap' a 256 rfl rfl zs (by have := HZ.out.1; simp [this]) (hbv.below hb1') (by have := HZ.out.1; omega) flat 182 ((hb1'.block nb hnb).trans D2.out) HR.out ?_; intro w2 hk2 ho2)
    | fail)
  have hoff : Off [p, nb, mb] w w2 := (Off.of_below hb1').trans (ho2.mono (by simp))
  refine bodyPost_end (v := .tuple #[]) (results_none rfl _ _ _) rfl ⟨rfl, ⟨ok', cap, set, after, done, _, ?_, hk2, d3, d4.lay hn HZ.out.1, ?_, d6⟩, hoff⟩
  · exact (ho2.block p (by have := hb1'.size; omega) (by simp [hn1])).trans ((hb1'.block p hp).trans D1.out)
  · refine ((D5.out.off (Off.of_below (X := []) hb1') (by simp)).off ho2 (by simp; exact fun e => hn3 e.symm)).congr ?_ ?_
    · intro k hk
      by_cases e : k = n
      · subst e; rw [hl]; exact upd_same _ _ _
      · exact upd_other _ _ e
    · intro k _ _; rfl
set_option maxHeartbeats 400000 in
theorem put_new (p nb mb : Nat) (s : DS) (n : Nat) (a : Option Addr) (cap' : Nat) (zs : List Int) (w : World) (h : Dk w p nb mb s) (hn : n < s.room) (hz : IsB zs) (hbv : BV w a zs) (hl : s.L n = false) :
    Calls Tryz.prog 156 #[.pointer (some ⟨p, 0, none⟩), .int .i64 n, .slice a 256 cap'] w fun e w' => e = .returned (.tuple #[]) ∧ Dk w' p nb mb (putS s n zs) ∧ Off [p, nb, mb] w w' := by
  have hne := h.ne
  obtain ⟨hn1, hn2, hn3, hp, hnb, hmb⟩ := hne
  have ok' := putS_ok h.1 (n := n) hz
  obtain ⟨ok, cap, set, after, done, flat, d1, d2, d3, d4, d5, d6⟩ := h
  obtain ⟨c0, c1, c2, c3, c4, c5, c6, c7, f0, f1, f2, f3, f4, f5, f6, f7⟩ := d1.cells
  have hlook := d5.look_ok hn ok.room
  rw [hl] at hlook
  have hus : (if false = true then s.S n else zs256).length = 256 := by simpa using len_zs256
  generalize (if false = true then s.S n else zs256) = us at hlook hus
  unfold blkV at hlook
  have h1 : (n : Int) < s.room := by omega
  have hb1 : decide ((n : Int) < 0) = false := by simp
  have HL : Hid (s.L n = false) := hl
  have D5 : Hid (Mp w mb s.room s.L s.S) := d5
  have D2 : Hid (w.heap[nb]? = some (.cells flat 182 (0, 0))) := d2
  have D1 : Hid (DkB w p (.slice (some ⟨nb, 0, none⟩) s.room cap) (.map (some mb)) (.bool s.down) (.bool set) (.int .i64 after) (.bool done) (.int .i64 s.ops) (.int .i64 s.reads)) := d1
  have HZ : Hid (IsB zs) := hz
  have hBn := (ok.isB n hn).1
  have hld : ∀ W : World, W.heap[nb]? = some (.cells flat 182 (0, 0)) → (Instr.loadAt 182 (.pointer (some ⟨nb, n * 256, none⟩))).run Tryz.prog W = .ok (.agg (blkA (s.B n))) W := fun W hW => run_loadAt71 hW hBn (d4.2 n hn)
  have HLD : Hid (∀ W : World, W.heap[nb]? = some (.cells flat 182 (0, 0)) → (Instr.loadAt 182 (.pointer (some ⟨nb, n * 256, none⟩))).run Tryz.prog W = .ok (.agg (blkA (s.B n))) W) := hld
  have HR : Hid (n * 256 + zs.length ≤ flat.size) := by
    have e1 := d4.1
    have e2 := hz.1
    have : n * 256 + zs.length ≤ flat.size := by omega
    exact this
  clear d1 d5 d2 hz hld hl
  go_enter Tryz.func156, Tryz.ntmps156
  go_wp2_with (first
    | (refine wp_alloc71 rfl rfl ?_)
    | (refine wp_store71_new rfl _ _ rfl zs256 us len_zs256 hus rfl rfl ?_; intro w1 hs1 hk1 hb1'; have c0' := (hb1'.cell (p := ⟨p, 0, none⟩) hp).trans c0; have c1' := (hb1'.cell (p := ⟨p, 1, none⟩) hp).trans c1; have hl1 := HLD.out w1.drew ((hb1'.block nb hnb).trans D2.out); obtain ⟨w2, hup, hmp2, hg2⟩ := (D5.out.off (Off.of_below (X := []) hb1'.drew) (by simp)).store hn ok.room HL.out (s.B n); unfold blkV at hup)
    | fail)
  clear HLD c2 c3 c4 c5 c6 c7 f0 f1 f2 f3 f4 f5 f6 f7 hlook hk1
  have HL1 : Hid ((Instr.loadAt 182 (.pointer (some ⟨nb, n * 256, none⟩))).run Tryz.prog w1.drew = .ok (.agg (blkA (s.B n))) w1.drew) := hl1
  clear hl1
  refine wp_region_still_tail 12 (by kernel_rfl) (by kernel_rfl) ?_
  simp only [List.take_succ_cons, List.take_zero, List.drop_succ_cons, List.drop_zero]
  iterate 11 still_step
  refine still_load71 rfl _ rfl nb (n * 256) rfl (s.B n) HL1.out ?_
  refine wpStill_nil ?_
  have hbv2 := (hbv.below hb1'.drew).turned (D5.out.off (Off.of_below (X := []) hb1'.drew) (by simp)) hg2
  have hN : w2.heap[nb]? = some (.cells flat 182 (0, 0)) := (hg2.block nb (by show nb < w1.heap.size; omega) (by simp; exact hn3)).trans ((hb1'.block nb hnb).trans D2.out)
  have hP := (hg2.block p (by show p < w1.heap.size; omega) (by simp; exact hn2)).trans ((hb1'.block p hp).trans D1.out)
  have c0'' := DkB.cells hP
  have c02 := c0''.c0
  have hs2 : w.heap.size ≤ w2.heap.size := by have := hg2.size; have e : w1.drew.heap.size = w1.heap.size := rfl; omega
  have HN : Hid (w2.heap[nb]? = some (.cells flat 182 (0, 0))) := hN
  have HP : Hid (DkB w2 p (.slice (some ⟨nb, 0, none⟩) s.room cap) (.map (some mb)) (.bool s.down) (.bool set) (.int .i64 after) (.bool done) (.int .i64 s.ops) (.int .i64 s.reads)) := hP
  clear c0' c1' c0'' hN hP c0 c1
  change wpList _ _ _ _ _ w1.drew
  go_wp2_with (first
    | (refine wp_copy_blk rfl _ _ rfl nb (n * 256) 256 256 cap' a 256 rfl rfl zs (by have := HZ.out.1; simp [this]) hbv2 (by have := HZ.out.1; omega) flat 182 HN.out HR.out ?_; intro w3 hk3 ho3)
    | fail)
  have hoff : Off [p, nb, mb] w w3 := (((Off.of_below hb1').drew).grown hg2 (by simp)).trans (ho3.mono (by simp))
  refine bodyPost_end (v := .tuple #[]) (results_none rfl _ _ _) rfl ⟨rfl, ⟨ok', cap, set, after, done, _, ?_, hk3, d3, d4.lay hn HZ.out.1, ?_, d6⟩, hoff⟩
  · exact (ho3.block p (by omega) (by simp [hn1])).trans HP.out
  · refine (hmp2.off ho3 (by simp; exact fun e => hn3 e.symm)).congr (fun _ _ => rfl) ?_
    intro k hk hlk
    show s.S k = upd s.S n (s.B n) k
    by_cases e : k = n
    · subst e; rw [upd_same]; exact ok.same k hk HL.out
    · rw [upd_other _ _ e]

theorem put_any (p nb mb : Nat) (s : DS) (n : Nat) (a : Option Addr) (cap' : Nat) (zs : List Int) (w : World) (h : Dk w p nb mb s) (hn : n < s.room) (hz : IsB zs) (hbv : BV w a zs) :
    Calls Tryz.prog 156 #[.pointer (some ⟨p, 0, none⟩), .int .i64 n, .slice a 256 cap'] w fun e w' => e = .returned (.tuple #[]) ∧ Dk w' p nb mb (putS s n zs) ∧ Off [p, nb, mb] w w' := by
  cases hl : s.L n
  · exact put_new p nb mb s n a cap' zs w h hn hz hbv hl
  · exact put_loose p nb mb s n a cap' zs w h hn hz hbv hl
end Go.Proofs.YtbklnadlbcndlaaGreat.D
namespace Go.Proofs.YtbklnadlbcndlaaGreat.D
set_option maxRecDepth 20000
open Go.RowKit Go.Maps
set_option maxRecDepth 20000
theorem DkB.set {w : World} {p : Nat} {c0 c1 c2 c3 c4 c5 c6 c7 : Value} (h : DkB w p c0 c1 c2 c3 c4 c5 c6 c7) (v : Value) :
    DkB (w.setCell ⟨p, 2, none⟩ v) p c0 c1 v c3 c4 c5 c6 c7 ∧ DkB (w.setCell ⟨p, 3, none⟩ v) p c0 c1 c2 v c4 c5 c6 c7 ∧ DkB (w.setCell ⟨p, 4, none⟩ v) p c0 c1 c2 c3 v c5 c6 c7 ∧
    DkB (w.setCell ⟨p, 5, none⟩ v) p c0 c1 c2 c3 c4 v c6 c7 ∧ DkB (w.setCell ⟨p, 6, none⟩ v) p c0 c1 c2 c3 c4 c5 v c7 ∧ DkB (w.setCell ⟨p, 7, none⟩ v) p c0 c1 c2 c3 c4 c5 c6 v := by
  refine ⟨?_, ?_, ?_, ?_, ?_, ?_⟩ <;> exact heap_setCell_same w p _ _ 98 v h
theorem keep_set {w w' : World} {p nb mb room : Nat} {flat : Array Value} {L : Nat → Bool} {S : Nat → List Int} (ho : Off [p] w w') (h1 : p ≠ nb) (h2 : p ≠ mb) (hnb : w.heap[nb]? = some (.cells flat 182 (0, 0))) (hm : Mp w mb room L S) :
    w'.heap[nb]? = some (.cells flat 182 (0, 0)) ∧ Mp w' mb room L S :=
  ⟨(ho.block nb (Array.getElem?_eq_some_iff.1 hnb).1 (by simp; exact fun e => h1 e.symm)).trans hnb, hm.off ho (by simp; exact fun e => h2 e.symm)⟩
theorem off_p {p nb mb : Nat} {w w' : World} (h : Off [p] w w') : Off [p, nb, mb] w w' := h.mono (by simp)

def ticked (s : DS) : DS := { s with fails := (if 0 < s.fails then s.fails - 1 else s.fails) }
theorem ticked_ok {s : DS} (h : s.Ok) : (ticked s).Ok := by
  have lo := h.lo
  have hi := h.hi
  refine ⟨h.room, h.isB, h.isS, h.same, ?_, ?_⟩
  · show -1 ≤ (if 0 < s.fails then s.fails - 1 else s.fails)
    split <;> omega
  · show (if 0 < s.fails then s.fails - 1 else s.fails) ≤ 9223372036854775807
    split <;> omega
set_option maxHeartbeats 400000 in
theorem fails_any (p nb mb : Nat) (s : DS) (w : World) (h : Dk w p nb mb s) :
    Calls Tryz.prog 200 #[.pointer (some ⟨p, 0, none⟩)] w fun e w' => e = .returned (.bool (decide (s.fails = 0))) ∧ Dk w' p nb mb (ticked s) ∧ Off [p, nb, mb] w w' := by
  have hne := h.ne
  have hD : Hid (Dk w p nb mb s) := h
  have okt := ticked_ok h.1
  obtain ⟨ok, cap, set, after, done, flat, d1, d2, d3, d4, d5, d6⟩ := h
  have hlo := ok.lo
  have hhi := ok.hi
  obtain ⟨c0, c1, c2, c3, c4, c5, c6, c7, f0, f1, f2, f3, f4, f5, f6, f7⟩ := d1.cells
  rcases d6 with ⟨e1, rfl⟩ | ⟨e1, rfl, rfl, rfl⟩
  · have et : ticked s = s := by unfold ticked; rw [if_neg (by omega)]
    have ef : decide (s.fails = 0) = false := by simp; omega
    rw [et, ef]
    clear d1 d2 d4 d5 okt et ef
    go_enter Tryz.func200, Tryz.ntmps200
    go_wp2
    go_ret
    exact ⟨rfl, hD.out, Off.refl _ _⟩
  · by_cases h0 : s.fails = 0
    · have et : ticked s = s := by unfold ticked; rw [if_neg (by omega)]
      have ef : decide (s.fails = 0) = true := by simpa using h0
      rw [et, ef]
      rw [h0] at c4
      clear d1 d2 d4 d5 okt et ef
      go_enter Tryz.func200, Tryz.ntmps200
      go_wp2
      go_ret
      exact ⟨rfl, hD.out, Off.refl _ _⟩
    · have hpos : 0 < s.fails := by omega
      have hd : decide (0 < s.fails) = true := by simpa using hpos
      have hwr : wrap64 (s.fails - 1) = s.fails - 1 := by unfold wrap64; omega
      have HD : Hid (Dk (w.setCell ⟨p, 4, none⟩ (.int .i64 (s.fails - 1))) p nb mb (ticked s) ∧ Off [p, nb, mb] w (w.setCell ⟨p, 4, none⟩ (.int .i64 (s.fails - 1)))) := by
        have ho : Off [p] w (w.setCell ⟨p, 4, none⟩ (.int .i64 (s.fails - 1))) := (Off.refl _ _).setCell (by simp) _
        obtain ⟨k1, k2⟩ := keep_set ho hne.1 hne.2.1 d2 d5
        have et : (ticked s).fails = s.fails - 1 := by unfold ticked; simp [hpos]
        exact ⟨⟨okt, cap, true, s.fails - 1, s.done, flat, (d1.set _).2.2.1, k1, d3, d4, k2, .inr ⟨by rw [et]; omega, rfl, et.symm, rfl⟩⟩, off_p ho⟩
      have ef : decide (s.fails = 0) = false := by simpa using h0
      rw [ef]
      generalize s.fails = f at *
      clear d1 d2 d4 d5 okt ef
      go_enter Tryz.func200, Tryz.ntmps200
      go_wp2
      go_ret
      exact ⟨rfl, HD.out⟩
theorem wp_clear56 {ops : Array Oper} {rest : List Oper} {o : Oper} {a : Act} {w : World} {Q : Exit → Act → World → Prop} (hgd : o.guard = none) (x : Operand)
    (ho : o.op = .call { callee := .builtin .clear, args := #[x], argTypes := #[94] }) (mb : Nat) (w1 : World) (hx : a.eval x = .map (some mb)) (hrun : ∀ ty, (Builtin.clear_ #[94] ty #[.map (some mb)]).run Tryz.prog w = .ok (.tuple #[]) w1)
    (h : wpList Tryz.prog ops Q rest (a.put o.dst (.tuple #[])) w1) : wpList Tryz.prog ops Q (o :: rest) a w := by
  refine wpList_plain hgd fun K hK => ?_
  unfold Oper.wp
  simp [execOp, ho, resolve, invoke, builtin, hx, hrun, Result.andThen]
  exact hK _ _ h
set_option maxHeartbeats 400000 in
theorem settle_any (p nb mb : Nat) (s : DS) (w : World) (h : Dk w p nb mb s) :
    Calls Tryz.prog 147 #[.pointer (some ⟨p, 0, none⟩)] w fun e w' => e = .returned (.tuple #[]) ∧ Dk w' p nb mb (safeS s) ∧ Off [p, nb, mb] w w' := by
  obtain ⟨hn1, hn2, hn3, hp, hnb, hmb⟩ := h.ne
  have ok' := safeS_ok h.1
  obtain ⟨ok, cap, set, after, done, flat, d1, d2, d3, d4, d5, d6⟩ := h
  obtain ⟨c0, c1, c2, c3, c4, c5, c6, c7, f0, f1, f2, f3, f4, f5, f6, f7⟩ := d1.cells
  obtain ⟨w1, hcl, hm1, hg1⟩ := d5.clear s.B
  have HD : Hid (Dk w1 p nb mb (safeS s) ∧ Off [p, nb, mb] w w1) := by
    have ho : Off [p, nb, mb] w w1 := (Off.refl _ _).grown hg1 (by simp)
    exact ⟨⟨ok', cap, set, after, done, flat, (hg1.block p hp (by simp; exact hn2)).trans d1, (hg1.block nb hnb (by simp; exact hn3)).trans d2, d3, d4, hm1, d6⟩, ho⟩
  have hcl' : ∀ ty, (Builtin.clear_ #[94] ty #[.map (some mb)]).run Tryz.prog w = .ok (.tuple #[]) w1 := hcl
  have HC : Hid (∀ ty, (Builtin.clear_ #[94] ty #[.map (some mb)]).run Tryz.prog w = .ok (.tuple #[]) w1) := hcl
  clear d1 d2 d4 d5 hcl hcl' hm1 hg1
  go_enter Tryz.func147, Tryz.ntmps147
  go_wp2_with (first | (refine wp_clear56 rfl _ rfl mb w1 rfl HC.out ?_) | fail)
  exact bodyPost_end (v := .tuple #[]) (results_none rfl _ _ _) rfl ⟨rfl, HD.out⟩

def opsed (s : DS) : DS := { s with ops := inc s.ops }
def felled (s : DS) : DS := { s with fails := -1, down := true }
theorem opsed_ok {s : DS} (h : s.Ok) : (opsed s).Ok := ⟨h.room, h.isB, h.isS, h.same, h.lo, h.hi⟩
theorem felled_ok {s : DS} (h : s.Ok) : (felled s).Ok := ⟨h.room, h.isB, h.isS, h.same, by show (-1 : Int) ≤ -1; decide, by show (-1 : Int) ≤ 9223372036854775807; decide⟩
theorem Dk.opsed {w : World} {p nb mb : Nat} {s : DS} (h : Dk w p nb mb s) : Dk (w.setCell ⟨p, 6, none⟩ (.int .i64 (inc s.ops))) p nb mb (opsed s) ∧ Off [p, nb, mb] w (w.setCell ⟨p, 6, none⟩ (.int .i64 (inc s.ops))) := by
  have hne := h.ne
  have ok' := opsed_ok h.1
  obtain ⟨ok, cap, set, after, done, flat, d1, d2, d3, d4, d5, d6⟩ := h
  have ho : Off [p] w (w.setCell ⟨p, 6, none⟩ (.int .i64 (inc s.ops))) := (Off.refl _ _).setCell (by simp) _
  obtain ⟨k1, k2⟩ := keep_set ho hne.1 hne.2.1 d2 d5
  exact ⟨⟨ok', cap, set, after, done, flat, (d1.set _).2.2.2.2.1, k1, d3, d4, k2, d6⟩, off_p ho⟩
theorem Dk.felled {w : World} {p nb mb : Nat} {s : DS} (h : Dk w p nb mb s) :
    Dk ((((w.setCell ⟨p, 3, none⟩ (.bool false)).setCell ⟨p, 4, none⟩ (.int .i64 0)).setCell ⟨p, 5, none⟩ (.bool false)).setCell ⟨p, 2, none⟩ (.bool true)) p nb mb (felled s) ∧
      Off [p, nb, mb] w ((((w.setCell ⟨p, 3, none⟩ (.bool false)).setCell ⟨p, 4, none⟩ (.int .i64 0)).setCell ⟨p, 5, none⟩ (.bool false)).setCell ⟨p, 2, none⟩ (.bool true)) := by
  have hne := h.ne
  have ok' := felled_ok h.1
  obtain ⟨ok, cap, set, after, done, flat, d1, d2, d3, d4, d5, d6⟩ := h
  have ho : Off [p] w ((((w.setCell ⟨p, 3, none⟩ (.bool false)).setCell ⟨p, 4, none⟩ (.int .i64 0)).setCell ⟨p, 5, none⟩ (.bool false)).setCell ⟨p, 2, none⟩ (.bool true)) := ((((Off.refl _ _).setCell (by simp) _).setCell (by simp) _).setCell (by simp) _).setCell (by simp) _
  obtain ⟨k1, k2⟩ := keep_set ho hne.1 hne.2.1 d2 d5
  have e := (((((d1.set (.bool false)).2.1.set (.int .i64 0)).2.2.1).set (.bool false)).2.2.2.1.set (.bool true)).1
  exact ⟨⟨ok', cap, false, 0, false, flat, e, k1, d3, d4, k2, .inl ⟨rfl, rfl⟩⟩, off_p ho⟩
theorem Dk.cells {w : World} {p nb mb : Nat} {s : DS} (h : Dk w p nb mb s) : ∃ cap set after done, DkC w p (.slice (some ⟨nb, 0, none⟩) s.room cap) (.map (some mb)) (.bool s.down) (.bool set) (.int .i64 after) (.bool done) (.int .i64 s.ops) (.int .i64 s.reads) ∧ (s.fails = 0 → done = s.done) := by
  obtain ⟨ok, cap, set, after, done, flat, d1, d2, d3, d4, d5, d6⟩ := h
  refine ⟨cap, set, after, done, d1.cells, fun h0 => ?_⟩
  rcases d6 with ⟨e1, _⟩ | ⟨_, _, _, e⟩
  · omega
  · exact e
structure Does (F : DS → DS) : Prop where
  rest : ∀ s, F s = { s with B := (F s).B, S := (F s).S, L := (F s).L }
  same : ∀ s t, s.B = t.B → s.S = t.S → s.L = t.L → (F s).B = (F t).B ∧ (F s).S = (F t).S ∧ (F s).L = (F t).L
theorem does_put (n : Nat) (b : List Int) : Does (fun s => putS s n b) := ⟨fun s => rfl, fun s t h1 h2 h3 => ⟨by simp [putS, h1], by simp [putS, h2], by simp [putS, h3]⟩⟩
theorem does_safe : Does safeS := ⟨fun s => rfl, fun s t h1 h2 h3 => ⟨by simp [safeS, h1], by simp [safeS, h1], rfl⟩⟩
theorem step_well {F : DS → DS} (hF : Does F) (s : DS) (h : s.fails ≠ 0) : F (ticked (opsed s)) = stepS s (F s) := by
  rw [hF.rest (ticked (opsed s))]
  obtain ⟨e1, e2, e3⟩ := hF.same (ticked (opsed s)) s rfl rfl rfl
  rw [e1, e2, e3]
  unfold stepS
  rw [if_neg h]
  rfl
theorem step_felled {F : DS → DS} (hF : Does F) (s : DS) (h : s.fails = 0) : felled (if s.done then F (ticked (opsed s)) else ticked (opsed s)) = stepS s (F s) := by
  obtain ⟨e1, e2, e3⟩ := hF.same (ticked (opsed s)) s rfl rfl rfl
  unfold stepS
  rw [if_pos h]
  cases hd : s.done
  · simp only [Bool.false_eq_true, if_false]
    simp [felled, ticked, opsed, hd]
  · simp only [if_true]
    rw [hF.rest (ticked (opsed s)), e1, e2, e3]
    simp [felled, ticked, opsed, hd]


set_option maxHeartbeats 400000 in
theorem lit_any (p nb mb : Nat) (s : DS) (n : Nat) (a : Option Addr) (cap' : Nat) (zs : List Int) (g1 g2 g3 : Nat) (w : World) (h : Dk w p nb mb s) (hn : n < s.room) (hz : IsB zs) (hbv : BV w a zs)
    (h1 : w.cell? ⟨g1, 0, none⟩ = some (.pointer (some ⟨p, 0, none⟩))) (h2 : w.cell? ⟨g2, 0, none⟩ = some (.int .i64 n)) (h3 : w.cell? ⟨g3, 0, none⟩ = some (.slice a 256 cap')) :
    Calls Tryz.prog 155 #[.pointer (some ⟨g1, 0, none⟩), .pointer (some ⟨g2, 0, none⟩), .pointer (some ⟨g3, 0, none⟩)] w fun e w' => e = .returned (.tuple #[]) ∧ Dk w' p nb mb (putS s n zs) ∧ Off [p, nb, mb] w w' := by
  have HP : Hid (Calls Tryz.prog 156 #[.pointer (some ⟨p, 0, none⟩), .int .i64 n, .slice a 256 cap'] w fun e w' => e = .returned (.tuple #[]) ∧ Dk w' p nb mb (putS s n zs) ∧ Off [p, nb, mb] w w') := put_any p nb mb s n a cap' zs w h hn hz hbv
  clear h hz hbv
  go_enter Tryz.func155, Tryz.ntmps155
  go_wp2_with (first | (go_at_call 156; refine HP.out.mono ?_; rintro e w1 ⟨rfl, hd1, ho1⟩) | fail)
  exact bodyPost_end (v := .tuple #[]) (results_none rfl _ _ _) rfl ⟨rfl, hd1, ho1⟩

theorem BV.offX {w w' : World} {a : Option Addr} {zs : List Int} {X : List Nat} (h : BV w a zs) (ho : Off X w w') (hx : ∀ b off, a = some ⟨b, off, none⟩ → b ∉ X) : BV w' a zs := by
  obtain ⟨hz, h1 | ⟨b, off, rfl, hlt, hc⟩⟩ := h
  · exact ⟨hz, .inl h1⟩
  · exact ⟨hz, .inr ⟨b, off, rfl, Nat.lt_of_lt_of_le hlt ho.size, fun i hi => (World.cell?_of_block (w := w) (a := ⟨b, off + i, none⟩) (ho.block b hlt (hx b off rfl))).trans (hc i hi)⟩⟩
theorem off_cell {w w' : World} {X : List Nat} {q : Nat} {v : Value} (ho : Off X w w') (hq : q ∉ X) (h : w.cell? ⟨q, 0, none⟩ = some v) : w'.cell? ⟨q, 0, none⟩ = some v :=
  (World.cell?_of_block (w := w) (a := ⟨q, 0, none⟩) (ho.block q (World.block_lt_of_cell? w _ h) hq)).trans h

set_option maxHeartbeats 800000 in
theorem step_sync (p nb mb : Nat) (s : DS) (w : World) (h : Dk w p nb mb s) :
    Calls Tryz.prog 146 #[.pointer (some ⟨p, 0, none⟩), .func (.func 147) #[.pointer (some ⟨p, 0, none⟩)] #[]] w fun e w' => e = .returned (.int .i64 (stepE s)) ∧ Dk w' p nb mb (stepS s (safeS s)) ∧ Off [p, nb, mb] w w' := by
  obtain ⟨cap, set, after, done, ⟨c0, c1, c2, c3, c4, c5, c6, c7, f0, f1, f2, f3, f4, f5, f6, f7⟩, hdn⟩ := h.cells
  have hne := h.ne
  obtain ⟨hO, oO⟩ := h.opsed
  have HF : Hid (Calls Tryz.prog 200 #[.pointer (some ⟨p, 0, none⟩)] (w.setCell ⟨p, 6, none⟩ (.int .i64 (inc s.ops))) fun e w' => e = .returned (.bool (decide (s.fails = 0))) ∧ Dk w' p nb mb (ticked (opsed s)) ∧ Off [p, nb, mb] (w.setCell ⟨p, 6, none⟩ (.int .i64 (inc s.ops))) w') := fails_any p nb mb (opsed s) _ hO
  have OO : Hid (Off [p, nb, mb] w (w.setCell ⟨p, 6, none⟩ (.int .i64 (inc s.ops)))) := oO
  clear hO oO h hdn
  by_cases h0 : s.fails = 0
  · have ef : decide (s.fails = 0) = true := by simpa using h0
    have es : stepE s = 11 := by unfold stepE; rw [if_pos h0]
    have ht : (ticked (opsed s)).fails = 0 := by simp [ticked, opsed, h0]
    have hdt : (ticked (opsed s)).done = s.done := rfl
    rw [ef] at HF
    rw [es, ← step_felled (F := safeS) does_safe s h0]
    unfold inc at HF OO
    have HT : Hid ((ticked (opsed s)).fails = 0 ∧ (ticked (opsed s)).done = s.done) := ⟨ht, hdt⟩
    generalize ticked (opsed s) = s1 at *
    clear ef es ht hdt
    cases hds : s.done
    · go_enter Tryz.func146, Tryz.ntmps146
      go_wp2_with (first
        | (go_at_call 200; refine HF.out.mono ?_; rintro e w1 ⟨rfl, hd1, ho1⟩; obtain ⟨cap1, set1, after1, done1, ⟨k0, k1, k2, k3, k4, k5, k6, k7, g0, g1, g2, g3, g4, g5, g6, g7⟩, hdn1⟩ := hd1.cells; have e5 := hdn1 HT.out.1; rw [HT.out.2, hds] at e5; subst e5; obtain ⟨hd3, ho3⟩ := hd1.felled; have H3 : Hid (Dk _ p nb mb (felled s1) ∧ Off [p, nb, mb] w1 _) := ⟨hd3, ho3⟩; clear hd3 ho3 hdn1)
        | fail)
      go_ret
      exact ⟨rfl, H3.out.1, (OO.out.trans ho1).trans H3.out.2⟩
    · go_enter Tryz.func146, Tryz.ntmps146
      go_wp2_with (first
        | (go_at_call 200; refine HF.out.mono ?_; rintro e w1 ⟨rfl, hd1, ho1⟩; obtain ⟨cap1, set1, after1, done1, ⟨k0, k1, k2, k3, k4, k5, k6, k7, g0, g1, g2, g3, g4, g5, g6, g7⟩, hdn1⟩ := hd1.cells; have e5 := hdn1 HT.out.1; rw [HT.out.2, hds] at e5; subst e5; clear hdn1; skip)
        | (go_at_call 147; refine (settle_any p nb mb _ _ hd1).mono ?_; rintro e w2 ⟨rfl, hd2, ho2⟩; obtain ⟨cap2, set2, after2, done2, ⟨m0, m1, m2, m3, m4, m5, m6, m7, n0, n1, n2, n3, n4, n5, n6, n7⟩, hdn2⟩ := hd2.cells; obtain ⟨hd3, ho3⟩ := hd2.felled; have H3 : Hid (Dk _ p nb mb (felled (safeS s1)) ∧ Off [p, nb, mb] w2 _) := ⟨hd3, ho3⟩; clear hd3 ho3 hdn2)
        | fail)
      go_ret
      exact ⟨rfl, H3.out.1, ((OO.out.trans ho1).trans ho2).trans H3.out.2⟩
  · have ef : decide (s.fails = 0) = false := by simpa using h0
    have es : stepE s = 0 := by unfold stepE; rw [if_neg h0]
    rw [ef] at HF
    rw [es, ← step_well (F := safeS) does_safe s h0]
    unfold inc at HF OO
    generalize ticked (opsed s) = s1 at *
    clear ef es
    go_enter Tryz.func146, Tryz.ntmps146
    go_wp2_with (first | (go_at_call 200; refine HF.out.mono ?_; rintro e w1 ⟨rfl, hd1, ho1⟩; skip) | (go_at_call 147; refine (settle_any p nb mb _ _ hd1).mono ?_; rintro e w2 ⟨rfl, hd2, ho2⟩) | fail)
    go_ret
    exact ⟨rfl, hd2, (OO.out.trans ho1).trans ho2⟩

set_option maxHeartbeats 800000 in
theorem step_write (p nb mb : Nat) (s : DS) (w : World) (h : Dk w p nb mb s) (n : Nat) (a : Option Addr) (cap' : Nat) (zs : List Int) (q1 q2 q3 : Nat) (hn : n < s.room) (hz : IsB zs) (hbv : BV w a zs) (hax : ∀ b off, a = some ⟨b, off, none⟩ → b ∉ [p, nb, mb]) (hq : q1 ∉ [p, nb, mb] ∧ q2 ∉ [p, nb, mb] ∧ q3 ∉ [p, nb, mb])
    (h1 : w.cell? ⟨q1, 0, none⟩ = some (.pointer (some ⟨p, 0, none⟩))) (h2 : w.cell? ⟨q2, 0, none⟩ = some (.int .i64 n)) (h3 : w.cell? ⟨q3, 0, none⟩ = some (.slice a 256 cap')) :
    Calls Tryz.prog 146 #[.pointer (some ⟨p, 0, none⟩), .func (.func 155) #[] #[.pointer (some ⟨q1, 0, none⟩), .pointer (some ⟨q2, 0, none⟩), .pointer (some ⟨q3, 0, none⟩)]] w fun e w' => e = .returned (.int .i64 (stepE s)) ∧ Dk w' p nb mb (stepS s ((fun s => putS s n zs) s)) ∧ Off [p, nb, mb] w w' := by
  obtain ⟨cap, set, after, done, ⟨c0, c1, c2, c3, c4, c5, c6, c7, f0, f1, f2, f3, f4, f5, f6, f7⟩, hdn⟩ := h.cells
  have hne := h.ne
  obtain ⟨hO, oO⟩ := h.opsed
  have HF : Hid (Calls Tryz.prog 200 #[.pointer (some ⟨p, 0, none⟩)] (w.setCell ⟨p, 6, none⟩ (.int .i64 (inc s.ops))) fun e w' => e = .returned (.bool (decide (s.fails = 0))) ∧ Dk w' p nb mb (ticked (opsed s)) ∧ Off [p, nb, mb] (w.setCell ⟨p, 6, none⟩ (.int .i64 (inc s.ops))) w') := fails_any p nb mb (opsed s) _ hO
  have OO : Hid (Off [p, nb, mb] w (w.setCell ⟨p, 6, none⟩ (.int .i64 (inc s.ops)))) := oO
  clear hO oO h hdn
  by_cases h0 : s.fails = 0
  · have ef : decide (s.fails = 0) = true := by simpa using h0
    have es : stepE s = 11 := by unfold stepE; rw [if_pos h0]
    have ht : (ticked (opsed s)).fails = 0 := by simp [ticked, opsed, h0]
    have hdt : (ticked (opsed s)).done = s.done := rfl
    rw [ef] at HF
    rw [es, ← step_felled (F := (fun s => putS s n zs)) (does_put n zs) s h0]
    unfold inc at HF OO
    have HR : Hid ((ticked (opsed s)).room = s.room) := rfl
    have HT : Hid ((ticked (opsed s)).fails = 0 ∧ (ticked (opsed s)).done = s.done) := ⟨ht, hdt⟩
    generalize ticked (opsed s) = s1 at *
    clear ef es ht hdt
    cases hds : s.done
    · go_enter Tryz.func146, Tryz.ntmps146
      go_wp2_with (first
        | (go_at_call 200; refine HF.out.mono ?_; rintro e w1 ⟨rfl, hd1, ho1⟩; obtain ⟨cap1, set1, after1, done1, ⟨k0, k1, k2, k3, k4, k5, k6, k7, g0, g1, g2, g3, g4, g5, g6, g7⟩, hdn1⟩ := hd1.cells; have e5 := hdn1 HT.out.1; rw [HT.out.2, hds] at e5; subst e5; obtain ⟨hd3, ho3⟩ := hd1.felled; have H3 : Hid (Dk _ p nb mb (felled s1) ∧ Off [p, nb, mb] w1 _) := ⟨hd3, ho3⟩; clear hd3 ho3 hdn1)
        | fail)
      go_ret
      exact ⟨rfl, H3.out.1, (OO.out.trans ho1).trans H3.out.2⟩
    · go_enter Tryz.func146, Tryz.ntmps146
      go_wp2_with (first
        | (go_at_call 200; refine HF.out.mono ?_; rintro e w1 ⟨rfl, hd1, ho1⟩; obtain ⟨cap1, set1, after1, done1, ⟨k0, k1, k2, k3, k4, k5, k6, k7, g0, g1, g2, g3, g4, g5, g6, g7⟩, hdn1⟩ := hd1.cells; have e5 := hdn1 HT.out.1; rw [HT.out.2, hds] at e5; subst e5; clear hdn1; have bv1 := hbv.offX (OO.out.trans ho1) hax; have x1 := off_cell (OO.out.trans ho1) hq.1 h1; have x2 := off_cell (OO.out.trans ho1) hq.2.1 h2; have x3 := off_cell (OO.out.trans ho1) hq.2.2 h3)
        | (go_at_call 155; refine (lit_any p nb mb _ n a cap' zs q1 q2 q3 _ hd1 (by rw [HR.out]; exact hn) hz bv1 x1 x2 x3).mono ?_; rintro e w2 ⟨rfl, hd2, ho2⟩; obtain ⟨cap2, set2, after2, done2, ⟨m0, m1, m2, m3, m4, m5, m6, m7, n0, n1, n2, n3, n4, n5, n6, n7⟩, hdn2⟩ := hd2.cells; obtain ⟨hd3, ho3⟩ := hd2.felled; have H3 : Hid (Dk _ p nb mb (felled ((fun s => putS s n zs) s1)) ∧ Off [p, nb, mb] w2 _) := ⟨hd3, ho3⟩; clear hd3 ho3 hdn2)
        | fail)
      go_ret
      exact ⟨rfl, H3.out.1, ((OO.out.trans ho1).trans ho2).trans H3.out.2⟩
  · have ef : decide (s.fails = 0) = false := by simpa using h0
    have es : stepE s = 0 := by unfold stepE; rw [if_neg h0]
    rw [ef] at HF
    rw [es, ← step_well (F := (fun s => putS s n zs)) (does_put n zs) s h0]
    unfold inc at HF OO
    have HR : Hid ((ticked (opsed s)).room = s.room) := rfl
    generalize ticked (opsed s) = s1 at *
    clear ef es
    go_enter Tryz.func146, Tryz.ntmps146
    go_wp2_with (first | (go_at_call 200; refine HF.out.mono ?_; rintro e w1 ⟨rfl, hd1, ho1⟩; have bv1 := hbv.offX (OO.out.trans ho1) hax; have x1 := off_cell (OO.out.trans ho1) hq.1 h1; have x2 := off_cell (OO.out.trans ho1) hq.2.1 h2; have x3 := off_cell (OO.out.trans ho1) hq.2.2 h3) | (go_at_call 155; refine (lit_any p nb mb _ n a cap' zs q1 q2 q3 _ hd1 (by rw [HR.out]; exact hn) hz bv1 x1 x2 x3).mono ?_; rintro e w2 ⟨rfl, hd2, ho2⟩) | fail)
    go_ret
    exact ⟨rfl, hd2, (OO.out.trans ho1).trans ho2⟩
end Go.Proofs.YtbklnadlbcndlaaGreat.D
namespace Go.Proofs.YtbklnadlbcndlaaGreat.D
set_option maxRecDepth 20000
open Go.RowKit Go.Maps
set_option maxRecDepth 20000
theorem made256 : madeCells (Value.int .u8 0).cells (256 * 1) = blkA zs256 := by kernel_rfl
theorem wp_make256 {ops : Array Oper} {rest : List Oper} {o : Oper} {a : Act} {w : World} {Q : Exit → Act → World → Prop} (hgd : o.guard = none) (x y : Operand) (ho : o.op = .makeSlice 29 x y) (hx : a.eval x = .int .i64 256) (hy : a.eval y = .int .i64 256)
    (h : ∀ w', w'.heap[w.heap.size]? = some (.cells (blkA zs256) 5 (0, 0)) → w'.heap.size = w.heap.size + 1 → Below w.heap.size w w' → wpList Tryz.prog ops Q rest (a.put o.dst (.slice (some ⟨w.heap.size, 0, none⟩) 256 256)) w') : wpList Tryz.prog ops Q (o :: rest) a w := by
  obtain ⟨i0, hi, hz0, hz1, hz2⟩ := info_parts Tryz.info5
  have hrun := run_makeSlice (P := Tryz.prog) w 29 5 i0 (.int .u8 0) Tryz.underlying29 hi hz0 .i64 .i64 256 256 (by decide) (by decide) (by rw [hz1]; decide) (by rw [hz2]; decide) (by decide)
  refine wpList_plain hgd fun K hK => ?_
  unfold Oper.wp
  rw [hz1] at hrun
  have e : (256 : Int).toNat * 1 = 256 * 1 := rfl
  rw [e, made256] at hrun
  simp only [execOp, ho, hx, hy, Sem.run_bind, hrun, Result.andThen, Sem.run_pure]
  exact hK _ _ (h _ (heap_alloc_last _ _) (by simp) ((Below.refl _ _).alloc (Nat.le_refl _) _))

theorem writeS_err {s : DS} {n : Int} {zs : List Int} (h : reachE s n ≠ 0) : writeE s n zs = reachE s n ∧ writeS s n zs = s := by
  refine ⟨?_, ?_⟩
  · unfold writeE; rw [if_pos h]
  · unfold writeS; rw [if_pos (Or.inl h)]
theorem writeS_arg {s : DS} {n : Int} {zs : List Int} (h : reachE s n = 0) (hl : zs.length ≠ 256) : writeE s n zs = 2 ∧ writeS s n zs = s := by
  refine ⟨?_, ?_⟩
  · unfold writeE; rw [if_neg (by simpa using h), if_pos hl]
  · unfold writeS; rw [if_pos (Or.inr hl)]
theorem writeS_well {s : DS} {n : Int} {zs : List Int} (h : reachE s n = 0) (hl : zs.length = 256) : writeE s n zs = stepE s ∧ writeS s n zs = stepS s (putS s n.toNat zs) := by
  refine ⟨?_, ?_⟩
  · unfold writeE; rw [if_neg (by simpa using h), if_neg (by simpa using hl)]
  · unfold writeS; rw [if_neg (by rintro (e | e); exact e h; exact e hl)]
theorem three_new (w : World) (o1 o2 o3 : Obj) : Below w.heap.size w (((w.alloc o1).alloc o2).alloc o3) := (((Below.refl _ _).alloc (Nat.le_refl _) _).alloc (by simp) _).alloc (by simp; omega) _

set_option maxHeartbeats 800000 in
theorem write_any (p nb mb : Nat) (s : DS) (n : Int) (a : Option Addr) (len cap' : Nat) (zs : List Int) (w : World) (h : Dk w p nb mb s) (hbv : BV w a zs) (hl : zs.length = len) (hm : len ≤ 9223372036854775807) (hax : ∀ b off, a = some ⟨b, off, none⟩ → b ∉ [p, nb, mb]) :
    Calls Tryz.prog 93 #[.pointer (some ⟨p, 0, none⟩), .int .i64 n, .slice a len cap'] w fun e w' => e = .returned (.int .i64 (writeE s n zs)) ∧ Dk w' p nb mb (writeS s n zs) ∧ Off [p, nb, mb] w w' := by
  have hne := h.ne
  have hB := three_new w (.cells #[.pointer (some ⟨p, 0, none⟩)] 40) (.cells #[.int .i64 n] 3) (.cells #[.slice a len cap'] 29)
  have hD := h.below hB
  have bv3 := hbv.below hB
  have HR : Hid (Calls Tryz.prog 150 #[.pointer (some ⟨p, 0, none⟩), .int .i64 n] (((w.alloc (.cells #[.pointer (some ⟨p, 0, none⟩)] 40)).alloc (.cells #[.int .i64 n] 3)).alloc (.cells #[.slice a len cap'] 29)) fun e w' => e = .returned (.int .i64 (reachE s n)) ∧ w' = (((w.alloc (.cells #[.pointer (some ⟨p, 0, none⟩)] 40)).alloc (.cells #[.int .i64 n] 3)).alloc (.cells #[.slice a len cap'] 29))) := reach_any p nb mb s n _ hD
  have HO : Hid (Off [p, nb, mb] w (((w.alloc (.cells #[.pointer (some ⟨p, 0, none⟩)] 40)).alloc (.cells #[.int .i64 n] 3)).alloc (.cells #[.slice a len cap'] 29))) := Off.of_below hB
  have HD : Hid (Dk (((w.alloc (.cells #[.pointer (some ⟨p, 0, none⟩)] 40)).alloc (.cells #[.int .i64 n] 3)).alloc (.cells #[.slice a len cap'] 29)) p nb mb s) := hD
  by_cases hE : reachE s n = 0
  · obtain ⟨hdn, hn0, hnr⟩ := reach_ok hE
    by_cases h256 : len = 256
    · subst h256
      obtain ⟨e1, e2⟩ := writeS_well (zs := zs) hE hl
      rw [e1, e2]
      obtain ⟨m, rfl⟩ : ∃ m : Nat, n = (m : Int) := ⟨n.toNat, by omega⟩
      simp only [Int.toNat_natCast] at hnr ⊢
      have hp1 : w.heap.size ∉ [p, nb, mb] := by simp; omega
      have hp2 : w.heap.size + 1 ∉ [p, nb, mb] := by simp; omega
      have hp3 : w.heap.size + 1 + 1 ∉ [p, nb, mb] := by simp; omega
      have HS : Hid (Calls Tryz.prog 146 #[.pointer (some ⟨p, 0, none⟩), .func (.func 155) #[] #[.pointer (some ⟨w.heap.size, 0, none⟩), .pointer (some ⟨w.heap.size + 1, 0, none⟩), .pointer (some ⟨w.heap.size + 1 + 1, 0, none⟩)]] (((w.alloc (.cells #[.pointer (some ⟨p, 0, none⟩)] 40)).alloc (.cells #[.int .i64 m] 3)).alloc (.cells #[.slice a 256 cap'] 29)) fun e w' => e = .returned (.int .i64 (stepE s)) ∧ Dk w' p nb mb (stepS s (putS s m zs)) ∧ Off [p, nb, mb] (((w.alloc (.cells #[.pointer (some ⟨p, 0, none⟩)] 40)).alloc (.cells #[.int .i64 m] 3)).alloc (.cells #[.slice a 256 cap'] 29)) w') :=
        step_write p nb mb s _ hD m a cap' zs _ _ _ hnr ⟨hl, hbv.1⟩ bv3 hax ⟨hp1, hp2, hp3⟩ (by go_simp) (by go_simp) (by go_simp)
      rw [hE] at HR
      clear hD bv3 hbv h hB e1 e2 hp1 hp2 hp3 hl hax
      have hmf : ∀ (fn : Fn) (first cap : Array Value) (w : World), (Instr.makeFunc fn first cap).run Tryz.prog w = .ok (.func fn first cap) w := fun _ _ _ _ => rfl
      go_enter Tryz.func93, Tryz.ntmps93
      go_wp2_with (first | (go_at_call 150; refine HR.out.mono ?_; rintro e w' ⟨rfl, hw⟩; obtain rfl := hw.symm) | (go_at_call 146; refine HS.out.mono ?_; rintro e w1 ⟨rfl, hd1, ho1⟩) | fail)
      go_ret
      exact ⟨rfl, hd1, HO.out.trans ho1⟩
    · obtain ⟨e1, e2⟩ := writeS_arg (zs := zs) hE (by rw [hl]; exact h256)
      rw [e1, e2]
      rw [hE] at HR
      have hb : ((len : Int) == 256) = false := by simp; omega
      clear hD bv3 hbv h hB e1 e2 hl hax
      go_enter Tryz.func93, Tryz.ntmps93
      go_wp2_with (first | (go_at_call 150; refine HR.out.mono ?_; rintro e w' ⟨rfl, hw⟩; obtain rfl := hw.symm) | fail)
      go_ret
      exact ⟨rfl, HD.out, HO.out⟩
  · obtain ⟨e1, e2⟩ := writeS_err (zs := zs) hE
    rw [e1, e2]
    have hb : (reachE s n == 0) = false := by simpa using hE
    clear hD bv3 hbv h hB e1 e2 hl hax
    generalize reachE s n = E at *
    go_enter Tryz.func93, Tryz.ntmps93
    go_wp2_with (first | (go_at_call 150; refine HR.out.mono ?_; rintro e w' ⟨rfl, hw⟩; obtain rfl := hw.symm) | fail)
    go_ret
    exact ⟨rfl, HD.out, HO.out⟩

set_option maxHeartbeats 400000 in
theorem sync_any (p nb mb : Nat) (s : DS) (w : World) (h : Dk w p nb mb s) :
    Calls Tryz.prog 84 #[.pointer (some ⟨p, 0, none⟩)] w fun e w' => e = .returned (.int .i64 (syncE s)) ∧ Dk w' p nb mb (syncS s) ∧ Off [p, nb, mb] w w' := by
  have HR : Hid (Calls Tryz.prog 145 #[.pointer (some ⟨p, 0, none⟩)] w fun e w' => e = .returned (.int .i64 (readyE s)) ∧ w' = w) := ready_any p nb mb s w h
  have HS : Hid (Calls Tryz.prog 146 #[.pointer (some ⟨p, 0, none⟩), .func (.func 147) #[.pointer (some ⟨p, 0, none⟩)] #[]] w fun e w' => e = .returned (.int .i64 (stepE s)) ∧ Dk w' p nb mb (stepS s (safeS s)) ∧ Off [p, nb, mb] w w') := step_sync p nb mb s w h
  have HD : Hid (Dk w p nb mb s) := h
  clear h
  have hmf : ∀ (fn : Fn) (first cap : Array Value) (w : World), (Instr.makeFunc fn first cap).run Tryz.prog w = .ok (.func fn first cap) w := fun _ _ _ _ => rfl
  unfold syncE syncS
  unfold readyE at HR
  cases hd : s.down
  · rw [hd] at HR
    simp only [Bool.false_eq_true, if_false] at HR ⊢
    go_enter Tryz.func84, Tryz.ntmps84
    go_wp2_with (first | (go_at_call 145; refine HR.out.mono ?_; rintro e w' ⟨rfl, hw⟩; obtain rfl := hw.symm) | (go_at_call 146; refine HS.out.mono ?_; rintro e w1 ⟨rfl, hd1, ho1⟩) | fail)
    go_ret
    exact ⟨rfl, hd1, ho1⟩
  · rw [hd] at HR
    simp only [if_true] at HR ⊢
    go_enter Tryz.func84, Tryz.ntmps84
    go_wp2_with (first | (go_at_call 145; refine HR.out.mono ?_; rintro e w' ⟨rfl, hw⟩; obtain rfl := hw.symm) | fail)
    go_ret
    exact ⟨rfl, HD.out, Off.refl _ _⟩

end Go.Proofs.YtbklnadlbcndlaaGreat.D
namespace Go.Proofs.YtbklnadlbcndlaaGreat.D
set_option maxRecDepth 20000
open Go.RowKit Go.Maps
set_option maxRecDepth 20000
def FV (w : World) (X : List Nat) (v : Value) (fs : List Int) : Prop :=
  ∃ a cap, v = .slice a fs.length cap ∧ fs.length ≤ cap ∧ cap ≤ 9223372036854775807 ∧ BV w a fs ∧ (fs ≠ [] → ∀ b off, a = some ⟨b, off, none⟩ → b ∉ X)
theorem FV.off {w w' : World} {X Y : List Nat} {v : Value} {fs : List Int} (h : FV w X v fs) (ho : Off Y w w') (hs : ∀ y ∈ Y, y ∈ X) : FV w' X v fs := by
  obtain ⟨a, cap, e, h1, h2, h3, h4⟩ := h
  by_cases hn : fs = []
  · subst hn; exact ⟨a, cap, e, h1, h2, ⟨AllB.nil, .inl rfl⟩, fun h => absurd rfl h⟩
  · exact ⟨a, cap, e, h1, h2, h3.offX ho (fun b off e hm => h4 hn b off e (hs b hm)), h4⟩
theorem FV.below {w w' : World} {X : List Nat} {v : Value} {fs : List Int} (h : FV w X v fs) (hb : Below w.heap.size w w') : FV w' X v fs := h.off (Off.of_below (X := []) hb) (by simp)
theorem FV.nil (w : World) (X : List Nat) : FV w X (.slice none 0 0) [] := ⟨none, 0, rfl, Nat.le_refl _, by decide, ⟨AllB.nil, .inl rfl⟩, by simp⟩
theorem below_drewN {B : Nat} {w w' : World} (h : Below B w w') : ∀ n, Below B w (w'.drewN n)
  | 0 => h
  | k + 1 => (below_drewN h k).drew
theorem Off.then_new {X : List Nat} {w w2 w3 : World} {g : Nat} (h : Off X w w2) (h2 : Off [g] w2 w3) (hg : w.heap.size ≤ g) : Off X w w3 :=
  ⟨h2.os.trans h.os, h2.tape.trans h.tape, h2.output.trans h.output, Nat.le_trans h.size h2.size, fun k hk hx => (h2.block k (Nat.lt_of_lt_of_le hk h.size) (by simp; omega)).trans (h.block k hk hx)⟩
theorem lay_over (us zs : List Int) : lay (blkA us) 0 zs = blkA (zs ++ us.drop zs.length) := by
  simp [lay, blkA]
theorem readS_err {s : DS} {n : Int} (h : reachE s n ≠ 0) : readS s n = s ∧ readB s n = [] := by
  refine ⟨?_, ?_⟩
  · unfold readS; rw [if_pos h]
  · unfold readB; rw [if_pos h]
theorem readS_well {s : DS} {n : Int} (h : reachE s n = 0) : readS s n = { s with reads := inc s.reads } ∧ readB s n = s.B n.toNat := by
  refine ⟨?_, ?_⟩
  · unfold readS; rw [if_neg (by simpa using h)]
  · unfold readB; rw [if_neg (by simpa using h)]
theorem Dk.readed {w : World} {p nb mb : Nat} {s : DS} (h : Dk w p nb mb s) : Dk (w.setCell ⟨p, 7, none⟩ (.int .i64 (inc s.reads))) p nb mb { s with reads := inc s.reads } ∧ Off [p, nb, mb] w (w.setCell ⟨p, 7, none⟩ (.int .i64 (inc s.reads))) := by
  have hne := h.ne
  obtain ⟨ok, cap, set, after, done, flat, d1, d2, d3, d4, d5, d6⟩ := h
  have ho : Off [p] w (w.setCell ⟨p, 7, none⟩ (.int .i64 (inc s.reads))) := (Off.refl _ _).setCell (by simp) _
  obtain ⟨k1, k2⟩ := keep_set ho hne.1 hne.2.1 d2 d5
  exact ⟨⟨⟨ok.room, ok.isB, ok.isS, ok.same, ok.lo, ok.hi⟩, cap, set, after, done, flat, (d1.set _).2.2.2.2.2, k1, d3, d4, k2, d6⟩, off_p ho⟩
theorem Dk.bv {w : World} {p nb mb : Nat} {s : DS} (h : Dk w p nb mb s) {n : Nat} (hn : n < s.room) : BV w (some ⟨nb, n * 256, none⟩) (s.B n) := by
  have hne := h.ne
  obtain ⟨ok, cap, set, after, done, flat, d1, d2, d3, d4, d5, d6⟩ := h
  refine ⟨(ok.isB n hn).2, .inr ⟨nb, n * 256, rfl, hne.2.2.2.2.1, fun i hi => ?_⟩⟩
  rw [cell_of_row _ _ _ _ _ _ d2]
  exact d4.2 n hn i (by have := (ok.isB n hn).1; omega)
theorem own_of_row {w : World} {base g : Nat} {zs : List Int} (hz : zs.length = 256) (hb : base ≤ g) (h : w.heap[g]? = some (.cells (blkA zs) 5 (0, 0))) : Own w base (.slice (some ⟨g, 0, none⟩) 256 256) zs := by
  refine ⟨by simp, .inr ⟨g, 256, blkA zs, by rw [hz], hb, h, by omega, by decide, by rw [size_blkA hz], ?_⟩⟩
  simp only [blkA, Nat.mul_one]
  rw [List.take_of_length_le (by simp [hz])]
set_option maxHeartbeats 800000 in
theorem read_any (p nb mb : Nat) (s : DS) (n : Int) (w : World) (h : Dk w p nb mb s) :
    Calls Tryz.prog 86 #[.pointer (some ⟨p, 0, none⟩), .int .i64 n] w fun e w' => ∃ v, e = .returned (.tuple #[v, .int .i64 (reachE s n)]) ∧ Own w' w.heap.size v (readB s n) ∧ Dk w' p nb mb (readS s n) ∧ Off [p, nb, mb] w w' := by
  have hne := h.ne
  have HR : Hid (Calls Tryz.prog 150 #[.pointer (some ⟨p, 0, none⟩), .int .i64 n] w fun e w' => e = .returned (.int .i64 (reachE s n)) ∧ w' = w) := reach_any p nb mb s n w h
  have HD : Hid (Dk w p nb mb s) := h
  obtain ⟨cap, set, after, done, ⟨c0, c1, c2, c3, c4, c5, c6, c7, f0, f1, f2, f3, f4, f5, f6, f7⟩, _⟩ := h.cells
  by_cases hE : reachE s n = 0
  · obtain ⟨e1, e2⟩ := readS_well hE
    obtain ⟨hdn, hn0, hnr⟩ := reach_ok hE
    rw [e1, e2, hE]
    rw [hE] at HR
    obtain ⟨m, rfl⟩ : ∃ m : Nat, n = (m : Int) := ⟨n.toNat, by omega⟩
    simp only [Int.toNat_natCast] at hnr ⊢
    have h1 : (m : Int) < s.room := by omega
    have hb1 : decide ((m : Int) < 0) = false := by simp
    have hBl : Hid ((s.B m).length = 256) := (h.1.isB m hnr).1
    obtain ⟨hd1, ho1⟩ := h.readed
    have H1 : Hid (Dk (w.setCell ⟨p, 7, none⟩ (.int .i64 (wrap64 (s.reads + 1)))) p nb mb { s with reads := inc s.reads } ∧ Off [p, nb, mb] w (w.setCell ⟨p, 7, none⟩ (.int .i64 (wrap64 (s.reads + 1))))) := ⟨hd1, ho1⟩
    have HSZ : Hid ((w.setCell ⟨p, 7, none⟩ (.int .i64 (wrap64 (s.reads + 1)))).heap.size = w.heap.size) := by simp [Hid, World.setCell]
    clear hd1 ho1 h e1 e2 hE hdn
    go_enter Tryz.func86, Tryz.ntmps86
    go_wp2_with (first
      | (go_at_call 150; refine HR.out.mono ?_; rintro e w' ⟨rfl, hw⟩; obtain rfl := hw.symm)
      | (refine wp_make256 rfl _ _ rfl rfl rfl ?_; intro w2 hk2 hs2 hb2; rw [HSZ.out] at hk2; have hd2 := H1.out.1.below hb2; obtain ⟨cap2, set2, after2, done2, hC2, _⟩ := hd2.cells; have k0 := hC2.c0; clear hC2 hs2)
      | (refine wp_copy_blk rfl _ _ rfl w.heap.size 0 256 256 256 (some ⟨nb, m * 256, none⟩) 256 rfl rfl (s.B m) (by rw [hBl.out]; rfl) (Dk.bv hd2 hnr) (by rw [hBl.out]; decide) (blkA zs256) 5 hk2 (by rw [hBl.out, size_blkA len_zs256]; exact Nat.le_refl _) ?_; intro w3 hk3 ho3)
      | fail)
    have e3 : lay (blkA zs256) 0 (s.B m) = blkA (s.B m) := by
      rw [lay_over, hBl.out, List.drop_of_length_le (by rw [len_zs256]; exact Nat.le_refl _), List.append_nil]
    refine bodyPost_ret (v := .tuple #[.slice (some ⟨w.heap.size, 0, none⟩) 256 256, .int .i64 0]) (by simp [results, Tryz.results86, go_sem]) rfl ⟨_, rfl, own_of_row hBl.out (Nat.le_refl _) (by rw [← e3]; exact hk3), hd2.off ho3 (by simp; omega) (by simp; omega) (by simp; omega), ?_⟩
    exact (H1.out.2.trans (Off.of_below hb2)).then_new ho3 (Nat.le_refl _)
  · obtain ⟨e1, e2⟩ := readS_err hE
    rw [e1, e2]
    have hb : (reachE s n == 0) = false := by simpa using hE
    clear h e1 e2
    generalize reachE s n = E at *
    go_enter Tryz.func86, Tryz.ntmps86
    go_wp2_with (first | (go_at_call 150; refine HR.out.mono ?_; rintro e w' ⟨rfl, hw⟩; obtain rfl := hw.symm) | fail)
    refine bodyPost_ret (v := .tuple #[.slice none 0 0, .int .i64 E]) (by simp [results, Tryz.results86, go_sem]) rfl ⟨_, rfl, Own.nil _ _, HD.out, Off.refl _ _⟩
end Go.Proofs.YtbklnadlbcndlaaGreat.D
namespace Go.Proofs.YtbklnadlbcndlaaGreat.D
set_option maxRecDepth 20000
open Go.RowKit Go.Maps
set_option maxRecDepth 20000
theorem OwnN.view {w : World} {base : Nat} {v : Value} {l : List Nat} (h : OwnN w base v l) : ∃ a cap, v = .slice a l.length cap ∧ (∀ i, i < l.length → ∃ g, a = some ⟨g, 0, none⟩ ∧ base ≤ g ∧ g < w.heap.size ∧ w.cell? ⟨g, i, none⟩ = some (.int .i64 (l.getD i 0 : Nat))) := by
  have hl := World.ownsRow.lt h
  rcases h.2 with ⟨rfl, hn⟩ | ⟨g, cap, cur, rfl, hb, hg, hnc, hcm, hcs, htake⟩
  · refine ⟨none, 0, by rw [hn], fun i hi => by omega⟩
  · refine ⟨_, cap, rfl, fun i hi => ⟨g, rfl, hb, (hl g rfl).2, ?_⟩⟩
    have hc := World.ownsRow.cellAt (g := g) h i (by omega)
    rw [hc, List.getElem?_map, List.getElem?_eq_getElem hi, List.getD_eq_getElem?_getD, List.getElem?_eq_getElem hi]
    rfl
theorem OwnN.off {w w' : World} {base : Nat} {v : Value} {l : List Nat} {X : List Nat} (h : OwnN w base v l) (ho : Off X w w') (hx : ∀ x ∈ X, x < base) : OwnN w' base v l := by
  have hl := World.ownsRow.lt h
  refine ⟨h.1, ?_⟩
  rcases h.2 with hn | ⟨g, cap, cur, rfl, hb, hg, rest⟩
  · exact .inl hn
  · exact .inr ⟨g, cap, cur, rfl, hb, (ho.block g (hl g rfl).2 (fun hm => by have := hx g hm; omega)).trans hg, rest⟩

theorem BV.take {w : World} {a : Option Addr} {zs : List Int} (h : BV w a zs) (n : Nat) : BV w a (zs.take n) := by
  obtain ⟨hz, h1⟩ := h
  refine ⟨fun z hm => hz z (List.mem_of_mem_take hm), ?_⟩
  rcases h1 with rfl | ⟨b, off, rfl, hlt, hc⟩
  · exact .inl (by simp)
  · refine .inr ⟨b, off, rfl, hlt, fun i hi => ?_⟩
    have hi' : i < zs.length := by simp at hi; omega
    have hin : i < n := by simp at hi; omega
    rw [hc i hi']
    simp [List.getD_eq_getElem?_getD, List.getElem?_take_of_lt hin]
end Go.Proofs.YtbklnadlbcndlaaGreat.D
