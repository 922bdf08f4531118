/- Blocks of 256 bytes as whole values: laid, taken, copied; the write of a block. -/
import Derived.Test.YtmapjikbplindaaBytes
import Derived.Laws.CopyOwn
import Derived.StillTailTactics
namespace Go.Proofs.Ytmapjikbplindaa
open Go.RowKit Go.Maps
set_option maxRecDepth 20000
theorem size_blkA {zs : List Int} (h : zs.length = 256) : (blkA zs).size = 256 := by simp [blkA, h]
theorem blkA_get (zs : List Int) (i : Nat) (h : i < zs.length) : (blkA zs)[i]? = some (.int .u8 (zs.getD i 0)) := by
  simp [blkA, List.getElem?_map, List.getElem?_eq_getElem h, List.getD_eq_getElem?_getD]
theorem blkA_one (zs : List Int) : (blkA zs).all (·.oneCell') = true := by
  simp [blkA, Value.oneCell']
theorem len_zs256 : zs256.length = 256 := by unfold zs256; exact List.length_replicate
theorem size_zc71 : Try.zeroCells71.size = 256 := by kernel_rfl
theorem ld_of {w : World} {g off : Nat} {flat : Array Value} {t : TypeId} (hg : w.heap[g]? = some (.cells flat t (0, 0))) {zs : List Int} (hl : zs.length = 256) (hc : ∀ i, i < 256 → flat[off + i]? = some (.int .u8 (zs.getD i 0))) :
    (loadCellsFrom ⟨g, off, none⟩ 0 256 #[]).run Try.prog w = .ok (blkA zs) w := by
  have h := run_loadCells_list (P := Try.prog) w ⟨g, off, none⟩ (blkA zs).toList (fun j v hv => by
    have hadd : (⟨g, off, none⟩ : Addr).add j = ⟨g, off + j, none⟩ := by unfold Addr.add; split <;> simp_all
    have hj : j < zs.length := by
      have := (List.getElem?_eq_some_iff.1 hv).1
      simpa [blkA] using this
    rw [hadd, cell_of_row _ _ _ _ _ _ hg, hc j (by omega)]
    rw [Array.getElem?_toList, blkA_get zs j hj] at hv
    exact hv)
  have hs : (blkA zs).toList.length = 256 := by simpa using size_blkA hl
  rw [hs] at h
  simpa [loadCells] using h

theorem run_loadAt71 {w : World} {g off : Nat} {flat : Array Value} {t : TypeId} (hg : w.heap[g]? = some (.cells flat t (0, 0))) {zs : List Int} (hl : zs.length = 256) (hc : ∀ i, i < 256 → flat[off + i]? = some (.int .u8 (zs.getD i 0))) :
    (Instr.loadAt 71 (.pointer (some ⟨g, off, none⟩))).run Try.prog w = .ok (.agg (blkA zs)) w := by
  have h := ld_of hg hl hc
  simp only [Instr.loadAt, Instr.sureAddr, Sem.run_bind, Sem.run_pure, Result.andThen, loadVar, Try.isAgg71, Try.sizeOf71, loadCells, if_true]
  rw [h]
theorem still_load71 {ops : Array Oper} {rest : List Oper} {o : Oper} {a : Act} {w : World} {Q : Act → Prop} (hgd : o.guard = none) (x : Operand) (ho : o.op = .load 71 x) (g off : Nat)
    (hx : a.eval x = .pointer (some ⟨g, off, none⟩)) (zs : List Int) (hrun : (Instr.loadAt 71 (.pointer (some ⟨g, off, none⟩))).run Try.prog w = .ok (.agg (blkA zs)) w)
    (h : wpStill Try.prog ops w Q rest (a.put o.dst (.agg (blkA zs)))) : wpStill Try.prog ops w Q (o :: rest) a := by
  refine wpStill_step fun K hK => ?_
  have hw : Region.wanted o (yielded ops a.tmps) = true := by simp [Region.wanted, hgd]
  rw [if_pos hw]
  unfold Oper.still
  simp only [execOp, ho, hx, Sem.run_bind, hrun, Result.andThen, Sem.run_pure, Oper.stillUpon]
  exact ⟨trivial, hK _ h⟩
theorem wp_alloc71 {ops : Array Oper} {rest : List Oper} {o : Oper} {a : Act} {w : World} {Q : Exit → Act → World → Prop} (hgd : o.guard = none) (ho : o.op = .alloc 71)
    (h : wpList Try.prog ops Q rest (a.put o.dst (.pointer (some ⟨w.heap.size, 0, none⟩))) (w.alloc (.cells (blkA zs256) 71))) : wpList Try.prog ops Q (o :: rest) a w := by
  refine wpList_plain hgd fun K hK => ?_
  unfold Oper.wp
  have hz := zero71.1
  unfold blkV at hz
  simp only [execOp, ho]
  simp [Instr.alloc, newVar, hz, Value.cells, Result.andThen]
  exact hK _ _ h

theorem wp_store71_new {ops : Array Oper} {rest : List Oper} {o : Oper} {a : Act} {w : World} {Q : Exit → Act → World → Prop} (hgd : o.guard = none) (x y : Operand) (ho : o.op = .store 71 x y)
    (us vs : List Int) (hu : us.length = 256) (hv : vs.length = 256) (hx : a.eval x = .pointer (some ⟨w.heap.size, 0, none⟩)) (hy : a.eval y = .agg (blkA vs))
    (h : ∀ w1, w1.heap.size = w.heap.size + 1 → w1.heap[w.heap.size]? = some (.cells (blkA vs) 71 (0, 0)) → Below w.heap.size w w1 → wpList Try.prog ops Q rest (a.put o.dst undef) w1) : wpList Try.prog ops Q (o :: rest) a (w.alloc (.cells (blkA us) 71)) := by
  refine wpList_store_row hgd 71 x y ho w.heap.size (blkA vs) hx hy 71 (blkA us) (heap_alloc_last _ _) (by rw [size_blkA hv]; exact zero71.2) (by rw [size_blkA hu, size_blkA hv]) (blkA_one vs) ?_
  rw [World.setRow_alloc_new]
  exact h _ (by simp) (heap_alloc_last _ _) ((Below.refl _ _).alloc (Nat.le_refl _) _)
/-- These bytes laid over the cells from a place on. -/
def lay (flat : Array Value) (off : Nat) (zs : List Int) : Array Value := (flat.toList.take off ++ (zs.map (Value.int .u8) ++ flat.toList.drop (off + zs.length))).toArray
theorem size_lay (flat : Array Value) (off : Nat) (zs : List Int) (h : off + zs.length ≤ flat.size) : (lay flat off zs).size = flat.size := by
  simp [lay]; omega
theorem lay_at (flat : Array Value) (off : Nat) (zs : List Int) (h : off + zs.length ≤ flat.size) (i : Nat) (hi : i < zs.length) : (lay flat off zs)[off + i]? = some (.int .u8 (zs.getD i 0)) := by
  unfold lay
  rw [List.getElem?_toArray, List.getElem?_append_right (by simp; omega), List.getElem?_append_left (by simp; omega)]
  have e : off + i - (flat.toList.take off).length = i := by simp; omega
  rw [e, List.getElem?_map, List.getElem?_eq_getElem hi, List.getD_eq_getElem?_getD, List.getElem?_eq_getElem hi]
  rfl
theorem lay_low (flat : Array Value) (off : Nat) (zs : List Int) (h : off + zs.length ≤ flat.size) (k : Nat) (hk : k < off) : (lay flat off zs)[k]? = flat[k]? := by
  unfold lay
  rw [List.getElem?_toArray, List.getElem?_append_left (by simp; omega), List.getElem?_take_of_lt hk, Array.getElem?_toList]
theorem lay_high (flat : Array Value) (off : Nat) (zs : List Int) (h : off + zs.length ≤ flat.size) (k : Nat) (hk : off + zs.length ≤ k) : (lay flat off zs)[k]? = flat[k]? := by
  unfold lay
  rw [List.getElem?_toArray, List.getElem?_append_right (by simp; omega), List.getElem?_append_right (by simp; omega), List.getElem?_drop, Array.getElem?_toList]
  congr 1
  simp; omega
theorem Rows256.lay {flat : Array Value} {room : Nat} {B : Nat → List Int} (h : Rows256 flat room B) {n : Nat} (hn : n < room) {zs : List Int} (hz : zs.length = 256) : Rows256 (lay flat (n * 256) zs) room (upd B n zs) := by
  have hfit : n * 256 + zs.length ≤ flat.size := by have := h.1; omega
  refine ⟨by rw [size_lay _ _ _ hfit]; exact h.1, fun k hk i hi => ?_⟩
  by_cases e : k = n
  · subst e
    rw [upd_same]
    exact lay_at _ _ _ hfit i (by omega)
  · rw [upd_other _ _ e, ← h.2 k hk i hi]
    by_cases e2 : k < n
    · exact lay_low _ _ _ hfit _ (by omega)
    · exact lay_high _ _ _ hfit _ (by omega)
theorem BV.turned {w w' : World} {a : Option Addr} {zs : List Int} {mb room : Nat} {L : Nat → Bool} {S : Nat → List Int} (h : BV w a zs) (hm : Mp w mb room L S) (hg : w.grownBy w' (some mb)) : BV w' a zs := by
  obtain ⟨hz, h1 | ⟨b, off, rfl, hlt, hc⟩⟩ := h
  · exact ⟨hz, .inl h1⟩
  · by_cases e : zs = []
    · exact ⟨hz, .inl e⟩
    · have hne : b ≠ mb := by
        rintro rfl
        obtain ⟨D, ⟨es, clock, hb, _⟩, _⟩ := hm
        have := hc 0 (List.length_pos_iff.2 e)
        simp [World.cell?, hb] at this
      refine ⟨hz, .inr ⟨b, off, rfl, Nat.lt_of_lt_of_le hlt hg.size, fun i hi => ?_⟩⟩
      exact (World.cell?_of_block (w := w) (a := ⟨b, off + i, none⟩) (hg.block b hlt (by simp; exact hne))).trans (hc i hi)
theorem wp_copy_blk {ops : Array Oper} {rest : List Oper} {o : Oper} {a : Act} {w : World} {Q : Exit → Act → World → Prop} (hgd : o.guard = none) (d s : Operand)
    (ho : o.op = .call { callee := .builtin .copy, args := #[d, s], argTypes := #[32, 32] }) (g off m dcap scap : Nat) (ad : Option Addr) (k : Nat) (hd : a.eval d = .slice (some ⟨g, off, none⟩) m dcap) (hs : a.eval s = .slice ad k scap)
    (zs : List Int) (hz : zs.length = Nat.min k m) (hbv : BV w ad zs) (hp : 0 < zs.length) (flat : Array Value) (t : TypeId) (hg : w.heap[g]? = some (.cells flat t (0, 0))) (hfit : off + zs.length ≤ flat.size)
    (h : ∀ w', w'.heap[g]? = some (.cells (lay flat off zs) t (0, 0)) → Off [g] w w' → wpList Try.prog ops Q rest (a.put o.dst (goInt zs.length)) w') : wpList Try.prog ops Q (o :: rest) a w := by
  rcases hbv.2 with rfl | ⟨b, off', rfl, hlt, hc⟩
  · simp at hp
  · have := wpList_copy_own (P := Try.prog) (w := w) (Q := Q) (rest := rest) (ops := ops) hgd d s 32 32 ho 5 Try.underlying32 (by kernel_rfl) g off m dcap ⟨b, off', none⟩ k scap hd hs flat t hg (zs.map (Value.int .u8)) (by simpa using hz)
      (fun j v hv => by
        rw [List.getElem?_map, Option.map_eq_some_iff] at hv
        obtain ⟨z, hz1, rfl⟩ := hv
        have hj := (List.getElem?_eq_some_iff.1 hz1).1
        rw [add_plain, hc j hj, List.getD_eq_getElem?_getD, hz1]; rfl) (by simpa using hfit) (u8row zs)
    refine this ?_
    rw [List.length_map]
    exact h _ (setRow_heap w g _ _ t _ hg) ((Off.refl _ _).setRow (by simp) _)

set_option maxHeartbeats 400000 in
theorem put_loose (p nb mb : Nat) (s : DS) (n : Nat) (a : Option Addr) (cap' : Nat) (zs : List Int) (w : World) (h : Dk w p nb mb s) (hn : n < s.room) (hz : IsB zs) (hbv : BV w a zs) (hl : s.L n = true) :
    Calls Try.prog 39 #[.pointer (some ⟨p, 0, none⟩), .int .i64 n, .slice a 256 cap'] w fun e w' => e = .returned (.tuple #[]) ∧ Dk w' p nb mb (putS s n zs) ∧ Off [p, nb, mb] w w' := by
  have hne := h.ne
  obtain ⟨hn1, hn2, hn3, hp, hnb, hmb⟩ := hne
  have ok' := putS_ok h.1 (n := n) hz
  obtain ⟨ok, cap, set, after, done, flat, d1, d2, d3, d4, d5, d6⟩ := h
  obtain ⟨c0, c1, c2, c3, c4, c5, c6, c7, f0, f1, f2, f3, f4, f5, f6, f7⟩ := d1.cells
  have hlook := d5.look_ok hn ok.room
  rw [hl] at hlook
  have hus : (if true = true then s.S n else zs256).length = 256 := by simpa using (ok.isS n hn).1
  generalize (if true = true then s.S n else zs256) = us at hlook hus
  unfold blkV at hlook
  have h1 : (n : Int) < s.room := by omega
  have hb1 : decide ((n : Int) < 0) = false := by simp
  have D5 : Hid (Mp w mb s.room s.L s.S) := d5
  have D2 : Hid (w.heap[nb]? = some (.cells flat 71 (0, 0))) := d2
  have D1 : Hid (DkB w p (.slice (some ⟨nb, 0, none⟩) s.room cap) (.map (some mb)) (.bool s.down) (.bool set) (.int .i64 after) (.bool done) (.int .i64 s.ops) (.int .i64 s.reads)) := d1
  have HZ : Hid (IsB zs) := hz
  have HR : Hid (n * 256 + zs.length ≤ flat.size) := by
    have e1 := d4.1
    have e2 := hz.1
    have : n * 256 + zs.length ≤ flat.size := by omega
    exact this
  clear d1 d5 d2 hz
  go_enter Try.func39, Try.ntmps39
  go_wp2_with (first
    | (refine wp_alloc71 rfl rfl ?_)
    | (refine wp_store71_new rfl _ _ rfl zs256 us len_zs256 hus rfl rfl ?_; intro w1 hs1 hk1 hb1'; have c0' := (hb1'.cell (p := ⟨p, 0, none⟩) hp).trans c0; have c1' := (hb1'.cell (p := ⟨p, 1, none⟩) hp).trans c1)
    | (refine wp_copy_blk rfl _ _ rfl nb (n * 256) 256 256 cap' a 256 rfl rfl zs (by have := HZ.out.1; simp [this]) (hbv.below hb1') (by have := HZ.out.1; omega) flat 71 ((hb1'.block nb hnb).trans D2.out) HR.out ?_; intro w2 hk2 ho2)
    | fail)
  have hoff : Off [p, nb, mb] w w2 := (Off.of_below hb1').trans (ho2.mono (by simp))
  refine bodyPost_end (v := .tuple #[]) (results_none rfl _ _ _) rfl ⟨rfl, ⟨ok', cap, set, after, done, _, ?_, hk2, d3, d4.lay hn HZ.out.1, ?_, d6⟩, hoff⟩
  · exact (ho2.block p (by have := hb1'.size; omega) (by simp [hn1])).trans ((hb1'.block p hp).trans D1.out)
  · refine ((D5.out.off (Off.of_below (X := []) hb1') (by simp)).off ho2 (by simp; exact fun e => hn3 e.symm)).congr ?_ ?_
    · intro k hk
      by_cases e : k = n
      · subst e; rw [hl]; exact upd_same _ _ _
      · exact upd_other _ _ e
    · intro k _ _; rfl
set_option maxHeartbeats 400000 in
theorem put_new (p nb mb : Nat) (s : DS) (n : Nat) (a : Option Addr) (cap' : Nat) (zs : List Int) (w : World) (h : Dk w p nb mb s) (hn : n < s.room) (hz : IsB zs) (hbv : BV w a zs) (hl : s.L n = false) :
    Calls Try.prog 39 #[.pointer (some ⟨p, 0, none⟩), .int .i64 n, .slice a 256 cap'] w fun e w' => e = .returned (.tuple #[]) ∧ Dk w' p nb mb (putS s n zs) ∧ Off [p, nb, mb] w w' := by
  have hne := h.ne
  obtain ⟨hn1, hn2, hn3, hp, hnb, hmb⟩ := hne
  have ok' := putS_ok h.1 (n := n) hz
  obtain ⟨ok, cap, set, after, done, flat, d1, d2, d3, d4, d5, d6⟩ := h
  obtain ⟨c0, c1, c2, c3, c4, c5, c6, c7, f0, f1, f2, f3, f4, f5, f6, f7⟩ := d1.cells
  have hlook := d5.look_ok hn ok.room
  rw [hl] at hlook
  have hus : (if false = true then s.S n else zs256).length = 256 := by simpa using len_zs256
  generalize (if false = true then s.S n else zs256) = us at hlook hus
  unfold blkV at hlook
  have h1 : (n : Int) < s.room := by omega
  have hb1 : decide ((n : Int) < 0) = false := by simp
  have HL : Hid (s.L n = false) := hl
  have D5 : Hid (Mp w mb s.room s.L s.S) := d5
  have D2 : Hid (w.heap[nb]? = some (.cells flat 71 (0, 0))) := d2
  have D1 : Hid (DkB w p (.slice (some ⟨nb, 0, none⟩) s.room cap) (.map (some mb)) (.bool s.down) (.bool set) (.int .i64 after) (.bool done) (.int .i64 s.ops) (.int .i64 s.reads)) := d1
  have HZ : Hid (IsB zs) := hz
  have hBn := (ok.isB n hn).1
  have hld : ∀ W : World, W.heap[nb]? = some (.cells flat 71 (0, 0)) → (Instr.loadAt 71 (.pointer (some ⟨nb, n * 256, none⟩))).run Try.prog W = .ok (.agg (blkA (s.B n))) W := fun W hW => run_loadAt71 hW hBn (d4.2 n hn)
  have HLD : Hid (∀ W : World, W.heap[nb]? = some (.cells flat 71 (0, 0)) → (Instr.loadAt 71 (.pointer (some ⟨nb, n * 256, none⟩))).run Try.prog W = .ok (.agg (blkA (s.B n))) W) := hld
  have HR : Hid (n * 256 + zs.length ≤ flat.size) := by
    have e1 := d4.1
    have e2 := hz.1
    have : n * 256 + zs.length ≤ flat.size := by omega
    exact this
  clear d1 d5 d2 hz hld hl
  go_enter Try.func39, Try.ntmps39
  go_wp2_with (first
    | (refine wp_alloc71 rfl rfl ?_)
    | (refine wp_store71_new rfl _ _ rfl zs256 us len_zs256 hus rfl rfl ?_; intro w1 hs1 hk1 hb1'; have c0' := (hb1'.cell (p := ⟨p, 0, none⟩) hp).trans c0; have c1' := (hb1'.cell (p := ⟨p, 1, none⟩) hp).trans c1; have hl1 := HLD.out w1.drew ((hb1'.block nb hnb).trans D2.out); obtain ⟨w2, hup, hmp2, hg2⟩ := (D5.out.off (Off.of_below (X := []) hb1'.drew) (by simp)).store hn ok.room HL.out (s.B n); unfold blkV at hup)
    | fail)
  clear HLD c2 c3 c4 c5 c6 c7 f0 f1 f2 f3 f4 f5 f6 f7 hlook hk1
  have HL1 : Hid ((Instr.loadAt 71 (.pointer (some ⟨nb, n * 256, none⟩))).run Try.prog w1.drew = .ok (.agg (blkA (s.B n))) w1.drew) := hl1
  clear hl1
  refine wp_region_still_tail 12 (by kernel_rfl) (by kernel_rfl) ?_
  simp only [List.take_succ_cons, List.take_zero, List.drop_succ_cons, List.drop_zero]
  iterate 11 still_step
  refine still_load71 rfl _ rfl nb (n * 256) rfl (s.B n) HL1.out ?_
  refine wpStill_nil ?_
  have hbv2 := (hbv.below hb1'.drew).turned (D5.out.off (Off.of_below (X := []) hb1'.drew) (by simp)) hg2
  have hN : w2.heap[nb]? = some (.cells flat 71 (0, 0)) := (hg2.block nb (by show nb < w1.heap.size; omega) (by simp; exact hn3)).trans ((hb1'.block nb hnb).trans D2.out)
  have hP := (hg2.block p (by show p < w1.heap.size; omega) (by simp; exact hn2)).trans ((hb1'.block p hp).trans D1.out)
  have c0'' := DkB.cells hP
  have c02 := c0''.c0
  have hs2 : w.heap.size ≤ w2.heap.size := by have := hg2.size; have e : w1.drew.heap.size = w1.heap.size := rfl; omega
  have HN : Hid (w2.heap[nb]? = some (.cells flat 71 (0, 0))) := hN
  have HP : Hid (DkB w2 p (.slice (some ⟨nb, 0, none⟩) s.room cap) (.map (some mb)) (.bool s.down) (.bool set) (.int .i64 after) (.bool done) (.int .i64 s.ops) (.int .i64 s.reads)) := hP
  clear c0' c1' c0'' hN hP c0 c1
  change wpList _ _ _ _ _ w1.drew
  go_wp2_with (first
    | (refine wp_copy_blk rfl _ _ rfl nb (n * 256) 256 256 cap' a 256 rfl rfl zs (by have := HZ.out.1; simp [this]) hbv2 (by have := HZ.out.1; omega) flat 71 HN.out HR.out ?_; intro w3 hk3 ho3)
    | fail)
  have hoff : Off [p, nb, mb] w w3 := (((Off.of_below hb1').drew).grown hg2 (by simp)).trans (ho3.mono (by simp))
  refine bodyPost_end (v := .tuple #[]) (results_none rfl _ _ _) rfl ⟨rfl, ⟨ok', cap, set, after, done, _, ?_, hk3, d3, d4.lay hn HZ.out.1, ?_, d6⟩, hoff⟩
  · exact (ho3.block p (by omega) (by simp [hn1])).trans HP.out
  · refine (hmp2.off ho3 (by simp; exact fun e => hn3 e.symm)).congr (fun _ _ => rfl) ?_
    intro k hk hlk
    show s.S k = upd s.S n (s.B n) k
    by_cases e : k = n
    · subst e; rw [upd_same]; exact ok.same k hk HL.out
    · rw [upd_other _ _ e]

theorem put_any (p nb mb : Nat) (s : DS) (n : Nat) (a : Option Addr) (cap' : Nat) (zs : List Int) (w : World) (h : Dk w p nb mb s) (hn : n < s.room) (hz : IsB zs) (hbv : BV w a zs) :
    Calls Try.prog 39 #[.pointer (some ⟨p, 0, none⟩), .int .i64 n, .slice a 256 cap'] w fun e w' => e = .returned (.tuple #[]) ∧ Dk w' p nb mb (putS s n zs) ∧ Off [p, nb, mb] w w' := by
  cases hl : s.L n
  · exact put_new p nb mb s n a cap' zs w h hn hz hbv hl
  · exact put_loose p nb mb s n a cap' zs w h hn hz hbv hl
end Go.Proofs.Ytmapjikbplindaa
