import Derived.Test.YtelhlikeefpjnaaGreatM21
import Derived.Deep.RegionHeld3
import Derived.StillTailTactics
namespace Go.Proofs.YtelhlikeefpjnaaGreat.D
set_option maxRecDepth 20000
open Go.RowKit Go.Maps
set_option maxRecDepth 20000
set_option linter.unusedSimpArgs false
abbrev rcells (s : DS) (lv : Value) (done : Bool) : Array Value := #[.int .i64 s.room, lv, .bool s.down, .int .i64 s.ops, .int .i64 s.reads, .int .i64 s.fails, .bool done]
theorem name_ops {P : Program} {id : Nat} {ops : Array Oper} {Q : Exit → Act → World → Prop} {a : Act} {w : World} (h : ∀ (O : Array Oper) (QQ : Exit → Act → World → Prop), Hid (O = ops) → Hid (QQ = Q) → (Code.region id O true).wp P QQ a w) : (Code.region id ops true).wp P Q a w := h _ _ rfl rfl
structure RC (w : World) (p : Nat) (c0 c1 c2 c3 c4 c5 c6 : Value) : Prop where
  c0 : w.cell? ⟨p, 0, none⟩ = some c0
  c1 : w.cell? ⟨p, 1, none⟩ = some c1
  c2 : w.cell? ⟨p, 2, none⟩ = some c2
  c3 : w.cell? ⟨p, 3, none⟩ = some c3
  c4 : w.cell? ⟨p, 4, none⟩ = some c4
  c5 : w.cell? ⟨p, 5, none⟩ = some c5
  c6 : w.cell? ⟨p, 6, none⟩ = some c6
  f0 : w.frozen? ⟨p, 0, none⟩ = false
  f1 : w.frozen? ⟨p, 1, none⟩ = false
  f2 : w.frozen? ⟨p, 2, none⟩ = false
  f3 : w.frozen? ⟨p, 3, none⟩ = false
  f4 : w.frozen? ⟨p, 4, none⟩ = false
  f5 : w.frozen? ⟨p, 5, none⟩ = false
  f6 : w.frozen? ⟨p, 6, none⟩ = false
theorem RC.of {w : World} {p : Nat} {c0 c1 c2 c3 c4 c5 c6 : Value} (h : w.heap[p]? = some (.cells #[c0, c1, c2, c3, c4, c5, c6] 39 (0, 0))) : RC w p c0 c1 c2 c3 c4 c5 c6 := by
  refine ⟨?_, ?_, ?_, ?_, ?_, ?_, ?_, ?_, ?_, ?_, ?_, ?_, ?_, ?_⟩ <;> first
    | (rw [cell_of_row _ _ _ _ _ _ h]; rfl)
    | exact frozen_of_row _ _ _ _ _ h
end Go.Proofs.YtelhlikeefpjnaaGreat.D
namespace Go.Proofs.YtelhlikeefpjnaaGreat.D
set_option maxRecDepth 20000
open Go.RowKit Go.Maps
set_option maxRecDepth 20000
theorem Rf.open {w : World} {X : List Nat} {v : Value} {s : DS} (h : Rf w X v s) : ∃ a n cap done, v = .agg (rcells s (.slice a n cap) done) := by
  obtain ⟨ok, lv, done, ns, rfl, h1, h2, h3, h4, h5, h6⟩ := h
  obtain ⟨a, cap, rfl, _⟩ := h5.view
  exact ⟨a, _, cap, done, rfl⟩
theorem Rf.failing {w : World} {X : List Nat} {lv : Value} {done : Bool} {s : DS} (h : Rf w X (.agg (rcells s lv done)) s) (n : Int) (d : Bool) (hn0 : 0 ≤ n) (hn : n ≤ 9223372036854775807) :
    Rf w X (.agg #[.int .i64 s.room, lv, .bool s.down, .int .i64 s.ops, .int .i64 s.reads, .int .i64 n, .bool d]) { s with fails := n, done := d } := by
  obtain ⟨ok, lv0, done0, ns, e0, h1, h2, h3, h4, h5, h6⟩ := h
  obtain ⟨rfl, rfl⟩ : lv = lv0 ∧ done = done0 := by simpa using e0
  exact ⟨⟨ok.room, ok.isB, ok.isS, ok.same, by show -1 ≤ n; omega, hn⟩, lv, d, ns, rfl, fun _ => rfl, h2, h3, h4, h5, h6⟩
end Go.Proofs.YtelhlikeefpjnaaGreat.D
namespace Go.Proofs.YtelhlikeefpjnaaGreat.D
set_option maxRecDepth 20000
open Go.RowKit Go.Maps
set_option maxRecDepth 20000
theorem Rf.lv {w : World} {X : List Nat} {lv : Value} {done : Bool} {s t : DS} (h : Rf w X (.agg (rcells s lv done)) t) : ∃ a n c, lv = .slice a n c := by
  obtain ⟨a, n, c, dn, e⟩ := h.open
  simp only [Value.agg.injEq, rcells] at e
  simp at e
  exact ⟨a, n, c, e.2.1⟩
end Go.Proofs.YtelhlikeefpjnaaGreat.D
namespace Go.Proofs.YtelhlikeefpjnaaGreat.D
set_option maxRecDepth 20000
open Go.RowKit Go.Maps
set_option maxRecDepth 20000
theorem Rf.readed {w : World} {X : List Nat} {lv : Value} {done : Bool} {s : DS} (h : Rf w X (.agg (rcells s lv done)) s) : Rf w X (.agg (rcells { s with reads := inc s.reads } lv done)) { s with reads := inc s.reads } := by
  obtain ⟨ok, lv0, done0, ns, e0, h1, h2, h3, h4, h5, h6⟩ := h
  obtain ⟨rfl, rfl⟩ : lv = lv0 ∧ done = done0 := by simpa using e0
  exact ⟨⟨ok.room, ok.isB, ok.isS, ok.same, ok.lo, ok.hi⟩, lv, done, ns, rfl, h1, h2, h3, h4, h5, h6⟩
end Go.Proofs.YtelhlikeefpjnaaGreat.D
namespace Go.Proofs.YtelhlikeefpjnaaGreat.D
set_option maxRecDepth 20000
open Go.RowKit Go.Maps
set_option maxRecDepth 20000
theorem Tryz.info3 : (Tryz.prog.info? 3).map (fun i => (i.zero, i.size, i.bytes)) = some (some (.int .i64 0), 1, 8) := by kernel_rfl
theorem wp_appN {ops : Array Oper} {rest : List Oper} {o : Oper} {a : Act} {Q : Exit → Act → World → Prop} {w : World} (hgd : o.guard = none) (s x : Operand)
    (ho : o.op = .call { callee := .builtin .append, args := #[s, x], argTypes := #[40, 40] }) (base : Nat) (lv : Value) (l : List Nat) (n : Nat) (hs : a.eval s = lv) (hown : OwnN w base lv l)
    (g : Nat) (hx : a.eval x = .slice (some ⟨g, 0, none⟩) 1 1) (hg : w.heap[g]? = some (.cells #[.int .i64 (n : Int)] 3 (0, 0))) (hlen : l.length ≤ 1000000) (hbase : base ≤ w.heap.size)
    (h : ∀ lv' w', OwnN w' base lv' (l ++ [n]) → Below base w w' → wpList Tryz.prog ops Q rest (a.put o.dst lv') w') : wpList Tryz.prog ops Q (o :: rest) a w := by
  obtain ⟨i0, hi, hz0, hz1, hz2⟩ := info_parts Tryz.info3
  refine wpList_append_own w hgd s x 40 ho base 3 i0 (.int .i64 0) 1 8 Tryz.underlying40 hi hz0 hz1 hz2 rfl (by decide) lv l.length (l.map fun n : Nat => Value.int .i64 (n : Int)) hs hown ⟨g, 0, none⟩ 1 1 [.int .i64 (n : Int)] hx rfl ?_ (by simp [Value.oneCell']) (by unfold maxLen; omega) (by omega) hbase ?_
  · intro j u hu
    rw [add_plain, Nat.zero_add, cell_of_row _ _ _ _ _ _ hg]
    simpa using hu
  · intro v' w' h1 h2 _
    refine h v' w' ?_ ((Below.refl base w).grown h2 hbase (fun k hk => (World.ownsRow.lt hown k hk).1))
    unfold OwnN
    rw [List.length_append, List.map_append]
    exact h1
end Go.Proofs.YtelhlikeefpjnaaGreat.D
namespace Go.Proofs.YtelhlikeefpjnaaGreat.D
set_option maxRecDepth 20000
open Go.RowKit Go.Maps
set_option maxRecDepth 20000
def ins (n k : Nat) (ns : List Nat) : List Nat := ns.take k ++ (n :: ns.drop (if ns.getD k 0 = n ∧ k < ns.length then k + 1 else k))
theorem Blks.row {w : World} {base g n cap : Nat} {es : List Ent} (h : Blks w base (.slice (some ⟨g, 0, none⟩) n cap) es) : es.length = n ∧ n ≤ cap ∧ cap ≤ maxLen ∧ base ≤ g ∧ g < w.heap.size ∧ ∀ j u, (rowE es)[j]? = some u → w.cell? ⟨g, j, none⟩ = some u := by
  have hl := World.ownsRow.lt h g rfl
  have hn : es.length = n := by
    rcases h.2 with ⟨h', _⟩ | ⟨g', cap', cur, h', _⟩
    · simp at h'
    · simp at h'; omega
  subst hn
  refine ⟨rfl, ?_, ?_, hl.1, hl.2, fun j u hu => ?_⟩
  · rcases h.2 with ⟨h', _⟩ | ⟨g', cap', cur, h', _, _, h3, _⟩
    · simp at h'
    · simp at h'; omega
  · rcases h.2 with ⟨h', _⟩ | ⟨g', cap', cur, h', _, _, _, h3, _⟩
    · simp at h'
    · simp at h'; obtain ⟨_, rfl⟩ := h'; exact h3
  · have hj := (List.getElem?_eq_some_iff.1 hu).1
    rw [len_rowE] at hj
    rw [World.ownsRow.cellAt h j hj]
    exact hu
end Go.Proofs.YtelhlikeefpjnaaGreat.D
namespace Go.Proofs.YtelhlikeefpjnaaGreat.D
set_option maxRecDepth 20000
open Go.RowKit Go.Maps
set_option maxRecDepth 20000
set_option linter.unusedSimpArgs false
theorem conv_bv {w : World} {a : Option Addr} {zs : List Int} {n cap : Nat} (h : BV w a zs) (hn : zs.length = n) : (convert 29 9 (.slice a n cap)).run Tryz.prog w = .ok (.string (strOfNums zs)) w := by
  subst hn
  rcases h.2 with rfl | ⟨b, off, rfl, _, hc⟩
  · cases a with
    | none => exact run_convert_bytes_nil (P := Tryz.prog) w 29 5 Tryz.underlying29 Tryz.underlying5 0 cap 9 Tryz.underlying9
    | some x =>
      show (convert 29 9 (.slice (some x) 0 cap)).run Tryz.prog w = _
      rw [run_convert_bytes_string w 29 9 5 _ 0 cap Tryz.underlying29 Tryz.underlying5 Tryz.underlying9, run_bytesToString w x 0 cap [] (by simp [loadCells, loadCellsFrom])]
      rfl
  · exact run_convert_bytes_arg (P := Tryz.prog) w 29 5 Tryz.underlying29 Tryz.underlying5 b off zs.length cap zs rfl hc 9 Tryz.underlying9
end Go.Proofs.YtelhlikeefpjnaaGreat.D
namespace Go.Proofs.YtelhlikeefpjnaaGreat.D
set_option maxRecDepth 20000
open Go.RowKit Go.Maps
set_option maxRecDepth 20000
set_option linter.unusedVariables false
theorem Rf.blk {w : World} {X : List Nat} {v : Value} {s : DS} (h : Rf w X v s) (Y : List Nat) (hY : ∀ y ∈ Y, y ∈ X ∨ w.heap.size ≤ y) : Rf w Y v s := by
  obtain ⟨ok, lv, done, ns, e, h1, h2, h3, h4, h5, h6⟩ := h
  refine ⟨ok, lv, done, ns, e, h1, h2, h3, h4, h5, fun g hg hm => ?_⟩
  rcases hY g hm with q | q
  · exact h6 g hg q
  · have := (World.ownsRow.lt h5 g hg).2; omega
def Bx (n : Nat) (W : World) (rc ac : Array Value) : Prop := W.heap[n]? = some (.cells rc 39 (0, 0)) ∧ W.heap[n + 1]? = some (.cells ac 31 (0, 0)) ∧ W.heap[n + 2]? = some (.cells #[.int .i64 0, .slice none 0 0, .bool false, .int .i64 0, .int .i64 0, .int .i64 0, .bool false] 39 (0, 0))
theorem Bx.off {n : Nat} {W W' : World} {rc ac : Array Value} {X : List Nat} (h : Bx n W rc ac) (ho : Off X W W') (hX : ∀ x ∈ X, x < n ∨ n + 3 ≤ x) : Bx n W' rc ac := by
  have l0 := (Array.getElem?_eq_some_iff.1 h.1).1
  have l1 := (Array.getElem?_eq_some_iff.1 h.2.1).1
  have l2 := (Array.getElem?_eq_some_iff.1 h.2.2).1
  exact ⟨(ho.block n l0 (fun hm => by have := hX _ hm; omega)).trans h.1, (ho.block (n + 1) l1 (fun hm => by have := hX _ hm; omega)).trans h.2.1, (ho.block (n + 2) l2 (fun hm => by have := hX _ hm; omega)).trans h.2.2⟩
theorem Bx.below {n : Nat} {W W' : World} {rc ac : Array Value} (h : Bx n W rc ac) (hb : Below W.heap.size W W') : Bx n W' rc ac := h.off (Off.of_below (X := []) hb) (by simp)
structure AC (w : World) (p : Nat) (c0 c1 c2 c3 c4 c5 : Value) : Prop where
  c0 : w.cell? ⟨p, 0, none⟩ = some c0
  c1 : w.cell? ⟨p, 1, none⟩ = some c1
  c2 : w.cell? ⟨p, 2, none⟩ = some c2
  c3 : w.cell? ⟨p, 3, none⟩ = some c3
  c4 : w.cell? ⟨p, 4, none⟩ = some c4
  c5 : w.cell? ⟨p, 5, none⟩ = some c5
theorem AC.of {w : World} {p : Nat} {c0 c1 c2 c3 c4 c5 : Value} (h : w.heap[p]? = some (.cells #[c0, c1, c2, c3, c4, c5] 31 (0, 0))) : AC w p c0 c1 c2 c3 c4 c5 := by
  refine ⟨?_, ?_, ?_, ?_, ?_, ?_⟩ <;> (rw [cell_of_row _ _ _ _ _ _ h]; rfl)
theorem Dk.set2 {w w' : World} {p nb mb : Nat} {s : DS} {Y : List Nat} (h : Dk w p nb mb s) (ho : Off Y w w') (n : Nat) (hp : p < n) (hnb : nb < n) (hmb : mb < n) (hY : ∀ y ∈ Y, n ≤ y) : Dk w' p nb mb s :=
  h.off ho (fun hm => by have := hY _ hm; omega) (fun hm => by have := hY _ hm; omega) (fun hm => by have := hY _ hm; omega)
end Go.Proofs.YtelhlikeefpjnaaGreat.D
namespace Go.Proofs.YtelhlikeefpjnaaGreat.D
set_option maxRecDepth 20000
open Go.RowKit Go.Maps
set_option maxRecDepth 20000
set_option linter.unusedVariables false
theorem set7 {w : World} {n : Nat} {a0 a1 a2 a3 a4 a5 a6 b0 b1 b2 b3 b4 b5 b6 : Value} (h : w.heap[n]? = some (.cells #[a0, a1, a2, a3, a4, a5, a6] 39 (0, 0))) :
    (((((((w.setCell ⟨n, 0, none⟩ b0).setCell ⟨n, 1, none⟩ b1).setCell ⟨n, 2, none⟩ b2).setCell ⟨n, 3, none⟩ b3).setCell ⟨n, 4, none⟩ b4).setCell ⟨n, 5, none⟩ b5).setCell ⟨n, 6, none⟩ b6).heap[n]? = some (.cells #[b0, b1, b2, b3, b4, b5, b6] 39 (0, 0)) := by
  have h0 := heap_setCell_same w n 0 _ 39 b0 h
  have h1 := heap_setCell_same _ n 1 _ 39 b1 h0
  have h2 := heap_setCell_same _ n 2 _ 39 b2 h1
  have h3 := heap_setCell_same _ n 3 _ 39 b3 h2
  have h4 := heap_setCell_same _ n 4 _ 39 b4 h3
  have h5 := heap_setCell_same _ n 5 _ 39 b5 h4
  have h6 := heap_setCell_same _ n 6 _ 39 b6 h5
  rw [h6]
  rfl
end Go.Proofs.YtelhlikeefpjnaaGreat.D
namespace Go.Proofs.YtelhlikeefpjnaaGreat.D
set_option maxRecDepth 20000
open Go.RowKit Go.Maps
set_option maxRecDepth 20000
set_option linter.unusedVariables false
theorem Own.stored {w : World} {base g n cap : Nat} {zs : List Int} (h : Own w base (.slice (some ⟨g, 0, none⟩) n cap) zs) (j : Nat) (z : Int) : Own (w.setCell ⟨g, j, none⟩ (.int .u8 z)) base (.slice (some ⟨g, 0, none⟩) n cap) (zs.set j z) := by
  have hn : zs.length = n := by
    rcases h.2 with ⟨h', _⟩ | ⟨g', cap', cur, h', _⟩
    · simp at h'
    · simp at h'; omega
  subst hn
  have := (World.ownsRow.stored h j (.int .u8 z)).1
  unfold Own
  rw [List.length_set, List.map_set]
  exact this
theorem Own.cells1 {w : World} {base g n cap : Nat} {zs : List Int} (h : Own w base (.slice (some ⟨g, 0, none⟩) n cap) zs) (hz : AllB zs) (k : Nat) (hk : k < zs.length) : w.cell? ⟨g, k, none⟩ = some (.int .u8 (zs.getD k 0)) ∧ w.frozen? ⟨g, k, none⟩ = false := by
  have hn : zs.length = n := by
    rcases h.2 with ⟨h', _⟩ | ⟨g', cap', cur, h', _⟩
    · simp at h'
    · simp at h'; omega
  subst hn
  refine ⟨?_, World.ownsRow.frozenAt h k⟩
  have hc := World.ownsRow.cellAt (g := g) h k (by omega)
  rw [hc, List.getElem?_map, List.getElem?_eq_getElem hk, List.getD_eq_getElem?_getD, List.getElem?_eq_getElem hk]
  rfl
end Go.Proofs.YtelhlikeefpjnaaGreat.D
namespace Go.Proofs.YtelhlikeefpjnaaGreat.D
set_option maxRecDepth 20000
open Go.RowKit Go.Maps
set_option maxRecDepth 20000
set_option linter.unusedVariables false
def Mine (w0 w : World) (p nb mb : Nat) (s : DS) : Prop := Dk w p nb mb s ∧ w0.heap.size ≤ p ∧ w0.heap.size ≤ nb ∧ w0.heap.size ≤ mb ∧ Below w0.heap.size w0 w
theorem Mine.step {w0 w w' : World} {p nb mb : Nat} {s t : DS} (h : Mine w0 w p nb mb s) (hd : Dk w' p nb mb t) (ho : Off [p, nb, mb] w w') : Mine w0 w' p nb mb t :=
  ⟨hd, h.2.1, h.2.2.1, h.2.2.2.1, h.2.2.2.2.trans (ho.below h.2.2.2.2.size (by intro x hx; have := h.2.1; have := h.2.2.1; have := h.2.2.2.1; simp at hx; omega))⟩
theorem Mine.below {w0 w w' : World} {p nb mb : Nat} {s : DS} (h : Mine w0 w p nb mb s) (hb : Below w.heap.size w w') : Mine w0 w' p nb mb s :=
  ⟨h.1.below hb, h.2.1, h.2.2.1, h.2.2.2.1, h.2.2.2.2.trans (hb.mono h.2.2.2.2.size)⟩
theorem Mine.lt {w0 w : World} {p nb mb : Nat} {s : DS} (h : Mine w0 w p nb mb s) : ∀ x ∈ [p, nb, mb], x < w.heap.size := by
  obtain ⟨_, _, _, h1, h2, h3⟩ := h.1.ne
  intro x hx; simp at hx; omega
end Go.Proofs.YtelhlikeefpjnaaGreat.D
