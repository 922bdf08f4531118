import Derived.Test.YtbklnadlbcndlaaGreatM5
import Derived.Laws.AppendOwnNone
namespace Go.Proofs.YtbklnadlbcndlaaGreat.D
set_option maxRecDepth 20000
open Go.RowKit Go.Maps
set_option maxRecDepth 20000
structure Ent where
  n : Nat
  b : List Int
  s : List Int
  l : Bool
def Ent.cells (e : Ent) : List Value := [.int .i64 (e.n : Int), .string (strOfNums e.b), .string (strOfNums e.s), .bool e.l]
def entOf (s : DS) (n : Nat) : Ent := ⟨n, s.B n, s.S n, s.L n⟩
def rowE (es : List Ent) : List Value := es.flatMap Ent.cells
def Blks (w : World) (base : Nat) (lv : Value) (es : List Ent) : Prop := w.ownsRow base 184 4 lv es.length (rowE es)
def eNil : Ent := ⟨0, [], [], false⟩
theorem rowE_get (es : List Ent) (i j : Nat) (hi : i < es.length) (hj : j < 4) : (rowE es)[i * 4 + j]? = (es.getD i eNil).cells[j]? := by
  induction es generalizing i with
  | nil => simp at hi
  | cons e es ih =>
    have e1 : rowE (e :: es) = e.cells ++ rowE es := by simp [rowE]
    have hl : e.cells.length = 4 := rfl
    cases i with
    | zero => rw [e1, List.getElem?_append_left (by omega)]; simp
    | succ i =>
      rw [e1, List.getElem?_append_right (by omega), hl, show (i + 1) * 4 + j - 4 = i * 4 + j by omega, ih i (by simp at hi; omega)]
      simp
theorem Blks.view {w : World} {base : Nat} {lv : Value} {es : List Ent} (h : Blks w base lv es) : ∃ a cap, lv = .slice a es.length cap ∧ es.length ≤ cap ∧ cap ≤ maxLen ∧ (∀ i, i < es.length → ∃ g, a = some ⟨g, 0, none⟩ ∧ base ≤ g ∧ g < w.heap.size ∧
    w.cell? ⟨g, i * 4, none⟩ = some (.int .i64 ((es.getD i eNil).n : Int)) ∧ w.cell? ⟨g, i * 4 + 1, none⟩ = some (.string (strOfNums (es.getD i eNil).b)) ∧ w.cell? ⟨g, i * 4 + 2, none⟩ = some (.string (strOfNums (es.getD i eNil).s)) ∧ w.cell? ⟨g, i * 4 + 3, none⟩ = some (.bool (es.getD i eNil).l)) := by
  have hl := World.ownsRow.lt h
  rcases h.2 with ⟨rfl, hn⟩ | ⟨g, cap, cur, rfl, hb, hg, hnc, hcm, hcs, htake⟩
  · refine ⟨none, 0, by rw [hn], by omega, by decide, fun i hi => by omega⟩
  · refine ⟨_, cap, rfl, hnc, hcm, fun i hi => ⟨g, rfl, hb, (hl g rfl).2, ?_⟩⟩
    have hc : ∀ j, j < 4 → w.cell? ⟨g, i * 4 + j, none⟩ = (es.getD i eNil).cells[j]? := by
      intro j hj
      rw [World.ownsRow.cellAt (g := g) h (i * 4 + j) (by omega), rowE_get es i j hi hj]
    exact ⟨hc 0 (by omega), hc 1 (by omega), hc 2 (by omega), hc 3 (by omega)⟩
theorem Blks.off {w w' : World} {base : Nat} {lv : Value} {es : List Ent} {X : List Nat} (h : Blks w base lv es) (ho : Off X w w') (hx : ∀ g, lv.ownBlock = some g → g ∉ X) : Blks w' base lv es := by
  have hl := World.ownsRow.lt h
  refine ⟨h.1, ?_⟩
  rcases h.2 with hn | ⟨g, cap, cur, rfl, hb, hg, rest⟩
  · exact .inl hn
  · exact .inr ⟨g, cap, cur, rfl, hb, (ho.block g (hl g rfl).2 (hx g rfl)).trans hg, rest⟩
theorem Blks.below {w w' : World} {base : Nat} {lv : Value} {es : List Ent} (h : Blks w base lv es) (hb : Below w.heap.size w w') : Blks w' base lv es := h.off (Off.of_below (X := []) hb) (by simp)
theorem Blks.nil (w : World) (base : Nat) : Blks w base (.slice none 0 0) [] := World.ownsRow_nil w base 184 4
theorem Blks.mono {w : World} {b1 b2 : Nat} {lv : Value} {es : List Ent} (h : Blks w b1 lv es) (hb : b2 ≤ b1) : Blks w b2 lv es := by
  refine ⟨h.1, ?_⟩
  rcases h.2 with hn | ⟨g, cap, cur, e, h1, rest⟩
  · exact .inl hn
  · exact .inr ⟨g, cap, cur, e, Nat.le_trans hb h1, rest⟩
def Rf (w : World) (X : List Nat) (v : Value) (s : DS) : Prop :=
  s.Ok ∧ ∃ (lv : Value) (done : Bool) (ns : List Nat), v = .agg #[.int .i64 s.room, lv, .bool s.down, .int .i64 s.ops, .int .i64 s.reads, .int .i64 s.fails, .bool done] ∧ (0 ≤ s.fails → done = s.done) ∧
    ns.Pairwise (· < ·) ∧ (∀ n ∈ ns, n < s.room) ∧ (∀ n, n < s.room → n ∉ ns → s.B n = zs256 ∧ s.S n = zs256 ∧ s.L n = false) ∧ Blks w 0 lv (ns.map (entOf s)) ∧ (∀ g, lv.ownBlock = some g → g ∉ X)
theorem Rf.off {w w' : World} {X Y : List Nat} {v : Value} {s : DS} (h : Rf w X v s) (ho : Off Y w w') (hs : ∀ y ∈ Y, y ∈ X) : Rf w' X v s := by
  obtain ⟨ok, lv, done, ns, e, h1, h2, h3, h4, h5, h6⟩ := h
  exact ⟨ok, lv, done, ns, e, h1, h2, h3, h4, h5.off ho (fun g hg hm => h6 g hg (hs g hm)), h6⟩
theorem Rf.below {w w' : World} {X : List Nat} {v : Value} {s : DS} (h : Rf w X v s) (hb : Below w.heap.size w w') : Rf w' X v s := h.off (Off.of_below (X := []) hb) (by simp)
end Go.Proofs.YtbklnadlbcndlaaGreat.D
namespace Go.Proofs.YtbklnadlbcndlaaGreat.D
set_option maxRecDepth 20000
open Go.RowKit Go.Maps
set_option maxRecDepth 20000
set_option linter.unusedVariables false
theorem Tryz.info182 : (Tryz.prog.info? 182).map (fun i => (i.zero, i.size, i.bytes)) = some (some (blkV zs256), 256, 256) := by kernel_rfl
theorem made_rows (c : Nat) : Rows256 (madeCells (blkA zs256) (c * 256)) c (fun _ => zs256) := by
  refine ⟨by rw [size_madeCells]; exact Nat.le_refl _, fun n hn i hi => ?_⟩
  have h1 : n * 256 + i < c * 256 := by omega
  have hs : (blkA zs256).size = 256 := size_blkA len_zs256
  unfold madeCells
  rw [Array.getElem?_map, Array.getElem?_range, if_pos h1]
  have h2 : (n * 256 + i) % (blkA zs256).size = i := by rw [hs]; omega
  simp only [Option.map_some, h2]
  have h3 := blkA_get zs256 i (by rw [len_zs256]; exact hi)
  rw [getElem!_def, h3]
theorem wp_make55 {ops : Array Oper} {rest : List Oper} {o : Oper} {a : Act} {w : World} {Q : Exit → Act → World → Prop} (hgd : o.guard = none) (x y : Operand) (ho : o.op = .makeSlice 93 x y) (c : Nat) (hc : c ≤ 4096) (hx : a.eval x = .int .i64 c) (hy : a.eval y = .int .i64 c)
    (h : ∀ w', w'.heap[w.heap.size]? = some (.cells (madeCells (blkA zs256) (c * 256)) 182 (0, 0)) → w'.heap.size = w.heap.size + 1 → Below w.heap.size w w' → wpList Tryz.prog ops Q rest (a.put o.dst (.slice (some ⟨w.heap.size, 0, none⟩) c c)) w') : wpList Tryz.prog ops Q (o :: rest) a w := by
  obtain ⟨i0, hi, hz0, hz1, hz2⟩ := info_parts Tryz.info182
  have hrun := run_makeSlice (P := Tryz.prog) w 93 182 i0 (blkV zs256) Tryz.underlying93 hi hz0 .i64 .i64 c c (by omega) (by omega) (by rw [hz1]; simp; omega) (by rw [hz2]; omega) (by omega)
  refine wpList_plain hgd fun K hK => ?_
  unfold Oper.wp
  rw [hz1, Int.toNat_natCast] at hrun
  simp only [execOp, ho, hx, hy, Sem.run_bind, hrun, Result.andThen, Sem.run_pure]
  exact hK _ _ (h _ (heap_alloc_last _ _) (by simp) ((Below.refl _ _).alloc (Nat.le_refl _) _))
theorem min_max (b : Int) : ∃ c : Nat, (newS b).room = c ∧ c ≤ 4096 ∧ ((b < 0 ∧ c = 0) ∨ (0 ≤ b ∧ b ≤ 4096 ∧ b = c) ∨ (4096 < b ∧ c = 4096)) := by
  refine ⟨(min (max b 0) 4096).toNat, rfl, by omega, ?_⟩
  omega
theorem new_dk {w w1 w2 w3 : World} {c : Nat} (b : Int) (hc : (newS b).room = c) (h1 : w1.heap[w.heap.size]? = some (.cells (madeCells (blkA zs256) (c * 256)) 182 (0, 0))) (hs1 : w1.heap.size = w.heap.size + 1)
    (h2 : w2 = w1.alloc (.map #[] 0)) (h3 : w3 = w2.alloc (.cells #[.slice (some ⟨w.heap.size, 0, none⟩) c c, .map (some (w.heap.size + 1)), .bool false, .bool false, .int .i64 0, .bool false, .int .i64 0, .int .i64 0] 98)) :
    Dk w3 (w.heap.size + 2) w.heap.size (w.heap.size + 1) (newS b) := by
  subst h2 h3
  have hs2 : (w1.alloc (.map #[] 0)).heap.size = w.heap.size + 2 := by simp [hs1]
  refine ⟨newS_ok b, c, false, 0, false, madeCells (blkA zs256) (c * 256), ?_, ?_, by rw [hc]; exact Nat.le_refl _, ?_, ?_, .inl ⟨rfl, rfl⟩⟩
  · unfold DkB
    rw [hc, ← hs2]
    exact heap_alloc_new _ _
  · rw [@heap_alloc_old _ _ _ (by omega), @heap_alloc_old _ _ _ (by omega)]
    exact h1
  · rw [hc]; exact made_rows c
  · have := Mp.made w1 (newS b).room (newS b).S
    rw [hs1] at this
    exact this.off (Off.of_below (X := []) ((Below.refl _ _).alloc (Nat.le_refl _) _)) (by simp)
set_option maxHeartbeats 800000 in
theorem new_any (b : Int) (w : World) : Calls Tryz.prog 13 #[.int .i64 b] w fun e w' => ∃ p nb mb, e = .returned (.pointer (some ⟨p, 0, none⟩)) ∧ Dk w' p nb mb (newS b) ∧ w.heap.size ≤ p ∧ w.heap.size ≤ nb ∧ w.heap.size ≤ mb ∧ Below w.heap.size w w' := by
  obtain ⟨c, hc, hle, hcase⟩ := min_max b
  have HN : Hid (∀ w1 : World, w1.heap[w.heap.size]? = some (.cells (madeCells (blkA zs256) (c * 256)) 182 (0, 0)) → w1.heap.size = w.heap.size + 1 → Dk ((w1.alloc (.map #[] 0)).alloc (.cells #[.slice (some ⟨w.heap.size, 0, none⟩) c c, .map (some (w.heap.size + 1)), .bool false, .bool false, .int .i64 0, .bool false, .int .i64 0, .int .i64 0] 98)) (w.heap.size + 2) w.heap.size (w.heap.size + 1) (newS b)) := fun w1 h1 h2 => new_dk b hc h1 h2 rfl rfl
  have hmm := @run_makeMap Tryz.prog
  clear hc
  have hmn : min (max b 0) 4096 = (c : Int) := by omega
  clear hcase
  go_enter Tryz.func13, Tryz.ntmps13
  go_wp2_with (first | (refine wp_make55 rfl _ _ rfl c hle rfl rfl ?_; intro w1 hk1 hs1 hb1; have HD := HN.out w1 hk1 hs1; have HDH : Hid (Dk ((w1.alloc (.map #[] 0)).alloc (.cells #[.slice (some ⟨w.heap.size, 0, none⟩) c c, .map (some (w.heap.size + 1)), .bool false, .bool false, .int .i64 0, .bool false, .int .i64 0, .int .i64 0] 98)) (w.heap.size + 2) w.heap.size (w.heap.size + 1) (newS b)) := HD; clear HD hk1) | fail)
  go_ret
  refine ⟨w.heap.size + 2, w.heap.size, w.heap.size + 1, ?_, HDH.out, by omega, Nat.le_refl _, by omega, (hb1.alloc (by omega) _).alloc (by simp; omega) _⟩
  rfl
end Go.Proofs.YtbklnadlbcndlaaGreat.D
