/- A strings.Builder of the call's own, written on: what it holds, and that all else stays: contracts of single calls. -/
import Derived.Test.YtbbjhiijialfoaaDoorRe
import Derived.Test.YtbbjhiijialfoaaDoorProg
import Derived.Shelf.Strings.BuilderK
namespace Go.Proofs.YtbbjhiijialfoaaDoor
set_option maxRecDepth 20000
open Go.RowKit
set_option linter.unusedVariables false
set_option linter.unusedSimpArgs false
set_option maxRecDepth 20000

/-- The builder at b holds these bytes; it and its row lie at B or above. -/
def Bd (w : World) (B b : Nat) (zs : Str) : Prop := Lib.IsBuilderF 71 5 B b (Lib.byteCells zs) w
/-- The block k is neither the builder nor its row. -/
def Apart (w : World) (b k : Nat) : Prop := k ≠ b ∧ ∀ p v T fz, w.heap[b]? = some (.cells #[p, v] T fz) → v.ownBlock ≠ some k
/-- All but the builder and its row stays. -/
def FB (b : Nat) (w w' : World) : Prop := w.heap.size ≤ w'.heap.size ∧ ∀ k, k < w.heap.size → Apart w b k → w'.heap[k]? = w.heap[k]? ∧ Apart w' b k
theorem FB.refl (b : Nat) (w : World) : FB b w w := ⟨Nat.le_refl _, fun k _ h => ⟨rfl, h⟩⟩
theorem FB.trans {b : Nat} {w1 w2 w3 : World} (h : FB b w1 w2) (k : FB b w2 w3) : FB b w1 w3 :=
  ⟨Nat.le_trans h.1 k.1, fun j hj ha => by
    obtain ⟨e1, a1⟩ := h.2 j hj ha
    obtain ⟨e2, a2⟩ := k.2 j (Nat.lt_of_lt_of_le hj h.1) a1
    exact ⟨e2.trans e1, a2⟩⟩
theorem Bd.get {w : World} {B b : Nat} {zs : Str} (h : Bd w B b zs) : ∃ p v, B ≤ b ∧ w.heap[b]? = some (.cells #[p, v] 71 (0, 0)) ∧ w.ownsRowF B 5 1 v zs.length (Lib.byteCells zs) ∧ v.ownBlock ≠ some b := by
  rcases h with ⟨h1, v, h2, h3, h4⟩ | ⟨h1, v, h2, h3, h4⟩
  · exact ⟨_, v, h1, h2, by rw [Lib.byteCells_length] at h3; exact h3, h4⟩
  · exact ⟨_, v, h1, h2, by rw [Lib.byteCells_length] at h3; exact h3, h4⟩
theorem Bd.lt {w : World} {B b : Nat} {zs : Str} (h : Bd w B b zs) : b < w.heap.size := by
  obtain ⟨p, v, h1, h2, h3, h4⟩ := h.get
  rcases Nat.lt_or_ge b w.heap.size with h' | h'
  · exact h'
  · simp [Array.getElem?_eq_none h'] at h2
theorem Bd.le {w : World} {B b : Nat} {zs : Str} (h : Bd w B b zs) : B ≤ b := by
  obtain ⟨p, v, h1, h2, h3, h4⟩ := h.get
  exact h1
/-- What lies below B is apart. -/
theorem Bd.apart {w : World} {B b k : Nat} {zs : Str} (h : Bd w B b zs) (hk : k < B) : Apart w b k := by
  obtain ⟨p, v, h1, h2, h3, h4⟩ := h.get
  refine ⟨by omega, fun p' v' T fz e e2 => ?_⟩
  rw [h2] at e
  obtain ⟨e3, -⟩ := Obj.cells.inj (Option.some.inj e)
  obtain ⟨-, e4⟩ : p = p' ∧ v = v' := by simpa using e3
  subst e4
  have := (h3.lt k e2).1
  omega
/-- A block that is not there yet is apart. -/
theorem Bd.new {w : World} {B b k : Nat} {zs : Str} (h : Bd w B b zs) (hk : w.heap.size ≤ k) : Apart w b k := by
  obtain ⟨p, v, h1, h2, h3, h4⟩ := h.get
  have hb := h.lt
  refine ⟨by omega, fun p' v' T fz e e2 => ?_⟩
  rw [h2] at e
  obtain ⟨e3, -⟩ := Obj.cells.inj (Option.some.inj e)
  obtain ⟨-, e4⟩ : p = p' ∧ v = v' := by simpa using e3
  subst e4
  have := (h3.lt k e2).2
  omega
theorem alloc_heap_lt (w : World) (o : Obj) {k : Nat} (h : k < w.heap.size) : (w.alloc o).heap[k]? = w.heap[k]? := Lib.alloc_old w o k h
theorem Apart.alloc {w : World} {b k : Nat} (hb : b < w.heap.size) (h : Apart w b k) (o : Obj) : Apart (w.alloc o) b k :=
  ⟨h.1, fun p v T fz e => h.2 p v T fz (by rw [← e, alloc_heap_lt w o hb])⟩
theorem FB.alloc {b : Nat} {w w' : World} (hb : b < w'.heap.size) (h : FB b w w') (o : Obj) : FB b w (w'.alloc o) :=
  ⟨by have := h.1; simp; omega, fun k hk ha => by
    obtain ⟨e1, a1⟩ := h.2 k hk ha
    exact ⟨(alloc_heap_lt w' o (Nat.lt_of_lt_of_le hk h.1)).trans e1, a1.alloc hb o⟩⟩
theorem Bd.alloc {w : World} {B b : Nat} {zs : Str} (h : Bd w B b zs) (o : Obj) : Bd (w.alloc o) B b zs := Lib.IsBuilderF.alloc h o
/-- What is laid behind the bytes that were there. -/
structure At (w : World) (B b : Nat) (w' : World) (zs : Str) : Prop where
  bd : Bd w' B b zs
  bel : Below B w w'
  fb : FB b w w'
theorem At.refl {w : World} {B b : Nat} {zs : Str} (h : Bd w B b zs) : At w B b w zs := ⟨h, Below.refl _ _, FB.refl _ _⟩
theorem At.trans {w1 w2 w3 : World} {B b : Nat} {zs ys : Str} (h : At w1 B b w2 zs) (k : At w2 B b w3 ys) : At w1 B b w3 ys := ⟨k.bd, h.bel.trans k.bel, h.fb.trans k.fb⟩
theorem At.alloc {w w' : World} {B b : Nat} {zs : Str} (h : At w B b w' zs) (o : Obj) : At w B b (w'.alloc o) zs :=
  ⟨h.bd.alloc o, h.bel.alloc (by have := h.bd.le; have := h.bd.lt; omega) o, h.fb.alloc h.bd.lt o⟩
theorem At.drew {w w' : World} {B b : Nat} {zs : Str} (h : At w B b w' zs) : At w B b w'.drew zs :=
  ⟨by have := h.bd; exact this, h.bel.drew, by have := h.fb; exact this⟩
theorem infoByte5 : (Tryd.prog.info? 5).map (fun i => (i.zero, i.size, i.bytes)) = some (some (.int .u8 0), 1, 1) := by kernel_rfl
/-- A text is appended to bytes of one's own: the row is the old one, or a new one. -/
theorem run_appS (base : Nat) (w : World) (ty : TypeId) (v : Value) (n : Nat) (xs : List Value) (hown : w.ownsRowF base 5 1 v n xs) (s : ByteArray) (hlen : n + s.size ≤ 140737488355328) (hbase : base ≤ w.heap.size) :
    ∃ v' w', (Builtin.append_ #[69, 9] ty #[v, .string s]).run Tryd.prog w = .ok v' w' ∧ w'.ownsRowF base 5 1 v' (n + s.size) (xs ++ Lib.strCells s) ∧ w.grownBy w' v.ownBlock ∧ ∀ g, v'.ownBlock = some g → v.ownBlock = some g ∨ w.heap.size ≤ g := by
  obtain ⟨i0, hi, hz0, hz1, hz2⟩ := info_parts infoByte5
  have h63 : n + s.size ≤ maxLen := by unfold maxLen; omega
  obtain ⟨v', w', hr, ho, hg, -⟩ := Lib.run_append_own_stringF (P := Tryd.prog) (w := w) base 69 9 ty 5 i0 Tryd.underlying69 Tryd.underlying9 hi hz0 hz1 hz2 v n xs hown s h63 hlen hbase
  refine ⟨v', w', hr, ho, hg, ?_⟩
  rcases hown.2 with ⟨rfl, rfl⟩ | ⟨g, cap, cur, fz, rfl, hbg, hgo, hfz, hnc, hcm, hcs, htake⟩
  · obtain ⟨v2, w2, hr2, ho2, hg2, -⟩ := Lib.run_append_own_stringF (P := Tryd.prog) (w := w) w.heap.size 69 9 ty 5 i0 Tryd.underlying69 Tryd.underlying9 hi hz0 hz1 hz2 (.slice none 0 0) 0 xs ⟨hown.1, .inl ⟨rfl, rfl⟩⟩ s h63 hlen (Nat.le_refl _)
    rw [hr] at hr2
    obtain ⟨rfl, rfl⟩ := Result.ok.inj hr2
    exact fun g hgo => .inr (ho2.lt g hgo).1
  · by_cases hroom : n + s.size ≤ cap
    · have hr3 := Lib.run_append_room_stringF (P := Tryd.prog) w 69 9 ty 5 i0 Tryd.underlying69 Tryd.underlying9 hi hz1 g n cap cur fz hgo (by simpa using hfz) s hroom (by unfold maxLen at h63; omega)
      rw [hr] at hr3
      obtain ⟨rfl, -⟩ := Result.ok.inj hr3
      exact fun g' e => .inl (by simpa [Value.ownBlock] using e)
    · have hxl : xs.length = n := by simpa using hown.1
      have holds : ∀ j u, xs[j]? = some u → w.cell? ((⟨g, 0, none⟩ : Addr).add j) = some u := hown.cells (g := g) rfl
      have hr3 := Lib.run_append_grow_string (P := Tryd.prog) w 69 9 ty 5 i0 (.int .u8 0) Tryd.underlying69 Tryd.underlying9 hi hz0 ⟨g, 0, none⟩ n cap xs (by rw [hz1]; simpa using hxl) holds s (by omega) (by unfold maxLen at h63; omega) (by rw [hz2]; exact growslice_fits (by omega) (by omega))
      rw [hr] at hr3
      obtain ⟨rfl, -⟩ := Result.ok.inj hr3
      exact fun g' e => .inr (by simp [Value.ownBlock] at e; omega)
theorem wp_appS {ops : Array Oper} {rest : List Oper} {o : Oper} {a : Act} {Q : Exit → Act → World → Prop} {w : World} (hgd : o.guard = none) (sl x : Operand)
    (ho : o.op = .call { callee := .builtin .append, args := #[sl, x], argTypes := #[69, 9] }) (base : Nat) (v : Value) (n : Nat) (xs : List Value) (hs : a.eval sl = v) (hown : w.ownsRowF base 5 1 v n xs) (s : ByteArray) (hx : a.eval x = .string s)
    (hlen : n + s.size ≤ 140737488355328) (hbase : base ≤ w.heap.size)
    (h : ∀ v' w', w'.ownsRowF base 5 1 v' (n + s.size) (xs ++ Lib.strCells s) → w.grownBy w' v.ownBlock → (∀ g, v'.ownBlock = some g → v.ownBlock = some g ∨ w.heap.size ≤ g) → wpList Tryd.prog ops Q rest (a.put o.dst v') w') : wpList Tryd.prog ops Q (o :: rest) a w := by
  refine wpList_plain hgd fun K hK => ?_
  obtain ⟨v', w', hr, h2, h3, h4⟩ := run_appS base w o.type v n xs hown s hlen hbase
  unfold Oper.wp execOp
  simp only [ho, resolve, invoke, builtin, Sem.run_bind, Sem.run_pure, Result.andThen_ok, List.map_toArray, List.map_cons, List.map_nil, hs, hx, hr]
  exact hK _ _ (h v' w' h2 h3 h4)
/-- The builder's own cells change, and its row, or it has a new one. -/
theorem FB.of {b : Nat} {w w' : World} {p v p' v' : Value} {T T' : TypeId} {fz fz' : Nat × Nat} (h : w.heap[b]? = some (.cells #[p, v] T fz)) (h' : w'.heap[b]? = some (.cells #[p', v'] T' fz')) (hs : w.heap.size ≤ w'.heap.size)
    (hv : ∀ g, v'.ownBlock = some g → v.ownBlock = some g ∨ w.heap.size ≤ g) (hk : ∀ k, k < w.heap.size → k ≠ b → v.ownBlock ≠ some k → w'.heap[k]? = w.heap[k]?) : FB b w w' := by
  refine ⟨hs, fun k hlt ha => ⟨hk k hlt ha.1 (ha.2 p v T fz h), ha.1, fun p2 v2 T2 fz2 e e2 => ?_⟩⟩
  rw [h'] at e
  obtain ⟨e3, -⟩ := Obj.cells.inj (Option.some.inj e)
  obtain ⟨-, e4⟩ : p' = p2 ∧ v' = v2 := by simpa using e3
  subst e4
  rcases hv k e2 with e5 | e5
  · exact ha.2 p v T fz h e5
  · omega
theorem sizeB : ∃ j, Tryd.prog.info? 71 = some j ∧ j.size = 2 := Option.map_eq_some_iff.1 (by kernel_rfl : (Tryd.prog.info? 71).map (·.size) = some 2)
set_option maxHeartbeats 2000000 in
/-- copyCheck: behind it the builder bears its own address. -/
theorem copy_any (B b : Nat) (zs : Str) (w : World) (h : Bd w B b zs) :
    Calls Tryd.prog 48 #[.pointer (some ⟨b, 0, none⟩)] w fun e w' => e = .returned (.tuple #[]) ∧ ∃ v, B ≤ b ∧ w'.heap[b]? = some (.cells #[.pointer (some ⟨b, 0, none⟩), v] 71 (0, 0)) ∧ w'.ownsRowF B 5 1 v zs.length (Lib.byteCells zs) ∧ v.ownBlock ≠ some b ∧ Below B w w' ∧ FB b w w' := by
  rcases h with h | h
  · have h0 := h.cell0
    have hsh := h.shape
    have hfz := h.frozen0
    obtain ⟨j, hj, hjs⟩ := sizeB
    go_enter Tryd.func48, Tryd.ntmps48
    go_wp2
    rw [Lib.run_to_unsafe w ⟨b, 0, none⟩ Tryd.underlying68 Tryd.underlying96 hj (by rw [hjs]; decide) hsh (Nat.zero_lt_succ 1)]
    simp only [Result.andThen]
    rw [Oper.upon_value]
    go_wp2
    rw [run_callFunc_extern Tryd.func57 (by kernel_rfl) (by kernel_rfl) (by kernel_rfl) (e := Extern.AbiNoEscape.same) (by kernel_rfl)]
    rw [Lib.run_noEscape]
    simp only [Result.andThen]
    rw [Oper.upon_value]
    go_wp2
    rw [Lib.run_from_unsafe w ⟨b, 0, none⟩ Tryd.underlying96 Tryd.underlying68 hj hsh (by kernel_rfl)]
    simp only [Result.andThen]
    rw [Oper.upon_value]
    go_wp2
    go_end0
    obtain ⟨hB, v, hb, hown, hne⟩ := h.used (.pointer (some ⟨b, 0, none⟩))
    obtain ⟨-, v0, hb0, -, -⟩ := h
    refine ⟨rfl, v, hB, hb, by rw [Lib.byteCells_length] at hown; exact hown, hne, (Below.refl B w).setCell (p := ⟨b, 0, none⟩) hB _, FB.of hb0 hb (by simp [World.setCell]) ?_ ?_⟩
    · intro g hg
      have e : v0 = v := by simpa [World.setCell, Array.getElem?_modify, hb0] using hb
      exact .inl (by rw [e]; exact hg)
    · intro k _ hk _
      exact Below.heap_setCell _ _ _ _ hk
  · have h0 := h.cell0
    obtain ⟨j, hj, hjs⟩ := sizeB
    go_enter Tryd.func48, Tryd.ntmps48
    go_wp2
    rw [Lib.run_neq_ptr_same w _ Tryd.underlying68 hj]
    go_wp2
    go_end0
    obtain ⟨hB, v, hb, hown, hne⟩ := h
    exact ⟨rfl, v, hB, hb, by rw [Lib.byteCells_length] at hown; exact hown, hne, Below.refl _ _, FB.refl _ _⟩
theorem bytes_app (zs ys : Str) : Lib.byteCells zs ++ Lib.strCells (st ys) = Lib.byteCells (zs ++ ys) := by
  rw [Lib.strCells_eq, st_list]; simp [Lib.byteCells]
set_option maxHeartbeats 2000000 in
/-- WriteString. -/
theorem write_any (B b : Nat) (zs ys : Str) (w : World) (h : Bd w B b zs) (hlen : zs.length + ys.length ≤ 2000000000) (hBw : B ≤ w.heap.size) :
    Calls Tryd.prog 32 #[.pointer (some ⟨b, 0, none⟩), .string (st ys)] w fun e w' => (∃ v, e = .returned v) ∧ At w B b w' (zs ++ ys) := by
  go_enter Tryd.func32, Tryd.ntmps32
  go_wp2_with (go_at_call 48; refine (copy_any B b _ _ h).mono ?_)
  rintro e w1 ⟨rfl, v, hB, hbk, hown, hne, hb1, hk1⟩
  have c0 : w1.cell? ⟨b, 0, none⟩ = some (.pointer (some ⟨b, 0, none⟩)) := by rw [Lib.cell_of_heap hbk]; rfl
  have c1 : w1.cell? ⟨b, 1, none⟩ = some v := by rw [Lib.cell_of_heap hbk]; rfl
  have hsz := st_size ys
  go_wp2_with (at_builtin; refine wp_appS rfl _ _ rfl B _ _ _ rfl hown (st ys) rfl ?c4 ?c5 ?_)
  case c4 => omega
  case c5 => have := hb1.size; omega
  intro v' w2 hown' hgrow hnew
  have hlt : b < w1.heap.size := by
    rcases Nat.lt_or_ge b w1.heap.size with h' | h'
    · exact h'
    · simp [Array.getElem?_eq_none h'] at hbk
  have hb2 : w2.heap[b]? = some (.cells #[.pointer (some ⟨b, 0, none⟩), v] 71 (0, 0)) := by
    rw [hgrow.block b hlt (fun e => hne e.symm)]
    exact hbk
  have d0 : w2.cell? ⟨b, 0, none⟩ = some (.pointer (some ⟨b, 0, none⟩)) := by rw [Lib.cell_of_heap hb2]; rfl
  have d1 : w2.cell? ⟨b, 1, none⟩ = some v := by rw [Lib.cell_of_heap hb2]; rfl
  have f1 : w2.frozen? ⟨b, 1, none⟩ = false := Lib.frozen_of_heap hb2 1
  obtain ⟨ao, n', cap, rfl⟩ : ∃ ao n' cap, v' = .slice ao n' cap := by
    rcases hown'.2 with ⟨hv, _⟩ | ⟨g, cap, cur, fz, hv, _⟩
    · exact ⟨_, _, _, hv⟩
    · exact ⟨_, _, _, hv⟩
  go_wp2
  go_ret2
  have HP := Lib.BuilderAtF.put (T := 71) (e := 5) hB hb2 (bs' := Lib.byteCells (zs ++ ys)) (by rw [← bytes_app, List.length_append, Lib.byteCells_length, Lib.strCells_length]; exact hown') (by decide)
  obtain ⟨-, v3, hb3, -, -⟩ := id HP
  have e3 : v3 = .slice ao n' cap := by
    have := hb3
    simp [World.setCell, Array.getElem?_modify, hb2] at this
    exact this.symm
  refine ⟨⟨_, rfl⟩, .inr HP, (hb1.grown hgrow (by have := hb1.size; omega) (fun k hk => (hown.lt k hk).1)).setCell (p := ⟨b, 1, none⟩) hB _, hk1.trans (FB.of hbk hb3 (by simpa [World.setCell] using hgrow.size) (by rw [e3]; exact hnew) fun k hk hkb hkv => ?_)⟩
  refine (Below.heap_setCell _ _ _ _ hkb).trans (hgrow.block k hk (fun e => hkv e.symm))
end Go.Proofs.YtbbjhiijialfoaaDoor
