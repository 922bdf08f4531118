import Derived.Test.YtemacdimdpnkeaaDoorT9
import Derived.Test.YtemacdimdpnkeaaDoorT2
import Derived.Test.YtemacdimdpnkeaaDoorT10
import Derived.Test.YtemacdimdpnkeaaDoorProg
import Derived.Shelf.Strings.BuilderK
import Derived.Shelf.Abstract
namespace Go.Proofs.YtemacdimdpnkeaaDoor
open Go.RowKit
set_option linter.unusedVariables false
set_option linter.unusedSimpArgs false
set_option maxRecDepth 20000
def Bd (w : World) (B b : Nat) (zs : Str) : Prop := Lib.IsBuilderF 83 5 B b (Lib.byteCells zs) w
def Apart (w : World) (b k : Nat) : Prop := k ≠ b ∧ ∀ p v T fz, w.heap[b]? = some (.cells #[p, v] T fz) → v.ownBlock ≠ some k
def FB (b : Nat) (w w' : World) : Prop := w.heap.size ≤ w'.heap.size ∧ ∀ k, k < w.heap.size → Apart w b k → w'.heap[k]? = w.heap[k]? ∧ Apart w' b k
theorem FB.refl (b : Nat) (w : World) : FB b w w := ⟨Nat.le_refl _, fun k _ h => ⟨rfl, h⟩⟩
theorem FB.trans {b : Nat} {w1 w2 w3 : World} (h : FB b w1 w2) (k : FB b w2 w3) : FB b w1 w3 :=
  ⟨Nat.le_trans h.1 k.1, fun j hj ha => by
    obtain ⟨e1, a1⟩ := h.2 j hj ha
    obtain ⟨e2, a2⟩ := k.2 j (Nat.lt_of_lt_of_le hj h.1) a1
    exact ⟨e2.trans e1, a2⟩⟩
theorem Bd.get {w : World} {B b : Nat} {zs : Str} (h : Bd w B b zs) : ∃ p v, B ≤ b ∧ w.heap[b]? = some (.cells #[p, v] 83 (0, 0)) ∧ w.ownsRowF B 5 1 v zs.length (Lib.byteCells zs) ∧ v.ownBlock ≠ some b := by
  rcases h with ⟨h1, v, h2, h3, h4⟩ | ⟨h1, v, h2, h3, h4⟩
  · exact ⟨_, v, h1, h2, by rw [Lib.byteCells_length] at h3; exact h3, h4⟩
  · exact ⟨_, v, h1, h2, by rw [Lib.byteCells_length] at h3; exact h3, h4⟩
theorem Bd.lt {w : World} {B b : Nat} {zs : Str} (h : Bd w B b zs) : b < w.heap.size := by
  obtain ⟨p, v, h1, h2, h3, h4⟩ := h.get
  rcases Nat.lt_or_ge b w.heap.size with h' | h'
  · exact h'
  · simp [Array.getElem?_eq_none h'] at h2
theorem Bd.le {w : World} {B b : Nat} {zs : Str} (h : Bd w B b zs) : B ≤ b := by
  obtain ⟨p, v, h1, h2, h3, h4⟩ := h.get
  exact h1
theorem Bd.apart {w : World} {B b k : Nat} {zs : Str} (h : Bd w B b zs) (hk : k < B) : Apart w b k := by
  obtain ⟨p, v, h1, h2, h3, h4⟩ := h.get
  refine ⟨by omega, fun p' v' T fz e e2 => ?_⟩
  rw [h2] at e
  obtain ⟨e3, -⟩ := Obj.cells.inj (Option.some.inj e)
  obtain ⟨-, e4⟩ : p = p' ∧ v = v' := by simpa using e3
  subst e4
  have := (h3.lt k e2).1
  omega
theorem Bd.new {w : World} {B b k : Nat} {zs : Str} (h : Bd w B b zs) (hk : w.heap.size ≤ k) : Apart w b k := by
  obtain ⟨p, v, h1, h2, h3, h4⟩ := h.get
  have hb := h.lt
  refine ⟨by omega, fun p' v' T fz e e2 => ?_⟩
  rw [h2] at e
  obtain ⟨e3, -⟩ := Obj.cells.inj (Option.some.inj e)
  obtain ⟨-, e4⟩ : p = p' ∧ v = v' := by simpa using e3
  subst e4
  have := (h3.lt k e2).2
  omega
theorem alloc_heap_lt (w : World) (o : Obj) {k : Nat} (h : k < w.heap.size) : (w.alloc o).heap[k]? = w.heap[k]? := Lib.alloc_old w o k h
theorem Apart.alloc {w : World} {b k : Nat} (hb : b < w.heap.size) (h : Apart w b k) (o : Obj) : Apart (w.alloc o) b k :=
  ⟨h.1, fun p v T fz e => h.2 p v T fz (by rw [← e, alloc_heap_lt w o hb])⟩
theorem FB.alloc {b : Nat} {w w' : World} (hb : b < w'.heap.size) (h : FB b w w') (o : Obj) : FB b w (w'.alloc o) :=
  ⟨by have := h.1; simp; omega, fun k hk ha => by
    obtain ⟨e1, a1⟩ := h.2 k hk ha
    exact ⟨(alloc_heap_lt w' o (Nat.lt_of_lt_of_le hk h.1)).trans e1, a1.alloc hb o⟩⟩
theorem Bd.alloc {w : World} {B b : Nat} {zs : Str} (h : Bd w B b zs) (o : Obj) : Bd (w.alloc o) B b zs := Lib.IsBuilderF.alloc h o
structure At (w : World) (B b : Nat) (w' : World) (zs : Str) : Prop where
  bd : Bd w' B b zs
  bel : Below B w w'
  fb : FB b w w'
theorem At.refl {w : World} {B b : Nat} {zs : Str} (h : Bd w B b zs) : At w B b w zs := ⟨h, Below.refl _ _, FB.refl _ _⟩
theorem At.trans {w1 w2 w3 : World} {B b : Nat} {zs ys : Str} (h : At w1 B b w2 zs) (k : At w2 B b w3 ys) : At w1 B b w3 ys := ⟨k.bd, h.bel.trans k.bel, h.fb.trans k.fb⟩
theorem At.alloc {w w' : World} {B b : Nat} {zs : Str} (h : At w B b w' zs) (o : Obj) : At w B b (w'.alloc o) zs :=
  ⟨h.bd.alloc o, h.bel.alloc (by have := h.bd.le; have := h.bd.lt; omega) o, h.fb.alloc h.bd.lt o⟩
theorem At.drew {w w' : World} {B b : Nat} {zs : Str} (h : At w B b w' zs) : At w B b w'.drew zs :=
  ⟨by have := h.bd; exact this, h.bel.drew, by have := h.fb; exact this⟩
theorem infoByte5 : (Tryd.prog.info? 5).map (fun i => (i.zero, i.size, i.bytes)) = some (some (.int .u8 0), 1, 1) := by kernel_rfl
theorem run_appS (base : Nat) (w : World) (ty : TypeId) (v : Value) (n : Nat) (xs : List Value) (hown : w.ownsRowF base 5 1 v n xs) (s : ByteArray) (hlen : n + s.size ≤ 140737488355328) (hbase : base ≤ w.heap.size) :
    ∃ v' w', (Builtin.append_ #[81, 9] ty #[v, .string s]).run Tryd.prog w = .ok v' w' ∧ w'.ownsRowF base 5 1 v' (n + s.size) (xs ++ Lib.strCells s) ∧ w.grownBy w' v.ownBlock ∧ ∀ g, v'.ownBlock = some g → v.ownBlock = some g ∨ w.heap.size ≤ g := by
  obtain ⟨i0, hi, hz0, hz1, hz2⟩ := info_parts infoByte5
  have h63 : n + s.size ≤ maxLen := by unfold maxLen; omega
  obtain ⟨v', w', hr, ho, hg, -⟩ := Lib.run_append_own_stringF (P := Tryd.prog) (w := w) base 81 9 ty 5 i0 Tryd.underlying81 Tryd.underlying9 hi hz0 hz1 hz2 v n xs hown s h63 hlen hbase
  refine ⟨v', w', hr, ho, hg, ?_⟩
  rcases hown.2 with ⟨rfl, rfl⟩ | ⟨g, cap, cur, fz, rfl, hbg, hgo, hfz, hnc, hcm, hcs, htake⟩
  · obtain ⟨v2, w2, hr2, ho2, hg2, -⟩ := Lib.run_append_own_stringF (P := Tryd.prog) (w := w) w.heap.size 81 9 ty 5 i0 Tryd.underlying81 Tryd.underlying9 hi hz0 hz1 hz2 (.slice none 0 0) 0 xs ⟨hown.1, .inl ⟨rfl, rfl⟩⟩ s h63 hlen (Nat.le_refl _)
    rw [hr] at hr2
    obtain ⟨rfl, rfl⟩ := Result.ok.inj hr2
    exact fun g hgo => .inr (ho2.lt g hgo).1
  · by_cases hroom : n + s.size ≤ cap
    · have hr3 := Lib.run_append_room_stringF (P := Tryd.prog) w 81 9 ty 5 i0 Tryd.underlying81 Tryd.underlying9 hi hz1 g n cap cur fz hgo (by simpa using hfz) s hroom (by unfold maxLen at h63; omega)
      rw [hr] at hr3
      obtain ⟨rfl, -⟩ := Result.ok.inj hr3
      exact fun g' e => .inl (by simpa [Value.ownBlock] using e)
    · have hxl : xs.length = n := by simpa using hown.1
      have holds : ∀ j u, xs[j]? = some u → w.cell? ((⟨g, 0, none⟩ : Addr).add j) = some u := hown.cells (g := g) rfl
      have hr3 := Lib.run_append_grow_string (P := Tryd.prog) w 81 9 ty 5 i0 (.int .u8 0) Tryd.underlying81 Tryd.underlying9 hi hz0 ⟨g, 0, none⟩ n cap xs (by rw [hz1]; simpa using hxl) holds s (by omega) (by unfold maxLen at h63; omega) (by rw [hz2]; exact growslice_fits (by omega) (by omega))
      rw [hr] at hr3
      obtain ⟨rfl, -⟩ := Result.ok.inj hr3
      exact fun g' e => .inr (by simp [Value.ownBlock] at e; omega)
theorem wp_appS {ops : Array Oper} {rest : List Oper} {o : Oper} {a : Act} {Q : Exit → Act → World → Prop} {w : World} (hgd : o.guard = none) (sl x : Operand)
    (ho : o.op = .call { callee := .builtin .append, args := #[sl, x], argTypes := #[81, 9] }) (base : Nat) (v : Value) (n : Nat) (xs : List Value) (hs : a.eval sl = v) (hown : w.ownsRowF base 5 1 v n xs) (s : ByteArray) (hx : a.eval x = .string s)
    (hlen : n + s.size ≤ 140737488355328) (hbase : base ≤ w.heap.size)
    (h : ∀ v' w', w'.ownsRowF base 5 1 v' (n + s.size) (xs ++ Lib.strCells s) → w.grownBy w' v.ownBlock → (∀ g, v'.ownBlock = some g → v.ownBlock = some g ∨ w.heap.size ≤ g) → wpList Tryd.prog ops Q rest (a.put o.dst v') w') : wpList Tryd.prog ops Q (o :: rest) a w := by
  refine wpList_plain hgd fun K hK => ?_
  obtain ⟨v', w', hr, h2, h3, h4⟩ := run_appS base w o.type v n xs hown s hlen hbase
  unfold Oper.wp execOp
  simp only [ho, resolve, invoke, builtin, Sem.run_bind, Sem.run_pure, Result.andThen_ok, List.map_toArray, List.map_cons, List.map_nil, hs, hx, hr]
  exact hK _ _ (h v' w' h2 h3 h4)
theorem FB.of {b : Nat} {w w' : World} {p v p' v' : Value} {T T' : TypeId} {fz fz' : Nat × Nat} (h : w.heap[b]? = some (.cells #[p, v] T fz)) (h' : w'.heap[b]? = some (.cells #[p', v'] T' fz')) (hs : w.heap.size ≤ w'.heap.size)
    (hv : ∀ g, v'.ownBlock = some g → v.ownBlock = some g ∨ w.heap.size ≤ g) (hk : ∀ k, k < w.heap.size → k ≠ b → v.ownBlock ≠ some k → w'.heap[k]? = w.heap[k]?) : FB b w w' := by
  refine ⟨hs, fun k hlt ha => ⟨hk k hlt ha.1 (ha.2 p v T fz h), ha.1, fun p2 v2 T2 fz2 e e2 => ?_⟩⟩
  rw [h'] at e
  obtain ⟨e3, -⟩ := Obj.cells.inj (Option.some.inj e)
  obtain ⟨-, e4⟩ : p' = p2 ∧ v' = v2 := by simpa using e3
  subst e4
  rcases hv k e2 with e5 | e5
  · exact ha.2 p v T fz h e5
  · omega
theorem sizeB : ∃ j, Tryd.prog.info? 83 = some j ∧ j.size = 2 := Option.map_eq_some_iff.1 (by kernel_rfl : (Tryd.prog.info? 83).map (·.size) = some 2)
set_option maxHeartbeats 2000000 in
theorem copy_any (B b : Nat) (zs : Str) (w : World) (h : Bd w B b zs) :
    Calls Tryd.prog 67 #[.pointer (some ⟨b, 0, none⟩)] w fun e w' => e = .returned (.tuple #[]) ∧ ∃ v, B ≤ b ∧ w'.heap[b]? = some (.cells #[.pointer (some ⟨b, 0, none⟩), v] 83 (0, 0)) ∧ w'.ownsRowF B 5 1 v zs.length (Lib.byteCells zs) ∧ v.ownBlock ≠ some b ∧ Below B w w' ∧ FB b w w' := by
  rcases h with h | h
  · have h0 := h.cell0
    have hsh := h.shape
    have hfz := h.frozen0
    obtain ⟨j, hj, hjs⟩ := sizeB
    go_enter Tryd.func67, Tryd.ntmps67
    go_wp2
    rw [Lib.run_to_unsafe w ⟨b, 0, none⟩ Tryd.underlying80 Tryd.underlying117 hj (by rw [hjs]; decide) hsh (Nat.zero_lt_succ 1)]
    simp only [Result.andThen]
    rw [Oper.upon_value]
    go_wp2
    rw [run_callFunc_extern Tryd.func76 (by kernel_rfl) (by kernel_rfl) (by kernel_rfl) (e := Extern.AbiNoEscape.same) (by kernel_rfl)]
    rw [Lib.run_noEscape]
    simp only [Result.andThen]
    rw [Oper.upon_value]
    go_wp2
    rw [Lib.run_from_unsafe w ⟨b, 0, none⟩ Tryd.underlying117 Tryd.underlying80 hj hsh (by kernel_rfl)]
    simp only [Result.andThen]
    rw [Oper.upon_value]
    go_wp2
    go_end0
    obtain ⟨hB, v, hb, hown, hne⟩ := h.used (.pointer (some ⟨b, 0, none⟩))
    obtain ⟨-, v0, hb0, -, -⟩ := h
    refine ⟨rfl, v, hB, hb, by rw [Lib.byteCells_length] at hown; exact hown, hne, (Below.refl B w).setCell (p := ⟨b, 0, none⟩) hB _, FB.of hb0 hb (by simp [World.setCell]) ?_ ?_⟩
    · intro g hg
      have e : v0 = v := by simpa [World.setCell, Array.getElem?_modify, hb0] using hb
      exact .inl (by rw [e]; exact hg)
    · intro k _ hk _
      exact Below.heap_setCell _ _ _ _ hk
  · have h0 := h.cell0
    obtain ⟨j, hj, hjs⟩ := sizeB
    go_enter Tryd.func67, Tryd.ntmps67
    go_wp2
    rw [Lib.run_neq_ptr_same w _ Tryd.underlying80 hj]
    go_wp2
    go_end0
    obtain ⟨hB, v, hb, hown, hne⟩ := h
    exact ⟨rfl, v, hB, hb, by rw [Lib.byteCells_length] at hown; exact hown, hne, Below.refl _ _, FB.refl _ _⟩
theorem bytes_app (zs ys : Str) : Lib.byteCells zs ++ Lib.strCells (st ys) = Lib.byteCells (zs ++ ys) := by
  rw [Lib.strCells_eq, st_list]; simp [Lib.byteCells]
set_option maxHeartbeats 2000000 in
theorem write_any (B b : Nat) (zs ys : Str) (w : World) (h : Bd w B b zs) (hlen : zs.length + ys.length ≤ 2000000000) (hBw : B ≤ w.heap.size) :
    Calls Tryd.prog 39 #[.pointer (some ⟨b, 0, none⟩), .string (st ys)] w fun e w' => (∃ v, e = .returned v) ∧ At w B b w' (zs ++ ys) := by
  go_enter Tryd.func39, Tryd.ntmps39
  go_wp2_with (go_at_call 67; refine (copy_any B b _ _ h).mono ?_)
  rintro e w1 ⟨rfl, v, hB, hbk, hown, hne, hb1, hk1⟩
  have c0 : w1.cell? ⟨b, 0, none⟩ = some (.pointer (some ⟨b, 0, none⟩)) := by rw [Lib.cell_of_heap hbk]; rfl
  have c1 : w1.cell? ⟨b, 1, none⟩ = some v := by rw [Lib.cell_of_heap hbk]; rfl
  have hsz := st_size ys
  go_wp2_with (at_builtin; refine wp_appS rfl _ _ rfl B _ _ _ rfl hown (st ys) rfl ?c4 ?c5 ?_)
  case c4 => omega
  case c5 => have := hb1.size; omega
  intro v' w2 hown' hgrow hnew
  have hlt : b < w1.heap.size := by
    rcases Nat.lt_or_ge b w1.heap.size with h' | h'
    · exact h'
    · simp [Array.getElem?_eq_none h'] at hbk
  have hb2 : w2.heap[b]? = some (.cells #[.pointer (some ⟨b, 0, none⟩), v] 83 (0, 0)) := by
    rw [hgrow.block b hlt (fun e => hne e.symm)]
    exact hbk
  have d0 : w2.cell? ⟨b, 0, none⟩ = some (.pointer (some ⟨b, 0, none⟩)) := by rw [Lib.cell_of_heap hb2]; rfl
  have d1 : w2.cell? ⟨b, 1, none⟩ = some v := by rw [Lib.cell_of_heap hb2]; rfl
  have f1 : w2.frozen? ⟨b, 1, none⟩ = false := Lib.frozen_of_heap hb2 1
  obtain ⟨ao, n', cap, rfl⟩ : ∃ ao n' cap, v' = .slice ao n' cap := by
    rcases hown'.2 with ⟨hv, _⟩ | ⟨g, cap, cur, fz, hv, _⟩
    · exact ⟨_, _, _, hv⟩
    · exact ⟨_, _, _, hv⟩
  go_wp2
  go_ret2
  have HP := Lib.BuilderAtF.put (T := 83) (e := 5) hB hb2 (bs' := Lib.byteCells (zs ++ ys)) (by rw [← bytes_app, List.length_append, Lib.byteCells_length, Lib.strCells_length]; exact hown') (by decide)
  obtain ⟨-, v3, hb3, -, -⟩ := id HP
  have e3 : v3 = .slice ao n' cap := by
    have := hb3
    simp [World.setCell, Array.getElem?_modify, hb2] at this
    exact this.symm
  refine ⟨⟨_, rfl⟩, .inr HP, (hb1.grown hgrow (by have := hb1.size; omega) (fun k hk => (hown.lt k hk).1)).setCell (p := ⟨b, 1, none⟩) hB _, hk1.trans (FB.of hbk hb3 (by simpa [World.setCell] using hgrow.size) (by rw [e3]; exact hnew) fun k hk hkb hkv => ?_)⟩
  refine (Below.heap_setCell _ _ _ _ hkb).trans (hgrow.block k hk (fun e => hkv e.symm))
end Go.Proofs.YtemacdimdpnkeaaDoor
namespace Go.Proofs.YtemacdimdpnkeaaDoor
open Go.RowKit
set_option linter.unusedVariables false
set_option linter.unusedSimpArgs false
set_option maxRecDepth 20000
def pv (K b : Nat) : Value := .func (.func K) #[] #[.pointer (some ⟨b, 0, none⟩)]
def PutC (K : Nat) : Prop := Enters Tryd.prog K ∧ ∀ (w : World) (B b : Nat) (zs : Str) (v : Value) (ss : List Str), Bd w B b zs → B ≤ w.heap.size → SlW 1 w (Apart w b) v (ss.map clS) → zs.length + ss.flatten.length ≤ 2000000000 →
  Calls Tryd.prog K #[v, .pointer (some ⟨b, 0, none⟩)] w fun e w' => e = .returned (.tuple #[]) ∧ At w B b w' (zs ++ ss.flatten)
theorem flat_take (ss : List Str) {i : Nat} (h : i < ss.length) : (ss.take (i + 1)).flatten = (ss.take i).flatten ++ ss.getD i [] := by
  rw [List.take_succ_eq_append_getElem h, List.flatten_append, List.getD_eq_getElem?_getD, List.getElem?_eq_getElem h]
  simp
theorem flat_le (ss : List Str) (i : Nat) : (ss.take i).flatten.length ≤ ss.flatten.length := by
  conv => rhs; rw [← List.take_append_drop i ss, List.flatten_append, List.length_append]
  omega
theorem FB.cell {b : Nat} {w w' : World} (h : FB b w w') {k off : Nat} {v : Value} (hk : k < w.heap.size) (ha : Apart w b k) (hc : w.cell? ⟨k, off, none⟩ = some v) : w'.cell? ⟨k, off, none⟩ = some v := by
  have := (h.2 k hk ha).1
  rw [← hc]; simp [World.cell?, this]
set_option maxHeartbeats 4000000 in
theorem put38 : PutC 38 := by
  refine ⟨enters_of Tryd.func38 (by kernel_rfl) rfl, ?_⟩
  intro w B b zs v ss hb hB hs hlen
  obtain ⟨a, c, rfl⟩ := hs.shape
  obtain ⟨-, l1, m1, r1⟩ := hs.row
  simp only [List.length_map] at *
  have R1 : Hid (∀ i, i < ss.length → ∃ k off, a = some ⟨k, off, none⟩ ∧ k < w.heap.size ∧ Apart w b k ∧ w.cell? ⟨k, off + i, none⟩ = some (.string (st (ss.getD i [])))) := by
    intro i hi
    obtain ⟨a', cap', h1, h2, h3, h4⟩ := hs
    obtain ⟨rfl, -, -⟩ := Value.slice.inj h1
    rcases h4 with h4 | ⟨k, off, e, hk, hp, hc⟩
    · simp at h4; subst h4; simp at hi
    · refine ⟨k, off, e, hk, hp, ?_⟩
      have := hc i 0 (by simpa using hi) (by decide)
      rw [getD_map clS ss i [] hi] at this
      simpa [clS] using this
  have HL : Hid (zs.length + ss.flatten.length ≤ 2000000000) := hlen
  have HB : Hid (Bd w B b zs) := hb
  clear hs r1 hlen hb
  have hnn : (ss.length : Int) ≤ 9223372036854775807 := by omega
  go_enter Tryd.func38, Tryd.ntmps38
  go_wp2
  go_loopw [7] (fun v wr => ∃ i : Nat, v = .int .i64 i ∧ i ≤ ss.length ∧ At w B b wr (zs ++ (ss.take i).flatten)) (fun v _ => (ss.length - intOf v).toNat)
  case atStart => exact ⟨0, rfl, Nat.zero_le _, by rw [List.take_zero]; simpa using At.refl HB.out⟩
  case round =>
    obtain ⟨i, rfl, hi, hat⟩ := hrel
    have HA : Hid (At w B b wr (zs ++ (ss.take i).flatten)) := hat
    have hsz := hat.bel.size
    by_cases hlt : i < ss.length
    · have hiz : (i : Int) < ss.length := by omega
      obtain ⟨k, off, rfl, hk, hap, hc⟩ := R1.out i hlt
      have hc' := hat.fb.cell hk hap hc
      obtain ⟨y, hy⟩ : ∃ y, y = ss.getD i [] := ⟨_, rfl⟩
      obtain ⟨z, hz⟩ : ∃ z, z = zs ++ (ss.take i).flatten := ⟨_, rfl⟩
      rw [← hy] at hc'
      rw [← hz] at hat
      have CW := write_any B b z y wr hat.bd (by
        have h1 := HL.out
        have h2 := flat_le ss (i + 1)
        rw [flat_take ss hlt, List.length_append] at h2
        rw [hz, hy, List.length_append]; omega) (Nat.le_trans hB hsz)
      have HY : Hid (y = ss.getD i []) := hy
      have HZ : Hid (z = zs ++ (ss.take i).flatten) := hz
      clear hat hc hy hz
      go_wp2_with (go_at_call 39; refine CW.mono ?_; rintro e w1 ⟨⟨ve, rfl⟩, hw1⟩; have H1 : Hid (At wr B b w1 (z ++ y)) := hw1; clear hw1 CW)
      go_roundw
      case rel => exact ⟨i + 1, by simp, by omega, by rw [flat_take ss hlt, ← List.append_assoc, ← HY.out, ← HZ.out]; exact HA.out.trans H1.out⟩
      case measure => simp [intOf]; omega
    · have hiz : ¬ (i : Int) < ss.length := by omega
      obtain rfl : i = ss.length := by omega
      go_wp2
      go_end0
      exact ⟨rfl, by have := HA.out; rw [List.take_length] at this; exact this⟩
set_option maxHeartbeats 4000000 in
theorem put48 : PutC 48 := by
  refine ⟨enters_of Tryd.func48 (by kernel_rfl) rfl, ?_⟩
  intro w B b zs v ss hb hB hs hlen
  obtain ⟨a, c, rfl⟩ := hs.shape
  obtain ⟨-, l1, m1, r1⟩ := hs.row
  simp only [List.length_map] at *
  have R1 : Hid (∀ i, i < ss.length → ∃ k off, a = some ⟨k, off, none⟩ ∧ k < w.heap.size ∧ Apart w b k ∧ w.cell? ⟨k, off + i, none⟩ = some (.string (st (ss.getD i [])))) := by
    intro i hi
    obtain ⟨a', cap', h1, h2, h3, h4⟩ := hs
    obtain ⟨rfl, -, -⟩ := Value.slice.inj h1
    rcases h4 with h4 | ⟨k, off, e, hk, hp, hc⟩
    · simp at h4; subst h4; simp at hi
    · refine ⟨k, off, e, hk, hp, ?_⟩
      have := hc i 0 (by simpa using hi) (by decide)
      rw [getD_map clS ss i [] hi] at this
      simpa [clS] using this
  have HL : Hid (zs.length + ss.flatten.length ≤ 2000000000) := hlen
  have HB : Hid (Bd w B b zs) := hb
  clear hs r1 hlen hb
  have hnn : (ss.length : Int) ≤ 9223372036854775807 := by omega
  go_enter Tryd.func48, Tryd.ntmps48
  go_wp2
  go_loopw [7] (fun v wr => ∃ i : Nat, v = .int .i64 i ∧ i ≤ ss.length ∧ At w B b wr (zs ++ (ss.take i).flatten)) (fun v _ => (ss.length - intOf v).toNat)
  case atStart => exact ⟨0, rfl, Nat.zero_le _, by rw [List.take_zero]; simpa using At.refl HB.out⟩
  case round =>
    obtain ⟨i, rfl, hi, hat⟩ := hrel
    have HA : Hid (At w B b wr (zs ++ (ss.take i).flatten)) := hat
    have hsz := hat.bel.size
    by_cases hlt : i < ss.length
    · have hiz : (i : Int) < ss.length := by omega
      obtain ⟨k, off, rfl, hk, hap, hc⟩ := R1.out i hlt
      have hc' := hat.fb.cell hk hap hc
      obtain ⟨y, hy⟩ : ∃ y, y = ss.getD i [] := ⟨_, rfl⟩
      obtain ⟨z, hz⟩ : ∃ z, z = zs ++ (ss.take i).flatten := ⟨_, rfl⟩
      rw [← hy] at hc'
      rw [← hz] at hat
      have CW := write_any B b z y wr hat.bd (by
        have h1 := HL.out
        have h2 := flat_le ss (i + 1)
        rw [flat_take ss hlt, List.length_append] at h2
        rw [hz, hy, List.length_append]; omega) (Nat.le_trans hB hsz)
      have HY : Hid (y = ss.getD i []) := hy
      have HZ : Hid (z = zs ++ (ss.take i).flatten) := hz
      clear hat hc hy hz
      go_wp2_with (go_at_call 39; refine CW.mono ?_; rintro e w1 ⟨⟨ve, rfl⟩, hw1⟩; have H1 : Hid (At wr B b w1 (z ++ y)) := hw1; clear hw1 CW)
      go_roundw
      case rel => exact ⟨i + 1, by simp, by omega, by rw [flat_take ss hlt, ← List.append_assoc, ← HY.out, ← HZ.out]; exact HA.out.trans H1.out⟩
      case measure => simp [intOf]; omega
    · have hiz : ¬ (i : Int) < ss.length := by omega
      obtain rfl : i = ss.length := by omega
      go_wp2
      go_end0
      exact ⟨rfl, by have := HA.out; rw [List.take_length] at this; exact this⟩
set_option maxHeartbeats 4000000 in
theorem put51 : PutC 51 := by
  refine ⟨enters_of Tryd.func51 (by kernel_rfl) rfl, ?_⟩
  intro w B b zs v ss hb hB hs hlen
  obtain ⟨a, c, rfl⟩ := hs.shape
  obtain ⟨-, l1, m1, r1⟩ := hs.row
  simp only [List.length_map] at *
  have R1 : Hid (∀ i, i < ss.length → ∃ k off, a = some ⟨k, off, none⟩ ∧ k < w.heap.size ∧ Apart w b k ∧ w.cell? ⟨k, off + i, none⟩ = some (.string (st (ss.getD i [])))) := by
    intro i hi
    obtain ⟨a', cap', h1, h2, h3, h4⟩ := hs
    obtain ⟨rfl, -, -⟩ := Value.slice.inj h1
    rcases h4 with h4 | ⟨k, off, e, hk, hp, hc⟩
    · simp at h4; subst h4; simp at hi
    · refine ⟨k, off, e, hk, hp, ?_⟩
      have := hc i 0 (by simpa using hi) (by decide)
      rw [getD_map clS ss i [] hi] at this
      simpa [clS] using this
  have HL : Hid (zs.length + ss.flatten.length ≤ 2000000000) := hlen
  have HB : Hid (Bd w B b zs) := hb
  clear hs r1 hlen hb
  have hnn : (ss.length : Int) ≤ 9223372036854775807 := by omega
  go_enter Tryd.func51, Tryd.ntmps51
  go_wp2
  go_loopw [7] (fun v wr => ∃ i : Nat, v = .int .i64 i ∧ i ≤ ss.length ∧ At w B b wr (zs ++ (ss.take i).flatten)) (fun v _ => (ss.length - intOf v).toNat)
  case atStart => exact ⟨0, rfl, Nat.zero_le _, by rw [List.take_zero]; simpa using At.refl HB.out⟩
  case round =>
    obtain ⟨i, rfl, hi, hat⟩ := hrel
    have HA : Hid (At w B b wr (zs ++ (ss.take i).flatten)) := hat
    have hsz := hat.bel.size
    by_cases hlt : i < ss.length
    · have hiz : (i : Int) < ss.length := by omega
      obtain ⟨k, off, rfl, hk, hap, hc⟩ := R1.out i hlt
      have hc' := hat.fb.cell hk hap hc
      obtain ⟨y, hy⟩ : ∃ y, y = ss.getD i [] := ⟨_, rfl⟩
      obtain ⟨z, hz⟩ : ∃ z, z = zs ++ (ss.take i).flatten := ⟨_, rfl⟩
      rw [← hy] at hc'
      rw [← hz] at hat
      have CW := write_any B b z y wr hat.bd (by
        have h1 := HL.out
        have h2 := flat_le ss (i + 1)
        rw [flat_take ss hlt, List.length_append] at h2
        rw [hz, hy, List.length_append]; omega) (Nat.le_trans hB hsz)
      have HY : Hid (y = ss.getD i []) := hy
      have HZ : Hid (z = zs ++ (ss.take i).flatten) := hz
      clear hat hc hy hz
      go_wp2_with (go_at_call 39; refine CW.mono ?_; rintro e w1 ⟨⟨ve, rfl⟩, hw1⟩; have H1 : Hid (At wr B b w1 (z ++ y)) := hw1; clear hw1 CW)
      go_roundw
      case rel => exact ⟨i + 1, by simp, by omega, by rw [flat_take ss hlt, ← List.append_assoc, ← HY.out, ← HZ.out]; exact HA.out.trans H1.out⟩
      case measure => simp [intOf]; omega
    · have hiz : ¬ (i : Int) < ss.length := by omega
      obtain rfl : i = ss.length := by omega
      go_wp2
      go_end0
      exact ⟨rfl, by have := HA.out; rw [List.take_length] at this; exact this⟩
set_option maxHeartbeats 4000000 in
theorem put53 : PutC 53 := by
  refine ⟨enters_of Tryd.func53 (by kernel_rfl) rfl, ?_⟩
  intro w B b zs v ss hb hB hs hlen
  obtain ⟨a, c, rfl⟩ := hs.shape
  obtain ⟨-, l1, m1, r1⟩ := hs.row
  simp only [List.length_map] at *
  have R1 : Hid (∀ i, i < ss.length → ∃ k off, a = some ⟨k, off, none⟩ ∧ k < w.heap.size ∧ Apart w b k ∧ w.cell? ⟨k, off + i, none⟩ = some (.string (st (ss.getD i [])))) := by
    intro i hi
    obtain ⟨a', cap', h1, h2, h3, h4⟩ := hs
    obtain ⟨rfl, -, -⟩ := Value.slice.inj h1
    rcases h4 with h4 | ⟨k, off, e, hk, hp, hc⟩
    · simp at h4; subst h4; simp at hi
    · refine ⟨k, off, e, hk, hp, ?_⟩
      have := hc i 0 (by simpa using hi) (by decide)
      rw [getD_map clS ss i [] hi] at this
      simpa [clS] using this
  have HL : Hid (zs.length + ss.flatten.length ≤ 2000000000) := hlen
  have HB : Hid (Bd w B b zs) := hb
  clear hs r1 hlen hb
  have hnn : (ss.length : Int) ≤ 9223372036854775807 := by omega
  go_enter Tryd.func53, Tryd.ntmps53
  go_wp2
  go_loopw [7] (fun v wr => ∃ i : Nat, v = .int .i64 i ∧ i ≤ ss.length ∧ At w B b wr (zs ++ (ss.take i).flatten)) (fun v _ => (ss.length - intOf v).toNat)
  case atStart => exact ⟨0, rfl, Nat.zero_le _, by rw [List.take_zero]; simpa using At.refl HB.out⟩
  case round =>
    obtain ⟨i, rfl, hi, hat⟩ := hrel
    have HA : Hid (At w B b wr (zs ++ (ss.take i).flatten)) := hat
    have hsz := hat.bel.size
    by_cases hlt : i < ss.length
    · have hiz : (i : Int) < ss.length := by omega
      obtain ⟨k, off, rfl, hk, hap, hc⟩ := R1.out i hlt
      have hc' := hat.fb.cell hk hap hc
      obtain ⟨y, hy⟩ : ∃ y, y = ss.getD i [] := ⟨_, rfl⟩
      obtain ⟨z, hz⟩ : ∃ z, z = zs ++ (ss.take i).flatten := ⟨_, rfl⟩
      rw [← hy] at hc'
      rw [← hz] at hat
      have CW := write_any B b z y wr hat.bd (by
        have h1 := HL.out
        have h2 := flat_le ss (i + 1)
        rw [flat_take ss hlt, List.length_append] at h2
        rw [hz, hy, List.length_append]; omega) (Nat.le_trans hB hsz)
      have HY : Hid (y = ss.getD i []) := hy
      have HZ : Hid (z = zs ++ (ss.take i).flatten) := hz
      clear hat hc hy hz
      go_wp2_with (go_at_call 39; refine CW.mono ?_; rintro e w1 ⟨⟨ve, rfl⟩, hw1⟩; have H1 : Hid (At wr B b w1 (z ++ y)) := hw1; clear hw1 CW)
      go_roundw
      case rel => exact ⟨i + 1, by simp, by omega, by rw [flat_take ss hlt, ← List.append_assoc, ← HY.out, ← HZ.out]; exact HA.out.trans H1.out⟩
      case measure => simp [intOf]; omega
    · have hiz : ¬ (i : Int) < ss.length := by omega
      obtain rfl : i = ss.length := by omega
      go_wp2
      go_end0
      exact ⟨rfl, by have := HA.out; rw [List.take_length] at this; exact this⟩
set_option maxHeartbeats 4000000 in
theorem put59 : PutC 59 := by
  refine ⟨enters_of Tryd.func59 (by kernel_rfl) rfl, ?_⟩
  intro w B b zs v ss hb hB hs hlen
  obtain ⟨a, c, rfl⟩ := hs.shape
  obtain ⟨-, l1, m1, r1⟩ := hs.row
  simp only [List.length_map] at *
  have R1 : Hid (∀ i, i < ss.length → ∃ k off, a = some ⟨k, off, none⟩ ∧ k < w.heap.size ∧ Apart w b k ∧ w.cell? ⟨k, off + i, none⟩ = some (.string (st (ss.getD i [])))) := by
    intro i hi
    obtain ⟨a', cap', h1, h2, h3, h4⟩ := hs
    obtain ⟨rfl, -, -⟩ := Value.slice.inj h1
    rcases h4 with h4 | ⟨k, off, e, hk, hp, hc⟩
    · simp at h4; subst h4; simp at hi
    · refine ⟨k, off, e, hk, hp, ?_⟩
      have := hc i 0 (by simpa using hi) (by decide)
      rw [getD_map clS ss i [] hi] at this
      simpa [clS] using this
  have HL : Hid (zs.length + ss.flatten.length ≤ 2000000000) := hlen
  have HB : Hid (Bd w B b zs) := hb
  clear hs r1 hlen hb
  have hnn : (ss.length : Int) ≤ 9223372036854775807 := by omega
  go_enter Tryd.func59, Tryd.ntmps59
  go_wp2
  go_loopw [7] (fun v wr => ∃ i : Nat, v = .int .i64 i ∧ i ≤ ss.length ∧ At w B b wr (zs ++ (ss.take i).flatten)) (fun v _ => (ss.length - intOf v).toNat)
  case atStart => exact ⟨0, rfl, Nat.zero_le _, by rw [List.take_zero]; simpa using At.refl HB.out⟩
  case round =>
    obtain ⟨i, rfl, hi, hat⟩ := hrel
    have HA : Hid (At w B b wr (zs ++ (ss.take i).flatten)) := hat
    have hsz := hat.bel.size
    by_cases hlt : i < ss.length
    · have hiz : (i : Int) < ss.length := by omega
      obtain ⟨k, off, rfl, hk, hap, hc⟩ := R1.out i hlt
      have hc' := hat.fb.cell hk hap hc
      obtain ⟨y, hy⟩ : ∃ y, y = ss.getD i [] := ⟨_, rfl⟩
      obtain ⟨z, hz⟩ : ∃ z, z = zs ++ (ss.take i).flatten := ⟨_, rfl⟩
      rw [← hy] at hc'
      rw [← hz] at hat
      have CW := write_any B b z y wr hat.bd (by
        have h1 := HL.out
        have h2 := flat_le ss (i + 1)
        rw [flat_take ss hlt, List.length_append] at h2
        rw [hz, hy, List.length_append]; omega) (Nat.le_trans hB hsz)
      have HY : Hid (y = ss.getD i []) := hy
      have HZ : Hid (z = zs ++ (ss.take i).flatten) := hz
      clear hat hc hy hz
      go_wp2_with (go_at_call 39; refine CW.mono ?_; rintro e w1 ⟨⟨ve, rfl⟩, hw1⟩; have H1 : Hid (At wr B b w1 (z ++ y)) := hw1; clear hw1 CW)
      go_roundw
      case rel => exact ⟨i + 1, by simp, by omega, by rw [flat_take ss hlt, ← List.append_assoc, ← HY.out, ← HZ.out]; exact HA.out.trans H1.out⟩
      case measure => simp [intOf]; omega
    · have hiz : ¬ (i : Int) < ss.length := by omega
      obtain rfl : i = ss.length := by omega
      go_wp2
      go_end0
      exact ⟨rfl, by have := HA.out; rw [List.take_length] at this; exact this⟩
set_option maxHeartbeats 4000000 in
theorem put65 : PutC 65 := by
  refine ⟨enters_of Tryd.func65 (by kernel_rfl) rfl, ?_⟩
  intro w B b zs v ss hb hB hs hlen
  obtain ⟨a, c, rfl⟩ := hs.shape
  obtain ⟨-, l1, m1, r1⟩ := hs.row
  simp only [List.length_map] at *
  have R1 : Hid (∀ i, i < ss.length → ∃ k off, a = some ⟨k, off, none⟩ ∧ k < w.heap.size ∧ Apart w b k ∧ w.cell? ⟨k, off + i, none⟩ = some (.string (st (ss.getD i [])))) := by
    intro i hi
    obtain ⟨a', cap', h1, h2, h3, h4⟩ := hs
    obtain ⟨rfl, -, -⟩ := Value.slice.inj h1
    rcases h4 with h4 | ⟨k, off, e, hk, hp, hc⟩
    · simp at h4; subst h4; simp at hi
    · refine ⟨k, off, e, hk, hp, ?_⟩
      have := hc i 0 (by simpa using hi) (by decide)
      rw [getD_map clS ss i [] hi] at this
      simpa [clS] using this
  have HL : Hid (zs.length + ss.flatten.length ≤ 2000000000) := hlen
  have HB : Hid (Bd w B b zs) := hb
  clear hs r1 hlen hb
  have hnn : (ss.length : Int) ≤ 9223372036854775807 := by omega
  go_enter Tryd.func65, Tryd.ntmps65
  go_wp2
  go_loopw [7] (fun v wr => ∃ i : Nat, v = .int .i64 i ∧ i ≤ ss.length ∧ At w B b wr (zs ++ (ss.take i).flatten)) (fun v _ => (ss.length - intOf v).toNat)
  case atStart => exact ⟨0, rfl, Nat.zero_le _, by rw [List.take_zero]; simpa using At.refl HB.out⟩
  case round =>
    obtain ⟨i, rfl, hi, hat⟩ := hrel
    have HA : Hid (At w B b wr (zs ++ (ss.take i).flatten)) := hat
    have hsz := hat.bel.size
    by_cases hlt : i < ss.length
    · have hiz : (i : Int) < ss.length := by omega
      obtain ⟨k, off, rfl, hk, hap, hc⟩ := R1.out i hlt
      have hc' := hat.fb.cell hk hap hc
      obtain ⟨y, hy⟩ : ∃ y, y = ss.getD i [] := ⟨_, rfl⟩
      obtain ⟨z, hz⟩ : ∃ z, z = zs ++ (ss.take i).flatten := ⟨_, rfl⟩
      rw [← hy] at hc'
      rw [← hz] at hat
      have CW := write_any B b z y wr hat.bd (by
        have h1 := HL.out
        have h2 := flat_le ss (i + 1)
        rw [flat_take ss hlt, List.length_append] at h2
        rw [hz, hy, List.length_append]; omega) (Nat.le_trans hB hsz)
      have HY : Hid (y = ss.getD i []) := hy
      have HZ : Hid (z = zs ++ (ss.take i).flatten) := hz
      clear hat hc hy hz
      go_wp2_with (go_at_call 39; refine CW.mono ?_; rintro e w1 ⟨⟨ve, rfl⟩, hw1⟩; have H1 : Hid (At wr B b w1 (z ++ y)) := hw1; clear hw1 CW)
      go_roundw
      case rel => exact ⟨i + 1, by simp, by omega, by rw [flat_take ss hlt, ← List.append_assoc, ← HY.out, ← HZ.out]; exact HA.out.trans H1.out⟩
      case measure => simp [intOf]; omega
    · have hiz : ¬ (i : Int) < ss.length := by omega
      obtain rfl : i = ss.length := by omega
      go_wp2
      go_end0
      exact ⟨rfl, by have := HA.out; rw [List.take_length] at this; exact this⟩
end Go.Proofs.YtemacdimdpnkeaaDoor
namespace Go.Proofs.YtemacdimdpnkeaaDoor
open Go.RowKit
set_option linter.unusedVariables false
set_option linter.unusedSimpArgs false
set_option maxRecDepth 20000
def Lays1 (B b : Nat) (w : World) (z : Str) (e : Ending) (w' : World) : Prop := e = .returned (.tuple #[]) ∧ At w B b w' z
theorem put_n {K B b : Nat} (hK : PutC K) {z : Str} {W : World} (hb : Bd W B b z) (ss : List Str) (hss : ss.length ≤ 1000) (hlen : z.length + ss.flatten.length ≤ 2000000000) :
    Calls Tryd.prog K #[.slice (some ⟨W.heap.size, 0, none⟩) ss.length ss.length, .pointer (some ⟨b, 0, none⟩)] (W.alloc (.cells (ss.map fun s => Value.string (st s)).toArray 9)) (Lays1 B b W (z ++ ss.flatten)) := by
  have h0 := (At.refl hb).alloc (.cells (ss.map fun s => Value.string (st s)).toArray 9)
  have hlt := hb.lt
  have hle := hb.le
  · refine (hK.2 _ B b z _ ss h0.bd (by simp; omega) ⟨_, ss.length, by rw [List.length_map], by rw [List.length_map]; exact Nat.le_refl _, by omega, .inr ⟨W.heap.size, 0, rfl, by simp, (hb.new (Nat.le_refl _)).alloc hlt _, ?_⟩⟩ hlen).mono ?_
    · intro i j hi hj
      rw [List.length_map] at hi
      obtain rfl : j = 0 := by omega
      rw [getD_map clS ss i [] hi, List.getD_eq_getElem?_getD, List.getElem?_eq_getElem hi]
      simp [clS, hi]
    · rintro e w' ⟨rfl, h1⟩
      exact ⟨rfl, h0.trans h1⟩
theorem put1 {K B b X : Nat} (hK : PutC K) {z : Str} {W : World} (hb : Bd W B b z) (s : Str) (hlen : z.length + s.length ≤ 2000000000) (hX : X = W.heap.size) :
    Calls Tryd.prog K #[.slice (some ⟨X, 0, none⟩) 1 1, .pointer (some ⟨b, 0, none⟩)] (W.alloc (.cells #[.string (st s)] 9)) (Lays1 B b W (z ++ s)) := by
  subst hX
  have := put_n hK hb [s] (by simp) (by simpa using hlen)
  simpa using this
theorem put2 {K B b X : Nat} (hK : PutC K) {z : Str} {W : World} (hb : Bd W B b z) (s t : Str) (hlen : z.length + (s ++ t).length ≤ 2000000000) (hX : X = W.heap.size) :
    Calls Tryd.prog K #[.slice (some ⟨X, 0, none⟩) 2 2, .pointer (some ⟨b, 0, none⟩)] (W.alloc (.cells #[.string (st s), .string (st t)] 9)) (Lays1 B b W (z ++ (s ++ t))) := by
  subst hX
  have := put_n hK hb [s, t] (by simp) (by simpa using hlen)
  simpa using this
theorem put3 {K B b X : Nat} (hK : PutC K) {z : Str} {W : World} (hb : Bd W B b z) (s t u : Str) (hlen : z.length + (s ++ (t ++ u)).length ≤ 2000000000) (hX : X = W.heap.size) :
    Calls Tryd.prog K #[.slice (some ⟨X, 0, none⟩) 3 3, .pointer (some ⟨b, 0, none⟩)] (W.alloc (.cells #[.string (st s), .string (st t), .string (st u)] 9)) (Lays1 B b W (z ++ (s ++ (t ++ u)))) := by
  subst hX
  have := put_n hK hb [s, t, u] (by simp) (by simpa using hlen)
  simpa using this
theorem spJ_take (ss : List Str) {i : Nat} (h : i < ss.length) : spJ (ss.take (i + 1)) = spJ (ss.take i) ++ ([32] ++ ss.getD i []) := by
  rw [List.take_succ_eq_append_getElem h, List.getD_eq_getElem?_getD, List.getElem?_eq_getElem h]
  unfold spJ
  rw [List.map_append, List.flatten_append]
  simp
theorem spJ_le (ss : List Str) (i : Nat) : (spJ (ss.take i)).length ≤ (spJ ss).length := by
  conv => rhs; rw [← List.take_append_drop i ss]
  unfold spJ
  rw [List.map_append, List.flatten_append, List.length_append]
  omega
set_option maxHeartbeats 4000000 in
theorem each74 {B K F b : Nat} (hK : PutC K) (hEF : Enters Tryd.prog F) (zs : Str) (v : Value) (css : List (List Value)) (ss : List Str) (w : World) (hs : SlW 1 w (fun k => k < B) v css) (hsh : ∀ i, i < css.length → ∃ (c0 : ByteArray), css.getD i [] = [.string c0]) (hl : css.length = ss.length) (hb : Bd w B b zs) (hlen : zs.length + (spJ ss).length ≤ 1000000000)
    (hF : ∀ i, i < css.length → ∀ W z, At w B b W z → z.length + (ss.getD i []).length ≤ 1000000000 → Calls Tryd.prog F #[pv K b, (css.getD i []).headD .nilIface] W (Lays1 B b W (z ++ ss.getD i []))) :
    Calls Tryd.prog 74 #[pv K b, v, .func (.func F) #[] #[]] w (Lays1 B b w (zs ++ spJ ss)) := by
  obtain ⟨a, c, rfl⟩ := hs.shape
  obtain ⟨-, l1, m1, -⟩ := hs.row
  have R1 : Hid (∀ i, i < css.length → ∃ k off, a = some ⟨k, off, none⟩ ∧ k < B ∧ ∀ j, j < 1 → w.cell? ⟨k, off + (i * 1 + j), none⟩ = (css.getD i [])[j]?) := by
    intro i hi
    obtain ⟨a', cap', h1, h2, h3, h4⟩ := hs
    obtain ⟨rfl, -, -⟩ := Value.slice.inj h1
    rcases h4 with h4 | ⟨k, off, e, hk, hp, hc⟩
    · rw [h4] at hi; simp at hi
    · exact ⟨k, off, e, hp, fun j hj => hc i j hi hj⟩
  have HSH : Hid (∀ i, i < css.length → ∃ (c0 : ByteArray), css.getD i [] = [.string c0]) := hsh
  have HL : Hid (zs.length + (spJ ss).length ≤ 1000000000) := hlen
  have HE : Hid (css.length = ss.length) := hl
  have HB : Hid (Bd w B b zs) := hb
  clear hs hlen hb hl hsh
  have hnn : (css.length : Int) ≤ 9223372036854775807 := by omega
  have eK : ∀ (args : Array Value) (w : World), (callFunc K args).run Tryd.prog w = .ok (.enter K args) w := hK.1
  have eF : ∀ (args : Array Value) (w : World), (callFunc F args).run Tryd.prog w = .ok (.enter F args) w := hEF
  unfold pv at *
  go_enter Tryd.func74, Tryd.ntmps74
  go_wp2
  go_loopw [10] (fun v wr => ∃ i : Nat, v = .int .i64 i ∧ i ≤ css.length ∧ At w B b wr (zs ++ spJ (ss.take i))) (fun v _ => (css.length - intOf v).toNat)
  case atStart => exact ⟨0, rfl, Nat.zero_le _, by rw [List.take_zero, spJ_nil, List.append_nil]; exact At.refl HB.out⟩
  case round =>
    obtain ⟨i, rfl, hi, hat⟩ := hrel
    by_cases hlt : i < css.length
    · have hiz : (i : Int) < css.length := by omega
      obtain ⟨k, off, rfl, hk, hc⟩ := R1.out i hlt
      obtain ⟨c0, he⟩ := HSH.out i hlt
      have hFi := hF i hlt
      rw [he] at hc hFi
      have q0 := (hat.bel.cell (p := ⟨k, off + (i * 1 + 0), none⟩) hk).trans (hc 0 (by decide))
      have p0 : wr.cell? ⟨k, off + i, none⟩ = some (.string c0) := by simpa [Nat.add_assoc] using q0
      clear q0
      obtain ⟨y, hy⟩ : ∃ y, y = ss.getD i [] := ⟨_, rfl⟩
      obtain ⟨z, hz⟩ : ∃ z, z = zs ++ spJ (ss.take i) := ⟨_, rfl⟩
      rw [← hy] at hFi
      rw [← hz] at hat
      have HY : Hid (y = ss.getD i []) := hy
      have HZ : Hid (z = zs ++ spJ (ss.take i)) := hz
      have HA : Hid (At w B b wr z) := hat
      have HLE : Hid (z.length + (1 + y.length) ≤ 1000000000) := by
        have h1 := HL.out
        have h2 := spJ_le ss (i + 1)
        rw [spJ_take ss (by rw [← HE.out]; exact hlt), ← hy] at h2
        simp only [List.length_append, List.length_cons, List.length_nil] at h2
        show z.length + (1 + y.length) ≤ 1000000000
        rw [hz, List.length_append]
        omega
      have HFI : Hid (∀ W z', At w B b W z' → z'.length + y.length ≤ 1000000000 → Calls Tryd.prog F #[.func (.func K) #[] #[.pointer (some ⟨b, 0, none⟩)], .string c0] W (Lays1 B b W (z' ++ y))) := hFi
      have hn1 := hat.bd.new (Nat.le_refl _)
      have hlb := hat.bd.lt
      clear hat hc hy hz hFi he
      have tok1 : Hid True := trivial
      have tok2 : Hid True := trivial
      go_wp2_with (first | (go_at_fn K; have tku := tok1; clear tku tok1; refine (put1 hK HA.out.bd [32] (by have := HLE.out; simp only [List.length_cons, List.length_nil]; omega) (by simp)).mono ?_; rintro e w2 ⟨rfl, h2⟩; have H2 : Hid (At w B b w2 (z ++ [32])) := HA.out.trans h2; clear h2) | (go_at_fn F; have tku := tok2; clear tku tok2; refine (HFI.out _ _ H2.out (by have := HLE.out; simp only [List.length_append, List.length_cons, List.length_nil]; omega)).mono ?_; rintro e w3 ⟨rfl, h3⟩; have H3 : Hid (At w B b w3 ((z ++ [32]) ++ y)) := H2.out.trans h3; clear h3))
      go_roundw
      case rel => exact ⟨i + 1, by simp, by omega, by rw [spJ_take ss (by rw [← HE.out]; exact hlt), ← HY.out, ← List.append_assoc, ← HZ.out, ← List.append_assoc]; exact H3.out⟩
      case measure => simp [intOf]; omega
    · have hiz : ¬ (i : Int) < css.length := by omega
      obtain rfl : i = css.length := by omega
      go_wp2
      go_end0
      exact ⟨rfl, by have := hat; rw [HE.out, List.take_length] at this; exact this⟩
set_option maxHeartbeats 4000000 in
theorem each49 {B K F b : Nat} (hK : PutC K) (hEF : Enters Tryd.prog F) (zs : Str) (v : Value) (css : List (List Value)) (ss : List Str) (w : World) (hs : SlW 3 w (fun k => k < B) v css) (hsh : ∀ i, i < css.length → ∃ (c0 : Bool) (c1 : ByteArray) (a2 : Option Addr) (n2 m2 : Nat), css.getD i [] = [.bool c0, .string c1, .slice a2 n2 m2]) (hl : css.length = ss.length) (hb : Bd w B b zs) (hlen : zs.length + (spJ ss).length ≤ 1000000000)
    (hF : ∀ i, i < css.length → ∀ W z, At w B b W z → z.length + (ss.getD i []).length ≤ 1000000000 → Calls Tryd.prog F #[pv K b, .agg (css.getD i []).toArray] W (Lays1 B b W (z ++ ss.getD i []))) :
    Calls Tryd.prog 49 #[pv K b, v, .func (.func F) #[] #[]] w (Lays1 B b w (zs ++ spJ ss)) := by
  obtain ⟨a, c, rfl⟩ := hs.shape
  obtain ⟨-, l1, m1, -⟩ := hs.row
  have R1 : Hid (∀ i, i < css.length → ∃ k off, a = some ⟨k, off, none⟩ ∧ k < B ∧ ∀ j, j < 3 → w.cell? ⟨k, off + (i * 3 + j), none⟩ = (css.getD i [])[j]?) := by
    intro i hi
    obtain ⟨a', cap', h1, h2, h3, h4⟩ := hs
    obtain ⟨rfl, -, -⟩ := Value.slice.inj h1
    rcases h4 with h4 | ⟨k, off, e, hk, hp, hc⟩
    · rw [h4] at hi; simp at hi
    · exact ⟨k, off, e, hp, fun j hj => hc i j hi hj⟩
  have HSH : Hid (∀ i, i < css.length → ∃ (c0 : Bool) (c1 : ByteArray) (a2 : Option Addr) (n2 m2 : Nat), css.getD i [] = [.bool c0, .string c1, .slice a2 n2 m2]) := hsh
  have HL : Hid (zs.length + (spJ ss).length ≤ 1000000000) := hlen
  have HE : Hid (css.length = ss.length) := hl
  have HB : Hid (Bd w B b zs) := hb
  clear hs hlen hb hl hsh
  have hnn : (css.length : Int) ≤ 9223372036854775807 := by omega
  have eK : ∀ (args : Array Value) (w : World), (callFunc K args).run Tryd.prog w = .ok (.enter K args) w := hK.1
  have eF : ∀ (args : Array Value) (w : World), (callFunc F args).run Tryd.prog w = .ok (.enter F args) w := hEF
  unfold pv at *
  go_enter Tryd.func49, Tryd.ntmps49
  go_wp2
  go_loopw [10] (fun v wr => ∃ i : Nat, v = .int .i64 i ∧ i ≤ css.length ∧ At w B b wr (zs ++ spJ (ss.take i))) (fun v _ => (css.length - intOf v).toNat)
  case atStart => exact ⟨0, rfl, Nat.zero_le _, by rw [List.take_zero, spJ_nil, List.append_nil]; exact At.refl HB.out⟩
  case round =>
    obtain ⟨i, rfl, hi, hat⟩ := hrel
    by_cases hlt : i < css.length
    · have hiz : (i : Int) < css.length := by omega
      obtain ⟨k, off, rfl, hk, hc⟩ := R1.out i hlt
      obtain ⟨c0, c1, a2, n2, m2, he⟩ := HSH.out i hlt
      have hFi := hF i hlt
      rw [he] at hc hFi
      have q0 := (hat.bel.cell (p := ⟨k, off + (i * 3 + 0), none⟩) hk).trans (hc 0 (by decide))
      have p0 : wr.cell? ⟨k, off + i * 3, none⟩ = some (.bool c0) := by simpa [Nat.add_assoc] using q0
      clear q0
      have q1 := (hat.bel.cell (p := ⟨k, off + (i * 3 + 1), none⟩) hk).trans (hc 1 (by decide))
      have p1 : wr.cell? ⟨k, off + i * 3 + 1, none⟩ = some (.string c1) := by simpa [Nat.add_assoc] using q1
      clear q1
      have q2 := (hat.bel.cell (p := ⟨k, off + (i * 3 + 2), none⟩) hk).trans (hc 2 (by decide))
      have p2 : wr.cell? ⟨k, off + i * 3 + 2, none⟩ = some (.slice a2 n2 m2) := by simpa [Nat.add_assoc] using q2
      clear q2
      obtain ⟨y, hy⟩ : ∃ y, y = ss.getD i [] := ⟨_, rfl⟩
      obtain ⟨z, hz⟩ : ∃ z, z = zs ++ spJ (ss.take i) := ⟨_, rfl⟩
      rw [← hy] at hFi
      rw [← hz] at hat
      have HY : Hid (y = ss.getD i []) := hy
      have HZ : Hid (z = zs ++ spJ (ss.take i)) := hz
      have HA : Hid (At w B b wr z) := hat
      have HLE : Hid (z.length + (1 + y.length) ≤ 1000000000) := by
        have h1 := HL.out
        have h2 := spJ_le ss (i + 1)
        rw [spJ_take ss (by rw [← HE.out]; exact hlt), ← hy] at h2
        simp only [List.length_append, List.length_cons, List.length_nil] at h2
        show z.length + (1 + y.length) ≤ 1000000000
        rw [hz, List.length_append]
        omega
      have HFI : Hid (∀ W z', At w B b W z' → z'.length + y.length ≤ 1000000000 → Calls Tryd.prog F #[.func (.func K) #[] #[.pointer (some ⟨b, 0, none⟩)], .agg #[.bool c0, .string c1, .slice a2 n2 m2]] W (Lays1 B b W (z' ++ y))) := hFi
      have hn1 := hat.bd.new (Nat.le_refl _)
      have hlb := hat.bd.lt
      clear hat hc hy hz hFi he
      have tok1 : Hid True := trivial
      have tok2 : Hid True := trivial
      go_wp2_with (first | (go_at_fn K; have tku := tok1; clear tku tok1; refine (put1 hK (HA.out.bd.alloc (.cells #[.bool c0, .string c1, .slice a2 n2 m2] 44)) [32] (by have := HLE.out; simp only [List.length_cons, List.length_nil]; omega) (by simp)).mono ?_; rintro e w2 ⟨rfl, h2⟩; have f0 := h2.fb.cell (k := wr.heap.size) (off := 0) (v := .bool c0) (by simp) (hn1.alloc hlb _) (by simp); have f1 := h2.fb.cell (k := wr.heap.size) (off := 1) (v := .string c1) (by simp) (hn1.alloc hlb _) (by simp); have f2 := h2.fb.cell (k := wr.heap.size) (off := 2) (v := .slice a2 n2 m2) (by simp) (hn1.alloc hlb _) (by simp); have hsz2 := h2.bel.size; rw [World.size_alloc] at hsz2; have H2 : Hid (At w B b w2 (z ++ [32])) := (HA.out.alloc (.cells #[.bool c0, .string c1, .slice a2 n2 m2] 44)).trans h2; clear h2) | (go_at_fn F; have tku := tok2; clear tku tok2; refine (HFI.out _ _ H2.out (by have := HLE.out; simp only [List.length_append, List.length_cons, List.length_nil]; omega)).mono ?_; rintro e w3 ⟨rfl, h3⟩; have H3 : Hid (At w B b w3 ((z ++ [32]) ++ y)) := H2.out.trans h3; clear h3))
      go_roundw
      case rel => exact ⟨i + 1, by simp, by omega, by rw [spJ_take ss (by rw [← HE.out]; exact hlt), ← HY.out, ← List.append_assoc, ← HZ.out, ← List.append_assoc]; exact H3.out⟩
      case measure => simp [intOf]; omega
    · have hiz : ¬ (i : Int) < css.length := by omega
      obtain rfl : i = css.length := by omega
      go_wp2
      go_end0
      exact ⟨rfl, by have := hat; rw [HE.out, List.take_length] at this; exact this⟩
set_option maxHeartbeats 4000000 in
theorem each54 {B K F b : Nat} (hK : PutC K) (hEF : Enters Tryd.prog F) (zs : Str) (v : Value) (css : List (List Value)) (ss : List Str) (w : World) (hs : SlW 3 w (fun k => k < B) v css) (hsh : ∀ i, i < css.length → ∃ (c0 : Int) (c1 : Int) (c2 : ByteArray), css.getD i [] = [.int .u8 c0, .int .i64 c1, .string c2]) (hl : css.length = ss.length) (hb : Bd w B b zs) (hlen : zs.length + (spJ ss).length ≤ 1000000000)
    (hF : ∀ i, i < css.length → ∀ W z, At w B b W z → z.length + (ss.getD i []).length ≤ 1000000000 → Calls Tryd.prog F #[pv K b, .agg (css.getD i []).toArray] W (Lays1 B b W (z ++ ss.getD i []))) :
    Calls Tryd.prog 54 #[pv K b, v, .func (.func F) #[] #[]] w (Lays1 B b w (zs ++ spJ ss)) := by
  obtain ⟨a, c, rfl⟩ := hs.shape
  obtain ⟨-, l1, m1, -⟩ := hs.row
  have R1 : Hid (∀ i, i < css.length → ∃ k off, a = some ⟨k, off, none⟩ ∧ k < B ∧ ∀ j, j < 3 → w.cell? ⟨k, off + (i * 3 + j), none⟩ = (css.getD i [])[j]?) := by
    intro i hi
    obtain ⟨a', cap', h1, h2, h3, h4⟩ := hs
    obtain ⟨rfl, -, -⟩ := Value.slice.inj h1
    rcases h4 with h4 | ⟨k, off, e, hk, hp, hc⟩
    · rw [h4] at hi; simp at hi
    · exact ⟨k, off, e, hp, fun j hj => hc i j hi hj⟩
  have HSH : Hid (∀ i, i < css.length → ∃ (c0 : Int) (c1 : Int) (c2 : ByteArray), css.getD i [] = [.int .u8 c0, .int .i64 c1, .string c2]) := hsh
  have HL : Hid (zs.length + (spJ ss).length ≤ 1000000000) := hlen
  have HE : Hid (css.length = ss.length) := hl
  have HB : Hid (Bd w B b zs) := hb
  clear hs hlen hb hl hsh
  have hnn : (css.length : Int) ≤ 9223372036854775807 := by omega
  have eK : ∀ (args : Array Value) (w : World), (callFunc K args).run Tryd.prog w = .ok (.enter K args) w := hK.1
  have eF : ∀ (args : Array Value) (w : World), (callFunc F args).run Tryd.prog w = .ok (.enter F args) w := hEF
  unfold pv at *
  go_enter Tryd.func54, Tryd.ntmps54
  go_wp2
  go_loopw [10] (fun v wr => ∃ i : Nat, v = .int .i64 i ∧ i ≤ css.length ∧ At w B b wr (zs ++ spJ (ss.take i))) (fun v _ => (css.length - intOf v).toNat)
  case atStart => exact ⟨0, rfl, Nat.zero_le _, by rw [List.take_zero, spJ_nil, List.append_nil]; exact At.refl HB.out⟩
  case round =>
    obtain ⟨i, rfl, hi, hat⟩ := hrel
    by_cases hlt : i < css.length
    · have hiz : (i : Int) < css.length := by omega
      obtain ⟨k, off, rfl, hk, hc⟩ := R1.out i hlt
      obtain ⟨c0, c1, c2, he⟩ := HSH.out i hlt
      have hFi := hF i hlt
      rw [he] at hc hFi
      have q0 := (hat.bel.cell (p := ⟨k, off + (i * 3 + 0), none⟩) hk).trans (hc 0 (by decide))
      have p0 : wr.cell? ⟨k, off + i * 3, none⟩ = some (.int .u8 c0) := by simpa [Nat.add_assoc] using q0
      clear q0
      have q1 := (hat.bel.cell (p := ⟨k, off + (i * 3 + 1), none⟩) hk).trans (hc 1 (by decide))
      have p1 : wr.cell? ⟨k, off + i * 3 + 1, none⟩ = some (.int .i64 c1) := by simpa [Nat.add_assoc] using q1
      clear q1
      have q2 := (hat.bel.cell (p := ⟨k, off + (i * 3 + 2), none⟩) hk).trans (hc 2 (by decide))
      have p2 : wr.cell? ⟨k, off + i * 3 + 2, none⟩ = some (.string c2) := by simpa [Nat.add_assoc] using q2
      clear q2
      obtain ⟨y, hy⟩ : ∃ y, y = ss.getD i [] := ⟨_, rfl⟩
      obtain ⟨z, hz⟩ : ∃ z, z = zs ++ spJ (ss.take i) := ⟨_, rfl⟩
      rw [← hy] at hFi
      rw [← hz] at hat
      have HY : Hid (y = ss.getD i []) := hy
      have HZ : Hid (z = zs ++ spJ (ss.take i)) := hz
      have HA : Hid (At w B b wr z) := hat
      have HLE : Hid (z.length + (1 + y.length) ≤ 1000000000) := by
        have h1 := HL.out
        have h2 := spJ_le ss (i + 1)
        rw [spJ_take ss (by rw [← HE.out]; exact hlt), ← hy] at h2
        simp only [List.length_append, List.length_cons, List.length_nil] at h2
        show z.length + (1 + y.length) ≤ 1000000000
        rw [hz, List.length_append]
        omega
      have HFI : Hid (∀ W z', At w B b W z' → z'.length + y.length ≤ 1000000000 → Calls Tryd.prog F #[.func (.func K) #[] #[.pointer (some ⟨b, 0, none⟩)], .agg #[.int .u8 c0, .int .i64 c1, .string c2]] W (Lays1 B b W (z' ++ y))) := hFi
      have hn1 := hat.bd.new (Nat.le_refl _)
      have hlb := hat.bd.lt
      clear hat hc hy hz hFi he
      have tok1 : Hid True := trivial
      have tok2 : Hid True := trivial
      go_wp2_with (first | (go_at_fn K; have tku := tok1; clear tku tok1; refine (put1 hK (HA.out.bd.alloc (.cells #[.int .u8 c0, .int .i64 c1, .string c2] 25)) [32] (by have := HLE.out; simp only [List.length_cons, List.length_nil]; omega) (by simp)).mono ?_; rintro e w2 ⟨rfl, h2⟩; have f0 := h2.fb.cell (k := wr.heap.size) (off := 0) (v := .int .u8 c0) (by simp) (hn1.alloc hlb _) (by simp); have f1 := h2.fb.cell (k := wr.heap.size) (off := 1) (v := .int .i64 c1) (by simp) (hn1.alloc hlb _) (by simp); have f2 := h2.fb.cell (k := wr.heap.size) (off := 2) (v := .string c2) (by simp) (hn1.alloc hlb _) (by simp); have hsz2 := h2.bel.size; rw [World.size_alloc] at hsz2; have H2 : Hid (At w B b w2 (z ++ [32])) := (HA.out.alloc (.cells #[.int .u8 c0, .int .i64 c1, .string c2] 25)).trans h2; clear h2) | (go_at_fn F; have tku := tok2; clear tku tok2; refine (HFI.out _ _ H2.out (by have := HLE.out; simp only [List.length_append, List.length_cons, List.length_nil]; omega)).mono ?_; rintro e w3 ⟨rfl, h3⟩; have H3 : Hid (At w B b w3 ((z ++ [32]) ++ y)) := H2.out.trans h3; clear h3))
      go_roundw
      case rel => exact ⟨i + 1, by simp, by omega, by rw [spJ_take ss (by rw [← HE.out]; exact hlt), ← HY.out, ← List.append_assoc, ← HZ.out, ← List.append_assoc]; exact H3.out⟩
      case measure => simp [intOf]; omega
    · have hiz : ¬ (i : Int) < css.length := by omega
      obtain rfl : i = css.length := by omega
      go_wp2
      go_end0
      exact ⟨rfl, by have := hat; rw [HE.out, List.take_length] at this; exact this⟩
set_option maxHeartbeats 4000000 in
theorem each64 {B K F b : Nat} (hK : PutC K) (hEF : Enters Tryd.prog F) (zs : Str) (v : Value) (css : List (List Value)) (ss : List Str) (w : World) (hs : SlW 1 w (fun k => k < B) v css) (hsh : ∀ i, i < css.length → ∃ (a0 : Option Addr) (n0 m0 : Nat), css.getD i [] = [.slice a0 n0 m0]) (hl : css.length = ss.length) (hb : Bd w B b zs) (hlen : zs.length + (spJ ss).length ≤ 1000000000)
    (hF : ∀ i, i < css.length → ∀ W z, At w B b W z → z.length + (ss.getD i []).length ≤ 1000000000 → Calls Tryd.prog F #[pv K b, (css.getD i []).headD .nilIface] W (Lays1 B b W (z ++ ss.getD i []))) :
    Calls Tryd.prog 64 #[pv K b, v, .func (.func F) #[] #[]] w (Lays1 B b w (zs ++ spJ ss)) := by
  obtain ⟨a, c, rfl⟩ := hs.shape
  obtain ⟨-, l1, m1, -⟩ := hs.row
  have R1 : Hid (∀ i, i < css.length → ∃ k off, a = some ⟨k, off, none⟩ ∧ k < B ∧ ∀ j, j < 1 → w.cell? ⟨k, off + (i * 1 + j), none⟩ = (css.getD i [])[j]?) := by
    intro i hi
    obtain ⟨a', cap', h1, h2, h3, h4⟩ := hs
    obtain ⟨rfl, -, -⟩ := Value.slice.inj h1
    rcases h4 with h4 | ⟨k, off, e, hk, hp, hc⟩
    · rw [h4] at hi; simp at hi
    · exact ⟨k, off, e, hp, fun j hj => hc i j hi hj⟩
  have HSH : Hid (∀ i, i < css.length → ∃ (a0 : Option Addr) (n0 m0 : Nat), css.getD i [] = [.slice a0 n0 m0]) := hsh
  have HL : Hid (zs.length + (spJ ss).length ≤ 1000000000) := hlen
  have HE : Hid (css.length = ss.length) := hl
  have HB : Hid (Bd w B b zs) := hb
  clear hs hlen hb hl hsh
  have hnn : (css.length : Int) ≤ 9223372036854775807 := by omega
  have eK : ∀ (args : Array Value) (w : World), (callFunc K args).run Tryd.prog w = .ok (.enter K args) w := hK.1
  have eF : ∀ (args : Array Value) (w : World), (callFunc F args).run Tryd.prog w = .ok (.enter F args) w := hEF
  unfold pv at *
  go_enter Tryd.func64, Tryd.ntmps64
  go_wp2
  go_loopw [10] (fun v wr => ∃ i : Nat, v = .int .i64 i ∧ i ≤ css.length ∧ At w B b wr (zs ++ spJ (ss.take i))) (fun v _ => (css.length - intOf v).toNat)
  case atStart => exact ⟨0, rfl, Nat.zero_le _, by rw [List.take_zero, spJ_nil, List.append_nil]; exact At.refl HB.out⟩
  case round =>
    obtain ⟨i, rfl, hi, hat⟩ := hrel
    by_cases hlt : i < css.length
    · have hiz : (i : Int) < css.length := by omega
      obtain ⟨k, off, rfl, hk, hc⟩ := R1.out i hlt
      obtain ⟨a0, n0, m0, he⟩ := HSH.out i hlt
      have hFi := hF i hlt
      rw [he] at hc hFi
      have q0 := (hat.bel.cell (p := ⟨k, off + (i * 1 + 0), none⟩) hk).trans (hc 0 (by decide))
      have p0 : wr.cell? ⟨k, off + i, none⟩ = some (.slice a0 n0 m0) := by simpa [Nat.add_assoc] using q0
      clear q0
      obtain ⟨y, hy⟩ : ∃ y, y = ss.getD i [] := ⟨_, rfl⟩
      obtain ⟨z, hz⟩ : ∃ z, z = zs ++ spJ (ss.take i) := ⟨_, rfl⟩
      rw [← hy] at hFi
      rw [← hz] at hat
      have HY : Hid (y = ss.getD i []) := hy
      have HZ : Hid (z = zs ++ spJ (ss.take i)) := hz
      have HA : Hid (At w B b wr z) := hat
      have HLE : Hid (z.length + (1 + y.length) ≤ 1000000000) := by
        have h1 := HL.out
        have h2 := spJ_le ss (i + 1)
        rw [spJ_take ss (by rw [← HE.out]; exact hlt), ← hy] at h2
        simp only [List.length_append, List.length_cons, List.length_nil] at h2
        show z.length + (1 + y.length) ≤ 1000000000
        rw [hz, List.length_append]
        omega
      have HFI : Hid (∀ W z', At w B b W z' → z'.length + y.length ≤ 1000000000 → Calls Tryd.prog F #[.func (.func K) #[] #[.pointer (some ⟨b, 0, none⟩)], .slice a0 n0 m0] W (Lays1 B b W (z' ++ y))) := hFi
      have hn1 := hat.bd.new (Nat.le_refl _)
      have hlb := hat.bd.lt
      clear hat hc hy hz hFi he
      have tok1 : Hid True := trivial
      have tok2 : Hid True := trivial
      go_wp2_with (first | (go_at_fn K; have tku := tok1; clear tku tok1; refine (put1 hK HA.out.bd [32] (by have := HLE.out; simp only [List.length_cons, List.length_nil]; omega) (by simp)).mono ?_; rintro e w2 ⟨rfl, h2⟩; have H2 : Hid (At w B b w2 (z ++ [32])) := HA.out.trans h2; clear h2) | (go_at_fn F; have tku := tok2; clear tku tok2; refine (HFI.out _ _ H2.out (by have := HLE.out; simp only [List.length_append, List.length_cons, List.length_nil]; omega)).mono ?_; rintro e w3 ⟨rfl, h3⟩; have H3 : Hid (At w B b w3 ((z ++ [32]) ++ y)) := H2.out.trans h3; clear h3))
      go_roundw
      case rel => exact ⟨i + 1, by simp, by omega, by rw [spJ_take ss (by rw [← HE.out]; exact hlt), ← HY.out, ← List.append_assoc, ← HZ.out, ← List.append_assoc]; exact H3.out⟩
      case measure => simp [intOf]; omega
    · have hiz : ¬ (i : Int) < css.length := by omega
      obtain rfl : i = css.length := by omega
      go_wp2
      go_end0
      exact ⟨rfl, by have := hat; rw [HE.out, List.take_length] at this; exact this⟩
end Go.Proofs.YtemacdimdpnkeaaDoor
namespace Go.Proofs.YtemacdimdpnkeaaDoor
open Go.RowKit
set_option linter.unusedVariables false
set_option linter.unusedSimpArgs false
set_option maxRecDepth 20000
set_option maxHeartbeats 4000000 in
theorem each50 {B K F b : Nat} (hK : PutC K) (hEF : Enters Tryd.prog F) (zs : Str) (v : Value) (css : List (List Value)) (ss : List Str) (w : World) (hs : SlW 6 w (fun k => k < B) v css) (hsh : ∀ i, i < css.length → ∃ (c0 : Int) (c1 : ByteArray) (c2 : Int) (c3 : ByteArray) (a4 : Option Addr) (n4 m4 : Nat) (a5 : Option Addr) (n5 m5 : Nat), css.getD i [] = [.int .u8 c0, .string c1, .int .i64 c2, .string c3, .slice a4 n4 m4, .slice a5 n5 m5]) (hl : css.length = ss.length) (hb : Bd w B b zs) (hlen : zs.length + (spJ ss).length ≤ 1000000000)
    (hF : ∀ i, i < css.length → ∀ W z, At w B b W z → z.length + (ss.getD i []).length ≤ 1000000000 → Calls Tryd.prog F #[pv K b, .agg (css.getD i []).toArray] W (Lays1 B b W (z ++ ss.getD i []))) :
    Calls Tryd.prog 50 #[pv K b, v, .func (.func F) #[] #[]] w (Lays1 B b w (zs ++ spJ ss)) := by
  obtain ⟨a, c, rfl⟩ := hs.shape
  obtain ⟨-, l1, m1, -⟩ := hs.row
  have R1 : Hid (∀ i, i < css.length → ∃ k off, a = some ⟨k, off, none⟩ ∧ k < B ∧ ∀ j, j < 6 → w.cell? ⟨k, off + (i * 6 + j), none⟩ = (css.getD i [])[j]?) := by
    intro i hi
    obtain ⟨a', cap', h1, h2, h3, h4⟩ := hs
    obtain ⟨rfl, -, -⟩ := Value.slice.inj h1
    rcases h4 with h4 | ⟨k, off, e, hk, hp, hc⟩
    · rw [h4] at hi; simp at hi
    · exact ⟨k, off, e, hp, fun j hj => hc i j hi hj⟩
  have HSH : Hid (∀ i, i < css.length → ∃ (c0 : Int) (c1 : ByteArray) (c2 : Int) (c3 : ByteArray) (a4 : Option Addr) (n4 m4 : Nat) (a5 : Option Addr) (n5 m5 : Nat), css.getD i [] = [.int .u8 c0, .string c1, .int .i64 c2, .string c3, .slice a4 n4 m4, .slice a5 n5 m5]) := hsh
  have HL : Hid (zs.length + (spJ ss).length ≤ 1000000000) := hlen
  have HE : Hid (css.length = ss.length) := hl
  have HB : Hid (Bd w B b zs) := hb
  clear hs hlen hb hl hsh
  have hnn : (css.length : Int) ≤ 9223372036854775807 := by omega
  have eK : ∀ (args : Array Value) (w : World), (callFunc K args).run Tryd.prog w = .ok (.enter K args) w := hK.1
  have eF : ∀ (args : Array Value) (w : World), (callFunc F args).run Tryd.prog w = .ok (.enter F args) w := hEF
  unfold pv at *
  go_enter Tryd.func50, Tryd.ntmps50
  go_wp2
  go_loopw [10] (fun v wr => ∃ i : Nat, v = .int .i64 i ∧ i ≤ css.length ∧ At w B b wr (zs ++ spJ (ss.take i))) (fun v _ => (css.length - intOf v).toNat)
  case atStart => exact ⟨0, rfl, Nat.zero_le _, by rw [List.take_zero, spJ_nil, List.append_nil]; exact At.refl HB.out⟩
  case round =>
    obtain ⟨i, rfl, hi, hat⟩ := hrel
    by_cases hlt : i < css.length
    · have hiz : (i : Int) < css.length := by omega
      obtain ⟨k, off, rfl, hk, hc⟩ := R1.out i hlt
      obtain ⟨c0, c1, c2, c3, a4, n4, m4, a5, n5, m5, he⟩ := HSH.out i hlt
      have hFi := hF i hlt
      rw [he] at hc hFi
      have q0 := (hat.bel.cell (p := ⟨k, off + (i * 6 + 0), none⟩) hk).trans (hc 0 (by decide))
      have p0 : wr.cell? ⟨k, off + i * 6, none⟩ = some (.int .u8 c0) := by simpa [Nat.add_assoc] using q0
      clear q0
      have q1 := (hat.bel.cell (p := ⟨k, off + (i * 6 + 1), none⟩) hk).trans (hc 1 (by decide))
      have p1 : wr.cell? ⟨k, off + i * 6 + 1, none⟩ = some (.string c1) := by simpa [Nat.add_assoc] using q1
      clear q1
      have q2 := (hat.bel.cell (p := ⟨k, off + (i * 6 + 2), none⟩) hk).trans (hc 2 (by decide))
      have p2 : wr.cell? ⟨k, off + i * 6 + 2, none⟩ = some (.int .i64 c2) := by simpa [Nat.add_assoc] using q2
      clear q2
      have q3 := (hat.bel.cell (p := ⟨k, off + (i * 6 + 3), none⟩) hk).trans (hc 3 (by decide))
      have p3 : wr.cell? ⟨k, off + i * 6 + 3, none⟩ = some (.string c3) := by simpa [Nat.add_assoc] using q3
      clear q3
      have q4 := (hat.bel.cell (p := ⟨k, off + (i * 6 + 4), none⟩) hk).trans (hc 4 (by decide))
      have p4 : wr.cell? ⟨k, off + i * 6 + 4, none⟩ = some (.slice a4 n4 m4) := by simpa [Nat.add_assoc] using q4
      clear q4
      have q5 := (hat.bel.cell (p := ⟨k, off + (i * 6 + 5), none⟩) hk).trans (hc 5 (by decide))
      have p5 : wr.cell? ⟨k, off + i * 6 + 5, none⟩ = some (.slice a5 n5 m5) := by simpa [Nat.add_assoc] using q5
      clear q5
      obtain ⟨y, hy⟩ : ∃ y, y = ss.getD i [] := ⟨_, rfl⟩
      obtain ⟨z, hz⟩ : ∃ z, z = zs ++ spJ (ss.take i) := ⟨_, rfl⟩
      rw [← hy] at hFi
      rw [← hz] at hat
      have HY : Hid (y = ss.getD i []) := hy
      have HZ : Hid (z = zs ++ spJ (ss.take i)) := hz
      have HA : Hid (At w B b wr z) := hat
      have HLE : Hid (z.length + (1 + y.length) ≤ 1000000000) := by
        have h1 := HL.out
        have h2 := spJ_le ss (i + 1)
        rw [spJ_take ss (by rw [← HE.out]; exact hlt), ← hy] at h2
        simp only [List.length_append, List.length_cons, List.length_nil] at h2
        show z.length + (1 + y.length) ≤ 1000000000
        rw [hz, List.length_append]
        omega
      have HFI : Hid (∀ W z', At w B b W z' → z'.length + y.length ≤ 1000000000 → Calls Tryd.prog F #[.func (.func K) #[] #[.pointer (some ⟨b, 0, none⟩)], .agg #[.int .u8 c0, .string c1, .int .i64 c2, .string c3, .slice a4 n4 m4, .slice a5 n5 m5]] W (Lays1 B b W (z' ++ y))) := hFi
      have hn1 := hat.bd.new (Nat.le_refl _)
      have hlb := hat.bd.lt
      clear hat hc hy hz hFi he
      have tok1 : Hid True := trivial
      have tok2 : Hid True := trivial
      go_wp2_with (first | (go_at_fn K; have tku := tok1; clear tku tok1; refine (put1 hK (HA.out.bd.alloc (.cells #[.int .u8 c0, .string c1, .int .i64 c2, .string c3, .slice a4 n4 m4, .slice a5 n5 m5] 54)) [32] (by have := HLE.out; simp only [List.length_cons, List.length_nil]; omega) (by simp)).mono ?_; rintro e w2 ⟨rfl, h2⟩; have f0 := h2.fb.cell (k := wr.heap.size) (off := 0) (v := .int .u8 c0) (by simp) (hn1.alloc hlb _) (by simp); have f1 := h2.fb.cell (k := wr.heap.size) (off := 1) (v := .string c1) (by simp) (hn1.alloc hlb _) (by simp); have f2 := h2.fb.cell (k := wr.heap.size) (off := 2) (v := .int .i64 c2) (by simp) (hn1.alloc hlb _) (by simp); have f3 := h2.fb.cell (k := wr.heap.size) (off := 3) (v := .string c3) (by simp) (hn1.alloc hlb _) (by simp); have f4 := h2.fb.cell (k := wr.heap.size) (off := 4) (v := .slice a4 n4 m4) (by simp) (hn1.alloc hlb _) (by simp); have f5 := h2.fb.cell (k := wr.heap.size) (off := 5) (v := .slice a5 n5 m5) (by simp) (hn1.alloc hlb _) (by simp); have hsz2 := h2.bel.size; rw [World.size_alloc] at hsz2; have H2 : Hid (At w B b w2 (z ++ [32])) := (HA.out.alloc (.cells #[.int .u8 c0, .string c1, .int .i64 c2, .string c3, .slice a4 n4 m4, .slice a5 n5 m5] 54)).trans h2; clear h2) | (go_at_fn F; have tku := tok2; clear tku tok2; refine (HFI.out _ _ H2.out (by have := HLE.out; simp only [List.length_append, List.length_cons, List.length_nil]; omega)).mono ?_; rintro e w3 ⟨rfl, h3⟩; have H3 : Hid (At w B b w3 ((z ++ [32]) ++ y)) := H2.out.trans h3; clear h3))
      go_roundw
      case rel => exact ⟨i + 1, by simp, by omega, by rw [spJ_take ss (by rw [← HE.out]; exact hlt), ← HY.out, ← List.append_assoc, ← HZ.out, ← List.append_assoc]; exact H3.out⟩
      case measure => simp [intOf]; omega
    · have hiz : ¬ (i : Int) < css.length := by omega
      obtain rfl : i = css.length := by omega
      go_wp2
      go_end0
      exact ⟨rfl, by have := hat; rw [HE.out, List.take_length] at this; exact this⟩
set_option maxHeartbeats 4000000 in
theorem each52 {B K F b : Nat} (hK : PutC K) (hEF : Enters Tryd.prog F) (zs : Str) (v : Value) (css : List (List Value)) (ss : List Str) (w : World) (hs : SlW 3 w (fun k => k < B) v css) (hsh : ∀ i, i < css.length → ∃ (c0 : ByteArray) (a1 : Option Addr) (n1 m1 : Nat) (a2 : Option Addr) (n2 m2 : Nat), css.getD i [] = [.string c0, .slice a1 n1 m1, .slice a2 n2 m2]) (hl : css.length = ss.length) (hb : Bd w B b zs) (hlen : zs.length + (spJ ss).length ≤ 1000000000)
    (hF : ∀ i, i < css.length → ∀ W z, At w B b W z → z.length + (ss.getD i []).length ≤ 1000000000 → Calls Tryd.prog F #[pv K b, .agg (css.getD i []).toArray] W (Lays1 B b W (z ++ ss.getD i []))) :
    Calls Tryd.prog 52 #[pv K b, v, .func (.func F) #[] #[]] w (Lays1 B b w (zs ++ spJ ss)) := by
  obtain ⟨a, c, rfl⟩ := hs.shape
  obtain ⟨-, l1, m1, -⟩ := hs.row
  have R1 : Hid (∀ i, i < css.length → ∃ k off, a = some ⟨k, off, none⟩ ∧ k < B ∧ ∀ j, j < 3 → w.cell? ⟨k, off + (i * 3 + j), none⟩ = (css.getD i [])[j]?) := by
    intro i hi
    obtain ⟨a', cap', h1, h2, h3, h4⟩ := hs
    obtain ⟨rfl, -, -⟩ := Value.slice.inj h1
    rcases h4 with h4 | ⟨k, off, e, hk, hp, hc⟩
    · rw [h4] at hi; simp at hi
    · exact ⟨k, off, e, hp, fun j hj => hc i j hi hj⟩
  have HSH : Hid (∀ i, i < css.length → ∃ (c0 : ByteArray) (a1 : Option Addr) (n1 m1 : Nat) (a2 : Option Addr) (n2 m2 : Nat), css.getD i [] = [.string c0, .slice a1 n1 m1, .slice a2 n2 m2]) := hsh
  have HL : Hid (zs.length + (spJ ss).length ≤ 1000000000) := hlen
  have HE : Hid (css.length = ss.length) := hl
  have HB : Hid (Bd w B b zs) := hb
  clear hs hlen hb hl hsh
  have hnn : (css.length : Int) ≤ 9223372036854775807 := by omega
  have eK : ∀ (args : Array Value) (w : World), (callFunc K args).run Tryd.prog w = .ok (.enter K args) w := hK.1
  have eF : ∀ (args : Array Value) (w : World), (callFunc F args).run Tryd.prog w = .ok (.enter F args) w := hEF
  unfold pv at *
  go_enter Tryd.func52, Tryd.ntmps52
  go_wp2
  go_loopw [10] (fun v wr => ∃ i : Nat, v = .int .i64 i ∧ i ≤ css.length ∧ At w B b wr (zs ++ spJ (ss.take i))) (fun v _ => (css.length - intOf v).toNat)
  case atStart => exact ⟨0, rfl, Nat.zero_le _, by rw [List.take_zero, spJ_nil, List.append_nil]; exact At.refl HB.out⟩
  case round =>
    obtain ⟨i, rfl, hi, hat⟩ := hrel
    by_cases hlt : i < css.length
    · have hiz : (i : Int) < css.length := by omega
      obtain ⟨k, off, rfl, hk, hc⟩ := R1.out i hlt
      obtain ⟨c0, a1, n1, m1, a2, n2, m2, he⟩ := HSH.out i hlt
      have hFi := hF i hlt
      rw [he] at hc hFi
      have q0 := (hat.bel.cell (p := ⟨k, off + (i * 3 + 0), none⟩) hk).trans (hc 0 (by decide))
      have p0 : wr.cell? ⟨k, off + i * 3, none⟩ = some (.string c0) := by simpa [Nat.add_assoc] using q0
      clear q0
      have q1 := (hat.bel.cell (p := ⟨k, off + (i * 3 + 1), none⟩) hk).trans (hc 1 (by decide))
      have p1 : wr.cell? ⟨k, off + i * 3 + 1, none⟩ = some (.slice a1 n1 m1) := by simpa [Nat.add_assoc] using q1
      clear q1
      have q2 := (hat.bel.cell (p := ⟨k, off + (i * 3 + 2), none⟩) hk).trans (hc 2 (by decide))
      have p2 : wr.cell? ⟨k, off + i * 3 + 2, none⟩ = some (.slice a2 n2 m2) := by simpa [Nat.add_assoc] using q2
      clear q2
      obtain ⟨y, hy⟩ : ∃ y, y = ss.getD i [] := ⟨_, rfl⟩
      obtain ⟨z, hz⟩ : ∃ z, z = zs ++ spJ (ss.take i) := ⟨_, rfl⟩
      rw [← hy] at hFi
      rw [← hz] at hat
      have HY : Hid (y = ss.getD i []) := hy
      have HZ : Hid (z = zs ++ spJ (ss.take i)) := hz
      have HA : Hid (At w B b wr z) := hat
      have HLE : Hid (z.length + (1 + y.length) ≤ 1000000000) := by
        have h1 := HL.out
        have h2 := spJ_le ss (i + 1)
        rw [spJ_take ss (by rw [← HE.out]; exact hlt), ← hy] at h2
        simp only [List.length_append, List.length_cons, List.length_nil] at h2
        show z.length + (1 + y.length) ≤ 1000000000
        rw [hz, List.length_append]
        omega
      have HFI : Hid (∀ W z', At w B b W z' → z'.length + y.length ≤ 1000000000 → Calls Tryd.prog F #[.func (.func K) #[] #[.pointer (some ⟨b, 0, none⟩)], .agg #[.string c0, .slice a1 n1 m1, .slice a2 n2 m2]] W (Lays1 B b W (z' ++ y))) := hFi
      have hn1 := hat.bd.new (Nat.le_refl _)
      have hlb := hat.bd.lt
      clear hat hc hy hz hFi he
      have tok1 : Hid True := trivial
      have tok2 : Hid True := trivial
      go_wp2_with (first | (go_at_fn K; have tku := tok1; clear tku tok1; refine (put1 hK (HA.out.bd.alloc (.cells #[.string c0, .slice a1 n1 m1, .slice a2 n2 m2] 49)) [32] (by have := HLE.out; simp only [List.length_cons, List.length_nil]; omega) (by simp)).mono ?_; rintro e w2 ⟨rfl, h2⟩; have f0 := h2.fb.cell (k := wr.heap.size) (off := 0) (v := .string c0) (by simp) (hn1.alloc hlb _) (by simp); have f1 := h2.fb.cell (k := wr.heap.size) (off := 1) (v := .slice a1 n1 m1) (by simp) (hn1.alloc hlb _) (by simp); have f2 := h2.fb.cell (k := wr.heap.size) (off := 2) (v := .slice a2 n2 m2) (by simp) (hn1.alloc hlb _) (by simp); have hsz2 := h2.bel.size; rw [World.size_alloc] at hsz2; have H2 : Hid (At w B b w2 (z ++ [32])) := (HA.out.alloc (.cells #[.string c0, .slice a1 n1 m1, .slice a2 n2 m2] 49)).trans h2; clear h2) | (go_at_fn F; have tku := tok2; clear tku tok2; refine (HFI.out _ _ H2.out (by have := HLE.out; simp only [List.length_append, List.length_cons, List.length_nil]; omega)).mono ?_; rintro e w3 ⟨rfl, h3⟩; have H3 : Hid (At w B b w3 ((z ++ [32]) ++ y)) := H2.out.trans h3; clear h3))
      go_roundw
      case rel => exact ⟨i + 1, by simp, by omega, by rw [spJ_take ss (by rw [← HE.out]; exact hlt), ← HY.out, ← List.append_assoc, ← HZ.out, ← List.append_assoc]; exact H3.out⟩
      case measure => simp [intOf]; omega
    · have hiz : ¬ (i : Int) < css.length := by omega
      obtain rfl : i = css.length := by omega
      go_wp2
      go_end0
      exact ⟨rfl, by have := hat; rw [HE.out, List.take_length] at this; exact this⟩
set_option maxHeartbeats 4000000 in
theorem each56 {B K F b : Nat} (hK : PutC K) (hEF : Enters Tryd.prog F) (zs : Str) (v : Value) (css : List (List Value)) (ss : List Str) (w : World) (hs : SlW 5 w (fun k => k < B) v css) (hsh : ∀ i, i < css.length → ∃ (c0 : Int) (c1 : ByteArray) (c2 : Int) (c3 : Int) (c4 : ByteArray), css.getD i [] = [.int .u8 c0, .string c1, .int .u8 c2, .int .i64 c3, .string c4]) (hl : css.length = ss.length) (hb : Bd w B b zs) (hlen : zs.length + (spJ ss).length ≤ 1000000000)
    (hF : ∀ i, i < css.length → ∀ W z, At w B b W z → z.length + (ss.getD i []).length ≤ 1000000000 → Calls Tryd.prog F #[pv K b, .agg (css.getD i []).toArray] W (Lays1 B b W (z ++ ss.getD i []))) :
    Calls Tryd.prog 56 #[pv K b, v, .func (.func F) #[] #[]] w (Lays1 B b w (zs ++ spJ ss)) := by
  obtain ⟨a, c, rfl⟩ := hs.shape
  obtain ⟨-, l1, m1, -⟩ := hs.row
  have R1 : Hid (∀ i, i < css.length → ∃ k off, a = some ⟨k, off, none⟩ ∧ k < B ∧ ∀ j, j < 5 → w.cell? ⟨k, off + (i * 5 + j), none⟩ = (css.getD i [])[j]?) := by
    intro i hi
    obtain ⟨a', cap', h1, h2, h3, h4⟩ := hs
    obtain ⟨rfl, -, -⟩ := Value.slice.inj h1
    rcases h4 with h4 | ⟨k, off, e, hk, hp, hc⟩
    · rw [h4] at hi; simp at hi
    · exact ⟨k, off, e, hp, fun j hj => hc i j hi hj⟩
  have HSH : Hid (∀ i, i < css.length → ∃ (c0 : Int) (c1 : ByteArray) (c2 : Int) (c3 : Int) (c4 : ByteArray), css.getD i [] = [.int .u8 c0, .string c1, .int .u8 c2, .int .i64 c3, .string c4]) := hsh
  have HL : Hid (zs.length + (spJ ss).length ≤ 1000000000) := hlen
  have HE : Hid (css.length = ss.length) := hl
  have HB : Hid (Bd w B b zs) := hb
  clear hs hlen hb hl hsh
  have hnn : (css.length : Int) ≤ 9223372036854775807 := by omega
  have eK : ∀ (args : Array Value) (w : World), (callFunc K args).run Tryd.prog w = .ok (.enter K args) w := hK.1
  have eF : ∀ (args : Array Value) (w : World), (callFunc F args).run Tryd.prog w = .ok (.enter F args) w := hEF
  unfold pv at *
  go_enter Tryd.func56, Tryd.ntmps56
  go_wp2
  go_loopw [10] (fun v wr => ∃ i : Nat, v = .int .i64 i ∧ i ≤ css.length ∧ At w B b wr (zs ++ spJ (ss.take i))) (fun v _ => (css.length - intOf v).toNat)
  case atStart => exact ⟨0, rfl, Nat.zero_le _, by rw [List.take_zero, spJ_nil, List.append_nil]; exact At.refl HB.out⟩
  case round =>
    obtain ⟨i, rfl, hi, hat⟩ := hrel
    by_cases hlt : i < css.length
    · have hiz : (i : Int) < css.length := by omega
      obtain ⟨k, off, rfl, hk, hc⟩ := R1.out i hlt
      obtain ⟨c0, c1, c2, c3, c4, he⟩ := HSH.out i hlt
      have hFi := hF i hlt
      rw [he] at hc hFi
      have q0 := (hat.bel.cell (p := ⟨k, off + (i * 5 + 0), none⟩) hk).trans (hc 0 (by decide))
      have p0 : wr.cell? ⟨k, off + i * 5, none⟩ = some (.int .u8 c0) := by simpa [Nat.add_assoc] using q0
      clear q0
      have q1 := (hat.bel.cell (p := ⟨k, off + (i * 5 + 1), none⟩) hk).trans (hc 1 (by decide))
      have p1 : wr.cell? ⟨k, off + i * 5 + 1, none⟩ = some (.string c1) := by simpa [Nat.add_assoc] using q1
      clear q1
      have q2 := (hat.bel.cell (p := ⟨k, off + (i * 5 + 2), none⟩) hk).trans (hc 2 (by decide))
      have p2 : wr.cell? ⟨k, off + i * 5 + 2, none⟩ = some (.int .u8 c2) := by simpa [Nat.add_assoc] using q2
      clear q2
      have q3 := (hat.bel.cell (p := ⟨k, off + (i * 5 + 3), none⟩) hk).trans (hc 3 (by decide))
      have p3 : wr.cell? ⟨k, off + i * 5 + 3, none⟩ = some (.int .i64 c3) := by simpa [Nat.add_assoc] using q3
      clear q3
      have q4 := (hat.bel.cell (p := ⟨k, off + (i * 5 + 4), none⟩) hk).trans (hc 4 (by decide))
      have p4 : wr.cell? ⟨k, off + i * 5 + 4, none⟩ = some (.string c4) := by simpa [Nat.add_assoc] using q4
      clear q4
      obtain ⟨y, hy⟩ : ∃ y, y = ss.getD i [] := ⟨_, rfl⟩
      obtain ⟨z, hz⟩ : ∃ z, z = zs ++ spJ (ss.take i) := ⟨_, rfl⟩
      rw [← hy] at hFi
      rw [← hz] at hat
      have HY : Hid (y = ss.getD i []) := hy
      have HZ : Hid (z = zs ++ spJ (ss.take i)) := hz
      have HA : Hid (At w B b wr z) := hat
      have HLE : Hid (z.length + (1 + y.length) ≤ 1000000000) := by
        have h1 := HL.out
        have h2 := spJ_le ss (i + 1)
        rw [spJ_take ss (by rw [← HE.out]; exact hlt), ← hy] at h2
        simp only [List.length_append, List.length_cons, List.length_nil] at h2
        show z.length + (1 + y.length) ≤ 1000000000
        rw [hz, List.length_append]
        omega
      have HFI : Hid (∀ W z', At w B b W z' → z'.length + y.length ≤ 1000000000 → Calls Tryd.prog F #[.func (.func K) #[] #[.pointer (some ⟨b, 0, none⟩)], .agg #[.int .u8 c0, .string c1, .int .u8 c2, .int .i64 c3, .string c4]] W (Lays1 B b W (z' ++ y))) := hFi
      have hn1 := hat.bd.new (Nat.le_refl _)
      have hlb := hat.bd.lt
      clear hat hc hy hz hFi he
      have tok1 : Hid True := trivial
      have tok2 : Hid True := trivial
      go_wp2_with (first | (go_at_fn K; have tku := tok1; clear tku tok1; refine (put1 hK (HA.out.bd.alloc (.cells #[.int .u8 c0, .string c1, .int .u8 c2, .int .i64 c3, .string c4] 57)) [32] (by have := HLE.out; simp only [List.length_cons, List.length_nil]; omega) (by simp)).mono ?_; rintro e w2 ⟨rfl, h2⟩; have f0 := h2.fb.cell (k := wr.heap.size) (off := 0) (v := .int .u8 c0) (by simp) (hn1.alloc hlb _) (by simp); have f1 := h2.fb.cell (k := wr.heap.size) (off := 1) (v := .string c1) (by simp) (hn1.alloc hlb _) (by simp); have f2 := h2.fb.cell (k := wr.heap.size) (off := 2) (v := .int .u8 c2) (by simp) (hn1.alloc hlb _) (by simp); have f3 := h2.fb.cell (k := wr.heap.size) (off := 3) (v := .int .i64 c3) (by simp) (hn1.alloc hlb _) (by simp); have f4 := h2.fb.cell (k := wr.heap.size) (off := 4) (v := .string c4) (by simp) (hn1.alloc hlb _) (by simp); have hsz2 := h2.bel.size; rw [World.size_alloc] at hsz2; have H2 : Hid (At w B b w2 (z ++ [32])) := (HA.out.alloc (.cells #[.int .u8 c0, .string c1, .int .u8 c2, .int .i64 c3, .string c4] 57)).trans h2; clear h2) | (go_at_fn F; have tku := tok2; clear tku tok2; refine (HFI.out _ _ H2.out (by have := HLE.out; simp only [List.length_append, List.length_cons, List.length_nil]; omega)).mono ?_; rintro e w3 ⟨rfl, h3⟩; have H3 : Hid (At w B b w3 ((z ++ [32]) ++ y)) := H2.out.trans h3; clear h3))
      go_roundw
      case rel => exact ⟨i + 1, by simp, by omega, by rw [spJ_take ss (by rw [← HE.out]; exact hlt), ← HY.out, ← List.append_assoc, ← HZ.out, ← List.append_assoc]; exact H3.out⟩
      case measure => simp [intOf]; omega
    · have hiz : ¬ (i : Int) < css.length := by omega
      obtain rfl : i = css.length := by omega
      go_wp2
      go_end0
      exact ⟨rfl, by have := hat; rw [HE.out, List.take_length] at this; exact this⟩
set_option maxHeartbeats 4000000 in
theorem each60 {B K F b : Nat} (hK : PutC K) (hEF : Enters Tryd.prog F) (zs : Str) (v : Value) (css : List (List Value)) (ss : List Str) (w : World) (hs : SlW 2 w (fun k => k < B) v css) (hsh : ∀ i, i < css.length → ∃ (c0 : ByteArray) (a1 : Option Addr) (n1 m1 : Nat), css.getD i [] = [.string c0, .slice a1 n1 m1]) (hl : css.length = ss.length) (hb : Bd w B b zs) (hlen : zs.length + (spJ ss).length ≤ 1000000000)
    (hF : ∀ i, i < css.length → ∀ W z, At w B b W z → z.length + (ss.getD i []).length ≤ 1000000000 → Calls Tryd.prog F #[pv K b, .agg (css.getD i []).toArray] W (Lays1 B b W (z ++ ss.getD i []))) :
    Calls Tryd.prog 60 #[pv K b, v, .func (.func F) #[] #[]] w (Lays1 B b w (zs ++ spJ ss)) := by
  obtain ⟨a, c, rfl⟩ := hs.shape
  obtain ⟨-, l1, m1, -⟩ := hs.row
  have R1 : Hid (∀ i, i < css.length → ∃ k off, a = some ⟨k, off, none⟩ ∧ k < B ∧ ∀ j, j < 2 → w.cell? ⟨k, off + (i * 2 + j), none⟩ = (css.getD i [])[j]?) := by
    intro i hi
    obtain ⟨a', cap', h1, h2, h3, h4⟩ := hs
    obtain ⟨rfl, -, -⟩ := Value.slice.inj h1
    rcases h4 with h4 | ⟨k, off, e, hk, hp, hc⟩
    · rw [h4] at hi; simp at hi
    · exact ⟨k, off, e, hp, fun j hj => hc i j hi hj⟩
  have HSH : Hid (∀ i, i < css.length → ∃ (c0 : ByteArray) (a1 : Option Addr) (n1 m1 : Nat), css.getD i [] = [.string c0, .slice a1 n1 m1]) := hsh
  have HL : Hid (zs.length + (spJ ss).length ≤ 1000000000) := hlen
  have HE : Hid (css.length = ss.length) := hl
  have HB : Hid (Bd w B b zs) := hb
  clear hs hlen hb hl hsh
  have hnn : (css.length : Int) ≤ 9223372036854775807 := by omega
  have eK : ∀ (args : Array Value) (w : World), (callFunc K args).run Tryd.prog w = .ok (.enter K args) w := hK.1
  have eF : ∀ (args : Array Value) (w : World), (callFunc F args).run Tryd.prog w = .ok (.enter F args) w := hEF
  unfold pv at *
  go_enter Tryd.func60, Tryd.ntmps60
  go_wp2
  go_loopw [10] (fun v wr => ∃ i : Nat, v = .int .i64 i ∧ i ≤ css.length ∧ At w B b wr (zs ++ spJ (ss.take i))) (fun v _ => (css.length - intOf v).toNat)
  case atStart => exact ⟨0, rfl, Nat.zero_le _, by rw [List.take_zero, spJ_nil, List.append_nil]; exact At.refl HB.out⟩
  case round =>
    obtain ⟨i, rfl, hi, hat⟩ := hrel
    by_cases hlt : i < css.length
    · have hiz : (i : Int) < css.length := by omega
      obtain ⟨k, off, rfl, hk, hc⟩ := R1.out i hlt
      obtain ⟨c0, a1, n1, m1, he⟩ := HSH.out i hlt
      have hFi := hF i hlt
      rw [he] at hc hFi
      have q0 := (hat.bel.cell (p := ⟨k, off + (i * 2 + 0), none⟩) hk).trans (hc 0 (by decide))
      have p0 : wr.cell? ⟨k, off + i * 2, none⟩ = some (.string c0) := by simpa [Nat.add_assoc] using q0
      clear q0
      have q1 := (hat.bel.cell (p := ⟨k, off + (i * 2 + 1), none⟩) hk).trans (hc 1 (by decide))
      have p1 : wr.cell? ⟨k, off + i * 2 + 1, none⟩ = some (.slice a1 n1 m1) := by simpa [Nat.add_assoc] using q1
      clear q1
      obtain ⟨y, hy⟩ : ∃ y, y = ss.getD i [] := ⟨_, rfl⟩
      obtain ⟨z, hz⟩ : ∃ z, z = zs ++ spJ (ss.take i) := ⟨_, rfl⟩
      rw [← hy] at hFi
      rw [← hz] at hat
      have HY : Hid (y = ss.getD i []) := hy
      have HZ : Hid (z = zs ++ spJ (ss.take i)) := hz
      have HA : Hid (At w B b wr z) := hat
      have HLE : Hid (z.length + (1 + y.length) ≤ 1000000000) := by
        have h1 := HL.out
        have h2 := spJ_le ss (i + 1)
        rw [spJ_take ss (by rw [← HE.out]; exact hlt), ← hy] at h2
        simp only [List.length_append, List.length_cons, List.length_nil] at h2
        show z.length + (1 + y.length) ≤ 1000000000
        rw [hz, List.length_append]
        omega
      have HFI : Hid (∀ W z', At w B b W z' → z'.length + y.length ≤ 1000000000 → Calls Tryd.prog F #[.func (.func K) #[] #[.pointer (some ⟨b, 0, none⟩)], .agg #[.string c0, .slice a1 n1 m1]] W (Lays1 B b W (z' ++ y))) := hFi
      have hn1 := hat.bd.new (Nat.le_refl _)
      have hlb := hat.bd.lt
      clear hat hc hy hz hFi he
      have tok1 : Hid True := trivial
      have tok2 : Hid True := trivial
      go_wp2_with (first | (go_at_fn K; have tku := tok1; clear tku tok1; refine (put1 hK (HA.out.bd.alloc (.cells #[.string c0, .slice a1 n1 m1] 77)) [32] (by have := HLE.out; simp only [List.length_cons, List.length_nil]; omega) (by simp)).mono ?_; rintro e w2 ⟨rfl, h2⟩; have f0 := h2.fb.cell (k := wr.heap.size) (off := 0) (v := .string c0) (by simp) (hn1.alloc hlb _) (by simp); have f1 := h2.fb.cell (k := wr.heap.size) (off := 1) (v := .slice a1 n1 m1) (by simp) (hn1.alloc hlb _) (by simp); have hsz2 := h2.bel.size; rw [World.size_alloc] at hsz2; have H2 : Hid (At w B b w2 (z ++ [32])) := (HA.out.alloc (.cells #[.string c0, .slice a1 n1 m1] 77)).trans h2; clear h2) | (go_at_fn F; have tku := tok2; clear tku tok2; refine (HFI.out _ _ H2.out (by have := HLE.out; simp only [List.length_append, List.length_cons, List.length_nil]; omega)).mono ?_; rintro e w3 ⟨rfl, h3⟩; have H3 : Hid (At w B b w3 ((z ++ [32]) ++ y)) := H2.out.trans h3; clear h3))
      go_roundw
      case rel => exact ⟨i + 1, by simp, by omega, by rw [spJ_take ss (by rw [← HE.out]; exact hlt), ← HY.out, ← List.append_assoc, ← HZ.out, ← List.append_assoc]; exact H3.out⟩
      case measure => simp [intOf]; omega
    · have hiz : ¬ (i : Int) < css.length := by omega
      obtain rfl : i = css.length := by omega
      go_wp2
      go_end0
      exact ⟨rfl, by have := hat; rw [HE.out, List.take_length] at this; exact this⟩
end Go.Proofs.YtemacdimdpnkeaaDoor
namespace Go.Proofs.YtemacdimdpnkeaaDoor
open Go.RowKit
set_option linter.unusedVariables false
set_option linter.unusedSimpArgs false
set_option maxRecDepth 20000
set_option maxHeartbeats 4000000 in
theorem name_lay {B K b : Nat} (hK : PutC K) (zs : Str) (x : Str) (w : World) (hb : Bd w B b zs) (hlen : zs.length + (x).length ≤ 1000000000)  :
    Calls Tryd.prog 75 #[pv K b, .string (st x)] w (Lays1 B b w (zs ++ (x))) := by
  have eK : ∀ (args : Array Value) (w : World), (callFunc K args).run Tryd.prog w = .ok (.enter K args) w := hK.1
  have HL : Hid (zs.length + (x).length ≤ 1000000000) := hlen
  have HB : Hid (Bd w B b zs) := hb
  have H0 : Hid (At w B b w zs) := At.refl HB.out
  have HZ : Hid (At w B b w zs) := At.refl HB.out
  have hb1 := hb.lt
  clear hlen hb
  have tok1 : Hid True := trivial
  unfold pv at *
  go_enter Tryd.func75, Tryd.ntmps75
  go_wp2_with (first | (go_at_fn K; have tku := tok1; clear tku tok1; refine (put1 hK H0.out.bd (x) (by have := HL.out; (try simp only [List.length_append, List.length_cons, List.length_nil] at this ⊢); omega) (by simp)).mono ?_; rintro e w1 ⟨rfl, hh⟩; have hh1 : At w B b w1 (zs ++ (x)) := H0.out.trans hh; clear hh; have H1 : Hid (At w B b w1 (zs ++ (x))) := hh1; have hs1 := hh1.bel.size; clear hh1))
  go_end0
  exact ⟨rfl, by have := HZ.out.trans H1.out; first | exact this | simpa only [List.append_assoc, List.cons_append, List.nil_append] using this⟩
set_option maxHeartbeats 4000000 in
theorem var_lay {B K b : Nat} (hK : PutC K) (zs : Str) (x : Str) (w : World) (hb : Bd w B b zs) (hlen : zs.length + ([60] ++ (x ++ [62])).length ≤ 1000000000)  :
    Calls Tryd.prog 63 #[pv K b, .string (st x)] w (Lays1 B b w (zs ++ ([60] ++ (x ++ [62])))) := by
  have eK : ∀ (args : Array Value) (w : World), (callFunc K args).run Tryd.prog w = .ok (.enter K args) w := hK.1
  have HL : Hid (zs.length + ([60] ++ (x ++ [62])).length ≤ 1000000000) := hlen
  have HB : Hid (Bd w B b zs) := hb
  have H0 : Hid (At w B b w zs) := At.refl HB.out
  have HZ : Hid (At w B b w zs) := At.refl HB.out
  have hb1 := hb.lt
  clear hlen hb
  have tok1 : Hid True := trivial
  unfold pv at *
  go_enter Tryd.func63, Tryd.ntmps63
  go_wp2_with (first | (go_at_fn K; have tku := tok1; clear tku tok1; refine (put3 hK H0.out.bd ([60]) (x) ([62]) (by have := HL.out; (try simp only [List.length_append, List.length_cons, List.length_nil] at this ⊢); omega) (by simp)).mono ?_; rintro e w1 ⟨rfl, hh⟩; have hh1 : At w B b w1 (zs ++ ([60] ++ (x ++ ([62])))) := H0.out.trans hh; clear hh; have H1 : Hid (At w B b w1 (zs ++ ([60] ++ (x ++ ([62]))))) := hh1; have hs1 := hh1.bel.size; clear hh1))
  go_end0
  exact ⟨rfl, by have := HZ.out.trans H1.out; first | exact this | simpa only [List.append_assoc, List.cons_append, List.nil_append] using this⟩
end Go.Proofs.YtemacdimdpnkeaaDoor
namespace Go.Proofs.YtemacdimdpnkeaaDoor
open Go.RowKit
set_option linter.unusedVariables false
set_option linter.unusedSimpArgs false
set_option maxRecDepth 20000
theorem new_hp {w : World} {o : Obj} {X : Nat} (hX : X = w.heap.size) : (w.alloc o).heap[X]? = some o := by subst hX; exact heap_alloc_new w o
theorem bd_new (w : World) : Bd (w.alloc (.cells #[.pointer none, .slice none 0 0] 83)) w.heap.size w.heap.size [] :=
  .inl ⟨Nat.le_refl _, .slice none 0 0, new_hp rfl, ⟨rfl, .inl ⟨rfl, rfl⟩⟩, by simp [Value.ownBlock]⟩
theorem string_any (B b : Nat) (zs : Str) (w : World) (h : Bd w B b zs) (hB : B ≤ w.heap.size) :
    Calls Tryd.prog 40 #[.pointer (some ⟨b, 0, none⟩)] w fun e w' => e = .returned (.string (st zs)) ∧ Below B w w' := by
  have C : Calls Tryd.prog 40 #[.pointer (some ⟨b, 0, none⟩)] w _ := Any.Builder_String_any_k Tryd.lays169 Tryd.Builder_Extra_169 B b zs w h hB
  refine C.mono ?_
  rintro e w' ⟨h1, h2, h3, h4⟩
  exact ⟨h1, h3⟩
def Says (w : World) (s : Str) (e : Ending) (w' : World) : Prop := e = .returned (.string (st s)) ∧ Below w.heap.size w w'
set_option maxHeartbeats 2000000 in
theorem told21 {LF : Nat} (hEF : Enters Tryd.prog LF) (hK : PutC 38) (a0 : Option Addr) (n0 m0 : Nat) (s : Str) (w : World) (hL : ∀ W b, Below w.heap.size w W → w.heap.size ≤ b → Bd W b b [] → Calls Tryd.prog LF #[pv 38 b, .slice a0 n0 m0] W (Lays1 b b W s)) :
    Calls Tryd.prog 21 #[.func (.func LF) #[] #[], .slice a0 n0 m0] w (Says w s) := by
  have eF : ∀ (args : Array Value) (w : World), (callFunc LF args).run Tryd.prog w = .ok (.enter LF args) w := hEF
  have HL := hL (w.alloc (.cells #[.pointer none, .slice none 0 0] 83)) w.heap.size (bxn _ _) (Nat.le_refl _) (bd_new w)
  clear hL
  unfold pv at *
  (try simp only [World.size_alloc] at HL)
  go_enter Tryd.func21, Tryd.ntmps21
  go_wp2_with (first | (go_at_fn LF; refine HL.mono ?_; rintro e w2 ⟨rfl, hh⟩; have H2 : Hid (At _ _ _ w2 s) := hh; clear hh) | (go_at_call 40; refine (string_any _ _ s _ H2.out.bd (by have h1 := H2.out.bd.lt; omega)).mono ?_; rintro e w3 ⟨rfl, hh⟩; have H3 : Hid (Below _ w2 w3) := hh; clear hh))
  go_ret
  exact ⟨rfl, (bxn _ _).trans ((H2.out.bel.trans H3.out).mono (by simp))⟩
set_option maxHeartbeats 2000000 in
theorem told26 {LF : Nat} (hEF : Enters Tryd.prog LF) (hK : PutC 48) (c0 : ByteArray) (a1 : Option Addr) (n1 m1 : Nat) (a2 : Option Addr) (n2 m2 : Nat) (s : Str) (w : World) (hL : ∀ W b, Below w.heap.size w W → w.heap.size ≤ b → Bd W b b [] → Calls Tryd.prog LF #[pv 48 b, .agg #[.string c0, .slice a1 n1 m1, .slice a2 n2 m2]] W (Lays1 b b W s)) :
    Calls Tryd.prog 26 #[.func (.func LF) #[] #[], .agg #[.string c0, .slice a1 n1 m1, .slice a2 n2 m2]] w (Says w s) := by
  have eF : ∀ (args : Array Value) (w : World), (callFunc LF args).run Tryd.prog w = .ok (.enter LF args) w := hEF
  have HL := hL ((w.alloc (.cells #[.string c0, .slice a1 n1 m1, .slice a2 n2 m2] 39)).alloc (.cells #[.pointer none, .slice none 0 0] 83)) (w.alloc (.cells #[.string c0, .slice a1 n1 m1, .slice a2 n2 m2] 39)).heap.size (((Below.refl _ w).alloc (Nat.le_refl _) _).alloc (by simp) _) (by simp) (bd_new (w.alloc (.cells #[.string c0, .slice a1 n1 m1, .slice a2 n2 m2] 39)))
  clear hL
  unfold pv at *
  (try simp only [World.size_alloc] at HL)
  go_enter Tryd.func26, Tryd.ntmps26
  go_wp2_with (first | (go_at_fn LF; refine HL.mono ?_; rintro e w2 ⟨rfl, hh⟩; have H2 : Hid (At _ _ _ w2 s) := hh; clear hh) | (go_at_call 40; refine (string_any _ _ s _ H2.out.bd (by have h1 := H2.out.bd.lt; omega)).mono ?_; rintro e w3 ⟨rfl, hh⟩; have H3 : Hid (Below _ w2 w3) := hh; clear hh))
  go_ret
  exact ⟨rfl, (((Below.refl _ w).alloc (Nat.le_refl _) _).alloc (by simp) _).trans ((H2.out.bel.trans H3.out).mono (by simp))⟩
set_option maxHeartbeats 2000000 in
theorem told28 {LF : Nat} (hEF : Enters Tryd.prog LF) (hK : PutC 51) (c0 : Bool) (c1 : ByteArray) (a2 : Option Addr) (n2 m2 : Nat) (s : Str) (w : World) (hL : ∀ W b, Below w.heap.size w W → w.heap.size ≤ b → Bd W b b [] → Calls Tryd.prog LF #[pv 51 b, .agg #[.bool c0, .string c1, .slice a2 n2 m2]] W (Lays1 b b W s)) :
    Calls Tryd.prog 28 #[.func (.func LF) #[] #[], .agg #[.bool c0, .string c1, .slice a2 n2 m2]] w (Says w s) := by
  have eF : ∀ (args : Array Value) (w : World), (callFunc LF args).run Tryd.prog w = .ok (.enter LF args) w := hEF
  have HL := hL ((w.alloc (.cells #[.bool c0, .string c1, .slice a2 n2 m2] 44)).alloc (.cells #[.pointer none, .slice none 0 0] 83)) (w.alloc (.cells #[.bool c0, .string c1, .slice a2 n2 m2] 44)).heap.size (((Below.refl _ w).alloc (Nat.le_refl _) _).alloc (by simp) _) (by simp) (bd_new (w.alloc (.cells #[.bool c0, .string c1, .slice a2 n2 m2] 44)))
  clear hL
  unfold pv at *
  (try simp only [World.size_alloc] at HL)
  go_enter Tryd.func28, Tryd.ntmps28
  go_wp2_with (first | (go_at_fn LF; refine HL.mono ?_; rintro e w2 ⟨rfl, hh⟩; have H2 : Hid (At _ _ _ w2 s) := hh; clear hh) | (go_at_call 40; refine (string_any _ _ s _ H2.out.bd (by have h1 := H2.out.bd.lt; omega)).mono ?_; rintro e w3 ⟨rfl, hh⟩; have H3 : Hid (Below _ w2 w3) := hh; clear hh))
  go_ret
  exact ⟨rfl, (((Below.refl _ w).alloc (Nat.le_refl _) _).alloc (by simp) _).trans ((H2.out.bel.trans H3.out).mono (by simp))⟩
set_option maxHeartbeats 2000000 in
theorem told30 {LF : Nat} (hEF : Enters Tryd.prog LF) (hK : PutC 53) (c0 : ByteArray) (a1 : Option Addr) (n1 m1 : Nat) (a2 : Option Addr) (n2 m2 : Nat) (s : Str) (w : World) (hL : ∀ W b, Below w.heap.size w W → w.heap.size ≤ b → Bd W b b [] → Calls Tryd.prog LF #[pv 53 b, .agg #[.string c0, .slice a1 n1 m1, .slice a2 n2 m2]] W (Lays1 b b W s)) :
    Calls Tryd.prog 30 #[.func (.func LF) #[] #[], .agg #[.string c0, .slice a1 n1 m1, .slice a2 n2 m2]] w (Says w s) := by
  have eF : ∀ (args : Array Value) (w : World), (callFunc LF args).run Tryd.prog w = .ok (.enter LF args) w := hEF
  have HL := hL ((w.alloc (.cells #[.string c0, .slice a1 n1 m1, .slice a2 n2 m2] 49)).alloc (.cells #[.pointer none, .slice none 0 0] 83)) (w.alloc (.cells #[.string c0, .slice a1 n1 m1, .slice a2 n2 m2] 49)).heap.size (((Below.refl _ w).alloc (Nat.le_refl _) _).alloc (by simp) _) (by simp) (bd_new (w.alloc (.cells #[.string c0, .slice a1 n1 m1, .slice a2 n2 m2] 49)))
  clear hL
  unfold pv at *
  (try simp only [World.size_alloc] at HL)
  go_enter Tryd.func30, Tryd.ntmps30
  go_wp2_with (first | (go_at_fn LF; refine HL.mono ?_; rintro e w2 ⟨rfl, hh⟩; have H2 : Hid (At _ _ _ w2 s) := hh; clear hh) | (go_at_call 40; refine (string_any _ _ s _ H2.out.bd (by have h1 := H2.out.bd.lt; omega)).mono ?_; rintro e w3 ⟨rfl, hh⟩; have H3 : Hid (Below _ w2 w3) := hh; clear hh))
  go_ret
  exact ⟨rfl, (((Below.refl _ w).alloc (Nat.le_refl _) _).alloc (by simp) _).trans ((H2.out.bel.trans H3.out).mono (by simp))⟩
set_option maxHeartbeats 2000000 in
theorem told33 {LF : Nat} (hEF : Enters Tryd.prog LF) (hK : PutC 59) (c0 : Int) (c1 : ByteArray) (c2 : Int) (c3 : ByteArray) (a4 : Option Addr) (n4 m4 : Nat) (a5 : Option Addr) (n5 m5 : Nat) (s : Str) (w : World) (hL : ∀ W b, Below w.heap.size w W → w.heap.size ≤ b → Bd W b b [] → Calls Tryd.prog LF #[pv 59 b, .agg #[.int .u8 c0, .string c1, .int .i64 c2, .string c3, .slice a4 n4 m4, .slice a5 n5 m5]] W (Lays1 b b W s)) :
    Calls Tryd.prog 33 #[.func (.func LF) #[] #[], .agg #[.int .u8 c0, .string c1, .int .i64 c2, .string c3, .slice a4 n4 m4, .slice a5 n5 m5]] w (Says w s) := by
  have eF : ∀ (args : Array Value) (w : World), (callFunc LF args).run Tryd.prog w = .ok (.enter LF args) w := hEF
  have HL := hL ((w.alloc (.cells #[.int .u8 c0, .string c1, .int .i64 c2, .string c3, .slice a4 n4 m4, .slice a5 n5 m5] 54)).alloc (.cells #[.pointer none, .slice none 0 0] 83)) (w.alloc (.cells #[.int .u8 c0, .string c1, .int .i64 c2, .string c3, .slice a4 n4 m4, .slice a5 n5 m5] 54)).heap.size (((Below.refl _ w).alloc (Nat.le_refl _) _).alloc (by simp) _) (by simp) (bd_new (w.alloc (.cells #[.int .u8 c0, .string c1, .int .i64 c2, .string c3, .slice a4 n4 m4, .slice a5 n5 m5] 54)))
  clear hL
  unfold pv at *
  (try simp only [World.size_alloc] at HL)
  go_enter Tryd.func33, Tryd.ntmps33
  go_wp2_with (first | (go_at_fn LF; refine HL.mono ?_; rintro e w2 ⟨rfl, hh⟩; have H2 : Hid (At _ _ _ w2 s) := hh; clear hh) | (go_at_call 40; refine (string_any _ _ s _ H2.out.bd (by have h1 := H2.out.bd.lt; omega)).mono ?_; rintro e w3 ⟨rfl, hh⟩; have H3 : Hid (Below _ w2 w3) := hh; clear hh))
  go_ret
  exact ⟨rfl, (((Below.refl _ w).alloc (Nat.le_refl _) _).alloc (by simp) _).trans ((H2.out.bel.trans H3.out).mono (by simp))⟩
set_option maxHeartbeats 2000000 in
theorem told36 {LF : Nat} (hEF : Enters Tryd.prog LF) (hK : PutC 65) (a0 : Option Addr) (n0 m0 : Nat) (a1 : Option Addr) (n1 m1 : Nat) (s : Str) (w : World) (hL : ∀ W b, Below w.heap.size w W → w.heap.size ≤ b → Bd W b b [] → Calls Tryd.prog LF #[pv 65 b, .agg #[.slice a0 n0 m0, .slice a1 n1 m1]] W (Lays1 b b W s)) :
    Calls Tryd.prog 36 #[.func (.func LF) #[] #[], .agg #[.slice a0 n0 m0, .slice a1 n1 m1]] w (Says w s) := by
  have eF : ∀ (args : Array Value) (w : World), (callFunc LF args).run Tryd.prog w = .ok (.enter LF args) w := hEF
  have HL := hL ((w.alloc (.cells #[.slice a0 n0 m0, .slice a1 n1 m1] 34)).alloc (.cells #[.pointer none, .slice none 0 0] 83)) (w.alloc (.cells #[.slice a0 n0 m0, .slice a1 n1 m1] 34)).heap.size (((Below.refl _ w).alloc (Nat.le_refl _) _).alloc (by simp) _) (by simp) (bd_new (w.alloc (.cells #[.slice a0 n0 m0, .slice a1 n1 m1] 34)))
  clear hL
  unfold pv at *
  (try simp only [World.size_alloc] at HL)
  go_enter Tryd.func36, Tryd.ntmps36
  go_wp2_with (first | (go_at_fn LF; refine HL.mono ?_; rintro e w2 ⟨rfl, hh⟩; have H2 : Hid (At _ _ _ w2 s) := hh; clear hh) | (go_at_call 40; refine (string_any _ _ s _ H2.out.bd (by have h1 := H2.out.bd.lt; omega)).mono ?_; rintro e w3 ⟨rfl, hh⟩; have H3 : Hid (Below _ w2 w3) := hh; clear hh))
  go_ret
  exact ⟨rfl, (((Below.refl _ w).alloc (Nat.le_refl _) _).alloc (by simp) _).trans ((H2.out.bel.trans H3.out).mono (by simp))⟩
end Go.Proofs.YtemacdimdpnkeaaDoor
