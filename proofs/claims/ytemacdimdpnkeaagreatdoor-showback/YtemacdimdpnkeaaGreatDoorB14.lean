import Derived.Test.YtemacdimdpnkeaaGreatDoorB11
import Derived.Test.YtemacdimdpnkeaaGreatDoorB2
import Derived.Test.YtemacdimdpnkeaaGreatDoorB8
import Derived.Test.YtemacdimdpnkeaaGreatDoorB13
import Derived.Test.YtemacdimdpnkeaaGreatDoorProg
import Derived.Shelf.Strings.BuilderK
import Derived.Shelf.Abstract
namespace Go.Proofs.YtemacdimdpnkeaaGreatDoor
set_option maxRecDepth 20000
open Go.RowKit
set_option linter.unusedVariables false
set_option linter.unusedSimpArgs false
def Bd (w : World) (B b : Nat) (zs : Str) : Prop := Lib.IsBuilderF 83 5 B b (Lib.byteCells zs) w
def Apart (w : World) (b k : Nat) : Prop := k ≠ b ∧ ∀ p v T fz, w.heap[b]? = some (.cells #[p, v] T fz) → v.ownBlock ≠ some k
def FB (b : Nat) (w w' : World) : Prop := w.heap.size ≤ w'.heap.size ∧ ∀ k, k < w.heap.size → Apart w b k → w'.heap[k]? = w.heap[k]? ∧ Apart w' b k
theorem FB.refl (b : Nat) (w : World) : FB b w w := ⟨Nat.le_refl _, fun k _ h => ⟨rfl, h⟩⟩
theorem FB.trans {b : Nat} {w1 w2 w3 : World} (h : FB b w1 w2) (k : FB b w2 w3) : FB b w1 w3 :=
  ⟨Nat.le_trans h.1 k.1, fun j hj ha => by
    obtain ⟨e1, a1⟩ := h.2 j hj ha
    obtain ⟨e2, a2⟩ := k.2 j (Nat.lt_of_lt_of_le hj h.1) a1
    exact ⟨e2.trans e1, a2⟩⟩
theorem Bd.get {w : World} {B b : Nat} {zs : Str} (h : Bd w B b zs) : ∃ p v, B ≤ b ∧ w.heap[b]? = some (.cells #[p, v] 83 (0, 0)) ∧ w.ownsRowF B 5 1 v zs.length (Lib.byteCells zs) ∧ v.ownBlock ≠ some b := by
  rcases h with ⟨h1, v, h2, h3, h4⟩ | ⟨h1, v, h2, h3, h4⟩
  · exact ⟨_, v, h1, h2, by rw [Lib.byteCells_length] at h3; exact h3, h4⟩
  · exact ⟨_, v, h1, h2, by rw [Lib.byteCells_length] at h3; exact h3, h4⟩
theorem Bd.lt {w : World} {B b : Nat} {zs : Str} (h : Bd w B b zs) : b < w.heap.size := by
  obtain ⟨p, v, h1, h2, h3, h4⟩ := h.get
  rcases Nat.lt_or_ge b w.heap.size with h' | h'
  · exact h'
  · simp [Array.getElem?_eq_none h'] at h2
theorem Bd.le {w : World} {B b : Nat} {zs : Str} (h : Bd w B b zs) : B ≤ b := by
  obtain ⟨p, v, h1, h2, h3, h4⟩ := h.get
  exact h1
theorem Bd.apart {w : World} {B b k : Nat} {zs : Str} (h : Bd w B b zs) (hk : k < B) : Apart w b k := by
  obtain ⟨p, v, h1, h2, h3, h4⟩ := h.get
  refine ⟨by omega, fun p' v' T fz e e2 => ?_⟩
  rw [h2] at e
  obtain ⟨e3, -⟩ := Obj.cells.inj (Option.some.inj e)
  obtain ⟨-, e4⟩ : p = p' ∧ v = v' := by simpa using e3
  subst e4
  have := (h3.lt k e2).1
  omega
theorem Bd.new {w : World} {B b k : Nat} {zs : Str} (h : Bd w B b zs) (hk : w.heap.size ≤ k) : Apart w b k := by
  obtain ⟨p, v, h1, h2, h3, h4⟩ := h.get
  have hb := h.lt
  refine ⟨by omega, fun p' v' T fz e e2 => ?_⟩
  rw [h2] at e
  obtain ⟨e3, -⟩ := Obj.cells.inj (Option.some.inj e)
  obtain ⟨-, e4⟩ : p = p' ∧ v = v' := by simpa using e3
  subst e4
  have := (h3.lt k e2).2
  omega
theorem alloc_heap_lt (w : World) (o : Obj) {k : Nat} (h : k < w.heap.size) : (w.alloc o).heap[k]? = w.heap[k]? := Lib.alloc_old w o k h
theorem Apart.alloc {w : World} {b k : Nat} (hb : b < w.heap.size) (h : Apart w b k) (o : Obj) : Apart (w.alloc o) b k :=
  ⟨h.1, fun p v T fz e => h.2 p v T fz (by rw [← e, alloc_heap_lt w o hb])⟩
theorem FB.alloc {b : Nat} {w w' : World} (hb : b < w'.heap.size) (h : FB b w w') (o : Obj) : FB b w (w'.alloc o) :=
  ⟨by have := h.1; simp; omega, fun k hk ha => by
    obtain ⟨e1, a1⟩ := h.2 k hk ha
    exact ⟨(alloc_heap_lt w' o (Nat.lt_of_lt_of_le hk h.1)).trans e1, a1.alloc hb o⟩⟩
theorem Bd.alloc {w : World} {B b : Nat} {zs : Str} (h : Bd w B b zs) (o : Obj) : Bd (w.alloc o) B b zs := Lib.IsBuilderF.alloc h o
structure At (w : World) (B b : Nat) (w' : World) (zs : Str) : Prop where
  bd : Bd w' B b zs
  bel : Below B w w'
  fb : FB b w w'
theorem At.refl {w : World} {B b : Nat} {zs : Str} (h : Bd w B b zs) : At w B b w zs := ⟨h, Below.refl _ _, FB.refl _ _⟩
theorem At.trans {w1 w2 w3 : World} {B b : Nat} {zs ys : Str} (h : At w1 B b w2 zs) (k : At w2 B b w3 ys) : At w1 B b w3 ys := ⟨k.bd, h.bel.trans k.bel, h.fb.trans k.fb⟩
theorem At.alloc {w w' : World} {B b : Nat} {zs : Str} (h : At w B b w' zs) (o : Obj) : At w B b (w'.alloc o) zs :=
  ⟨h.bd.alloc o, h.bel.alloc (by have := h.bd.le; have := h.bd.lt; omega) o, h.fb.alloc h.bd.lt o⟩
theorem At.drew {w w' : World} {B b : Nat} {zs : Str} (h : At w B b w' zs) : At w B b w'.drew zs :=
  ⟨by have := h.bd; exact this, h.bel.drew, by have := h.fb; exact this⟩
theorem infoByte5 : (Tryz.prog.info? 5).map (fun i => (i.zero, i.size, i.bytes)) = some (some (.int .u8 0), 1, 1) := by kernel_rfl
theorem run_appS (base : Nat) (w : World) (ty : TypeId) (v : Value) (n : Nat) (xs : List Value) (hown : w.ownsRowF base 5 1 v n xs) (s : ByteArray) (hlen : n + s.size ≤ 140737488355328) (hbase : base ≤ w.heap.size) :
    ∃ v' w', (Builtin.append_ #[81, 9] ty #[v, .string s]).run Tryz.prog w = .ok v' w' ∧ w'.ownsRowF base 5 1 v' (n + s.size) (xs ++ Lib.strCells s) ∧ w.grownBy w' v.ownBlock ∧ ∀ g, v'.ownBlock = some g → v.ownBlock = some g ∨ w.heap.size ≤ g := by
  obtain ⟨i0, hi, hz0, hz1, hz2⟩ := info_parts infoByte5
  have h63 : n + s.size ≤ maxLen := by unfold maxLen; omega
  obtain ⟨v', w', hr, ho, hg, -⟩ := Lib.run_append_own_stringF (P := Tryz.prog) (w := w) base 81 9 ty 5 i0 Tryz.underlying81 Tryz.underlying9 hi hz0 hz1 hz2 v n xs hown s h63 hlen hbase
  refine ⟨v', w', hr, ho, hg, ?_⟩
  rcases hown.2 with ⟨rfl, rfl⟩ | ⟨g, cap, cur, fz, rfl, hbg, hgo, hfz, hnc, hcm, hcs, htake⟩
  · obtain ⟨v2, w2, hr2, ho2, hg2, -⟩ := Lib.run_append_own_stringF (P := Tryz.prog) (w := w) w.heap.size 81 9 ty 5 i0 Tryz.underlying81 Tryz.underlying9 hi hz0 hz1 hz2 (.slice none 0 0) 0 xs ⟨hown.1, .inl ⟨rfl, rfl⟩⟩ s h63 hlen (Nat.le_refl _)
    rw [hr] at hr2
    obtain ⟨rfl, rfl⟩ := Result.ok.inj hr2
    exact fun g hgo => .inr (ho2.lt g hgo).1
  · by_cases hroom : n + s.size ≤ cap
    · have hr3 := Lib.run_append_room_stringF (P := Tryz.prog) w 81 9 ty 5 i0 Tryz.underlying81 Tryz.underlying9 hi hz1 g n cap cur fz hgo (by simpa using hfz) s hroom (by unfold maxLen at h63; omega)
      rw [hr] at hr3
      obtain ⟨rfl, -⟩ := Result.ok.inj hr3
      exact fun g' e => .inl (by simpa [Value.ownBlock] using e)
    · have hxl : xs.length = n := by simpa using hown.1
      have holds : ∀ j u, xs[j]? = some u → w.cell? ((⟨g, 0, none⟩ : Addr).add j) = some u := hown.cells (g := g) rfl
      have hr3 := Lib.run_append_grow_string (P := Tryz.prog) w 81 9 ty 5 i0 (.int .u8 0) Tryz.underlying81 Tryz.underlying9 hi hz0 ⟨g, 0, none⟩ n cap xs (by rw [hz1]; simpa using hxl) holds s (by omega) (by unfold maxLen at h63; omega) (by rw [hz2]; exact growslice_fits (by omega) (by omega))
      rw [hr] at hr3
      obtain ⟨rfl, -⟩ := Result.ok.inj hr3
      exact fun g' e => .inr (by simp [Value.ownBlock] at e; omega)
theorem wp_appS {ops : Array Oper} {rest : List Oper} {o : Oper} {a : Act} {Q : Exit → Act → World → Prop} {w : World} (hgd : o.guard = none) (sl x : Operand)
    (ho : o.op = .call { callee := .builtin .append, args := #[sl, x], argTypes := #[81, 9] }) (base : Nat) (v : Value) (n : Nat) (xs : List Value) (hs : a.eval sl = v) (hown : w.ownsRowF base 5 1 v n xs) (s : ByteArray) (hx : a.eval x = .string s)
    (hlen : n + s.size ≤ 140737488355328) (hbase : base ≤ w.heap.size)
    (h : ∀ v' w', w'.ownsRowF base 5 1 v' (n + s.size) (xs ++ Lib.strCells s) → w.grownBy w' v.ownBlock → (∀ g, v'.ownBlock = some g → v.ownBlock = some g ∨ w.heap.size ≤ g) → wpList Tryz.prog ops Q rest (a.put o.dst v') w') : wpList Tryz.prog ops Q (o :: rest) a w := by
  refine wpList_plain hgd fun K hK => ?_
  obtain ⟨v', w', hr, h2, h3, h4⟩ := run_appS base w o.type v n xs hown s hlen hbase
  unfold Oper.wp execOp
  simp only [ho, resolve, invoke, builtin, Sem.run_bind, Sem.run_pure, Result.andThen_ok, List.map_toArray, List.map_cons, List.map_nil, hs, hx, hr]
  exact hK _ _ (h v' w' h2 h3 h4)
theorem FB.of {b : Nat} {w w' : World} {p v p' v' : Value} {T T' : TypeId} {fz fz' : Nat × Nat} (h : w.heap[b]? = some (.cells #[p, v] T fz)) (h' : w'.heap[b]? = some (.cells #[p', v'] T' fz')) (hs : w.heap.size ≤ w'.heap.size)
    (hv : ∀ g, v'.ownBlock = some g → v.ownBlock = some g ∨ w.heap.size ≤ g) (hk : ∀ k, k < w.heap.size → k ≠ b → v.ownBlock ≠ some k → w'.heap[k]? = w.heap[k]?) : FB b w w' := by
  refine ⟨hs, fun k hlt ha => ⟨hk k hlt ha.1 (ha.2 p v T fz h), ha.1, fun p2 v2 T2 fz2 e e2 => ?_⟩⟩
  rw [h'] at e
  obtain ⟨e3, -⟩ := Obj.cells.inj (Option.some.inj e)
  obtain ⟨-, e4⟩ : p' = p2 ∧ v' = v2 := by simpa using e3
  subst e4
  rcases hv k e2 with e5 | e5
  · exact ha.2 p v T fz h e5
  · omega
theorem sizeB : ∃ j, Tryz.prog.info? 83 = some j ∧ j.size = 2 := Option.map_eq_some_iff.1 (by kernel_rfl : (Tryz.prog.info? 83).map (·.size) = some 2)
set_option maxHeartbeats 2000000 in
theorem copy_any (B b : Nat) (zs : Str) (w : World) (h : Bd w B b zs) :
    Calls Tryz.prog 64 #[.pointer (some ⟨b, 0, none⟩)] w fun e w' => e = .returned (.tuple #[]) ∧ ∃ v, B ≤ b ∧ w'.heap[b]? = some (.cells #[.pointer (some ⟨b, 0, none⟩), v] 83 (0, 0)) ∧ w'.ownsRowF B 5 1 v zs.length (Lib.byteCells zs) ∧ v.ownBlock ≠ some b ∧ Below B w w' ∧ FB b w w' := by
  rcases h with h | h
  · have h0 := h.cell0
    have hsh := h.shape
    have hfz := h.frozen0
    obtain ⟨j, hj, hjs⟩ := sizeB
    go_enter Tryz.func64, Tryz.ntmps64
    go_wp2
    rw [Lib.run_to_unsafe w ⟨b, 0, none⟩ Tryz.underlying80 Tryz.underlying152 hj (by rw [hjs]; decide) hsh (Nat.zero_lt_succ 1)]
    simp only [Result.andThen]
    rw [Oper.upon_value]
    go_wp2
    rw [run_callFunc_extern Tryz.func90 (by kernel_rfl) (by kernel_rfl) (by kernel_rfl) (e := Extern.AbiNoEscape.same) (by kernel_rfl)]
    rw [Lib.run_noEscape]
    simp only [Result.andThen]
    rw [Oper.upon_value]
    go_wp2
    rw [Lib.run_from_unsafe w ⟨b, 0, none⟩ Tryz.underlying152 Tryz.underlying80 hj hsh (by kernel_rfl)]
    simp only [Result.andThen]
    rw [Oper.upon_value]
    go_wp2
    go_end0
    obtain ⟨hB, v, hb, hown, hne⟩ := h.used (.pointer (some ⟨b, 0, none⟩))
    obtain ⟨-, v0, hb0, -, -⟩ := h
    refine ⟨rfl, v, hB, hb, by rw [Lib.byteCells_length] at hown; exact hown, hne, (Below.refl B w).setCell (p := ⟨b, 0, none⟩) hB _, FB.of hb0 hb (by simp [World.setCell]) ?_ ?_⟩
    · intro g hg
      have e : v0 = v := by simpa [World.setCell, Array.getElem?_modify, hb0] using hb
      exact .inl (by rw [e]; exact hg)
    · intro k _ hk _
      exact Below.heap_setCell _ _ _ _ hk
  · have h0 := h.cell0
    obtain ⟨j, hj, hjs⟩ := sizeB
    go_enter Tryz.func64, Tryz.ntmps64
    go_wp2
    rw [Lib.run_neq_ptr_same w _ Tryz.underlying80 hj]
    go_wp2
    go_end0
    obtain ⟨hB, v, hb, hown, hne⟩ := h
    exact ⟨rfl, v, hB, hb, by rw [Lib.byteCells_length] at hown; exact hown, hne, Below.refl _ _, FB.refl _ _⟩
theorem bytes_app (zs ys : Str) : Lib.byteCells zs ++ Lib.strCells (st ys) = Lib.byteCells (zs ++ ys) := by
  rw [Lib.strCells_eq, st_list]; simp [Lib.byteCells]
set_option maxHeartbeats 2000000 in
theorem write_any (B b : Nat) (zs ys : Str) (w : World) (h : Bd w B b zs) (hlen : zs.length + ys.length ≤ 2000000000) (hBw : B ≤ w.heap.size) :
    Calls Tryz.prog 28 #[.pointer (some ⟨b, 0, none⟩), .string (st ys)] w fun e w' => (∃ v, e = .returned v) ∧ At w B b w' (zs ++ ys) := by
  go_enter Tryz.func28, Tryz.ntmps28
  go_wp2_with (go_at_call 64; refine (copy_any B b _ _ h).mono ?_)
  rintro e w1 ⟨rfl, v, hB, hbk, hown, hne, hb1, hk1⟩
  have c0 : w1.cell? ⟨b, 0, none⟩ = some (.pointer (some ⟨b, 0, none⟩)) := by rw [Lib.cell_of_heap hbk]; rfl
  have c1 : w1.cell? ⟨b, 1, none⟩ = some v := by rw [Lib.cell_of_heap hbk]; rfl
  have hsz := st_size ys
  go_wp2_with (at_builtin; refine wp_appS rfl _ _ rfl B _ _ _ rfl hown (st ys) rfl ?c4 ?c5 ?_)
  case c4 => omega
  case c5 => have := hb1.size; omega
  intro v' w2 hown' hgrow hnew
  have hlt : b < w1.heap.size := by
    rcases Nat.lt_or_ge b w1.heap.size with h' | h'
    · exact h'
    · simp [Array.getElem?_eq_none h'] at hbk
  have hb2 : w2.heap[b]? = some (.cells #[.pointer (some ⟨b, 0, none⟩), v] 83 (0, 0)) := by
    rw [hgrow.block b hlt (fun e => hne e.symm)]
    exact hbk
  have d0 : w2.cell? ⟨b, 0, none⟩ = some (.pointer (some ⟨b, 0, none⟩)) := by rw [Lib.cell_of_heap hb2]; rfl
  have d1 : w2.cell? ⟨b, 1, none⟩ = some v := by rw [Lib.cell_of_heap hb2]; rfl
  have f1 : w2.frozen? ⟨b, 1, none⟩ = false := Lib.frozen_of_heap hb2 1
  obtain ⟨ao, n', cap, rfl⟩ : ∃ ao n' cap, v' = .slice ao n' cap := by
    rcases hown'.2 with ⟨hv, _⟩ | ⟨g, cap, cur, fz, hv, _⟩
    · exact ⟨_, _, _, hv⟩
    · exact ⟨_, _, _, hv⟩
  go_wp2
  go_ret2
  have HP := Lib.BuilderAtF.put (T := 83) (e := 5) hB hb2 (bs' := Lib.byteCells (zs ++ ys)) (by rw [← bytes_app, List.length_append, Lib.byteCells_length, Lib.strCells_length]; exact hown') (by decide)
  obtain ⟨-, v3, hb3, -, -⟩ := id HP
  have e3 : v3 = .slice ao n' cap := by
    have := hb3
    simp [World.setCell, Array.getElem?_modify, hb2] at this
    exact this.symm
  refine ⟨⟨_, rfl⟩, .inr HP, (hb1.grown hgrow (by have := hb1.size; omega) (fun k hk => (hown.lt k hk).1)).setCell (p := ⟨b, 1, none⟩) hB _, hk1.trans (FB.of hbk hb3 (by simpa [World.setCell] using hgrow.size) (by rw [e3]; exact hnew) fun k hk hkb hkv => ?_)⟩
  refine (Below.heap_setCell _ _ _ _ hkb).trans (hgrow.block k hk (fun e => hkv e.symm))
end Go.Proofs.YtemacdimdpnkeaaGreatDoor
namespace Go.Proofs.YtemacdimdpnkeaaGreatDoor
set_option maxRecDepth 20000
open Go.RowKit
set_option linter.unusedVariables false
set_option linter.unusedSimpArgs false
def pv (K b : Nat) : Value := .func (.func K) #[] #[.pointer (some ⟨b, 0, none⟩)]
def PutC (K : Nat) : Prop := Enters Tryz.prog K ∧ ∀ (w : World) (B b : Nat) (zs : Str) (v : Value) (ss : List Str), Bd w B b zs → B ≤ w.heap.size → SlW 1 w (Apart w b) v (ss.map clS) → zs.length + ss.flatten.length ≤ 2000000000 →
  Calls Tryz.prog K #[v, .pointer (some ⟨b, 0, none⟩)] w fun e w' => e = .returned (.tuple #[]) ∧ At w B b w' (zs ++ ss.flatten)
theorem flat_take (ss : List Str) {i : Nat} (h : i < ss.length) : (ss.take (i + 1)).flatten = (ss.take i).flatten ++ ss.getD i [] := by
  rw [List.take_succ_eq_append_getElem h, List.flatten_append, List.getD_eq_getElem?_getD, List.getElem?_eq_getElem h]
  simp
theorem flat_le (ss : List Str) (i : Nat) : (ss.take i).flatten.length ≤ ss.flatten.length := by
  conv => rhs; rw [← List.take_append_drop i ss, List.flatten_append, List.length_append]
  omega
theorem FB.cell {b : Nat} {w w' : World} (h : FB b w w') {k off : Nat} {v : Value} (hk : k < w.heap.size) (ha : Apart w b k) (hc : w.cell? ⟨k, off, none⟩ = some v) : w'.cell? ⟨k, off, none⟩ = some v := by
  have := (h.2 k hk ha).1
  rw [← hc]; simp [World.cell?, this]
set_option maxHeartbeats 4000000 in
theorem put38 : PutC 33 := by
  refine ⟨enters_of Tryz.func33 (by kernel_rfl) rfl, ?_⟩
  intro w B b zs v ss hb hB hs hlen
  obtain ⟨a, c, rfl⟩ := hs.shape
  obtain ⟨-, l1, m1, r1⟩ := hs.row
  simp only [List.length_map] at *
  have R1 : Hid (∀ i, i < ss.length → ∃ k off, a = some ⟨k, off, none⟩ ∧ k < w.heap.size ∧ Apart w b k ∧ w.cell? ⟨k, off + i, none⟩ = some (.string (st (ss.getD i [])))) := by
    intro i hi
    obtain ⟨a', cap', h1, h2, h3, h4⟩ := hs
    obtain ⟨rfl, -, -⟩ := Value.slice.inj h1
    rcases h4 with h4 | ⟨k, off, e, hk, hp, hc⟩
    · simp at h4; subst h4; simp at hi
    · refine ⟨k, off, e, hk, hp, ?_⟩
      have := hc i 0 (by simpa using hi) (by decide)
      rw [getD_map clS ss i [] hi] at this
      simpa [clS] using this
  have HL : Hid (zs.length + ss.flatten.length ≤ 2000000000) := hlen
  have HB : Hid (Bd w B b zs) := hb
  clear hs r1 hlen hb
  have hnn : (ss.length : Int) ≤ 9223372036854775807 := by omega
  go_enter Tryz.func33, Tryz.ntmps33
  go_wp2
  go_loopw [7] (fun v wr => ∃ i : Nat, v = .int .i64 i ∧ i ≤ ss.length ∧ At w B b wr (zs ++ (ss.take i).flatten)) (fun v _ => (ss.length - intOf v).toNat)
  case atStart => exact ⟨0, rfl, Nat.zero_le _, by rw [List.take_zero]; simpa using At.refl HB.out⟩
  case round =>
    obtain ⟨i, rfl, hi, hat⟩ := hrel
    have HA : Hid (At w B b wr (zs ++ (ss.take i).flatten)) := hat
    have hsz := hat.bel.size
    by_cases hlt : i < ss.length
    · have hiz : (i : Int) < ss.length := by omega
      obtain ⟨k, off, rfl, hk, hap, hc⟩ := R1.out i hlt
      have hc' := hat.fb.cell hk hap hc
      obtain ⟨y, hy⟩ : ∃ y, y = ss.getD i [] := ⟨_, rfl⟩
      obtain ⟨z, hz⟩ : ∃ z, z = zs ++ (ss.take i).flatten := ⟨_, rfl⟩
      rw [← hy] at hc'
      rw [← hz] at hat
      have CW := write_any B b z y wr hat.bd (by
        have h1 := HL.out
        have h2 := flat_le ss (i + 1)
        rw [flat_take ss hlt, List.length_append] at h2
        rw [hz, hy, List.length_append]; omega) (Nat.le_trans hB hsz)
      have HY : Hid (y = ss.getD i []) := hy
      have HZ : Hid (z = zs ++ (ss.take i).flatten) := hz
      clear hat hc hy hz
      go_wp2_with (go_at_call 28; refine CW.mono ?_; rintro e w1 ⟨⟨ve, rfl⟩, hw1⟩; have H1 : Hid (At wr B b w1 (z ++ y)) := hw1; clear hw1 CW)
      go_roundw
      case rel => exact ⟨i + 1, by simp, by omega, by rw [flat_take ss hlt, ← List.append_assoc, ← HY.out, ← HZ.out]; exact HA.out.trans H1.out⟩
      case measure => simp [intOf]; omega
    · have hiz : ¬ (i : Int) < ss.length := by omega
      obtain rfl : i = ss.length := by omega
      go_wp2
      go_end0
      exact ⟨rfl, by have := HA.out; rw [List.take_length] at this; exact this⟩
set_option maxHeartbeats 4000000 in
theorem put48 : PutC 43 := by
  refine ⟨enters_of Tryz.func43 (by kernel_rfl) rfl, ?_⟩
  intro w B b zs v ss hb hB hs hlen
  obtain ⟨a, c, rfl⟩ := hs.shape
  obtain ⟨-, l1, m1, r1⟩ := hs.row
  simp only [List.length_map] at *
  have R1 : Hid (∀ i, i < ss.length → ∃ k off, a = some ⟨k, off, none⟩ ∧ k < w.heap.size ∧ Apart w b k ∧ w.cell? ⟨k, off + i, none⟩ = some (.string (st (ss.getD i [])))) := by
    intro i hi
    obtain ⟨a', cap', h1, h2, h3, h4⟩ := hs
    obtain ⟨rfl, -, -⟩ := Value.slice.inj h1
    rcases h4 with h4 | ⟨k, off, e, hk, hp, hc⟩
    · simp at h4; subst h4; simp at hi
    · refine ⟨k, off, e, hk, hp, ?_⟩
      have := hc i 0 (by simpa using hi) (by decide)
      rw [getD_map clS ss i [] hi] at this
      simpa [clS] using this
  have HL : Hid (zs.length + ss.flatten.length ≤ 2000000000) := hlen
  have HB : Hid (Bd w B b zs) := hb
  clear hs r1 hlen hb
  have hnn : (ss.length : Int) ≤ 9223372036854775807 := by omega
  go_enter Tryz.func43, Tryz.ntmps43
  go_wp2
  go_loopw [7] (fun v wr => ∃ i : Nat, v = .int .i64 i ∧ i ≤ ss.length ∧ At w B b wr (zs ++ (ss.take i).flatten)) (fun v _ => (ss.length - intOf v).toNat)
  case atStart => exact ⟨0, rfl, Nat.zero_le _, by rw [List.take_zero]; simpa using At.refl HB.out⟩
  case round =>
    obtain ⟨i, rfl, hi, hat⟩ := hrel
    have HA : Hid (At w B b wr (zs ++ (ss.take i).flatten)) := hat
    have hsz := hat.bel.size
    by_cases hlt : i < ss.length
    · have hiz : (i : Int) < ss.length := by omega
      obtain ⟨k, off, rfl, hk, hap, hc⟩ := R1.out i hlt
      have hc' := hat.fb.cell hk hap hc
      obtain ⟨y, hy⟩ : ∃ y, y = ss.getD i [] := ⟨_, rfl⟩
      obtain ⟨z, hz⟩ : ∃ z, z = zs ++ (ss.take i).flatten := ⟨_, rfl⟩
      rw [← hy] at hc'
      rw [← hz] at hat
      have CW := write_any B b z y wr hat.bd (by
        have h1 := HL.out
        have h2 := flat_le ss (i + 1)
        rw [flat_take ss hlt, List.length_append] at h2
        rw [hz, hy, List.length_append]; omega) (Nat.le_trans hB hsz)
      have HY : Hid (y = ss.getD i []) := hy
      have HZ : Hid (z = zs ++ (ss.take i).flatten) := hz
      clear hat hc hy hz
      go_wp2_with (go_at_call 28; refine CW.mono ?_; rintro e w1 ⟨⟨ve, rfl⟩, hw1⟩; have H1 : Hid (At wr B b w1 (z ++ y)) := hw1; clear hw1 CW)
      go_roundw
      case rel => exact ⟨i + 1, by simp, by omega, by rw [flat_take ss hlt, ← List.append_assoc, ← HY.out, ← HZ.out]; exact HA.out.trans H1.out⟩
      case measure => simp [intOf]; omega
    · have hiz : ¬ (i : Int) < ss.length := by omega
      obtain rfl : i = ss.length := by omega
      go_wp2
      go_end0
      exact ⟨rfl, by have := HA.out; rw [List.take_length] at this; exact this⟩
set_option maxHeartbeats 4000000 in
theorem put53 : PutC 38 := by
  refine ⟨enters_of Tryz.func38 (by kernel_rfl) rfl, ?_⟩
  intro w B b zs v ss hb hB hs hlen
  obtain ⟨a, c, rfl⟩ := hs.shape
  obtain ⟨-, l1, m1, r1⟩ := hs.row
  simp only [List.length_map] at *
  have R1 : Hid (∀ i, i < ss.length → ∃ k off, a = some ⟨k, off, none⟩ ∧ k < w.heap.size ∧ Apart w b k ∧ w.cell? ⟨k, off + i, none⟩ = some (.string (st (ss.getD i [])))) := by
    intro i hi
    obtain ⟨a', cap', h1, h2, h3, h4⟩ := hs
    obtain ⟨rfl, -, -⟩ := Value.slice.inj h1
    rcases h4 with h4 | ⟨k, off, e, hk, hp, hc⟩
    · simp at h4; subst h4; simp at hi
    · refine ⟨k, off, e, hk, hp, ?_⟩
      have := hc i 0 (by simpa using hi) (by decide)
      rw [getD_map clS ss i [] hi] at this
      simpa [clS] using this
  have HL : Hid (zs.length + ss.flatten.length ≤ 2000000000) := hlen
  have HB : Hid (Bd w B b zs) := hb
  clear hs r1 hlen hb
  have hnn : (ss.length : Int) ≤ 9223372036854775807 := by omega
  go_enter Tryz.func38, Tryz.ntmps38
  go_wp2
  go_loopw [7] (fun v wr => ∃ i : Nat, v = .int .i64 i ∧ i ≤ ss.length ∧ At w B b wr (zs ++ (ss.take i).flatten)) (fun v _ => (ss.length - intOf v).toNat)
  case atStart => exact ⟨0, rfl, Nat.zero_le _, by rw [List.take_zero]; simpa using At.refl HB.out⟩
  case round =>
    obtain ⟨i, rfl, hi, hat⟩ := hrel
    have HA : Hid (At w B b wr (zs ++ (ss.take i).flatten)) := hat
    have hsz := hat.bel.size
    by_cases hlt : i < ss.length
    · have hiz : (i : Int) < ss.length := by omega
      obtain ⟨k, off, rfl, hk, hap, hc⟩ := R1.out i hlt
      have hc' := hat.fb.cell hk hap hc
      obtain ⟨y, hy⟩ : ∃ y, y = ss.getD i [] := ⟨_, rfl⟩
      obtain ⟨z, hz⟩ : ∃ z, z = zs ++ (ss.take i).flatten := ⟨_, rfl⟩
      rw [← hy] at hc'
      rw [← hz] at hat
      have CW := write_any B b z y wr hat.bd (by
        have h1 := HL.out
        have h2 := flat_le ss (i + 1)
        rw [flat_take ss hlt, List.length_append] at h2
        rw [hz, hy, List.length_append]; omega) (Nat.le_trans hB hsz)
      have HY : Hid (y = ss.getD i []) := hy
      have HZ : Hid (z = zs ++ (ss.take i).flatten) := hz
      clear hat hc hy hz
      go_wp2_with (go_at_call 28; refine CW.mono ?_; rintro e w1 ⟨⟨ve, rfl⟩, hw1⟩; have H1 : Hid (At wr B b w1 (z ++ y)) := hw1; clear hw1 CW)
      go_roundw
      case rel => exact ⟨i + 1, by simp, by omega, by rw [flat_take ss hlt, ← List.append_assoc, ← HY.out, ← HZ.out]; exact HA.out.trans H1.out⟩
      case measure => simp [intOf]; omega
    · have hiz : ¬ (i : Int) < ss.length := by omega
      obtain rfl : i = ss.length := by omega
      go_wp2
      go_end0
      exact ⟨rfl, by have := HA.out; rw [List.take_length] at this; exact this⟩
set_option maxHeartbeats 4000000 in
theorem put65 : PutC 27 := by
  refine ⟨enters_of Tryz.func27 (by kernel_rfl) rfl, ?_⟩
  intro w B b zs v ss hb hB hs hlen
  obtain ⟨a, c, rfl⟩ := hs.shape
  obtain ⟨-, l1, m1, r1⟩ := hs.row
  simp only [List.length_map] at *
  have R1 : Hid (∀ i, i < ss.length → ∃ k off, a = some ⟨k, off, none⟩ ∧ k < w.heap.size ∧ Apart w b k ∧ w.cell? ⟨k, off + i, none⟩ = some (.string (st (ss.getD i [])))) := by
    intro i hi
    obtain ⟨a', cap', h1, h2, h3, h4⟩ := hs
    obtain ⟨rfl, -, -⟩ := Value.slice.inj h1
    rcases h4 with h4 | ⟨k, off, e, hk, hp, hc⟩
    · simp at h4; subst h4; simp at hi
    · refine ⟨k, off, e, hk, hp, ?_⟩
      have := hc i 0 (by simpa using hi) (by decide)
      rw [getD_map clS ss i [] hi] at this
      simpa [clS] using this
  have HL : Hid (zs.length + ss.flatten.length ≤ 2000000000) := hlen
  have HB : Hid (Bd w B b zs) := hb
  clear hs r1 hlen hb
  have hnn : (ss.length : Int) ≤ 9223372036854775807 := by omega
  go_enter Tryz.func27, Tryz.ntmps27
  go_wp2
  go_loopw [7] (fun v wr => ∃ i : Nat, v = .int .i64 i ∧ i ≤ ss.length ∧ At w B b wr (zs ++ (ss.take i).flatten)) (fun v _ => (ss.length - intOf v).toNat)
  case atStart => exact ⟨0, rfl, Nat.zero_le _, by rw [List.take_zero]; simpa using At.refl HB.out⟩
  case round =>
    obtain ⟨i, rfl, hi, hat⟩ := hrel
    have HA : Hid (At w B b wr (zs ++ (ss.take i).flatten)) := hat
    have hsz := hat.bel.size
    by_cases hlt : i < ss.length
    · have hiz : (i : Int) < ss.length := by omega
      obtain ⟨k, off, rfl, hk, hap, hc⟩ := R1.out i hlt
      have hc' := hat.fb.cell hk hap hc
      obtain ⟨y, hy⟩ : ∃ y, y = ss.getD i [] := ⟨_, rfl⟩
      obtain ⟨z, hz⟩ : ∃ z, z = zs ++ (ss.take i).flatten := ⟨_, rfl⟩
      rw [← hy] at hc'
      rw [← hz] at hat
      have CW := write_any B b z y wr hat.bd (by
        have h1 := HL.out
        have h2 := flat_le ss (i + 1)
        rw [flat_take ss hlt, List.length_append] at h2
        rw [hz, hy, List.length_append]; omega) (Nat.le_trans hB hsz)
      have HY : Hid (y = ss.getD i []) := hy
      have HZ : Hid (z = zs ++ (ss.take i).flatten) := hz
      clear hat hc hy hz
      go_wp2_with (go_at_call 28; refine CW.mono ?_; rintro e w1 ⟨⟨ve, rfl⟩, hw1⟩; have H1 : Hid (At wr B b w1 (z ++ y)) := hw1; clear hw1 CW)
      go_roundw
      case rel => exact ⟨i + 1, by simp, by omega, by rw [flat_take ss hlt, ← List.append_assoc, ← HY.out, ← HZ.out]; exact HA.out.trans H1.out⟩
      case measure => simp [intOf]; omega
    · have hiz : ¬ (i : Int) < ss.length := by omega
      obtain rfl : i = ss.length := by omega
      go_wp2
      go_end0
      exact ⟨rfl, by have := HA.out; rw [List.take_length] at this; exact this⟩
end Go.Proofs.YtemacdimdpnkeaaGreatDoor
namespace Go.Proofs.YtemacdimdpnkeaaGreatDoor
set_option maxRecDepth 20000
open Go.RowKit
set_option linter.unusedVariables false
set_option linter.unusedSimpArgs false
def Lays1 (B b : Nat) (w : World) (z : Str) (e : Ending) (w' : World) : Prop := e = .returned (.tuple #[]) ∧ At w B b w' z
theorem put_n {K B b : Nat} (hK : PutC K) {z : Str} {W : World} (hb : Bd W B b z) (ss : List Str) (hss : ss.length ≤ 1000) (hlen : z.length + ss.flatten.length ≤ 2000000000) :
    Calls Tryz.prog K #[.slice (some ⟨W.heap.size, 0, none⟩) ss.length ss.length, .pointer (some ⟨b, 0, none⟩)] (W.alloc (.cells (ss.map fun s => Value.string (st s)).toArray 9)) (Lays1 B b W (z ++ ss.flatten)) := by
  have h0 := (At.refl hb).alloc (.cells (ss.map fun s => Value.string (st s)).toArray 9)
  have hlt := hb.lt
  have hle := hb.le
  · refine (hK.2 _ B b z _ ss h0.bd (by simp; omega) ⟨_, ss.length, by rw [List.length_map], by rw [List.length_map]; exact Nat.le_refl _, by omega, .inr ⟨W.heap.size, 0, rfl, by simp, (hb.new (Nat.le_refl _)).alloc hlt _, ?_⟩⟩ hlen).mono ?_
    · intro i j hi hj
      rw [List.length_map] at hi
      obtain rfl : j = 0 := by omega
      rw [getD_map clS ss i [] hi, List.getD_eq_getElem?_getD, List.getElem?_eq_getElem hi]
      simp [clS, hi]
    · rintro e w' ⟨rfl, h1⟩
      exact ⟨rfl, h0.trans h1⟩
theorem put1 {K B b X : Nat} (hK : PutC K) {z : Str} {W : World} (hb : Bd W B b z) (s : Str) (hlen : z.length + s.length ≤ 2000000000) (hX : X = W.heap.size) :
    Calls Tryz.prog K #[.slice (some ⟨X, 0, none⟩) 1 1, .pointer (some ⟨b, 0, none⟩)] (W.alloc (.cells #[.string (st s)] 9)) (Lays1 B b W (z ++ s)) := by
  subst hX
  have := put_n hK hb [s] (by simp) (by simpa using hlen)
  simpa using this
theorem put2 {K B b X : Nat} (hK : PutC K) {z : Str} {W : World} (hb : Bd W B b z) (s t : Str) (hlen : z.length + (s ++ t).length ≤ 2000000000) (hX : X = W.heap.size) :
    Calls Tryz.prog K #[.slice (some ⟨X, 0, none⟩) 2 2, .pointer (some ⟨b, 0, none⟩)] (W.alloc (.cells #[.string (st s), .string (st t)] 9)) (Lays1 B b W (z ++ (s ++ t))) := by
  subst hX
  have := put_n hK hb [s, t] (by simp) (by simpa using hlen)
  simpa using this
theorem put3 {K B b X : Nat} (hK : PutC K) {z : Str} {W : World} (hb : Bd W B b z) (s t u : Str) (hlen : z.length + (s ++ (t ++ u)).length ≤ 2000000000) (hX : X = W.heap.size) :
    Calls Tryz.prog K #[.slice (some ⟨X, 0, none⟩) 3 3, .pointer (some ⟨b, 0, none⟩)] (W.alloc (.cells #[.string (st s), .string (st t), .string (st u)] 9)) (Lays1 B b W (z ++ (s ++ (t ++ u)))) := by
  subst hX
  have := put_n hK hb [s, t, u] (by simp) (by simpa using hlen)
  simpa using this
theorem spJ_take (ss : List Str) {i : Nat} (h : i < ss.length) : spJ (ss.take (i + 1)) = spJ (ss.take i) ++ ([32] ++ ss.getD i []) := by
  rw [List.take_succ_eq_append_getElem h, List.getD_eq_getElem?_getD, List.getElem?_eq_getElem h]
  unfold spJ
  rw [List.map_append, List.flatten_append]
  simp
theorem spJ_le (ss : List Str) (i : Nat) : (spJ (ss.take i)).length ≤ (spJ ss).length := by
  conv => rhs; rw [← List.take_append_drop i ss]
  unfold spJ
  rw [List.map_append, List.flatten_append, List.length_append]
  omega
set_option maxHeartbeats 4000000 in
theorem each74 {B K F b : Nat} (hK : PutC K) (hEF : Enters Tryz.prog F) (zs : Str) (v : Value) (css : List (List Value)) (ss : List Str) (w : World) (hs : SlW 1 w (fun k => k < B) v css) (hsh : ∀ i, i < css.length → ∃ (c0 : ByteArray), css.getD i [] = [.string c0]) (hl : css.length = ss.length) (hb : Bd w B b zs) (hlen : zs.length + (spJ ss).length ≤ 1000000000)
    (hF : ∀ i, i < css.length → ∀ W z, At w B b W z → z.length + (ss.getD i []).length ≤ 1000000000 → Calls Tryz.prog F #[pv K b, (css.getD i []).headD .nilIface] W (Lays1 B b W (z ++ ss.getD i []))) :
    Calls Tryz.prog 65 #[pv K b, v, .func (.func F) #[] #[]] w (Lays1 B b w (zs ++ spJ ss)) := by
  obtain ⟨a, c, rfl⟩ := hs.shape
  obtain ⟨-, l1, m1, -⟩ := hs.row
  have R1 : Hid (∀ i, i < css.length → ∃ k off, a = some ⟨k, off, none⟩ ∧ k < B ∧ ∀ j, j < 1 → w.cell? ⟨k, off + (i * 1 + j), none⟩ = (css.getD i [])[j]?) := by
    intro i hi
    obtain ⟨a', cap', h1, h2, h3, h4⟩ := hs
    obtain ⟨rfl, -, -⟩ := Value.slice.inj h1
    rcases h4 with h4 | ⟨k, off, e, hk, hp, hc⟩
    · rw [h4] at hi; simp at hi
    · exact ⟨k, off, e, hp, fun j hj => hc i j hi hj⟩
  have HSH : Hid (∀ i, i < css.length → ∃ (c0 : ByteArray), css.getD i [] = [.string c0]) := hsh
  have HL : Hid (zs.length + (spJ ss).length ≤ 1000000000) := hlen
  have HE : Hid (css.length = ss.length) := hl
  have HB : Hid (Bd w B b zs) := hb
  clear hs hlen hb hl hsh
  have hnn : (css.length : Int) ≤ 9223372036854775807 := by omega
  have eK : ∀ (args : Array Value) (w : World), (callFunc K args).run Tryz.prog w = .ok (.enter K args) w := hK.1
  have eF : ∀ (args : Array Value) (w : World), (callFunc F args).run Tryz.prog w = .ok (.enter F args) w := hEF
  unfold pv at *
  go_enter Tryz.func65, Tryz.ntmps65
  go_wp2
  go_loopw [10] (fun v wr => ∃ i : Nat, v = .int .i64 i ∧ i ≤ css.length ∧ At w B b wr (zs ++ spJ (ss.take i))) (fun v _ => (css.length - intOf v).toNat)
  case atStart => exact ⟨0, rfl, Nat.zero_le _, by rw [List.take_zero, spJ_nil, List.append_nil]; exact At.refl HB.out⟩
  case round =>
    obtain ⟨i, rfl, hi, hat⟩ := hrel
    by_cases hlt : i < css.length
    · have hiz : (i : Int) < css.length := by omega
      obtain ⟨k, off, rfl, hk, hc⟩ := R1.out i hlt
      obtain ⟨c0, he⟩ := HSH.out i hlt
      have hFi := hF i hlt
      rw [he] at hc hFi
      have q0 := (hat.bel.cell (p := ⟨k, off + (i * 1 + 0), none⟩) hk).trans (hc 0 (by decide))
      have p0 : wr.cell? ⟨k, off + i, none⟩ = some (.string c0) := by simpa [Nat.add_assoc] using q0
      clear q0
      obtain ⟨y, hy⟩ : ∃ y, y = ss.getD i [] := ⟨_, rfl⟩
      obtain ⟨z, hz⟩ : ∃ z, z = zs ++ spJ (ss.take i) := ⟨_, rfl⟩
      rw [← hy] at hFi
      rw [← hz] at hat
      have HY : Hid (y = ss.getD i []) := hy
      have HZ : Hid (z = zs ++ spJ (ss.take i)) := hz
      have HA : Hid (At w B b wr z) := hat
      have HLE : Hid (z.length + (1 + y.length) ≤ 1000000000) := by
        have h1 := HL.out
        have h2 := spJ_le ss (i + 1)
        rw [spJ_take ss (by rw [← HE.out]; exact hlt), ← hy] at h2
        simp only [List.length_append, List.length_cons, List.length_nil] at h2
        show z.length + (1 + y.length) ≤ 1000000000
        rw [hz, List.length_append]
        omega
      have HFI : Hid (∀ W z', At w B b W z' → z'.length + y.length ≤ 1000000000 → Calls Tryz.prog F #[.func (.func K) #[] #[.pointer (some ⟨b, 0, none⟩)], .string c0] W (Lays1 B b W (z' ++ y))) := hFi
      have hn1 := hat.bd.new (Nat.le_refl _)
      have hlb := hat.bd.lt
      clear hat hc hy hz hFi he
      have tok1 : Hid True := trivial
      have tok2 : Hid True := trivial
      go_wp2_with (first | (go_at_fn K; have tku := tok1; clear tku tok1; refine (put1 hK HA.out.bd [32] (by have := HLE.out; simp only [List.length_cons, List.length_nil]; omega) (by simp)).mono ?_; rintro e w2 ⟨rfl, h2⟩; have H2 : Hid (At w B b w2 (z ++ [32])) := HA.out.trans h2; clear h2) | (go_at_fn F; have tku := tok2; clear tku tok2; refine (HFI.out _ _ H2.out (by have := HLE.out; simp only [List.length_append, List.length_cons, List.length_nil]; omega)).mono ?_; rintro e w3 ⟨rfl, h3⟩; have H3 : Hid (At w B b w3 ((z ++ [32]) ++ y)) := H2.out.trans h3; clear h3))
      go_roundw
      case rel => exact ⟨i + 1, by simp, by omega, by rw [spJ_take ss (by rw [← HE.out]; exact hlt), ← HY.out, ← List.append_assoc, ← HZ.out, ← List.append_assoc]; exact H3.out⟩
      case measure => simp [intOf]; omega
    · have hiz : ¬ (i : Int) < css.length := by omega
      obtain rfl : i = css.length := by omega
      go_wp2
      go_end0
      exact ⟨rfl, by have := hat; rw [HE.out, List.take_length] at this; exact this⟩
set_option maxHeartbeats 4000000 in
theorem each49 {B K F b : Nat} (hK : PutC K) (hEF : Enters Tryz.prog F) (zs : Str) (v : Value) (css : List (List Value)) (ss : List Str) (w : World) (hs : SlW 3 w (fun k => k < B) v css) (hsh : ∀ i, i < css.length → ∃ (c0 : Bool) (c1 : ByteArray) (a2 : Option Addr) (n2 m2 : Nat), css.getD i [] = [.bool c0, .string c1, .slice a2 n2 m2]) (hl : css.length = ss.length) (hb : Bd w B b zs) (hlen : zs.length + (spJ ss).length ≤ 1000000000)
    (hF : ∀ i, i < css.length → ∀ W z, At w B b W z → z.length + (ss.getD i []).length ≤ 1000000000 → Calls Tryz.prog F #[pv K b, .agg (css.getD i []).toArray] W (Lays1 B b W (z ++ ss.getD i []))) :
    Calls Tryz.prog 44 #[pv K b, v, .func (.func F) #[] #[]] w (Lays1 B b w (zs ++ spJ ss)) := by
  obtain ⟨a, c, rfl⟩ := hs.shape
  obtain ⟨-, l1, m1, -⟩ := hs.row
  have R1 : Hid (∀ i, i < css.length → ∃ k off, a = some ⟨k, off, none⟩ ∧ k < B ∧ ∀ j, j < 3 → w.cell? ⟨k, off + (i * 3 + j), none⟩ = (css.getD i [])[j]?) := by
    intro i hi
    obtain ⟨a', cap', h1, h2, h3, h4⟩ := hs
    obtain ⟨rfl, -, -⟩ := Value.slice.inj h1
    rcases h4 with h4 | ⟨k, off, e, hk, hp, hc⟩
    · rw [h4] at hi; simp at hi
    · exact ⟨k, off, e, hp, fun j hj => hc i j hi hj⟩
  have HSH : Hid (∀ i, i < css.length → ∃ (c0 : Bool) (c1 : ByteArray) (a2 : Option Addr) (n2 m2 : Nat), css.getD i [] = [.bool c0, .string c1, .slice a2 n2 m2]) := hsh
  have HL : Hid (zs.length + (spJ ss).length ≤ 1000000000) := hlen
  have HE : Hid (css.length = ss.length) := hl
  have HB : Hid (Bd w B b zs) := hb
  clear hs hlen hb hl hsh
  have hnn : (css.length : Int) ≤ 9223372036854775807 := by omega
  have eK : ∀ (args : Array Value) (w : World), (callFunc K args).run Tryz.prog w = .ok (.enter K args) w := hK.1
  have eF : ∀ (args : Array Value) (w : World), (callFunc F args).run Tryz.prog w = .ok (.enter F args) w := hEF
  unfold pv at *
  go_enter Tryz.func44, Tryz.ntmps44
  go_wp2
  go_loopw [10] (fun v wr => ∃ i : Nat, v = .int .i64 i ∧ i ≤ css.length ∧ At w B b wr (zs ++ spJ (ss.take i))) (fun v _ => (css.length - intOf v).toNat)
  case atStart => exact ⟨0, rfl, Nat.zero_le _, by rw [List.take_zero, spJ_nil, List.append_nil]; exact At.refl HB.out⟩
  case round =>
    obtain ⟨i, rfl, hi, hat⟩ := hrel
    by_cases hlt : i < css.length
    · have hiz : (i : Int) < css.length := by omega
      obtain ⟨k, off, rfl, hk, hc⟩ := R1.out i hlt
      obtain ⟨c0, c1, a2, n2, m2, he⟩ := HSH.out i hlt
      have hFi := hF i hlt
      rw [he] at hc hFi
      have q0 := (hat.bel.cell (p := ⟨k, off + (i * 3 + 0), none⟩) hk).trans (hc 0 (by decide))
      have p0 : wr.cell? ⟨k, off + i * 3, none⟩ = some (.bool c0) := by simpa [Nat.add_assoc] using q0
      clear q0
      have q1 := (hat.bel.cell (p := ⟨k, off + (i * 3 + 1), none⟩) hk).trans (hc 1 (by decide))
      have p1 : wr.cell? ⟨k, off + i * 3 + 1, none⟩ = some (.string c1) := by simpa [Nat.add_assoc] using q1
      clear q1
      have q2 := (hat.bel.cell (p := ⟨k, off + (i * 3 + 2), none⟩) hk).trans (hc 2 (by decide))
      have p2 : wr.cell? ⟨k, off + i * 3 + 2, none⟩ = some (.slice a2 n2 m2) := by simpa [Nat.add_assoc] using q2
      clear q2
      obtain ⟨y, hy⟩ : ∃ y, y = ss.getD i [] := ⟨_, rfl⟩
      obtain ⟨z, hz⟩ : ∃ z, z = zs ++ spJ (ss.take i) := ⟨_, rfl⟩
      rw [← hy] at hFi
      rw [← hz] at hat
      have HY : Hid (y = ss.getD i []) := hy
      have HZ : Hid (z = zs ++ spJ (ss.take i)) := hz
      have HA : Hid (At w B b wr z) := hat
      have HLE : Hid (z.length + (1 + y.length) ≤ 1000000000) := by
        have h1 := HL.out
        have h2 := spJ_le ss (i + 1)
        rw [spJ_take ss (by rw [← HE.out]; exact hlt), ← hy] at h2
        simp only [List.length_append, List.length_cons, List.length_nil] at h2
        show z.length + (1 + y.length) ≤ 1000000000
        rw [hz, List.length_append]
        omega
      have HFI : Hid (∀ W z', At w B b W z' → z'.length + y.length ≤ 1000000000 → Calls Tryz.prog F #[.func (.func K) #[] #[.pointer (some ⟨b, 0, none⟩)], .agg #[.bool c0, .string c1, .slice a2 n2 m2]] W (Lays1 B b W (z' ++ y))) := hFi
      have hn1 := hat.bd.new (Nat.le_refl _)
      have hlb := hat.bd.lt
      clear hat hc hy hz hFi he
      have tok1 : Hid True := trivial
      have tok2 : Hid True := trivial
      go_wp2_with (first | (go_at_fn K; have tku := tok1; clear tku tok1; refine (put1 hK (HA.out.bd.alloc (.cells #[.bool c0, .string c1, .slice a2 n2 m2] 95)) [32] (by have := HLE.out; simp only [List.length_cons, List.length_nil]; omega) (by simp)).mono ?_; rintro e w2 ⟨rfl, h2⟩; have f0 := h2.fb.cell (k := wr.heap.size) (off := 0) (v := .bool c0) (by simp) (hn1.alloc hlb _) (by simp); have f1 := h2.fb.cell (k := wr.heap.size) (off := 1) (v := .string c1) (by simp) (hn1.alloc hlb _) (by simp); have f2 := h2.fb.cell (k := wr.heap.size) (off := 2) (v := .slice a2 n2 m2) (by simp) (hn1.alloc hlb _) (by simp); have hsz2 := h2.bel.size; rw [World.size_alloc] at hsz2; have H2 : Hid (At w B b w2 (z ++ [32])) := (HA.out.alloc (.cells #[.bool c0, .string c1, .slice a2 n2 m2] 95)).trans h2; clear h2) | (go_at_fn F; have tku := tok2; clear tku tok2; refine (HFI.out _ _ H2.out (by have := HLE.out; simp only [List.length_append, List.length_cons, List.length_nil]; omega)).mono ?_; rintro e w3 ⟨rfl, h3⟩; have H3 : Hid (At w B b w3 ((z ++ [32]) ++ y)) := H2.out.trans h3; clear h3))
      go_roundw
      case rel => exact ⟨i + 1, by simp, by omega, by rw [spJ_take ss (by rw [← HE.out]; exact hlt), ← HY.out, ← List.append_assoc, ← HZ.out, ← List.append_assoc]; exact H3.out⟩
      case measure => simp [intOf]; omega
    · have hiz : ¬ (i : Int) < css.length := by omega
      obtain rfl : i = css.length := by omega
      go_wp2
      go_end0
      exact ⟨rfl, by have := hat; rw [HE.out, List.take_length] at this; exact this⟩
set_option maxHeartbeats 4000000 in
theorem each54 {B K F b : Nat} (hK : PutC K) (hEF : Enters Tryz.prog F) (zs : Str) (v : Value) (css : List (List Value)) (ss : List Str) (w : World) (hs : SlW 3 w (fun k => k < B) v css) (hsh : ∀ i, i < css.length → ∃ (c0 : Int) (c1 : Int) (c2 : ByteArray), css.getD i [] = [.int .u8 c0, .int .i64 c1, .string c2]) (hl : css.length = ss.length) (hb : Bd w B b zs) (hlen : zs.length + (spJ ss).length ≤ 1000000000)
    (hF : ∀ i, i < css.length → ∀ W z, At w B b W z → z.length + (ss.getD i []).length ≤ 1000000000 → Calls Tryz.prog F #[pv K b, .agg (css.getD i []).toArray] W (Lays1 B b W (z ++ ss.getD i []))) :
    Calls Tryz.prog 39 #[pv K b, v, .func (.func F) #[] #[]] w (Lays1 B b w (zs ++ spJ ss)) := by
  obtain ⟨a, c, rfl⟩ := hs.shape
  obtain ⟨-, l1, m1, -⟩ := hs.row
  have R1 : Hid (∀ i, i < css.length → ∃ k off, a = some ⟨k, off, none⟩ ∧ k < B ∧ ∀ j, j < 3 → w.cell? ⟨k, off + (i * 3 + j), none⟩ = (css.getD i [])[j]?) := by
    intro i hi
    obtain ⟨a', cap', h1, h2, h3, h4⟩ := hs
    obtain ⟨rfl, -, -⟩ := Value.slice.inj h1
    rcases h4 with h4 | ⟨k, off, e, hk, hp, hc⟩
    · rw [h4] at hi; simp at hi
    · exact ⟨k, off, e, hp, fun j hj => hc i j hi hj⟩
  have HSH : Hid (∀ i, i < css.length → ∃ (c0 : Int) (c1 : Int) (c2 : ByteArray), css.getD i [] = [.int .u8 c0, .int .i64 c1, .string c2]) := hsh
  have HL : Hid (zs.length + (spJ ss).length ≤ 1000000000) := hlen
  have HE : Hid (css.length = ss.length) := hl
  have HB : Hid (Bd w B b zs) := hb
  clear hs hlen hb hl hsh
  have hnn : (css.length : Int) ≤ 9223372036854775807 := by omega
  have eK : ∀ (args : Array Value) (w : World), (callFunc K args).run Tryz.prog w = .ok (.enter K args) w := hK.1
  have eF : ∀ (args : Array Value) (w : World), (callFunc F args).run Tryz.prog w = .ok (.enter F args) w := hEF
  unfold pv at *
  go_enter Tryz.func39, Tryz.ntmps39
  go_wp2
  go_loopw [10] (fun v wr => ∃ i : Nat, v = .int .i64 i ∧ i ≤ css.length ∧ At w B b wr (zs ++ spJ (ss.take i))) (fun v _ => (css.length - intOf v).toNat)
  case atStart => exact ⟨0, rfl, Nat.zero_le _, by rw [List.take_zero, spJ_nil, List.append_nil]; exact At.refl HB.out⟩
  case round =>
    obtain ⟨i, rfl, hi, hat⟩ := hrel
    by_cases hlt : i < css.length
    · have hiz : (i : Int) < css.length := by omega
      obtain ⟨k, off, rfl, hk, hc⟩ := R1.out i hlt
      obtain ⟨c0, c1, c2, he⟩ := HSH.out i hlt
      have hFi := hF i hlt
      rw [he] at hc hFi
      have q0 := (hat.bel.cell (p := ⟨k, off + (i * 3 + 0), none⟩) hk).trans (hc 0 (by decide))
      have p0 : wr.cell? ⟨k, off + i * 3, none⟩ = some (.int .u8 c0) := by simpa [Nat.add_assoc] using q0
      clear q0
      have q1 := (hat.bel.cell (p := ⟨k, off + (i * 3 + 1), none⟩) hk).trans (hc 1 (by decide))
      have p1 : wr.cell? ⟨k, off + i * 3 + 1, none⟩ = some (.int .i64 c1) := by simpa [Nat.add_assoc] using q1
      clear q1
      have q2 := (hat.bel.cell (p := ⟨k, off + (i * 3 + 2), none⟩) hk).trans (hc 2 (by decide))
      have p2 : wr.cell? ⟨k, off + i * 3 + 2, none⟩ = some (.string c2) := by simpa [Nat.add_assoc] using q2
      clear q2
      obtain ⟨y, hy⟩ : ∃ y, y = ss.getD i [] := ⟨_, rfl⟩
      obtain ⟨z, hz⟩ : ∃ z, z = zs ++ spJ (ss.take i) := ⟨_, rfl⟩
      rw [← hy] at hFi
      rw [← hz] at hat
      have HY : Hid (y = ss.getD i []) := hy
      have HZ : Hid (z = zs ++ spJ (ss.take i)) := hz
      have HA : Hid (At w B b wr z) := hat
      have HLE : Hid (z.length + (1 + y.length) ≤ 1000000000) := by
        have h1 := HL.out
        have h2 := spJ_le ss (i + 1)
        rw [spJ_take ss (by rw [← HE.out]; exact hlt), ← hy] at h2
        simp only [List.length_append, List.length_cons, List.length_nil] at h2
        show z.length + (1 + y.length) ≤ 1000000000
        rw [hz, List.length_append]
        omega
      have HFI : Hid (∀ W z', At w B b W z' → z'.length + y.length ≤ 1000000000 → Calls Tryz.prog F #[.func (.func K) #[] #[.pointer (some ⟨b, 0, none⟩)], .agg #[.int .u8 c0, .int .i64 c1, .string c2]] W (Lays1 B b W (z' ++ y))) := hFi
      have hn1 := hat.bd.new (Nat.le_refl _)
      have hlb := hat.bd.lt
      clear hat hc hy hz hFi he
      have tok1 : Hid True := trivial
      have tok2 : Hid True := trivial
      go_wp2_with (first | (go_at_fn K; have tku := tok1; clear tku tok1; refine (put1 hK (HA.out.bd.alloc (.cells #[.int .u8 c0, .int .i64 c1, .string c2] 36)) [32] (by have := HLE.out; simp only [List.length_cons, List.length_nil]; omega) (by simp)).mono ?_; rintro e w2 ⟨rfl, h2⟩; have f0 := h2.fb.cell (k := wr.heap.size) (off := 0) (v := .int .u8 c0) (by simp) (hn1.alloc hlb _) (by simp); have f1 := h2.fb.cell (k := wr.heap.size) (off := 1) (v := .int .i64 c1) (by simp) (hn1.alloc hlb _) (by simp); have f2 := h2.fb.cell (k := wr.heap.size) (off := 2) (v := .string c2) (by simp) (hn1.alloc hlb _) (by simp); have hsz2 := h2.bel.size; rw [World.size_alloc] at hsz2; have H2 : Hid (At w B b w2 (z ++ [32])) := (HA.out.alloc (.cells #[.int .u8 c0, .int .i64 c1, .string c2] 36)).trans h2; clear h2) | (go_at_fn F; have tku := tok2; clear tku tok2; refine (HFI.out _ _ H2.out (by have := HLE.out; simp only [List.length_append, List.length_cons, List.length_nil]; omega)).mono ?_; rintro e w3 ⟨rfl, h3⟩; have H3 : Hid (At w B b w3 ((z ++ [32]) ++ y)) := H2.out.trans h3; clear h3))
      go_roundw
      case rel => exact ⟨i + 1, by simp, by omega, by rw [spJ_take ss (by rw [← HE.out]; exact hlt), ← HY.out, ← List.append_assoc, ← HZ.out, ← List.append_assoc]; exact H3.out⟩
      case measure => simp [intOf]; omega
    · have hiz : ¬ (i : Int) < css.length := by omega
      obtain rfl : i = css.length := by omega
      go_wp2
      go_end0
      exact ⟨rfl, by have := hat; rw [HE.out, List.take_length] at this; exact this⟩
set_option maxHeartbeats 4000000 in
theorem each64 {B K F b : Nat} (hK : PutC K) (hEF : Enters Tryz.prog F) (zs : Str) (v : Value) (css : List (List Value)) (ss : List Str) (w : World) (hs : SlW 1 w (fun k => k < B) v css) (hsh : ∀ i, i < css.length → ∃ (a0 : Option Addr) (n0 m0 : Nat), css.getD i [] = [.slice a0 n0 m0]) (hl : css.length = ss.length) (hb : Bd w B b zs) (hlen : zs.length + (spJ ss).length ≤ 1000000000)
    (hF : ∀ i, i < css.length → ∀ W z, At w B b W z → z.length + (ss.getD i []).length ≤ 1000000000 → Calls Tryz.prog F #[pv K b, (css.getD i []).headD .nilIface] W (Lays1 B b W (z ++ ss.getD i []))) :
    Calls Tryz.prog 77 #[pv K b, v, .func (.func F) #[] #[]] w (Lays1 B b w (zs ++ spJ ss)) := by
  obtain ⟨a, c, rfl⟩ := hs.shape
  obtain ⟨-, l1, m1, -⟩ := hs.row
  have R1 : Hid (∀ i, i < css.length → ∃ k off, a = some ⟨k, off, none⟩ ∧ k < B ∧ ∀ j, j < 1 → w.cell? ⟨k, off + (i * 1 + j), none⟩ = (css.getD i [])[j]?) := by
    intro i hi
    obtain ⟨a', cap', h1, h2, h3, h4⟩ := hs
    obtain ⟨rfl, -, -⟩ := Value.slice.inj h1
    rcases h4 with h4 | ⟨k, off, e, hk, hp, hc⟩
    · rw [h4] at hi; simp at hi
    · exact ⟨k, off, e, hp, fun j hj => hc i j hi hj⟩
  have HSH : Hid (∀ i, i < css.length → ∃ (a0 : Option Addr) (n0 m0 : Nat), css.getD i [] = [.slice a0 n0 m0]) := hsh
  have HL : Hid (zs.length + (spJ ss).length ≤ 1000000000) := hlen
  have HE : Hid (css.length = ss.length) := hl
  have HB : Hid (Bd w B b zs) := hb
  clear hs hlen hb hl hsh
  have hnn : (css.length : Int) ≤ 9223372036854775807 := by omega
  have eK : ∀ (args : Array Value) (w : World), (callFunc K args).run Tryz.prog w = .ok (.enter K args) w := hK.1
  have eF : ∀ (args : Array Value) (w : World), (callFunc F args).run Tryz.prog w = .ok (.enter F args) w := hEF
  unfold pv at *
  go_enter Tryz.func77, Tryz.ntmps77
  go_wp2
  go_loopw [10] (fun v wr => ∃ i : Nat, v = .int .i64 i ∧ i ≤ css.length ∧ At w B b wr (zs ++ spJ (ss.take i))) (fun v _ => (css.length - intOf v).toNat)
  case atStart => exact ⟨0, rfl, Nat.zero_le _, by rw [List.take_zero, spJ_nil, List.append_nil]; exact At.refl HB.out⟩
  case round =>
    obtain ⟨i, rfl, hi, hat⟩ := hrel
    by_cases hlt : i < css.length
    · have hiz : (i : Int) < css.length := by omega
      obtain ⟨k, off, rfl, hk, hc⟩ := R1.out i hlt
      obtain ⟨a0, n0, m0, he⟩ := HSH.out i hlt
      have hFi := hF i hlt
      rw [he] at hc hFi
      have q0 := (hat.bel.cell (p := ⟨k, off + (i * 1 + 0), none⟩) hk).trans (hc 0 (by decide))
      have p0 : wr.cell? ⟨k, off + i, none⟩ = some (.slice a0 n0 m0) := by simpa [Nat.add_assoc] using q0
      clear q0
      obtain ⟨y, hy⟩ : ∃ y, y = ss.getD i [] := ⟨_, rfl⟩
      obtain ⟨z, hz⟩ : ∃ z, z = zs ++ spJ (ss.take i) := ⟨_, rfl⟩
      rw [← hy] at hFi
      rw [← hz] at hat
      have HY : Hid (y = ss.getD i []) := hy
      have HZ : Hid (z = zs ++ spJ (ss.take i)) := hz
      have HA : Hid (At w B b wr z) := hat
      have HLE : Hid (z.length + (1 + y.length) ≤ 1000000000) := by
        have h1 := HL.out
        have h2 := spJ_le ss (i + 1)
        rw [spJ_take ss (by rw [← HE.out]; exact hlt), ← hy] at h2
        simp only [List.length_append, List.length_cons, List.length_nil] at h2
        show z.length + (1 + y.length) ≤ 1000000000
        rw [hz, List.length_append]
        omega
      have HFI : Hid (∀ W z', At w B b W z' → z'.length + y.length ≤ 1000000000 → Calls Tryz.prog F #[.func (.func K) #[] #[.pointer (some ⟨b, 0, none⟩)], .slice a0 n0 m0] W (Lays1 B b W (z' ++ y))) := hFi
      have hn1 := hat.bd.new (Nat.le_refl _)
      have hlb := hat.bd.lt
      clear hat hc hy hz hFi he
      have tok1 : Hid True := trivial
      have tok2 : Hid True := trivial
      go_wp2_with (first | (go_at_fn K; have tku := tok1; clear tku tok1; refine (put1 hK HA.out.bd [32] (by have := HLE.out; simp only [List.length_cons, List.length_nil]; omega) (by simp)).mono ?_; rintro e w2 ⟨rfl, h2⟩; have H2 : Hid (At w B b w2 (z ++ [32])) := HA.out.trans h2; clear h2) | (go_at_fn F; have tku := tok2; clear tku tok2; refine (HFI.out _ _ H2.out (by have := HLE.out; simp only [List.length_append, List.length_cons, List.length_nil]; omega)).mono ?_; rintro e w3 ⟨rfl, h3⟩; have H3 : Hid (At w B b w3 ((z ++ [32]) ++ y)) := H2.out.trans h3; clear h3))
      go_roundw
      case rel => exact ⟨i + 1, by simp, by omega, by rw [spJ_take ss (by rw [← HE.out]; exact hlt), ← HY.out, ← List.append_assoc, ← HZ.out, ← List.append_assoc]; exact H3.out⟩
      case measure => simp [intOf]; omega
    · have hiz : ¬ (i : Int) < css.length := by omega
      obtain rfl : i = css.length := by omega
      go_wp2
      go_end0
      exact ⟨rfl, by have := hat; rw [HE.out, List.take_length] at this; exact this⟩
end Go.Proofs.YtemacdimdpnkeaaGreatDoor
namespace Go.Proofs.YtemacdimdpnkeaaGreatDoor
set_option maxRecDepth 20000
open Go.RowKit
set_option linter.unusedVariables false
set_option linter.unusedSimpArgs false
theorem pow_at : Tryz.prog.globalNamed powN = some 2 := by kernel_rfl
theorem Vars.at {w w' : World} {B : Nat} (hB : 5 ≤ B) (h : Vars w) (hb : Below B w w') : Vars w' := by
  obtain ⟨h1, ⟨v2, c2, i2⟩, ⟨v3, c3, i3⟩, h4⟩ := h
  refine ⟨⟨fun c hc => (hb.cell (by show 0 < B; omega)).trans (h1.1 c hc), fun i hi => ⟨(hb.cell (by show 1 < B; omega)).trans (h1.2 i hi).1, (hb.cell (by show 1 < B; omega)).trans (h1.2 i hi).2⟩⟩, ⟨v2, (hb.cell (by show 3 < B; omega)).trans c2, i2⟩, ⟨v3, (hb.cell (by show 4 < B; omega)).trans c3, i3⟩, ?_⟩
  unfold Lib.TabIs World.var? at *
  rw [pow_at] at h4 ⊢
  simp only [Option.bind_some] at h4 ⊢
  rw [hb.block 2 (by omega)]; exact h4
theorem grown_of {w w' : World} (h : Below w.heap.size w w') : w.grownBy w' none := ⟨h.1, h.2, h.3, h.size, fun k hk _ => h.block k hk⟩
theorem Bd.below {w w' : World} {B b : Nat} {zs : Str} (h : Bd w B b zs) (hb : Below w.heap.size w w') : Bd w' B b zs := by
  have hlt := h.lt
  rcases h with ⟨h1, v, h2, h3, h4⟩ | ⟨h1, v, h2, h3, h4⟩
  · exact .inl ⟨h1, v, (hb.block b hlt).trans h2, h3.kept (grown_of hb) (by cases hv : v.ownBlock <;> simp), h4⟩
  · exact .inr ⟨h1, v, (hb.block b hlt).trans h2, h3.kept (grown_of hb) (by cases hv : v.ownBlock <;> simp), h4⟩
theorem FB.below {b : Nat} {w w' : World} (hlt : b < w.heap.size) (hb : Below w.heap.size w w') : FB b w w' :=
  ⟨hb.size, fun k hk ha => ⟨hb.block k hk, ha.1, fun p v T fz e => ha.2 p v T fz (by rw [← hb.block b hlt]; exact e)⟩⟩
theorem At.below {w w1 w2 : World} {B b : Nat} {z : Str} (h : At w B b w1 z) (hb : Below w1.heap.size w1 w2) : At w B b w2 z :=
  ⟨h.bd.below hb, h.bel.trans (hb.mono (by have := h.bd.le; have := h.bd.lt; omega)), h.fb.trans (FB.below h.bd.lt hb)⟩
def svd (x : VD) : Str := (txtS x.k x.n (st x.s)).data.toList
def fV (x : VD) : Prop := 0 ≤ x.k ∧ x.k ≤ 255 ∧ x.s.length ≤ 100000
def fE (l : List ItemD) : Prop := ∀ x ∈ l, fV x.x
def fA (a : AttrD) : Prop := (∀ x ∈ a.ones, fV x) ∧ ∀ x ∈ a.tests, fV x.x
def fC (c : CondD) : Prop := ∀ x ∈ c.attrs, fA x
theorem text_sv (x : VD) (w : World) (h : fV x) (hV : Vars w) :
    Calls Tryz.prog 71 #[.agg #[.int .u8 x.k, .int .i64 x.n, .string (st x.s)]] w fun e w' => e = .returned (.string (st (svd x))) ∧ Below w.heap.size w w' := by
  have := text_any13 x.k x.n (st x.s) w h.1 h.2.1 (by rw [st_size]; have := h.2.2; omega) hV
  unfold svd
  rw [st_of]
  exact this
theorem sgn_is (p : Int) : sgnS p = st (sgnL p) := by
  unfold sgnS sgnL
  repeat' split
  all_goals rfl
theorem sign_sv (p : Int) (w : World) : Calls Tryz.prog 72 #[.int .u8 p] w fun e w' => e = .returned (.string (st (sgnL p))) ∧ w' = w := by
  rw [← sgn_is]; exact sign_any13 p w
end Go.Proofs.YtemacdimdpnkeaaGreatDoor
namespace Go.Proofs.YtemacdimdpnkeaaGreatDoor
set_option maxRecDepth 20000
open Go.RowKit
set_option linter.unusedVariables false
set_option linter.unusedSimpArgs false
set_option maxHeartbeats 4000000 in
theorem each50 {B K F b : Nat} (hK : PutC K) (hEF : Enters Tryz.prog F) (zs : Str) (v : Value) (css : List (List Value)) (ss : List Str) (w : World) (hs : SlW 6 w (fun k => k < B) v css) (hsh : ∀ i, i < css.length → ∃ (c0 : Int) (c1 : ByteArray) (c2 : Int) (c3 : ByteArray) (a4 : Option Addr) (n4 m4 : Nat) (a5 : Option Addr) (n5 m5 : Nat), css.getD i [] = [.int .u8 c0, .string c1, .int .i64 c2, .string c3, .slice a4 n4 m4, .slice a5 n5 m5]) (hl : css.length = ss.length) (hb : Bd w B b zs) (hlen : zs.length + (spJ ss).length ≤ 1000000000)
    (hF : ∀ i, i < css.length → ∀ W z, At w B b W z → z.length + (ss.getD i []).length ≤ 1000000000 → Calls Tryz.prog F #[pv K b, .agg (css.getD i []).toArray] W (Lays1 B b W (z ++ ss.getD i []))) :
    Calls Tryz.prog 46 #[pv K b, v, .func (.func F) #[] #[]] w (Lays1 B b w (zs ++ spJ ss)) := by
  obtain ⟨a, c, rfl⟩ := hs.shape
  obtain ⟨-, l1, m1, -⟩ := hs.row
  have R1 : Hid (∀ i, i < css.length → ∃ k off, a = some ⟨k, off, none⟩ ∧ k < B ∧ ∀ j, j < 6 → w.cell? ⟨k, off + (i * 6 + j), none⟩ = (css.getD i [])[j]?) := by
    intro i hi
    obtain ⟨a', cap', h1, h2, h3, h4⟩ := hs
    obtain ⟨rfl, -, -⟩ := Value.slice.inj h1
    rcases h4 with h4 | ⟨k, off, e, hk, hp, hc⟩
    · rw [h4] at hi; simp at hi
    · exact ⟨k, off, e, hp, fun j hj => hc i j hi hj⟩
  have HSH : Hid (∀ i, i < css.length → ∃ (c0 : Int) (c1 : ByteArray) (c2 : Int) (c3 : ByteArray) (a4 : Option Addr) (n4 m4 : Nat) (a5 : Option Addr) (n5 m5 : Nat), css.getD i [] = [.int .u8 c0, .string c1, .int .i64 c2, .string c3, .slice a4 n4 m4, .slice a5 n5 m5]) := hsh
  have HL : Hid (zs.length + (spJ ss).length ≤ 1000000000) := hlen
  have HE : Hid (css.length = ss.length) := hl
  have HB : Hid (Bd w B b zs) := hb
  clear hs hlen hb hl hsh
  have hnn : (css.length : Int) ≤ 9223372036854775807 := by omega
  have eK : ∀ (args : Array Value) (w : World), (callFunc K args).run Tryz.prog w = .ok (.enter K args) w := hK.1
  have eF : ∀ (args : Array Value) (w : World), (callFunc F args).run Tryz.prog w = .ok (.enter F args) w := hEF
  unfold pv at *
  go_enter Tryz.func46, Tryz.ntmps46
  go_wp2
  go_loopw [10] (fun v wr => ∃ i : Nat, v = .int .i64 i ∧ i ≤ css.length ∧ At w B b wr (zs ++ spJ (ss.take i))) (fun v _ => (css.length - intOf v).toNat)
  case atStart => exact ⟨0, rfl, Nat.zero_le _, by rw [List.take_zero, spJ_nil, List.append_nil]; exact At.refl HB.out⟩
  case round =>
    obtain ⟨i, rfl, hi, hat⟩ := hrel
    by_cases hlt : i < css.length
    · have hiz : (i : Int) < css.length := by omega
      obtain ⟨k, off, rfl, hk, hc⟩ := R1.out i hlt
      obtain ⟨c0, c1, c2, c3, a4, n4, m4, a5, n5, m5, he⟩ := HSH.out i hlt
      have hFi := hF i hlt
      rw [he] at hc hFi
      have q0 := (hat.bel.cell (p := ⟨k, off + (i * 6 + 0), none⟩) hk).trans (hc 0 (by decide))
      have p0 : wr.cell? ⟨k, off + i * 6, none⟩ = some (.int .u8 c0) := by simpa [Nat.add_assoc] using q0
      clear q0
      have q1 := (hat.bel.cell (p := ⟨k, off + (i * 6 + 1), none⟩) hk).trans (hc 1 (by decide))
      have p1 : wr.cell? ⟨k, off + i * 6 + 1, none⟩ = some (.string c1) := by simpa [Nat.add_assoc] using q1
      clear q1
      have q2 := (hat.bel.cell (p := ⟨k, off + (i * 6 + 2), none⟩) hk).trans (hc 2 (by decide))
      have p2 : wr.cell? ⟨k, off + i * 6 + 2, none⟩ = some (.int .i64 c2) := by simpa [Nat.add_assoc] using q2
      clear q2
      have q3 := (hat.bel.cell (p := ⟨k, off + (i * 6 + 3), none⟩) hk).trans (hc 3 (by decide))
      have p3 : wr.cell? ⟨k, off + i * 6 + 3, none⟩ = some (.string c3) := by simpa [Nat.add_assoc] using q3
      clear q3
      have q4 := (hat.bel.cell (p := ⟨k, off + (i * 6 + 4), none⟩) hk).trans (hc 4 (by decide))
      have p4 : wr.cell? ⟨k, off + i * 6 + 4, none⟩ = some (.slice a4 n4 m4) := by simpa [Nat.add_assoc] using q4
      clear q4
      have q5 := (hat.bel.cell (p := ⟨k, off + (i * 6 + 5), none⟩) hk).trans (hc 5 (by decide))
      have p5 : wr.cell? ⟨k, off + i * 6 + 5, none⟩ = some (.slice a5 n5 m5) := by simpa [Nat.add_assoc] using q5
      clear q5
      obtain ⟨y, hy⟩ : ∃ y, y = ss.getD i [] := ⟨_, rfl⟩
      obtain ⟨z, hz⟩ : ∃ z, z = zs ++ spJ (ss.take i) := ⟨_, rfl⟩
      rw [← hy] at hFi
      rw [← hz] at hat
      have HY : Hid (y = ss.getD i []) := hy
      have HZ : Hid (z = zs ++ spJ (ss.take i)) := hz
      have HA : Hid (At w B b wr z) := hat
      have HLE : Hid (z.length + (1 + y.length) ≤ 1000000000) := by
        have h1 := HL.out
        have h2 := spJ_le ss (i + 1)
        rw [spJ_take ss (by rw [← HE.out]; exact hlt), ← hy] at h2
        simp only [List.length_append, List.length_cons, List.length_nil] at h2
        show z.length + (1 + y.length) ≤ 1000000000
        rw [hz, List.length_append]
        omega
      have HFI : Hid (∀ W z', At w B b W z' → z'.length + y.length ≤ 1000000000 → Calls Tryz.prog F #[.func (.func K) #[] #[.pointer (some ⟨b, 0, none⟩)], .agg #[.int .u8 c0, .string c1, .int .i64 c2, .string c3, .slice a4 n4 m4, .slice a5 n5 m5]] W (Lays1 B b W (z' ++ y))) := hFi
      have hn1 := hat.bd.new (Nat.le_refl _)
      have hlb := hat.bd.lt
      clear hat hc hy hz hFi he
      have tok1 : Hid True := trivial
      have tok2 : Hid True := trivial
      go_wp2_with (first | (go_at_fn K; have tku := tok1; clear tku tok1; refine (put1 hK (HA.out.bd.alloc (.cells #[.int .u8 c0, .string c1, .int .i64 c2, .string c3, .slice a4 n4 m4, .slice a5 n5 m5] 100)) [32] (by have := HLE.out; simp only [List.length_cons, List.length_nil]; omega) (by simp)).mono ?_; rintro e w2 ⟨rfl, h2⟩; have f0 := h2.fb.cell (k := wr.heap.size) (off := 0) (v := .int .u8 c0) (by simp) (hn1.alloc hlb _) (by simp); have f1 := h2.fb.cell (k := wr.heap.size) (off := 1) (v := .string c1) (by simp) (hn1.alloc hlb _) (by simp); have f2 := h2.fb.cell (k := wr.heap.size) (off := 2) (v := .int .i64 c2) (by simp) (hn1.alloc hlb _) (by simp); have f3 := h2.fb.cell (k := wr.heap.size) (off := 3) (v := .string c3) (by simp) (hn1.alloc hlb _) (by simp); have f4 := h2.fb.cell (k := wr.heap.size) (off := 4) (v := .slice a4 n4 m4) (by simp) (hn1.alloc hlb _) (by simp); have f5 := h2.fb.cell (k := wr.heap.size) (off := 5) (v := .slice a5 n5 m5) (by simp) (hn1.alloc hlb _) (by simp); have hsz2 := h2.bel.size; rw [World.size_alloc] at hsz2; have H2 : Hid (At w B b w2 (z ++ [32])) := (HA.out.alloc (.cells #[.int .u8 c0, .string c1, .int .i64 c2, .string c3, .slice a4 n4 m4, .slice a5 n5 m5] 100)).trans h2; clear h2) | (go_at_fn F; have tku := tok2; clear tku tok2; refine (HFI.out _ _ H2.out (by have := HLE.out; simp only [List.length_append, List.length_cons, List.length_nil]; omega)).mono ?_; rintro e w3 ⟨rfl, h3⟩; have H3 : Hid (At w B b w3 ((z ++ [32]) ++ y)) := H2.out.trans h3; clear h3))
      go_roundw
      case rel => exact ⟨i + 1, by simp, by omega, by rw [spJ_take ss (by rw [← HE.out]; exact hlt), ← HY.out, ← List.append_assoc, ← HZ.out, ← List.append_assoc]; exact H3.out⟩
      case measure => simp [intOf]; omega
    · have hiz : ¬ (i : Int) < css.length := by omega
      obtain rfl : i = css.length := by omega
      go_wp2
      go_end0
      exact ⟨rfl, by have := hat; rw [HE.out, List.take_length] at this; exact this⟩
set_option maxHeartbeats 4000000 in
theorem each52 {B K F b : Nat} (hK : PutC K) (hEF : Enters Tryz.prog F) (zs : Str) (v : Value) (css : List (List Value)) (ss : List Str) (w : World) (hs : SlW 3 w (fun k => k < B) v css) (hsh : ∀ i, i < css.length → ∃ (c0 : ByteArray) (a1 : Option Addr) (n1 m1 : Nat) (a2 : Option Addr) (n2 m2 : Nat), css.getD i [] = [.string c0, .slice a1 n1 m1, .slice a2 n2 m2]) (hl : css.length = ss.length) (hb : Bd w B b zs) (hlen : zs.length + (spJ ss).length ≤ 1000000000)
    (hF : ∀ i, i < css.length → ∀ W z, At w B b W z → z.length + (ss.getD i []).length ≤ 1000000000 → Calls Tryz.prog F #[pv K b, .agg (css.getD i []).toArray] W (Lays1 B b W (z ++ ss.getD i []))) :
    Calls Tryz.prog 73 #[pv K b, v, .func (.func F) #[] #[]] w (Lays1 B b w (zs ++ spJ ss)) := by
  obtain ⟨a, c, rfl⟩ := hs.shape
  obtain ⟨-, l1, m1, -⟩ := hs.row
  have R1 : Hid (∀ i, i < css.length → ∃ k off, a = some ⟨k, off, none⟩ ∧ k < B ∧ ∀ j, j < 3 → w.cell? ⟨k, off + (i * 3 + j), none⟩ = (css.getD i [])[j]?) := by
    intro i hi
    obtain ⟨a', cap', h1, h2, h3, h4⟩ := hs
    obtain ⟨rfl, -, -⟩ := Value.slice.inj h1
    rcases h4 with h4 | ⟨k, off, e, hk, hp, hc⟩
    · rw [h4] at hi; simp at hi
    · exact ⟨k, off, e, hp, fun j hj => hc i j hi hj⟩
  have HSH : Hid (∀ i, i < css.length → ∃ (c0 : ByteArray) (a1 : Option Addr) (n1 m1 : Nat) (a2 : Option Addr) (n2 m2 : Nat), css.getD i [] = [.string c0, .slice a1 n1 m1, .slice a2 n2 m2]) := hsh
  have HL : Hid (zs.length + (spJ ss).length ≤ 1000000000) := hlen
  have HE : Hid (css.length = ss.length) := hl
  have HB : Hid (Bd w B b zs) := hb
  clear hs hlen hb hl hsh
  have hnn : (css.length : Int) ≤ 9223372036854775807 := by omega
  have eK : ∀ (args : Array Value) (w : World), (callFunc K args).run Tryz.prog w = .ok (.enter K args) w := hK.1
  have eF : ∀ (args : Array Value) (w : World), (callFunc F args).run Tryz.prog w = .ok (.enter F args) w := hEF
  unfold pv at *
  go_enter Tryz.func73, Tryz.ntmps73
  go_wp2
  go_loopw [10] (fun v wr => ∃ i : Nat, v = .int .i64 i ∧ i ≤ css.length ∧ At w B b wr (zs ++ spJ (ss.take i))) (fun v _ => (css.length - intOf v).toNat)
  case atStart => exact ⟨0, rfl, Nat.zero_le _, by rw [List.take_zero, spJ_nil, List.append_nil]; exact At.refl HB.out⟩
  case round =>
    obtain ⟨i, rfl, hi, hat⟩ := hrel
    by_cases hlt : i < css.length
    · have hiz : (i : Int) < css.length := by omega
      obtain ⟨k, off, rfl, hk, hc⟩ := R1.out i hlt
      obtain ⟨c0, a1, n1, m1, a2, n2, m2, he⟩ := HSH.out i hlt
      have hFi := hF i hlt
      rw [he] at hc hFi
      have q0 := (hat.bel.cell (p := ⟨k, off + (i * 3 + 0), none⟩) hk).trans (hc 0 (by decide))
      have p0 : wr.cell? ⟨k, off + i * 3, none⟩ = some (.string c0) := by simpa [Nat.add_assoc] using q0
      clear q0
      have q1 := (hat.bel.cell (p := ⟨k, off + (i * 3 + 1), none⟩) hk).trans (hc 1 (by decide))
      have p1 : wr.cell? ⟨k, off + i * 3 + 1, none⟩ = some (.slice a1 n1 m1) := by simpa [Nat.add_assoc] using q1
      clear q1
      have q2 := (hat.bel.cell (p := ⟨k, off + (i * 3 + 2), none⟩) hk).trans (hc 2 (by decide))
      have p2 : wr.cell? ⟨k, off + i * 3 + 2, none⟩ = some (.slice a2 n2 m2) := by simpa [Nat.add_assoc] using q2
      clear q2
      obtain ⟨y, hy⟩ : ∃ y, y = ss.getD i [] := ⟨_, rfl⟩
      obtain ⟨z, hz⟩ : ∃ z, z = zs ++ spJ (ss.take i) := ⟨_, rfl⟩
      rw [← hy] at hFi
      rw [← hz] at hat
      have HY : Hid (y = ss.getD i []) := hy
      have HZ : Hid (z = zs ++ spJ (ss.take i)) := hz
      have HA : Hid (At w B b wr z) := hat
      have HLE : Hid (z.length + (1 + y.length) ≤ 1000000000) := by
        have h1 := HL.out
        have h2 := spJ_le ss (i + 1)
        rw [spJ_take ss (by rw [← HE.out]; exact hlt), ← hy] at h2
        simp only [List.length_append, List.length_cons, List.length_nil] at h2
        show z.length + (1 + y.length) ≤ 1000000000
        rw [hz, List.length_append]
        omega
      have HFI : Hid (∀ W z', At w B b W z' → z'.length + y.length ≤ 1000000000 → Calls Tryz.prog F #[.func (.func K) #[] #[.pointer (some ⟨b, 0, none⟩)], .agg #[.string c0, .slice a1 n1 m1, .slice a2 n2 m2]] W (Lays1 B b W (z' ++ y))) := hFi
      have hn1 := hat.bd.new (Nat.le_refl _)
      have hlb := hat.bd.lt
      clear hat hc hy hz hFi he
      have tok1 : Hid True := trivial
      have tok2 : Hid True := trivial
      go_wp2_with (first | (go_at_fn K; have tku := tok1; clear tku tok1; refine (put1 hK (HA.out.bd.alloc (.cells #[.string c0, .slice a1 n1 m1, .slice a2 n2 m2] 46)) [32] (by have := HLE.out; simp only [List.length_cons, List.length_nil]; omega) (by simp)).mono ?_; rintro e w2 ⟨rfl, h2⟩; have f0 := h2.fb.cell (k := wr.heap.size) (off := 0) (v := .string c0) (by simp) (hn1.alloc hlb _) (by simp); have f1 := h2.fb.cell (k := wr.heap.size) (off := 1) (v := .slice a1 n1 m1) (by simp) (hn1.alloc hlb _) (by simp); have f2 := h2.fb.cell (k := wr.heap.size) (off := 2) (v := .slice a2 n2 m2) (by simp) (hn1.alloc hlb _) (by simp); have hsz2 := h2.bel.size; rw [World.size_alloc] at hsz2; have H2 : Hid (At w B b w2 (z ++ [32])) := (HA.out.alloc (.cells #[.string c0, .slice a1 n1 m1, .slice a2 n2 m2] 46)).trans h2; clear h2) | (go_at_fn F; have tku := tok2; clear tku tok2; refine (HFI.out _ _ H2.out (by have := HLE.out; simp only [List.length_append, List.length_cons, List.length_nil]; omega)).mono ?_; rintro e w3 ⟨rfl, h3⟩; have H3 : Hid (At w B b w3 ((z ++ [32]) ++ y)) := H2.out.trans h3; clear h3))
      go_roundw
      case rel => exact ⟨i + 1, by simp, by omega, by rw [spJ_take ss (by rw [← HE.out]; exact hlt), ← HY.out, ← List.append_assoc, ← HZ.out, ← List.append_assoc]; exact H3.out⟩
      case measure => simp [intOf]; omega
    · have hiz : ¬ (i : Int) < css.length := by omega
      obtain rfl : i = css.length := by omega
      go_wp2
      go_end0
      exact ⟨rfl, by have := hat; rw [HE.out, List.take_length] at this; exact this⟩
set_option maxHeartbeats 4000000 in
theorem each56 {B K F b : Nat} (hK : PutC K) (hEF : Enters Tryz.prog F) (zs : Str) (v : Value) (css : List (List Value)) (ss : List Str) (w : World) (hs : SlW 5 w (fun k => k < B) v css) (hsh : ∀ i, i < css.length → ∃ (c0 : Int) (c1 : ByteArray) (c2 : Int) (c3 : Int) (c4 : ByteArray), css.getD i [] = [.int .u8 c0, .string c1, .int .u8 c2, .int .i64 c3, .string c4]) (hl : css.length = ss.length) (hb : Bd w B b zs) (hlen : zs.length + (spJ ss).length ≤ 1000000000)
    (hF : ∀ i, i < css.length → ∀ W z, At w B b W z → z.length + (ss.getD i []).length ≤ 1000000000 → Calls Tryz.prog F #[pv K b, .agg (css.getD i []).toArray] W (Lays1 B b W (z ++ ss.getD i []))) :
    Calls Tryz.prog 41 #[pv K b, v, .func (.func F) #[] #[]] w (Lays1 B b w (zs ++ spJ ss)) := by
  obtain ⟨a, c, rfl⟩ := hs.shape
  obtain ⟨-, l1, m1, -⟩ := hs.row
  have R1 : Hid (∀ i, i < css.length → ∃ k off, a = some ⟨k, off, none⟩ ∧ k < B ∧ ∀ j, j < 5 → w.cell? ⟨k, off + (i * 5 + j), none⟩ = (css.getD i [])[j]?) := by
    intro i hi
    obtain ⟨a', cap', h1, h2, h3, h4⟩ := hs
    obtain ⟨rfl, -, -⟩ := Value.slice.inj h1
    rcases h4 with h4 | ⟨k, off, e, hk, hp, hc⟩
    · rw [h4] at hi; simp at hi
    · exact ⟨k, off, e, hp, fun j hj => hc i j hi hj⟩
  have HSH : Hid (∀ i, i < css.length → ∃ (c0 : Int) (c1 : ByteArray) (c2 : Int) (c3 : Int) (c4 : ByteArray), css.getD i [] = [.int .u8 c0, .string c1, .int .u8 c2, .int .i64 c3, .string c4]) := hsh
  have HL : Hid (zs.length + (spJ ss).length ≤ 1000000000) := hlen
  have HE : Hid (css.length = ss.length) := hl
  have HB : Hid (Bd w B b zs) := hb
  clear hs hlen hb hl hsh
  have hnn : (css.length : Int) ≤ 9223372036854775807 := by omega
  have eK : ∀ (args : Array Value) (w : World), (callFunc K args).run Tryz.prog w = .ok (.enter K args) w := hK.1
  have eF : ∀ (args : Array Value) (w : World), (callFunc F args).run Tryz.prog w = .ok (.enter F args) w := hEF
  unfold pv at *
  go_enter Tryz.func41, Tryz.ntmps41
  go_wp2
  go_loopw [10] (fun v wr => ∃ i : Nat, v = .int .i64 i ∧ i ≤ css.length ∧ At w B b wr (zs ++ spJ (ss.take i))) (fun v _ => (css.length - intOf v).toNat)
  case atStart => exact ⟨0, rfl, Nat.zero_le _, by rw [List.take_zero, spJ_nil, List.append_nil]; exact At.refl HB.out⟩
  case round =>
    obtain ⟨i, rfl, hi, hat⟩ := hrel
    by_cases hlt : i < css.length
    · have hiz : (i : Int) < css.length := by omega
      obtain ⟨k, off, rfl, hk, hc⟩ := R1.out i hlt
      obtain ⟨c0, c1, c2, c3, c4, he⟩ := HSH.out i hlt
      have hFi := hF i hlt
      rw [he] at hc hFi
      have q0 := (hat.bel.cell (p := ⟨k, off + (i * 5 + 0), none⟩) hk).trans (hc 0 (by decide))
      have p0 : wr.cell? ⟨k, off + i * 5, none⟩ = some (.int .u8 c0) := by simpa [Nat.add_assoc] using q0
      clear q0
      have q1 := (hat.bel.cell (p := ⟨k, off + (i * 5 + 1), none⟩) hk).trans (hc 1 (by decide))
      have p1 : wr.cell? ⟨k, off + i * 5 + 1, none⟩ = some (.string c1) := by simpa [Nat.add_assoc] using q1
      clear q1
      have q2 := (hat.bel.cell (p := ⟨k, off + (i * 5 + 2), none⟩) hk).trans (hc 2 (by decide))
      have p2 : wr.cell? ⟨k, off + i * 5 + 2, none⟩ = some (.int .u8 c2) := by simpa [Nat.add_assoc] using q2
      clear q2
      have q3 := (hat.bel.cell (p := ⟨k, off + (i * 5 + 3), none⟩) hk).trans (hc 3 (by decide))
      have p3 : wr.cell? ⟨k, off + i * 5 + 3, none⟩ = some (.int .i64 c3) := by simpa [Nat.add_assoc] using q3
      clear q3
      have q4 := (hat.bel.cell (p := ⟨k, off + (i * 5 + 4), none⟩) hk).trans (hc 4 (by decide))
      have p4 : wr.cell? ⟨k, off + i * 5 + 4, none⟩ = some (.string c4) := by simpa [Nat.add_assoc] using q4
      clear q4
      obtain ⟨y, hy⟩ : ∃ y, y = ss.getD i [] := ⟨_, rfl⟩
      obtain ⟨z, hz⟩ : ∃ z, z = zs ++ spJ (ss.take i) := ⟨_, rfl⟩
      rw [← hy] at hFi
      rw [← hz] at hat
      have HY : Hid (y = ss.getD i []) := hy
      have HZ : Hid (z = zs ++ spJ (ss.take i)) := hz
      have HA : Hid (At w B b wr z) := hat
      have HLE : Hid (z.length + (1 + y.length) ≤ 1000000000) := by
        have h1 := HL.out
        have h2 := spJ_le ss (i + 1)
        rw [spJ_take ss (by rw [← HE.out]; exact hlt), ← hy] at h2
        simp only [List.length_append, List.length_cons, List.length_nil] at h2
        show z.length + (1 + y.length) ≤ 1000000000
        rw [hz, List.length_append]
        omega
      have HFI : Hid (∀ W z', At w B b W z' → z'.length + y.length ≤ 1000000000 → Calls Tryz.prog F #[.func (.func K) #[] #[.pointer (some ⟨b, 0, none⟩)], .agg #[.int .u8 c0, .string c1, .int .u8 c2, .int .i64 c3, .string c4]] W (Lays1 B b W (z' ++ y))) := hFi
      have hn1 := hat.bd.new (Nat.le_refl _)
      have hlb := hat.bd.lt
      clear hat hc hy hz hFi he
      have tok1 : Hid True := trivial
      have tok2 : Hid True := trivial
      go_wp2_with (first | (go_at_fn K; have tku := tok1; clear tku tok1; refine (put1 hK (HA.out.bd.alloc (.cells #[.int .u8 c0, .string c1, .int .u8 c2, .int .i64 c3, .string c4] 42)) [32] (by have := HLE.out; simp only [List.length_cons, List.length_nil]; omega) (by simp)).mono ?_; rintro e w2 ⟨rfl, h2⟩; have f0 := h2.fb.cell (k := wr.heap.size) (off := 0) (v := .int .u8 c0) (by simp) (hn1.alloc hlb _) (by simp); have f1 := h2.fb.cell (k := wr.heap.size) (off := 1) (v := .string c1) (by simp) (hn1.alloc hlb _) (by simp); have f2 := h2.fb.cell (k := wr.heap.size) (off := 2) (v := .int .u8 c2) (by simp) (hn1.alloc hlb _) (by simp); have f3 := h2.fb.cell (k := wr.heap.size) (off := 3) (v := .int .i64 c3) (by simp) (hn1.alloc hlb _) (by simp); have f4 := h2.fb.cell (k := wr.heap.size) (off := 4) (v := .string c4) (by simp) (hn1.alloc hlb _) (by simp); have hsz2 := h2.bel.size; rw [World.size_alloc] at hsz2; have H2 : Hid (At w B b w2 (z ++ [32])) := (HA.out.alloc (.cells #[.int .u8 c0, .string c1, .int .u8 c2, .int .i64 c3, .string c4] 42)).trans h2; clear h2) | (go_at_fn F; have tku := tok2; clear tku tok2; refine (HFI.out _ _ H2.out (by have := HLE.out; simp only [List.length_append, List.length_cons, List.length_nil]; omega)).mono ?_; rintro e w3 ⟨rfl, h3⟩; have H3 : Hid (At w B b w3 ((z ++ [32]) ++ y)) := H2.out.trans h3; clear h3))
      go_roundw
      case rel => exact ⟨i + 1, by simp, by omega, by rw [spJ_take ss (by rw [← HE.out]; exact hlt), ← HY.out, ← List.append_assoc, ← HZ.out, ← List.append_assoc]; exact H3.out⟩
      case measure => simp [intOf]; omega
    · have hiz : ¬ (i : Int) < css.length := by omega
      obtain rfl : i = css.length := by omega
      go_wp2
      go_end0
      exact ⟨rfl, by have := hat; rw [HE.out, List.take_length] at this; exact this⟩
set_option maxHeartbeats 4000000 in
theorem each60 {B K F b : Nat} (hK : PutC K) (hEF : Enters Tryz.prog F) (zs : Str) (v : Value) (css : List (List Value)) (ss : List Str) (w : World) (hs : SlW 2 w (fun k => k < B) v css) (hsh : ∀ i, i < css.length → ∃ (c0 : ByteArray) (a1 : Option Addr) (n1 m1 : Nat), css.getD i [] = [.string c0, .slice a1 n1 m1]) (hl : css.length = ss.length) (hb : Bd w B b zs) (hlen : zs.length + (spJ ss).length ≤ 1000000000)
    (hF : ∀ i, i < css.length → ∀ W z, At w B b W z → z.length + (ss.getD i []).length ≤ 1000000000 → Calls Tryz.prog F #[pv K b, .agg (css.getD i []).toArray] W (Lays1 B b W (z ++ ss.getD i []))) :
    Calls Tryz.prog 74 #[pv K b, v, .func (.func F) #[] #[]] w (Lays1 B b w (zs ++ spJ ss)) := by
  obtain ⟨a, c, rfl⟩ := hs.shape
  obtain ⟨-, l1, m1, -⟩ := hs.row
  have R1 : Hid (∀ i, i < css.length → ∃ k off, a = some ⟨k, off, none⟩ ∧ k < B ∧ ∀ j, j < 2 → w.cell? ⟨k, off + (i * 2 + j), none⟩ = (css.getD i [])[j]?) := by
    intro i hi
    obtain ⟨a', cap', h1, h2, h3, h4⟩ := hs
    obtain ⟨rfl, -, -⟩ := Value.slice.inj h1
    rcases h4 with h4 | ⟨k, off, e, hk, hp, hc⟩
    · rw [h4] at hi; simp at hi
    · exact ⟨k, off, e, hp, fun j hj => hc i j hi hj⟩
  have HSH : Hid (∀ i, i < css.length → ∃ (c0 : ByteArray) (a1 : Option Addr) (n1 m1 : Nat), css.getD i [] = [.string c0, .slice a1 n1 m1]) := hsh
  have HL : Hid (zs.length + (spJ ss).length ≤ 1000000000) := hlen
  have HE : Hid (css.length = ss.length) := hl
  have HB : Hid (Bd w B b zs) := hb
  clear hs hlen hb hl hsh
  have hnn : (css.length : Int) ≤ 9223372036854775807 := by omega
  have eK : ∀ (args : Array Value) (w : World), (callFunc K args).run Tryz.prog w = .ok (.enter K args) w := hK.1
  have eF : ∀ (args : Array Value) (w : World), (callFunc F args).run Tryz.prog w = .ok (.enter F args) w := hEF
  unfold pv at *
  go_enter Tryz.func74, Tryz.ntmps74
  go_wp2
  go_loopw [10] (fun v wr => ∃ i : Nat, v = .int .i64 i ∧ i ≤ css.length ∧ At w B b wr (zs ++ spJ (ss.take i))) (fun v _ => (css.length - intOf v).toNat)
  case atStart => exact ⟨0, rfl, Nat.zero_le _, by rw [List.take_zero, spJ_nil, List.append_nil]; exact At.refl HB.out⟩
  case round =>
    obtain ⟨i, rfl, hi, hat⟩ := hrel
    by_cases hlt : i < css.length
    · have hiz : (i : Int) < css.length := by omega
      obtain ⟨k, off, rfl, hk, hc⟩ := R1.out i hlt
      obtain ⟨c0, a1, n1, m1, he⟩ := HSH.out i hlt
      have hFi := hF i hlt
      rw [he] at hc hFi
      have q0 := (hat.bel.cell (p := ⟨k, off + (i * 2 + 0), none⟩) hk).trans (hc 0 (by decide))
      have p0 : wr.cell? ⟨k, off + i * 2, none⟩ = some (.string c0) := by simpa [Nat.add_assoc] using q0
      clear q0
      have q1 := (hat.bel.cell (p := ⟨k, off + (i * 2 + 1), none⟩) hk).trans (hc 1 (by decide))
      have p1 : wr.cell? ⟨k, off + i * 2 + 1, none⟩ = some (.slice a1 n1 m1) := by simpa [Nat.add_assoc] using q1
      clear q1
      obtain ⟨y, hy⟩ : ∃ y, y = ss.getD i [] := ⟨_, rfl⟩
      obtain ⟨z, hz⟩ : ∃ z, z = zs ++ spJ (ss.take i) := ⟨_, rfl⟩
      rw [← hy] at hFi
      rw [← hz] at hat
      have HY : Hid (y = ss.getD i []) := hy
      have HZ : Hid (z = zs ++ spJ (ss.take i)) := hz
      have HA : Hid (At w B b wr z) := hat
      have HLE : Hid (z.length + (1 + y.length) ≤ 1000000000) := by
        have h1 := HL.out
        have h2 := spJ_le ss (i + 1)
        rw [spJ_take ss (by rw [← HE.out]; exact hlt), ← hy] at h2
        simp only [List.length_append, List.length_cons, List.length_nil] at h2
        show z.length + (1 + y.length) ≤ 1000000000
        rw [hz, List.length_append]
        omega
      have HFI : Hid (∀ W z', At w B b W z' → z'.length + y.length ≤ 1000000000 → Calls Tryz.prog F #[.func (.func K) #[] #[.pointer (some ⟨b, 0, none⟩)], .agg #[.string c0, .slice a1 n1 m1]] W (Lays1 B b W (z' ++ y))) := hFi
      have hn1 := hat.bd.new (Nat.le_refl _)
      have hlb := hat.bd.lt
      clear hat hc hy hz hFi he
      have tok1 : Hid True := trivial
      have tok2 : Hid True := trivial
      go_wp2_with (first | (go_at_fn K; have tku := tok1; clear tku tok1; refine (put1 hK (HA.out.bd.alloc (.cells #[.string c0, .slice a1 n1 m1] 130)) [32] (by have := HLE.out; simp only [List.length_cons, List.length_nil]; omega) (by simp)).mono ?_; rintro e w2 ⟨rfl, h2⟩; have f0 := h2.fb.cell (k := wr.heap.size) (off := 0) (v := .string c0) (by simp) (hn1.alloc hlb _) (by simp); have f1 := h2.fb.cell (k := wr.heap.size) (off := 1) (v := .slice a1 n1 m1) (by simp) (hn1.alloc hlb _) (by simp); have hsz2 := h2.bel.size; rw [World.size_alloc] at hsz2; have H2 : Hid (At w B b w2 (z ++ [32])) := (HA.out.alloc (.cells #[.string c0, .slice a1 n1 m1] 130)).trans h2; clear h2) | (go_at_fn F; have tku := tok2; clear tku tok2; refine (HFI.out _ _ H2.out (by have := HLE.out; simp only [List.length_append, List.length_cons, List.length_nil]; omega)).mono ?_; rintro e w3 ⟨rfl, h3⟩; have H3 : Hid (At w B b w3 ((z ++ [32]) ++ y)) := H2.out.trans h3; clear h3))
      go_roundw
      case rel => exact ⟨i + 1, by simp, by omega, by rw [spJ_take ss (by rw [← HE.out]; exact hlt), ← HY.out, ← List.append_assoc, ← HZ.out, ← List.append_assoc]; exact H3.out⟩
      case measure => simp [intOf]; omega
    · have hiz : ¬ (i : Int) < css.length := by omega
      obtain rfl : i = css.length := by omega
      go_wp2
      go_end0
      exact ⟨rfl, by have := hat; rw [HE.out, List.take_length] at this; exact this⟩
end Go.Proofs.YtemacdimdpnkeaaGreatDoor
namespace Go.Proofs.YtemacdimdpnkeaaGreatDoor
set_option maxRecDepth 20000
open Go.RowKit
set_option linter.unusedVariables false
set_option linter.unusedSimpArgs false
set_option maxHeartbeats 4000000 in
theorem name_lay {B K b : Nat} (hK : PutC K) (zs : Str) (x : Str) (w : World) (hb : Bd w B b zs) (hlen : zs.length + (x).length ≤ 1000000000)  :
    Calls Tryz.prog 66 #[pv K b, .string (st x)] w (Lays1 B b w (zs ++ (x))) := by
  have eK : ∀ (args : Array Value) (w : World), (callFunc K args).run Tryz.prog w = .ok (.enter K args) w := hK.1
  have HL : Hid (zs.length + (x).length ≤ 1000000000) := hlen
  have HB : Hid (Bd w B b zs) := hb
  have H0 : Hid (At w B b w zs) := At.refl HB.out
  have HZ : Hid (At w B b w zs) := At.refl HB.out
  have hb1 := hb.lt
  clear hlen hb
  have tok1 : Hid True := trivial
  unfold pv at *
  go_enter Tryz.func66, Tryz.ntmps66
  go_wp2_with (first | (go_at_fn K; have tku := tok1; clear tku tok1; refine (put1 hK H0.out.bd (x) (by have := HL.out; (try simp only [List.length_append, List.length_cons, List.length_nil] at this ⊢); omega) (by simp)).mono ?_; rintro e w1 ⟨rfl, hh⟩; have hh1 : At w B b w1 (zs ++ (x)) := H0.out.trans hh; clear hh; have H1 : Hid (At w B b w1 (zs ++ (x))) := hh1; have hs1 := hh1.bel.size; clear hh1))
  go_end0
  exact ⟨rfl, by have := HZ.out.trans H1.out; first | exact this | simpa only [List.append_assoc, List.cons_append, List.nil_append] using this⟩
set_option maxHeartbeats 4000000 in
theorem var_lay {B K b : Nat} (hK : PutC K) (zs : Str) (x : Str) (w : World) (hb : Bd w B b zs) (hlen : zs.length + ([60] ++ (x ++ [62])).length ≤ 1000000000)  :
    Calls Tryz.prog 70 #[pv K b, .string (st x)] w (Lays1 B b w (zs ++ ([60] ++ (x ++ [62])))) := by
  have eK : ∀ (args : Array Value) (w : World), (callFunc K args).run Tryz.prog w = .ok (.enter K args) w := hK.1
  have HL : Hid (zs.length + ([60] ++ (x ++ [62])).length ≤ 1000000000) := hlen
  have HB : Hid (Bd w B b zs) := hb
  have H0 : Hid (At w B b w zs) := At.refl HB.out
  have HZ : Hid (At w B b w zs) := At.refl HB.out
  have hb1 := hb.lt
  clear hlen hb
  have tok1 : Hid True := trivial
  unfold pv at *
  go_enter Tryz.func70, Tryz.ntmps70
  go_wp2_with (first | (go_at_fn K; have tku := tok1; clear tku tok1; refine (put3 hK H0.out.bd ([60]) (x) ([62]) (by have := HL.out; (try simp only [List.length_append, List.length_cons, List.length_nil] at this ⊢); omega) (by simp)).mono ?_; rintro e w1 ⟨rfl, hh⟩; have hh1 : At w B b w1 (zs ++ ([60] ++ (x ++ ([62])))) := H0.out.trans hh; clear hh; have H1 : Hid (At w B b w1 (zs ++ ([60] ++ (x ++ ([62]))))) := hh1; have hs1 := hh1.bel.size; clear hh1))
  go_end0
  exact ⟨rfl, by have := HZ.out.trans H1.out; first | exact this | simpa only [List.append_assoc, List.cons_append, List.nil_append] using this⟩
end Go.Proofs.YtemacdimdpnkeaaGreatDoor
namespace Go.Proofs.YtemacdimdpnkeaaGreatDoor
set_option maxRecDepth 20000
open Go.RowKit
set_option linter.unusedVariables false
set_option linter.unusedSimpArgs false
theorem getD_mapS {α : Type} (f : α → Str) (l : List α) (i : Nat) (d : α) (h : i < l.length) : (l.map f).getD i [] = f (l.getD i d) := by
  rw [List.getD_eq_getElem?_getD, List.getD_eq_getElem?_getD, List.getElem?_map, List.getElem?_eq_getElem h]; rfl
theorem getD_mem {α : Type} (l : List α) (i : Nat) (d : α) (h : i < l.length) : l.getD i d ∈ l := by
  rw [List.getD_eq_getElem?_getD, List.getElem?_eq_getElem h]; exact List.getElem_mem h
theorem stays_below {B : Nat} {w w' : World} (h : Below B w w') : Stays (fun _ k => k < B) w w' := ⟨h.size, fun _ b hb _ => h.block b hb⟩
set_option maxHeartbeats 4000000 in
theorem val_lay {B K b : Nat} (hK : PutC K) (zs : Str) (x : VD) (w : World) (hb : Bd w B b zs) (hlen : zs.length + (svd x).length ≤ 1000000000) (hf : fV x) (hB : 5 ≤ B) (hV : Vars w) :
    Calls Tryz.prog 40 #[pv K b, .agg #[.int .u8 x.k, .int .i64 x.n, .string (st x.s)]] w (Lays1 B b w (zs ++ (svd x))) := by
  have eK : ∀ (args : Array Value) (w : World), (callFunc K args).run Tryz.prog w = .ok (.enter K args) w := hK.1
  have HL : Hid (zs.length + (svd x).length ≤ 1000000000) := hlen
  have HB : Hid (Bd w B b zs) := hb
  have H0 : Hid (At (w.alloc (.cells #[.int .u8 x.k, .int .i64 x.n, .string (st x.s)] 36)) B b (w.alloc (.cells #[.int .u8 x.k, .int .i64 x.n, .string (st x.s)] 36)) zs) := At.refl (HB.out.alloc _)
  have HZ : Hid (At w B b (w.alloc (.cells #[.int .u8 x.k, .int .i64 x.n, .string (st x.s)] 36)) zs) := (At.refl HB.out).alloc _
  have HX : Hid (∀ W z, At (w.alloc (.cells #[.int .u8 x.k, .int .i64 x.n, .string (st x.s)] 36)) B b W z → W.cell? ⟨w.heap.size, 0, none⟩ = some (.int .u8 x.k) ∧ W.cell? ⟨w.heap.size, 1, none⟩ = some (.int .i64 x.n) ∧ W.cell? ⟨w.heap.size, 2, none⟩ = some (.string (st x.s))) := by
    intro W z hW
    have hq := hW.fb
    have hlt : w.heap.size < (w.alloc (.cells #[.int .u8 x.k, .int .i64 x.n, .string (st x.s)] 36)).heap.size := by simp
    have hap : Apart (w.alloc (.cells #[.int .u8 x.k, .int .i64 x.n, .string (st x.s)] 36)) b w.heap.size := (HB.out.new (Nat.le_refl _)).alloc HB.out.lt _
    exact ⟨hq.cell hlt hap (by simp), hq.cell hlt hap (by simp), hq.cell hlt hap (by simp)⟩
  have HV : Hid (Vars w) := hV
  clear hV
  have hb1 := hb.lt
  clear hlen hb
  have tok1 : Hid True := trivial
  have tok2 : Hid True := trivial
  unfold pv at *
  go_enter Tryz.func40, Tryz.ntmps40
  go_wp2_with (first | (go_at_call 71; have tku := tok1; clear tku tok1; refine (text_sv x _ hf (HV.out.at hB (HZ.out.trans H0.out).bel)).mono ?_; rintro e w1 ⟨rfl, hh⟩; have hh1 : At (w.alloc (.cells #[.int .u8 x.k, .int .i64 x.n, .string (st x.s)] 36)) B b w1 zs := H0.out.below hh; clear hh; obtain ⟨p0, p1, p2⟩ := HX.out _ _ hh1; have H1 : Hid (At (w.alloc (.cells #[.int .u8 x.k, .int .i64 x.n, .string (st x.s)] 36)) B b w1 zs) := hh1; have hs1 := hh1.bel.size; clear hh1) | (go_at_fn K; have tku := tok2; clear tku tok2; refine (put1 hK H1.out.bd (svd x) (by have := HL.out; (try simp only [List.length_append, List.length_cons, List.length_nil] at this ⊢); omega) (by simp)).mono ?_; rintro e w2 ⟨rfl, hh⟩; have hh2 : At (w.alloc (.cells #[.int .u8 x.k, .int .i64 x.n, .string (st x.s)] 36)) B b w2 (zs ++ (svd x)) := H1.out.trans hh; clear hh; obtain ⟨p0, p1, p2⟩ := HX.out _ _ hh2; have H2 : Hid (At (w.alloc (.cells #[.int .u8 x.k, .int .i64 x.n, .string (st x.s)] 36)) B b w2 (zs ++ (svd x))) := hh2; have hs2 := hh2.bel.size; clear hh2))
  go_end0
  exact ⟨rfl, by have := HZ.out.trans H2.out; first | exact this | simpa only [List.append_assoc, List.cons_append, List.nil_append] using this⟩
set_option maxHeartbeats 4000000 in
theorem test_lay_a {B K b : Nat} (hK : PutC K) (zs : Str) (x : TestD) (w : World) (hb : Bd w B b zs) (hlen : zs.length + (svd x.x).length ≤ 1000000000) (hf : fV x.x)  (hv : (st x.v).toList.isEmpty = true) (hB : 5 ≤ B) (hV : Vars w) :
    Calls Tryz.prog 42 #[pv K b, .agg #[.int .u8 0, .string (st x.v), .int .u8 x.x.k, .int .i64 x.x.n, .string (st x.x.s)]] w (Lays1 B b w (zs ++ (svd x.x))) := by
  have eK : ∀ (args : Array Value) (w : World), (callFunc K args).run Tryz.prog w = .ok (.enter K args) w := hK.1
  have HL : Hid (zs.length + (svd x.x).length ≤ 1000000000) := hlen
  have HB : Hid (Bd w B b zs) := hb
  have H0 : Hid (At (w.alloc (.cells #[.int .u8 0, .string (st x.v), .int .u8 x.x.k, .int .i64 x.x.n, .string (st x.x.s)] 42)) B b (w.alloc (.cells #[.int .u8 0, .string (st x.v), .int .u8 x.x.k, .int .i64 x.x.n, .string (st x.x.s)] 42)) zs) := At.refl (HB.out.alloc _)
  have HZ : Hid (At w B b (w.alloc (.cells #[.int .u8 0, .string (st x.v), .int .u8 x.x.k, .int .i64 x.x.n, .string (st x.x.s)] 42)) zs) := (At.refl HB.out).alloc _
  have HX : Hid (∀ W z, At (w.alloc (.cells #[.int .u8 0, .string (st x.v), .int .u8 x.x.k, .int .i64 x.x.n, .string (st x.x.s)] 42)) B b W z → W.cell? ⟨w.heap.size, 0, none⟩ = some (.int .u8 0) ∧ W.cell? ⟨w.heap.size, 1, none⟩ = some (.string (st x.v)) ∧ W.cell? ⟨w.heap.size, 2, none⟩ = some (.int .u8 x.x.k) ∧ W.cell? ⟨w.heap.size, 3, none⟩ = some (.int .i64 x.x.n) ∧ W.cell? ⟨w.heap.size, 4, none⟩ = some (.string (st x.x.s))) := by
    intro W z hW
    have hq := hW.fb
    have hlt : w.heap.size < (w.alloc (.cells #[.int .u8 0, .string (st x.v), .int .u8 x.x.k, .int .i64 x.x.n, .string (st x.x.s)] 42)).heap.size := by simp
    have hap : Apart (w.alloc (.cells #[.int .u8 0, .string (st x.v), .int .u8 x.x.k, .int .i64 x.x.n, .string (st x.x.s)] 42)) b w.heap.size := (HB.out.new (Nat.le_refl _)).alloc HB.out.lt _
    exact ⟨hq.cell hlt hap (by simp), hq.cell hlt hap (by simp), hq.cell hlt hap (by simp), hq.cell hlt hap (by simp), hq.cell hlt hap (by simp)⟩
  have HV : Hid (Vars w) := hV
  clear hV
  have hb1 := hb.lt
  clear hlen hb
  have tok1 : Hid True := trivial
  unfold pv at *
  go_enter Tryz.func42, Tryz.ntmps42
  go_wp2_with (first | (go_at_call 40; have tku := tok1; clear tku tok1; refine (val_lay hK _ x.x _ H0.out.bd (by have := HL.out; (try simp only [List.length_append, List.length_cons, List.length_nil] at this ⊢); omega) hf hB (HV.out.at hB (HZ.out.trans H0.out).bel)).mono ?_; rintro e w1 ⟨rfl, hh⟩; have hh1 : At (w.alloc (.cells #[.int .u8 0, .string (st x.v), .int .u8 x.x.k, .int .i64 x.x.n, .string (st x.x.s)] 42)) B b w1 (zs ++ (svd x.x)) := H0.out.trans hh; clear hh; obtain ⟨p0, p1, p2, p3, p4⟩ := HX.out _ _ hh1; have H1 : Hid (At (w.alloc (.cells #[.int .u8 0, .string (st x.v), .int .u8 x.x.k, .int .i64 x.x.n, .string (st x.x.s)] 42)) B b w1 (zs ++ (svd x.x))) := hh1; have hs1 := hh1.bel.size; clear hh1))
  go_end0
  exact ⟨rfl, by have := HZ.out.trans H1.out; first | exact this | simpa only [List.append_assoc, List.cons_append, List.nil_append] using this⟩
set_option maxHeartbeats 4000000 in
theorem test_lay_b {B K b : Nat} (hK : PutC K) (zs : Str) (x : TestD) (w : World) (hb : Bd w B b zs) (hlen : zs.length + (([60] ++ (x.v ++ [62]))).length ≤ 1000000000) (hf : fV x.x)  (hv : (st x.v).toList.isEmpty = false) (hB : 5 ≤ B) (hV : Vars w) :
    Calls Tryz.prog 42 #[pv K b, .agg #[.int .u8 0, .string (st x.v), .int .u8 x.x.k, .int .i64 x.x.n, .string (st x.x.s)]] w (Lays1 B b w (zs ++ (([60] ++ (x.v ++ [62]))))) := by
  have eK : ∀ (args : Array Value) (w : World), (callFunc K args).run Tryz.prog w = .ok (.enter K args) w := hK.1
  have HL : Hid (zs.length + (([60] ++ (x.v ++ [62]))).length ≤ 1000000000) := hlen
  have HB : Hid (Bd w B b zs) := hb
  have H0 : Hid (At (w.alloc (.cells #[.int .u8 0, .string (st x.v), .int .u8 x.x.k, .int .i64 x.x.n, .string (st x.x.s)] 42)) B b (w.alloc (.cells #[.int .u8 0, .string (st x.v), .int .u8 x.x.k, .int .i64 x.x.n, .string (st x.x.s)] 42)) zs) := At.refl (HB.out.alloc _)
  have HZ : Hid (At w B b (w.alloc (.cells #[.int .u8 0, .string (st x.v), .int .u8 x.x.k, .int .i64 x.x.n, .string (st x.x.s)] 42)) zs) := (At.refl HB.out).alloc _
  have HX : Hid (∀ W z, At (w.alloc (.cells #[.int .u8 0, .string (st x.v), .int .u8 x.x.k, .int .i64 x.x.n, .string (st x.x.s)] 42)) B b W z → W.cell? ⟨w.heap.size, 0, none⟩ = some (.int .u8 0) ∧ W.cell? ⟨w.heap.size, 1, none⟩ = some (.string (st x.v)) ∧ W.cell? ⟨w.heap.size, 2, none⟩ = some (.int .u8 x.x.k) ∧ W.cell? ⟨w.heap.size, 3, none⟩ = some (.int .i64 x.x.n) ∧ W.cell? ⟨w.heap.size, 4, none⟩ = some (.string (st x.x.s))) := by
    intro W z hW
    have hq := hW.fb
    have hlt : w.heap.size < (w.alloc (.cells #[.int .u8 0, .string (st x.v), .int .u8 x.x.k, .int .i64 x.x.n, .string (st x.x.s)] 42)).heap.size := by simp
    have hap : Apart (w.alloc (.cells #[.int .u8 0, .string (st x.v), .int .u8 x.x.k, .int .i64 x.x.n, .string (st x.x.s)] 42)) b w.heap.size := (HB.out.new (Nat.le_refl _)).alloc HB.out.lt _
    exact ⟨hq.cell hlt hap (by simp), hq.cell hlt hap (by simp), hq.cell hlt hap (by simp), hq.cell hlt hap (by simp), hq.cell hlt hap (by simp)⟩
  have HV : Hid (Vars w) := hV
  clear hV
  have hb1 := hb.lt
  clear hlen hb
  have tok1 : Hid True := trivial
  unfold pv at *
  go_enter Tryz.func42, Tryz.ntmps42
  go_wp2_with (first | (go_at_call 70; have tku := tok1; clear tku tok1; refine (var_lay hK _ x.v _ H0.out.bd (by have := HL.out; (try simp only [List.length_append, List.length_cons, List.length_nil] at this ⊢); omega)).mono ?_; rintro e w1 ⟨rfl, hh⟩; have hh1 : At (w.alloc (.cells #[.int .u8 0, .string (st x.v), .int .u8 x.x.k, .int .i64 x.x.n, .string (st x.x.s)] 42)) B b w1 (zs ++ ([60] ++ (x.v ++ [62]))) := H0.out.trans hh; clear hh; obtain ⟨p0, p1, p2, p3, p4⟩ := HX.out _ _ hh1; have H1 : Hid (At (w.alloc (.cells #[.int .u8 0, .string (st x.v), .int .u8 x.x.k, .int .i64 x.x.n, .string (st x.x.s)] 42)) B b w1 (zs ++ ([60] ++ (x.v ++ [62])))) := hh1; have hs1 := hh1.bel.size; clear hh1))
  go_end0
  exact ⟨rfl, by have := HZ.out.trans H1.out; first | exact this | simpa only [List.append_assoc, List.cons_append, List.nil_append] using this⟩
set_option maxHeartbeats 4000000 in
theorem test_lay_c {B K b : Nat} (hK : PutC K) (zs : Str) (x : TestD) (w : World) (hb : Bd w B b zs) (hlen : zs.length + ((sgnL x.p ++ [32]) ++ svd x.x).length ≤ 1000000000) (hf : fV x.x) (hp : ¬ x.p = 0) (hv : (st x.v).toList.isEmpty = true) (hB : 5 ≤ B) (hV : Vars w) :
    Calls Tryz.prog 42 #[pv K b, .agg #[.int .u8 x.p, .string (st x.v), .int .u8 x.x.k, .int .i64 x.x.n, .string (st x.x.s)]] w (Lays1 B b w (zs ++ ((sgnL x.p ++ [32]) ++ svd x.x))) := by
  have eK : ∀ (args : Array Value) (w : World), (callFunc K args).run Tryz.prog w = .ok (.enter K args) w := hK.1
  have HL : Hid (zs.length + ((sgnL x.p ++ [32]) ++ svd x.x).length ≤ 1000000000) := hlen
  have HB : Hid (Bd w B b zs) := hb
  have H0 : Hid (At (w.alloc (.cells #[.int .u8 x.p, .string (st x.v), .int .u8 x.x.k, .int .i64 x.x.n, .string (st x.x.s)] 42)) B b (w.alloc (.cells #[.int .u8 x.p, .string (st x.v), .int .u8 x.x.k, .int .i64 x.x.n, .string (st x.x.s)] 42)) zs) := At.refl (HB.out.alloc _)
  have HZ : Hid (At w B b (w.alloc (.cells #[.int .u8 x.p, .string (st x.v), .int .u8 x.x.k, .int .i64 x.x.n, .string (st x.x.s)] 42)) zs) := (At.refl HB.out).alloc _
  have HX : Hid (∀ W z, At (w.alloc (.cells #[.int .u8 x.p, .string (st x.v), .int .u8 x.x.k, .int .i64 x.x.n, .string (st x.x.s)] 42)) B b W z → W.cell? ⟨w.heap.size, 0, none⟩ = some (.int .u8 x.p) ∧ W.cell? ⟨w.heap.size, 1, none⟩ = some (.string (st x.v)) ∧ W.cell? ⟨w.heap.size, 2, none⟩ = some (.int .u8 x.x.k) ∧ W.cell? ⟨w.heap.size, 3, none⟩ = some (.int .i64 x.x.n) ∧ W.cell? ⟨w.heap.size, 4, none⟩ = some (.string (st x.x.s))) := by
    intro W z hW
    have hq := hW.fb
    have hlt : w.heap.size < (w.alloc (.cells #[.int .u8 x.p, .string (st x.v), .int .u8 x.x.k, .int .i64 x.x.n, .string (st x.x.s)] 42)).heap.size := by simp
    have hap : Apart (w.alloc (.cells #[.int .u8 x.p, .string (st x.v), .int .u8 x.x.k, .int .i64 x.x.n, .string (st x.x.s)] 42)) b w.heap.size := (HB.out.new (Nat.le_refl _)).alloc HB.out.lt _
    exact ⟨hq.cell hlt hap (by simp), hq.cell hlt hap (by simp), hq.cell hlt hap (by simp), hq.cell hlt hap (by simp), hq.cell hlt hap (by simp)⟩
  have HV : Hid (Vars w) := hV
  clear hV
  have hb1 := hb.lt
  clear hlen hb
  have tok1 : Hid True := trivial
  have tok2 : Hid True := trivial
  have tok3 : Hid True := trivial
  unfold pv at *
  go_enter Tryz.func42, Tryz.ntmps42
  go_wp2_with (first | (go_at_call 72; have tku := tok1; clear tku tok1; refine (sign_sv x.p _).mono ?_; rintro e w1 ⟨rfl, hh⟩; obtain rfl := hh; have H1 : Hid (At (w.alloc (.cells #[.int .u8 x.p, .string (st x.v), .int .u8 x.x.k, .int .i64 x.x.n, .string (st x.x.s)] 42)) B b _ zs) := H0.out) | (go_at_fn K; have tku := tok2; clear tku tok2; refine (put2 hK H1.out.bd (sgnL x.p) ([32]) (by have := HL.out; (try simp only [List.length_append, List.length_cons, List.length_nil] at this ⊢); omega) (by simp)).mono ?_; rintro e w2 ⟨rfl, hh⟩; have hh2 : At (w.alloc (.cells #[.int .u8 x.p, .string (st x.v), .int .u8 x.x.k, .int .i64 x.x.n, .string (st x.x.s)] 42)) B b w2 (zs ++ (sgnL x.p ++ ([32]))) := H1.out.trans hh; clear hh; obtain ⟨p0, p1, p2, p3, p4⟩ := HX.out _ _ hh2; have H2 : Hid (At (w.alloc (.cells #[.int .u8 x.p, .string (st x.v), .int .u8 x.x.k, .int .i64 x.x.n, .string (st x.x.s)] 42)) B b w2 (zs ++ (sgnL x.p ++ ([32])))) := hh2; have hs2 := hh2.bel.size; clear hh2) | (go_at_call 40; have tku := tok3; clear tku tok3; refine (val_lay hK _ x.x _ H2.out.bd (by have := HL.out; (try simp only [List.length_append, List.length_cons, List.length_nil] at this ⊢); omega) hf hB (HV.out.at hB (HZ.out.trans H2.out).bel)).mono ?_; rintro e w3 ⟨rfl, hh⟩; have hh3 : At (w.alloc (.cells #[.int .u8 x.p, .string (st x.v), .int .u8 x.x.k, .int .i64 x.x.n, .string (st x.x.s)] 42)) B b w3 ((zs ++ (sgnL x.p ++ ([32]))) ++ (svd x.x)) := H2.out.trans hh; clear hh; obtain ⟨p0, p1, p2, p3, p4⟩ := HX.out _ _ hh3; have H3 : Hid (At (w.alloc (.cells #[.int .u8 x.p, .string (st x.v), .int .u8 x.x.k, .int .i64 x.x.n, .string (st x.x.s)] 42)) B b w3 ((zs ++ (sgnL x.p ++ ([32]))) ++ (svd x.x))) := hh3; have hs3 := hh3.bel.size; clear hh3))
  go_end0
  exact ⟨rfl, by have := HZ.out.trans H3.out; first | exact this | simpa only [List.append_assoc, List.cons_append, List.nil_append] using this⟩
set_option maxHeartbeats 4000000 in
theorem test_lay_d {B K b : Nat} (hK : PutC K) (zs : Str) (x : TestD) (w : World) (hb : Bd w B b zs) (hlen : zs.length + ((sgnL x.p ++ [32]) ++ ([60] ++ (x.v ++ [62]))).length ≤ 1000000000) (hf : fV x.x) (hp : ¬ x.p = 0) (hv : (st x.v).toList.isEmpty = false) (hB : 5 ≤ B) (hV : Vars w) :
    Calls Tryz.prog 42 #[pv K b, .agg #[.int .u8 x.p, .string (st x.v), .int .u8 x.x.k, .int .i64 x.x.n, .string (st x.x.s)]] w (Lays1 B b w (zs ++ ((sgnL x.p ++ [32]) ++ ([60] ++ (x.v ++ [62]))))) := by
  have eK : ∀ (args : Array Value) (w : World), (callFunc K args).run Tryz.prog w = .ok (.enter K args) w := hK.1
  have HL : Hid (zs.length + ((sgnL x.p ++ [32]) ++ ([60] ++ (x.v ++ [62]))).length ≤ 1000000000) := hlen
  have HB : Hid (Bd w B b zs) := hb
  have H0 : Hid (At (w.alloc (.cells #[.int .u8 x.p, .string (st x.v), .int .u8 x.x.k, .int .i64 x.x.n, .string (st x.x.s)] 42)) B b (w.alloc (.cells #[.int .u8 x.p, .string (st x.v), .int .u8 x.x.k, .int .i64 x.x.n, .string (st x.x.s)] 42)) zs) := At.refl (HB.out.alloc _)
  have HZ : Hid (At w B b (w.alloc (.cells #[.int .u8 x.p, .string (st x.v), .int .u8 x.x.k, .int .i64 x.x.n, .string (st x.x.s)] 42)) zs) := (At.refl HB.out).alloc _
  have HX : Hid (∀ W z, At (w.alloc (.cells #[.int .u8 x.p, .string (st x.v), .int .u8 x.x.k, .int .i64 x.x.n, .string (st x.x.s)] 42)) B b W z → W.cell? ⟨w.heap.size, 0, none⟩ = some (.int .u8 x.p) ∧ W.cell? ⟨w.heap.size, 1, none⟩ = some (.string (st x.v)) ∧ W.cell? ⟨w.heap.size, 2, none⟩ = some (.int .u8 x.x.k) ∧ W.cell? ⟨w.heap.size, 3, none⟩ = some (.int .i64 x.x.n) ∧ W.cell? ⟨w.heap.size, 4, none⟩ = some (.string (st x.x.s))) := by
    intro W z hW
    have hq := hW.fb
    have hlt : w.heap.size < (w.alloc (.cells #[.int .u8 x.p, .string (st x.v), .int .u8 x.x.k, .int .i64 x.x.n, .string (st x.x.s)] 42)).heap.size := by simp
    have hap : Apart (w.alloc (.cells #[.int .u8 x.p, .string (st x.v), .int .u8 x.x.k, .int .i64 x.x.n, .string (st x.x.s)] 42)) b w.heap.size := (HB.out.new (Nat.le_refl _)).alloc HB.out.lt _
    exact ⟨hq.cell hlt hap (by simp), hq.cell hlt hap (by simp), hq.cell hlt hap (by simp), hq.cell hlt hap (by simp), hq.cell hlt hap (by simp)⟩
  have HV : Hid (Vars w) := hV
  clear hV
  have hb1 := hb.lt
  clear hlen hb
  have tok1 : Hid True := trivial
  have tok2 : Hid True := trivial
  have tok3 : Hid True := trivial
  unfold pv at *
  go_enter Tryz.func42, Tryz.ntmps42
  go_wp2_with (first | (go_at_call 72; have tku := tok1; clear tku tok1; refine (sign_sv x.p _).mono ?_; rintro e w1 ⟨rfl, hh⟩; obtain rfl := hh; have H1 : Hid (At (w.alloc (.cells #[.int .u8 x.p, .string (st x.v), .int .u8 x.x.k, .int .i64 x.x.n, .string (st x.x.s)] 42)) B b _ zs) := H0.out) | (go_at_fn K; have tku := tok2; clear tku tok2; refine (put2 hK H1.out.bd (sgnL x.p) ([32]) (by have := HL.out; (try simp only [List.length_append, List.length_cons, List.length_nil] at this ⊢); omega) (by simp)).mono ?_; rintro e w2 ⟨rfl, hh⟩; have hh2 : At (w.alloc (.cells #[.int .u8 x.p, .string (st x.v), .int .u8 x.x.k, .int .i64 x.x.n, .string (st x.x.s)] 42)) B b w2 (zs ++ (sgnL x.p ++ ([32]))) := H1.out.trans hh; clear hh; obtain ⟨p0, p1, p2, p3, p4⟩ := HX.out _ _ hh2; have H2 : Hid (At (w.alloc (.cells #[.int .u8 x.p, .string (st x.v), .int .u8 x.x.k, .int .i64 x.x.n, .string (st x.x.s)] 42)) B b w2 (zs ++ (sgnL x.p ++ ([32])))) := hh2; have hs2 := hh2.bel.size; clear hh2) | (go_at_call 70; have tku := tok3; clear tku tok3; refine (var_lay hK _ x.v _ H2.out.bd (by have := HL.out; (try simp only [List.length_append, List.length_cons, List.length_nil] at this ⊢); omega)).mono ?_; rintro e w3 ⟨rfl, hh⟩; have hh3 : At (w.alloc (.cells #[.int .u8 x.p, .string (st x.v), .int .u8 x.x.k, .int .i64 x.x.n, .string (st x.x.s)] 42)) B b w3 ((zs ++ (sgnL x.p ++ ([32]))) ++ ([60] ++ (x.v ++ [62]))) := H2.out.trans hh; clear hh; obtain ⟨p0, p1, p2, p3, p4⟩ := HX.out _ _ hh3; have H3 : Hid (At (w.alloc (.cells #[.int .u8 x.p, .string (st x.v), .int .u8 x.x.k, .int .i64 x.x.n, .string (st x.x.s)] 42)) B b w3 ((zs ++ (sgnL x.p ++ ([32]))) ++ ([60] ++ (x.v ++ [62])))) := hh3; have hs3 := hh3.bel.size; clear hh3))
  go_end0
  exact ⟨rfl, by have := HZ.out.trans H3.out; first | exact this | simpa only [List.append_assoc, List.cons_append, List.nil_append] using this⟩
set_option maxHeartbeats 4000000 in
theorem item_lay_a {B K b : Nat} (hK : PutC K) (zs : Str) (x : ItemD) (w : World) (hb : Bd w B b zs) (hlen : zs.length + ([60] ++ (x.v ++ [62])).length ≤ 1000000000) (hf : fV x.x) (hB : 5 ≤ B) (hV : Vars w) :
    Calls Tryz.prog 37 #[pv K b, .agg #[.int .u8 1, .int .u8 x.x.k, .int .i64 x.x.n, .string (st x.x.s), .string (st x.v)]] w (Lays1 B b w (zs ++ ([60] ++ (x.v ++ [62])))) := by
  have eK : ∀ (args : Array Value) (w : World), (callFunc K args).run Tryz.prog w = .ok (.enter K args) w := hK.1
  have HL : Hid (zs.length + ([60] ++ (x.v ++ [62])).length ≤ 1000000000) := hlen
  have HB : Hid (Bd w B b zs) := hb
  have H0 : Hid (At (w.alloc (.cells #[.int .u8 1, .int .u8 x.x.k, .int .i64 x.x.n, .string (st x.x.s), .string (st x.v)] 38)) B b (w.alloc (.cells #[.int .u8 1, .int .u8 x.x.k, .int .i64 x.x.n, .string (st x.x.s), .string (st x.v)] 38)) zs) := At.refl (HB.out.alloc _)
  have HZ : Hid (At w B b (w.alloc (.cells #[.int .u8 1, .int .u8 x.x.k, .int .i64 x.x.n, .string (st x.x.s), .string (st x.v)] 38)) zs) := (At.refl HB.out).alloc _
  have HX : Hid (∀ W z, At (w.alloc (.cells #[.int .u8 1, .int .u8 x.x.k, .int .i64 x.x.n, .string (st x.x.s), .string (st x.v)] 38)) B b W z → W.cell? ⟨w.heap.size, 0, none⟩ = some (.int .u8 1) ∧ W.cell? ⟨w.heap.size, 1, none⟩ = some (.int .u8 x.x.k) ∧ W.cell? ⟨w.heap.size, 2, none⟩ = some (.int .i64 x.x.n) ∧ W.cell? ⟨w.heap.size, 3, none⟩ = some (.string (st x.x.s)) ∧ W.cell? ⟨w.heap.size, 4, none⟩ = some (.string (st x.v))) := by
    intro W z hW
    have hq := hW.fb
    have hlt : w.heap.size < (w.alloc (.cells #[.int .u8 1, .int .u8 x.x.k, .int .i64 x.x.n, .string (st x.x.s), .string (st x.v)] 38)).heap.size := by simp
    have hap : Apart (w.alloc (.cells #[.int .u8 1, .int .u8 x.x.k, .int .i64 x.x.n, .string (st x.x.s), .string (st x.v)] 38)) b w.heap.size := (HB.out.new (Nat.le_refl _)).alloc HB.out.lt _
    exact ⟨hq.cell hlt hap (by simp), hq.cell hlt hap (by simp), hq.cell hlt hap (by simp), hq.cell hlt hap (by simp), hq.cell hlt hap (by simp)⟩
  have HV : Hid (Vars w) := hV
  clear hV
  have hb1 := hb.lt
  clear hlen hb
  have tok1 : Hid True := trivial
  unfold pv at *
  go_enter Tryz.func37, Tryz.ntmps37
  go_wp2_with (first | (go_at_call 70; have tku := tok1; clear tku tok1; refine (var_lay hK _ x.v _ H0.out.bd (by have := HL.out; (try simp only [List.length_append, List.length_cons, List.length_nil] at this ⊢); omega)).mono ?_; rintro e w1 ⟨rfl, hh⟩; have hh1 : At (w.alloc (.cells #[.int .u8 1, .int .u8 x.x.k, .int .i64 x.x.n, .string (st x.x.s), .string (st x.v)] 38)) B b w1 (zs ++ ([60] ++ (x.v ++ [62]))) := H0.out.trans hh; clear hh; obtain ⟨p0, p1, p2, p3, p4⟩ := HX.out _ _ hh1; have H1 : Hid (At (w.alloc (.cells #[.int .u8 1, .int .u8 x.x.k, .int .i64 x.x.n, .string (st x.x.s), .string (st x.v)] 38)) B b w1 (zs ++ ([60] ++ (x.v ++ [62])))) := hh1; have hs1 := hh1.bel.size; clear hh1))
  go_end0
  exact ⟨rfl, by have := HZ.out.trans H1.out; first | exact this | simpa only [List.append_assoc, List.cons_append, List.nil_append] using this⟩
set_option maxHeartbeats 4000000 in
theorem item_lay_b {B K b : Nat} (hK : PutC K) (zs : Str) (x : ItemD) (w : World) (hb : Bd w B b zs) (hlen : zs.length + (svd x.x).length ≤ 1000000000) (hf : fV x.x) (hk : ¬ x.k = 1) (hB : 5 ≤ B) (hV : Vars w) :
    Calls Tryz.prog 37 #[pv K b, .agg #[.int .u8 x.k, .int .u8 x.x.k, .int .i64 x.x.n, .string (st x.x.s), .string (st x.v)]] w (Lays1 B b w (zs ++ (svd x.x))) := by
  have eK : ∀ (args : Array Value) (w : World), (callFunc K args).run Tryz.prog w = .ok (.enter K args) w := hK.1
  have HL : Hid (zs.length + (svd x.x).length ≤ 1000000000) := hlen
  have HB : Hid (Bd w B b zs) := hb
  have H0 : Hid (At (w.alloc (.cells #[.int .u8 x.k, .int .u8 x.x.k, .int .i64 x.x.n, .string (st x.x.s), .string (st x.v)] 38)) B b (w.alloc (.cells #[.int .u8 x.k, .int .u8 x.x.k, .int .i64 x.x.n, .string (st x.x.s), .string (st x.v)] 38)) zs) := At.refl (HB.out.alloc _)
  have HZ : Hid (At w B b (w.alloc (.cells #[.int .u8 x.k, .int .u8 x.x.k, .int .i64 x.x.n, .string (st x.x.s), .string (st x.v)] 38)) zs) := (At.refl HB.out).alloc _
  have HX : Hid (∀ W z, At (w.alloc (.cells #[.int .u8 x.k, .int .u8 x.x.k, .int .i64 x.x.n, .string (st x.x.s), .string (st x.v)] 38)) B b W z → W.cell? ⟨w.heap.size, 0, none⟩ = some (.int .u8 x.k) ∧ W.cell? ⟨w.heap.size, 1, none⟩ = some (.int .u8 x.x.k) ∧ W.cell? ⟨w.heap.size, 2, none⟩ = some (.int .i64 x.x.n) ∧ W.cell? ⟨w.heap.size, 3, none⟩ = some (.string (st x.x.s)) ∧ W.cell? ⟨w.heap.size, 4, none⟩ = some (.string (st x.v))) := by
    intro W z hW
    have hq := hW.fb
    have hlt : w.heap.size < (w.alloc (.cells #[.int .u8 x.k, .int .u8 x.x.k, .int .i64 x.x.n, .string (st x.x.s), .string (st x.v)] 38)).heap.size := by simp
    have hap : Apart (w.alloc (.cells #[.int .u8 x.k, .int .u8 x.x.k, .int .i64 x.x.n, .string (st x.x.s), .string (st x.v)] 38)) b w.heap.size := (HB.out.new (Nat.le_refl _)).alloc HB.out.lt _
    exact ⟨hq.cell hlt hap (by simp), hq.cell hlt hap (by simp), hq.cell hlt hap (by simp), hq.cell hlt hap (by simp), hq.cell hlt hap (by simp)⟩
  have HV : Hid (Vars w) := hV
  clear hV
  have hb1 := hb.lt
  clear hlen hb
  have tok1 : Hid True := trivial
  unfold pv at *
  go_enter Tryz.func37, Tryz.ntmps37
  go_wp2_with (first | (go_at_call 40; have tku := tok1; clear tku tok1; refine (val_lay hK _ x.x _ H0.out.bd (by have := HL.out; (try simp only [List.length_append, List.length_cons, List.length_nil] at this ⊢); omega) hf hB (HV.out.at hB (HZ.out.trans H0.out).bel)).mono ?_; rintro e w1 ⟨rfl, hh⟩; have hh1 : At (w.alloc (.cells #[.int .u8 x.k, .int .u8 x.x.k, .int .i64 x.x.n, .string (st x.x.s), .string (st x.v)] 38)) B b w1 (zs ++ (svd x.x)) := H0.out.trans hh; clear hh; obtain ⟨p0, p1, p2, p3, p4⟩ := HX.out _ _ hh1; have H1 : Hid (At (w.alloc (.cells #[.int .u8 x.k, .int .u8 x.x.k, .int .i64 x.x.n, .string (st x.x.s), .string (st x.v)] 38)) B b w1 (zs ++ (svd x.x))) := hh1; have hs1 := hh1.bel.size; clear hh1))
  go_end0
  exact ⟨rfl, by have := HZ.out.trans H1.out; first | exact this | simpa only [List.append_assoc, List.cons_append, List.nil_append] using this⟩
end Go.Proofs.YtemacdimdpnkeaaGreatDoor
namespace Go.Proofs.YtemacdimdpnkeaaGreatDoor
set_option maxRecDepth 20000
open Go.RowKit
set_option linter.unusedVariables false
set_option linter.unusedSimpArgs false
theorem st_emp {s : Str} : (st s).toList.isEmpty = s.isEmpty := by
  rw [emp, st_list]
theorem test_lay {B K b : Nat} (hK : PutC K) (zs : Str) (x : TestD) (w : World) (hb : Bd w B b zs) (hlen : zs.length + (shSingle svd x).length ≤ 1000000000) (hf : fV x.x) (hB : 5 ≤ B) (hV : Vars w) :
    Calls Tryz.prog 42 #[pv K b, .agg (clT x).toArray] w (Lays1 B b w (zs ++ shSingle svd x)) := by
  unfold shSingle at hlen ⊢
  obtain ⟨p, v, x⟩ := x
  by_cases hp : p = 0
  · subst hp
    rw [if_neg (by simp), List.nil_append] at hlen ⊢
    by_cases hv : v = []
    · subst hv
      rw [if_neg (by simp)] at hlen ⊢
      exact test_lay_a hK zs ⟨0, [], x⟩ w hb hlen hf (by rw [st_emp]; rfl) hB hV
    · rw [if_pos hv] at hlen ⊢
      exact test_lay_b hK zs ⟨0, v, x⟩ w hb hlen hf (by rw [st_emp]; cases v with | nil => exact absurd rfl hv | cons _ _ => rfl) hB hV
  · rw [if_pos hp] at hlen ⊢
    by_cases hv : v = []
    · subst hv
      rw [if_neg (by simp)] at hlen ⊢
      exact test_lay_c hK zs ⟨p, [], x⟩ w hb hlen hf hp (by rw [st_emp]; rfl) hB hV
    · rw [if_pos hv] at hlen ⊢
      exact test_lay_d hK zs ⟨p, v, x⟩ w hb hlen hf hp (by rw [st_emp]; cases v with | nil => exact absurd rfl hv | cons _ _ => rfl) hB hV
theorem item_lay {B K b : Nat} (hK : PutC K) (zs : Str) (x : ItemD) (w : World) (hb : Bd w B b zs) (hlen : zs.length + (itemS svd x).length ≤ 1000000000) (hf : fV x.x) (hB : 5 ≤ B) (hV : Vars w) :
    Calls Tryz.prog 37 #[pv K b, .agg (clI x).toArray] w (Lays1 B b w (zs ++ itemS svd x)) := by
  unfold itemS at hlen ⊢
  obtain ⟨k, x, v⟩ := x
  by_cases hk : k = 1
  · subst hk
    rw [if_pos rfl] at hlen ⊢
    exact item_lay_a hK zs ⟨1, x, v⟩ w hb hlen hf hB hV
  · rw [if_neg hk] at hlen ⊢
    exact item_lay_b hK zs ⟨k, x, v⟩ w hb hlen hf hk hB hV
theorem names_lay {B K b : Nat} (hK : PutC K) (zs : Str) (v : Value) (xs : List Str) (w : World) (hs : SlW 1 w (fun k => k < B) v (xs.map clS)) (hb : Bd w B b zs) (hlen : zs.length + (spJ (xs.map (fun s => s))).length ≤ 1000000000) :
    Calls Tryz.prog 65 #[pv K b, v, .func (.func 66) #[] #[]] w (Lays1 B b w (zs ++ spJ (xs.map (fun s => s)))) := by
  refine each74 hK (enters_of Tryz.func66 (by kernel_rfl) rfl) zs v (xs.map clS) (xs.map (fun s => s)) w hs (fun i hi => ?_) (by rw [List.length_map, List.length_map]) hb hlen fun i hi W z hW hz => ?_
  · rw [List.length_map] at hi
    rw [getD_map clS xs i [] hi]
    exact ⟨_, rfl⟩
  · rw [List.length_map] at hi
    rw [getD_mapS (fun s => s) xs i [] hi] at hz ⊢
    rw [getD_map clS xs i [] hi]
    have hm := getD_mem xs i [] hi
    exact name_lay hK z _ W hW.bd hz
theorem vals_lay {B K b : Nat} (hK : PutC K) (zs : Str) (v : Value) (xs : List VD) (w : World) (hs : SlW 3 w (fun k => k < B) v (xs.map clV)) (hb : Bd w B b zs) (hlen : zs.length + (spJ (xs.map svd)).length ≤ 1000000000) (hf : ∀ x ∈ xs, fV x) (hB : 5 ≤ B) (hV : Vars w) :
    Calls Tryz.prog 39 #[pv K b, v, .func (.func 40) #[] #[]] w (Lays1 B b w (zs ++ spJ (xs.map svd))) := by
  refine each54 hK (enters_of Tryz.func40 (by kernel_rfl) rfl) zs v (xs.map clV) (xs.map svd) w hs (fun i hi => ?_) (by rw [List.length_map, List.length_map]) hb hlen fun i hi W z hW hz => ?_
  · rw [List.length_map] at hi
    rw [getD_map clV xs i v0 hi]
    exact ⟨_, _, _, rfl⟩
  · rw [List.length_map] at hi
    rw [getD_mapS svd xs i v0 hi] at hz ⊢
    rw [getD_map clV xs i v0 hi]
    have hm := getD_mem xs i v0 hi
    exact val_lay hK z _ W hW.bd hz (hf _ hm) hB (hV.at hB hW.bel)
theorem tests_lay {B K b : Nat} (hK : PutC K) (zs : Str) (v : Value) (xs : List TestD) (w : World) (hs : SlW 5 w (fun k => k < B) v (xs.map clT)) (hb : Bd w B b zs) (hlen : zs.length + (spJ (xs.map (shSingle svd))).length ≤ 1000000000) (hf : ∀ x ∈ xs, fV x.x) (hB : 5 ≤ B) (hV : Vars w) :
    Calls Tryz.prog 41 #[pv K b, v, .func (.func 42) #[] #[]] w (Lays1 B b w (zs ++ spJ (xs.map (shSingle svd)))) := by
  refine each56 hK (enters_of Tryz.func42 (by kernel_rfl) rfl) zs v (xs.map clT) (xs.map (shSingle svd)) w hs (fun i hi => ?_) (by rw [List.length_map, List.length_map]) hb hlen fun i hi W z hW hz => ?_
  · rw [List.length_map] at hi
    rw [getD_map clT xs i (⟨0, [], v0⟩ : TestD) hi]
    exact ⟨_, _, _, _, _, rfl⟩
  · rw [List.length_map] at hi
    rw [getD_mapS (shSingle svd) xs i (⟨0, [], v0⟩ : TestD) hi] at hz ⊢
    rw [getD_map clT xs i (⟨0, [], v0⟩ : TestD) hi]
    have hm := getD_mem xs i (⟨0, [], v0⟩ : TestD) hi
    exact test_lay hK z _ W hW.bd hz (hf _ hm) hB (hV.at hB hW.bel)
set_option maxHeartbeats 4000000 in
theorem attr_lay_a {B K b : Nat} (hK : PutC K) (zs : Str) (x : AttrD) (a1 a2 : Option Addr) (c1 c2 : Nat) (w : World) (hb : Bd w B b zs) (hlen : zs.length + (([94] ++ x.a) ++ ([32, 60, 60] ++ (spJ (x.ones.map svd) ++ [32, 62, 62]))).length ≤ 1000000000) (h1 : SlW 3 w (fun k => k < B) (.slice a1 x.ones.length c1) (x.ones.map clV)) (h2 : SlW 5 w (fun k => k < B) (.slice a2 x.tests.length c2) (x.tests.map clT)) (hf : fA x) (ho : (0 : Int) < x.ones.length) (hB : 5 ≤ B) (hV : Vars w) :
    Calls Tryz.prog 20 #[pv K b, .agg #[.string (st x.a), .slice a1 x.ones.length c1, .slice a2 x.tests.length c2]] w (Lays1 B b w (zs ++ (([94] ++ x.a) ++ ([32, 60, 60] ++ (spJ (x.ones.map svd) ++ [32, 62, 62]))))) := by
  have eK : ∀ (args : Array Value) (w : World), (callFunc K args).run Tryz.prog w = .ok (.enter K args) w := hK.1
  have HL : Hid (zs.length + (([94] ++ x.a) ++ ([32, 60, 60] ++ (spJ (x.ones.map svd) ++ [32, 62, 62]))).length ≤ 1000000000) := hlen
  have HB : Hid (Bd w B b zs) := hb
  have H0 : Hid (At (w.alloc (.cells #[.string (st x.a), .slice a1 x.ones.length c1, .slice a2 x.tests.length c2] 46)) B b (w.alloc (.cells #[.string (st x.a), .slice a1 x.ones.length c1, .slice a2 x.tests.length c2] 46)) zs) := At.refl (HB.out.alloc _)
  have HZ : Hid (At w B b (w.alloc (.cells #[.string (st x.a), .slice a1 x.ones.length c1, .slice a2 x.tests.length c2] 46)) zs) := (At.refl HB.out).alloc _
  have HX : Hid (∀ W z, At (w.alloc (.cells #[.string (st x.a), .slice a1 x.ones.length c1, .slice a2 x.tests.length c2] 46)) B b W z → W.cell? ⟨w.heap.size, 0, none⟩ = some (.string (st x.a)) ∧ W.cell? ⟨w.heap.size, 1, none⟩ = some (.slice a1 x.ones.length c1) ∧ W.cell? ⟨w.heap.size, 2, none⟩ = some (.slice a2 x.tests.length c2)) := by
    intro W z hW
    have hq := hW.fb
    have hlt : w.heap.size < (w.alloc (.cells #[.string (st x.a), .slice a1 x.ones.length c1, .slice a2 x.tests.length c2] 46)).heap.size := by simp
    have hap : Apart (w.alloc (.cells #[.string (st x.a), .slice a1 x.ones.length c1, .slice a2 x.tests.length c2] 46)) b w.heap.size := (HB.out.new (Nat.le_refl _)).alloc HB.out.lt _
    exact ⟨hq.cell hlt hap (by simp), hq.cell hlt hap (by simp), hq.cell hlt hap (by simp)⟩
  have HV : Hid (Vars w) := hV
  clear hV
  have hb1 := hb.lt
  clear hlen hb
  have H1s : Hid (SlW 3 w (fun k => k < B) (.slice a1 x.ones.length c1) (x.ones.map clV)) := h1
  have H2s : Hid (SlW 5 w (fun k => k < B) (.slice a2 x.tests.length c2) (x.tests.map clT)) := h2
  clear h1 h2
  have tok1 : Hid True := trivial
  have tok2 : Hid True := trivial
  have tok3 : Hid True := trivial
  have tok4 : Hid True := trivial
  unfold pv at *
  go_enter Tryz.func20, Tryz.ntmps20
  go_wp2_with (first | (go_at_fn K; have tku := tok1; clear tku tok1; refine (put2 hK H0.out.bd ([94]) (x.a) (by have := HL.out; (try simp only [List.length_append, List.length_cons, List.length_nil] at this ⊢); omega) (by simp)).mono ?_; rintro e w1 ⟨rfl, hh⟩; have hh1 : At (w.alloc (.cells #[.string (st x.a), .slice a1 x.ones.length c1, .slice a2 x.tests.length c2] 46)) B b w1 (zs ++ ([94] ++ (x.a))) := H0.out.trans hh; clear hh; obtain ⟨p0, p1, p2⟩ := HX.out _ _ hh1; have H1 : Hid (At (w.alloc (.cells #[.string (st x.a), .slice a1 x.ones.length c1, .slice a2 x.tests.length c2] 46)) B b w1 (zs ++ ([94] ++ (x.a)))) := hh1; have hs1 := hh1.bel.size; clear hh1) | (go_at_fn K; have tku := tok2; clear tku tok2; refine (put1 hK H1.out.bd ([32, 60, 60]) (by have := HL.out; (try simp only [List.length_append, List.length_cons, List.length_nil] at this ⊢); omega) (by simp)).mono ?_; rintro e w2 ⟨rfl, hh⟩; have hh2 : At (w.alloc (.cells #[.string (st x.a), .slice a1 x.ones.length c1, .slice a2 x.tests.length c2] 46)) B b w2 ((zs ++ ([94] ++ (x.a))) ++ ([32, 60, 60])) := H1.out.trans hh; clear hh; obtain ⟨p0, p1, p2⟩ := HX.out _ _ hh2; have H2 : Hid (At (w.alloc (.cells #[.string (st x.a), .slice a1 x.ones.length c1, .slice a2 x.tests.length c2] 46)) B b w2 ((zs ++ ([94] ++ (x.a))) ++ ([32, 60, 60]))) := hh2; have hs2 := hh2.bel.size; clear hh2) | (go_at_call 39; have tku := tok3; clear tku tok3; refine (vals_lay hK _ _ x.ones _ (H1s.out.keep (P := fun _ k => k < B) (k := 2) (stays_below (HZ.out.trans H2.out).bel)) H2.out.bd (by have := HL.out; (try simp only [List.length_append, List.length_cons, List.length_nil] at this ⊢); omega) hf.1 hB (HV.out.at hB (HZ.out.trans H2.out).bel)).mono ?_; rintro e w3 ⟨rfl, hh⟩; have hh3 : At (w.alloc (.cells #[.string (st x.a), .slice a1 x.ones.length c1, .slice a2 x.tests.length c2] 46)) B b w3 (((zs ++ ([94] ++ (x.a))) ++ ([32, 60, 60])) ++ (spJ (x.ones.map svd))) := H2.out.trans hh; clear hh; obtain ⟨p0, p1, p2⟩ := HX.out _ _ hh3; have H3 : Hid (At (w.alloc (.cells #[.string (st x.a), .slice a1 x.ones.length c1, .slice a2 x.tests.length c2] 46)) B b w3 (((zs ++ ([94] ++ (x.a))) ++ ([32, 60, 60])) ++ (spJ (x.ones.map svd)))) := hh3; have hs3 := hh3.bel.size; clear hh3) | (go_at_fn K; have tku := tok4; clear tku tok4; refine (put1 hK H3.out.bd ([32, 62, 62]) (by have := HL.out; (try simp only [List.length_append, List.length_cons, List.length_nil] at this ⊢); omega) (by simp)).mono ?_; rintro e w4 ⟨rfl, hh⟩; have hh4 : At (w.alloc (.cells #[.string (st x.a), .slice a1 x.ones.length c1, .slice a2 x.tests.length c2] 46)) B b w4 ((((zs ++ ([94] ++ (x.a))) ++ ([32, 60, 60])) ++ (spJ (x.ones.map svd))) ++ ([32, 62, 62])) := H3.out.trans hh; clear hh; obtain ⟨p0, p1, p2⟩ := HX.out _ _ hh4; have H4 : Hid (At (w.alloc (.cells #[.string (st x.a), .slice a1 x.ones.length c1, .slice a2 x.tests.length c2] 46)) B b w4 ((((zs ++ ([94] ++ (x.a))) ++ ([32, 60, 60])) ++ (spJ (x.ones.map svd))) ++ ([32, 62, 62]))) := hh4; have hs4 := hh4.bel.size; clear hh4))
  go_end0
  exact ⟨rfl, by have := HZ.out.trans H4.out; first | exact this | simpa only [List.append_assoc, List.cons_append, List.nil_append] using this⟩
set_option maxHeartbeats 4000000 in
theorem attr_lay_b {B K b : Nat} (hK : PutC K) (zs : Str) (x : AttrD) (a1 a2 : Option Addr) (c1 c2 : Nat) (w : World) (hb : Bd w B b zs) (hlen : zs.length + (([94] ++ x.a) ++ spJ (x.tests.map (shSingle svd))).length ≤ 1000000000) (h1 : SlW 3 w (fun k => k < B) (.slice a1 x.ones.length c1) (x.ones.map clV)) (h2 : SlW 5 w (fun k => k < B) (.slice a2 x.tests.length c2) (x.tests.map clT)) (hf : fA x) (ho : ¬ (0 : Int) < x.ones.length) (ht : (x.tests.length : Int) = 1) (hB : 5 ≤ B) (hV : Vars w) :
    Calls Tryz.prog 20 #[pv K b, .agg #[.string (st x.a), .slice a1 x.ones.length c1, .slice a2 x.tests.length c2]] w (Lays1 B b w (zs ++ (([94] ++ x.a) ++ spJ (x.tests.map (shSingle svd))))) := by
  have eK : ∀ (args : Array Value) (w : World), (callFunc K args).run Tryz.prog w = .ok (.enter K args) w := hK.1
  have HL : Hid (zs.length + (([94] ++ x.a) ++ spJ (x.tests.map (shSingle svd))).length ≤ 1000000000) := hlen
  have HB : Hid (Bd w B b zs) := hb
  have H0 : Hid (At (w.alloc (.cells #[.string (st x.a), .slice a1 x.ones.length c1, .slice a2 x.tests.length c2] 46)) B b (w.alloc (.cells #[.string (st x.a), .slice a1 x.ones.length c1, .slice a2 x.tests.length c2] 46)) zs) := At.refl (HB.out.alloc _)
  have HZ : Hid (At w B b (w.alloc (.cells #[.string (st x.a), .slice a1 x.ones.length c1, .slice a2 x.tests.length c2] 46)) zs) := (At.refl HB.out).alloc _
  have HX : Hid (∀ W z, At (w.alloc (.cells #[.string (st x.a), .slice a1 x.ones.length c1, .slice a2 x.tests.length c2] 46)) B b W z → W.cell? ⟨w.heap.size, 0, none⟩ = some (.string (st x.a)) ∧ W.cell? ⟨w.heap.size, 1, none⟩ = some (.slice a1 x.ones.length c1) ∧ W.cell? ⟨w.heap.size, 2, none⟩ = some (.slice a2 x.tests.length c2)) := by
    intro W z hW
    have hq := hW.fb
    have hlt : w.heap.size < (w.alloc (.cells #[.string (st x.a), .slice a1 x.ones.length c1, .slice a2 x.tests.length c2] 46)).heap.size := by simp
    have hap : Apart (w.alloc (.cells #[.string (st x.a), .slice a1 x.ones.length c1, .slice a2 x.tests.length c2] 46)) b w.heap.size := (HB.out.new (Nat.le_refl _)).alloc HB.out.lt _
    exact ⟨hq.cell hlt hap (by simp), hq.cell hlt hap (by simp), hq.cell hlt hap (by simp)⟩
  have HV : Hid (Vars w) := hV
  clear hV
  have hb1 := hb.lt
  clear hlen hb
  have H1s : Hid (SlW 3 w (fun k => k < B) (.slice a1 x.ones.length c1) (x.ones.map clV)) := h1
  have H2s : Hid (SlW 5 w (fun k => k < B) (.slice a2 x.tests.length c2) (x.tests.map clT)) := h2
  clear h1 h2
  have tok1 : Hid True := trivial
  have tok2 : Hid True := trivial
  unfold pv at *
  go_enter Tryz.func20, Tryz.ntmps20
  go_wp2_with (first | (go_at_fn K; have tku := tok1; clear tku tok1; refine (put2 hK H0.out.bd ([94]) (x.a) (by have := HL.out; (try simp only [List.length_append, List.length_cons, List.length_nil] at this ⊢); omega) (by simp)).mono ?_; rintro e w1 ⟨rfl, hh⟩; have hh1 : At (w.alloc (.cells #[.string (st x.a), .slice a1 x.ones.length c1, .slice a2 x.tests.length c2] 46)) B b w1 (zs ++ ([94] ++ (x.a))) := H0.out.trans hh; clear hh; obtain ⟨p0, p1, p2⟩ := HX.out _ _ hh1; have H1 : Hid (At (w.alloc (.cells #[.string (st x.a), .slice a1 x.ones.length c1, .slice a2 x.tests.length c2] 46)) B b w1 (zs ++ ([94] ++ (x.a)))) := hh1; have hs1 := hh1.bel.size; clear hh1) | (go_at_call 41; have tku := tok2; clear tku tok2; refine (tests_lay hK _ _ x.tests _ (H2s.out.keep (P := fun _ k => k < B) (k := 3) (stays_below (HZ.out.trans H1.out).bel)) H1.out.bd (by have := HL.out; (try simp only [List.length_append, List.length_cons, List.length_nil] at this ⊢); omega) hf.2 hB (HV.out.at hB (HZ.out.trans H1.out).bel)).mono ?_; rintro e w2 ⟨rfl, hh⟩; have hh2 : At (w.alloc (.cells #[.string (st x.a), .slice a1 x.ones.length c1, .slice a2 x.tests.length c2] 46)) B b w2 ((zs ++ ([94] ++ (x.a))) ++ (spJ (x.tests.map (shSingle svd)))) := H1.out.trans hh; clear hh; obtain ⟨p0, p1, p2⟩ := HX.out _ _ hh2; have H2 : Hid (At (w.alloc (.cells #[.string (st x.a), .slice a1 x.ones.length c1, .slice a2 x.tests.length c2] 46)) B b w2 ((zs ++ ([94] ++ (x.a))) ++ (spJ (x.tests.map (shSingle svd))))) := hh2; have hs2 := hh2.bel.size; clear hh2))
  go_end0
  exact ⟨rfl, by have := HZ.out.trans H2.out; first | exact this | simpa only [List.append_assoc, List.cons_append, List.nil_append] using this⟩
set_option maxHeartbeats 4000000 in
theorem attr_lay_c {B K b : Nat} (hK : PutC K) (zs : Str) (x : AttrD) (a1 a2 : Option Addr) (c1 c2 : Nat) (w : World) (hb : Bd w B b zs) (hlen : zs.length + (([94] ++ x.a) ++ ([32, 123] ++ (spJ (x.tests.map (shSingle svd)) ++ [32, 125]))).length ≤ 1000000000) (h1 : SlW 3 w (fun k => k < B) (.slice a1 x.ones.length c1) (x.ones.map clV)) (h2 : SlW 5 w (fun k => k < B) (.slice a2 x.tests.length c2) (x.tests.map clT)) (hf : fA x) (ho : ¬ (0 : Int) < x.ones.length) (ht : ¬ (x.tests.length : Int) = 1) (hB : 5 ≤ B) (hV : Vars w) :
    Calls Tryz.prog 20 #[pv K b, .agg #[.string (st x.a), .slice a1 x.ones.length c1, .slice a2 x.tests.length c2]] w (Lays1 B b w (zs ++ (([94] ++ x.a) ++ ([32, 123] ++ (spJ (x.tests.map (shSingle svd)) ++ [32, 125]))))) := by
  have eK : ∀ (args : Array Value) (w : World), (callFunc K args).run Tryz.prog w = .ok (.enter K args) w := hK.1
  have HL : Hid (zs.length + (([94] ++ x.a) ++ ([32, 123] ++ (spJ (x.tests.map (shSingle svd)) ++ [32, 125]))).length ≤ 1000000000) := hlen
  have HB : Hid (Bd w B b zs) := hb
  have H0 : Hid (At (w.alloc (.cells #[.string (st x.a), .slice a1 x.ones.length c1, .slice a2 x.tests.length c2] 46)) B b (w.alloc (.cells #[.string (st x.a), .slice a1 x.ones.length c1, .slice a2 x.tests.length c2] 46)) zs) := At.refl (HB.out.alloc _)
  have HZ : Hid (At w B b (w.alloc (.cells #[.string (st x.a), .slice a1 x.ones.length c1, .slice a2 x.tests.length c2] 46)) zs) := (At.refl HB.out).alloc _
  have HX : Hid (∀ W z, At (w.alloc (.cells #[.string (st x.a), .slice a1 x.ones.length c1, .slice a2 x.tests.length c2] 46)) B b W z → W.cell? ⟨w.heap.size, 0, none⟩ = some (.string (st x.a)) ∧ W.cell? ⟨w.heap.size, 1, none⟩ = some (.slice a1 x.ones.length c1) ∧ W.cell? ⟨w.heap.size, 2, none⟩ = some (.slice a2 x.tests.length c2)) := by
    intro W z hW
    have hq := hW.fb
    have hlt : w.heap.size < (w.alloc (.cells #[.string (st x.a), .slice a1 x.ones.length c1, .slice a2 x.tests.length c2] 46)).heap.size := by simp
    have hap : Apart (w.alloc (.cells #[.string (st x.a), .slice a1 x.ones.length c1, .slice a2 x.tests.length c2] 46)) b w.heap.size := (HB.out.new (Nat.le_refl _)).alloc HB.out.lt _
    exact ⟨hq.cell hlt hap (by simp), hq.cell hlt hap (by simp), hq.cell hlt hap (by simp)⟩
  have HV : Hid (Vars w) := hV
  clear hV
  have hb1 := hb.lt
  clear hlen hb
  have H1s : Hid (SlW 3 w (fun k => k < B) (.slice a1 x.ones.length c1) (x.ones.map clV)) := h1
  have H2s : Hid (SlW 5 w (fun k => k < B) (.slice a2 x.tests.length c2) (x.tests.map clT)) := h2
  clear h1 h2
  have tok1 : Hid True := trivial
  have tok2 : Hid True := trivial
  have tok3 : Hid True := trivial
  have tok4 : Hid True := trivial
  unfold pv at *
  go_enter Tryz.func20, Tryz.ntmps20
  go_wp2_with (first | (go_at_fn K; have tku := tok1; clear tku tok1; refine (put2 hK H0.out.bd ([94]) (x.a) (by have := HL.out; (try simp only [List.length_append, List.length_cons, List.length_nil] at this ⊢); omega) (by simp)).mono ?_; rintro e w1 ⟨rfl, hh⟩; have hh1 : At (w.alloc (.cells #[.string (st x.a), .slice a1 x.ones.length c1, .slice a2 x.tests.length c2] 46)) B b w1 (zs ++ ([94] ++ (x.a))) := H0.out.trans hh; clear hh; obtain ⟨p0, p1, p2⟩ := HX.out _ _ hh1; have H1 : Hid (At (w.alloc (.cells #[.string (st x.a), .slice a1 x.ones.length c1, .slice a2 x.tests.length c2] 46)) B b w1 (zs ++ ([94] ++ (x.a)))) := hh1; have hs1 := hh1.bel.size; clear hh1) | (go_at_fn K; have tku := tok2; clear tku tok2; refine (put1 hK H1.out.bd ([32, 123]) (by have := HL.out; (try simp only [List.length_append, List.length_cons, List.length_nil] at this ⊢); omega) (by simp)).mono ?_; rintro e w2 ⟨rfl, hh⟩; have hh2 : At (w.alloc (.cells #[.string (st x.a), .slice a1 x.ones.length c1, .slice a2 x.tests.length c2] 46)) B b w2 ((zs ++ ([94] ++ (x.a))) ++ ([32, 123])) := H1.out.trans hh; clear hh; obtain ⟨p0, p1, p2⟩ := HX.out _ _ hh2; have H2 : Hid (At (w.alloc (.cells #[.string (st x.a), .slice a1 x.ones.length c1, .slice a2 x.tests.length c2] 46)) B b w2 ((zs ++ ([94] ++ (x.a))) ++ ([32, 123]))) := hh2; have hs2 := hh2.bel.size; clear hh2) | (go_at_call 41; have tku := tok3; clear tku tok3; refine (tests_lay hK _ _ x.tests _ (H2s.out.keep (P := fun _ k => k < B) (k := 3) (stays_below (HZ.out.trans H2.out).bel)) H2.out.bd (by have := HL.out; (try simp only [List.length_append, List.length_cons, List.length_nil] at this ⊢); omega) hf.2 hB (HV.out.at hB (HZ.out.trans H2.out).bel)).mono ?_; rintro e w3 ⟨rfl, hh⟩; have hh3 : At (w.alloc (.cells #[.string (st x.a), .slice a1 x.ones.length c1, .slice a2 x.tests.length c2] 46)) B b w3 (((zs ++ ([94] ++ (x.a))) ++ ([32, 123])) ++ (spJ (x.tests.map (shSingle svd)))) := H2.out.trans hh; clear hh; obtain ⟨p0, p1, p2⟩ := HX.out _ _ hh3; have H3 : Hid (At (w.alloc (.cells #[.string (st x.a), .slice a1 x.ones.length c1, .slice a2 x.tests.length c2] 46)) B b w3 (((zs ++ ([94] ++ (x.a))) ++ ([32, 123])) ++ (spJ (x.tests.map (shSingle svd))))) := hh3; have hs3 := hh3.bel.size; clear hh3) | (go_at_fn K; have tku := tok4; clear tku tok4; refine (put1 hK H3.out.bd ([32, 125]) (by have := HL.out; (try simp only [List.length_append, List.length_cons, List.length_nil] at this ⊢); omega) (by simp)).mono ?_; rintro e w4 ⟨rfl, hh⟩; have hh4 : At (w.alloc (.cells #[.string (st x.a), .slice a1 x.ones.length c1, .slice a2 x.tests.length c2] 46)) B b w4 ((((zs ++ ([94] ++ (x.a))) ++ ([32, 123])) ++ (spJ (x.tests.map (shSingle svd)))) ++ ([32, 125])) := H3.out.trans hh; clear hh; obtain ⟨p0, p1, p2⟩ := HX.out _ _ hh4; have H4 : Hid (At (w.alloc (.cells #[.string (st x.a), .slice a1 x.ones.length c1, .slice a2 x.tests.length c2] 46)) B b w4 ((((zs ++ ([94] ++ (x.a))) ++ ([32, 123])) ++ (spJ (x.tests.map (shSingle svd)))) ++ ([32, 125]))) := hh4; have hs4 := hh4.bel.size; clear hh4))
  go_end0
  exact ⟨rfl, by have := HZ.out.trans H4.out; first | exact this | simpa only [List.append_assoc, List.cons_append, List.nil_append] using this⟩
end Go.Proofs.YtemacdimdpnkeaaGreatDoor
namespace Go.Proofs.YtemacdimdpnkeaaGreatDoor
set_option maxRecDepth 20000
open Go.RowKit
set_option linter.unusedVariables false
set_option linter.unusedSimpArgs false
theorem attr_lay {B K b : Nat} (hK : PutC K) (zs : Str) (cs : List Value) (x : AttrD) (w : World) (hR : ReA (fun _ k => k < B) w cs x) (hb : Bd w B b zs) (hlen : zs.length + (shTest svd x).length ≤ 1000000000) (hf : fA x) (hB : 5 ≤ B) (hV : Vars w) :
    Calls Tryz.prog 20 #[pv K b, .agg cs.toArray] w (Lays1 B b w (zs ++ shTest svd x)) := by
  obtain ⟨v1, v2, rfl, h1, h2⟩ := hR
  obtain ⟨a1, c1, e1⟩ := h1.shape
  obtain ⟨a2, c2, e2⟩ := h2.shape
  rw [List.length_map] at e1 e2
  subst e1; subst e2
  unfold shTest at hlen ⊢
  by_cases ho : x.ones = []
  · have ho' : ¬ (0 : Int) < x.ones.length := by rw [ho]; simp
    rw [if_neg (by simp [ho])] at hlen ⊢
    by_cases ht : x.tests.length = 1
    · rw [if_pos ht] at hlen ⊢
      have := attr_lay_b hK zs x a1 a2 c1 c2 w hb (by simpa using hlen) h1 h2 hf ho' (by omega) hB hV
      simpa using this
    · rw [if_neg ht] at hlen ⊢
      have := attr_lay_c hK zs x a1 a2 c1 c2 w hb (by simpa using hlen) h1 h2 hf ho' (by omega) hB hV
      simpa using this
  · rw [if_pos ho] at hlen ⊢
    have hp : 0 < x.ones.length := List.length_pos_iff.2 ho
    have := attr_lay_a hK zs x a1 a2 c1 c2 w hb (by simpa using hlen) h1 h2 hf (by omega) hB hV
    simpa using this
theorem attrs_lay {B K b : Nat} (hK : PutC K) (zs : Str) (v : Value) (xs : List AttrD) (w : World) (hR : Row 3 (ReA (fun _ k => k < B)) w (fun k => k < B) v xs) (hb : Bd w B b zs) (hlen : zs.length + (spJ (xs.map (shTest svd))).length ≤ 1000000000) (hf : ∀ x ∈ xs, fA x) (hB : 5 ≤ B) (hV : Vars w) :
    Calls Tryz.prog 73 #[pv K b, v, .func (.func 20) #[] #[]] w (Lays1 B b w (zs ++ spJ (xs.map (shTest svd)))) := by
  obtain ⟨css, h1, h2⟩ := hR
  have hl := h2.len
  refine each52 hK (enters_of Tryz.func20 (by kernel_rfl) rfl) zs v css (xs.map (shTest svd)) w h1 (fun i hi => ?_) (by rw [List.length_map]; exact hl) hb hlen fun i hi W z hW hz => ?_
  · have hr := h2.at i [] (⟨[], [], []⟩ : AttrD) (by omega)
    obtain ⟨v1, v2, e, q1, q2⟩ := hr
    obtain ⟨a1, c1, rfl⟩ := q1.shape
    obtain ⟨a2, c2, rfl⟩ := q2.shape
    exact ⟨_, _, _, _, _, _, _, e⟩
  · have hi' : i < xs.length := by omega
    rw [getD_mapS (shTest svd) xs i (⟨[], [], []⟩ : AttrD) hi'] at hz ⊢
    have hm := getD_mem xs i (⟨[], [], []⟩ : AttrD) hi'
    have hr := (h2.at i [] (⟨[], [], []⟩ : AttrD) hi').keep (stays_below hW.bel)
    exact attr_lay hK z _ _ W hr hW.bd hz (hf _ hm) hB (hV.at hB hW.bel)
set_option maxHeartbeats 4000000 in
theorem cond_lay_a {B K b : Nat} (hK : PutC K) (zs : Str) (x : CondD) (a : Option Addr) (n c : Nat) (w : World) (hb : Bd w B b zs) (hlen : zs.length + ([45] ++ (([40] ++ x.c) ++ (spJ (x.attrs.map (shTest svd)) ++ [41]))).length ≤ 1000000000) (h1 : Row 3 (ReA (fun _ k => k < B)) w (fun k => k < B) (.slice a n c) x.attrs) (hf : fC x) (hB : 5 ≤ B) (hV : Vars w) :
    Calls Tryz.prog 45 #[pv K b, .agg #[.bool true, .string (st x.c), .slice a n c]] w (Lays1 B b w (zs ++ ([45] ++ (([40] ++ x.c) ++ (spJ (x.attrs.map (shTest svd)) ++ [41]))))) := by
  have eK : ∀ (args : Array Value) (w : World), (callFunc K args).run Tryz.prog w = .ok (.enter K args) w := hK.1
  have HL : Hid (zs.length + ([45] ++ (([40] ++ x.c) ++ (spJ (x.attrs.map (shTest svd)) ++ [41]))).length ≤ 1000000000) := hlen
  have HB : Hid (Bd w B b zs) := hb
  have H0 : Hid (At (w.alloc (.cells #[.bool true, .string (st x.c), .slice a n c] 95)) B b (w.alloc (.cells #[.bool true, .string (st x.c), .slice a n c] 95)) zs) := At.refl (HB.out.alloc _)
  have HZ : Hid (At w B b (w.alloc (.cells #[.bool true, .string (st x.c), .slice a n c] 95)) zs) := (At.refl HB.out).alloc _
  have HX : Hid (∀ W z, At (w.alloc (.cells #[.bool true, .string (st x.c), .slice a n c] 95)) B b W z → W.cell? ⟨w.heap.size, 0, none⟩ = some (.bool true) ∧ W.cell? ⟨w.heap.size, 1, none⟩ = some (.string (st x.c)) ∧ W.cell? ⟨w.heap.size, 2, none⟩ = some (.slice a n c)) := by
    intro W z hW
    have hq := hW.fb
    have hlt : w.heap.size < (w.alloc (.cells #[.bool true, .string (st x.c), .slice a n c] 95)).heap.size := by simp
    have hap : Apart (w.alloc (.cells #[.bool true, .string (st x.c), .slice a n c] 95)) b w.heap.size := (HB.out.new (Nat.le_refl _)).alloc HB.out.lt _
    exact ⟨hq.cell hlt hap (by simp), hq.cell hlt hap (by simp), hq.cell hlt hap (by simp)⟩
  have HV : Hid (Vars w) := hV
  clear hV
  have hb1 := hb.lt
  clear hlen hb
  have H1s : Hid (Row 3 (ReA (fun _ k => k < B)) w (fun k => k < B) (.slice a n c) x.attrs) := h1
  clear h1
  have tok1 : Hid True := trivial
  have tok2 : Hid True := trivial
  have tok3 : Hid True := trivial
  have tok4 : Hid True := trivial
  unfold pv at *
  go_enter Tryz.func45, Tryz.ntmps45
  go_wp2_with (first | (go_at_fn K; have tku := tok1; clear tku tok1; refine (put1 hK H0.out.bd ([45]) (by have := HL.out; (try simp only [List.length_append, List.length_cons, List.length_nil] at this ⊢); omega) (by simp)).mono ?_; rintro e w1 ⟨rfl, hh⟩; have hh1 : At (w.alloc (.cells #[.bool true, .string (st x.c), .slice a n c] 95)) B b w1 (zs ++ ([45])) := H0.out.trans hh; clear hh; obtain ⟨p0, p1, p2⟩ := HX.out _ _ hh1; have H1 : Hid (At (w.alloc (.cells #[.bool true, .string (st x.c), .slice a n c] 95)) B b w1 (zs ++ ([45]))) := hh1; have hs1 := hh1.bel.size; clear hh1) | (go_at_fn K; have tku := tok2; clear tku tok2; refine (put2 hK H1.out.bd ([40]) (x.c) (by have := HL.out; (try simp only [List.length_append, List.length_cons, List.length_nil] at this ⊢); omega) (by simp)).mono ?_; rintro e w2 ⟨rfl, hh⟩; have hh2 : At (w.alloc (.cells #[.bool true, .string (st x.c), .slice a n c] 95)) B b w2 ((zs ++ ([45])) ++ ([40] ++ (x.c))) := H1.out.trans hh; clear hh; obtain ⟨p0, p1, p2⟩ := HX.out _ _ hh2; have H2 : Hid (At (w.alloc (.cells #[.bool true, .string (st x.c), .slice a n c] 95)) B b w2 ((zs ++ ([45])) ++ ([40] ++ (x.c)))) := hh2; have hs2 := hh2.bel.size; clear hh2) | (go_at_call 73; have tku := tok3; clear tku tok3; refine (attrs_lay hK _ _ x.attrs _ (Row.keep (P := fun _ k => k < B) (k := 7) (stays_below (HZ.out.trans H2.out).bel) (fun _ _ h => h.keep (stays_below (HZ.out.trans H2.out).bel)) H1s.out) H2.out.bd (by have := HL.out; (try simp only [List.length_append, List.length_cons, List.length_nil] at this ⊢); omega) hf hB (HV.out.at hB (HZ.out.trans H2.out).bel)).mono ?_; rintro e w3 ⟨rfl, hh⟩; have hh3 : At (w.alloc (.cells #[.bool true, .string (st x.c), .slice a n c] 95)) B b w3 (((zs ++ ([45])) ++ ([40] ++ (x.c))) ++ (spJ (x.attrs.map (shTest svd)))) := H2.out.trans hh; clear hh; obtain ⟨p0, p1, p2⟩ := HX.out _ _ hh3; have H3 : Hid (At (w.alloc (.cells #[.bool true, .string (st x.c), .slice a n c] 95)) B b w3 (((zs ++ ([45])) ++ ([40] ++ (x.c))) ++ (spJ (x.attrs.map (shTest svd))))) := hh3; have hs3 := hh3.bel.size; clear hh3) | (go_at_fn K; have tku := tok4; clear tku tok4; refine (put1 hK H3.out.bd ([41]) (by have := HL.out; (try simp only [List.length_append, List.length_cons, List.length_nil] at this ⊢); omega) (by simp)).mono ?_; rintro e w4 ⟨rfl, hh⟩; have hh4 : At (w.alloc (.cells #[.bool true, .string (st x.c), .slice a n c] 95)) B b w4 ((((zs ++ ([45])) ++ ([40] ++ (x.c))) ++ (spJ (x.attrs.map (shTest svd)))) ++ ([41])) := H3.out.trans hh; clear hh; obtain ⟨p0, p1, p2⟩ := HX.out _ _ hh4; have H4 : Hid (At (w.alloc (.cells #[.bool true, .string (st x.c), .slice a n c] 95)) B b w4 ((((zs ++ ([45])) ++ ([40] ++ (x.c))) ++ (spJ (x.attrs.map (shTest svd)))) ++ ([41]))) := hh4; have hs4 := hh4.bel.size; clear hh4))
  go_end0
  exact ⟨rfl, by have := HZ.out.trans H4.out; first | exact this | simpa only [List.append_assoc, List.cons_append, List.nil_append] using this⟩
set_option maxHeartbeats 4000000 in
theorem cond_lay_b {B K b : Nat} (hK : PutC K) (zs : Str) (x : CondD) (a : Option Addr) (n c : Nat) (w : World) (hb : Bd w B b zs) (hlen : zs.length + (([40] ++ x.c) ++ (spJ (x.attrs.map (shTest svd)) ++ [41])).length ≤ 1000000000) (h1 : Row 3 (ReA (fun _ k => k < B)) w (fun k => k < B) (.slice a n c) x.attrs) (hf : fC x) (hB : 5 ≤ B) (hV : Vars w) :
    Calls Tryz.prog 45 #[pv K b, .agg #[.bool false, .string (st x.c), .slice a n c]] w (Lays1 B b w (zs ++ (([40] ++ x.c) ++ (spJ (x.attrs.map (shTest svd)) ++ [41])))) := by
  have eK : ∀ (args : Array Value) (w : World), (callFunc K args).run Tryz.prog w = .ok (.enter K args) w := hK.1
  have HL : Hid (zs.length + (([40] ++ x.c) ++ (spJ (x.attrs.map (shTest svd)) ++ [41])).length ≤ 1000000000) := hlen
  have HB : Hid (Bd w B b zs) := hb
  have H0 : Hid (At (w.alloc (.cells #[.bool false, .string (st x.c), .slice a n c] 95)) B b (w.alloc (.cells #[.bool false, .string (st x.c), .slice a n c] 95)) zs) := At.refl (HB.out.alloc _)
  have HZ : Hid (At w B b (w.alloc (.cells #[.bool false, .string (st x.c), .slice a n c] 95)) zs) := (At.refl HB.out).alloc _
  have HX : Hid (∀ W z, At (w.alloc (.cells #[.bool false, .string (st x.c), .slice a n c] 95)) B b W z → W.cell? ⟨w.heap.size, 0, none⟩ = some (.bool false) ∧ W.cell? ⟨w.heap.size, 1, none⟩ = some (.string (st x.c)) ∧ W.cell? ⟨w.heap.size, 2, none⟩ = some (.slice a n c)) := by
    intro W z hW
    have hq := hW.fb
    have hlt : w.heap.size < (w.alloc (.cells #[.bool false, .string (st x.c), .slice a n c] 95)).heap.size := by simp
    have hap : Apart (w.alloc (.cells #[.bool false, .string (st x.c), .slice a n c] 95)) b w.heap.size := (HB.out.new (Nat.le_refl _)).alloc HB.out.lt _
    exact ⟨hq.cell hlt hap (by simp), hq.cell hlt hap (by simp), hq.cell hlt hap (by simp)⟩
  have HV : Hid (Vars w) := hV
  clear hV
  have hb1 := hb.lt
  clear hlen hb
  have H1s : Hid (Row 3 (ReA (fun _ k => k < B)) w (fun k => k < B) (.slice a n c) x.attrs) := h1
  clear h1
  have tok1 : Hid True := trivial
  have tok2 : Hid True := trivial
  have tok3 : Hid True := trivial
  unfold pv at *
  go_enter Tryz.func45, Tryz.ntmps45
  go_wp2_with (first | (go_at_fn K; have tku := tok1; clear tku tok1; refine (put2 hK H0.out.bd ([40]) (x.c) (by have := HL.out; (try simp only [List.length_append, List.length_cons, List.length_nil] at this ⊢); omega) (by simp)).mono ?_; rintro e w1 ⟨rfl, hh⟩; have hh1 : At (w.alloc (.cells #[.bool false, .string (st x.c), .slice a n c] 95)) B b w1 (zs ++ ([40] ++ (x.c))) := H0.out.trans hh; clear hh; obtain ⟨p0, p1, p2⟩ := HX.out _ _ hh1; have H1 : Hid (At (w.alloc (.cells #[.bool false, .string (st x.c), .slice a n c] 95)) B b w1 (zs ++ ([40] ++ (x.c)))) := hh1; have hs1 := hh1.bel.size; clear hh1) | (go_at_call 73; have tku := tok2; clear tku tok2; refine (attrs_lay hK _ _ x.attrs _ (Row.keep (P := fun _ k => k < B) (k := 7) (stays_below (HZ.out.trans H1.out).bel) (fun _ _ h => h.keep (stays_below (HZ.out.trans H1.out).bel)) H1s.out) H1.out.bd (by have := HL.out; (try simp only [List.length_append, List.length_cons, List.length_nil] at this ⊢); omega) hf hB (HV.out.at hB (HZ.out.trans H1.out).bel)).mono ?_; rintro e w2 ⟨rfl, hh⟩; have hh2 : At (w.alloc (.cells #[.bool false, .string (st x.c), .slice a n c] 95)) B b w2 ((zs ++ ([40] ++ (x.c))) ++ (spJ (x.attrs.map (shTest svd)))) := H1.out.trans hh; clear hh; obtain ⟨p0, p1, p2⟩ := HX.out _ _ hh2; have H2 : Hid (At (w.alloc (.cells #[.bool false, .string (st x.c), .slice a n c] 95)) B b w2 ((zs ++ ([40] ++ (x.c))) ++ (spJ (x.attrs.map (shTest svd))))) := hh2; have hs2 := hh2.bel.size; clear hh2) | (go_at_fn K; have tku := tok3; clear tku tok3; refine (put1 hK H2.out.bd ([41]) (by have := HL.out; (try simp only [List.length_append, List.length_cons, List.length_nil] at this ⊢); omega) (by simp)).mono ?_; rintro e w3 ⟨rfl, hh⟩; have hh3 : At (w.alloc (.cells #[.bool false, .string (st x.c), .slice a n c] 95)) B b w3 (((zs ++ ([40] ++ (x.c))) ++ (spJ (x.attrs.map (shTest svd)))) ++ ([41])) := H2.out.trans hh; clear hh; obtain ⟨p0, p1, p2⟩ := HX.out _ _ hh3; have H3 : Hid (At (w.alloc (.cells #[.bool false, .string (st x.c), .slice a n c] 95)) B b w3 (((zs ++ ([40] ++ (x.c))) ++ (spJ (x.attrs.map (shTest svd)))) ++ ([41]))) := hh3; have hs3 := hh3.bel.size; clear hh3))
  go_end0
  exact ⟨rfl, by have := HZ.out.trans H3.out; first | exact this | simpa only [List.append_assoc, List.cons_append, List.nil_append] using this⟩
theorem cond_lay {B K b : Nat} (hK : PutC K) (zs : Str) (cs : List Value) (x : CondD) (w : World) (hR : ReC (fun _ k => k < B) w cs x) (hb : Bd w B b zs) (hlen : zs.length + (shCond svd x).length ≤ 1000000000) (hf : fC x) (hB : 5 ≤ B) (hV : Vars w) :
    Calls Tryz.prog 45 #[pv K b, .agg cs.toArray] w (Lays1 B b w (zs ++ shCond svd x)) := by
  obtain ⟨v, rfl, h1⟩ := hR
  obtain ⟨a, n, c, rfl⟩ : ∃ a n c, v = .slice a n c := by
    obtain ⟨css, h2, -⟩ := h1
    obtain ⟨a, c, e⟩ := h2.shape
    exact ⟨a, _, c, e⟩
  unfold shCond at hlen ⊢
  obtain ⟨neg, cl, attrs⟩ := x
  cases neg with
  | true =>
    have := cond_lay_a hK zs ⟨true, cl, attrs⟩ a n c w hb (by simpa using hlen) h1 hf hB hV
    simpa using this
  | false =>
    have := cond_lay_b hK zs ⟨false, cl, attrs⟩ a n c w hb (by simpa using hlen) h1 hf hB hV
    simpa using this
theorem conds_lay {B K b : Nat} (hK : PutC K) (zs : Str) (v : Value) (xs : List CondD) (w : World) (hR : Row 3 (ReC (fun _ k => k < B)) w (fun k => k < B) v xs) (hb : Bd w B b zs) (hlen : zs.length + (spJ (xs.map (shCond svd))).length ≤ 1000000000) (hf : ∀ x ∈ xs, fC x) (hB : 5 ≤ B) (hV : Vars w) :
    Calls Tryz.prog 44 #[pv K b, v, .func (.func 45) #[] #[]] w (Lays1 B b w (zs ++ spJ (xs.map (shCond svd)))) := by
  obtain ⟨css, h1, h2⟩ := hR
  have hl := h2.len
  refine each49 hK (enters_of Tryz.func45 (by kernel_rfl) rfl) zs v css (xs.map (shCond svd)) w h1 (fun i hi => ?_) (by rw [List.length_map]; exact hl) hb hlen fun i hi W z hW hz => ?_
  · have hr := h2.at i [] (⟨false, [], []⟩ : CondD) (by omega)
    obtain ⟨v1, e, css, q1, -⟩ := hr
    obtain ⟨a1, c1, rfl⟩ := q1.shape
    exact ⟨_, _, _, _, _, e⟩
  · have hi' : i < xs.length := by omega
    rw [getD_mapS (shCond svd) xs i (⟨false, [], []⟩ : CondD) hi'] at hz ⊢
    have hm := getD_mem xs i (⟨false, [], []⟩ : CondD) hi'
    have hr := (h2.at i [] (⟨false, [], []⟩ : CondD) hi').keep (stays_below hW.bel)
    exact cond_lay hK z _ _ W hr hW.bd hz (hf _ hm) hB (hV.at hB hW.bel)
set_option maxHeartbeats 4000000 in
theorem class_lay_a {B K b : Nat} (hK : PutC K) (zs : Str) (x : ClassD) (a : Option Addr) (c : Nat) (w : World) (hb : Bd w B b zs) (hlen : zs.length + (([40, 108, 105, 116, 101, 114, 97, 108, 105, 122, 101, 32] ++ x.nm) ++ (spJ (x.attrs.map fun s => s) ++ [41])).length ≤ 1000000000) (h1 : SlW 1 w (fun k => k < B) (.slice a x.attrs.length c) (x.attrs.map clS)) :
    Calls Tryz.prog 30 #[pv K b, .agg #[.string (st x.nm), .slice a x.attrs.length c]] w (Lays1 B b w (zs ++ (([40, 108, 105, 116, 101, 114, 97, 108, 105, 122, 101, 32] ++ x.nm) ++ (spJ (x.attrs.map fun s => s) ++ [41])))) := by
  have eK : ∀ (args : Array Value) (w : World), (callFunc K args).run Tryz.prog w = .ok (.enter K args) w := hK.1
  have HL : Hid (zs.length + (([40, 108, 105, 116, 101, 114, 97, 108, 105, 122, 101, 32] ++ x.nm) ++ (spJ (x.attrs.map fun s => s) ++ [41])).length ≤ 1000000000) := hlen
  have HB : Hid (Bd w B b zs) := hb
  have H0 : Hid (At (w.alloc (.cells #[.string (st x.nm), .slice a x.attrs.length c] 61)) B b (w.alloc (.cells #[.string (st x.nm), .slice a x.attrs.length c] 61)) zs) := At.refl (HB.out.alloc _)
  have HZ : Hid (At w B b (w.alloc (.cells #[.string (st x.nm), .slice a x.attrs.length c] 61)) zs) := (At.refl HB.out).alloc _
  have HX : Hid (∀ W z, At (w.alloc (.cells #[.string (st x.nm), .slice a x.attrs.length c] 61)) B b W z → W.cell? ⟨w.heap.size, 0, none⟩ = some (.string (st x.nm)) ∧ W.cell? ⟨w.heap.size, 1, none⟩ = some (.slice a x.attrs.length c)) := by
    intro W z hW
    have hq := hW.fb
    have hlt : w.heap.size < (w.alloc (.cells #[.string (st x.nm), .slice a x.attrs.length c] 61)).heap.size := by simp
    have hap : Apart (w.alloc (.cells #[.string (st x.nm), .slice a x.attrs.length c] 61)) b w.heap.size := (HB.out.new (Nat.le_refl _)).alloc HB.out.lt _
    exact ⟨hq.cell hlt hap (by simp), hq.cell hlt hap (by simp)⟩
  have hb1 := hb.lt
  clear hlen hb
  have H1s : Hid (SlW 1 w (fun k => k < B) (.slice a x.attrs.length c) (x.attrs.map clS)) := h1
  clear h1
  have tok1 : Hid True := trivial
  have tok2 : Hid True := trivial
  have tok3 : Hid True := trivial
  unfold pv at *
  go_enter Tryz.func30, Tryz.ntmps30
  go_wp2_with (first | (go_at_fn K; have tku := tok1; clear tku tok1; refine (put2 hK H0.out.bd ([40, 108, 105, 116, 101, 114, 97, 108, 105, 122, 101, 32]) (x.nm) (by have := HL.out; (try simp only [List.length_append, List.length_cons, List.length_nil] at this ⊢); omega) (by simp)).mono ?_; rintro e w1 ⟨rfl, hh⟩; have hh1 : At (w.alloc (.cells #[.string (st x.nm), .slice a x.attrs.length c] 61)) B b w1 (zs ++ ([40, 108, 105, 116, 101, 114, 97, 108, 105, 122, 101, 32] ++ (x.nm))) := H0.out.trans hh; clear hh; obtain ⟨p0, p1⟩ := HX.out _ _ hh1; have H1 : Hid (At (w.alloc (.cells #[.string (st x.nm), .slice a x.attrs.length c] 61)) B b w1 (zs ++ ([40, 108, 105, 116, 101, 114, 97, 108, 105, 122, 101, 32] ++ (x.nm)))) := hh1; have hs1 := hh1.bel.size; clear hh1) | (go_at_call 65; have tku := tok2; clear tku tok2; refine (names_lay hK _ _ x.attrs _ (H1s.out.keep (P := fun _ k => k < B) (k := 1) (stays_below (HZ.out.trans H1.out).bel)) H1.out.bd (by have := HL.out; (try simp only [List.length_append, List.length_cons, List.length_nil] at this ⊢); omega)).mono ?_; rintro e w2 ⟨rfl, hh⟩; have hh2 : At (w.alloc (.cells #[.string (st x.nm), .slice a x.attrs.length c] 61)) B b w2 ((zs ++ ([40, 108, 105, 116, 101, 114, 97, 108, 105, 122, 101, 32] ++ (x.nm))) ++ (spJ (x.attrs.map fun s => s))) := H1.out.trans hh; clear hh; obtain ⟨p0, p1⟩ := HX.out _ _ hh2; have H2 : Hid (At (w.alloc (.cells #[.string (st x.nm), .slice a x.attrs.length c] 61)) B b w2 ((zs ++ ([40, 108, 105, 116, 101, 114, 97, 108, 105, 122, 101, 32] ++ (x.nm))) ++ (spJ (x.attrs.map fun s => s)))) := hh2; have hs2 := hh2.bel.size; clear hh2) | (go_at_fn K; have tku := tok3; clear tku tok3; refine (put1 hK H2.out.bd ([41]) (by have := HL.out; (try simp only [List.length_append, List.length_cons, List.length_nil] at this ⊢); omega) (by simp)).mono ?_; rintro e w3 ⟨rfl, hh⟩; have hh3 : At (w.alloc (.cells #[.string (st x.nm), .slice a x.attrs.length c] 61)) B b w3 (((zs ++ ([40, 108, 105, 116, 101, 114, 97, 108, 105, 122, 101, 32] ++ (x.nm))) ++ (spJ (x.attrs.map fun s => s))) ++ ([41])) := H2.out.trans hh; clear hh; obtain ⟨p0, p1⟩ := HX.out _ _ hh3; have H3 : Hid (At (w.alloc (.cells #[.string (st x.nm), .slice a x.attrs.length c] 61)) B b w3 (((zs ++ ([40, 108, 105, 116, 101, 114, 97, 108, 105, 122, 101, 32] ++ (x.nm))) ++ (spJ (x.attrs.map fun s => s))) ++ ([41]))) := hh3; have hs3 := hh3.bel.size; clear hh3))
  go_end0
  exact ⟨rfl, by have := HZ.out.trans H3.out; first | exact this | simpa only [List.append_assoc, List.cons_append, List.nil_append] using this⟩
theorem class_lay {B K b : Nat} (hK : PutC K) (zs : Str) (cs : List Value) (x : ClassD) (w : World) (hR : ReK (fun _ k => k < B) w cs x) (hb : Bd w B b zs) (hlen : zs.length + (shClass x).length ≤ 1000000000) :
    Calls Tryz.prog 30 #[pv K b, .agg cs.toArray] w (Lays1 B b w (zs ++ shClass x)) := by
  obtain ⟨v, rfl, h1⟩ := hR
  obtain ⟨a, c, e⟩ := h1.shape
  rw [List.length_map] at e
  subst e
  have e2 : shClass x = ([40, 108, 105, 116, 101, 114, 97, 108, 105, 122, 101, 32] ++ x.nm) ++ (spJ (x.attrs.map fun s => s) ++ [41]) := by
    unfold shClass; rw [List.map_id']; simp [sLit]
  rw [e2] at hlen ⊢
  exact class_lay_a hK zs x a c w hb hlen h1
end Go.Proofs.YtemacdimdpnkeaaGreatDoor
namespace Go.Proofs.YtemacdimdpnkeaaGreatDoor
set_option maxRecDepth 20000
open Go.RowKit
set_option linter.unusedVariables false
set_option linter.unusedSimpArgs false
theorem new_hp {w : World} {o : Obj} {X : Nat} (hX : X = w.heap.size) : (w.alloc o).heap[X]? = some o := by subst hX; exact heap_alloc_new w o
theorem bd_new (w : World) : Bd (w.alloc (.cells #[.pointer none, .slice none 0 0] 83)) w.heap.size w.heap.size [] :=
  .inl ⟨Nat.le_refl _, .slice none 0 0, new_hp rfl, ⟨rfl, .inl ⟨rfl, rfl⟩⟩, by simp [Value.ownBlock]⟩
theorem string_any (B b : Nat) (zs : Str) (w : World) (h : Bd w B b zs) (hB : B ≤ w.heap.size) :
    Calls Tryz.prog 29 #[.pointer (some ⟨b, 0, none⟩)] w fun e w' => e = .returned (.string (st zs)) ∧ Below B w w' := by
  have C : Calls Tryz.prog 29 #[.pointer (some ⟨b, 0, none⟩)] w _ := Any.Builder_String_any_k Tryz.lays169 Tryz.Builder_Extra_169 B b zs w h hB
  refine C.mono ?_
  rintro e w' ⟨h1, h2, h3, h4⟩
  exact ⟨h1, h3⟩
def Says (w : World) (s : Str) (e : Ending) (w' : World) : Prop := e = .returned (.string (st s)) ∧ Below w.heap.size w w'
set_option maxHeartbeats 2000000 in
theorem told21 {LF : Nat} (hEF : Enters Tryz.prog LF) (hK : PutC 33) (a0 : Option Addr) (n0 m0 : Nat) (s : Str) (w : World) (hL : ∀ W b, Below w.heap.size w W → w.heap.size ≤ b → Bd W b b [] → Calls Tryz.prog LF #[pv 33 b, .slice a0 n0 m0] W (Lays1 b b W s)) :
    Calls Tryz.prog 17 #[.func (.func LF) #[] #[], .slice a0 n0 m0] w (Says w s) := by
  have eF : ∀ (args : Array Value) (w : World), (callFunc LF args).run Tryz.prog w = .ok (.enter LF args) w := hEF
  have HL := hL (w.alloc (.cells #[.pointer none, .slice none 0 0] 83)) w.heap.size (bxn _ _) (Nat.le_refl _) (bd_new w)
  clear hL
  unfold pv at *
  (try simp only [World.size_alloc] at HL)
  go_enter Tryz.func17, Tryz.ntmps17
  go_wp2_with (first | (go_at_fn LF; refine HL.mono ?_; rintro e w2 ⟨rfl, hh⟩; have H2 : Hid (At _ _ _ w2 s) := hh; clear hh) | (go_at_call 29; refine (string_any _ _ s _ H2.out.bd (by have h1 := H2.out.bd.lt; omega)).mono ?_; rintro e w3 ⟨rfl, hh⟩; have H3 : Hid (Below _ w2 w3) := hh; clear hh))
  go_ret
  exact ⟨rfl, (bxn _ _).trans ((H2.out.bel.trans H3.out).mono (by simp))⟩
set_option maxHeartbeats 2000000 in
theorem told26 {LF : Nat} (hEF : Enters Tryz.prog LF) (hK : PutC 43) (c0 : ByteArray) (a1 : Option Addr) (n1 m1 : Nat) (a2 : Option Addr) (n2 m2 : Nat) (s : Str) (w : World) (hL : ∀ W b, Below w.heap.size w W → w.heap.size ≤ b → Bd W b b [] → Calls Tryz.prog LF #[pv 43 b, .agg #[.string c0, .slice a1 n1 m1, .slice a2 n2 m2]] W (Lays1 b b W s)) :
    Calls Tryz.prog 21 #[.func (.func LF) #[] #[], .agg #[.string c0, .slice a1 n1 m1, .slice a2 n2 m2]] w (Says w s) := by
  have eF : ∀ (args : Array Value) (w : World), (callFunc LF args).run Tryz.prog w = .ok (.enter LF args) w := hEF
  have HL := hL ((w.alloc (.cells #[.string c0, .slice a1 n1 m1, .slice a2 n2 m2] 51)).alloc (.cells #[.pointer none, .slice none 0 0] 83)) (w.alloc (.cells #[.string c0, .slice a1 n1 m1, .slice a2 n2 m2] 51)).heap.size (((Below.refl _ w).alloc (Nat.le_refl _) _).alloc (by simp) _) (by simp) (bd_new (w.alloc (.cells #[.string c0, .slice a1 n1 m1, .slice a2 n2 m2] 51)))
  clear hL
  unfold pv at *
  (try simp only [World.size_alloc] at HL)
  go_enter Tryz.func21, Tryz.ntmps21
  go_wp2_with (first | (go_at_fn LF; refine HL.mono ?_; rintro e w2 ⟨rfl, hh⟩; have H2 : Hid (At _ _ _ w2 s) := hh; clear hh) | (go_at_call 29; refine (string_any _ _ s _ H2.out.bd (by have h1 := H2.out.bd.lt; omega)).mono ?_; rintro e w3 ⟨rfl, hh⟩; have H3 : Hid (Below _ w2 w3) := hh; clear hh))
  go_ret
  exact ⟨rfl, (((Below.refl _ w).alloc (Nat.le_refl _) _).alloc (by simp) _).trans ((H2.out.bel.trans H3.out).mono (by simp))⟩
set_option maxHeartbeats 2000000 in
theorem told30 {LF : Nat} (hEF : Enters Tryz.prog LF) (hK : PutC 38) (c0 : ByteArray) (a1 : Option Addr) (n1 m1 : Nat) (a2 : Option Addr) (n2 m2 : Nat) (s : Str) (w : World) (hL : ∀ W b, Below w.heap.size w W → w.heap.size ≤ b → Bd W b b [] → Calls Tryz.prog LF #[pv 38 b, .agg #[.string c0, .slice a1 n1 m1, .slice a2 n2 m2]] W (Lays1 b b W s)) :
    Calls Tryz.prog 19 #[.func (.func LF) #[] #[], .agg #[.string c0, .slice a1 n1 m1, .slice a2 n2 m2]] w (Says w s) := by
  have eF : ∀ (args : Array Value) (w : World), (callFunc LF args).run Tryz.prog w = .ok (.enter LF args) w := hEF
  have HL := hL ((w.alloc (.cells #[.string c0, .slice a1 n1 m1, .slice a2 n2 m2] 46)).alloc (.cells #[.pointer none, .slice none 0 0] 83)) (w.alloc (.cells #[.string c0, .slice a1 n1 m1, .slice a2 n2 m2] 46)).heap.size (((Below.refl _ w).alloc (Nat.le_refl _) _).alloc (by simp) _) (by simp) (bd_new (w.alloc (.cells #[.string c0, .slice a1 n1 m1, .slice a2 n2 m2] 46)))
  clear hL
  unfold pv at *
  (try simp only [World.size_alloc] at HL)
  go_enter Tryz.func19, Tryz.ntmps19
  go_wp2_with (first | (go_at_fn LF; refine HL.mono ?_; rintro e w2 ⟨rfl, hh⟩; have H2 : Hid (At _ _ _ w2 s) := hh; clear hh) | (go_at_call 29; refine (string_any _ _ s _ H2.out.bd (by have h1 := H2.out.bd.lt; omega)).mono ?_; rintro e w3 ⟨rfl, hh⟩; have H3 : Hid (Below _ w2 w3) := hh; clear hh))
  go_ret
  exact ⟨rfl, (((Below.refl _ w).alloc (Nat.le_refl _) _).alloc (by simp) _).trans ((H2.out.bel.trans H3.out).mono (by simp))⟩
set_option maxHeartbeats 2000000 in
theorem told36 {LF : Nat} (hEF : Enters Tryz.prog LF) (hK : PutC 27) (a0 : Option Addr) (n0 m0 : Nat) (a1 : Option Addr) (n1 m1 : Nat) (s : Str) (w : World) (hL : ∀ W b, Below w.heap.size w W → w.heap.size ≤ b → Bd W b b [] → Calls Tryz.prog LF #[pv 27 b, .agg #[.slice a0 n0 m0, .slice a1 n1 m1]] W (Lays1 b b W s)) :
    Calls Tryz.prog 13 #[.func (.func LF) #[] #[], .agg #[.slice a0 n0 m0, .slice a1 n1 m1]] w (Says w s) := by
  have eF : ∀ (args : Array Value) (w : World), (callFunc LF args).run Tryz.prog w = .ok (.enter LF args) w := hEF
  have HL := hL ((w.alloc (.cells #[.slice a0 n0 m0, .slice a1 n1 m1] 26)).alloc (.cells #[.pointer none, .slice none 0 0] 83)) (w.alloc (.cells #[.slice a0 n0 m0, .slice a1 n1 m1] 26)).heap.size (((Below.refl _ w).alloc (Nat.le_refl _) _).alloc (by simp) _) (by simp) (bd_new (w.alloc (.cells #[.slice a0 n0 m0, .slice a1 n1 m1] 26)))
  clear hL
  unfold pv at *
  (try simp only [World.size_alloc] at HL)
  go_enter Tryz.func13, Tryz.ntmps13
  go_wp2_with (first | (go_at_fn LF; refine HL.mono ?_; rintro e w2 ⟨rfl, hh⟩; have H2 : Hid (At _ _ _ w2 s) := hh; clear hh) | (go_at_call 29; refine (string_any _ _ s _ H2.out.bd (by have h1 := H2.out.bd.lt; omega)).mono ?_; rintro e w3 ⟨rfl, hh⟩; have H3 : Hid (Below _ w2 w3) := hh; clear hh))
  go_ret
  exact ⟨rfl, (((Below.refl _ w).alloc (Nat.le_refl _) _).alloc (by simp) _).trans ((H2.out.bel.trans H3.out).mono (by simp))⟩
end Go.Proofs.YtemacdimdpnkeaaGreatDoor
