import Derived.Test.YtemacdimdpnkeaaGreatDoorB2
import Derived.Test.YtemacdimdpnkeaaGreatDoorB14
import Derived.Deep.AppendLies
import Derived.Laws.OwnMore
import Derived.Laws.MakeOwn
import Derived.Deep.RegionLaw
import Derived.Deep.RegionHeld3
namespace Go.Proofs.YtemacdimdpnkeaaGreatDoor
set_option maxRecDepth 20000
open Go.RowKit
set_option linter.unusedVariables false
set_option linter.unusedSimpArgs false
theorem infoRow81 : (Tryz.prog.info? 81).map (fun i => (i.zero, i.size, i.bytes)) = some (some (.slice none 0 0), 1, 24) := by kernel_rfl
theorem infoInt3 : (Tryz.prog.info? 3).map (fun i => (i.zero, i.size, i.bytes)) = some (some (.int .i64 0), 1, 8) := by kernel_rfl
abbrev nilS0 : Value := .slice none 0 0
theorem own_ty {w : World} {B : Nat} {e : TypeId} {v : Value} {n : Nat} {xs : List Value} (h : w.ownsRow B e 1 v n xs) {g : Nat} (hg : v.ownBlock = some g) : ∃ cur, w.heap[g]? = some (.cells cur e (0, 0)) ∧ g < w.heap.size := by
  rcases h.2 with ⟨rfl, _⟩ | ⟨g', cap, cur, rfl, _, hgg, _⟩
  · simp [Value.ownBlock] at hg
  · have : g' = g := by simpa [Value.ownBlock] using hg
    subst this
    refine ⟨cur, hgg, ?_⟩
    rcases Nat.lt_or_ge g' w.heap.size with h' | h'
    · exact h'
    · simp [Array.getElem?_eq_none h'] at hgg
theorem own_far {w w' : World} {B : Nat} {e : TypeId} {v : Value} {n : Nat} {xs : List Value} (h : w.ownsRow B e 1 v n xs) {r : Nat} (hg : w.grownBy w' (some r)) (hr : ∀ cur, w.heap[r]? ≠ some (.cells cur e (0, 0))) : w'.ownsRow B e 1 v n xs :=
  h.kept hg (.inr fun e => by obtain ⟨cur, h1, -⟩ := own_ty h e; exact hr cur h1)
structure Ahd (w : World) (B k n : Nat) (vals : List Value) (A : List (List Int)) : Prop where
  own : w.ownsRow B 81 1 (.slice (some ⟨k, 0, none⟩) n n) n vals
  lenA : A.length = n
  rows : ∀ j, j < n → w.ownsRow B 5 1 (vals.getD j nilS0) (A.getD j []).length ((A.getD j []).map (Value.int .u8))
  apart : ∀ i j g, i < n → j < n → i ≠ j → (vals.getD i nilS0).ownBlock = some g → (vals.getD j nilS0).ownBlock ≠ some g
theorem Ahd.len {w : World} {B k n : Nat} {vals : List Value} {A : List (List Int)} (h : Ahd w B k n vals A) : vals.length = n := by simpa using h.own.1
theorem Ahd.kept {w w' : World} {B k n : Nat} {vals : List Value} {A : List (List Int)} (h : Ahd w B k n vals A) {row : Option Nat} (hg : w.grownBy w' row) (hr : ∀ r, row = some r → ∃ cur e fz, w.heap[r]? = some (.cells cur e fz) ∧ e ≠ 81 ∧ e ≠ 5) : Ahd w' B k n vals A := by
  have far : ∀ {v : Value} {m : Nat} {xs : List Value} {e : TypeId}, (e = 81 ∨ e = 5) → w.ownsRow B e 1 v m xs → w'.ownsRow B e 1 v m xs := by
    intro v m xs e he ho
    refine ho.kept hg ?_
    cases hv : v.ownBlock with
    | none => exact .inl rfl
    | some g =>
      refine .inr fun er => ?_
      obtain ⟨cur, e', fz, h1, h2, h3⟩ := hr g er.symm
      obtain ⟨cur', h4, -⟩ := own_ty ho hv
      rw [h4] at h1
      have := (Obj.cells.inj (Option.some.inj h1)).2.1
      rcases he with rfl | rfl
      · exact h2 this.symm
      · exact h3 this.symm
  exact ⟨far (.inl rfl) h.own, h.lenA, fun j hj => far (.inr rfl) (h.rows j hj), h.apart⟩
theorem getD_set_ne {α : Type} (l : List α) {i j : Nat} (x d : α) (h : i ≠ j) : (l.set i x).getD j d = l.getD j d := by
  rw [List.getD_eq_getElem?_getD, List.getElem?_set_ne h, ← List.getD_eq_getElem?_getD]
theorem getD_set_eq {α : Type} (l : List α) {i : Nat} (x d : α) (h : i < l.length) : (l.set i x).getD i d = x := by
  rw [List.getD_eq_getElem?_getD, List.getElem?_set_self h]; rfl
theorem grown_set (w : World) (b j : Nat) (u : Value) : w.grownBy (w.setCell ⟨b, j, none⟩ u) (some b) :=
  ⟨rfl, rfl, rfl, by simp [World.setCell], fun k _ hk => Below.heap_setCell _ _ _ _ (fun e => hk (by simp [e]))⟩
theorem Ahd.put {w w1 : World} {B k n j g cap H : Nat} {vals : List Value} {A : List (List Int)} {x : Int} (h : Ahd w B k n vals A) (hj : j < n) (hg : w.grownBy w1 (vals.getD j nilS0).ownBlock)
    (ho : w1.ownsRow B 5 1 (.slice (some ⟨g, 0, none⟩) ((A.getD j []).length + 1) cap) ((A.getD j []).length + 1) ((A.getD j []).map (Value.int .u8) ++ [.int .u8 x])) (hw : (vals.getD j nilS0).ownBlock = some g ∨ g = H) (hH : w.heap.size ≤ H) :
    Ahd (w1.setCell ⟨k, j, none⟩ (.slice (some ⟨g, 0, none⟩) ((A.getD j []).length + 1) cap)) B k n (vals.set j (.slice (some ⟨g, 0, none⟩) ((A.getD j []).length + 1) cap)) (A.set j (A.getD j [] ++ [x])) := by
  have hlv := h.len
  obtain ⟨ck, hk0, hk1⟩ := own_ty h.own (g := k) rfl
  have hkr : (Value.slice (some ⟨k, 0, none⟩) n n).ownBlock ≠ (vals.getD j nilS0).ownBlock := by
    intro e
    obtain ⟨c5, h5, -⟩ := own_ty (h.rows j hj) (g := k) e.symm
    rw [hk0] at h5
    exact absurd (Obj.cells.inj (Option.some.inj h5)).2.1 (by decide)
  have own1 := h.own.kept hg (.inr hkr)
  obtain ⟨own2, hg2⟩ := own1.stored j (.slice (some ⟨g, 0, none⟩) ((A.getD j []).length + 1) cap)
  obtain ⟨ck1, hk2, -⟩ := own_ty own1 (g := k) rfl
  have far : ∀ {v : Value} {m : Nat} {xs : List Value}, w1.ownsRow B 5 1 v m xs → (w1.setCell ⟨k, j, none⟩ (.slice (some ⟨g, 0, none⟩) ((A.getD j []).length + 1) cap)).ownsRow B 5 1 v m xs := fun ho' =>
    own_far ho' hg2 fun cur e => by rw [hk2] at e; exact absurd (Obj.cells.inj (Option.some.inj e)).2.1 (by decide)
  have hnew : ∀ i g', i < n → i ≠ j → (vals.getD i nilS0).ownBlock = some g' → g ≠ g' := by
    intro i g' hi hij hv e
    subst e
    rcases hw with hw | hw
    · exact h.apart i j g hi hj hij hv hw
    · have := (own_ty (h.rows i hi) hv)
      obtain ⟨_, _, hlt⟩ := this
      omega
  refine ⟨own2, by rw [List.length_set]; exact h.lenA, fun i hi => ?_, fun i i' g' hi hi' hne hv => ?_⟩
  · by_cases hij : i = j
    · subst hij
      rw [getD_set_eq _ _ _ (by omega), getD_set_eq _ _ _ (by have := h.lenA; omega), List.length_append, List.map_append]
      exact far ho
    · rw [getD_set_ne _ _ _ (fun e => hij e.symm), getD_set_ne _ _ _ (fun e => hij e.symm)]
      refine far ((h.rows i hi).kept hg ?_)
      cases hv : (vals.getD i nilS0).ownBlock with
      | none => exact .inl rfl
      | some g' => exact .inr fun e => h.apart i j g' hi hj hij hv e.symm
  · by_cases hij : i = j
    · subst hij
      rw [getD_set_eq _ _ _ (by omega)] at hv
      rw [getD_set_ne _ _ _ hne]
      have : g = g' := by simpa [Value.ownBlock] using hv
      subst this
      intro e
      exact hnew i' g hi' (fun e => hne e.symm) e rfl
    · rw [getD_set_ne _ _ _ (fun e => hij e.symm)] at hv
      by_cases hij' : i' = j
      · subst hij'
        rw [getD_set_eq _ _ _ (by omega)]
        intro e
        have : g = g' := by simpa [Value.ownBlock] using e
        exact hnew i g' hi hij hv this
      · rw [getD_set_ne _ _ _ (fun e => hij' e.symm)]
        exact h.apart i i' g' hi hi' hne hv
theorem wp_make91 {ops : Array Oper} {rest : List Oper} {o : Oper} {a : Act} {w : World} {Q : Exit → Act → World → Prop} (hgd : o.guard = none) (x y : Operand) (ho : o.op = .makeSlice 101 x y) (n : Nat) (hn : n ≤ 1000000) (hx : a.eval x = .int .i64 n) (hy : a.eval y = .int .i64 n)
    (h : ∀ w', Ahd w' w.heap.size w.heap.size n (List.replicate n nilS0) (List.replicate n []) → Below w.heap.size w w' → w'.heap.size = w.heap.size + 1 → wpList Tryz.prog ops Q rest (a.put o.dst (.slice (some ⟨w.heap.size, 0, none⟩) n n)) w') : wpList Tryz.prog ops Q (o :: rest) a w := by
  obtain ⟨i0, hi, hz0, hz1, hz2⟩ := info_parts infoRow81
  have hrun := run_makeSlice (P := Tryz.prog) w 101 81 i0 nilS0 Tryz.underlying101 hi hz0 .i64 .i64 n n (by omega) (by omega) (by rw [hz1]; simp; omega) (by rw [hz2]; omega) (by omega)
  refine wpList_plain hgd fun K hK => ?_
  unfold Oper.wp
  rw [hz1, Int.toNat_natCast, Nat.mul_one] at hrun
  simp only [execOp, ho, hx, hy, Sem.run_bind, hrun, Result.andThen, Sem.run_pure]
  refine hK _ _ (h _ ?_ ((Below.refl _ _).alloc (Nat.le_refl _) _) (by simp))
  have := World.ownsRow_lit (base := w.heap.size) (e := 81) (size := 1) w (madeCells nilS0.cells n) n (Nat.le_refl _) (by unfold maxLen; omega) (by rw [size_madeCells]; omega)
  have e : (madeCells nilS0.cells n).toList = List.replicate n nilS0 := toList_madeCells_one _ n
  rw [e] at this
  have g1 : ∀ j, (List.replicate n nilS0).getD j nilS0 = nilS0 := fun j => by
    rw [List.getD_eq_getElem?_getD, List.getElem?_replicate]; split <;> rfl
  have g2 : ∀ j, (List.replicate n ([] : List Int)).getD j [] = [] := fun j => by
    rw [List.getD_eq_getElem?_getD, List.getElem?_replicate]; split <;> rfl
  refine ⟨this, by simp, fun j hj => ?_, fun i j g hi hj hne hv => ?_⟩
  · rw [g1, g2]; exact ⟨rfl, .inl ⟨rfl, rfl⟩⟩
  · rw [g1] at hv; simp [Value.ownBlock] at hv
theorem own_init {w : World} {B n c : Nat} {a : Option Addr} {xs : List Value} (h : w.ownsRow B 3 1 (.slice a n c) n xs) (hn : 1 ≤ n) : w.ownsRow B 3 1 (.slice a (n - 1) c) (n - 1) (xs.take (n - 1)) := by
  obtain ⟨h1, h2⟩ := h
  refine ⟨by rw [List.length_take]; omega, ?_⟩
  rcases h2 with ⟨e, h0⟩ | ⟨g, cap, cur, e, hb, hg, hnc, hcm, hcs, ht⟩
  · omega
  · obtain ⟨rfl, -, rfl⟩ := Value.slice.inj e
    refine .inr ⟨g, c, cur, rfl, hb, hg, by omega, hcm, hcs, ?_⟩
    rw [← ht, List.take_take]; congr 1; omega
abbrev nums (P : List Nat) : List Value := P.map fun (s : Nat) => Value.int .i64 (s : Int)
end Go.Proofs.YtemacdimdpnkeaaGreatDoor
namespace Go.Proofs.YtemacdimdpnkeaaGreatDoor
set_option maxRecDepth 20000
open Go.RowKit
set_option linter.unusedVariables false
set_option linter.unusedSimpArgs false
theorem ret_sg {a b : Str} (h : a = b) : Ending.returned (.string (st a)) = .returned (.string (st b)) := by rw [h]
set_option maxHeartbeats 1000000 in
theorem sgn_any (k : Int) (w : World) : Calls Tryz.prog 35 #[.int .u8 k] w fun e w' => e = .returned (.string (st (sgS k))) ∧ w' = w := by
  by_cases h2 : k = 2
  · subst h2
    go_enter Tryz.func35, Tryz.ntmps35
    go_wp2
    go_ret
    exact ⟨rfl, rfl⟩
  · by_cases h3 : k = 3
    · subst h3
      go_enter Tryz.func35, Tryz.ntmps35
      go_wp2
      go_ret
      exact ⟨rfl, rfl⟩
    · by_cases h4 : k = 4
      · subst h4
        go_enter Tryz.func35, Tryz.ntmps35
        go_wp2
        go_ret
        exact ⟨rfl, rfl⟩
      · have HS : Hid (sgS k = []) := sgS_no (by omega)
        go_enter Tryz.func35, Tryz.ntmps35
        go_wp2
        go_ret
        exact ⟨ret_sg HS.out.symm, rfl⟩
theorem getD_nums (P : List Nat) (j : Nat) (h : j < P.length) : (nums P)[j]? = some (.int .i64 ((P.getD j 0 : Nat) : Int)) := by
  unfold nums
  rw [List.getElem?_map, List.getD_eq_getElem?_getD, List.getElem?_eq_getElem h]; rfl
def HdPost (w : World) (L : List ItemD) (e : Ending) (w' : World) : Prop := Below w.heap.size w w' ∧ match headsE L 0 (List.replicate L.length []) [] with
  | some (A, [_]) => ∃ k vals, e = .returned (.tuple #[.slice (some ⟨k, 0, none⟩) L.length L.length, .bool true]) ∧ Ahd w' w.heap.size k L.length vals A
  | _ => ∃ v, e = .returned (.tuple #[v, .bool false])
theorem HdPost.yes {w w' : World} {L : List ItemD} {A : List (List Int)} {s k : Nat} {vals : List Value} (hb : Below w.heap.size w w') (h : headsE L 0 (List.replicate L.length []) [] = some (A, [s])) (ha : Ahd w' w.heap.size k L.length vals A) : HdPost w L (.returned (.tuple #[.slice (some ⟨k, 0, none⟩) L.length L.length, .bool true])) w' := by
  refine ⟨hb, ?_⟩
  rw [h]; exact ⟨k, vals, rfl, ha⟩
theorem HdPost.no {w w' : World} {L : List ItemD} {v : Value} (hb : Below w.heap.size w w') (h : ∀ A s, headsE L 0 (List.replicate L.length []) [] ≠ some (A, [s])) : HdPost w L (.returned (.tuple #[v, .bool false])) w' := by
  refine ⟨hb, ?_⟩
  split
  · rename_i A s e; exact absurd e (h A s)
  · exact ⟨v, rfl⟩
def InL (P : List Nat) (i : Nat) : Prop := ∀ s ∈ P, s < i
theorem drop_at {L : List ItemD} {i : Nat} (h : i < L.length) : L.drop i = L.getD i i0 :: L.drop (i + 1) := by
  rw [List.drop_eq_getElem_cons h, List.getD_eq_getElem?_getD, List.getElem?_eq_getElem h]; rfl
theorem headsE_push {L : List ItemD} {i : Nat} {A : List (List Int)} {P : List Nat} (h : i < L.length) {x : ItemD} (hx : x = L.getD i i0) (hk : x.k = 0 ∨ x.k = 1) : headsE (L.drop i) i A P = headsE (L.drop (i + 1)) (i + 1) A (P ++ [i]) := by
  rw [drop_at h, ← hx, headsE, if_pos hk]
theorem headsE_op {L : List ItemD} {i : Nat} {A : List (List Int)} {P : List Nat} (h : i < L.length) {x : ItemD} (hx : x = L.getD i i0) (hk : x.k = 2 ∨ x.k = 3 ∨ x.k = 4) (h2 : ¬ P.length < 2) : headsE (L.drop i) i A P = headsE (L.drop (i + 1)) (i + 1) (A.set (P.getD (P.length - 2) 0) (A.getD (P.getD (P.length - 2) 0) [] ++ [x.k])) (P.take (P.length - 1)) := by
  rw [drop_at h, ← hx, headsE, if_neg (by omega), if_pos hk, if_neg h2]
theorem headsE_few {L : List ItemD} {i : Nat} {A : List (List Int)} {P : List Nat} (h : i < L.length) {x : ItemD} (hx : x = L.getD i i0) (hk : x.k = 2 ∨ x.k = 3 ∨ x.k = 4) (h2 : P.length < 2) : headsE (L.drop i) i A P = none := by
  rw [drop_at h, ← hx, headsE, if_neg (by omega), if_pos hk, if_pos h2]
theorem headsE_no {L : List ItemD} {i : Nat} {A : List (List Int)} {P : List Nat} (h : i < L.length) {x : ItemD} (hx : x = L.getD i i0) (hk : ¬ (x.k = 0 ∨ x.k = 1)) (hk2 : ¬ (x.k = 2 ∨ x.k = 3 ∨ x.k = 4)) : headsE (L.drop i) i A P = none := by
  rw [drop_at h, ← hx, headsE, if_neg hk, if_neg hk2]
theorem Ahd.drew {w : World} {B k n : Nat} {vals : List Value} {A : List (List Int)} (h : Ahd w B k n vals A) : Ahd w.drew B k n vals A := ⟨h.own, h.lenA, h.rows, h.apart⟩
theorem Ahd.alloc {w : World} {B k n : Nat} {vals : List Value} {A : List (List Int)} (h : Ahd w B k n vals A) (o : Obj) : Ahd (w.alloc o) B k n vals A := h.kept (World.grownBy_alloc w o none) (fun r e => by cases e)
theorem new_at {w : World} {o : Obj} {X : Nat} (hX : X = w.heap.size) : (w.alloc o).heap[X]? = some o := by subst hX; exact heap_alloc_new w o
theorem addr_add (g j : Nat) : (⟨g, 0, none⟩ : Addr).add j = ⟨g, j, none⟩ := by unfold Addr.add; split <;> simp_all
theorem Ahd.cell {w : World} {B k n j : Nat} {vals : List Value} {A : List (List Int)} (h : Ahd w B k n vals A) (hj : j < n) : w.cell? ⟨k, j, none⟩ = some (vals.getD j nilS0) ∧ w.frozen? ⟨k, j, none⟩ = false ∧ k < w.heap.size := by
  obtain ⟨cur, h1, h2⟩ := own_ty h.own (g := k) rfl
  have := h.own.cells (g := k) rfl j (vals.getD j nilS0) (by rw [List.getD_eq_getElem?_getD, List.getElem?_eq_getElem (by have := h.len; omega)]; rfl)
  rw [addr_add] at this
  exact ⟨this, Lib.frozen_of_heap h1 j, h2⟩
theorem Ahd.far {w w1 : World} {B k n j b : Nat} {vals : List Value} {A : List (List Int)} (h : Ahd w B k n vals A) (hj : j < n) (hb : b < n) (hg : w.grownBy w1 (vals.getD b nilS0).ownBlock) : w1.cell? ⟨k, j, none⟩ = some (vals.getD j nilS0) ∧ w1.frozen? ⟨k, j, none⟩ = false ∧ k < w1.heap.size ∧ w1.ownsRow B 81 1 (.slice (some ⟨k, 0, none⟩) n n) n vals := by
  obtain ⟨c1, c2, c3⟩ := h.cell hj
  have hne : some k ≠ (vals.getD b nilS0).ownBlock := by
    intro e
    obtain ⟨c5, h5, -⟩ := own_ty (h.rows b hb) (g := k) e.symm
    obtain ⟨cur, h1, h2⟩ := own_ty h.own (g := k) rfl
    rw [h1] at h5
    exact absurd (Obj.cells.inj (Option.some.inj h5)).2.1 (by decide)
  exact ⟨(hg.cell_far ⟨k, j, none⟩ c3 hne).trans c1, (hg.frozen_far ⟨k, j, none⟩ c3 hne).trans c2, Nat.lt_of_lt_of_le c3 hg.size, h.own.kept hg (.inr hne)⟩
theorem own_apart {w : World} {B e e' n n' : Nat} {v v' : Value} {xs xs' : List Value} (h : w.ownsRow B e 1 v n xs) (h' : w.ownsRow B e' 1 v' n' xs') (hne : e ≠ e') : v.ownBlock = none ∨ v.ownBlock ≠ v'.ownBlock := by
  cases hv : v.ownBlock with
  | none => exact .inl rfl
  | some g =>
    refine .inr fun e => ?_
    obtain ⟨c, h1, -⟩ := own_ty h hv
    obtain ⟨c', h2, -⟩ := own_ty h' e.symm
    rw [h1] at h2
    exact hne (Obj.cells.inj (Option.some.inj h2)).2.1
theorem InL.snoc {P : List Nat} {i : Nat} (h : InL P i) : InL (P ++ [i]) (i + 1) := fun s hs => by
  rcases List.mem_append.1 hs with a | a
  · have := h s a; omega
  · rw [List.mem_singleton.1 a]; omega
theorem InL.init {P : List Nat} {i m : Nat} (h : InL P i) : InL (P.take m) (i + 1) := fun s hs => by have := h s (List.mem_of_mem_take hs); omega
theorem nums_take (P : List Nat) (m : Nat) : (nums P).take m = nums (P.take m) := by unfold nums; rw [List.map_take]
theorem nums_snoc (P : List Nat) (i : Nat) : nums P ++ [Value.int .i64 (i : Int)] = nums (P ++ [i]) := by unfold nums; rw [List.map_append]; rfl
theorem getD_memN (P : List Nat) (j d : Nat) (h : j < P.length) : P.getD j d ∈ P := by
  rw [List.getD_eq_getElem?_getD, List.getElem?_eq_getElem h]; exact List.getElem_mem h
set_option maxHeartbeats 4000000 in
theorem heads_any {Q1 : Nat → Prop} (v1 : Value) (L : List ItemD) (w : World) (h1 : SlW 5 w Q1 v1 (L.map clI)) (hl : L.length ≤ 100000) :
    Calls Tryz.prog 34 #[v1] w (HdPost w L) := by
  obtain ⟨a1, c1, rfl⟩ := h1.shape
  obtain ⟨-, l1, m1, r1⟩ := h1.row
  simp only [List.length_map] at *
  have R1 : Hid (∀ i, i < L.length → ∃ b off, a1 = some ⟨b, off, none⟩ ∧ b < w.heap.size ∧ ∀ j, j < 5 → w.cell? ⟨b, off + (i * 5 + j), none⟩ = ((L.map clI).getD i [])[j]?) := r1
  have HL : Hid (L.length ≤ 100000) := hl
  obtain ⟨i3, hi3, hz3, hz31, hz32⟩ := info_parts infoInt3
  obtain ⟨i5, hi5, hz5, hz51, hz52⟩ := info_parts infoByte5
  clear r1 h1 hl
  have hnn : (L.length : Int) ≤ 9223372036854775807 := by omega
  go_enter Tryz.func34, Tryz.ntmps34
  go_wp2_with (refine wp_make91 rfl _ _ rfl L.length (by have := HL.out; omega) rfl rfl ?_; intro w1 ha1 hb1 hs1; have HA1 : Hid (Ahd w1 w.heap.size w.heap.size L.length (List.replicate L.length nilS0) (List.replicate L.length [])) := ha1; have HB1 : Hid (Below w.heap.size w w1) := hb1; clear ha1 hb1)
  go_loopw [5, 14] (fun v5 v14 wr => ∃ (i : Nat) (A : List (List Int)) (P : List Nat) (vals : List Value), v14 = .int .i64 i ∧ i ≤ L.length ∧ wr.ownsRow w.heap.size 3 1 v5 P.length (nums P) ∧ Ahd wr w.heap.size w.heap.size L.length vals A ∧ Below w.heap.size w wr ∧ InL P i ∧ P.length ≤ i ∧ (∀ j, (A.getD j []).length ≤ i) ∧ headsE L 0 (List.replicate L.length []) [] = headsE (L.drop i) i A P) (fun _ v14 _ => (L.length - intOf v14).toNat)
  case atStart => exact ⟨0, _, [], _, rfl, Nat.zero_le _, ⟨rfl, .inl ⟨rfl, rfl⟩⟩, HA1.out, HB1.out, (fun s hs => by cases hs), Nat.zero_le _, (fun j => by rw [List.getD_eq_getElem?_getD, List.getElem?_replicate]; split <;> exact Nat.zero_le _), by rw [List.drop_zero]⟩
  case round =>
    obtain ⟨i, A, P, vals, rfl, hi, hown, hah, hbl, hin, hpl, hnb, heq⟩ := hrel
    have HO : Hid (wr.ownsRow w.heap.size 3 1 u5 P.length (nums P)) := hown
    have HA : Hid (Ahd wr w.heap.size w.heap.size L.length vals A) := hah
    have HB : Hid (Below w.heap.size w wr) := hbl
    have HI : Hid (InL P i) := hin
    have HE : Hid (headsE L 0 (List.replicate L.length []) [] = headsE (L.drop i) i A P) := heq
    have hsz := hbl.size
    have HPI : Hid (P.length ≤ i) := hpl
    have HPL : Hid (P.length ≤ 100000) := by have h := HL.out; show P.length ≤ 100000; omega
    have HNI : Hid (∀ j, (A.getD j []).length ≤ i) := hnb
    have HNB : Hid (∀ j, (A.getD j []).length ≤ 1000000) := fun j => by have h := HL.out; have := hnb j; omega
    obtain ⟨a5, c5, rfl⟩ : ∃ a5 c5, u5 = .slice a5 P.length c5 := by
      rcases hown.2 with ⟨e, h0⟩ | ⟨g, cap, cur, e, -⟩
      · exact ⟨none, 0, by rw [e, h0]⟩
      · exact ⟨_, cap, e⟩
    clear hown hah hbl hin heq hpl hnb HA1 HB1 hs1
    by_cases hlt : i < L.length
    · have hiz : (i : Int) < L.length := by omega
      obtain ⟨b1, o1, rfl, hb1, q1⟩ := R1.out i hlt
      rw [getD_map clI L i i0 hlt] at q1
      obtain ⟨x, hx⟩ : ∃ x, x = L.getD i i0 := ⟨_, rfl⟩
      rw [← hx] at q1
      have HX : Hid (x = L.getD i i0) := hx
      clear hx
      have p0 : wr.cell? ⟨b1, o1 + i * 5, none⟩ = some (.int .u8 x.k) := (HB.out.cell (p := ⟨b1, o1 + i * 5, none⟩) hb1).trans (q1 0 (by decide))
      have p1 : wr.cell? ⟨b1, o1 + i * 5 + 1, none⟩ = some (.int .u8 x.x.k) := (HB.out.cell (p := ⟨b1, o1 + i * 5 + 1, none⟩) hb1).trans (q1 1 (by decide))
      have p2 : wr.cell? ⟨b1, o1 + i * 5 + 2, none⟩ = some (.int .i64 x.x.n) := (HB.out.cell (p := ⟨b1, o1 + i * 5 + 2, none⟩) hb1).trans (q1 2 (by decide))
      have p3 : wr.cell? ⟨b1, o1 + i * 5 + 3, none⟩ = some (.string (st x.x.s)) := (HB.out.cell (p := ⟨b1, o1 + i * 5 + 3, none⟩) hb1).trans (q1 3 (by decide))
      have p4 : wr.cell? ⟨b1, o1 + i * 5 + 4, none⟩ = some (.string (st x.v)) := (HB.out.cell (p := ⟨b1, o1 + i * 5 + 4, none⟩) hb1).trans (q1 4 (by decide))
      clear q1
      obtain ⟨kx, xx, vx⟩ := x
      dsimp only at p0 p1 p2 p3 p4
      by_cases k0 : kx = 0
      · subst k0
        have HK := headsE_push (A := A) (P := P) hlt HX.out (by simp)
        have HE2 : Hid (headsE L 0 (List.replicate L.length []) [] = headsE (L.drop (i + 1)) (i + 1) A (P ++ [i])) := HE.out.trans HK
        clear HK
        have hPl : P.length ≤ 100000 := HPL.out
        go_wp2_with (at_builtin; refine wpList_append_lies (P := Tryz.prog) _ rfl _ _ 132 rfl w.heap.size 3 i3 (.int .i64 0) 1 8 Tryz.underlying132 hi3 hz3 hz31 hz32 rfl (by decide) _ P.length (nums P) rfl ((HO.out.alloc _).alloc _) ⟨wr.heap.size + 1, 0, none⟩ 1 1 [.int .i64 i] rfl rfl (World.news_of_block (cs := #[.int .i64 i]) (t := 3) (fr := (0, 0)) (new_at (by simp))) (by simp [Value.oneCell']) (by decide) (by unfold maxLen; omega) (by omega) (by simp; omega) _ rfl ?_; intro g5 cap5 w5 ho5 hg5 hw5 hlt5; have HO5 : Hid (w5.ownsRow w.heap.size 3 1 (.slice (some ⟨g5, 0, none⟩) (P.length + 1) cap5) (P.length + 1) (nums P ++ [.int .i64 i])) := ho5; have HG5 : Hid (World.grownBy _ w5 _) := hg5; clear ho5 hg5 hw5)
        go_roundw
        case rel =>
          refine ⟨i + 1, A, P ++ [i], vals, by simp, by omega, ?_, ?_, ?_, HI.out.snoc, by have := HPI.out; rw [List.length_append]; simp; omega, fun j => Nat.le_succ_of_le (HNI.out j), HE2.out⟩
          · rw [← nums_snoc, List.length_append]; exact HO5.out
          · exact ((HA.out.alloc _).alloc _).kept HG5.out (fun r hr => by obtain ⟨cur, e, -⟩ := own_ty ((HO.out.alloc (.cells #[.int .u8 0, .int .u8 xx.k, .int .i64 xx.n, .string (st xx.s), .string (st vx)] 38)).alloc (.cells #[.int .i64 i] 3)) hr; exact ⟨cur, 3, _, e, by decide, by decide⟩)
          · exact ((HB.out.alloc hsz _).alloc (by simp; omega) _).grown HG5.out (by simp; omega) (fun k hk => (((HO.out.alloc (.cells #[.int .u8 0, .int .u8 xx.k, .int .i64 xx.n, .string (st xx.s), .string (st vx)] 38)).alloc (.cells #[.int .i64 i] 3)).lt k hk).1)
        case measure => simp [intOf]; omega
      · by_cases k1 : kx = 1
        · subst k1
          have HK := headsE_push (A := A) (P := P) hlt HX.out (by simp)
          have HE2 : Hid (headsE L 0 (List.replicate L.length []) [] = headsE (L.drop (i + 1)) (i + 1) A (P ++ [i])) := HE.out.trans HK
          clear HK
          have hPl : P.length ≤ 100000 := HPL.out
          go_wp2_with (at_builtin; refine wpList_append_lies (P := Tryz.prog) _ rfl _ _ 132 rfl w.heap.size 3 i3 (.int .i64 0) 1 8 Tryz.underlying132 hi3 hz3 hz31 hz32 rfl (by decide) _ P.length (nums P) rfl ((HO.out.alloc _).alloc _) ⟨wr.heap.size + 1, 0, none⟩ 1 1 [.int .i64 i] rfl rfl (World.news_of_block (cs := #[.int .i64 i]) (t := 3) (fr := (0, 0)) (new_at (by simp))) (by simp [Value.oneCell']) (by decide) (by unfold maxLen; omega) (by omega) (by simp; omega) _ rfl ?_; intro g5 cap5 w5 ho5 hg5 hw5 hlt5; have HO5 : Hid (w5.ownsRow w.heap.size 3 1 (.slice (some ⟨g5, 0, none⟩) (P.length + 1) cap5) (P.length + 1) (nums P ++ [.int .i64 i])) := ho5; have HG5 : Hid (World.grownBy _ w5 _) := hg5; clear ho5 hg5 hw5)
          go_roundw
          case rel =>
            refine ⟨i + 1, A, P ++ [i], vals, by simp, by omega, ?_, ?_, ?_, HI.out.snoc, by have := HPI.out; rw [List.length_append]; simp; omega, fun j => Nat.le_succ_of_le (HNI.out j), HE2.out⟩
            · rw [← nums_snoc, List.length_append]; exact HO5.out
            · exact ((HA.out.alloc _).alloc _).kept HG5.out (fun r hr => by obtain ⟨cur, e, -⟩ := own_ty ((HO.out.alloc (.cells #[.int .u8 1, .int .u8 xx.k, .int .i64 xx.n, .string (st xx.s), .string (st vx)] 38)).alloc (.cells #[.int .i64 i] 3)) hr; exact ⟨cur, 3, _, e, by decide, by decide⟩)
            · exact ((HB.out.alloc hsz _).alloc (by simp; omega) _).grown HG5.out (by simp; omega) (fun k hk => (((HO.out.alloc (.cells #[.int .u8 1, .int .u8 xx.k, .int .i64 xx.n, .string (st xx.s), .string (st vx)] 38)).alloc (.cells #[.int .i64 i] 3)).lt k hk).1)
          case measure => simp [intOf]; omega
        · by_cases k2 : kx = 2
          · subst k2
            by_cases h2 : P.length < 2
            · have HN : Hid (∀ A s, headsE L 0 (List.replicate L.length []) [] ≠ some (A, [s])) := fun A' s' e => by rw [HE.out, headsE_few hlt HX.out (by simp) h2] at e; cases e
              have h2i : (P.length : Int) < 2 := by omega
              go_wp2
              refine bodyPost_ret (v := .tuple #[.slice none 0 0, .bool false]) (by simp [results, Tryz.results34, go_sem] <;> rfl) rfl ?_
              exact HdPost.no (HB.out.alloc hsz _) HN.out
            · have HK := headsE_op (A := A) (P := P) hlt HX.out (by simp) h2
              obtain ⟨m, hm⟩ : ∃ m, P.length = m + 2 := ⟨P.length - 2, by omega⟩
              obtain ⟨b, hbq⟩ : ∃ b, b = P.getD (P.length - 2) 0 := ⟨_, rfl⟩
              have hbi : b < i := by
                have := HI.out (P.getD (P.length - 2) 0) (getD_memN P _ _ (by omega))
                rw [hbq]; exact this
              have HE2 : Hid (headsE L 0 (List.replicate L.length []) [] = headsE (L.drop (i + 1)) (i + 1) (A.set b (A.getD b [] ++ [2])) (P.take (m + 1))) := by
                have := HE.out.trans HK
                rw [← hbq, show P.length - 1 = m + 1 by omega] at this
                exact this
              obtain ⟨g5, c6, e5, hg5b, hg5l⟩ := HO.out.form (by omega)
              obtain ⟨rfl, -, rfl⟩ := Value.slice.inj e5
              have pm : wr.cell? ⟨g5, m, none⟩ = some (.int .i64 (b : Int)) := by
                have := HO.out.cells (g := g5) rfl m _ (getD_nums P m (by omega))
                rw [addr_add] at this
                rw [this, hbq, show P.length - 2 = m by omega]
              have hPl : P.length ≤ 100000 := HPL.out
              have hc6 : (m : Int) + 1 ≤ c5 := by
                rcases HO.out.2 with ⟨e, h0⟩ | ⟨g, cap, cur, e, _, _, hnc, _⟩
                · omega
                · obtain ⟨-, -, e3⟩ := Value.slice.inj e
                  omega
              have hc7 : (c5 : Int) ≤ 9223372036854775807 := by
                rcases HO.out.2 with ⟨e, h0⟩ | ⟨g, cap, cur, e, _, _, hnc, hcm, _⟩
                · omega
                · obtain ⟨-, -, e3⟩ := Value.slice.inj e
                  unfold maxLen at hcm
                  omega
              have hrow := HA.out.rows b (by omega)
              obtain ⟨ab, cb, hvb⟩ : ∃ ab cb, vals.getD b nilS0 = .slice ab (A.getD b []).length cb := by
                rcases hrow.2 with ⟨e, h0⟩ | ⟨g, cap, cur, e, -⟩
                · exact ⟨none, 0, by rw [e, h0]⟩
                · exact ⟨_, cap, e⟩
              have pa : wr.cell? ⟨w.heap.size, b, none⟩ = some (.slice ab (A.getD b []).length cb) := by
                have := HA.out.own.cells (g := w.heap.size) rfl b (vals.getD b nilS0) (by rw [List.getD_eq_getElem?_getD, List.getElem?_eq_getElem (by have := HA.out.len; omega)]; rfl)
                rw [addr_add] at this
                rw [this, hvb]
              have hkl : w.heap.size < wr.heap.size := by obtain ⟨_, _, h⟩ := own_ty HA.out.own (g := w.heap.size) rfl; exact h
              have pf : wr.frozen? ⟨w.heap.size, b, none⟩ = false := by
                obtain ⟨cur, h, _⟩ := own_ty HA.out.own (g := w.heap.size) rfl
                exact Lib.frozen_of_heap h b
              obtain ⟨nb, hnb⟩ : ∃ nb, nb = (A.getD b []).length := ⟨_, rfl⟩
              have hnbl : nb ≤ 1000000 := by rw [hnb]; exact HNB.out b
              rw [← hnb] at pa hvb hrow
              have HNb : Hid (nb = (A.getD b []).length) := hnb
              have HVB : Hid (vals.getD b nilS0 = .slice ab nb cb) := hvb
              have HRW : Hid (wr.ownsRow w.heap.size 5 1 (.slice ab nb cb) nb ((A.getD b []).map (Value.int .u8))) := by rw [← hvb]; exact hrow
              have hbz : (b : Int) < L.length := by omega
              have HBQ : Hid (b = P.getD (P.length - 2) 0) := hbq
              have HH2 : Hid (¬ P.length < 2) := h2
              clear HK hbq hnb hrow hvb e5
              have HM : Hid ((nums P).length = m + 2) := by show (nums P).length = _; rw [← hm]; simp [nums]
              rw [hm] at *
              have n1 : ((m : Int) + 2 - 1).toNat = m + 1 := by omega
              clear hm h2
              go_wp2
              go_region_law (refine step_append_lies (P := Tryz.prog) _ (by rfl) _ _ 81 (by rfl) w.heap.size 5 i5 (.int .u8 0) 1 1 Tryz.underlying81 hi5 hz5 hz51 hz52 rfl (by decide) (.slice ab nb cb) nb ((A.getD b []).map (Value.int .u8)) (by rfl) ((HRW.out.alloc _).alloc _) ⟨_, 0, none⟩ 1 1 [.int .u8 2] (by rfl) (by rfl) (World.news_of_block (cs := #[.int .u8 2]) (t := 5) (fr := (0, 0)) (new_at (by simp))) (by simp [Value.oneCell']) (by decide) (by unfold maxLen; omega) (by omega) (by simp; omega) _ rfl ?_; intro g9 c9 w9 ho9 hg9 hw9 hlt9; have hq9 := (((HA.out.alloc (.cells #[.int .u8 2, .int .u8 xx.k, .int .i64 xx.n, .string (st xx.s), .string (st vx)] 38)).alloc (.cells #[.int .u8 2] 5)).drew).far (j := b) (b := b) (by omega) (by omega) (by rw [HVB.out]; exact hg9); obtain ⟨c91, c92, c93, c94⟩ := hq9; have HK9 : Hid (w9.ownsRow w.heap.size 81 1 (.slice (some ⟨w.heap.size, 0, none⟩) L.length L.length) L.length vals) := c94; clear c94; rw [HVB.out] at c91; have HO9 : Hid (w9.ownsRow w.heap.size 5 1 (.slice (some ⟨g9, 0, none⟩) (nb + 1) c9) (nb + 1) ((A.getD b []).map (Value.int .u8) ++ [.int .u8 2])) := ho9; have HG9 : Hid (World.grownBy _ w9 _) := hg9; have HW9 : Hid (_ ∨ _) := hw9; clear ho9 hg9 hw9)
              all_goals go_wp2
              all_goals
                go_roundw
                case rel =>
                  have hs1 : w.heap.size ≤ (wr.alloc (.cells #[.int .u8 2, .int .u8 xx.k, .int .i64 xx.n, .string (st xx.s), .string (st vx)] 38)).heap.size := by simp; omega
                  have hs2 : w.heap.size ≤ ((wr.alloc (.cells #[.int .u8 2, .int .u8 xx.k, .int .i64 xx.n, .string (st xx.s), .string (st vx)] 38)).alloc (.cells #[.int .u8 2] 5)).heap.size := by simp; omega
                  have hp0 : wr.ownsRow w.heap.size 3 1 (.slice (some ⟨g5, 0, none⟩) (m + 1) c5) (m + 1) ((nums P).take (m + 1)) := own_init HO.out (by omega)
                  have hp1 : w9.ownsRow w.heap.size 3 1 (.slice (some ⟨g5, 0, none⟩) (m + 1) c5) (m + 1) ((nums P).take (m + 1)) := World.ownsRow.kept (w := ((wr.alloc (.cells #[.int .u8 2, .int .u8 xx.k, .int .i64 xx.n, .string (st xx.s), .string (st vx)] 38)).alloc (.cells #[.int .u8 2] 5)).drew) ((hp0.alloc _).alloc _) HG9.out (own_apart (w := wr) hp0 HRW.out (by decide))
                  have hput := Ahd.put (((HA.out.alloc (.cells #[.int .u8 2, .int .u8 xx.k, .int .i64 xx.n, .string (st xx.s), .string (st vx)] 38)).alloc (.cells #[.int .u8 2] 5)).drew) (j := b) (g := g9) (cap := c9) (x := 2) (by omega) (by rw [HVB.out]; exact HG9.out) (by rw [← HNb.out]; exact HO9.out) (by rw [HVB.out]; exact HW9.out) (Nat.le_refl _)
                  rw [← HNb.out] at hput
                  refine ⟨i + 1, _, P.take (m + 1), _, by simp, by omega, ?_, hput, ?_, HI.out.init, ?_, ?_, HE2.out⟩
                  · rw [← nums_take, List.length_take, Nat.min_eq_left (by have := HM.out; simp [nums] at this; omega)]
                    exact hp1.kept (grown_set _ _ _ _) (own_apart hp1 HK9.out (by decide))
                  · exact ((((HB.out.alloc hsz _).alloc hs1 _).drew).grown HG9.out hs2 (fun k hk => (World.ownsRow.lt (w := ((wr.alloc (.cells #[.int .u8 2, .int .u8 xx.k, .int .i64 xx.n, .string (st xx.s), .string (st vx)] 38)).alloc (.cells #[.int .u8 2] 5)).drew) ((HRW.out.alloc _).alloc _) k hk).1)).setCell (p := ⟨w.heap.size, b, none⟩) (Nat.le_refl _) _
                  · rw [List.length_take]; have h1 := HPI.out; have h2 := HM.out; simp [nums] at h2; omega
                  · intro j
                    by_cases hj : b = j
                    · subst hj
                      have := HNI.out b
                      rw [getD_set_eq _ _ _ (by have := HA.out.lenA; omega), List.length_append]; simp; exact this
                    · rw [getD_set_ne _ _ _ hj]; exact Nat.le_succ_of_le (HNI.out j)
                case measure => simp [intOf]; omega
          · by_cases k3 : kx = 3
            · subst k3
              by_cases h2 : P.length < 2
              · have HN : Hid (∀ A s, headsE L 0 (List.replicate L.length []) [] ≠ some (A, [s])) := fun A' s' e => by rw [HE.out, headsE_few hlt HX.out (by simp) h2] at e; cases e
                have h2i : (P.length : Int) < 2 := by omega
                go_wp2
                refine bodyPost_ret (v := .tuple #[.slice none 0 0, .bool false]) (by simp [results, Tryz.results34, go_sem] <;> rfl) rfl ?_
                exact HdPost.no (HB.out.alloc hsz _) HN.out
              · have HK := headsE_op (A := A) (P := P) hlt HX.out (by simp) h2
                obtain ⟨m, hm⟩ : ∃ m, P.length = m + 2 := ⟨P.length - 2, by omega⟩
                obtain ⟨b, hbq⟩ : ∃ b, b = P.getD (P.length - 2) 0 := ⟨_, rfl⟩
                have hbi : b < i := by
                  have := HI.out (P.getD (P.length - 2) 0) (getD_memN P _ _ (by omega))
                  rw [hbq]; exact this
                have HE2 : Hid (headsE L 0 (List.replicate L.length []) [] = headsE (L.drop (i + 1)) (i + 1) (A.set b (A.getD b [] ++ [3])) (P.take (m + 1))) := by
                  have := HE.out.trans HK
                  rw [← hbq, show P.length - 1 = m + 1 by omega] at this
                  exact this
                obtain ⟨g5, c6, e5, hg5b, hg5l⟩ := HO.out.form (by omega)
                obtain ⟨rfl, -, rfl⟩ := Value.slice.inj e5
                have pm : wr.cell? ⟨g5, m, none⟩ = some (.int .i64 (b : Int)) := by
                  have := HO.out.cells (g := g5) rfl m _ (getD_nums P m (by omega))
                  rw [addr_add] at this
                  rw [this, hbq, show P.length - 2 = m by omega]
                have hPl : P.length ≤ 100000 := HPL.out
                have hc6 : (m : Int) + 1 ≤ c5 := by
                  rcases HO.out.2 with ⟨e, h0⟩ | ⟨g, cap, cur, e, _, _, hnc, _⟩
                  · omega
                  · obtain ⟨-, -, e3⟩ := Value.slice.inj e
                    omega
                have hc7 : (c5 : Int) ≤ 9223372036854775807 := by
                  rcases HO.out.2 with ⟨e, h0⟩ | ⟨g, cap, cur, e, _, _, hnc, hcm, _⟩
                  · omega
                  · obtain ⟨-, -, e3⟩ := Value.slice.inj e
                    unfold maxLen at hcm
                    omega
                have hrow := HA.out.rows b (by omega)
                obtain ⟨ab, cb, hvb⟩ : ∃ ab cb, vals.getD b nilS0 = .slice ab (A.getD b []).length cb := by
                  rcases hrow.2 with ⟨e, h0⟩ | ⟨g, cap, cur, e, -⟩
                  · exact ⟨none, 0, by rw [e, h0]⟩
                  · exact ⟨_, cap, e⟩
                have pa : wr.cell? ⟨w.heap.size, b, none⟩ = some (.slice ab (A.getD b []).length cb) := by
                  have := HA.out.own.cells (g := w.heap.size) rfl b (vals.getD b nilS0) (by rw [List.getD_eq_getElem?_getD, List.getElem?_eq_getElem (by have := HA.out.len; omega)]; rfl)
                  rw [addr_add] at this
                  rw [this, hvb]
                have hkl : w.heap.size < wr.heap.size := by obtain ⟨_, _, h⟩ := own_ty HA.out.own (g := w.heap.size) rfl; exact h
                have pf : wr.frozen? ⟨w.heap.size, b, none⟩ = false := by
                  obtain ⟨cur, h, _⟩ := own_ty HA.out.own (g := w.heap.size) rfl
                  exact Lib.frozen_of_heap h b
                obtain ⟨nb, hnb⟩ : ∃ nb, nb = (A.getD b []).length := ⟨_, rfl⟩
                have hnbl : nb ≤ 1000000 := by rw [hnb]; exact HNB.out b
                rw [← hnb] at pa hvb hrow
                have HNb : Hid (nb = (A.getD b []).length) := hnb
                have HVB : Hid (vals.getD b nilS0 = .slice ab nb cb) := hvb
                have HRW : Hid (wr.ownsRow w.heap.size 5 1 (.slice ab nb cb) nb ((A.getD b []).map (Value.int .u8))) := by rw [← hvb]; exact hrow
                have hbz : (b : Int) < L.length := by omega
                have HBQ : Hid (b = P.getD (P.length - 2) 0) := hbq
                have HH2 : Hid (¬ P.length < 2) := h2
                clear HK hbq hnb hrow hvb e5
                have HM : Hid ((nums P).length = m + 2) := by show (nums P).length = _; rw [← hm]; simp [nums]
                rw [hm] at *
                have n1 : ((m : Int) + 2 - 1).toNat = m + 1 := by omega
                clear hm h2
                go_wp2
                go_region_law (refine step_append_lies (P := Tryz.prog) _ (by rfl) _ _ 81 (by rfl) w.heap.size 5 i5 (.int .u8 0) 1 1 Tryz.underlying81 hi5 hz5 hz51 hz52 rfl (by decide) (.slice ab nb cb) nb ((A.getD b []).map (Value.int .u8)) (by rfl) ((HRW.out.alloc _).alloc _) ⟨_, 0, none⟩ 1 1 [.int .u8 3] (by rfl) (by rfl) (World.news_of_block (cs := #[.int .u8 3]) (t := 5) (fr := (0, 0)) (new_at (by simp))) (by simp [Value.oneCell']) (by decide) (by unfold maxLen; omega) (by omega) (by simp; omega) _ rfl ?_; intro g9 c9 w9 ho9 hg9 hw9 hlt9; have hq9 := (((HA.out.alloc (.cells #[.int .u8 3, .int .u8 xx.k, .int .i64 xx.n, .string (st xx.s), .string (st vx)] 38)).alloc (.cells #[.int .u8 3] 5)).drew).far (j := b) (b := b) (by omega) (by omega) (by rw [HVB.out]; exact hg9); obtain ⟨c91, c92, c93, c94⟩ := hq9; have HK9 : Hid (w9.ownsRow w.heap.size 81 1 (.slice (some ⟨w.heap.size, 0, none⟩) L.length L.length) L.length vals) := c94; clear c94; rw [HVB.out] at c91; have HO9 : Hid (w9.ownsRow w.heap.size 5 1 (.slice (some ⟨g9, 0, none⟩) (nb + 1) c9) (nb + 1) ((A.getD b []).map (Value.int .u8) ++ [.int .u8 3])) := ho9; have HG9 : Hid (World.grownBy _ w9 _) := hg9; have HW9 : Hid (_ ∨ _) := hw9; clear ho9 hg9 hw9)
                all_goals go_wp2
                all_goals
                  go_roundw
                  case rel =>
                    have hs1 : w.heap.size ≤ (wr.alloc (.cells #[.int .u8 3, .int .u8 xx.k, .int .i64 xx.n, .string (st xx.s), .string (st vx)] 38)).heap.size := by simp; omega
                    have hs2 : w.heap.size ≤ ((wr.alloc (.cells #[.int .u8 3, .int .u8 xx.k, .int .i64 xx.n, .string (st xx.s), .string (st vx)] 38)).alloc (.cells #[.int .u8 3] 5)).heap.size := by simp; omega
                    have hp0 : wr.ownsRow w.heap.size 3 1 (.slice (some ⟨g5, 0, none⟩) (m + 1) c5) (m + 1) ((nums P).take (m + 1)) := own_init HO.out (by omega)
                    have hp1 : w9.ownsRow w.heap.size 3 1 (.slice (some ⟨g5, 0, none⟩) (m + 1) c5) (m + 1) ((nums P).take (m + 1)) := World.ownsRow.kept (w := ((wr.alloc (.cells #[.int .u8 3, .int .u8 xx.k, .int .i64 xx.n, .string (st xx.s), .string (st vx)] 38)).alloc (.cells #[.int .u8 3] 5)).drew) ((hp0.alloc _).alloc _) HG9.out (own_apart (w := wr) hp0 HRW.out (by decide))
                    have hput := Ahd.put (((HA.out.alloc (.cells #[.int .u8 3, .int .u8 xx.k, .int .i64 xx.n, .string (st xx.s), .string (st vx)] 38)).alloc (.cells #[.int .u8 3] 5)).drew) (j := b) (g := g9) (cap := c9) (x := 3) (by omega) (by rw [HVB.out]; exact HG9.out) (by rw [← HNb.out]; exact HO9.out) (by rw [HVB.out]; exact HW9.out) (Nat.le_refl _)
                    rw [← HNb.out] at hput
                    refine ⟨i + 1, _, P.take (m + 1), _, by simp, by omega, ?_, hput, ?_, HI.out.init, ?_, ?_, HE2.out⟩
                    · rw [← nums_take, List.length_take, Nat.min_eq_left (by have := HM.out; simp [nums] at this; omega)]
                      exact hp1.kept (grown_set _ _ _ _) (own_apart hp1 HK9.out (by decide))
                    · exact ((((HB.out.alloc hsz _).alloc hs1 _).drew).grown HG9.out hs2 (fun k hk => (World.ownsRow.lt (w := ((wr.alloc (.cells #[.int .u8 3, .int .u8 xx.k, .int .i64 xx.n, .string (st xx.s), .string (st vx)] 38)).alloc (.cells #[.int .u8 3] 5)).drew) ((HRW.out.alloc _).alloc _) k hk).1)).setCell (p := ⟨w.heap.size, b, none⟩) (Nat.le_refl _) _
                    · rw [List.length_take]; have h1 := HPI.out; have h2 := HM.out; simp [nums] at h2; omega
                    · intro j
                      by_cases hj : b = j
                      · subst hj
                        have := HNI.out b
                        rw [getD_set_eq _ _ _ (by have := HA.out.lenA; omega), List.length_append]; simp; exact this
                      · rw [getD_set_ne _ _ _ hj]; exact Nat.le_succ_of_le (HNI.out j)
                  case measure => simp [intOf]; omega
            · by_cases k4 : kx = 4
              · subst k4
                by_cases h2 : P.length < 2
                · have HN : Hid (∀ A s, headsE L 0 (List.replicate L.length []) [] ≠ some (A, [s])) := fun A' s' e => by rw [HE.out, headsE_few hlt HX.out (by simp) h2] at e; cases e
                  have h2i : (P.length : Int) < 2 := by omega
                  go_wp2
                  refine bodyPost_ret (v := .tuple #[.slice none 0 0, .bool false]) (by simp [results, Tryz.results34, go_sem] <;> rfl) rfl ?_
                  exact HdPost.no (HB.out.alloc hsz _) HN.out
                · have HK := headsE_op (A := A) (P := P) hlt HX.out (by simp) h2
                  obtain ⟨m, hm⟩ : ∃ m, P.length = m + 2 := ⟨P.length - 2, by omega⟩
                  obtain ⟨b, hbq⟩ : ∃ b, b = P.getD (P.length - 2) 0 := ⟨_, rfl⟩
                  have hbi : b < i := by
                    have := HI.out (P.getD (P.length - 2) 0) (getD_memN P _ _ (by omega))
                    rw [hbq]; exact this
                  have HE2 : Hid (headsE L 0 (List.replicate L.length []) [] = headsE (L.drop (i + 1)) (i + 1) (A.set b (A.getD b [] ++ [4])) (P.take (m + 1))) := by
                    have := HE.out.trans HK
                    rw [← hbq, show P.length - 1 = m + 1 by omega] at this
                    exact this
                  obtain ⟨g5, c6, e5, hg5b, hg5l⟩ := HO.out.form (by omega)
                  obtain ⟨rfl, -, rfl⟩ := Value.slice.inj e5
                  have pm : wr.cell? ⟨g5, m, none⟩ = some (.int .i64 (b : Int)) := by
                    have := HO.out.cells (g := g5) rfl m _ (getD_nums P m (by omega))
                    rw [addr_add] at this
                    rw [this, hbq, show P.length - 2 = m by omega]
                  have hPl : P.length ≤ 100000 := HPL.out
                  have hc6 : (m : Int) + 1 ≤ c5 := by
                    rcases HO.out.2 with ⟨e, h0⟩ | ⟨g, cap, cur, e, _, _, hnc, _⟩
                    · omega
                    · obtain ⟨-, -, e3⟩ := Value.slice.inj e
                      omega
                  have hc7 : (c5 : Int) ≤ 9223372036854775807 := by
                    rcases HO.out.2 with ⟨e, h0⟩ | ⟨g, cap, cur, e, _, _, hnc, hcm, _⟩
                    · omega
                    · obtain ⟨-, -, e3⟩ := Value.slice.inj e
                      unfold maxLen at hcm
                      omega
                  have hrow := HA.out.rows b (by omega)
                  obtain ⟨ab, cb, hvb⟩ : ∃ ab cb, vals.getD b nilS0 = .slice ab (A.getD b []).length cb := by
                    rcases hrow.2 with ⟨e, h0⟩ | ⟨g, cap, cur, e, -⟩
                    · exact ⟨none, 0, by rw [e, h0]⟩
                    · exact ⟨_, cap, e⟩
                  have pa : wr.cell? ⟨w.heap.size, b, none⟩ = some (.slice ab (A.getD b []).length cb) := by
                    have := HA.out.own.cells (g := w.heap.size) rfl b (vals.getD b nilS0) (by rw [List.getD_eq_getElem?_getD, List.getElem?_eq_getElem (by have := HA.out.len; omega)]; rfl)
                    rw [addr_add] at this
                    rw [this, hvb]
                  have hkl : w.heap.size < wr.heap.size := by obtain ⟨_, _, h⟩ := own_ty HA.out.own (g := w.heap.size) rfl; exact h
                  have pf : wr.frozen? ⟨w.heap.size, b, none⟩ = false := by
                    obtain ⟨cur, h, _⟩ := own_ty HA.out.own (g := w.heap.size) rfl
                    exact Lib.frozen_of_heap h b
                  obtain ⟨nb, hnb⟩ : ∃ nb, nb = (A.getD b []).length := ⟨_, rfl⟩
                  have hnbl : nb ≤ 1000000 := by rw [hnb]; exact HNB.out b
                  rw [← hnb] at pa hvb hrow
                  have HNb : Hid (nb = (A.getD b []).length) := hnb
                  have HVB : Hid (vals.getD b nilS0 = .slice ab nb cb) := hvb
                  have HRW : Hid (wr.ownsRow w.heap.size 5 1 (.slice ab nb cb) nb ((A.getD b []).map (Value.int .u8))) := by rw [← hvb]; exact hrow
                  have hbz : (b : Int) < L.length := by omega
                  have HBQ : Hid (b = P.getD (P.length - 2) 0) := hbq
                  have HH2 : Hid (¬ P.length < 2) := h2
                  clear HK hbq hnb hrow hvb e5
                  have HM : Hid ((nums P).length = m + 2) := by show (nums P).length = _; rw [← hm]; simp [nums]
                  rw [hm] at *
                  have n1 : ((m : Int) + 2 - 1).toNat = m + 1 := by omega
                  clear hm h2
                  go_wp2
                  go_region_law (refine step_append_lies (P := Tryz.prog) _ (by rfl) _ _ 81 (by rfl) w.heap.size 5 i5 (.int .u8 0) 1 1 Tryz.underlying81 hi5 hz5 hz51 hz52 rfl (by decide) (.slice ab nb cb) nb ((A.getD b []).map (Value.int .u8)) (by rfl) ((HRW.out.alloc _).alloc _) ⟨_, 0, none⟩ 1 1 [.int .u8 4] (by rfl) (by rfl) (World.news_of_block (cs := #[.int .u8 4]) (t := 5) (fr := (0, 0)) (new_at (by simp))) (by simp [Value.oneCell']) (by decide) (by unfold maxLen; omega) (by omega) (by simp; omega) _ rfl ?_; intro g9 c9 w9 ho9 hg9 hw9 hlt9; have hq9 := (((HA.out.alloc (.cells #[.int .u8 4, .int .u8 xx.k, .int .i64 xx.n, .string (st xx.s), .string (st vx)] 38)).alloc (.cells #[.int .u8 4] 5)).drew).far (j := b) (b := b) (by omega) (by omega) (by rw [HVB.out]; exact hg9); obtain ⟨c91, c92, c93, c94⟩ := hq9; have HK9 : Hid (w9.ownsRow w.heap.size 81 1 (.slice (some ⟨w.heap.size, 0, none⟩) L.length L.length) L.length vals) := c94; clear c94; rw [HVB.out] at c91; have HO9 : Hid (w9.ownsRow w.heap.size 5 1 (.slice (some ⟨g9, 0, none⟩) (nb + 1) c9) (nb + 1) ((A.getD b []).map (Value.int .u8) ++ [.int .u8 4])) := ho9; have HG9 : Hid (World.grownBy _ w9 _) := hg9; have HW9 : Hid (_ ∨ _) := hw9; clear ho9 hg9 hw9)
                  all_goals go_wp2
                  all_goals
                    go_roundw
                    case rel =>
                      have hs1 : w.heap.size ≤ (wr.alloc (.cells #[.int .u8 4, .int .u8 xx.k, .int .i64 xx.n, .string (st xx.s), .string (st vx)] 38)).heap.size := by simp; omega
                      have hs2 : w.heap.size ≤ ((wr.alloc (.cells #[.int .u8 4, .int .u8 xx.k, .int .i64 xx.n, .string (st xx.s), .string (st vx)] 38)).alloc (.cells #[.int .u8 4] 5)).heap.size := by simp; omega
                      have hp0 : wr.ownsRow w.heap.size 3 1 (.slice (some ⟨g5, 0, none⟩) (m + 1) c5) (m + 1) ((nums P).take (m + 1)) := own_init HO.out (by omega)
                      have hp1 : w9.ownsRow w.heap.size 3 1 (.slice (some ⟨g5, 0, none⟩) (m + 1) c5) (m + 1) ((nums P).take (m + 1)) := World.ownsRow.kept (w := ((wr.alloc (.cells #[.int .u8 4, .int .u8 xx.k, .int .i64 xx.n, .string (st xx.s), .string (st vx)] 38)).alloc (.cells #[.int .u8 4] 5)).drew) ((hp0.alloc _).alloc _) HG9.out (own_apart (w := wr) hp0 HRW.out (by decide))
                      have hput := Ahd.put (((HA.out.alloc (.cells #[.int .u8 4, .int .u8 xx.k, .int .i64 xx.n, .string (st xx.s), .string (st vx)] 38)).alloc (.cells #[.int .u8 4] 5)).drew) (j := b) (g := g9) (cap := c9) (x := 4) (by omega) (by rw [HVB.out]; exact HG9.out) (by rw [← HNb.out]; exact HO9.out) (by rw [HVB.out]; exact HW9.out) (Nat.le_refl _)
                      rw [← HNb.out] at hput
                      refine ⟨i + 1, _, P.take (m + 1), _, by simp, by omega, ?_, hput, ?_, HI.out.init, ?_, ?_, HE2.out⟩
                      · rw [← nums_take, List.length_take, Nat.min_eq_left (by have := HM.out; simp [nums] at this; omega)]
                        exact hp1.kept (grown_set _ _ _ _) (own_apart hp1 HK9.out (by decide))
                      · exact ((((HB.out.alloc hsz _).alloc hs1 _).drew).grown HG9.out hs2 (fun k hk => (World.ownsRow.lt (w := ((wr.alloc (.cells #[.int .u8 4, .int .u8 xx.k, .int .i64 xx.n, .string (st xx.s), .string (st vx)] 38)).alloc (.cells #[.int .u8 4] 5)).drew) ((HRW.out.alloc _).alloc _) k hk).1)).setCell (p := ⟨w.heap.size, b, none⟩) (Nat.le_refl _) _
                      · rw [List.length_take]; have h1 := HPI.out; have h2 := HM.out; simp [nums] at h2; omega
                      · intro j
                        by_cases hj : b = j
                        · subst hj
                          have := HNI.out b
                          rw [getD_set_eq _ _ _ (by have := HA.out.lenA; omega), List.length_append]; simp; exact this
                        · rw [getD_set_ne _ _ _ hj]; exact Nat.le_succ_of_le (HNI.out j)
                    case measure => simp [intOf]; omega
              · have HN : Hid (∀ A s, headsE L 0 (List.replicate L.length []) [] ≠ some (A, [s])) := fun A' s' e => by rw [HE.out, headsE_no hlt HX.out (by simp; omega) (by simp; omega)] at e; cases e
                go_wp2
                refine bodyPost_ret (v := .tuple #[.slice none 0 0, .bool false]) (by simp [results, Tryz.results34, go_sem] <;> rfl) rfl ?_
                exact HdPost.no (HB.out.alloc hsz _) HN.out
    · have hiz : ¬ (i : Int) < L.length := by omega
      obtain rfl : i = L.length := by omega
      have HEN : Hid (headsE L 0 (List.replicate L.length []) [] = some (A, P)) := by have := HE.out; rw [List.drop_length] at this; exact this
      by_cases h1 : P.length = 1
      · obtain ⟨s, hs⟩ := List.length_eq_one_iff.1 h1
        have hp1 : (P.length : Int) = 1 := by omega
        have HS : Hid (P = [s]) := hs
        have H1 : Hid (P.length = 1) := h1
        clear hs h1
        go_wp2
        refine bodyPost_ret (v := .tuple #[.slice (some ⟨w.heap.size, 0, none⟩) L.length L.length, .bool true]) (by simp [results, Tryz.results34, go_sem, hp1] <;> rfl) rfl ?_
        exact HdPost.yes HB.out (by rw [HEN.out, HS.out]) HA.out
      · have hp1 : ¬ (P.length : Int) = 1 := by omega
        have HN : Hid (∀ A s, headsE L 0 (List.replicate L.length []) [] ≠ some (A, [s])) := fun A' s' e => by rw [HEN.out] at e; cases e; exact h1 rfl
        clear h1
        go_wp2
        refine bodyPost_ret (v := .tuple #[.slice (some ⟨w.heap.size, 0, none⟩) L.length L.length, .bool false]) (by simp [results, Tryz.results34, go_sem, hp1] <;> rfl) rfl ?_
        exact HdPost.no HB.out HN.out
end Go.Proofs.YtemacdimdpnkeaaGreatDoor
