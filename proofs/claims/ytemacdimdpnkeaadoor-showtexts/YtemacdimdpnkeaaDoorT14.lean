import Derived.Test.YtemacdimdpnkeaaDoorT2
import Derived.Test.YtemacdimdpnkeaaDoorT11
import Derived.Deep.AppendLies
import Derived.Laws.OwnMore
import Derived.Laws.MakeOwn
namespace Go.Proofs.YtemacdimdpnkeaaDoor
open Go.RowKit
set_option linter.unusedVariables false
set_option linter.unusedSimpArgs false
set_option maxRecDepth 20000
theorem infoRow81 : (Tryd.prog.info? 81).map (fun i => (i.zero, i.size, i.bytes)) = some (some (.slice none 0 0), 1, 24) := by kernel_rfl
theorem infoInt3 : (Tryd.prog.info? 3).map (fun i => (i.zero, i.size, i.bytes)) = some (some (.int .i64 0), 1, 8) := by kernel_rfl
abbrev nilS0 : Value := .slice none 0 0
theorem own_ty {w : World} {B : Nat} {e : TypeId} {v : Value} {n : Nat} {xs : List Value} (h : w.ownsRow B e 1 v n xs) {g : Nat} (hg : v.ownBlock = some g) : ∃ cur, w.heap[g]? = some (.cells cur e (0, 0)) ∧ g < w.heap.size := by
  rcases h.2 with ⟨rfl, _⟩ | ⟨g', cap, cur, rfl, _, hgg, _⟩
  · simp [Value.ownBlock] at hg
  · have : g' = g := by simpa [Value.ownBlock] using hg
    subst this
    refine ⟨cur, hgg, ?_⟩
    rcases Nat.lt_or_ge g' w.heap.size with h' | h'
    · exact h'
    · simp [Array.getElem?_eq_none h'] at hgg
theorem own_far {w w' : World} {B : Nat} {e : TypeId} {v : Value} {n : Nat} {xs : List Value} (h : w.ownsRow B e 1 v n xs) {r : Nat} (hg : w.grownBy w' (some r)) (hr : ∀ cur, w.heap[r]? ≠ some (.cells cur e (0, 0))) : w'.ownsRow B e 1 v n xs :=
  h.kept hg (.inr fun e => by obtain ⟨cur, h1, -⟩ := own_ty h e; exact hr cur h1)
structure Ahd (w : World) (B k n : Nat) (vals : List Value) (A : List (List Int)) : Prop where
  own : w.ownsRow B 81 1 (.slice (some ⟨k, 0, none⟩) n n) n vals
  lenA : A.length = n
  rows : ∀ j, j < n → w.ownsRow B 5 1 (vals.getD j nilS0) (A.getD j []).length ((A.getD j []).map (Value.int .u8))
  apart : ∀ i j g, i < n → j < n → i ≠ j → (vals.getD i nilS0).ownBlock = some g → (vals.getD j nilS0).ownBlock ≠ some g
theorem Ahd.len {w : World} {B k n : Nat} {vals : List Value} {A : List (List Int)} (h : Ahd w B k n vals A) : vals.length = n := by simpa using h.own.1
theorem Ahd.kept {w w' : World} {B k n : Nat} {vals : List Value} {A : List (List Int)} (h : Ahd w B k n vals A) {row : Option Nat} (hg : w.grownBy w' row) (hr : ∀ r, row = some r → ∃ cur e fz, w.heap[r]? = some (.cells cur e fz) ∧ e ≠ 81 ∧ e ≠ 5) : Ahd w' B k n vals A := by
  have far : ∀ {v : Value} {m : Nat} {xs : List Value} {e : TypeId}, (e = 81 ∨ e = 5) → w.ownsRow B e 1 v m xs → w'.ownsRow B e 1 v m xs := by
    intro v m xs e he ho
    refine ho.kept hg ?_
    cases hv : v.ownBlock with
    | none => exact .inl rfl
    | some g =>
      refine .inr fun er => ?_
      obtain ⟨cur, e', fz, h1, h2, h3⟩ := hr g er.symm
      obtain ⟨cur', h4, -⟩ := own_ty ho hv
      rw [h4] at h1
      have := (Obj.cells.inj (Option.some.inj h1)).2.1
      rcases he with rfl | rfl
      · exact h2 this.symm
      · exact h3 this.symm
  exact ⟨far (.inl rfl) h.own, h.lenA, fun j hj => far (.inr rfl) (h.rows j hj), h.apart⟩
theorem getD_set_ne {α : Type} (l : List α) {i j : Nat} (x d : α) (h : i ≠ j) : (l.set i x).getD j d = l.getD j d := by
  rw [List.getD_eq_getElem?_getD, List.getElem?_set_ne h, ← List.getD_eq_getElem?_getD]
theorem getD_set_eq {α : Type} (l : List α) {i : Nat} (x d : α) (h : i < l.length) : (l.set i x).getD i d = x := by
  rw [List.getD_eq_getElem?_getD, List.getElem?_set_self h]; rfl
theorem grown_set (w : World) (b j : Nat) (u : Value) : w.grownBy (w.setCell ⟨b, j, none⟩ u) (some b) :=
  ⟨rfl, rfl, rfl, by simp [World.setCell], fun k _ hk => Below.heap_setCell _ _ _ _ (fun e => hk (by simp [e]))⟩
theorem Ahd.put {w w1 : World} {B k n j g cap H : Nat} {vals : List Value} {A : List (List Int)} {x : Int} (h : Ahd w B k n vals A) (hj : j < n) (hg : w.grownBy w1 (vals.getD j nilS0).ownBlock)
    (ho : w1.ownsRow B 5 1 (.slice (some ⟨g, 0, none⟩) ((A.getD j []).length + 1) cap) ((A.getD j []).length + 1) ((A.getD j []).map (Value.int .u8) ++ [.int .u8 x])) (hw : (vals.getD j nilS0).ownBlock = some g ∨ g = H) (hH : w.heap.size ≤ H) :
    Ahd (w1.setCell ⟨k, j, none⟩ (.slice (some ⟨g, 0, none⟩) ((A.getD j []).length + 1) cap)) B k n (vals.set j (.slice (some ⟨g, 0, none⟩) ((A.getD j []).length + 1) cap)) (A.set j (A.getD j [] ++ [x])) := by
  have hlv := h.len
  obtain ⟨ck, hk0, hk1⟩ := own_ty h.own (g := k) rfl
  have hkr : (Value.slice (some ⟨k, 0, none⟩) n n).ownBlock ≠ (vals.getD j nilS0).ownBlock := by
    intro e
    obtain ⟨c5, h5, -⟩ := own_ty (h.rows j hj) (g := k) e.symm
    rw [hk0] at h5
    exact absurd (Obj.cells.inj (Option.some.inj h5)).2.1 (by decide)
  have own1 := h.own.kept hg (.inr hkr)
  obtain ⟨own2, hg2⟩ := own1.stored j (.slice (some ⟨g, 0, none⟩) ((A.getD j []).length + 1) cap)
  obtain ⟨ck1, hk2, -⟩ := own_ty own1 (g := k) rfl
  have far : ∀ {v : Value} {m : Nat} {xs : List Value}, w1.ownsRow B 5 1 v m xs → (w1.setCell ⟨k, j, none⟩ (.slice (some ⟨g, 0, none⟩) ((A.getD j []).length + 1) cap)).ownsRow B 5 1 v m xs := fun ho' =>
    own_far ho' hg2 fun cur e => by rw [hk2] at e; exact absurd (Obj.cells.inj (Option.some.inj e)).2.1 (by decide)
  have hnew : ∀ i g', i < n → i ≠ j → (vals.getD i nilS0).ownBlock = some g' → g ≠ g' := by
    intro i g' hi hij hv e
    subst e
    rcases hw with hw | hw
    · exact h.apart i j g hi hj hij hv hw
    · have := (own_ty (h.rows i hi) hv)
      obtain ⟨_, _, hlt⟩ := this
      omega
  refine ⟨own2, by rw [List.length_set]; exact h.lenA, fun i hi => ?_, fun i i' g' hi hi' hne hv => ?_⟩
  · by_cases hij : i = j
    · subst hij
      rw [getD_set_eq _ _ _ (by omega), getD_set_eq _ _ _ (by have := h.lenA; omega), List.length_append, List.map_append]
      exact far ho
    · rw [getD_set_ne _ _ _ (fun e => hij e.symm), getD_set_ne _ _ _ (fun e => hij e.symm)]
      refine far ((h.rows i hi).kept hg ?_)
      cases hv : (vals.getD i nilS0).ownBlock with
      | none => exact .inl rfl
      | some g' => exact .inr fun e => h.apart i j g' hi hj hij hv e.symm
  · by_cases hij : i = j
    · subst hij
      rw [getD_set_eq _ _ _ (by omega)] at hv
      rw [getD_set_ne _ _ _ hne]
      have : g = g' := by simpa [Value.ownBlock] using hv
      subst this
      intro e
      exact hnew i' g hi' (fun e => hne e.symm) e rfl
    · rw [getD_set_ne _ _ _ (fun e => hij e.symm)] at hv
      by_cases hij' : i' = j
      · subst hij'
        rw [getD_set_eq _ _ _ (by omega)]
        intro e
        have : g = g' := by simpa [Value.ownBlock] using e
        exact hnew i g' hi hij hv this
      · rw [getD_set_ne _ _ _ (fun e => hij' e.symm)]
        exact h.apart i i' g' hi hi' hne hv
theorem wp_make91 {ops : Array Oper} {rest : List Oper} {o : Oper} {a : Act} {w : World} {Q : Exit → Act → World → Prop} (hgd : o.guard = none) (x y : Operand) (ho : o.op = .makeSlice 91 x y) (n : Nat) (hn : n ≤ 1000000) (hx : a.eval x = .int .i64 n) (hy : a.eval y = .int .i64 n)
    (h : ∀ w', Ahd w' w.heap.size w.heap.size n (List.replicate n nilS0) (List.replicate n []) → Below w.heap.size w w' → w'.heap.size = w.heap.size + 1 → wpList Tryd.prog ops Q rest (a.put o.dst (.slice (some ⟨w.heap.size, 0, none⟩) n n)) w') : wpList Tryd.prog ops Q (o :: rest) a w := by
  obtain ⟨i0, hi, hz0, hz1, hz2⟩ := info_parts infoRow81
  have hrun := run_makeSlice (P := Tryd.prog) w 91 81 i0 nilS0 Tryd.underlying91 hi hz0 .i64 .i64 n n (by omega) (by omega) (by rw [hz1]; simp; omega) (by rw [hz2]; omega) (by omega)
  refine wpList_plain hgd fun K hK => ?_
  unfold Oper.wp
  rw [hz1, Int.toNat_natCast, Nat.mul_one] at hrun
  simp only [execOp, ho, hx, hy, Sem.run_bind, hrun, Result.andThen, Sem.run_pure]
  refine hK _ _ (h _ ?_ ((Below.refl _ _).alloc (Nat.le_refl _) _) (by simp))
  have := World.ownsRow_lit (base := w.heap.size) (e := 81) (size := 1) w (madeCells nilS0.cells n) n (Nat.le_refl _) (by unfold maxLen; omega) (by rw [size_madeCells]; omega)
  have e : (madeCells nilS0.cells n).toList = List.replicate n nilS0 := toList_madeCells_one _ n
  rw [e] at this
  have g1 : ∀ j, (List.replicate n nilS0).getD j nilS0 = nilS0 := fun j => by
    rw [List.getD_eq_getElem?_getD, List.getElem?_replicate]; split <;> rfl
  have g2 : ∀ j, (List.replicate n ([] : List Int)).getD j [] = [] := fun j => by
    rw [List.getD_eq_getElem?_getD, List.getElem?_replicate]; split <;> rfl
  refine ⟨this, by simp, fun j hj => ?_, fun i j g hi hj hne hv => ?_⟩
  · rw [g1, g2]; exact ⟨rfl, .inl ⟨rfl, rfl⟩⟩
  · rw [g1] at hv; simp [Value.ownBlock] at hv
theorem own_init {w : World} {B n c : Nat} {a : Option Addr} {xs : List Value} (h : w.ownsRow B 3 1 (.slice a n c) n xs) (hn : 1 ≤ n) : w.ownsRow B 3 1 (.slice a (n - 1) c) (n - 1) (xs.take (n - 1)) := by
  obtain ⟨h1, h2⟩ := h
  refine ⟨by rw [List.length_take]; omega, ?_⟩
  rcases h2 with ⟨e, h0⟩ | ⟨g, cap, cur, e, hb, hg, hnc, hcm, hcs, ht⟩
  · omega
  · obtain ⟨rfl, -, rfl⟩ := Value.slice.inj e
    refine .inr ⟨g, c, cur, rfl, hb, hg, by omega, hcm, hcs, ?_⟩
    rw [← ht, List.take_take]; congr 1; omega
abbrev nums (P : List Nat) : List Value := P.map fun (s : Nat) => Value.int .i64 (s : Int)
end Go.Proofs.YtemacdimdpnkeaaDoor
