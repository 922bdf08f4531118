/- Rows of names of a call's own; append, Grow, Concat, Clone, Index; all of a row added. -/
import Derived.Test.YtpmhilaochfpaaaDoorNm
import Derived.Laws.OwnMore
import Derived.Laws.AppendOwn
import Derived.Lib.AppendZeros
import Derived.Laws.AppendOwnNone
import Derived.Lib.SliceRun
import Derived.Lib.Bytes
namespace Go.Proofs.YtpmhilaochfpaaaDoor
set_option maxRecDepth 20000
set_option maxRecDepth 20000
open Go.RowKit
open Go.WideShapes (add_plain)
set_option linter.unusedVariables false
set_option linter.unusedSimpArgs false
set_option maxRecDepth 20000

theorem Tryd.info9s : (Tryd.prog.info? 9).map (fun i => (i.zero, i.size, i.bytes)) = some (some (.string ⟨#[]⟩), 1, 16) := by kernel_rfl
def vS (s : Str) : Value := .string (st s)
/-- A slice of names of the call's own. -/
def OwnS (w : World) (base : Nat) (v : Value) (ss : List Str) : Prop := w.ownsRow base 9 1 v ss.length (ss.map vS)
theorem OwnS.nil (w : World) (base : Nat) : OwnS w base (.slice none 0 0) [] := World.ownsRow_nil w base _ 1
theorem OwnS.shape {w : World} {base : Nat} {v : Value} {ss : List Str} (h : OwnS w base v ss) : ∃ a cap, v = .slice a ss.length cap := by
  rcases h.2 with ⟨rfl, h0⟩ | ⟨g, cap, cur, rfl, _⟩
  · exact ⟨none, 0, by rw [h0]⟩
  · exact ⟨_, cap, rfl⟩
theorem OwnS.move {w w' : World} {base : Nat} {v : Value} {ss : List Str} (h : OwnS w base v ss) (hb : ∀ g, base ≤ g → g < w.heap.size → w'.heap[g]? = w.heap[g]?) : OwnS w' base v ss := by
  obtain ⟨h1, h2⟩ := h
  refine ⟨h1, ?_⟩
  rcases h2 with h2 | ⟨g, cap, cur, e, hg, hc, h3⟩
  · exact .inl h2
  · exact .inr ⟨g, cap, cur, e, hg, (hb g hg (Array.getElem?_eq_some_iff.1 hc).1).trans hc, h3⟩
theorem OwnS.below {w w' : World} {base : Nat} {v : Value} {ss : List Str} (h : OwnS w base v ss) (hf : Below w.heap.size w w') : OwnS w' base v ss := h.move fun g _ h2 => hf.block g h2
theorem OwnS.grow {w w' : World} {base g : Nat} {v : Value} {ss : List Str} (h : OwnS w base v ss) (hg : w.grownBy w' (some g)) (hk : g < base) : OwnS w' base v ss := h.move fun k hk' hl => hg.block k hl (by simp; omega)
/-- A map is not a row. -/
theorem OwnS.map {w w' : World} {base b n : Nat} {v : Value} {ss zs : List Str} (h : OwnS w base v ss) (hm : NS w b n zs) (hg : w.grownBy w' (some b)) : OwnS w' base v ss := by
  obtain ⟨h1, h2⟩ := h
  refine ⟨h1, ?_⟩
  rcases h2 with h2 | ⟨g, cap, cur, e, hgb, hc, h3⟩
  · exact .inl h2
  · refine .inr ⟨g, cap, cur, e, hgb, (hg.block g (Array.getElem?_eq_some_iff.1 hc).1 ?_).trans hc, h3⟩
    obtain ⟨D, ⟨es, clock, hb, _⟩, _⟩ := hm
    intro e2
    obtain rfl := Option.some.inj e2
    rw [hb] at hc; cases hc
theorem OwnS.mono {w : World} {base b : Nat} {v : Value} {ss : List Str} (h : OwnS w base v ss) (hb : b ≤ base) : OwnS w b v ss := by
  obtain ⟨h1, h2⟩ := h
  refine ⟨h1, ?_⟩
  rcases h2 with h2 | ⟨g, cap, cur, e, hg, h3⟩
  · exact .inl h2
  · exact .inr ⟨g, cap, cur, e, Nat.le_trans hb hg, h3⟩
theorem maxlen_int : maxLen ≤ 9223372036854775807 := by unfold maxLen; omega
/-- Its elements. -/
theorem OwnS.sl {w : World} {base : Nat} {v : Value} {ss : List Str} (h : OwnS w base v ss) : SlW 1 w (fun b => base ≤ b) v (ss.map clS) := by
  rcases h.2 with ⟨rfl, h0⟩ | ⟨g, cap, cur, rfl, hg, hc, hn, hm, hs, ht⟩
  · obtain rfl := List.length_eq_zero_iff.1 h0
    exact ⟨none, 0, rfl, Nat.le_refl _, by omega, .inl rfl⟩
  · refine ⟨_, cap, by rw [List.length_map], by simpa using hn, Nat.le_trans hm maxlen_int, .inr ⟨g, 0, rfl, (Array.getElem?_eq_some_iff.1 hc).1, hg, fun i j hi hj => ?_⟩⟩
    have hj0 : j = 0 := by omega
    subst hj0
    simp only [List.length_map] at hi
    have h1 : cur.toList[i]? = some (vS (ss.getD i [])) := by
      have : (cur.toList.take (ss.length * 1))[i]? = (ss.map vS)[i]? := by rw [ht]
      rw [List.getElem?_take_of_lt (by omega), List.getElem?_map, List.getElem?_eq_getElem hi] at this
      rw [this, List.getD_eq_getElem?_getD, List.getElem?_eq_getElem hi]; rfl
    rw [getD_map clS ss i [] hi]
    simp only [World.cell?, hc, Nat.zero_add, Nat.mul_one, Nat.add_zero]
    show _ = some (vS (ss.getD i []))
    rw [← h1]
    simp
theorem SlW.app {w : World} {P : Nat → Prop} {a : Addr} {m cap : Nat} {ss : List Str} (h : SlW 1 w P (.slice (some a) m cap) (ss.map clS)) : ∀ j u, (ss.map vS)[j]? = some u → w.cell? (a.add j) = some u := by
  intro j u hu
  obtain ⟨a', cap', h1, h2, h3, h4⟩ := h
  obtain ⟨rfl, rfl, rfl⟩ := Value.slice.inj h1
  rw [List.getElem?_map] at hu
  obtain ⟨x, hx, rfl⟩ := Option.map_eq_some_iff.1 hu
  have hj := (List.getElem?_eq_some_iff.1 hx).1
  rcases h4 with h4 | ⟨b, off, e, hb, hp, hc⟩
  · rw [List.map_eq_nil_iff] at h4; subst h4; simp at hj
  · obtain rfl := Option.some.inj e
    have := hc j 0 (by simpa using hj) (by omega)
    rw [getD_map clS ss j [] hj, Nat.mul_one, Nat.add_zero] at this
    rw [add_plain, this, List.getD_eq_getElem?_getD, hx]; rfl
theorem wp_app_ss {ops : Array Oper} {rest : List Oper} {o : Oper} {a : Act} {Q : Exit → Act → World → Prop} {w : World} (hgd : o.guard = none) (s x : Operand)
    (ho : o.op = .call { callee := .builtin .append, args := #[s, x], argTypes := #[48, 48] }) (base : Nat) (v : Value) (ss l : List Str) (hs : a.eval s = v) (hown : OwnS w base v ss)
    {P : Nat → Prop} (vx : Value) (hx : a.eval x = vx) (hv : SlW 1 w P vx (l.map clS)) (hlen : ss.length + l.length ≤ 1000000) (hbase : base ≤ w.heap.size)
    (h : ∀ v' w', OwnS w' base v' (ss ++ l) → w.grownBy w' v.ownBlock → Below base w w' → wpList Tryd.prog ops Q rest (a.put o.dst v') w') : wpList Tryd.prog ops Q (o :: rest) a w := by
  obtain ⟨i0, hi, hz0, hz1, hz2⟩ := info_parts Tryd.info9s
  have hv' := hv
  obtain ⟨ax, cap, rfl, h2, h3, h4⟩ := hv'
  rw [List.length_map] at *
  cases ax with
  | none =>
    obtain rfl : l = [] := by
      rcases h4 with h4 | ⟨b, off, e, _⟩
      · exact List.map_eq_nil_iff.1 h4
      · cases e
    have hrun : (Builtin.append_ #[48, 48] o.type #[v, .slice none 0 cap]).run Tryd.prog w = .ok v w := by
      rcases hown.2 with ⟨rfl, e⟩ | ⟨g, cap, cur, rfl, _, _, hnc, _⟩
      · simp [Builtin.append_, run_underlying Tryd.underlying48, sizeOf, typeInfo, hi, Builtin.lenOf, Builtin.firstCells]
      · simp [Builtin.append_, run_underlying Tryd.underlying48, sizeOf, typeInfo, hi, Builtin.lenOf, Builtin.firstCells, hnc, storeCells]
    refine wpList_plain hgd fun K' hK' => ?_
    unfold Oper.wp
    simp [execOp, ho, resolve, invoke, builtin, hs, hx, hrun, Result.andThen]
    exact hK' _ _ (h v w (by rw [List.append_nil]; exact hown) ⟨rfl, rfl, rfl, Nat.le_refl _, fun _ _ _ => rfl⟩ (Below.refl _ _))
  | some ad =>
    refine wpList_append_own w hgd s x 48 ho base 9 i0 (.string ⟨#[]⟩) 1 16 Tryd.underlying48 hi hz0 hz1 hz2 rfl (by decide) v ss.length (ss.map vS) hs hown ad l.length cap (l.map vS) hx (by simp) hv.app (fun u hu => by obtain ⟨z, _, rfl⟩ := List.mem_map.1 hu; rfl) (by unfold maxLen; omega) (by omega) hbase ?_
    intro v' w' h5 h6 _
    refine h v' w' ?_ h6 ?_
    · show w'.ownsRow base 9 1 v' (ss ++ l).length ((ss ++ l).map vS)
      rw [List.length_append, List.map_append]; exact h5
    · exact (Below.refl base w).grown h6 hbase (fun k hk => (World.ownsRow.lt hown k hk).1)
/-- slices.Concat of two. -/
theorem SlW.cells {w : World} {P : Nat → Prop} {v : Value} {ss : List Str} (h : SlW 1 w P v (ss.map clS)) : ∃ a cap, v = .slice a ss.length cap ∧ ss.length ≤ cap ∧ cap ≤ 9223372036854775807 ∧ (∀ i, i < ss.length → ∃ b off, a = some ⟨b, off, none⟩ ∧ b < w.heap.size ∧ w.cell? ⟨b, off + i, none⟩ = some (.string (st (ss.getD i [])))) := by
  obtain ⟨a, cap, rfl⟩ := h.shape
  obtain ⟨h1, h2, h3, h4⟩ := h.row
  simp only [List.length_map] at *
  refine ⟨a, cap, rfl, h2, h3, fun i hi => ?_⟩
  obtain ⟨b, off, e, hb, hc⟩ := h4 i hi
  have := hc 0 (by decide)
  rw [getD_map clS ss i [] hi, Nat.mul_one, Nat.add_zero] at this
  exact ⟨b, off, e, hb, this⟩
theorem SlW.bl {n : Nat} {w w' : World} {P : Nat → Prop} {v : Value} {css : List (List Value)} (h : SlW n w P v css) (hb : Below w.heap.size w w') : SlW n w' P v css := SlW.keep (P := fun _ => P) (k := 0) (Stays.below hb) h
set_option maxHeartbeats 1600000 in
theorem clone_any {P : Nat → Prop} (v : Value) (ss : List Str) (w : World) (h : SlW 1 w P v (ss.map clS)) (hl : ss.length ≤ 100000) :
    Calls Tryd.prog 57 #[v] w fun e w' => ∃ v', e = .returned v' ∧ OwnS w' w.heap.size v' ss ∧ Below w.heap.size w w' := by
  have HV : Hid (SlW 1 w P v (ss.map clS)) := h
  obtain ⟨a, cap, rfl, -, -, -⟩ := h.cells
  clear h
  have heq := fun wx => Lib.run_eql_slice_nil (P := Tryd.prog) wx 48 9 a ss.length cap 0 0 Tryd.underlying48
  cases a with
  | none =>
    have h0 : ss = [] := by
      obtain ⟨a', cap', h1, h2, h3, h4⟩ := HV.out
      rcases h4 with h4 | ⟨b, off, e, _⟩
      · exact List.map_eq_nil_iff.1 h4
      · obtain ⟨rfl, -, -⟩ := Value.slice.inj h1; cases e
    subst h0
    simp only [List.length_nil] at heq
    go_enter Tryd.func57, Tryd.ntmps57
    go_wp2
    go_ret
    exact ⟨_, rfl, OwnS.nil _ _, Below.refl _ _⟩
  | some ad =>
    go_enter Tryd.func57, Tryd.ntmps57
    go_wp2_with (
      (at_builtin; refine wp_app_ss rfl _ _ rfl w.heap.size _ [] ss rfl (World.ownsRow_lit w #[] 0 (Nat.le_refl _) (by decide) rfl) _ rfl (HV.out.bl (bxn _ _)) (by simp; omega) (by simp) ?_; intro v5 w5 o5 g5 b5))
    go_ret
    exact ⟨_, rfl, o5, (bxn _ _).trans b5⟩
/-- Index of a name. -/
def idxS (ss : List Str) (s : Str) : Int := match ss.findIdx? (fun x => decide (x = s)) with | some i => (i : Int) | none => -1
theorem idxS_at {ss : List Str} {s : Str} {k : Nat} (hk : k < ss.length) (h : ss.getD k [] = s) (hn : ∀ j, j < k → ss.getD j [] ≠ s) : idxS ss s = k := by
  unfold idxS
  have : ss.findIdx? (fun x => decide (x = s)) = some k := by
    rw [List.findIdx?_eq_some_iff_getElem]
    refine ⟨hk, ?_, fun j hj => ?_⟩
    · rw [List.getD_eq_getElem?_getD, List.getElem?_eq_getElem hk] at h
      simpa using h
    · have := hn j hj
      rw [List.getD_eq_getElem?_getD, List.getElem?_eq_getElem (by omega)] at this
      simpa using this
  rw [this]
theorem idxS_no {ss : List Str} {s : Str} (hn : ∀ j, j < ss.length → ss.getD j [] ≠ s) : idxS ss s = -1 := by
  unfold idxS
  have : ss.findIdx? (fun x => decide (x = s)) = none := by
    rw [List.findIdx?_eq_none_iff]
    intro x hx
    obtain ⟨j, hj, rfl⟩ := List.mem_iff_getElem.1 hx
    have := hn j hj
    rw [List.getD_eq_getElem?_getD, List.getElem?_eq_getElem hj] at this
    simpa using this
  rw [this]
theorem st_beq (a b : Str) : ((st a).toList == (st b).toList) = decide (a = b) := by
  rw [eq_list, st_list, st_list]
theorem st_ne' {a b : Str} (h : a ≠ b) : st a ≠ st b := fun e => h (st_inj e)
/-- All of a row added. -/
def allN (zs l : List Str) : Nat → Bool
  | 0 => true
  | k + 1 => decide (l.getD k [] ∉ (l.take k).foldl addZ zs) && allN zs l k
theorem take_snocS (l : List Str) (k : Nat) (h : k < l.length) : l.take (k + 1) = l.take k ++ [l.getD k []] := by
  rw [List.take_succ_eq_append_getElem h, List.getD_eq_getElem?_getD, List.getElem?_eq_getElem h]; rfl
theorem fold_take (zs l : List Str) (k : Nat) (h : k < l.length) : (l.take (k + 1)).foldl addZ zs = addZ ((l.take k).foldl addZ zs) (l.getD k []) := by
  rw [take_snocS l k h, List.foldl_append]; rfl
end Go.Proofs.YtpmhilaochfpaaaDoor
