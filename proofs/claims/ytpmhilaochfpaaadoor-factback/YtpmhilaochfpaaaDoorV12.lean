import Derived.Test.YtpmhilaochfpaaaDoorV11
import Derived.Test.YtpmhilaochfpaaaDoorV7
import Derived.Test.YtpmhilaochfpaaaDoorV10
import Derived.Test.YtpmhilaochfpaaaDoorV9
import Derived.Test.YtpmhilaochfpaaaDoorV6
import Derived.Laws.OwnMore
import Derived.Laws.AppendOwn
import Derived.Lib.AppendZeros
import Derived.Laws.AppendOwnNone
import Derived.Lib.SliceRun
import Derived.Lib.Bytes
import Derived.Deep.QuietTactic
import Derived.BigQuiet
import Derived.Laws.IdiomStrings
namespace Go.Proofs.YtpmhilaochfpaaaDoor
set_option maxRecDepth 20000
set_option maxRecDepth 20000
open Go.RowKit
open Go.WideShapes (add_plain)
set_option linter.unusedVariables false
set_option linter.unusedSimpArgs false
set_option maxRecDepth 20000
theorem Tryd.info9s : (Tryd.prog.info? 9).map (fun i => (i.zero, i.size, i.bytes)) = some (some (.string ⟨#[]⟩), 1, 16) := by kernel_rfl
def vS (s : Str) : Value := .string (st s)
def OwnS (w : World) (base : Nat) (v : Value) (ss : List Str) : Prop := w.ownsRow base 9 1 v ss.length (ss.map vS)
theorem OwnS.nil (w : World) (base : Nat) : OwnS w base (.slice none 0 0) [] := World.ownsRow_nil w base _ 1
theorem OwnS.shape {w : World} {base : Nat} {v : Value} {ss : List Str} (h : OwnS w base v ss) : ∃ a cap, v = .slice a ss.length cap := by
  rcases h.2 with ⟨rfl, h0⟩ | ⟨g, cap, cur, rfl, _⟩
  · exact ⟨none, 0, by rw [h0]⟩
  · exact ⟨_, cap, rfl⟩
theorem OwnS.move {w w' : World} {base : Nat} {v : Value} {ss : List Str} (h : OwnS w base v ss) (hb : ∀ g, base ≤ g → g < w.heap.size → w'.heap[g]? = w.heap[g]?) : OwnS w' base v ss := by
  obtain ⟨h1, h2⟩ := h
  refine ⟨h1, ?_⟩
  rcases h2 with h2 | ⟨g, cap, cur, e, hg, hc, h3⟩
  · exact .inl h2
  · exact .inr ⟨g, cap, cur, e, hg, (hb g hg (Array.getElem?_eq_some_iff.1 hc).1).trans hc, h3⟩
theorem OwnS.below {w w' : World} {base : Nat} {v : Value} {ss : List Str} (h : OwnS w base v ss) (hf : Below w.heap.size w w') : OwnS w' base v ss := h.move fun g _ h2 => hf.block g h2
theorem OwnS.map {w w' : World} {base b n : Nat} {v : Value} {ss zs : List Str} (h : OwnS w base v ss) (hm : NS w b n zs) (hg : w.grownBy w' (some b)) : OwnS w' base v ss := by
  obtain ⟨h1, h2⟩ := h
  refine ⟨h1, ?_⟩
  rcases h2 with h2 | ⟨g, cap, cur, e, hgb, hc, h3⟩
  · exact .inl h2
  · refine .inr ⟨g, cap, cur, e, hgb, (hg.block g (Array.getElem?_eq_some_iff.1 hc).1 ?_).trans hc, h3⟩
    obtain ⟨D, ⟨es, clock, hb, _⟩, _⟩ := hm
    intro e2
    obtain rfl := Option.some.inj e2
    rw [hb] at hc; cases hc
theorem OwnS.mono {w : World} {base b : Nat} {v : Value} {ss : List Str} (h : OwnS w base v ss) (hb : b ≤ base) : OwnS w b v ss := by
  obtain ⟨h1, h2⟩ := h
  refine ⟨h1, ?_⟩
  rcases h2 with h2 | ⟨g, cap, cur, e, hg, h3⟩
  · exact .inl h2
  · exact .inr ⟨g, cap, cur, e, Nat.le_trans hb hg, h3⟩
theorem maxlen_int : maxLen ≤ 9223372036854775807 := by unfold maxLen; omega
theorem OwnS.sl {w : World} {base : Nat} {v : Value} {ss : List Str} (h : OwnS w base v ss) : SlW 1 w (fun b => base ≤ b) v (ss.map clS) := by
  rcases h.2 with ⟨rfl, h0⟩ | ⟨g, cap, cur, rfl, hg, hc, hn, hm, hs, ht⟩
  · obtain rfl := List.length_eq_zero_iff.1 h0
    exact ⟨none, 0, rfl, Nat.le_refl _, by omega, .inl rfl⟩
  · refine ⟨_, cap, by rw [List.length_map], by simpa using hn, Nat.le_trans hm maxlen_int, .inr ⟨g, 0, rfl, (Array.getElem?_eq_some_iff.1 hc).1, hg, fun i j hi hj => ?_⟩⟩
    have hj0 : j = 0 := by omega
    subst hj0
    simp only [List.length_map] at hi
    have h1 : cur.toList[i]? = some (vS (ss.getD i [])) := by
      have : (cur.toList.take (ss.length * 1))[i]? = (ss.map vS)[i]? := by rw [ht]
      rw [List.getElem?_take_of_lt (by omega), List.getElem?_map, List.getElem?_eq_getElem hi] at this
      rw [this, List.getD_eq_getElem?_getD, List.getElem?_eq_getElem hi]; rfl
    rw [getD_map clS ss i [] hi]
    simp only [World.cell?, hc, Nat.zero_add, Nat.mul_one, Nat.add_zero]
    show _ = some (vS (ss.getD i []))
    rw [← h1]
    simp
theorem SlW.app {w : World} {P : Nat → Prop} {a : Addr} {m cap : Nat} {ss : List Str} (h : SlW 1 w P (.slice (some a) m cap) (ss.map clS)) : ∀ j u, (ss.map vS)[j]? = some u → w.cell? (a.add j) = some u := by
  intro j u hu
  obtain ⟨a', cap', h1, h2, h3, h4⟩ := h
  obtain ⟨rfl, rfl, rfl⟩ := Value.slice.inj h1
  rw [List.getElem?_map] at hu
  obtain ⟨x, hx, rfl⟩ := Option.map_eq_some_iff.1 hu
  have hj := (List.getElem?_eq_some_iff.1 hx).1
  rcases h4 with h4 | ⟨b, off, e, hb, hp, hc⟩
  · rw [List.map_eq_nil_iff] at h4; subst h4; simp at hj
  · obtain rfl := Option.some.inj e
    have := hc j 0 (by simpa using hj) (by omega)
    rw [getD_map clS ss j [] hj, Nat.mul_one, Nat.add_zero] at this
    rw [add_plain, this, List.getD_eq_getElem?_getD, hx]; rfl
theorem wp_app_ss {ops : Array Oper} {rest : List Oper} {o : Oper} {a : Act} {Q : Exit → Act → World → Prop} {w : World} (hgd : o.guard = none) (s x : Operand)
    (ho : o.op = .call { callee := .builtin .append, args := #[s, x], argTypes := #[48, 48] }) (base : Nat) (v : Value) (ss l : List Str) (hs : a.eval s = v) (hown : OwnS w base v ss)
    {P : Nat → Prop} (vx : Value) (hx : a.eval x = vx) (hv : SlW 1 w P vx (l.map clS)) (hlen : ss.length + l.length ≤ 1000000) (hbase : base ≤ w.heap.size)
    (h : ∀ v' w', OwnS w' base v' (ss ++ l) → w.grownBy w' v.ownBlock → Below base w w' → wpList Tryd.prog ops Q rest (a.put o.dst v') w') : wpList Tryd.prog ops Q (o :: rest) a w := by
  obtain ⟨i0, hi, hz0, hz1, hz2⟩ := info_parts Tryd.info9s
  have hv' := hv
  obtain ⟨ax, cap, rfl, h2, h3, h4⟩ := hv'
  rw [List.length_map] at *
  cases ax with
  | none =>
    obtain rfl : l = [] := by
      rcases h4 with h4 | ⟨b, off, e, _⟩
      · exact List.map_eq_nil_iff.1 h4
      · cases e
    have hrun : (Builtin.append_ #[48, 48] o.type #[v, .slice none 0 cap]).run Tryd.prog w = .ok v w := by
      rcases hown.2 with ⟨rfl, e⟩ | ⟨g, cap, cur, rfl, _, _, hnc, _⟩
      · simp [Builtin.append_, run_underlying Tryd.underlying48, sizeOf, typeInfo, hi, Builtin.lenOf, Builtin.firstCells]
      · simp [Builtin.append_, run_underlying Tryd.underlying48, sizeOf, typeInfo, hi, Builtin.lenOf, Builtin.firstCells, hnc, storeCells]
    refine wpList_plain hgd fun K' hK' => ?_
    unfold Oper.wp
    simp [execOp, ho, resolve, invoke, builtin, hs, hx, hrun, Result.andThen]
    exact hK' _ _ (h v w (by rw [List.append_nil]; exact hown) ⟨rfl, rfl, rfl, Nat.le_refl _, fun _ _ _ => rfl⟩ (Below.refl _ _))
  | some ad =>
    refine wpList_append_own w hgd s x 48 ho base 9 i0 (.string ⟨#[]⟩) 1 16 Tryd.underlying48 hi hz0 hz1 hz2 rfl (by decide) v ss.length (ss.map vS) hs hown ad l.length cap (l.map vS) hx (by simp) hv.app (fun u hu => by obtain ⟨z, _, rfl⟩ := List.mem_map.1 hu; rfl) (by unfold maxLen; omega) (by omega) hbase ?_
    intro v' w' h5 h6 _
    refine h v' w' ?_ h6 ?_
    · show w'.ownsRow base 9 1 v' (ss ++ l).length ((ss ++ l).map vS)
      rw [List.length_append, List.map_append]; exact h5
    · exact (Below.refl base w).grown h6 hbase (fun k hk => (World.ownsRow.lt hown k hk).1)
theorem SlW.cells {w : World} {P : Nat → Prop} {v : Value} {ss : List Str} (h : SlW 1 w P v (ss.map clS)) : ∃ a cap, v = .slice a ss.length cap ∧ ss.length ≤ cap ∧ cap ≤ 9223372036854775807 ∧ (∀ i, i < ss.length → ∃ b off, a = some ⟨b, off, none⟩ ∧ b < w.heap.size ∧ w.cell? ⟨b, off + i, none⟩ = some (.string (st (ss.getD i [])))) := by
  obtain ⟨a, cap, rfl⟩ := h.shape
  obtain ⟨h1, h2, h3, h4⟩ := h.row
  simp only [List.length_map] at *
  refine ⟨a, cap, rfl, h2, h3, fun i hi => ?_⟩
  obtain ⟨b, off, e, hb, hc⟩ := h4 i hi
  have := hc 0 (by decide)
  rw [getD_map clS ss i [] hi, Nat.mul_one, Nat.add_zero] at this
  exact ⟨b, off, e, hb, this⟩
theorem SlW.bl {n : Nat} {w w' : World} {P : Nat → Prop} {v : Value} {css : List (List Value)} (h : SlW n w P v css) (hb : Below w.heap.size w w') : SlW n w' P v css := SlW.keep (P := fun _ => P) (k := 0) (Stays.below hb) h
set_option maxHeartbeats 1600000 in
theorem clone_any {P : Nat → Prop} (v : Value) (ss : List Str) (w : World) (h : SlW 1 w P v (ss.map clS)) (hl : ss.length ≤ 100000) :
    Calls Tryd.prog 57 #[v] w fun e w' => ∃ v', e = .returned v' ∧ OwnS w' w.heap.size v' ss ∧ Below w.heap.size w w' := by
  have HV : Hid (SlW 1 w P v (ss.map clS)) := h
  obtain ⟨a, cap, rfl, -, -, -⟩ := h.cells
  clear h
  have heq := fun wx => Lib.run_eql_slice_nil (P := Tryd.prog) wx 48 9 a ss.length cap 0 0 Tryd.underlying48
  cases a with
  | none =>
    have h0 : ss = [] := by
      obtain ⟨a', cap', h1, h2, h3, h4⟩ := HV.out
      rcases h4 with h4 | ⟨b, off, e, _⟩
      · exact List.map_eq_nil_iff.1 h4
      · obtain ⟨rfl, -, -⟩ := Value.slice.inj h1; cases e
    subst h0
    simp only [List.length_nil] at heq
    go_enter Tryd.func57, Tryd.ntmps57
    go_wp2
    go_ret
    exact ⟨_, rfl, OwnS.nil _ _, Below.refl _ _⟩
  | some ad =>
    go_enter Tryd.func57, Tryd.ntmps57
    go_wp2_with (
      (at_builtin; refine wp_app_ss rfl _ _ rfl w.heap.size _ [] ss rfl (World.ownsRow_lit w #[] 0 (Nat.le_refl _) (by decide) rfl) _ rfl (HV.out.bl (bxn _ _)) (by simp; omega) (by simp) ?_; intro v5 w5 o5 g5 b5))
    go_ret
    exact ⟨_, rfl, o5, (bxn _ _).trans b5⟩
theorem st_beq (a b : Str) : ((st a).toList == (st b).toList) = decide (a = b) := by
  rw [eq_list, st_list, st_list]
end Go.Proofs.YtpmhilaochfpaaaDoor
namespace Go.Proofs.YtpmhilaochfpaaaDoor
set_option maxRecDepth 20000
set_option maxRecDepth 20000
open Go.RowKit
set_option linter.unusedVariables false
set_option linter.unusedSimpArgs false
structure FactD where
  t : Int
  c : Str
  vs : List VD
deriving DecidableEq
structure BoundD where
  nm : Str
  x : VD
deriving DecidableEq
def v00 : VD := ⟨0, 0, []⟩
def clB (b : BoundD) : List Value := [.string (st b.nm), .int .u8 b.x.k, .int .i64 b.x.n, .string (st b.x.s)]
def SomeL (L : Prop) (w : World) (e : Ending) (w' : World) : Prop := ∃ b, e = .returned (.bool b) ∧ (b = true → L) ∧ Below w.heap.size w w'
def classL (c : ClassD) : Prop := c.nm.length ≤ 60 ∧ c.attrs.length ≤ 20 ∧ ∀ y ∈ c.attrs, y.length ≤ 60
def valL (x : VD) : Prop := x.s.length ≤ 60
def boundL (b : BoundD) : Prop := b.nm.length ≤ 60 ∧ b.x.s.length ≤ 60
def factL (f : FactD) : Prop := f.vs.length ≤ 20 ∧ f.c.length ≤ 60 ∧ ∀ x ∈ f.vs, valL x
def lightL (cs : List ClassD) (f : FactD) (bs : List BoundD) : Prop := cs.length ≤ 20 ∧ factL f ∧ bs.length ≤ 20 ∧ (∀ c ∈ cs, classL c) ∧ ∀ b ∈ bs, boundL b
theorem all_idx {α : Type} {p : α → Prop} {l : List α} (d : α) (h : ∀ j, j < l.length → p (l.getD j d)) : ∀ x ∈ l, p x := by
  intro x hx
  obtain ⟨j, hj, rfl⟩ := List.mem_iff_getElem.1 hx
  have := h j hj
  rwa [List.getD_eq_getElem?_getD, List.getElem?_eq_getElem hj] at this
theorem idx_next {α : Type} {p : α → Prop} {l : List α} {d : α} {i : Nat} (h : ∀ j, j < i → p (l.getD j d)) (hi : p (l.getD i d)) : ∀ j, j < i + 1 → p (l.getD j d) := fun j hj => by
  rcases Nat.lt_or_eq_of_le (Nat.le_of_lt_succ hj) with hj | rfl
  · exact h j hj
  · exact hi
theorem rowK_keep {P : Nat → Nat → Prop} {Q : Nat → Prop} {v : Value} {cs : List ClassD} {w w' : World} (h : Row 2 (ReK P) w Q v cs) (hb : Below w.heap.size w w') : Row 2 (ReK P) w' Q v cs :=
  Row.keep (P := fun _ => Q) (k := 0) (Stays.below hb) (fun _ _ => ReK.keep (Stays.below hb)) h
theorem SlW.at {α : Type} {n : Nat} {w : World} {Q : Nat → Prop} {a : Option Addr} {m cap : Nat} {f : α → List Value} {xs : List α} (h : SlW n w Q (.slice a m cap) (xs.map f)) (d : α) :
    m = xs.length ∧ xs.length ≤ cap ∧ cap ≤ 9223372036854775807 ∧ ∀ i, i < xs.length → ∃ b off, a = some ⟨b, off, none⟩ ∧ b < w.heap.size ∧ ∀ j, j < n → w.cell? ⟨b, off + (i * n + j), none⟩ = (f (xs.getD i d))[j]? := by
  obtain ⟨h1, h2, h3, h4⟩ := h.row
  simp only [List.length_map] at h1 h2 h4
  refine ⟨h1, h2, h3, fun i hi => ?_⟩
  obtain ⟨b, off, e, hb, hc⟩ := h4 i hi
  exact ⟨b, off, e, hb, fun j hj => by rw [hc j hj, getD_map f xs i d hi]⟩
theorem SlW.imp {n : Nat} {w : World} {P Q : Nat → Prop} {v : Value} {css : List (List Value)} (hpq : ∀ b, b < w.heap.size → P b → Q b) (h : SlW n w P v css) : SlW n w Q v css := by
  obtain ⟨a, cap, h1, h2, h3, h4⟩ := h
  refine ⟨a, cap, h1, h2, h3, h4.imp id ?_⟩
  rintro ⟨b, off, e, hb, hp, hc⟩
  exact ⟨b, off, e, hb, hpq b hb hp, hc⟩
theorem Row.imp {α : Type} {n : Nat} {R S : World → List Value → α → Prop} {w : World} {p q : Nat → Prop} {v : Value} {xs : List α} (hpq : ∀ b, b < w.heap.size → p b → q b) (hR : ∀ cs x, R w cs x → S w cs x) (h : Row n R w p v xs) : Row n S w q v xs := by
  obtain ⟨css, h1, h2⟩ := h
  exact ⟨css, h1.imp hpq, h2.map hR⟩
theorem ReK.imp {P Q : Nat → Nat → Prop} {w : World} {cs : List Value} {x : ClassD} (hpq : ∀ k b, b < w.heap.size → P k b → Q k b) (h : ReK P w cs x) : ReK Q w cs x := by
  obtain ⟨v, h1, h2⟩ := h
  exact ⟨v, h1, h2.imp (hpq 1)⟩
end Go.Proofs.YtpmhilaochfpaaaDoor
namespace Go.Proofs.YtpmhilaochfpaaaDoor
set_option maxRecDepth 20000
set_option maxRecDepth 20000
open Go.RowKit
set_option linter.unusedVariables false
set_option linter.unusedSimpArgs false
set_option maxRecDepth 20000
def idxC (cs : List ClassD) (s : Str) : Int := match cs.findIdx? (fun x => decide (x.nm = s)) with | some i => (i : Int) | none => -1
theorem idxC_at {cs : List ClassD} {s : Str} {k : Nat} (hk : k < cs.length) (h : (cs.getD k ⟨[], []⟩).nm = s) (hn : ∀ j, j < k → (cs.getD j ⟨[], []⟩).nm ≠ s) : idxC cs s = k ∧ findC cs s = some (cs.getD k ⟨[], []⟩) := by
  have h1 : cs.findIdx? (fun x => decide (x.nm = s)) = some k := by
    rw [List.findIdx?_eq_some_iff_getElem]
    refine ⟨hk, ?_, fun j hj => ?_⟩
    · rw [List.getD_eq_getElem?_getD, List.getElem?_eq_getElem hk] at h
      simpa using h
    · have := hn j hj
      rw [List.getD_eq_getElem?_getD, List.getElem?_eq_getElem (by omega)] at this
      simpa using this
  constructor
  · unfold idxC; rw [h1]
  · unfold findC
    rw [List.find?_eq_some_iff_getElem]
    rw [List.getD_eq_getElem?_getD, List.getElem?_eq_getElem hk] at h ⊢
    refine ⟨by simpa using h, k, hk, rfl, fun j hj => ?_⟩
    have := hn j hj
    rw [List.getD_eq_getElem?_getD, List.getElem?_eq_getElem (by omega)] at this
    simpa using this
theorem idxC_no {cs : List ClassD} {s : Str} (hn : ∀ j, j < cs.length → (cs.getD j ⟨[], []⟩).nm ≠ s) : idxC cs s = -1 ∧ findC cs s = none := by
  have h2 : ∀ x ∈ cs, x.nm ≠ s := fun x hx => by
    obtain ⟨j, hj, rfl⟩ := List.mem_iff_getElem.1 hx
    have := hn j hj
    rw [List.getD_eq_getElem?_getD, List.getElem?_eq_getElem hj] at this
    simpa using this
  constructor
  · unfold idxC
    rw [List.findIdx?_eq_none_iff.2 (fun x hx => by simpa using h2 x hx)]
  · unfold findC
    rw [List.find?_eq_none]
    intro x hx; simpa using h2 x hx
end Go.Proofs.YtpmhilaochfpaaaDoor
namespace Go.Proofs.YtpmhilaochfpaaaDoor
set_option maxRecDepth 20000
set_option maxRecDepth 20000
open Go.RowKit
set_option linter.unusedVariables false
set_option linter.unusedSimpArgs false
set_option maxRecDepth 20000
theorem drewN_b {B : Nat} (w : World) (n : Nat) : Below B w (w.drewN n) := ⟨rfl, rfl, rfl, Nat.le_refl _, fun _ _ => rfl⟩
def FP (w : World) (r : Option ClassD) (e : Ending) (w' : World) : Prop := Below w.heap.size w w' ∧ match r with
  | none => e = .returned (.tuple #[.agg #[.string (st []), .slice none 0 0], .bool false])
  | some k => ∃ a c, e = .returned (.tuple #[.agg #[.string (st k.nm), .slice a k.attrs.length c], .bool true]) ∧ SlW 1 w' (fun _ => True) (.slice a k.attrs.length c) (k.attrs.map clS)
set_option maxHeartbeats 4000000 in
theorem rfind_any {P : Nat → Nat → Prop} {Q : Nat → Prop} (v : Value) (cs : List ClassD) (s : Str) (w : World) (h : Row 2 (ReK P) w Q v cs) :
    Calls Tryd.prog 39 #[v, .string (st s)] w (FP w (findC cs s)) := by
  generalize hPO : FP w (findC cs s) = PO
  have HPN : Hid (∀ w', findC cs s = none → Below w.heap.size w w' → PO (.returned (.tuple #[.agg #[.string ⟨#[]⟩, .slice none 0 0], .bool false])) w') := fun w' he hf => by rw [← hPO]; exact ⟨hf, by rw [he]; rfl⟩
  have HPS : Hid (∀ k a c w', findC cs s = some k → Below w.heap.size w w' → SlW 1 w' (fun _ => True) (.slice a k.attrs.length c) (k.attrs.map clS) → PO (.returned (.tuple #[.agg #[.string (st k.nm), .slice a k.attrs.length c], .bool true])) w') := fun k a c w' he hf hs => by rw [← hPO]; exact ⟨hf, by rw [he]; exact ⟨a, c, rfl, hs⟩⟩
  clear hPO
  obtain ⟨css1, h1, hh1⟩ := h
  have le1 := hh1.len
  obtain ⟨a1, c1, rfl⟩ := h1.shape
  obtain ⟨-, l1, m1, r1⟩ := h1.row
  rw [le1] at l1 r1 ⊢
  have R1 : Hid (∀ i, i < cs.length → ∃ b off, a1 = some ⟨b, off, none⟩ ∧ b < w.heap.size ∧ ∀ j, j < 2 → w.cell? ⟨b, off + (i * 2 + j), none⟩ = (css1.getD i [])[j]?) := r1
  have G1 : Hid (All2 (ReK P w) css1 cs) := hh1
  clear r1 h1 hh1 le1
  have hnn : (cs.length : Int) ≤ 9223372036854775807 := by omega
  go_enter Tryd.func39, Tryd.ntmps39
  go_wp2
  go_loopw [6] (fun v wr => ∃ i : Nat, v = .int .i64 i ∧ i ≤ cs.length ∧ wr = w.alloc (.cells #[.string ⟨#[]⟩, .slice none 0 0] 50) ∧ Hid (∀ j, j < i → (cs.getD j ⟨[], []⟩).nm ≠ s)) (fun v _ => (cs.length - intOf v).toNat)
  case atStart => exact ⟨0, rfl, Nat.zero_le _, rfl, fun j hj => absurd hj (Nat.not_lt_zero _)⟩
  case round =>
    obtain ⟨i, rfl, hi, rfl, NO⟩ := hrel
    by_cases hlt : i < cs.length
    · have hiz : (i : Int) < cs.length := by omega
      obtain ⟨b1, o1, rfl, hb1, q1⟩ := R1.out i hlt
      have e1 := G1.out.at i [] ⟨[], []⟩ hlt
      have HX : Hid ((cs.getD i ⟨[], []⟩).nm = s → findC cs s = some (cs.getD i ⟨[], []⟩)) := fun he => (idxC_at hlt he NO.out).2
      have NX : Hid ((cs.getD i ⟨[], []⟩).nm ≠ s → ∀ j, j < i + 1 → (cs.getD j ⟨[], []⟩).nm ≠ s) := fun he j hj => by
        rcases Nat.lt_or_eq_of_le (Nat.le_of_lt_succ hj) with hj | rfl
        · exact NO.out j hj
        · exact he
      generalize cs.getD i ⟨[], []⟩ = c at q1 e1 HX NX
      obtain ⟨u, ec, hu⟩ := e1
      have HU : Hid (SlW 1 w (fun _ => True) u (c.attrs.map clS)) := hu.imp (fun _ _ _ => trivial)
      obtain ⟨au, cu, rfl⟩ := hu.shape
      simp only [List.length_map] at ec HU
      rw [ec] at q1
      have d0 : w.cell? ⟨b1, o1 + i * 2, none⟩ = some (.string (st c.nm)) := q1 0 (by decide)
      have d1 : w.cell? ⟨b1, o1 + i * 2 + 1, none⟩ = some (.slice au c.attrs.length cu) := q1 1 (by decide)
      have hne : ¬ b1 = w.heap.size := by omega
      clear q1 ec hu
      have hbe := st_beq c.nm s
      by_cases he : c.nm = s
      · have E : Hid (findC cs s = some c) := HX.out he
        rw [decide_eq_true he] at hbe
        clear he HX NX
        go_wp2
        refine bodyPost_ret (v := .tuple #[.agg #[.string (st c.nm), .slice au c.attrs.length cu], .bool true]) (by simp [results, Tryd.results39, go_sem] <;> rfl) rfl ?_
        exact HPS.out c au cu _ E.out (bxn _ _) (HU.out.bl (bxn _ _))
      · have N2 : Hid (∀ j, j < i + 1 → (cs.getD j ⟨[], []⟩).nm ≠ s) := NX.out he
        rw [decide_eq_false he] at hbe
        clear he HX NX
        go_wp2
        go_roundw
        case rel => exact ⟨i + 1, by simp, by omega, trivial, N2.out⟩
        case measure => simp [intOf]; omega
    · have hiz : ¬ (i : Int) < cs.length := by omega
      have E : Hid (findC cs s = none) := (idxC_no fun j hj => NO.out j (by omega)).2
      go_wp2
      refine bodyPost_ret (v := .tuple #[.agg #[.string ⟨#[]⟩, .slice none 0 0], .bool false]) (by simp [results, Tryd.results39, go_sem] <;> rfl) rfl ?_
      exact HPN.out _ E.out (bxn _ _)
end Go.Proofs.YtpmhilaochfpaaaDoor
namespace Go.Proofs.YtpmhilaochfpaaaDoor
open Go.RowKit
set_option linter.unusedVariables false
set_option linter.unusedSimpArgs false
set_option maxRecDepth 20000
def gc (w : World) (s : ByteArray) : Nat := grownCap w s.size 0 5
def bw (w : World) (s : ByteArray) : World := w.drew.alloc (.cells (bytesRow s (gc w s)) 5 ((bytesRow s (gc w s)).size, (bytesRow s (gc w s)).size + 1))
theorem conv_sb (w : World) (s : ByteArray) : (convert 9 53 (.string s)).run Tryd.prog w = .ok (.slice (some ⟨w.heap.size, 0, none⟩) s.size (gc w s)) (bw w s) :=
  run_bytes_of_string w 9 53 5 s Tryd.underlying9 Tryd.underlying53 Tryd.underlying5
theorem gc_ge (w : World) (s : ByteArray) : s.size ≤ gc w s := grownCap_ge w s.size 0 5
theorem gc_le (w : World) (s : ByteArray) (h : s.size ≤ 1000000) : gc w s ≤ 9223372036854775807 := by
  have := grownCap_le_maxLen w s.size 0 5 (by unfold maxLen; omega)
  unfold gc
  unfold maxLen at this
  omega
theorem bw_size (w : World) (s : ByteArray) : (bw w s).heap.size = w.heap.size + 1 := by
  unfold bw World.alloc World.drew
  simp [-World.alloc_eq, -World.drew_eq]
theorem bw_below (w : World) (s : ByteArray) : Below w.heap.size w (bw w s) := by
  unfold bw
  have h1 : Below w.heap.size w (w.drewN 1) := drewN_b w 1
  exact bt h1 (bxn (w.drewN 1) _)
theorem bw_bv (w : World) (s : ByteArray) : BV (bw w s) (some ⟨w.heap.size, 0, none⟩) (bytesOf s) := by
  refine ⟨bytesOf_all s, .inr ⟨w.heap.size, 0, rfl, by rw [bw_size]; omega, fun i hi => ?_⟩⟩
  rw [bytesOf_length] at hi
  rw [Nat.zero_add]
  unfold bw
  have h := World.cell?_alloc_mark w.drew (bytesRow s (gc w s)) 5 ((bytesRow s (gc w s)).size, (bytesRow s (gc w s)).size + 1) i
  have e : w.drew.heap.size = w.heap.size := rfl
  rw [e] at h
  rw [h, bytesRow_at s (gc w s) i hi]
  unfold bytesOf
  rw [List.getD_eq_getElem?_getD, List.getElem?_map, List.getElem?_eq_getElem (by simpa using hi)]
  simp
def b8 (zs : List Int) : Str := zs.map fun n => UInt8.ofNat n.toNat
theorem str_st (zs : List Int) : strOfNums zs = st (b8 zs) := rfl
theorem b8_len (zs : List Int) : (b8 zs).length = zs.length := by unfold b8; rw [List.length_map]
theorem b8_of {zs : List Int} (h : AllB zs) : (b8 zs).map (fun b => (b.toNat : Int)) = zs := by
  unfold b8
  rw [List.map_map]
  conv => rhs; rw [← List.map_id zs]
  refine List.map_congr_left fun z hz => ?_
  obtain ⟨h0, h1⟩ := h z hz
  simp only [Function.comp, id]
  have : (UInt8.ofNat z.toNat).toNat = z.toNat := by rw [UInt8.toNat_ofNat']; omega
  rw [this]; omega
theorem of_b8 (l : Str) : b8 (l.map fun b => (b.toNat : Int)) = l := by
  unfold b8
  rw [List.map_map]
  conv => rhs; rw [← List.map_id l]
  refine List.map_congr_left fun b hb => ?_
  simp
theorem st_cat (a b : Str) : st a ++ st b = st (a ++ b) := by
  have h : ∀ x y : ByteArray, x.data = y.data → x = y := fun x y h => by cases x; cases y; subst h; rfl
  exact h _ _ (by simp [st, ByteArray.data_append])
end Go.Proofs.YtpmhilaochfpaaaDoor
namespace Go.Proofs.YtpmhilaochfpaaaDoor
open Go.RowKit
set_option linter.unusedVariables false
set_option linter.unusedSimpArgs false
set_option maxRecDepth 20000
theorem wp_app_bv {ops : Array Oper} {rest : List Oper} {o : Oper} {a : Act} {Q : Exit → Act → World → Prop} {w : World} (hgd : o.guard = none) (s x : Operand)
    (ho : o.op = .call { callee := .builtin .append, args := #[s, x], argTypes := #[53, 53] }) (base : Nat) (v : Value) (zs ys : List Int) (hs : a.eval s = v) (hown : Own w base v zs)
    (b off m cap : Nat) (hx : a.eval x = .slice (some ⟨b, off, none⟩) m cap) (hm : ys.length = m) (hne : ys ≠ []) (hv : BV w (some ⟨b, off, none⟩) ys) (hlen : zs.length + ys.length ≤ 1000000) (hbase : base ≤ w.heap.size)
    (h : ∀ v' w', Own w' base v' (zs ++ ys) → Below base w w' → wpList Tryd.prog ops Q rest (a.put o.dst v') w') : wpList Tryd.prog ops Q (o :: rest) a w := by
  obtain ⟨i0, hi, hz0, hz1, hz2⟩ := info_parts Tryd.info5
  subst hm
  refine wpList_append_own w hgd s x 53 ho base 5 i0 (.int .u8 0) 1 1 Tryd.underlying53 hi hz0 hz1 hz2 rfl (by decide) v zs.length (zs.map (Value.int .u8)) hs hown ⟨b, off, none⟩ ys.length cap (ys.map (Value.int .u8)) hx (by simp) ?_ (u8row _) (by unfold maxLen; omega) (by omega) hbase ?_
  · intro j u hu
    rw [List.getElem?_map] at hu
    obtain ⟨z, hz, rfl⟩ := Option.map_eq_some_iff.1 hu
    have hj := (List.getElem?_eq_some_iff.1 hz).1
    obtain ⟨_, h1 | ⟨b', off', hx, hlt, hc⟩⟩ := hv
    · exact absurd h1 hne
    · obtain ⟨rfl, rfl, _⟩ := Addr.mk.inj (Option.some.inj hx)
      have := hc j hj
      rw [add_plain, this, List.getD_eq_getElem?_getD, hz]; rfl
  · intro v' w' h1 h2 _
    have ho' : Own w' base v' (zs ++ ys) := by
      unfold Own
      rw [List.length_append, List.map_append]
      exact h1
    exact h v' w' ho' ((Below.refl base w).grown h2 hbase (fun k hk => (World.ownsRow.lt hown k hk).1))
def RBy (w : World) (cs : List Value) (zs : List Int) : Prop := ∃ b off cap, cs = [.slice (some ⟨b, off, none⟩) zs.length cap] ∧ zs ≠ [] ∧ BV w (some ⟨b, off, none⟩) zs ∧ b < w.heap.size
theorem RBy.below {w w' : World} {cs : List Value} {zs : List Int} (h : RBy w cs zs) (hb : Below w.heap.size w w') : RBy w' cs zs := by
  obtain ⟨b, off, cap, h1, h2, h3, h4⟩ := h
  exact ⟨b, off, cap, h1, h2, h3.below hb, Nat.lt_of_lt_of_le h4 hb.size⟩
def joinE (zss : List (List Int)) : Int := if 160 < zss.flatten.length then 5 else 0
def joinS (zss : List (List Int)) : Str := if 160 < zss.flatten.length then [] else b8 zss.flatten
theorem join_no {zss : List (List Int)} (h : 160 < zss.flatten.length) : joinS zss = [] ∧ joinE zss = 5 := ⟨by unfold joinS; rw [if_pos h], by unfold joinE; rw [if_pos h]⟩
theorem join_yes {zss : List (List Int)} (h : ¬ 160 < zss.flatten.length) : joinS zss = b8 zss.flatten ∧ joinE zss = 0 := ⟨by unfold joinS; rw [if_neg h], by unfold joinE; rw [if_neg h]⟩
theorem flat_take (zss : List (List Int)) (i : Nat) (h : i < zss.length) : (zss.take (i + 1)).flatten = (zss.take i).flatten ++ zss.getD i [] := by
  rw [List.take_add_one, List.flatten_append, List.getElem?_eq_getElem h, List.getD_eq_getElem?_getD, List.getElem?_eq_getElem h]; simp
theorem flat_le (zss : List (List Int)) (i : Nat) : (zss.take i).flatten.length ≤ zss.flatten.length := by
  conv => rhs; rw [← List.take_append_drop i zss, List.flatten_append, List.length_append]
  omega
set_option maxHeartbeats 4000000 in
theorem join_any {Q : Nat → Prop} (v : Value) (zss : List (List Int)) (w : World) (h : Row 1 RBy w Q v zss) (hz : ∀ zs ∈ zss, zs.length ≤ 100000) :
    Calls Tryd.prog 25 #[v] w fun e w' => e = .returned (.tuple #[.string (st (joinS zss)), .int .i64 (joinE zss)]) ∧ Below w.heap.size w w' := by
  obtain ⟨css1, h1, hh1⟩ := h
  have le1 := hh1.len
  obtain ⟨a1, c1, rfl⟩ := h1.shape
  obtain ⟨-, l1, m1, r1⟩ := h1.row
  rw [le1] at l1 r1 ⊢
  have R1 : Hid (∀ i, i < zss.length → ∃ b off, a1 = some ⟨b, off, none⟩ ∧ b < w.heap.size ∧ ∀ j, j < 1 → w.cell? ⟨b, off + (i * 1 + j), none⟩ = (css1.getD i [])[j]?) := r1
  have G1 : Hid (All2 (RBy w) css1 zss) := hh1
  have HZ : Hid (∀ zs ∈ zss, zs.length ≤ 100000) := hz
  clear r1 h1 hh1 le1 hz
  have hnn : (zss.length : Int) ≤ 9223372036854775807 := by omega
  go_enter Tryd.func25, Tryd.ntmps25
  go_wp2
  go_loopw [4, 6, 9] (fun va _ vi wr => ∃ i : Nat, vi = .int .i64 i ∧ i ≤ zss.length ∧ Hid (Own wr w.heap.size va (zss.take i).flatten ∧ Below w.heap.size w wr ∧ AllB (zss.take i).flatten) ∧ Hid ((zss.take i).flatten.length ≤ 160)) (fun _ _ v _ => (zss.length - intOf v).toNat)
  case atStart => exact ⟨0, rfl, Nat.zero_le _, ⟨Own.nil _ _, Below.refl _ _, AllB.nil⟩, Nat.zero_le _⟩
  case round =>
    obtain ⟨i, rfl, hi, HO, HL⟩ := hrel
    obtain ⟨ho, hb, ha⟩ := HO.out
    clear HO
    by_cases hlt : i < zss.length
    · have hiz : (i : Int) < zss.length := by omega
      obtain ⟨b1, o1, rfl, hb1, q1⟩ := R1.out i hlt
      obtain ⟨b2, o2, c2, ec, hne, hbv, hb2⟩ := G1.out.at i [] [] hlt
      rw [ec] at q1
      have hle : (zss.getD i []).length ≤ 100000 := HZ.out _ (by rw [List.getD_eq_getElem?_getD, List.getElem?_eq_getElem hlt]; exact List.getElem_mem hlt)
      have d0 : wr.cell? ⟨b1, o1 + i, none⟩ = some (.slice (some ⟨b2, o2, none⟩) (zss.getD i []).length c2) := (hb.cell (p := ⟨b1, o1 + i, none⟩) hb1).trans (by have := q1 0 (by decide); simpa using this)
      have FT := flat_take zss i hlt
      have HF : Hid ((zss.take (i + 1)).flatten.length ≤ zss.flatten.length) := flat_le zss (i + 1)
      have hbv' := hbv.below hb
      generalize zss.getD i [] = ys at *
      have hll : (zss.take i).flatten.length ≤ 160 := HL.out
      rw [FT, List.length_append] at HF
      generalize (zss.take i).flatten = zs at *
      obtain ⟨a, cap, rfl, _, _, _, _⟩ := ho.view ha
      clear q1 ec
      have hadd : IntKind.i64.wrap ((zs.length : Int) + ys.length) = (zs.length : Int) + ys.length := by rw [IntKind.wrap_i64]; omega
      by_cases hs : 160 < zs.length + ys.length
      · have E : Hid (joinS zss = [] ∧ joinE zss = 5) := join_no (by have := HF.out; omega)
        have hgt : ((zs.length : Int) + ys.length > 160) := by omega
        go_wp2
        go_ret2
        exact ⟨by rw [E.out.1, E.out.2]; rfl, hb⟩
      · have hgt : ¬ ((zs.length : Int) + ys.length > 160) := by omega
        have HB : Hid (Below w.heap.size w wr) := hb
        have hbs := hb.size
        go_wp2_with (at_builtin; refine wp_app_bv rfl _ _ rfl w.heap.size _ zs ys rfl ho b2 o2 _ c2 rfl rfl hne hbv' (by omega) (by omega) ?_; intro v5 w5 o5 b5)
        go_roundw
        case rel => exact ⟨i + 1, by simp, by omega, ⟨by rw [FT]; exact o5, HB.out.trans b5, by rw [FT]; exact ha.append hbv.1⟩, by show _ ≤ 160; rw [FT, List.length_append]; omega⟩
        case measure => simp [intOf]; omega
    · have hiz : ¬ (i : Int) < zss.length := by omega
      have e : zss.take i = zss := List.take_of_length_le (by omega)
      rw [e] at ho ha HL
      have E : Hid (joinS zss = b8 zss.flatten ∧ joinE zss = 0) := join_yes (by have := HL.out; omega)
      have KC := conv_own ho ha
      clear e
      rw [str_st] at KC
      generalize b8 zss.flatten = ks at *
      go_wp2
      go_ret2
      exact ⟨by rw [E.out.1, E.out.2]; rfl, hb⟩
end Go.Proofs.YtpmhilaochfpaaaDoor
namespace Go.Proofs.YtpmhilaochfpaaaDoor
set_option maxRecDepth 20000
set_option maxRecDepth 20000
open Go.RowKit
set_option linter.unusedVariables false
set_option linter.unusedSimpArgs false
set_option maxRecDepth 20000
theorem enters34 (args : Array Value) (w' : World) : Sem.run Tryd.prog (callFunc 34 args) w' = .ok (.enter 34 args) w' := rfl
set_option maxHeartbeats 1600000 in
theorem fc_any (nm s : Str) (u : Option Addr) (n c B : Nat) (w : World) (h : w.cell? ⟨B, 0, none⟩ = some (.string (st s))) (hB : B < w.heap.size) :
    Calls Tryd.prog 56 #[.agg #[.string (st nm), .slice u n c], .pointer (some ⟨B, 0, none⟩)] w fun e w' => e = .returned (.bool (decide (nm = s))) ∧ Below w.heap.size w w' := by
  have hbe := st_beq nm s
  have h1 : (w.alloc (.cells #[.string (st nm), .slice u n c] 50)).cell? ⟨B, 0, none⟩ = some (.string (st s)) := ((bxn w _).cell (p := ⟨B, 0, none⟩) hB).trans h
  generalize decide (nm = s) = d at *
  go_enter Tryd.func56, Tryd.ntmps56
  go_wp2
  all_goals (go_ret; first | exact ⟨rfl, bxn _ _⟩ | exact ⟨by rw [← hbe]; rfl, bxn _ _⟩)
set_option maxHeartbeats 4000000 in
theorem indexF_any {P : Nat → Nat → Prop} {Q : Nat → Prop} (v : Value) (cs : List ClassD) (s : Str) (B : Nat) (w : World) (h : Row 2 (ReK P) w Q v cs) (hb : w.cell? ⟨B, 0, none⟩ = some (.string (st s))) (hB : B < w.heap.size) :
    Calls Tryd.prog 35 #[v, .func (.func 56) #[] #[.pointer (some ⟨B, 0, none⟩)]] w fun e w' => e = .returned (.int .i64 (idxC cs s)) ∧ Below w.heap.size w w' := by
  obtain ⟨css1, h1, hh1⟩ := h
  have le1 := hh1.len
  obtain ⟨a1, c1, rfl⟩ := h1.shape
  obtain ⟨-, l1, m1, r1⟩ := h1.row
  rw [le1] at l1 r1 ⊢
  have R1 : Hid (∀ i, i < cs.length → ∃ b off, a1 = some ⟨b, off, none⟩ ∧ b < w.heap.size ∧ ∀ j, j < 2 → w.cell? ⟨b, off + (i * 2 + j), none⟩ = (css1.getD i [])[j]?) := r1
  have G1 : Hid (All2 (ReK P w) css1 cs) := hh1
  have HBX : Hid (w.cell? ⟨B, 0, none⟩ = some (.string (st s))) := hb
  clear r1 h1 hh1 le1 hb
  have hnn : (cs.length : Int) ≤ 9223372036854775807 := by omega
  go_enter Tryd.func35, Tryd.ntmps35
  go_wp2
  go_loopw [5, 8] (fun _ v wr => ∃ i : Nat, v = .int .i64 i ∧ i ≤ cs.length ∧ Hid (Below w.heap.size w wr) ∧ Hid (∀ j, j < i → (cs.getD j ⟨[], []⟩).nm ≠ s)) (fun _ v _ => (cs.length - intOf v).toNat)
  case atStart => exact ⟨0, rfl, Nat.zero_le _, Below.refl _ _, fun j hj => absurd hj (Nat.not_lt_zero _)⟩
  case round =>
    obtain ⟨i, rfl, hi, HB, NO⟩ := hrel
    by_cases hlt : i < cs.length
    · have hiz : (i : Int) < cs.length := by omega
      obtain ⟨b1, o1, rfl, hb1, q1⟩ := R1.out i hlt
      have e1 := G1.out.at i [] ⟨[], []⟩ hlt
      have HX : Hid ((cs.getD i ⟨[], []⟩).nm = s → idxC cs s = i) := fun he => (idxC_at hlt he NO.out).1
      have NX : Hid ((cs.getD i ⟨[], []⟩).nm ≠ s → ∀ j, j < i + 1 → (cs.getD j ⟨[], []⟩).nm ≠ s) := fun he j hj => by
        rcases Nat.lt_or_eq_of_le (Nat.le_of_lt_succ hj) with hj | rfl
        · exact NO.out j hj
        · exact he
      generalize cs.getD i ⟨[], []⟩ = c at q1 e1 HX NX
      obtain ⟨u, ec, hu⟩ := e1
      obtain ⟨au, cu, rfl⟩ := hu.shape
      simp only [List.length_map] at ec
      rw [ec] at q1
      have d0 : wr.cell? ⟨b1, o1 + i * 2, none⟩ = some (.string (st c.nm)) := (HB.out.cell (p := ⟨b1, o1 + i * 2, none⟩) hb1).trans (q1 0 (by decide))
      have d1 : wr.cell? ⟨b1, o1 + i * 2 + 1, none⟩ = some (.slice au c.attrs.length cu) := (HB.out.cell (p := ⟨b1, o1 + i * 2 + 1, none⟩) hb1).trans (q1 1 (by decide))
      have CF := fc_any c.nm s au c.attrs.length cu B wr ((HB.out.cell (p := ⟨B, 0, none⟩) hB).trans HBX.out) (Nat.lt_of_lt_of_le hB HB.out.size)
      have HE := enters34 #[.agg #[.string (st c.nm), .slice au c.attrs.length cu], .pointer (some ⟨B, 0, none⟩)] wr
      clear q1 ec hu
      by_cases he : c.nm = s
      · have E : Hid (idxC cs s = i) := HX.out he
        rw [decide_eq_true he] at CF
        clear he HX NX
        go_wp2_with (refine CF.mono ?_; rintro e w2 ⟨rfl, hb2⟩; have B2 : Hid (Below w.heap.size w w2) := bt HB.out hb2; clear CF hb2)
        go_ret
        exact ⟨by rw [E.out]; rfl, B2.out⟩
      · have N2 : Hid (∀ j, j < i + 1 → (cs.getD j ⟨[], []⟩).nm ≠ s) := NX.out he
        rw [decide_eq_false he] at CF
        clear he HX NX
        go_wp2_with (refine CF.mono ?_; rintro e w2 ⟨rfl, hb2⟩; have B2 : Hid (Below w.heap.size w w2) := bt HB.out hb2; clear CF hb2)
        go_roundw
        case rel => exact ⟨i + 1, by simp, by omega, B2.out, N2.out⟩
        case measure => simp [intOf]; omega
    · have hiz : ¬ (i : Int) < cs.length := by omega
      have E : Hid (idxC cs s = -1) := (idxC_no fun j hj => NO.out j (by omega)).1
      go_wp2
      go_ret
      exact ⟨by rw [E.out]; rfl, HB.out⟩
end Go.Proofs.YtpmhilaochfpaaaDoor
namespace Go.Proofs.YtpmhilaochfpaaaDoor
set_option maxRecDepth 20000
set_option maxRecDepth 20000
open Go.RowKit
set_option linter.unusedVariables false
set_option linter.unusedSimpArgs false
set_option maxRecDepth 20000
theorem idxC_cases (cs : List ClassD) (s : Str) : (idxC cs s = -1 ∧ findC cs s = none) ∨ ∃ k, k < cs.length ∧ idxC cs s = (k : Int) ∧ findC cs s = some (cs.getD k ⟨[], []⟩) ∧ (cs.getD k ⟨[], []⟩).nm = s := by
  have key : ∀ n, n ≤ cs.length → (∀ j, j < n → (cs.getD j ⟨[], []⟩).nm ≠ s) ∨ ∃ k, k < n ∧ (cs.getD k ⟨[], []⟩).nm = s ∧ ∀ j, j < k → (cs.getD j ⟨[], []⟩).nm ≠ s := by
    intro n
    induction n with
    | zero => exact fun _ => .inl (fun j hj => absurd hj (Nat.not_lt_zero _))
    | succ n ih =>
      intro hn
      rcases ih (by omega) with h | ⟨k, hk, h⟩
      · by_cases he : (cs.getD n ⟨[], []⟩).nm = s
        · exact .inr ⟨n, by omega, he, h⟩
        · refine .inl (fun j hj => ?_)
          rcases Nat.lt_or_eq_of_le (Nat.le_of_lt_succ hj) with hj | rfl
          · exact h j hj
          · exact he
      · exact .inr ⟨k, by omega, h⟩
  rcases key cs.length (Nat.le_refl _) with h | ⟨k, hk, he, h⟩
  · exact .inl (idxC_no h)
  · obtain ⟨h1, h2⟩ := idxC_at hk he h
    exact .inr ⟨k, hk, h1, h2, he⟩
def FO (w : World) (r : Option ClassD) (e : Ending) (w' : World) : Prop := Below w.heap.size w w' ∧ match r with
  | none => e = .returned (.tuple #[.agg #[.string (st []), .slice none 0 0], .bool false])
  | some k => ∃ a c, e = .returned (.tuple #[.agg #[.string (st k.nm), .slice a k.attrs.length c], .bool true]) ∧ SlW 1 w' (fun b => w.heap.size ≤ b) (.slice a k.attrs.length c) (k.attrs.map clS)
set_option maxHeartbeats 8000000 in
theorem find_any {P : Nat → Nat → Prop} {Q : Nat → Prop} (v : Value) (cs : List ClassD) (s : Str) (w : World) (h : Row 2 (ReK P) w Q v cs) (hL : ∀ c ∈ cs, c.attrs.length ≤ 100000) :
    Calls Tryd.prog 47 #[v, .string (st s)] w (FO w (findC cs s)) := by
  generalize hPO : FO w (findC cs s) = PO
  have HPN : Hid (∀ w', findC cs s = none → Below w.heap.size w w' → PO (.returned (.tuple #[.agg #[.string ⟨#[]⟩, .slice none 0 0], .bool false])) w') := fun w' he hf => by rw [← hPO]; exact ⟨hf, by rw [he]; rfl⟩
  have HPS : Hid (∀ k a c w', findC cs s = some k → Below w.heap.size w w' → SlW 1 w' (fun b => w.heap.size ≤ b) (.slice a k.attrs.length c) (k.attrs.map clS) → PO (.returned (.tuple #[.agg #[.string (st k.nm), .slice a k.attrs.length c], .bool true])) w') := fun k a c w' he hf hs => by rw [← hPO]; exact ⟨hf, by rw [he]; exact ⟨a, c, rfl, hs⟩⟩
  clear hPO
  have HW0 : Hid (Below w.heap.size w ((w.alloc (.cells #[.string (st s)] 9)).alloc (.cells #[.string ⟨#[]⟩, .slice none 0 0] 50))) := bt (bxn _ _) (bxn _ _)
  have CI := indexF_any v cs s w.heap.size ((w.alloc (.cells #[.string (st s)] 9)).alloc (.cells #[.string ⟨#[]⟩, .slice none 0 0] 50)) (Row.keep (P := fun _ => Q) (k := 0) (Stays.below HW0.out) (fun _ _ => ReK.keep (Stays.below HW0.out)) h) (by go_simp) (by simp; omega)
  obtain ⟨css1, h1, hh1⟩ := h
  have le1 := hh1.len
  obtain ⟨a1, c1, rfl⟩ := h1.shape
  obtain ⟨-, l1, m1, r1⟩ := h1.row
  rw [le1] at l1 r1 CI ⊢
  have R1 : Hid (∀ i, i < cs.length → ∃ b off, a1 = some ⟨b, off, none⟩ ∧ b < w.heap.size ∧ ∀ j, j < 2 → w.cell? ⟨b, off + (i * 2 + j), none⟩ = (css1.getD i [])[j]?) := r1
  have G1 : Hid (All2 (ReK P w) css1 cs) := hh1
  clear r1 h1 hh1 le1
  have HX : Hid (∀ W, Below ((w.alloc (.cells #[.string (st s)] 9)).alloc (.cells #[.string ⟨#[]⟩, .slice none 0 0] 50)).heap.size ((w.alloc (.cells #[.string (st s)] 9)).alloc (.cells #[.string ⟨#[]⟩, .slice none 0 0] 50)) W → W.cell? ⟨w.heap.size, 0, none⟩ = some (.string (st s)) ∧ W.cell? ⟨w.heap.size + 1, 0, none⟩ = some (.string ⟨#[]⟩) ∧ W.cell? ⟨w.heap.size + 1, 1, none⟩ = some (.slice none 0 0) ∧ W.frozen? ⟨w.heap.size + 1, 0, none⟩ = false ∧ W.frozen? ⟨w.heap.size + 1, 1, none⟩ = false ∧ w.heap.size + 1 < W.heap.size) := fun W hW => by
    have f0 : ((w.alloc (.cells #[.string (st s)] 9)).alloc (.cells #[.string ⟨#[]⟩, .slice none 0 0] 50)).frozen? ⟨w.heap.size + 1, 0, none⟩ = false := by go_simp
    have f1 : ((w.alloc (.cells #[.string (st s)] 9)).alloc (.cells #[.string ⟨#[]⟩, .slice none 0 0] 50)).frozen? ⟨w.heap.size + 1, 1, none⟩ = false := by go_simp
    refine ⟨(hW.cell (p := ⟨w.heap.size, 0, none⟩) (by simp; omega)).trans (by go_simp), (hW.cell (p := ⟨w.heap.size + 1, 0, none⟩) (by simp)).trans (by go_simp), (hW.cell (p := ⟨w.heap.size + 1, 1, none⟩) (by simp)).trans (by go_simp), ?_, ?_, ?_⟩
    · exact (hW.frozen (p := ⟨w.heap.size + 1, 0, none⟩) (by simp)).trans f0
    · exact (hW.frozen (p := ⟨w.heap.size + 1, 1, none⟩) (by simp)).trans f1
    · have := hW.size; simp at this; omega
  rcases idxC_cases cs s with ⟨hi, hf⟩ | ⟨k, hk, hi, hf, hnm⟩
  · have E : Hid (findC cs s = none) := hf
    rw [hi] at CI
    clear hi hf
    go_enter Tryd.func47, Tryd.ntmps47
    go_wp2_with (go_at_call 35; refine CI.mono ?_; rintro e w2 ⟨rfl, hb2⟩; have B2 : Hid (Below w.heap.size w w2) := bt HW0.out hb2; obtain ⟨x0, x1, x2, x3, x4, x5⟩ := HX.out w2 hb2; clear CI hb2)
    have hs1 : w.heap.size + 1 < w2.heap.size := x5
    have HF : Hid (Below w.heap.size w ((w2.setCell ⟨w.heap.size + 1, 0, none⟩ (.string ⟨#[]⟩)).setCell ⟨w.heap.size + 1, 1, none⟩ (.slice none 0 0))) := (B2.out.setCell (by simp) _).setCell (by simp) _
    refine bodyPost_ret (v := .tuple #[.agg #[.string ⟨#[]⟩, .slice none 0 0], .bool false]) (by simp [results, Tryd.results47, go_sem]; go_simp) rfl ?_
    exact HPN.out _ E.out HF.out
  · have E : Hid (findC cs s = some (cs.getD k ⟨[], []⟩)) := hf
    rw [hi] at CI
    obtain ⟨b1, o1, rfl, hb1, q1⟩ := R1.out k hk
    have e1 := G1.out.at k [] ⟨[], []⟩ hk
    have hal : (cs.getD k ⟨[], []⟩).attrs.length ≤ 100000 := hL _ (by rw [List.getD_eq_getElem?_getD, List.getElem?_eq_getElem hk]; exact List.getElem_mem hk)
    clear hi hf
    generalize cs.getD k ⟨[], []⟩ = c at *
    subst hnm
    obtain ⟨u, ec, hu⟩ := e1
    have HU : Hid (SlW 1 w (fun _ => True) u (c.attrs.map clS)) := hu.imp (fun _ _ _ => trivial)
    rw [ec] at q1
    have HC : Hid (∀ W, Below w.heap.size w W → W.cell? ⟨b1, o1 + k * 2 + 1, none⟩ = some u) := fun W hW => (hW.cell (p := ⟨b1, o1 + k * 2 + 1, none⟩) hb1).trans (q1 1 (by decide))
    have CC : Hid (∀ W, Below w.heap.size w W → Calls Tryd.prog 57 #[u] W fun e w' => ∃ v', e = .returned v' ∧ OwnS w' W.heap.size v' c.attrs ∧ Below W.heap.size W w') := fun W hW => clone_any u c.attrs W (HU.out.bl hW) hal
    obtain ⟨au, cu, rfl⟩ := hu.shape
    simp only [List.length_map] at HC CC HU
    clear ec hu q1
    have hk0 : ¬ (k : Int) < 0 := by omega
    go_enter Tryd.func47, Tryd.ntmps47
    go_wp2_with (go_at_call 35; refine CI.mono ?_; rintro e w2 ⟨rfl, hb2⟩; have B2 : Hid (Below w.heap.size w w2) := bt HW0.out hb2; have HB2 : Hid (Below _ _ w2) := hb2; obtain ⟨x0, x1, x2, x3, x4, x5⟩ := HX.out w2 hb2; have x6 := HC.out w2 B2.out; clear CI hb2)
    go_region_with (go_at_call 57; refine (CC.out _ B2.out.drew).mono ?_; rintro e w3 ⟨v', rfl, o3, hb3⟩; obtain ⟨av, cv, rfl⟩ := o3.shape; have B3 : Hid (Below w2.drew.heap.size w2.drew w3) := hb3; obtain ⟨y0, y1, y2, y3, y4, y5⟩ := HX.out w3 (bt HB2.out.drew hb3); have O3 : Hid (OwnS w3 w2.drew.heap.size (.slice av c.attrs.length cv) c.attrs) := o3; have hs3 : w.heap.size + 1 < w3.heap.size := y5; clear o3)
    all_goals (
      have hs2 : w.heap.size + 1 < w2.drew.heap.size := by simpa using x5
      have HF : Hid (Below w.heap.size w ((w3.setCell ⟨w.heap.size + 1, 0, none⟩ (.string (st c.nm))).setCell ⟨w.heap.size + 1, 1, none⟩ (.slice av c.attrs.length cv))) := ((bt B2.out.drew B3.out).setCell (by simp) _).setCell (by simp) _
      have HO : Hid (OwnS ((w3.setCell ⟨w.heap.size + 1, 0, none⟩ (.string (st c.nm))).setCell ⟨w.heap.size + 1, 1, none⟩ (.slice av c.attrs.length cv)) w2.drew.heap.size (.slice av c.attrs.length cv) c.attrs) := O3.out.move fun g h1 h2 => by
        have hne : g ≠ w.heap.size + 1 := by omega
        exact (Below.heap_setCell _ ⟨w.heap.size + 1, 1, none⟩ _ g hne).trans (Below.heap_setCell w3 ⟨w.heap.size + 1, 0, none⟩ _ g hne)
      go_wp2
      refine bodyPost_ret (v := .tuple #[.agg #[.string (st c.nm), .slice av c.attrs.length cv], .bool true]) (by simp [results, Tryd.results47, go_sem]; go_simp) rfl ?_
      exact HPS.out c av cv _ E.out HF.out (HO.out.sl.imp fun k _ hk => by omega))
end Go.Proofs.YtpmhilaochfpaaaDoor
namespace Go.Proofs.YtpmhilaochfpaaaDoor
set_option maxRecDepth 20000
open Go.RowKit
set_option linter.unusedVariables false
set_option linter.unusedSimpArgs false
theorem entersP (args : Array Value) (w' : World) : Sem.run Tryd.prog (callFunc 34 args) w' = .ok (.enter 34 args) w' := rfl
set_option maxHeartbeats 1600000 in
theorem fp_any (nm s : Str) (u : Option Addr) (n c B : Nat) (w : World) (h : w.cell? ⟨B, 0, none⟩ = some (.string (st s))) (hB : B < w.heap.size) :
    Calls Tryd.prog 36 #[.agg #[.string (st nm), .slice u n c], .pointer (some ⟨B, 0, none⟩)] w fun e w' => e = .returned (.bool (decide (nm = s))) ∧ Below w.heap.size w w' := by
  have hbe := st_beq nm s
  have h1 : (w.alloc (.cells #[.string (st nm), .slice u n c] 50)).cell? ⟨B, 0, none⟩ = some (.string (st s)) := ((bxn w _).cell (p := ⟨B, 0, none⟩) hB).trans h
  generalize decide (nm = s) = d at *
  go_enter Tryd.func36, Tryd.ntmps36
  go_wp2
  all_goals (go_ret; first | exact ⟨rfl, bxn _ _⟩ | exact ⟨by rw [← hbe]; rfl, bxn _ _⟩)
set_option maxHeartbeats 4000000 in
theorem indexP_any {P : Nat → Nat → Prop} {Q : Nat → Prop} (v : Value) (cs : List ClassD) (s : Str) (B : Nat) (w : World) (h : Row 2 (ReK P) w Q v cs) (hb : w.cell? ⟨B, 0, none⟩ = some (.string (st s))) (hB : B < w.heap.size) :
    Calls Tryd.prog 35 #[v, .func (.func 36) #[] #[.pointer (some ⟨B, 0, none⟩)]] w fun e w' => e = .returned (.int .i64 (idxC cs s)) ∧ Below w.heap.size w w' := by
  obtain ⟨css1, h1, hh1⟩ := h
  have le1 := hh1.len
  obtain ⟨a1, c1, rfl⟩ := h1.shape
  obtain ⟨-, l1, m1, r1⟩ := h1.row
  rw [le1] at l1 r1 ⊢
  have R1 : Hid (∀ i, i < cs.length → ∃ b off, a1 = some ⟨b, off, none⟩ ∧ b < w.heap.size ∧ ∀ j, j < 2 → w.cell? ⟨b, off + (i * 2 + j), none⟩ = (css1.getD i [])[j]?) := r1
  have G1 : Hid (All2 (ReK P w) css1 cs) := hh1
  have HBX : Hid (w.cell? ⟨B, 0, none⟩ = some (.string (st s))) := hb
  clear r1 h1 hh1 le1 hb
  have hnn : (cs.length : Int) ≤ 9223372036854775807 := by omega
  go_enter Tryd.func35, Tryd.ntmps35
  go_wp2
  go_loopw [5, 8] (fun _ v wr => ∃ i : Nat, v = .int .i64 i ∧ i ≤ cs.length ∧ Hid (Below w.heap.size w wr) ∧ Hid (∀ j, j < i → (cs.getD j ⟨[], []⟩).nm ≠ s)) (fun _ v _ => (cs.length - intOf v).toNat)
  case atStart => exact ⟨0, rfl, Nat.zero_le _, Below.refl _ _, fun j hj => absurd hj (Nat.not_lt_zero _)⟩
  case round =>
    obtain ⟨i, rfl, hi, HB, NO⟩ := hrel
    by_cases hlt : i < cs.length
    · have hiz : (i : Int) < cs.length := by omega
      obtain ⟨b1, o1, rfl, hb1, q1⟩ := R1.out i hlt
      have e1 := G1.out.at i [] ⟨[], []⟩ hlt
      have HX : Hid ((cs.getD i ⟨[], []⟩).nm = s → idxC cs s = i) := fun he => (idxC_at hlt he NO.out).1
      have NX : Hid ((cs.getD i ⟨[], []⟩).nm ≠ s → ∀ j, j < i + 1 → (cs.getD j ⟨[], []⟩).nm ≠ s) := fun he j hj => by
        rcases Nat.lt_or_eq_of_le (Nat.le_of_lt_succ hj) with hj | rfl
        · exact NO.out j hj
        · exact he
      generalize cs.getD i ⟨[], []⟩ = c at q1 e1 HX NX
      obtain ⟨u, ec, hu⟩ := e1
      obtain ⟨au, cu, rfl⟩ := hu.shape
      simp only [List.length_map] at ec
      rw [ec] at q1
      have d0 : wr.cell? ⟨b1, o1 + i * 2, none⟩ = some (.string (st c.nm)) := (HB.out.cell (p := ⟨b1, o1 + i * 2, none⟩) hb1).trans (q1 0 (by decide))
      have d1 : wr.cell? ⟨b1, o1 + i * 2 + 1, none⟩ = some (.slice au c.attrs.length cu) := (HB.out.cell (p := ⟨b1, o1 + i * 2 + 1, none⟩) hb1).trans (q1 1 (by decide))
      have CF := fp_any c.nm s au c.attrs.length cu B wr ((HB.out.cell (p := ⟨B, 0, none⟩) hB).trans HBX.out) (Nat.lt_of_lt_of_le hB HB.out.size)
      have HE := entersP #[.agg #[.string (st c.nm), .slice au c.attrs.length cu], .pointer (some ⟨B, 0, none⟩)] wr
      clear q1 ec hu
      by_cases he : c.nm = s
      · have E : Hid (idxC cs s = i) := HX.out he
        rw [decide_eq_true he] at CF
        clear he HX NX
        go_wp2_with (refine CF.mono ?_; rintro e w2 ⟨rfl, hb2⟩; have B2 : Hid (Below w.heap.size w w2) := bt HB.out hb2; clear CF hb2)
        go_ret
        exact ⟨by rw [E.out]; rfl, B2.out⟩
      · have N2 : Hid (∀ j, j < i + 1 → (cs.getD j ⟨[], []⟩).nm ≠ s) := NX.out he
        rw [decide_eq_false he] at CF
        clear he HX NX
        go_wp2_with (refine CF.mono ?_; rintro e w2 ⟨rfl, hb2⟩; have B2 : Hid (Below w.heap.size w w2) := bt HB.out hb2; clear CF hb2)
        go_roundw
        case rel => exact ⟨i + 1, by simp, by omega, B2.out, N2.out⟩
        case measure => simp [intOf]; omega
    · have hiz : ¬ (i : Int) < cs.length := by omega
      have E : Hid (idxC cs s = -1) := (idxC_no fun j hj => NO.out j (by omega)).1
      go_wp2
      go_ret
      exact ⟨by rw [E.out]; rfl, HB.out⟩
set_option maxHeartbeats 1600000 in
theorem place_any {P : Nat → Nat → Prop} {Q : Nat → Prop} (v : Value) (cs : List ClassD) (s : Str) (w : World) (h : Row 2 (ReK P) w Q v cs) :
    Calls Tryd.prog 23 #[v, .string (st s)] w fun e w' => e = .returned (.int .i64 (idxC cs s)) ∧ Below w.heap.size w w' := by
  have h2 : Row 2 (ReK P) (w.alloc (.cells #[.string (st s)] 9)) Q v cs := rowK_keep h (bxn _ _)
  have CI := indexP_any v cs s w.heap.size (w.alloc (.cells #[.string (st s)] 9)) h2 (by simp) (by simp)
  clear h h2
  go_enter Tryd.func23, Tryd.ntmps23
  go_wp2_with (go_at_call 35; refine CI.mono ?_; rintro e w2 ⟨rfl, hb2⟩)
  go_ret
  exact ⟨rfl, bt (bxn _ _) hb2⟩
set_option maxHeartbeats 4000000 in
theorem rplace_any {P : Nat → Nat → Prop} {Q : Nat → Prop} (v : Value) (cs : List ClassD) (s : Str) (w : World) (h : Row 2 (ReK P) w Q v cs) :
    Calls Tryd.prog 27 #[v, .string (st s)] w fun e w' => e = .returned (.int .i64 (idxC cs s)) ∧ Below w.heap.size w w' := by
  obtain ⟨css1, h1, hh1⟩ := h
  have le1 := hh1.len
  obtain ⟨a1, c1, rfl⟩ := h1.shape
  obtain ⟨-, l1, m1, r1⟩ := h1.row
  rw [le1] at l1 r1 ⊢
  have R1 : Hid (∀ i, i < cs.length → ∃ b off, a1 = some ⟨b, off, none⟩ ∧ b < w.heap.size ∧ ∀ j, j < 2 → w.cell? ⟨b, off + (i * 2 + j), none⟩ = (css1.getD i [])[j]?) := r1
  have G1 : Hid (All2 (ReK P w) css1 cs) := hh1
  clear r1 h1 hh1 le1
  have hnn : (cs.length : Int) ≤ 9223372036854775807 := by omega
  go_enter Tryd.func27, Tryd.ntmps27
  go_wp2
  go_loopw [5] (fun v wr => ∃ i : Nat, v = .int .i64 i ∧ i ≤ cs.length ∧ wr = w ∧ Hid (∀ j, j < i → (cs.getD j ⟨[], []⟩).nm ≠ s)) (fun v _ => (cs.length - intOf v).toNat)
  case atStart => exact ⟨0, rfl, Nat.zero_le _, rfl, fun j hj => absurd hj (Nat.not_lt_zero _)⟩
  case round =>
    obtain ⟨i, rfl, hi, rfl, NO⟩ := hrel
    by_cases hlt : i < cs.length
    · have hiz : (i : Int) < cs.length := by omega
      obtain ⟨b1, o1, rfl, hb1, q1⟩ := R1.out i hlt
      have e1 := G1.out.at i [] ⟨[], []⟩ hlt
      have HX : Hid ((cs.getD i ⟨[], []⟩).nm = s → idxC cs s = i) := fun he => (idxC_at hlt he NO.out).1
      have NX : Hid ((cs.getD i ⟨[], []⟩).nm ≠ s → ∀ j, j < i + 1 → (cs.getD j ⟨[], []⟩).nm ≠ s) := fun he j hj => by
        rcases Nat.lt_or_eq_of_le (Nat.le_of_lt_succ hj) with hj | rfl
        · exact NO.out j hj
        · exact he
      generalize cs.getD i ⟨[], []⟩ = c at q1 e1 HX NX
      obtain ⟨u, ec, hu⟩ := e1
      obtain ⟨au, cu, rfl⟩ := hu.shape
      simp only [List.length_map] at ec
      rw [ec] at q1
      have d0 : wr.cell? ⟨b1, o1 + i * 2, none⟩ = some (.string (st c.nm)) := q1 0 (by decide)
      clear q1 ec hu
      have hbe := st_beq c.nm s
      by_cases he : c.nm = s
      · have E : Hid (idxC cs s = i) := HX.out he
        rw [decide_eq_true he] at hbe
        clear he HX NX
        go_wp2
        go_ret
        exact ⟨by rw [E.out]; rfl, Below.refl _ _⟩
      · have N2 : Hid (∀ j, j < i + 1 → (cs.getD j ⟨[], []⟩).nm ≠ s) := NX.out he
        rw [decide_eq_false he] at hbe
        clear he HX NX
        go_wp2
        go_roundw
        case rel => exact ⟨i + 1, by simp, by omega, trivial, N2.out⟩
        case measure => simp [intOf]; omega
    · have hiz : ¬ (i : Int) < cs.length := by omega
      have E : Hid (idxC cs s = -1) := (idxC_no fun j hj => NO.out j (by omega)).1
      go_wp2
      go_ret
      exact ⟨by rw [E.out]; rfl, Below.refl _ _⟩
end Go.Proofs.YtpmhilaochfpaaaDoor
namespace Go.Proofs.YtpmhilaochfpaaaDoor
set_option maxRecDepth 20000
set_option maxRecDepth 20000
open Go.RowKit
set_option linter.unusedVariables false
set_option linter.unusedSimpArgs false
set_option maxRecDepth 20000
theorem NV.below {w w' : World} {v : Value} {zs : List Str} {B : Nat} (h : NV w v zs) (hb : Below B w w') (hB : ∀ b, v = .map (some b) → b < B) : NV w' v zs := by
  rcases h with h | ⟨b, n, rfl, h⟩
  · exact .inl h
  · exact .inr ⟨b, n, rfl, h.below hb (hB b rfl)⟩
theorem NV.bl {w w' : World} {v : Value} {zs : List Str} (h : NV w v zs) (hb : Below w.heap.size w w') : NV w' v zs := by
  rcases h with h | ⟨b, n, rfl, h⟩
  · exact .inl h
  · exact .inr ⟨b, n, rfl, h.below hb h.lt⟩
theorem Fx.low {b B : Nat} {w w1 w2 : World} (h : Fx b w w1) (k : Below B w1 w2) (hB : w.heap.size ≤ B) : Fx b w w2 :=
  ⟨k.os.trans h.os, k.tape.trans h.tape, k.output.trans h.output, Nat.le_trans h.size k.size, fun i hi hn => (k.block i (Nat.lt_of_lt_of_le hi hB)).trans (h.block i hi hn)⟩
end Go.Proofs.YtpmhilaochfpaaaDoor
namespace Go.Proofs.YtpmhilaochfpaaaDoor
open Go.RowKit
set_option linter.unusedVariables false
set_option linter.unusedSimpArgs false
set_option maxRecDepth 20000
def keyS (t : Int) : Str := if t < 1 ∨ 1099511627776 < t then [] else 119 :: b8 (dig t 6)
def keyE (t : Int) : Int := if t < 1 ∨ 1099511627776 < t then 22 else 0
theorem key_no {t : Int} (h : t < 1 ∨ 1099511627776 < t) : keyS t = [] ∧ keyE t = 22 := ⟨by unfold keyS; rw [if_pos h], by unfold keyE; rw [if_pos h]⟩
theorem key_yes {t : Int} (h1 : 1 ≤ t) (h2 : t ≤ 1099511627776) : keyS t = 119 :: b8 (dig t 6) ∧ keyE t = 0 := ⟨by unfold keyS; rw [if_neg (by omega)], by unfold keyE; rw [if_neg (by omega)]⟩
theorem put6 {t : Int} (h1 : 1 ≤ t) (h2 : t ≤ 1099511627776) : putL t 6 = dig t 6 ∧ putE t 6 = 0 := by
  have e : (256 : Int) ^ (6 : Int).toNat = 281474976710656 := by decide
  constructor
  · unfold putL; rw [if_neg (by omega), e, if_neg (by omega)]; rfl
  · unfold putE; rw [if_neg (by omega), e, if_neg (by omega)]
theorem wcat (l : Str) : (⟨#[119]⟩ : ByteArray) ++ st l = st (119 :: l) := st_cat [119] l
set_option maxHeartbeats 1000000 in
theorem key_any (t : Int) (w : World) : Calls Tryd.prog 7 #[.int .i64 t] w fun e w' => e = .returned (.tuple #[.string (st (keyS t)), .int .i64 (keyE t)]) ∧ Below w.heap.size w w' := by
  by_cases h1 : t < 1
  · obtain ⟨e1, e2⟩ := key_no (.inl h1)
    rw [e1, e2]
    go_enter Tryd.func7, Tryd.ntmps7
    go_wp2
    go_ret2
    exact ⟨rfl, Below.refl _ _⟩
  · by_cases h2 : 1099511627776 < t
    · obtain ⟨e1, e2⟩ := key_no (.inr h2)
      rw [e1, e2]
      go_enter Tryd.func7, Tryd.ntmps7
      go_wp2
      go_ret2
      exact ⟨rfl, Below.refl _ _⟩
    · obtain ⟨e1, e2⟩ := key_yes (t := t) (by omega) (by omega)
      obtain ⟨p1, p2⟩ := put6 (t := t) (by omega) (by omega)
      have CP := put_any t 6 w
      rw [p1, p2] at CP
      rw [e1, e2, ← wcat, ← str_st]
      have HA := dig_all 6 t
      have HS : ¬ 9223372036854775807 < 1 + (strOfNums (dig t 6)).size := by rw [str_st, st_size, b8_len, dig_length]; omega
      generalize dig t 6 = zs at *
      go_enter Tryd.func7, Tryd.ntmps7
      go_wp2_with (go_at_call 19; refine CP.mono ?_; rintro e w1 ⟨v, rfl, ho, hb1⟩; clear CP; have KC := conv_own ho HA)
      go_ret2
      exact ⟨rfl, hb1⟩
set_option maxHeartbeats 1000000 in
theorem rkey_any (t : Int) (w : World) : Calls Tryd.prog 8 #[.int .i64 t] w fun e w' => e = .returned (.tuple #[.string (st (keyS t)), .int .i64 (keyE t)]) ∧ Below w.heap.size w w' := by
  by_cases h1 : t < 1
  · obtain ⟨e1, e2⟩ := key_no (.inl h1)
    rw [e1, e2]
    go_enter Tryd.func8, Tryd.ntmps8
    go_wp2
    go_ret2
    exact ⟨rfl, Below.refl _ _⟩
  · by_cases h2 : 1099511627776 < t
    · obtain ⟨e1, e2⟩ := key_no (.inr h2)
      rw [e1, e2]
      go_enter Tryd.func8, Tryd.ntmps8
      go_wp2
      go_ret2
      exact ⟨rfl, Below.refl _ _⟩
    · obtain ⟨e1, e2⟩ := key_yes (t := t) (by omega) (by omega)
      obtain ⟨p1, p2⟩ := put6 (t := t) (by omega) (by omega)
      have CP := rput_any t 6 w
      rw [p1, p2] at CP
      rw [e1, e2, ← wcat, ← str_st]
      have HA := dig_all 6 t
      have HS : ¬ 9223372036854775807 < 1 + (strOfNums (dig t 6)).size := by rw [str_st, st_size, b8_len, dig_length]; omega
      generalize dig t 6 = zs at *
      go_enter Tryd.func8, Tryd.ntmps8
      go_wp2_with (go_at_call 20; refine CP.mono ?_; rintro e w1 ⟨v, rfl, ho, hb1⟩; clear CP; have KC := conv_own ho HA)
      go_ret2
      exact ⟨rfl, hb1⟩
def tagN (k : Str) : Int := val ((k.map fun b => (b.toNat : Int)).drop 1)
def tagV (k : Str) : Int := if k.length = 7 ∧ keyE (tagN k) = 0 ∧ keyS (tagN k) = k then tagN k else 0
def tagE (k : Str) : Int := if k.length = 7 ∧ keyE (tagN k) = 0 ∧ keyS (tagN k) = k then 0 else 4
theorem tag_no {k : Str} (h : ¬ (k.length = 7 ∧ keyE (tagN k) = 0 ∧ keyS (tagN k) = k)) : tagV k = 0 ∧ tagE k = 4 := ⟨by unfold tagV; rw [if_neg h], by unfold tagE; rw [if_neg h]⟩
theorem tag_yes {k : Str} (h : k.length = 7 ∧ keyE (tagN k) = 0 ∧ keyS (tagN k) = k) : tagV k = tagN k ∧ tagE k = 0 := ⟨by unfold tagV; rw [if_pos h], by unfold tagE; rw [if_pos h]⟩
theorem bytes_ext (k : Str) (h : 1 ≤ k.length) : bytesOf ((st k).extract 1 k.length) = (k.map fun b => (b.toNat : Int)).drop 1 := by
  unfold bytesOf
  rw [ByteArray.data_extract]
  simp [st, List.map_drop]
  exact List.take_of_length_le (by simp)
theorem get6 {zs : List Int} (h : zs.length = 6) : getV zs 6 = val zs ∧ getE zs 6 = 0 := by
  constructor
  · unfold getV; rw [if_neg (by omega), if_neg (by omega), show (6 : Int).toNat = 6 from rfl, List.take_of_length_le (by omega)]
  · unfold getE; rw [if_neg (by omega), if_neg (by omega)]
set_option maxHeartbeats 2000000 in
theorem tag_any (k : Str) (w : World) (hl : k.length ≤ 1000000) : Calls Tryd.prog 9 #[.string (st k)] w fun e w' => e = .returned (.tuple #[.int .i64 (tagV k), .int .i64 (tagE k)]) ∧ Below w.heap.size w w' := by
  have hsz := st_size k
  by_cases h7 : k.length = 7
  · have hex := bytes_ext k (by omega)
    have KC := fun w' => conv_sb w' ((st k).extract 1 k.length)
    have hes : ((st k).extract 1 k.length).size = 6 := by rw [ByteArray.size_extract, hsz]; omega
    have CG := fun w' => get_any (some ⟨w.heap.size, 0, none⟩) 6 (gc w ((st k).extract 1 k.length)) ((k.map fun b => (b.toNat : Int)).drop 1) 6 w'
    have HB := bw_bv w ((st k).extract 1 k.length)
    have hzl : ((k.map fun b => (b.toNat : Int)).drop 1).length = 6 := by rw [List.length_drop, List.length_map, h7]
    obtain ⟨g1, g2⟩ := get6 hzl
    rw [hex] at HB
    have CG2 := CG _ HB hzl (by omega)
    rw [g1, g2] at CG2
    have CK := fun w' => key_any (val ((k.map fun b => (b.toNat : Int)).drop 1)) w'
    have hbl := bw_below w ((st k).extract 1 k.length)
    rw [hes] at KC
    have KC1 := KC w
    clear CG KC HB
    have HY : Hid ((keyE (tagN k) = 0 ∧ keyS (tagN k) = k) → tagV k = tagN k ∧ tagE k = 0) := fun h => tag_yes ⟨h7, h⟩
    have HN : Hid (¬ (keyE (tagN k) = 0 ∧ keyS (tagN k) = k) → tagV k = 0 ∧ tagE k = 4) := fun h => tag_no fun h' => h h'.2
    have hT : val ((k.map fun b => (b.toNat : Int)).drop 1) = tagN k := rfl
    rw [hT] at CG2 CK
    have hlt : ¬ (1 > k.length) := by omega
    generalize hKS : keyS (tagN k) = ks at *
    generalize hKE : keyE (tagN k) = ke at *
    generalize tagN k = n at *
    generalize bw w ((st k).extract 1 k.length) = W at *
    generalize gc w ((st k).extract 1 k.length) = cap at *
    clear hT hzl hex g1 g2
    have hs7 : (st k).size = 7 := by omega
    rw [h7] at KC1
    have EQ : Hid ((!(st ks).toList == (st k).toList) = !decide (ks = k)) := by
      show (!(st ks).toList == (st k).toList) = !decide (ks = k)
      rw [eq_list, st_list, st_list]
    generalize st k = sk at *
    go_enter Tryd.func9, Tryd.ntmps9
    go_wp2_with (first | (go_at_call 21; refine CG2.mono ?_; rintro e w1 ⟨rfl, rfl⟩) | (go_at_call 7; refine (CK _).mono ?_; rintro e w2 ⟨rfl, hb2⟩))
    · rename_i h0 hn
      rw [EQ.out] at hn
      obtain ⟨e1, e2⟩ := HN.out fun h => by rw [decide_eq_true h.2] at hn; cases hn
      go_ret2
      exact ⟨by rw [e1, e2]; rfl, bt hbl hb2⟩
    · rename_i h0 hn
      rw [EQ.out] at hn
      obtain ⟨e1, e2⟩ := HY.out ⟨h0, by simpa using hn⟩
      go_ret2
      exact ⟨by rw [e1, e2]; rfl, bt hbl hb2⟩
    · rename_i h0
      obtain ⟨e1, e2⟩ := HN.out fun h => h0 h.1
      go_ret2
      exact ⟨by rw [e1, e2]; rfl, bt hbl hb2⟩
  · obtain ⟨e1, e2⟩ := tag_no (k := k) fun h => h7 h.1
    rw [e1, e2]
    have hz7 : ¬ (st k).size = 7 := by omega
    have hz8 : ((((st k).size : Nat) : Int) == 7) = false := by simp; omega
    go_enter Tryd.func9, Tryd.ntmps9
    go_wp2
    go_ret2
    exact ⟨rfl, Below.refl _ _⟩
set_option maxHeartbeats 2000000 in
theorem rtag_any (k : Str) (w : World) (hl : k.length ≤ 1000000) : Calls Tryd.prog 10 #[.string (st k)] w fun e w' => e = .returned (.tuple #[.int .i64 (tagV k), .int .i64 (tagE k)]) ∧ Below w.heap.size w w' := by
  have hsz := st_size k
  by_cases h7 : k.length = 7
  · have hex := bytes_ext k (by omega)
    have KC := fun w' => conv_sb w' ((st k).extract 1 k.length)
    have hes : ((st k).extract 1 k.length).size = 6 := by rw [ByteArray.size_extract, hsz]; omega
    have CG := fun w' => rget_any (some ⟨w.heap.size, 0, none⟩) 6 (gc w ((st k).extract 1 k.length)) ((k.map fun b => (b.toNat : Int)).drop 1) 6 w'
    have HB := bw_bv w ((st k).extract 1 k.length)
    have hzl : ((k.map fun b => (b.toNat : Int)).drop 1).length = 6 := by rw [List.length_drop, List.length_map, h7]
    obtain ⟨g1, g2⟩ := get6 hzl
    rw [hex] at HB
    have CG2 := CG _ HB hzl (by omega)
    rw [g1, g2] at CG2
    have CK := fun w' => rkey_any (val ((k.map fun b => (b.toNat : Int)).drop 1)) w'
    have hbl := bw_below w ((st k).extract 1 k.length)
    rw [hes] at KC
    have KC1 := KC w
    clear CG KC HB
    have HY : Hid ((keyE (tagN k) = 0 ∧ keyS (tagN k) = k) → tagV k = tagN k ∧ tagE k = 0) := fun h => tag_yes ⟨h7, h⟩
    have HN : Hid (¬ (keyE (tagN k) = 0 ∧ keyS (tagN k) = k) → tagV k = 0 ∧ tagE k = 4) := fun h => tag_no fun h' => h h'.2
    have hT : val ((k.map fun b => (b.toNat : Int)).drop 1) = tagN k := rfl
    rw [hT] at CG2 CK
    have hlt : ¬ (1 > k.length) := by omega
    generalize hKS : keyS (tagN k) = ks at *
    generalize hKE : keyE (tagN k) = ke at *
    generalize tagN k = n at *
    generalize bw w ((st k).extract 1 k.length) = W at *
    generalize gc w ((st k).extract 1 k.length) = cap at *
    clear hT hzl hex g1 g2
    have hs7 : (st k).size = 7 := by omega
    rw [h7] at KC1
    have EQ : Hid ((!(st ks).toList == (st k).toList) = !decide (ks = k)) := by
      show (!(st ks).toList == (st k).toList) = !decide (ks = k)
      rw [eq_list, st_list, st_list]
    generalize st k = sk at *
    go_enter Tryd.func10, Tryd.ntmps10
    go_wp2_with (first | (go_at_call 22; refine CG2.mono ?_; rintro e w1 ⟨rfl, rfl⟩) | (go_at_call 8; refine (CK _).mono ?_; rintro e w2 ⟨rfl, hb2⟩))
    · rename_i h0 hn
      rw [EQ.out] at hn
      obtain ⟨e1, e2⟩ := HN.out fun h => by rw [decide_eq_true h.2] at hn; cases hn
      go_ret2
      exact ⟨by rw [e1, e2]; rfl, bt hbl hb2⟩
    · rename_i h0 hn
      rw [EQ.out] at hn
      obtain ⟨e1, e2⟩ := HY.out ⟨h0, by simpa using hn⟩
      go_ret2
      exact ⟨by rw [e1, e2]; rfl, bt hbl hb2⟩
    · rename_i h0
      obtain ⟨e1, e2⟩ := HN.out fun h => h0 h.1
      go_ret2
      exact ⟨by rw [e1, e2]; rfl, bt hbl hb2⟩
  · obtain ⟨e1, e2⟩ := tag_no (k := k) fun h => h7 h.1
    rw [e1, e2]
    have hz7 : ¬ (st k).size = 7 := by omega
    have hz8 : ((((st k).size : Nat) : Int) == 7) = false := by simp; omega
    go_enter Tryd.func10, Tryd.ntmps10
    go_wp2
    go_ret2
    exact ⟨rfl, Below.refl _ _⟩
theorem tag_key {t : Int} (h1 : 1 ≤ t) (h2 : t ≤ 1099511627776) : tagV (keyS t) = t ∧ tagE (keyS t) = 0 := by
  obtain ⟨e1, e2⟩ := key_yes h1 h2
  have hn : tagN (keyS t) = t := by
    rw [e1]
    show val ((b8 (dig t 6)).map fun b => (b.toNat : Int)) = t
    rw [b8_of (dig_all 6 t)]
    exact val_dig 6 t (by omega) (by omega)
  have hk : (keyS t).length = 7 := by rw [e1, List.length_cons, b8_len, dig_length]
  obtain ⟨g1, g2⟩ := tag_yes (k := keyS t) ⟨hk, by rw [hn]; exact e2, by rw [hn]⟩
  exact ⟨by rw [g1, hn], g2⟩
end Go.Proofs.YtpmhilaochfpaaaDoor
namespace Go.Proofs.YtpmhilaochfpaaaDoor
set_option maxRecDepth 20000
set_option maxRecDepth 20000
open Go.RowKit
set_option linter.unusedVariables false
set_option linter.unusedSimpArgs false
set_option maxHeartbeats 8000000 in
theorem light_any {P : Nat → Nat → Prop} {Q Q2 Q3 : Nat → Prop} (v u s : Value) (cs : List ClassD) (f : FactD) (bs : List BoundD) (w : World) (h : Row 2 (ReK P) w Q v cs)
    (hf : SlW 3 w Q2 u (f.vs.map clV)) (hs : SlW 4 w Q3 s (bs.map clB)) :
    Calls Tryd.prog 11 #[v, .agg #[.int .i64 f.t, .string (st f.c), u], s] w (SomeL (lightL cs f bs) w) := by
  obtain ⟨css1, h1, hh1⟩ := h
  have le1 := hh1.len
  obtain ⟨a1, c1, rfl⟩ := h1.shape
  obtain ⟨-, l1, m1, r1⟩ := h1.row
  rw [le1] at l1 r1 ⊢
  obtain ⟨a2, c2, rfl⟩ := hf.shape
  obtain ⟨-, l2, m2, r2⟩ := hf.at v00
  obtain ⟨a3, c3, rfl⟩ := hs.shape
  obtain ⟨-, l3, m3, r3⟩ := hs.at ⟨[], v00⟩
  simp only [List.length_map] at *
  have R1 : Hid (∀ i, i < cs.length → ∃ b off, a1 = some ⟨b, off, none⟩ ∧ b < w.heap.size ∧ ∀ j, j < 2 → w.cell? ⟨b, off + (i * 2 + j), none⟩ = (css1.getD i [])[j]?) := r1
  have R2 : Hid (∀ i, i < f.vs.length → ∃ b off, a2 = some ⟨b, off, none⟩ ∧ b < w.heap.size ∧ ∀ j, j < 3 → w.cell? ⟨b, off + (i * 3 + j), none⟩ = (clV (f.vs.getD i v00))[j]?) := r2
  have R3 : Hid (∀ i, i < bs.length → ∃ b off, a3 = some ⟨b, off, none⟩ ∧ b < w.heap.size ∧ ∀ j, j < 4 → w.cell? ⟨b, off + (i * 4 + j), none⟩ = (clB (bs.getD i ⟨[], v00⟩))[j]?) := r3
  have G1 : Hid (All2 (ReK P w) css1 cs) := hh1
  clear r1 h1 hh1 le1 r2 hf r3 hs
  have hnn : (cs.length : Int) ≤ 9223372036854775807 := by omega
  have hnn2 : (f.vs.length : Int) ≤ 9223372036854775807 := by omega
  have hnn3 : (bs.length : Int) ≤ 9223372036854775807 := by omega
  obtain ⟨wf, hwf⟩ : ∃ wf, wf = w.alloc (.cells #[.int .i64 f.t, .string (st f.c), .slice a2 f.vs.length c2] 36) := ⟨_, rfl⟩
  have HF : Hid (Below w.heap.size w wf ∧ w.heap.size < wf.heap.size ∧ wf.cell? ⟨w.heap.size, 1, none⟩ = some (.string (st f.c)) ∧ wf.cell? ⟨w.heap.size, 2, none⟩ = some (.slice a2 f.vs.length c2)) := by
    subst hwf; exact ⟨bxn _ _, by simp, by go_simp, by go_simp⟩
  go_enter Tryd.func11, Tryd.ntmps11
  go_wp2
  all_goals first | (go_ret; exact ⟨_, rfl, (fun h => by cases h), bxn _ _⟩) | skip
  have HL : Hid (cs.length ≤ 20 ∧ f.vs.length ≤ 20 ∧ f.c.length ≤ 60 ∧ bs.length ≤ 20) := ⟨by omega, by omega, by have := st_size f.c; omega, by omega⟩
  rw [← hwf]
  clear hwf
  go_loopw [7] (fun v wr => ∃ i : Nat, v = .int .i64 i ∧ i ≤ cs.length ∧ Hid (Below wf.heap.size wf wr) ∧ Hid (∀ j, j < i → classL (cs.getD j ⟨[], []⟩))) (fun v _ => (cs.length - intOf v).toNat)
  case atStart => exact ⟨0, rfl, Nat.zero_le _, Below.refl _ _, fun j hj => absurd hj (Nat.not_lt_zero _)⟩
  case round =>
    obtain ⟨i, rfl, hi, hbr, NO⟩ := hrel
    obtain ⟨wo, hwo⟩ : ∃ wo, wo = wr := ⟨_, rfl⟩
    subst hwo
    have HW : Hid (Below w.heap.size w wo) := HF.out.1.trans (hbr.out.mono (Nat.le_of_lt HF.out.2.1))
    by_cases hlt : i < cs.length
    · have hiz : (i : Int) < cs.length := by omega
      obtain ⟨b1, o1, rfl, hb1, q1⟩ := R1.out i hlt
      have e1 := G1.out.at i [] ⟨[], []⟩ hlt
      have NX : Hid (classL (cs.getD i ⟨[], []⟩) → ∀ j, j < i + 1 → classL (cs.getD j ⟨[], []⟩)) := fun hx => idx_next NO.out hx
      generalize cs.getD i ⟨[], []⟩ = c at q1 e1 NX
      obtain ⟨u, ec, hu⟩ := e1
      obtain ⟨au, cu, rfl⟩ := hu.shape
      obtain ⟨-, lu, mu, ru⟩ := hu.at []
      simp only [List.length_map] at ec
      have RU : Hid (∀ i, i < c.attrs.length → ∃ b off, au = some ⟨b, off, none⟩ ∧ b < w.heap.size ∧ ∀ j, j < 1 → w.cell? ⟨b, off + (i * 1 + j), none⟩ = (clS (c.attrs.getD i []))[j]?) := ru
      rw [ec] at q1
      have d0 : wo.cell? ⟨b1, o1 + i * 2, none⟩ = some (.string (st c.nm)) := (HW.out.cell (p := ⟨b1, o1 + i * 2, none⟩) hb1).trans (q1 0 (by decide))
      have d1 : wo.cell? ⟨b1, o1 + i * 2 + 1, none⟩ = some (.slice au c.attrs.length cu) := (HW.out.cell (p := ⟨b1, o1 + i * 2 + 1, none⟩) hb1).trans (q1 1 (by decide))
      have hnu : (c.attrs.length : Int) ≤ 9223372036854775807 := by omega
      have HB1 : Hid (b1 < w.heap.size ∧ w.cell? ⟨b1, o1 + i * 2 + 1, none⟩ = some (.slice au c.attrs.length cu)) := ⟨hb1, q1 1 (by decide)⟩
      clear q1 ec ru hu
      go_wp2
      all_goals first | (go_ret; exact ⟨_, rfl, (fun h => by cases h), HW.out⟩) | skip
      have HC : Hid (c.nm.length ≤ 60 ∧ c.attrs.length ≤ 20) := ⟨by have := st_size c.nm; omega, by omega⟩
      go_loopw [8] (fun v wr => ∃ k : Nat, v = .int .i64 k ∧ k ≤ c.attrs.length ∧ Hid (Below wo.heap.size wo wr) ∧ Hid (∀ j, j < k → (c.attrs.getD j []).length ≤ 60)) (fun v _ => (c.attrs.length - intOf v).toNat)
      case atStart => exact ⟨0, rfl, Nat.zero_le _, Below.refl _ _, fun j hj => absurd hj (Nat.not_lt_zero _)⟩
      case round =>
        clear d0 d1
        obtain ⟨k, rfl, hk, hbk, NP⟩ := hrel
        have HK : Hid (Below w.heap.size w wr) := bt HW.out hbk.out
        have d1 : wr.cell? ⟨b1, o1 + i * 2 + 1, none⟩ = some (.slice au c.attrs.length cu) := (HK.out.cell (p := ⟨b1, o1 + i * 2 + 1, none⟩) hb1).trans HB1.out.2
        by_cases hlk : k < c.attrs.length
        · have hkz : (k : Int) < c.attrs.length := by omega
          obtain ⟨b2, o2, rfl, hb2, q2⟩ := RU.out k hlk
          have f0 : wr.cell? ⟨b2, o2 + k, none⟩ = some (.string (st (c.attrs.getD k []))) := (HK.out.cell (p := ⟨b2, o2 + k, none⟩) hb2).trans (by have := q2 0 (by decide); rw [Nat.mul_one, Nat.add_zero] at this; rw [this]; rfl)
          clear q2
          have NY : Hid ((c.attrs.getD k []).length ≤ 60 → ∀ j, j < k + 1 → (c.attrs.getD j []).length ≤ 60) := fun hx => idx_next (p := fun y : Str => y.length ≤ 60) NP.out hx
          generalize c.attrs.getD k [] = y at f0 NY
          go_wp2
          all_goals first
            | (go_ret; exact ⟨_, rfl, (fun h => by cases h), HK.out⟩)
            | (refine ⟨⟨k + 1, by simp, by omega, hbk, NY.out (by have := st_size y; omega)⟩, ?_⟩; simp [intOf]; omega)
            | (go_roundw; case rel => exact ⟨k + 1, by simp, by omega, hbk, NY.out (by have := st_size y; omega)⟩; case measure => simp [intOf]; omega)
        · have hkz : ¬ (k : Int) < c.attrs.length := by omega
          go_wp2
          go_roundw
          case rel => exact ⟨i + 1, by simp, by omega, bt hbr.out hbk.out, NX.out ⟨HC.out.1, HC.out.2, all_idx (p := fun y : Str => y.length ≤ 60) [] fun j hj => NP.out j (by omega)⟩⟩
          case measure => simp [intOf]; omega
    · have hiz : ¬ (i : Int) < cs.length := by omega
      have HCS : Hid (∀ c ∈ cs, classL c) := all_idx ⟨[], []⟩ fun j hj => NO.out j (by omega)
      go_wp2
      go_loopw [9] (fun v wr => ∃ i : Nat, v = .int .i64 i ∧ i ≤ f.vs.length ∧ Hid (Below wo.heap.size wo wr) ∧ Hid (∀ j, j < i → valL (f.vs.getD j v00))) (fun v _ => (f.vs.length - intOf v).toNat)
      case atStart => exact ⟨0, rfl, Nat.zero_le _, Below.refl _ _, fun j hj => absurd hj (Nat.not_lt_zero _)⟩
      case round =>
        obtain ⟨k, rfl, hk, hbk, NP⟩ := hrel
        have HK : Hid (Below w.heap.size w wr) := bt HW.out hbk.out
        have p2 : wr.cell? ⟨w.heap.size, 2, none⟩ = some (.slice a2 f.vs.length c2) := ((bt hbr.out hbk.out).cell (p := ⟨w.heap.size, 2, none⟩) HF.out.2.1).trans HF.out.2.2.2
        by_cases hlk : k < f.vs.length
        · have hkz : (k : Int) < f.vs.length := by omega
          obtain ⟨b2, o2, rfl, hb2, q2⟩ := R2.out k hlk
          have f0 : wr.cell? ⟨b2, o2 + k * 3 + 2, none⟩ = some (.string (st (f.vs.getD k v00).s)) := (HK.out.cell (p := ⟨b2, o2 + k * 3 + 2, none⟩) hb2).trans (q2 2 (by decide))
          clear q2
          have NY : Hid (valL (f.vs.getD k v00) → ∀ j, j < k + 1 → valL (f.vs.getD j v00)) := fun hx => idx_next NP.out hx
          generalize f.vs.getD k v00 = y at f0 NY
          go_wp2
          all_goals first
            | (go_ret; exact ⟨_, rfl, (fun h => by cases h), HK.out⟩)
            | (refine ⟨⟨k + 1, by simp, by omega, hbk, NY.out (by have := st_size y.s; unfold valL; omega)⟩, ?_⟩; simp [intOf]; omega)
            | (go_roundw; case rel => exact ⟨k + 1, by simp, by omega, hbk, NY.out (by have := st_size y.s; unfold valL; omega)⟩; case measure => simp [intOf]; omega)
        · have hkz : ¬ (k : Int) < f.vs.length := by omega
          have HVS : Hid (∀ c ∈ f.vs, valL c) := all_idx v00 fun j hj => NP.out j (by omega)
          obtain ⟨wp, hwp⟩ : ∃ wp, wp = wr := ⟨_, rfl⟩
          subst hwp
          go_wp2
          go_loopw [10] (fun v wr => ∃ i : Nat, v = .int .i64 i ∧ i ≤ bs.length ∧ Hid (Below wp.heap.size wp wr) ∧ Hid (∀ j, j < i → boundL (bs.getD j ⟨[], v00⟩))) (fun v _ => (bs.length - intOf v).toNat)
          case atStart => exact ⟨0, rfl, Nat.zero_le _, Below.refl _ _, fun j hj => absurd hj (Nat.not_lt_zero _)⟩
          case round =>
            obtain ⟨n, rfl, hn, hbn, NQ⟩ := hrel
            have HN : Hid (Below w.heap.size w wr) := bt HK.out hbn.out
            by_cases hln : n < bs.length
            · have hkz : (n : Int) < bs.length := by omega
              obtain ⟨b2, o2, rfl, hb2, q2⟩ := R3.out n hln
              have f0 : wr.cell? ⟨b2, o2 + n * 4, none⟩ = some (.string (st (bs.getD n ⟨[], v00⟩).nm)) := (HN.out.cell (p := ⟨b2, o2 + n * 4, none⟩) hb2).trans (q2 0 (by decide))
              have f3 : wr.cell? ⟨b2, o2 + n * 4 + 1 + 2, none⟩ = some (.string (st (bs.getD n ⟨[], v00⟩).x.s)) := (HN.out.cell (p := ⟨b2, o2 + n * 4 + 1 + 2, none⟩) hb2).trans (q2 3 (by decide))
              clear q2
              have NY : Hid (boundL (bs.getD n ⟨[], v00⟩) → ∀ j, j < n + 1 → boundL (bs.getD j ⟨[], v00⟩)) := fun hx => idx_next NQ.out hx
              generalize bs.getD n ⟨[], v00⟩ = y at f0 f3 NY
              go_wp2
              all_goals first
                | (go_ret; exact ⟨_, rfl, (fun h => by cases h), HN.out⟩)
                | (refine ⟨⟨n + 1, by simp, by omega, hbn, NY.out ⟨by have := st_size y.nm; omega, by have := st_size y.x.s; omega⟩⟩, ?_⟩; simp [intOf]; omega)
                | (go_roundw; case rel => exact ⟨n + 1, by simp, by omega, hbn, NY.out ⟨by have := st_size y.nm; omega, by have := st_size y.x.s; omega⟩⟩; case measure => simp [intOf]; omega)
            · have hkz : ¬ (n : Int) < bs.length := by omega
              go_wp2
              go_ret
              exact ⟨_, rfl, (fun _ => ⟨HL.out.1, ⟨HL.out.2.1, HL.out.2.2.1, HVS.out⟩, HL.out.2.2.2, HCS.out, all_idx ⟨[], v00⟩ fun j hj => NQ.out j (by omega)⟩), HN.out⟩
end Go.Proofs.YtpmhilaochfpaaaDoor
