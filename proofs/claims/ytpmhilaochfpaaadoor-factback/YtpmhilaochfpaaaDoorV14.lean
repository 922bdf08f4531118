import Derived.Test.YtpmhilaochfpaaaDoorV11
import Derived.Test.YtpmhilaochfpaaaDoorV10
import Derived.Deep.AppendLies
import Derived.Laws.OwnMore
import Derived.Laws.AppendOwn
import Derived.Deep.RegionHeld3
import Derived.WideShapes
namespace Go.Proofs.YtpmhilaochfpaaaDoor
set_option maxRecDepth 20000
open Go.RowKit
open Go.WideShapes (add_plain)
set_option linter.unusedVariables false
set_option linter.unusedSimpArgs false
set_option maxRecDepth 20000
theorem flat_len {n : Nat} : ∀ {css : List (List Value)}, (∀ c ∈ css, c.length = n) → css.flatten.length = css.length * n
  | [], _ => by simp
  | c :: css, h => by
    rw [List.flatten_cons, List.length_append, flat_len (fun d hd => h d (List.mem_cons_of_mem _ hd)), h c (List.mem_cons_self ..), List.length_cons, Nat.add_mul]; omega
theorem flat_get {n : Nat} : ∀ {css : List (List Value)}, (∀ c ∈ css, c.length = n) → ∀ i j, i < css.length → j < n → css.flatten[i * n + j]? = (css.getD i [])[j]?
  | [], _, i, j, hi, _ => by simp at hi
  | c :: css, h, 0, j, _, hj => by
    rw [List.flatten_cons, Nat.zero_mul, Nat.zero_add, List.getElem?_append_left (by rw [h c (List.mem_cons_self ..)]; exact hj)]; rfl
  | c :: css, h, i + 1, j, hi, hj => by
    have hc := h c (List.mem_cons_self ..)
    rw [List.flatten_cons, List.getElem?_append_right (by rw [hc, Nat.add_mul]; omega), hc, show (i + 1) * n + j - n = i * n + j by rw [Nat.add_mul]; omega]
    exact flat_get (fun d hd => h d (List.mem_cons_of_mem _ hd)) i j (by simpa using hi) hj
def OwnN (T : TypeId) (n : Nat) (w : World) (base : Nat) (v : Value) (css : List (List Value)) : Prop := (∀ c ∈ css, c.length = n) ∧ w.ownsRow base T n v css.length css.flatten
theorem OwnN.nil (T : TypeId) (n : Nat) (w : World) (base : Nat) : OwnN T n w base (.slice none 0 0) [] := ⟨by simp, World.ownsRow_nil w base _ n⟩
theorem OwnN.shape {T : TypeId} {n : Nat} {w : World} {base : Nat} {v : Value} {css : List (List Value)} (h : OwnN T n w base v css) : ∃ a cap, v = .slice a css.length cap := by
  rcases h.2.2 with ⟨rfl, h0⟩ | ⟨g, cap, cur, rfl, _⟩
  · exact ⟨none, 0, by rw [h0]⟩
  · exact ⟨_, cap, rfl⟩
theorem OwnN.move {T : TypeId} {n : Nat} {w w' : World} {base : Nat} {v : Value} {css : List (List Value)} (h : OwnN T n w base v css) (hb : ∀ g, base ≤ g → g < w.heap.size → w'.heap[g]? = w.heap[g]?) : OwnN T n w' base v css := by
  refine ⟨h.1, h.2.1, ?_⟩
  rcases h.2.2 with hn | ⟨g, cap, cur, rfl, hbb, hg, rest⟩
  · exact .inl hn
  · exact .inr ⟨g, cap, cur, rfl, hbb, (hb g hbb (Array.getElem?_eq_some_iff.1 hg).1).trans hg, rest⟩
theorem OwnN.below {T : TypeId} {n : Nat} {w w' : World} {base : Nat} {v : Value} {css : List (List Value)} (h : OwnN T n w base v css) (hf : Below w.heap.size w w') : OwnN T n w' base v css := h.move fun g _ h2 => hf.block g h2
theorem OwnN.mono {T : TypeId} {n : Nat} {w : World} {base b : Nat} {v : Value} {css : List (List Value)} (h : OwnN T n w base v css) (hb : b ≤ base) : OwnN T n w b v css := by
  refine ⟨h.1, h.2.1, ?_⟩
  rcases h.2.2 with hn | ⟨g, cap, cur, rfl, hbb, rest⟩
  · exact .inl hn
  · exact .inr ⟨g, cap, cur, rfl, Nat.le_trans hb hbb, rest⟩
theorem OwnN.sl {T : TypeId} {n : Nat} {w : World} {base : Nat} {v : Value} {css : List (List Value)} (h : OwnN T n w base v css) : SlW n w (fun b => base ≤ b) v css := by
  have h' := h.2
  rcases h.2.2 with ⟨rfl, h0⟩ | ⟨g, cap, cur, rfl, hb, hg, hc, hm, hs, ht⟩
  · have : css = [] := List.eq_nil_of_length_eq_zero h0
    subst this
    exact ⟨none, 0, rfl, Nat.le_refl _, by decide, .inl rfl⟩
  · refine ⟨_, cap, rfl, hc, by unfold maxLen at hm; omega, .inr ⟨g, 0, rfl, (Array.getElem?_eq_some_iff.1 hg).1, hb, fun i j hi hj => ?_⟩⟩
    rw [Nat.zero_add]
    have : i * n + j < css.length * n := Nat.lt_of_lt_of_le (Nat.add_lt_add_left hj _) (by rw [← Nat.succ_mul]; exact Nat.mul_le_mul_right n hi)
    exact (World.ownsRow.cellAt (g := g) h' (i * n + j) this).trans (flat_get h.1 i j hi hj)
theorem run_append_empty {P : Program} {w : World} (base : Nat) (t ty e : TypeId) (i : TypeInfo) (size : Nat) (ht : P.underlying t = some (.slice e)) (hi : P.info? e = some i)
    (v : Value) (n : Nat) (xs : List Value) (hown : w.ownsRow base e size v n xs) (c : Nat) : (Builtin.append_ #[t, t] ty #[v, .slice none 0 c]).run P w = .ok v w := by
  rcases hown.2 with ⟨rfl, rfl⟩ | ⟨g, cap, cur, rfl, _, _, hnc, _⟩
  · simp [Builtin.append_, run_underlying ht, sizeOf, typeInfo, hi, Builtin.lenOf, Builtin.firstCells]
  · simp [Builtin.append_, run_underlying ht, sizeOf, typeInfo, hi, Builtin.lenOf, Builtin.firstCells, hnc, storeCells]
theorem SlW.flat {n : Nat} {w : World} {P : Nat → Prop} {a : Addr} {m cap : Nat} {css : List (List Value)} (h : SlW n w P (.slice (some a) m cap) css) (hl : ∀ c ∈ css, c.length = n) (hn : 0 < n) : ∀ j u, css.flatten[j]? = some u → w.cell? (a.add j) = some u := by
  intro j u hu
  obtain ⟨a', cap', h1, h2, h3, h4⟩ := h
  obtain ⟨rfl, rfl, rfl⟩ := Value.slice.inj h1
  rcases h4 with rfl | ⟨b, off, e, hb, hp, hc⟩
  · simp at hu
  · obtain rfl := Option.some.inj e
    have hj : j < css.length * n := by
      have := (List.getElem?_eq_some_iff.1 hu).1
      rw [flat_len hl] at this; exact this
    have h1 : j / n < css.length := (Nat.div_lt_iff_lt_mul hn).2 hj
    have h2 : j % n < n := Nat.mod_lt _ hn
    have := flat_get hl (j / n) (j % n) h1 h2
    rw [Nat.div_add_mod' j n] at this
    rw [this] at hu
    have := hc (j / n) (j % n) h1 h2
    rw [Nat.div_add_mod' j n] at this
    rw [add_plain, this, hu]
theorem run_app_n {P : Program} {sl T : TypeId} {n bytes : Nat} {z : Value} (hsl : P.underlying sl = some (.slice T)) (hinfo : (P.info? T).map (fun i => (i.zero, i.size, i.bytes)) = some (some z, n, bytes)) (hzs : z.cells.size = n) (hn : 0 < n) (hby : bytes ≤ 96)
    {w : World} (ty : TypeId) (base : Nat) (v : Value) (css css2 : List (List Value)) (hown : OwnN T n w base v css)
    {Pb : Nat → Prop} (vx : Value) (hv : SlW n w Pb vx css2) (hcl : ∀ c ∈ css2, c.length = n) (hone : ∀ c ∈ css2, ∀ u ∈ c, u.oneCell' = true) (hlen : css.length + css2.length ≤ 1000000) (hbase : base ≤ w.heap.size) :
    ∃ v' w', (Builtin.append_ #[sl, sl] ty #[v, vx]).run P w = .ok v' w' ∧ OwnN T n w' base v' (css ++ css2) ∧ w.grownBy w' v.ownBlock ∧ Below base w w' := by
  obtain ⟨i0, hi, hz0, hz1, hz2⟩ := info_parts hinfo
  have hv' := hv
  obtain ⟨ax, cap, rfl, h2, h3, h4⟩ := hv'
  cases ax with
  | none =>
    obtain rfl : css2 = [] := by
      rcases h4 with h4 | ⟨b, off, e, _⟩
      · exact h4
      · cases e
    exact ⟨v, w, run_append_empty (P := P) (w := w) base sl ty T i0 n hsl hi v css.length css.flatten hown.2 cap, by rw [List.append_nil]; exact hown, ⟨rfl, rfl, rfl, Nat.le_refl _, fun _ _ _ => rfl⟩, Below.refl _ _⟩
  | some ad =>
    obtain ⟨v', w', hrun, h5, h6, _⟩ := run_append_own (P := P) w base sl ty T i0 z n bytes hsl hi hz0 hz1 hz2 hzs hn v css.length css.flatten hown.2 ad css2.length cap css2.flatten (by rw [flat_len hcl]) (hv.flat hcl hn) (fun u hu => by obtain ⟨c, hc, hu⟩ := List.mem_flatten.1 hu; exact hone c hc u hu) (by unfold maxLen; omega) (Nat.le_trans (Nat.mul_le_mul_left _ hby) (by omega)) hbase
    refine ⟨v', w', hrun, ⟨fun d hd => ?_, ?_⟩, h6, (Below.refl base w).grown h6 hbase (fun k hk => (World.ownsRow.lt hown.2 k hk).1)⟩
    · rcases List.mem_append.1 hd with hd | hd
      · exact hown.1 d hd
      · exact hcl d hd
    · rw [List.length_append, List.flatten_append]; exact h5
theorem wp_app_n {sl T : TypeId} {n bytes : Nat} {z : Value} (hsl : Tryd.prog.underlying sl = some (.slice T)) (hinfo : (Tryd.prog.info? T).map (fun i => (i.zero, i.size, i.bytes)) = some (some z, n, bytes)) (hzs : z.cells.size = n) (hn : 0 < n) (hby : bytes ≤ 96)
    {ops : Array Oper} {rest : List Oper} {o : Oper} {a : Act} {Q : Exit → Act → World → Prop} {w : World} (hgd : o.guard = none) (s x : Operand)
    (ho : o.op = .call { callee := .builtin .append, args := #[s, x], argTypes := #[sl, sl] }) (base : Nat) (v : Value) (css css2 : List (List Value)) (hs : a.eval s = v) (hown : OwnN T n w base v css)
    {Pb : Nat → Prop} (vx : Value) (hx : a.eval x = vx) (hv : SlW n w Pb vx css2) (hcl : ∀ c ∈ css2, c.length = n) (hone : ∀ c ∈ css2, ∀ u ∈ c, u.oneCell' = true) (hlen : css.length + css2.length ≤ 1000000) (hbase : base ≤ w.heap.size)
    (h : ∀ v' w', OwnN T n w' base v' (css ++ css2) → w.grownBy w' v.ownBlock → Below base w w' → wpList Tryd.prog ops Q rest (a.put o.dst v') w') : wpList Tryd.prog ops Q (o :: rest) a w := by
  obtain ⟨v', w', hrun, h1, h2, h3⟩ := run_app_n hsl hinfo hzs hn hby o.type base v css css2 hown vx hv hcl hone hlen hbase
  refine wpList_plain hgd fun K' hK' => ?_
  unfold Oper.wp
  simp [execOp, ho, resolve, invoke, builtin, hs, hx, hrun, Result.andThen]
  exact hK' _ _ (h v' w' h1 h2 h3)
end Go.Proofs.YtpmhilaochfpaaaDoor
