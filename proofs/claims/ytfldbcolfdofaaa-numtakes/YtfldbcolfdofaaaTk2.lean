/- The two readers of NumTakes side by side: what each step of a round leaves. -/
import Derived.Test.YtfldbcolfdofaaaRq
namespace Go.Proofs.Ytfldbcolfdofaaa
open Go.RowKit Rq

theorem rdq_frame {Q : Nat → Prop} {w w' : World} {rb : Nat} {zs : List Int} {e : Int} (h : RdQ Q w rb zs e) (hr : w'.heap[rb]? = w.heap[rb]?) (hb : ∀ k, Q k → k < w.heap.size → w'.heap[k]? = w.heap[k]?) (hs : w.heap.size ≤ w'.heap.size) : RdQ Q w' rb zs e := by
  obtain ⟨a, cap, ⟨c0, c1, f0, f1⟩, h2, h3, h4, h5⟩ := h
  refine ⟨a, cap, ⟨?_, ?_, ?_, ?_⟩, h2, h3, h4, ?_⟩
  · rw [World.cell?_of_block (a := ⟨rb, 0, none⟩) hr]; exact c0
  · rw [World.cell?_of_block (a := ⟨rb, 1, none⟩) hr]; exact c1
  · rw [World.frozen?_of_block (a := ⟨rb, 0, none⟩) hr]; exact f0
  · rw [World.frozen?_of_block (a := ⟨rb, 1, none⟩) hr]; exact f1
  · rcases h5 with h5 | ⟨b, off, e1, e2, e5, e3, e4⟩
    · exact .inl h5
    · refine .inr ⟨b, off, e1, e2, e5, by omega, fun i hi => ?_⟩
      rw [World.cell?_of_block (a := ⟨b, off + i, none⟩) (hb b e5 e3)]; exact e4 i hi
theorem rdq_of_rdl {w : World} {rb lo xb : Nat} {zs : List Int} {e : Int} (h : RdL w rb lo zs e) (hx : w.heap.size ≤ xb) : RdQ (fun b => lo ≤ b ∧ b ≠ xb) w rb zs e := by
  obtain ⟨a, cap, h1, h2, h3, h4, _, _, h5⟩ := h
  refine ⟨a, cap, h1, h2, h3, h4, ?_⟩
  rcases h5 with h5 | ⟨b, off, e1, e2, e5, e3, e4⟩
  · exact .inl h5
  · exact .inr ⟨b, off, e1, e2, ⟨e5, by omega⟩, e3, e4⟩

/-- In block rb a reader with zs left and the error e; in block xb a slice and a number; both of the call's own. -/
structure St (w0 wr : World) (lo rb xb : Nat) (zs : List Int) (e : Int) (a : Option Addr) (n cap : Nat) (e2 : Int) : Prop where
  rd : RdQ (fun b => lo ≤ b ∧ b ≠ xb) wr rb zs e
  x0 : wr.cell? ⟨xb, 0, none⟩ = some (.slice a n cap)
  x1 : wr.cell? ⟨xb, 1, none⟩ = some (.int .i64 e2)
  f0 : wr.frozen? ⟨xb, 0, none⟩ = false
  f1 : wr.frozen? ⟨xb, 1, none⟩ = false
  bl : Below w0.heap.size w0 wr
  rlt : rb < wr.heap.size
  rge : w0.heap.size ≤ rb
  rlo : lo ≤ rb
  xlt : xb < wr.heap.size
  xge : w0.heap.size ≤ xb
  xlo : lo ≤ xb
  ne : xb ≠ rb

theorem setCell_size (w : World) (p : Addr) (v : Value) : (w.setCell p v).heap.size = w.heap.size := by simp [World.setCell]

section
variable {w0 wr : World} {lo rb xb : Nat} {zs : List Int} {e : Int} {a : Option Addr} {n cap : Nat} {e2 : Int}

/-- Behind a call that turns nothing old. -/
theorem St.below (h : St w0 wr lo rb xb zs e a n cap e2) {w1 : World} (hb : Below wr.heap.size wr w1) : St w0 w1 lo rb xb zs e a n cap e2 := by
  have hs := hb.size
  have hx := hb.block xb h.xlt
  exact ⟨rdq_frame h.rd (hb.block rb h.rlt) (fun k _ hk => hb.block k hk) hs,
    (World.cell?_of_block (a := ⟨xb, 0, none⟩) hx).trans h.x0, (World.cell?_of_block (a := ⟨xb, 1, none⟩) hx).trans h.x1,
    (World.frozen?_of_block (a := ⟨xb, 0, none⟩) hx).trans h.f0, (World.frozen?_of_block (a := ⟨xb, 1, none⟩) hx).trans h.f1,
    h.bl.trans (hb.mono h.bl.size), by have := h.rlt; omega, h.rge, h.rlo, by have := h.xlt; omega, h.xge, h.xlo, h.ne⟩
/-- Behind a store into a block that is neither the reader's, nor x's, nor from lo on. -/
theorem St.store (h : St w0 wr lo rb xb zs e a n cap e2) (g k : Nat) (v : Value) (hg : g < lo) (hg0 : w0.heap.size ≤ g) : St w0 (wr.setCell ⟨g, k, none⟩ v) lo rb xb zs e a n cap e2 := by
  have r1 := h.rlo
  have r2 := h.xlo
  have hbk : ∀ j, lo ≤ j → (wr.setCell ⟨g, k, none⟩ v).heap[j]? = wr.heap[j]? := fun j hj => Below.heap_setCell _ _ _ _ (by show j ≠ g; omega)
  have hx := hbk xb r2
  exact ⟨rdq_frame h.rd (hbk rb r1) (fun j hq _ => hbk j hq.1) (by rw [setCell_size]; exact Nat.le_refl _),
    (World.cell?_of_block (a := ⟨xb, 0, none⟩) hx).trans h.x0, (World.cell?_of_block (a := ⟨xb, 1, none⟩) hx).trans h.x1,
    (World.frozen?_of_block (a := ⟨xb, 0, none⟩) hx).trans h.f0, (World.frozen?_of_block (a := ⟨xb, 1, none⟩) hx).trans h.f1,
    h.bl.setCell hg0 _, by rw [setCell_size]; exact h.rlt, h.rge, h.rlo, by rw [setCell_size]; exact h.xlt, h.xge, h.xlo, h.ne⟩
/-- Behind the store into x. -/
theorem St.put (h : St w0 wr lo rb xb zs e a n cap e2) (c : Option Addr) (n' cap' : Nat) (e' : Int) :
    St w0 ((wr.setCell ⟨xb, 0, none⟩ (.slice c n' cap')).setCell ⟨xb, 1, none⟩ (.int .i64 e')) lo rb xb zs e c n' cap' e' := by
  obtain ⟨rd, x0, x1, f0, f1, bl, rlt, rge, rlo, xlt, xge, xlo, ne⟩ := h
  have hbk : ∀ j, j ≠ xb → ((wr.setCell ⟨xb, 0, none⟩ (.slice c n' cap')).setCell ⟨xb, 1, none⟩ (.int .i64 e')).heap[j]? = wr.heap[j]? := fun j hj =>
    (Below.heap_setCell _ _ _ _ hj).trans (Below.heap_setCell _ _ _ _ hj)
  refine ⟨rdq_frame rd (hbk rb (Ne.symm ne)) (fun j hq _ => hbk j hq.2) (by rw [setCell_size, setCell_size]; exact Nat.le_refl _), ?_, ?_, ?_, ?_,
    (bl.setCell xge _).setCell xge _, by rw [setCell_size, setCell_size]; exact rlt, rge, rlo, by rw [setCell_size, setCell_size]; exact xlt, xge, xlo, ne⟩
  · go_simp
  · go_simp
  · go_simp
  · go_simp
/-- Behind a method of the reader. -/
theorem St.real (h : St w0 wr lo rb xb zs e a n cap e2) {w1 : World} {zs' : List Int} {e' : Int} (hr : RdQ (fun b => lo ≤ b ∧ b ≠ xb) w1 rb zs' e') (hg : wr.grownBy w1 (some rb)) : St w0 w1 lo rb xb zs' e' a n cap e2 := by
  have hx := hg.block xb h.xlt (by simpa using h.ne)
  have hs := hg.size
  exact ⟨hr, (World.cell?_of_block (a := ⟨xb, 0, none⟩) hx).trans h.x0, (World.cell?_of_block (a := ⟨xb, 1, none⟩) hx).trans h.x1,
    (World.frozen?_of_block (a := ⟨xb, 0, none⟩) hx).trans h.f0, (World.frozen?_of_block (a := ⟨xb, 1, none⟩) hx).trans h.f1,
    h.bl.grown hg h.bl.size (by intro k hk; obtain rfl := Option.some.inj hk; exact h.rge), by have := h.rlt; omega, h.rge, h.rlo, by have := h.xlt; omega, h.xge, h.xlo, h.ne⟩
/-- Behind New, and the making of x. -/
theorem St.made (w0 w1 w2 : World) (lo rb : Nat) (zs : List Int) (a : Option Addr) (n cap : Nat) (hr : RdL w2 rb lo zs 0) (hlo : lo = w1.heap.size) (h01 : Below w0.heap.size w0 w1) (h12 : Below lo w1 w2) :
    St w0 (w2.alloc (.cells #[.slice a n cap, .int .i64 0] 46)) lo rb w2.heap.size zs 0 a n cap 0 := by
  have hs := h12.size
  have ht := h01.size
  have hrb : lo ≤ rb ∧ rb < w2.heap.size := by obtain ⟨_, _, _, _, _, _, h6, h7, _⟩ := hr; exact ⟨h6, h7⟩
  have hal : Below w2.heap.size w2 (w2.alloc (.cells #[.slice a n cap, .int .i64 0] 46)) := (Below.refl _ _).alloc (Nat.le_refl _) _
  refine ⟨rdq_frame (rdq_of_rdl hr (Nat.le_refl _)) (hal.block rb hrb.2) (fun k _ hk => hal.block k hk) hal.size, ?_, ?_, ?_, ?_, (h01.trans (h12.mono (by omega))).alloc (by omega) _, by simp; omega, by omega, hrb.1, by simp, by omega, by omega, by omega⟩
  · go_simp
  · go_simp
  · go_simp
  · go_simp
end

/-- An append of what came in onto an empty slice of the call's own. -/
theorem wp_app_in {ops : Array Oper} {rest : List Oper} {o : Oper} {a : Act} {Q : Exit → Act → World → Prop} {w : World} (hgd : o.guard = none) (s x : Operand)
    (ho : o.op = .call { callee := .builtin .append, args := #[s, x], argTypes := #[22, 22] }) (base g0 c0 : Nat) (hs : a.eval s = .slice (some ⟨g0, 0, none⟩) 0 c0) (hown : Own w base (.slice (some ⟨g0, 0, none⟩) 0 c0) [])
    (ad : Option Addr) (zs : List Int) (cap : Nat) (hx : a.eval x = .slice ad zs.length cap) (hv : BV w ad zs) (hn : ad = none → cap = 0) (hlen : zs.length ≤ 1000000) (hbase : base ≤ w.heap.size)
    (h : ∀ g' c' w', Own w' base (.slice (some ⟨g', 0, none⟩) zs.length c') zs → base ≤ g' → g' < w'.heap.size → Below base w w' → wpList Try.prog ops Q rest (a.put o.dst (.slice (some ⟨g', 0, none⟩) zs.length c')) w') : wpList Try.prog ops Q (o :: rest) a w := by
  obtain ⟨i0, hi, hz0, hz1, hz2⟩ := info_parts Try.info5
  cases ad with
  | none =>
    obtain rfl := hn rfl
    obtain rfl : zs = [] := slice_some_len hv rfl
    refine wpList_append_own_none hgd s x 22 ho base 5 i0 1 Try.underlying22 hi _ 0 [] hs hown hx ?_
    have := World.ownsRow.lt hown g0 rfl
    exact h g0 c0 w hown this.1 this.2 (Below.refl _ _)
  | some ad =>
    refine wpList_append_own w hgd s x 22 ho base 5 i0 (.int .u8 0) 1 1 Try.underlying22 hi hz0 hz1 hz2 rfl (by decide) _ 0 [] hs hown ad zs.length cap (zs.map (Value.int .u8)) hx (by simp) ?_ (u8row _) (by unfold maxLen; omega) (by omega) hbase ?_
    · intro j u hu
      rw [List.getElem?_map] at hu
      obtain ⟨z, hz, rfl⟩ := Option.map_eq_some_iff.1 hu
      have hj := (List.getElem?_eq_some_iff.1 hz).1
      obtain ⟨_, h1 | ⟨b, off, hx, hlt, hc⟩⟩ := hv
      · subst h1; simp at hj
      · obtain rfl := Option.some.inj hx
        rw [add_plain]
        have := hc j hj
        rw [List.getD_eq_getElem?_getD, hz] at this
        exact this
    · intro v' w' h1 h2 h3
      have h1' : Own w' base v' zs := by
        have := h1
        simp only [Nat.zero_add, List.nil_append] at this
        exact this
      have hl := World.ownsRow.lt h1'
      rcases h1'.2 with ⟨e, _⟩ | ⟨g, cp, cur, e, _⟩
      · have := h3.1 e
        simp at this
      · subst e
        exact h g cp w' h1' (hl g rfl).1 (hl g rfl).2 ((Below.refl base w).grown h2 hbase (fun k hk => (World.ownsRow.lt hown k hk).1))
end Go.Proofs.Ytfldbcolfdofaaa
