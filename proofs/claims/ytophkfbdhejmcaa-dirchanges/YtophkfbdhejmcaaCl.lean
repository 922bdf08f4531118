/- slices.Clone of ints, append of ints, clone of a directory. -/
import Derived.Test.YtophkfbdhejmcaaPl
namespace Go.Proofs.Ytophkfbdhejmcaa
open Go.RowKit
set_option linter.unusedVariables false
set_option maxRecDepth 20000

theorem i64row (zs : List Int) : ∀ v ∈ zs.map (Value.int .i64), v.oneCell' = true := by
  intro v hv
  obtain ⟨z, _, rfl⟩ := List.mem_map.1 hv
  rfl
theorem IV.cells {w : World} {x : Addr} {zs : List Int} (h : IV w (some x) zs) : ∀ j u, (zs.map (Value.int .i64))[j]? = some u → w.cell? (x.add j) = some u := by
  intro j u hu
  rw [List.getElem?_map] at hu
  obtain ⟨z, hz, rfl⟩ := Option.map_eq_some_iff.1 hu
  have hj := (List.getElem?_eq_some_iff.1 hz).1
  obtain h1 | ⟨b, off, hx, hlt, hc⟩ := h
  · subst h1; simp at hj
  · obtain rfl := Option.some.inj hx
    rw [add_plain]
    have := hc j hj
    rw [List.getD_eq_getElem?_getD, hz] at this
    exact this
theorem IV.nones {w : World} {zs : List Int} (h : IV w none zs) : zs = [] := by
  obtain h | ⟨b, off, h, _⟩ := h
  · exact h
  · cases h
set_option maxHeartbeats 400000 in
theorem clonei_nil (w : World) :
    Calls Try.prog 51 #[.slice none 0 0] w fun e w' => e = .returned (.slice none 0 0) ∧ w' = w := by
  have heq := fun wx => Lib.run_eql_slice_nil (P := Try.prog) wx 22 3 none 0 0 0 0 Try.underlying22
  go_enter Try.func51, Try.ntmps51
  go_wp2
  go_ret
  exact ⟨rfl, rfl⟩
set_option maxHeartbeats 400000 in
theorem clonei_some (x : Addr) (cap : Nat) (zs : List Int) (w : World) (hb : IV w (some x) zs) (hm : zs.length ≤ 1000000) :
    Calls Try.prog 51 #[.slice (some x) zs.length cap] w fun e w' => ∃ v, e = .returned v ∧ OwnI w' w.heap.size v zs ∧ Below w.heap.size w w' := by
  obtain ⟨i0, hi, hz0, hz1, hz2⟩ := info_parts Try.info3
  have hlit : (w.alloc (.cells #[] 3)).ownsRow w.heap.size 3 1 (.slice (some ⟨w.heap.size, 0, none⟩) 0 0) 0 [] := World.ownsRow_lit w #[] 0 (Nat.le_refl _) (by decide) rfl
  have hcs := (hb.below (one_block w (.cells #[] 3))).cells
  clear hb
  have heq := fun wx => Lib.run_eql_slice_nil (P := Try.prog) wx 22 3 (some x) zs.length cap 0 0 Try.underlying22
  go_enter Try.func51, Try.ntmps51
  go_wp2_with (at_builtin; refine wpList_append_own _ rfl _ _ 22 rfl w.heap.size 3 i0 (.int .i64 0) 1 8 Try.underlying22 hi hz0 hz1 hz2 rfl (by decide) _ 0 _ rfl hlit x zs.length cap (zs.map (Value.int .i64)) rfl ?c0 hcs (i64row _) ?c3 ?c4 ?c5 ?_)
  case c0 => simp
  case c3 => unfold maxLen; omega
  case c4 => omega
  case c5 => simp
  intro v' w1 hown hgrow _
  have HB : Hid (Below w.heap.size w w1) := ((Below.refl _ _).alloc (Nat.le_refl _) _).grown hgrow (by simp) (by intro j hj; simp [Value.ownBlock] at hj; omega)
  have HO : Hid (OwnI w1 w.heap.size v' zs) := by
    simpa [OwnI, Hid] using hown
  clear hgrow hlit hcs hown
  go_wp2
  go_ret
  exact ⟨_, rfl, HO, HB⟩
theorem clonei_any (a : Option Addr) (cap : Nat) (zs : List Int) (w : World) (hb : IV w a zs) (hm : zs.length ≤ 1000000) (hn : a = none → cap = 0) :
    Calls Try.prog 51 #[.slice a zs.length cap] w fun e w' => ∃ v, e = .returned v ∧ OwnI w' w.heap.size v zs ∧ Below w.heap.size w w' := by
  cases a with
  | none =>
    obtain rfl := hn rfl
    obtain rfl : zs = [] := hb.nones
    refine (clonei_nil w).mono ?_
    rintro e w' ⟨rfl, hw⟩
    obtain rfl := hw.symm
    exact ⟨_, rfl, OwnI.nil _ _, Below.refl _ _⟩
  | some x => exact clonei_some x cap zs w hb hm
theorem wp_app_iv {ops : Array Oper} {rest : List Oper} {o : Oper} {a : Act} {Q : Exit → Act → World → Prop} {w : World} (hgd : o.guard = none) (s x : Operand)
    (ho : o.op = .call { callee := .builtin .append, args := #[s, x], argTypes := #[22, 22] }) (base : Nat) (v : Value) (zs ys : List Int) (hs : a.eval s = v) (hown : OwnI w base v zs)
    (ad : Option Addr) (cap : Nat) (hx : a.eval x = .slice ad ys.length cap) (hv : IV w ad ys) (hn : ad = none → cap = 0) (hlen : zs.length + ys.length ≤ 1000000) (hbase : base ≤ w.heap.size)
    (h : ∀ v' w', OwnI w' base v' (zs ++ ys) → Below base w w' → wpList Try.prog ops Q rest (a.put o.dst v') w') : wpList Try.prog ops Q (o :: rest) a w := by
  obtain ⟨i0, hi, hz0, hz1, hz2⟩ := info_parts Try.info3
  cases ad with
  | none =>
    obtain rfl := hn rfl
    obtain rfl : ys = [] := hv.nones
    refine wpList_append_own_none hgd s x 22 ho base 3 i0 1 Try.underlying22 hi v zs.length (zs.map (Value.int .i64)) hs hown hx ?_
    exact h v w (by simpa using hown) (Below.refl _ _)
  | some ad =>
    refine wpList_append_own w hgd s x 22 ho base 3 i0 (.int .i64 0) 1 8 Try.underlying22 hi hz0 hz1 hz2 rfl (by decide) v zs.length (zs.map (Value.int .i64)) hs hown ad ys.length cap (ys.map (Value.int .i64)) hx (by simp) hv.cells (i64row _) (by unfold maxLen; omega) (by omega) hbase ?_
    intro v' w' h1 h2 _
    have ho' : OwnI w' base v' (zs ++ ys) := by
      unfold OwnI
      rw [List.length_append, List.map_append]
      exact h1
    refine h v' w' ho' ?_
    exact (Below.refl base w).grown h2 hbase (fun k hk => (World.ownsRow.lt hown k hk).1)
/-- A directory, as an answer: its slots lie from K on. -/
def DA (K : Nat) (w' : World) (v : Value) (d : Int) (zs : List Int) : Prop := ∃ a c, v = dv d a zs.length c ∧ (a = none → c = 0) ∧ IVh K w' a zs
theorem OwnI.mono {w : World} {b1 b2 : Nat} {v : Value} {zs : List Int} (h : OwnI w b1 v zs) (hb : b2 ≤ b1) : OwnI w b2 v zs := by
  refine ⟨h.1, ?_⟩
  rcases h.2 with hn | ⟨g, cap, cur, rfl, hbb, hg, rest⟩
  · exact .inl hn
  · exact .inr ⟨g, cap, cur, rfl, Nat.le_trans hb hbb, hg, rest⟩
theorem OwnI.da {w : World} {K : Nat} {v : Value} {zs : List Int} (h : OwnI w K v zs) (d : Int) : DA K w (.agg #[.int .i64 d, v]) d zs := by
  obtain ⟨a, c, rfl, h1, h2, _, _⟩ := h.view
  exact ⟨a, c, rfl, h1, h2⟩
theorem IVh.mono {K L : Nat} {w : World} {a : Option Addr} {zs : List Int} (h : IVh K w a zs) (hl : L ≤ K) : IVh L w a zs := by
  rcases h with rfl | ⟨b, off, rfl, h1, hlt, hc⟩
  · exact .inl rfl
  · exact .inr ⟨b, off, rfl, Nat.le_trans hl h1, hlt, hc⟩
theorem IVh.setCell {K : Nat} {w : World} {a : Option Addr} {zs : List Int} (h : IVh K w a zs) {p : Addr} (hp : p.block < K) (x : Value) : IVh K (w.setCell p x) a zs := by
  have hB : ∀ k, K ≤ k → k < w.heap.size → (w.setCell p x).heap[k]? = w.heap[k]? := fun k hk _ => Below.heap_setCell _ _ _ _ (by omega)
  exact h.keep hB (by simp)
/-- The boxes of an argument and of an answer. -/
theorem box22 {w W : World} {t t' : Nat} {x y : Value} (hb : Below ((w.alloc (.cells #[x, y] t)).alloc (.cells #[.int .i64 0, .slice none 0 0] t')).heap.size ((w.alloc (.cells #[x, y] t)).alloc (.cells #[.int .i64 0, .slice none 0 0] t')) W) :
    W.cell? ⟨w.heap.size, 0, none⟩ = some x ∧ W.cell? ⟨w.heap.size, 1, none⟩ = some y ∧ W.cell? ⟨w.heap.size + 1, 0, none⟩ = some (.int .i64 0) ∧ W.cell? ⟨w.heap.size + 1, 1, none⟩ = some (.slice none 0 0) ∧ W.frozen? ⟨w.heap.size + 1, 0, none⟩ = false ∧ W.frozen? ⟨w.heap.size + 1, 1, none⟩ = false :=
  ⟨(hb.cell (p := ⟨w.heap.size, 0, none⟩) (by simp; omega)).trans (by go_simp), (hb.cell (p := ⟨w.heap.size, 1, none⟩) (by simp; omega)).trans (by go_simp), (hb.cell (p := ⟨w.heap.size + 1, 0, none⟩) (by simp)).trans (by go_simp), (hb.cell (p := ⟨w.heap.size + 1, 1, none⟩) (by simp)).trans (by go_simp), (hb.frozen (p := ⟨w.heap.size + 1, 0, none⟩) (by simp)).trans (by go_simp), (hb.frozen (p := ⟨w.heap.size + 1, 1, none⟩) (by simp)).trans (by go_simp)⟩
theorem set2_keep {W : World} {g : Nat} {u0 u1 x y : Value} (c0 : W.cell? ⟨g, 0, none⟩ = some u0) (c1 : W.cell? ⟨g, 1, none⟩ = some u1) : ((W.setCell ⟨g + 1, 0, none⟩ x).setCell ⟨g + 1, 1, none⟩ y).cell? ⟨g, 0, none⟩ = some u0 ∧ ((W.setCell ⟨g + 1, 0, none⟩ x).setCell ⟨g + 1, 1, none⟩ y).cell? ⟨g, 1, none⟩ = some u1 := by
  have hB : Below (g + 1) W ((W.setCell ⟨g + 1, 0, none⟩ x).setCell ⟨g + 1, 1, none⟩ y) := ((Below.refl _ _).setCell (by simp) _).setCell (by simp) _
  exact ⟨(hB.cell (p := ⟨g, 0, none⟩) (by simp)).trans c0, (hB.cell (p := ⟨g, 1, none⟩) (by simp)).trans c1⟩
theorem set2_below {w W : World} (h : Below w.heap.size w W) {g : Nat} (hg : w.heap.size ≤ g) (x y : Value) : Below w.heap.size w ((W.setCell ⟨g, 0, none⟩ x).setCell ⟨g, 1, none⟩ y) := (h.setCell (p := ⟨g, 0, none⟩) hg _).setCell (p := ⟨g, 1, none⟩) hg _
theorem IVh.set2 {K L : Nat} {w : World} {a : Option Addr} {zs : List Int} (h : IVh K w a zs) {g : Nat} (hg : g < K) (hL : L ≤ K) (x y : Value) : IVh L ((w.setCell ⟨g, 0, none⟩ x).setCell ⟨g, 1, none⟩ y) a zs := ((h.setCell (p := ⟨g, 0, none⟩) hg x).setCell (p := ⟨g, 1, none⟩) hg y).mono hL
theorem OwnI.keep {w w' : World} {K : Nat} {v : Value} {zs : List Int} (h : OwnI w K v zs) (hk : ∀ k, K ≤ k → k < w.heap.size → w'.heap[k]? = w.heap[k]?) : OwnI w' K v zs := by
  refine ⟨h.1, ?_⟩
  have hl := World.ownsRow.lt h
  rcases h.2 with hn | ⟨g, cap, cur, rfl, hbb, hg, rest⟩
  · exact .inl hn
  · exact .inr ⟨g, cap, cur, rfl, hbb, (hk g hbb (hl g rfl).2).trans hg, rest⟩
theorem OwnI.set2 {w : World} {K : Nat} {v : Value} {zs : List Int} (h : OwnI w K v zs) {g : Nat} (hg : g < K) (x y : Value) : OwnI ((w.setCell ⟨g, 0, none⟩ x).setCell ⟨g, 1, none⟩ y) K v zs := by
  refine h.keep (fun k hk _ => ?_)
  rw [Below.heap_setCell _ ⟨g, 1, none⟩ _ _ (by show k ≠ g; omega), Below.heap_setCell _ ⟨g, 0, none⟩ _ _ (by show k ≠ g; omega)]
set_option maxHeartbeats 1600000 in
theorem clone_o (d : Int) (a : Option Addr) (cap : Nat) (zs : List Int) (w : World) (hp : IV w a zs) (hl : zs.length ≤ 1000000) (hn : a = none → cap = 0) :
    Calls Try.prog 41 #[dv d a zs.length cap] w fun e w' => ∃ v, e = .returned (.agg #[.int .i64 d, v]) ∧ OwnI w' (w.heap.size + 2) v zs ∧ Below w.heap.size w w' := by
  obtain ⟨W0, hW0⟩ : ∃ W0, W0 = (w.alloc (.cells #[.int .i64 d, .slice a zs.length cap] 26)).alloc (.cells #[.int .i64 0, .slice none 0 0] 26) := ⟨_, rfl⟩
  have HB0 : Hid (Below w.heap.size w W0) := by rw [hW0]; exact two_blocks _ _ _
  have HS0 : Hid (W0.heap.size = w.heap.size + 1 + 1) := by rw [hW0]; simp [Hid]
  have HC : Hid (∀ W, Below w.heap.size w W → Calls Try.prog 51 #[.slice a zs.length cap] W fun e w' => ∃ v, e = .returned v ∧ OwnI w' W.heap.size v zs ∧ Below W.heap.size W w') := fun W hW => clonei_any a cap zs W (hp.below hW) hl hn
  have CL : Hid (∀ W, Below W0.heap.size W0 W → W.cell? ⟨w.heap.size, 0, none⟩ = some (.int .i64 d) ∧ W.cell? ⟨w.heap.size, 1, none⟩ = some (.slice a zs.length cap)) := fun W hW => by
    rw [hW0] at hW
    exact ⟨(box22 hW).1, (box22 hW).2.1⟩
  have RL : Hid (∀ W, Below W0.heap.size W0 W → W.cell? ⟨w.heap.size + 1, 0, none⟩ = some (.int .i64 0) ∧ W.cell? ⟨w.heap.size + 1, 1, none⟩ = some (.slice none 0 0) ∧ W.frozen? ⟨w.heap.size + 1, 0, none⟩ = false ∧ W.frozen? ⟨w.heap.size + 1, 1, none⟩ = false) := fun W hW => by
    rw [hW0] at hW
    exact (box22 hW).2.2
  clear hp
  unfold dv
  go_enter Try.func41, Try.ntmps41
  go_wp2
  rw [← hW0]
  clear hW0
  go_region_held3 (fun W => W.cell? ⟨w.heap.size, 0, none⟩ = some (.int .i64 d) ∧ W.cell? ⟨w.heap.size, 1, none⟩ = some (.slice a zs.length cap)) (first | exact CL.out _ (Below.refl _ _).drew | exact CL.out _ ((Below.refl _ _).drew.trans b1) | exact set2_keep (CL.out _ ((Below.refl _ _).drew.trans b1)).1 (CL.out _ ((Below.refl _ _).drew.trans b1)).2) (first | (go_at_call 51; refine (HC.out _ HB0.out.drew).mono ?_; rintro e w1 ⟨v, rfl, ho, b1⟩; obtain ⟨a', c', rfl, hn', hiv, _, _⟩ := ho.view; obtain ⟨r0, r1, f0, f1⟩ := RL.out w1 ((Below.refl _ _).drew.trans b1)))
  go_wp2
  refine bodyPost_ret (v := .agg #[.int .i64 d, .slice a' zs.length c']) (by simp [results, Try.results41, go_sem, r0, r1]) rfl ⟨_, rfl, ?_, ?_⟩
  · exact (OwnI.mono ho (by have := HS0.out; show w.heap.size + 2 ≤ W0.heap.size; omega)).set2 (by omega) _ _
  · exact set2_below (bt HB0.out ((Below.refl _ _).drew.trans b1)) (by omega) _ _
theorem clone_d (d : Int) (a : Option Addr) (cap : Nat) (zs : List Int) (w : World) (hp : IV w a zs) (hl : zs.length ≤ 1000000) (hn : a = none → cap = 0) :
    Calls Try.prog 41 #[dv d a zs.length cap] w fun e w' => ∃ a' c', e = .returned (.agg #[.int .i64 d, .slice a' zs.length c']) ∧ (a' = none → c' = 0) ∧ IVh w.heap.size w' a' zs ∧ Below w.heap.size w w' := by
  refine (clone_o d a cap zs w hp hl hn).mono ?_
  rintro e w' ⟨v, rfl, ho, hb⟩
  obtain ⟨a', c', rfl, h1, h2, _, _⟩ := ho.view
  exact ⟨a', c', rfl, h1, h2.mono (by omega), hb⟩
end Go.Proofs.Ytophkfbdhejmcaa
