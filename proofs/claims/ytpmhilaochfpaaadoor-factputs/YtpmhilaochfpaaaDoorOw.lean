/- What every right program lays of one number and one text: the call 'awake' of the statements answers true. -/
import Derived.Test.YtpmhilaochfpaaaDoorNew
import Derived.Test.YtpmhilaochfpaaaDoorPuts2
namespace Go.Proofs.YtpmhilaochfpaaaDoor
set_option maxRecDepth 20000
set_option maxRecDepth 20000
open Go.RowKit

theorem Own.shape {w : World} {base : Nat} {v : Value} {zs : List Int} (h : Own w base v zs) (n : Nat) (hn : zs.length = n) (hp : 0 < n) : ∃ g cap, v = .slice (some ⟨g, 0, none⟩) n cap ∧ n ≤ cap ∧ base ≤ g ∧ g < w.heap.size := by
  subst hn
  have hl := World.ownsRow.lt h
  rcases h.2 with ⟨rfl, hn⟩ | ⟨g, cap, cur, rfl, hb, hg, hnc, hcm, hcs, htake⟩
  · omega
  · exact ⟨g, cap, rfl, hnc, hb, (hl g rfl).2⟩
theorem conv_own {w : World} {base : Nat} {v : Value} {zs : List Int} (h : Own w base v zs) (hz : AllB zs) : (convert 53 9 v).run Tryd.prog w = .ok (.string (strOfNums zs)) w := by
  obtain ⟨a, cap, rfl, _, _, _, hb⟩ := h.view hz
  rcases hb with rfl | ⟨b, off, rfl, _, _, hc⟩
  · cases a with
    | none => exact run_convert_bytes_nil (P := Tryd.prog) w 53 5 Tryd.underlying53 Tryd.underlying5 0 cap 9 Tryd.underlying9
    | some x =>
      show (convert 53 9 (.slice (some x) 0 cap)).run Tryd.prog w = _
      rw [run_convert_bytes_string w 53 9 5 _ 0 cap Tryd.underlying53 Tryd.underlying5 Tryd.underlying9, run_bytesToString w x 0 cap [] (by simp [loadCells, loadCellsFrom])]
      rfl
  · exact run_convert_bytes_arg (P := Tryd.prog) w 53 5 Tryd.underlying53 Tryd.underlying5 b off zs.length cap zs rfl hc 9 Tryd.underlying9
theorem Own.cellsAt {w : World} {base : Nat} {g n cap : Nat} {zs : List Int} (h : Own w base (.slice (some ⟨g, 0, none⟩) n cap) zs) : ∀ j u, (zs.map (Value.int .u8))[j]? = some u → w.cell? ((⟨g, 0, none⟩ : Addr).add j) = some u :=
  World.ownsRow.cells h (g := g) rfl

theorem Own.bv {w : World} {base : Nat} {a : Option Addr} {n cap : Nat} {zs : List Int} (h : Own w base (.slice a n cap) zs) (hz : AllB zs) : BV w a zs := by
  obtain ⟨a', cap', e, _, _, _, hb⟩ := h.view hz
  obtain ⟨rfl, _, _⟩ := Value.slice.inj e
  refine ⟨hz, ?_⟩
  rcases hb with h1 | ⟨b, off, e, _, h2, h3⟩
  · exact .inl h1
  · exact .inr ⟨b, off, e, h2, h3⟩

theorem wp_app {ops : Array Oper} {rest : List Oper} {o : Oper} {a : Act} {Q : Exit → Act → World → Prop} {w : World} (hgd : o.guard = none) (s x : Operand)
    (ho : o.op = .call { callee := .builtin .append, args := #[s, x], argTypes := #[53, 53] }) (base base2 : Nat) (v : Value) (zs ys : List Int) (hs : a.eval s = v) (hown : Own w base v zs)
    (g m c : Nat) (hx : a.eval x = .slice (some ⟨g, 0, none⟩) m c) (hm : ys.length = m) (hsrc : Own w base2 (.slice (some ⟨g, 0, none⟩) m c) ys) (N : Nat) (hN : zs.length + ys.length = N) (hlen : N ≤ 1000000) (hpos : 0 < N) (hbase : base ≤ w.heap.size)
    (h : ∀ g' c' w', Own w' base (.slice (some ⟨g', 0, none⟩) N c') (zs ++ ys) → Below base w w' → wpList Tryd.prog ops Q rest (a.put o.dst (.slice (some ⟨g', 0, none⟩) N c')) w') : wpList Tryd.prog ops Q (o :: rest) a w := by
  obtain ⟨i0, hi, hz0, hz1, hz2⟩ := info_parts Tryd.info5
  refine wpList_append_own w hgd s x 53 ho base 5 i0 (.int .u8 0) 1 1 Tryd.underlying53 hi hz0 hz1 hz2 rfl (by decide) v zs.length (zs.map (Value.int .u8)) hs hown ⟨g, 0, none⟩ m c (ys.map (Value.int .u8)) hx (by simp [hm]) hsrc.cellsAt (u8row _) (by unfold maxLen; omega) (by omega) hbase ?_
  intro v' w' h1 h2 _
  have ho' : Own w' base v' (zs ++ ys) := by
    unfold Own
    rw [List.length_append, List.map_append, hm]
    exact h1
  obtain ⟨g', c', rfl, _, _, _⟩ := ho'.shape N (by rw [List.length_append, hN]) hpos
  refine h g' c' w' ho' ?_
  exact (Below.refl base w).grown h2 hbase (fun k hk => (World.ownsRow.lt hown k hk).1)

end Go.Proofs.YtpmhilaochfpaaaDoor
