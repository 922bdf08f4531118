/- append onto one's own. -/
import Derived.Test.YtadnflaocgmfgaaLay
import Derived.Laws.AppendOwnNone
namespace Go.Proofs.Ytadnflaocgmfgaa
open Go.RowKit
set_option linter.unusedVariables false
theorem wp_app_bv {ops : Array Oper} {rest : List Oper} {o : Oper} {a : Act} {Q : Exit → Act → World → Prop} {w : World} (hgd : o.guard = none) (s x : Operand)
    (ho : o.op = .call { callee := .builtin .append, args := #[s, x], argTypes := #[27, 27] }) (base : Nat) (v : Value) (zs ys : List Int) (hs : a.eval s = v) (hown : Own w base v zs)
    (ad : Option Addr) (cap : Nat) (hx : a.eval x = .slice ad ys.length cap) (hv : BV w ad ys) (hn : ad = none → cap = 0) (hlen : zs.length + ys.length ≤ 1000000) (hbase : base ≤ w.heap.size)
    (h : ∀ v' w', Own w' base v' (zs ++ ys) → Below base w w' → wpList Try.prog ops Q rest (a.put o.dst v') w') : wpList Try.prog ops Q (o :: rest) a w := by
  obtain ⟨i0, hi, hz0, hz1, hz2⟩ := info_parts Try.info5
  cases ad with
  | none =>
    obtain rfl := hn rfl
    obtain rfl : ys = [] := slice_some_len hv rfl
    refine wpList_append_own_none hgd s x 27 ho base 5 i0 1 Try.underlying27 hi v zs.length (zs.map (Value.int .u8)) hs hown hx ?_
    exact h v w (by simpa using hown) (Below.refl _ _)
  | some ad =>
    refine wpList_append_own w hgd s x 27 ho base 5 i0 (.int .u8 0) 1 1 Try.underlying27 hi hz0 hz1 hz2 rfl (by decide) v zs.length (zs.map (Value.int .u8)) hs hown ad ys.length cap (ys.map (Value.int .u8)) hx (by simp) ?_ (u8row _) (by unfold maxLen; omega) (by omega) hbase ?_
    · intro j u hu
      rw [List.getElem?_map] at hu
      obtain ⟨z, hz, rfl⟩ := Option.map_eq_some_iff.1 hu
      have hj := (List.getElem?_eq_some_iff.1 hz).1
      obtain ⟨_, h1 | ⟨b, off, hx, hlt, hc⟩⟩ := hv
      · subst h1; simp at hj
      · obtain rfl := Option.some.inj hx
        rw [add_plain]
        have := hc j hj
        rw [this, List.getD_eq_getElem?_getD, hz]; rfl
    · intro v' w' h1 h2 _
      have ho' : Own w' base v' (zs ++ ys) := by
        unfold Own
        rw [List.length_append, List.map_append]
        exact h1
      refine h v' w' ho' ?_
      exact (Below.refl base w).grown h2 hbase (fun k hk => (World.ownsRow.lt hown k hk).1)
theorem Parts.below {w w' : World} {g off : Nat} {zss : List (List Int)} (h : Parts w g off zss) (hg : g < w.heap.size) (hb : Below w.heap.size w w') : Parts w' g off zss := by
  intro i hi
  obtain ⟨a, c, h1, h2, h3, h4⟩ := h i hi
  exact ⟨a, c, (hb.cell (p := ⟨g, off + i, none⟩) hg).trans h1, h2, h3.below hb, h4⟩
theorem BV.alloc {w : World} {a : Option Addr} {zs : List Int} (h : BV w a zs) (o : Obj) : BV (w.alloc o) a zs := h.below ((Below.refl _ _).alloc (Nat.le_refl _) _)
theorem parts1 {w : World} {a : Option Addr} {cap : Nat} {zs : List Int} (hb : BV w a zs) (hn : a = none → cap = 0) (hm : zs.length ≤ 9223372036854775807) :
    Parts (w.alloc (.cells #[.slice a zs.length cap] 27)) w.heap.size 0 [zs] := by
  intro i hi
  obtain rfl : i = 0 := by simpa using hi
  exact ⟨a, cap, by go_simp, hn, hb.alloc _, hm⟩
theorem Own.slice {w : World} {base : Nat} {v : Value} {zs : List Int} (h : Own w base v zs) (hz : AllB zs) : ∃ a cap, v = .slice a zs.length cap ∧ (a = none → cap = 0) ∧ BV w a zs ∧ zs.length ≤ cap ∧ cap ≤ maxLen := by
  obtain ⟨a, cap, rfl, h1, h2, _, h4⟩ := h.view hz
  refine ⟨a, cap, rfl, ?_, h.bv hz, h1, h2⟩
  rintro rfl
  rcases h.2 with ⟨e, _⟩ | ⟨g, c, cur, e, _⟩
  · exact (Value.slice.inj e).2.2
  · cases e
theorem Own.mono {w : World} {b1 b2 : Nat} {v : Value} {zs : List Int} (h : Own w b1 v zs) (hb : b2 ≤ b1) : Own w b2 v zs := by
  refine ⟨h.1, ?_⟩
  rcases h.2 with hn | ⟨g, cap, cur, rfl, hbb, hg, rest⟩
  · exact .inl hn
  · exact .inr ⟨g, cap, cur, rfl, Nat.le_trans hb hbb, hg, rest⟩
end Go.Proofs.Ytadnflaocgmfgaa
