/- A value set in a row of one's own; a row's first elements; what With tells. -/
import Derived.Test.YtbbjhiijialfoaaDoorCe
namespace Go.Proofs.YtbbjhiijialfoaaDoor
set_option maxRecDepth 20000
open Go.RowKit
set_option linter.unusedVariables false
set_option linter.unusedSimpArgs false

theorem flat_set3 : ∀ {css : List (List Value)}, (∀ c ∈ css, c.length = 3) → ∀ k, k < css.length → ∀ x y z, (css.set k [x, y, z]).flatten = ((css.flatten.set (k * 3) x).set (k * 3 + 1) y).set (k * 3 + 2) z
  | [], _, k, hk, _, _, _ => by simp at hk
  | c :: css, h, k, hk, x, y, z => by
    have hc := h c (List.mem_cons_self ..)
    obtain ⟨a, b, d, rfl⟩ : ∃ a b d, c = [a, b, d] := by
      match c, hc with
      | [a, b, d], _ => exact ⟨a, b, d, rfl⟩
    cases k with
    | zero => rfl
    | succ k =>
      have ih := flat_set3 (fun d hd => h d (List.mem_cons_of_mem _ hd)) k (by simpa using hk) x y z
      have e : (k + 1) * 3 = k * 3 + 3 := by omega
      rw [List.set_cons_succ, List.flatten_cons, ih, e, List.flatten_cons]
      rfl
theorem OwnN.set3 {T : TypeId} {w : World} {base g cap n : Nat} {css : List (List Value)} (h : OwnN T 3 w base (.slice (some ⟨g, 0, none⟩) n cap) css) {k : Nat} (hk : k < css.length) (x y z : Value) :
    OwnN T 3 (((w.setCell ⟨g, k * 3, none⟩ x).setCell ⟨g, k * 3 + 1, none⟩ y).setCell ⟨g, k * 3 + 2, none⟩ z) base (.slice (some ⟨g, 0, none⟩) n cap) (css.set k [x, y, z]) := by
  obtain ⟨h1, h2⟩ := h
  have hn : n = css.length := by
    rcases h2.2 with ⟨e, _⟩ | ⟨g', cap', cur, e, _⟩
    · cases e
    · exact (Value.slice.inj e).2.1
  subst hn
  refine ⟨fun c hc => ?_, ?_⟩
  · rcases List.mem_or_eq_of_mem_set hc with hc | rfl
    · exact h1 c hc
    · rfl
  · rw [List.length_set, flat_set3 h1 k hk]
    exact (((h2.stored (k * 3) x).1.stored (k * 3 + 1) y).1.stored (k * 3 + 2) z).1
/-- A row's block, where it has elements. -/
theorem OwnN.at {T : TypeId} {w : World} {base : Nat} {a : Option Addr} {n cap : Nat} {css : List (List Value)} (h : OwnN T 3 w base (.slice a n cap) css) (hn : 0 < css.length) :
    ∃ g, a = some ⟨g, 0, none⟩ ∧ base ≤ g ∧ g < w.heap.size ∧ ∀ k, k < css.length → ∀ j, j < 3 → (∃ u, w.cell? ⟨g, k * 3 + j, none⟩ = some u) ∧ w.frozen? ⟨g, k * 3 + j, none⟩ = false := by
  have h' := h.2
  rcases h.2.2 with ⟨e, h0⟩ | ⟨g, cap', cur, e, hb, hg, rest⟩
  · omega
  · obtain ⟨rfl, rfl, rfl⟩ := Value.slice.inj e
    refine ⟨g, rfl, hb, (Array.getElem?_eq_some_iff.1 hg).1, fun k hk j hj => ⟨?_, World.ownsRow.frozenAt h' _⟩⟩
    have hlt : k * 3 + j < css.length * 3 := by omega
    rw [World.ownsRow.cellAt h' _ hlt]
    exact ⟨_, List.getElem?_eq_getElem (by rw [flat_len h.1]; exact hlt)⟩
theorem SlW.take {n : Nat} {w : World} {P : Nat → Prop} {a : Option Addr} {m cap : Nat} {css : List (List Value)} (h : SlW n w P (.slice a m cap) css) {i : Nat} (hi : i ≤ css.length) : SlW n w P (.slice a i cap) (css.take i) := by
  obtain ⟨a', cap', e, h2, h3, h4⟩ := h
  obtain ⟨rfl, rfl, rfl⟩ := Value.slice.inj e
  have hl : (css.take i).length = i := by rw [List.length_take]; omega
  refine ⟨a, cap, by rw [hl], by omega, h3, ?_⟩
  rcases h4 with rfl | ⟨b, off, e, hb, hp, hc⟩
  · exact .inl (by simp)
  · refine .inr ⟨b, off, e, hb, hp, fun k j hk hj => ?_⟩
    rw [hc k j (by omega) hj, List.getD_eq_getElem?_getD, List.getD_eq_getElem?_getD, List.getElem?_take_of_lt (by omega)]
theorem place_bad {k : ClassD} {zs : List Str} {vs : List VD} {b : BoundD} (h : (placeP k.attrs zs b).2 ≠ 0) : setsS k (zs, vs) b = .error (placeP k.attrs zs b).2 := by
  unfold placeP at h ⊢
  unfold setsS
  split
  · rfl
  · split
    · rfl
    · rename_i h1 h2
      rw [if_neg h1, if_neg h2] at h
      exact if_pos h
theorem place_ok {k : ClassD} {zs : List Str} {vs : List VD} {b : BoundD} (h : (placeP k.attrs zs b).2 = 0) : 0 ≤ (placeP k.attrs zs b).1 ∧ (placeP k.attrs zs b).1.toNat < k.attrs.length ∧ setsS k (zs, vs) b = .ok (zs ++ [b.nm], vs.set (placeP k.attrs zs b).1.toNat b.x) := by
  unfold placeP at h ⊢
  unfold setsS
  split
  · rename_i h1; rw [if_pos h1] at h; exact absurd h (by decide)
  · split
    · rename_i h1 h2; rw [if_neg h1, if_pos h2] at h; exact absurd h (by decide)
    · rename_i h1 h2
      rw [if_neg h1, if_neg h2] at h
      have h0 : 0 ≤ idxS k.attrs b.nm := by omega
      exact ⟨h0, (idxS_lt h0).1, if_neg (fun hx => hx h)⟩
def fZ : Value := .agg #[.int .i64 0, .string ⟨#[]⟩, .slice none 0 0]
/-- What With and Make tell. -/
def WP (w : World) (r : Except Int FactD) (e : Ending) (w' : World) : Prop := Below w.heap.size w w' ∧ match r with
  | .error er => e = .returned (.tuple #[.agg #[.int .i64 0, .string ⟨#[]⟩, .slice none 0 0], .int .i64 er])
  | .ok g => ∃ v, e = .returned (.tuple #[.agg #[.int .i64 g.t, .string (st g.c), v], .int .i64 0]) ∧ OwnV w' w.heap.size v g.vs
theorem setThree_below {w w1 : World} {B b : Nat} {x y z : Value} (h : Below B w w1) (hb : B ≤ b) : Below B w (((w1.setCell ⟨b, 0, none⟩ x).setCell ⟨b, 1, none⟩ y).setCell ⟨b, 2, none⟩ z) := ((h.setCell hb _).setCell hb _).setCell hb _
theorem setRow_below {w w1 : World} {B b k : Nat} {x y z : Value} (h : Below B w w1) (hb : B ≤ b) : Below B w (((w1.setCell ⟨b, k, none⟩ x).setCell ⟨b, k + 1, none⟩ y).setCell ⟨b, k + 2, none⟩ z) := ((h.setCell hb _).setCell hb _).setCell hb _
theorem heap_three {w : World} {b k : Nat} {x y z : Value} (h : k ≠ b) : (((w.setCell ⟨b, 0, none⟩ x).setCell ⟨b, 1, none⟩ y).setCell ⟨b, 2, none⟩ z).heap[k]? = w.heap[k]? :=
  ((Below.heap_setCell _ ⟨b, 2, none⟩ _ k h).trans (Below.heap_setCell _ ⟨b, 1, none⟩ _ k h)).trans (Below.heap_setCell w ⟨b, 0, none⟩ _ k h)
end Go.Proofs.YtbbjhiijialfoaaDoor
