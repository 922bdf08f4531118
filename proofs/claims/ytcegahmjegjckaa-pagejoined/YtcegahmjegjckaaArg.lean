/- What comes in: bytes, ints, words, and a body with what is changed of its page. -/
import Derived.Test.YtcegahmjegjckaaAwake
import Derived.Test.YtcegahmjegjckaaRWords
import Derived.ChangeSlices
import Derived.OpenShut
import Derived.ProofKit
namespace Go.Proofs.Ytcegahmjegjckaa
open Go.RowKit
set_option linter.unusedVariables false
set_option linter.unusedSimpArgs false
/-- Words of two bytes that lie at a. -/
def UV (w : World) (a : Option Addr) (zs : List Int) : Prop :=
  (∀ z ∈ zs, 0 ≤ z ∧ z ≤ 65535) ∧ (zs = [] ∨ ∃ b off, a = some ⟨b, off, none⟩ ∧ b < w.heap.size ∧ ∀ i, i < zs.length → w.cell? ⟨b, off + i, none⟩ = some (.int .u16 (zs.getD i 0)))
theorem UV.below {w w' : World} {a : Option Addr} {zs : List Int} (h : UV w a zs) (hb : Below w.heap.size w w') : UV w' a zs := by
  obtain ⟨hz, h1 | ⟨b, off, rfl, hlt, hc⟩⟩ := h
  · exact ⟨hz, .inl h1⟩
  · exact ⟨hz, .inr ⟨b, off, rfl, Nat.lt_of_lt_of_le hlt hb.size, fun i hi => (hb.cell (p := ⟨b, off + i, none⟩) hlt).trans (hc i hi)⟩⟩
theorem bytes_of {w : World} {a : Option Addr} {len cap : Nat} {zs : List Int} (h : (a = none ∧ len = 0 ∧ cap = 0 ∧ zs = []) ∨ ∃ x, a = some x ∧ len ≤ cap ∧ cap ≤ maxLen ∧ zs.length = cap ∧ (∀ i, i < zs.length → w.cell? (x.add i) = some (.int .u8 (zs.getD i 0))) ∧ ∀ n ∈ zs, (Lit.int .u8 n).wf = true) :
    ∃ ys : List Int, ys.length = len ∧ BV w a ys ∧ (a = none → cap = 0) ∧ len ≤ cap ∧ cap ≤ 9223372036854775807 := by
  rcases h with ⟨rfl, rfl, rfl, rfl⟩ | ⟨x, rfl, hl, hm, hz, hcell, hwz⟩
  · exact ⟨[], rfl, ⟨AllB.nil, .inl rfl⟩, fun _ => rfl, Nat.le_refl _, by decide⟩
  · refine ⟨zs.take len, by simp; omega, ⟨?_, ?_⟩, (fun h => by cases h), hl, by unfold maxLen at hm; omega⟩
    · intro z hz'
      have := bounds_u8 (hwz z (List.mem_of_mem_take hz'))
      omega
    · by_cases h0 : len = 0
      · left; simp [h0]
      · right
        obtain ⟨b, off, spot⟩ := x
        have hc := hcell 0 (by omega)
        have hspot : spot = none := by simpa [Addr.add] using World.cell?_spot hc
        subst hspot
        refine ⟨b, off, rfl, ?_, ?_⟩
        · have := World.block_lt_of_cell? _ _ hc
          simpa [Addr.add] using this
        · intro i hi
          rw [List.length_take] at hi
          have := hcell i (by omega)
          rw [add_plain] at this
          rw [this, List.getD_eq_getElem?_getD, List.getD_eq_getElem?_getD, List.getElem?_take, if_pos (by omega)]
theorem ints_of {w : World} {a : Option Addr} {len cap : Nat} {zs : List Int} (h : (a = none ∧ len = 0 ∧ cap = 0 ∧ zs = []) ∨ ∃ x, a = some x ∧ len ≤ cap ∧ cap ≤ maxLen ∧ zs.length = cap ∧ (∀ i, i < zs.length → w.cell? (x.add i) = some (.int .i64 (zs.getD i 0)))) :
    ∃ ys : List Int, ys.length = len ∧ IV w a ys ∧ (a = none → cap = 0) ∧ len ≤ cap ∧ cap ≤ 9223372036854775807 := by
  rcases h with ⟨rfl, rfl, rfl, rfl⟩ | ⟨x, rfl, hl, hm, hz, hcell⟩
  · exact ⟨[], rfl, .inl rfl, fun _ => rfl, Nat.le_refl _, by decide⟩
  · refine ⟨zs.take len, by simp; omega, ?_, (fun h => by cases h), hl, by unfold maxLen at hm; omega⟩
    by_cases h0 : len = 0
    · left; simp [h0]
    · right
      obtain ⟨b, off, spot⟩ := x
      have e0 := hcell 0 (by omega)
      have hs := World.cell?_spot e0
      obtain rfl : spot = none := by simpa [Addr.add] using hs
      have hb := World.block_lt_of_cell? _ _ e0
      simp only [add_plain] at hcell hb
      refine ⟨b, off, rfl, hb, fun i hi => ?_⟩
      have hi2 : i < len := by simp at hi; omega
      rw [getD_take zs len i hi2]
      exact hcell i (by omega)
theorem u16s_of {w : World} {a : Option Addr} {len cap : Nat} {zs : List Int} (h : (a = none ∧ len = 0 ∧ cap = 0 ∧ zs = []) ∨ ∃ x, a = some x ∧ len ≤ cap ∧ cap ≤ maxLen ∧ zs.length = cap ∧ (∀ i, i < zs.length → w.cell? (x.add i) = some (.int .u16 (zs.getD i 0))) ∧ ∀ n ∈ zs, (Lit.int .u16 n).wf = true) :
    ∃ ys : List Int, ys.length = len ∧ UV w a ys ∧ (a = none → cap = 0) ∧ len ≤ cap ∧ cap ≤ 9223372036854775807 := by
  rcases h with ⟨rfl, rfl, rfl, rfl⟩ | ⟨x, rfl, hl, hm, hz, hcell, hwz⟩
  · exact ⟨[], rfl, ⟨(by intro z hz; cases hz), .inl rfl⟩, fun _ => rfl, Nat.le_refl _, by decide⟩
  · refine ⟨zs.take len, by simp; omega, ⟨fun z hz' => (by have := bounds_u16 (hwz z (List.mem_of_mem_take hz')); omega), ?_⟩, (fun h => by cases h), hl, by unfold maxLen at hm; omega⟩
    by_cases h0 : len = 0
    · left; simp [h0]
    · right
      obtain ⟨b, off, spot⟩ := x
      have e0 := hcell 0 (by omega)
      have hs := World.cell?_spot e0
      obtain rfl : spot = none := by simpa [Addr.add] using hs
      have hb := World.block_lt_of_cell? _ _ e0
      simp only [add_plain] at hcell hb
      refine ⟨b, off, rfl, hb, fun i hi => ?_⟩
      have hi2 : i < len := by simp at hi; omega
      rw [getD_take zs len i hi2]
      exact hcell i (by omega)
theorem cc5 : Try.prog.cellsOf 5 = 1 := by kernel_rfl
theorem cc22 : Try.prog.cellsOf 22 = 1 := by kernel_rfl
theorem cc46 : Try.prog.cellsOf 46 = 3 := by kernel_rfl
theorem okWide_turn {W : World} {base : Nat} {v : Value} (h : Value.okWide Try.prog W .any base 46 v) : ∃ cs, v = .agg cs ∧ cs.size = 3 := by
  simp only [Value.okWide, Try.underlying46] at h
  obtain ⟨cs, h1, h2, _⟩ := h
  exact ⟨cs, h1, by rw [h2, cc46]⟩
theorem open_turn {H : Type} {enc : TypeId × Value → H} {W : World} {base : Nat} {v : Value} {d : DataW H} {ps : List MemPlace} (hv : Value.okWide Try.prog W .any base 46 v) (h : DataW.Trod enc Try.prog W 0 (fun _ => true) true 46 v d ps) : ∃ (a : Option Addr) (len cap : Nat) (ys : List Int) (x y : Int), v = .agg #[.slice a len cap, .int .u8 x, .int .u8 y] ∧ (ys.length = len ∧ BV W a ys ∧ (a = none → cap = 0) ∧ len ≤ cap ∧ cap ≤ 9223372036854775807) ∧ (0 ≤ x ∧ x ≤ 255) ∧ (0 ≤ y ∧ y ≤ 255) := by
  obtain ⟨cs, rfl, hs⟩ := okWide_turn hv
  obtain ⟨fuel, hf⟩ := h
  obtain ⟨v0, v1, v2, rfl⟩ : ∃ v0 v1 v2, cs = #[v0, v1, v2] := by
    obtain ⟨l⟩ := cs
    match l, hs with
    | [v0, v1, v2], _ => exact ⟨v0, v1, v2, rfl⟩
  obtain ⟨xs, k, hk, hxy, _, hxl, hx⟩ := DataW.trod_struct Try.underlying46 hf
  match xs, hxl with
  | [y0, y1, y2], _ =>
    have g0 := hx 0 _ rfl
    have g1 := hx 1 _ rfl
    have g2 := hx 2 _ rfl
    simp [cc5, cc22, Value.cells] at g0 g1 g2
    obtain ⟨z1, e1, _, w1⟩ := DataW.trod_int Try.underlying5 g1
    obtain ⟨z2, e2, _, w2⟩ := DataW.trod_int Try.underlying5 g2
    simp at e1 e2
    have each : ∀ (u : Value) (y : DataW H × List MemPlace), DataW.trod enc Try.prog W 0 (fun _ => true) true k 22 [u] = some y → ∃ a len cap, ∃ ys : List Int, u = .slice a len cap ∧ ys.length = len ∧ BV W a ys ∧ (a = none → cap = 0) ∧ len ≤ cap ∧ cap ≤ 9223372036854775807 := by
      intro u y hy
      rcases ChangeShapes.open_ints Try.underlying22 Try.underlying5 (by kernel_rfl) hy with ⟨hcs, _⟩ | ⟨x, l, c, zs, hcs, _, hl, hm, hz, _, hcell, hwz⟩
      · simp at hcs
        obtain ⟨ys, q⟩ := bytes_of (w := W) (a := none) (len := 0) (cap := 0) (zs := []) (.inl ⟨rfl, rfl, rfl, rfl⟩)
        exact ⟨none, 0, 0, ys, hcs, q⟩
      · simp at hcs
        obtain ⟨ys, q⟩ := bytes_of (w := W) (a := some x) (len := l) (cap := c) (zs := zs) (.inr ⟨x, rfl, hl, hm, by simpa using hz, hcell, hwz⟩)
        exact ⟨some x, l, c, ys, hcs, q⟩
    obtain ⟨a, len, cap, ys, e0, q⟩ := each v0 _ g0
    have b1 := bounds_u8 w1
    have b2 := bounds_u8 w2
    exact ⟨a, len, cap, ys, z1, z2, by rw [e0, e1, e2], q, ⟨by omega, by omega⟩, ⟨by omega, by omega⟩⟩
end Go.Proofs.Ytcegahmjegjckaa
