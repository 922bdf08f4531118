/- Roots and bytes that come in. -/
import Derived.Test.YtadnflaocgmfgaaAwake
import Derived.ChangeSlices
import Derived.OpenShut
import Derived.ProofKit
namespace Go.Proofs.Ytadnflaocgmfgaa
open Go.RowKit
set_option linter.unusedVariables false
theorem cc3 : Try.prog.cellsOf 3 = 1 := by kernel_rfl
theorem cc22 : Try.prog.cellsOf 22 = 1 := by kernel_rfl
theorem cc24 : Try.prog.cellsOf 24 = 6 := by kernel_rfl
theorem okWide_root {W : World} {base : Nat} {v : Value} (h : Value.okWide Try.prog W .any base 24 v) : ∃ cs, v = .agg cs ∧ cs.size = 6 := by
  simp only [Value.okWide, Try.underlying24] at h
  obtain ⟨cs, h1, h2, _⟩ := h
  exact ⟨cs, h1, by rw [h2, cc24]⟩
theorem ints_of {w : World} {a : Option Addr} {len cap : Nat} {zs : List Int} (h : (a = none ∧ len = 0 ∧ cap = 0 ∧ zs = []) ∨ ∃ x, a = some x ∧ len ≤ cap ∧ cap ≤ maxLen ∧ zs.length = cap ∧ (∀ i, i < zs.length → w.cell? (x.add i) = some (.int .i64 (zs.getD i 0)))) :
    ∃ ys : List Int, ys.length = len ∧ IV w a ys ∧ (a = none → cap = 0) ∧ len ≤ cap ∧ cap ≤ 9223372036854775807 := by
  rcases h with ⟨rfl, rfl, rfl, rfl⟩ | ⟨x, rfl, hl, hm, hz, hcell⟩
  · exact ⟨[], rfl, .inl rfl, fun _ => rfl, Nat.le_refl _, by decide⟩
  · refine ⟨zs.take len, by simp; omega, ?_, (fun h => by cases h), hl, by unfold maxLen at hm; omega⟩
    by_cases h0 : len = 0
    · left; simp [h0]
    · right
      obtain ⟨b, off, spot⟩ := x
      have e0 := hcell 0 (by omega)
      have hs := World.cell?_spot e0
      obtain rfl : spot = none := by simpa [Addr.add] using hs
      have hb := World.block_lt_of_cell? _ _ e0
      simp only [add_plain] at hcell hb
      refine ⟨b, off, rfl, hb, fun i hi => ?_⟩
      have hi2 : i < len := by simp at hi; omega
      rw [getD_take zs len i hi2]
      exact hcell i (by omega)
theorem open_root {H : Type} {enc : TypeId × Value → H} {W : World} {base : Nat} {v : Value} {d : DataW H} {ps : List MemPlace} (hv : Value.okWide Try.prog W .any base 24 v) (h : DataW.Trod enc Try.prog W 0 (fun _ => true) true 24 v d ps) : ∃ (r : RD) (ta : Option Addr) (tc : Nat) (ma : Option Addr) (mc : Nat), v = rootV r ta tc ma mc ∧ Rt W r ta tc ma mc := by
  obtain ⟨cs, rfl, hs⟩ := okWide_root hv
  obtain ⟨fuel, hf⟩ := h
  obtain ⟨v0, v1, v2, v3, v4, v5, rfl⟩ : ∃ v0 v1 v2 v3 v4 v5, cs = #[v0, v1, v2, v3, v4, v5] := by
    obtain ⟨l⟩ := cs
    match l, hs with
    | [v0, v1, v2, v3, v4, v5], _ => exact ⟨v0, v1, v2, v3, v4, v5, rfl⟩
  obtain ⟨xs, k, hk, hxy, _, hxl, hx⟩ := DataW.trod_struct Try.underlying24 hf
  match xs, hxl with
  | [y0, y1, y2, y3, y4, y5], _ =>
    have g0 := hx 0 _ rfl
    have g1 := hx 1 _ rfl
    have g2 := hx 2 _ rfl
    have g3 := hx 3 _ rfl
    have g4 := hx 4 _ rfl
    have g5 := hx 5 _ rfl
    simp [cc3, cc22, Value.cells] at g0 g1 g2 g3 g4 g5
    obtain ⟨z0, e0, _, w0⟩ := DataW.trod_int Try.underlying3 g0
    obtain ⟨z1, e1, _, w1⟩ := DataW.trod_int Try.underlying3 g1
    obtain ⟨z2, e2, _, w2⟩ := DataW.trod_int Try.underlying3 g2
    obtain ⟨z3, e3, _, w3⟩ := DataW.trod_int Try.underlying3 g3
    simp at e0 e1 e2 e3
    have each : ∀ (u : Value) (y : DataW H × List MemPlace), DataW.trod enc Try.prog W 0 (fun _ => true) true k 22 [u] = some y → ∃ a len cap, ∃ ys : List Int, u = .slice a len cap ∧ ys.length = len ∧ IV W a ys ∧ (a = none → cap = 0) ∧ len ≤ cap ∧ cap ≤ 9223372036854775807 := by
      intro u y hy
      rcases ChangeShapes.open_ints Try.underlying22 Try.underlying3 (by kernel_rfl) hy with ⟨hcs, _⟩ | ⟨x, l, c, zs, hcs, _, hl, hm, hz, _, hcell, hwz⟩
      · simp at hcs
        obtain ⟨ys, q⟩ := ints_of (w := W) (a := none) (len := 0) (cap := 0) (zs := []) (.inl ⟨rfl, rfl, rfl, rfl⟩)
        exact ⟨none, 0, 0, ys, hcs, q⟩
      · simp at hcs
        obtain ⟨ys, q⟩ := ints_of (w := W) (a := some x) (len := l) (cap := c) (zs := zs) (.inr ⟨x, rfl, hl, hm, by simpa using hz, hcell⟩)
        exact ⟨some x, l, c, ys, hcs, q⟩
    obtain ⟨ta, tl, tc, T, e4, t1, t2, t3, t4, t5⟩ := each v4 _ g4
    obtain ⟨ma, ml, mc, M, e5, m1, m2, m3, m4, m5⟩ := each v5 _ g5
    refine ⟨⟨z0, z1, z2, z3, T, M⟩, ta, tc, ma, mc, ?_, ⟨t2, m2, t3, m3, by rw [t1]; exact t4, by rw [m1]; exact m4, t5, m5⟩⟩
    unfold rootV
    rw [e0, e1, e2, e3, e4, e5, t1, m1]
end Go.Proofs.Ytadnflaocgmfgaa
