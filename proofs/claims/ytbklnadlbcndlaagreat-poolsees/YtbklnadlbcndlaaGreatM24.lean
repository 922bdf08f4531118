import Derived.Test.YtbklnadlbcndlaaGreatM4
import Derived.Test.YtbklnadlbcndlaaGreatM5
import Derived.Deep.Slices
import Derived.OpenShut
namespace Go.Proofs.YtbklnadlbcndlaaGreat.D
set_option maxRecDepth 20000
open Go.RowKit Go.Maps
set_option linter.unusedVariables false
set_option linter.unnecessarySimpa false
structure ActD where
  kd : Int
  n : Int
  c : Int
  cut : Int
  d : Bool
  fs : List Int
instance : Inhabited ActD := ⟨⟨0, 0, 0, 0, false, []⟩⟩
structure ActD.Fits (x : ActD) : Prop where
  k0 : 0 ≤ x.kd
  k1 : x.kd ≤ 255
  n0 : -9223372036854775808 ≤ x.n
  n1 : x.n ≤ 9223372036854775807
  c0 : 0 ≤ x.c
  c1 : x.c ≤ 255
  t0 : 0 ≤ x.cut
  t1 : x.cut ≤ 255
def ActAt (w : World) (b off : Nat) (x : ActD) : Prop := x.Fits ∧ ∃ fa fl fc, w.cell? ⟨b, off, none⟩ = some (.int .u8 x.kd) ∧ w.cell? ⟨b, off + 1, none⟩ = some (.int .i64 x.n) ∧ w.cell? ⟨b, off + 2, none⟩ = some (.int .u8 x.c) ∧ w.cell? ⟨b, off + 3, none⟩ = some (.int .u8 x.cut) ∧ w.cell? ⟨b, off + 4, none⟩ = some (.bool x.d) ∧ w.cell? ⟨b, off + 5, none⟩ = some (.slice fa fl fc) ∧
  x.fs.length = fl ∧ fl ≤ fc ∧ fc ≤ 9223372036854775807 ∧ BV w fa x.fs
theorem ActAt.below {w w' : World} {b off : Nat} {x : ActD} (h : ActAt w b off x) (hlt : b < w.heap.size) (hb : Below w.heap.size w w') : ActAt w' b off x := by
  obtain ⟨hf, fa, fl, fc, h0, h1, h2, h3, h4, h5, h6, h7, h8, h9⟩ := h
  exact ⟨hf, fa, fl, fc, (hb.cell (p := ⟨b, off, none⟩) hlt).trans h0, (hb.cell (p := ⟨b, off + 1, none⟩) hlt).trans h1, (hb.cell (p := ⟨b, off + 2, none⟩) hlt).trans h2, (hb.cell (p := ⟨b, off + 3, none⟩) hlt).trans h3, (hb.cell (p := ⟨b, off + 4, none⟩) hlt).trans h4, (hb.cell (p := ⟨b, off + 5, none⟩) hlt).trans h5, h6, h7, h8, h9.below hb⟩
theorem bytes_of {w : World} {a : Option Addr} {len cap : Nat} {zs : List Int} (h : (a = none ∧ len = 0 ∧ cap = 0 ∧ zs = []) ∨ ∃ x, a = some x ∧ len ≤ cap ∧ cap ≤ maxLen ∧ zs.length = cap ∧ (∀ i, i < zs.length → w.cell? (x.add i) = some (.int .u8 (zs.getD i 0))) ∧ ∀ n ∈ zs, (Lit.int .u8 n).wf = true) :
    ∃ ys : List Int, ys.length = len ∧ BV w a ys ∧ (a = none → cap = 0) ∧ len ≤ cap ∧ cap ≤ 9223372036854775807 := by
  rcases h with ⟨rfl, rfl, rfl, rfl⟩ | ⟨x, rfl, hl, hm, hz, hcell, hwz⟩
  · exact ⟨[], rfl, ⟨AllB.nil, .inl rfl⟩, fun _ => rfl, Nat.le_refl _, by decide⟩
  · refine ⟨zs.take len, by simp; omega, ⟨?_, ?_⟩, (fun h => by cases h), hl, by unfold maxLen at hm; omega⟩
    · intro z hz'
      have := bounds_u8 (hwz z (List.mem_of_mem_take hz'))
      omega
    · by_cases h0 : len = 0
      · left; simp [h0]
      · right
        obtain ⟨b, off, spot⟩ := x
        have hc := hcell 0 (by omega)
        have hspot : spot = none := by simpa [Addr.add] using World.cell?_spot hc
        subst hspot
        refine ⟨b, off, rfl, ?_, ?_⟩
        · have := World.block_lt_of_cell? _ _ hc
          simpa [Addr.add] using this
        · intro i hi
          rw [List.length_take] at hi
          have := hcell i (by omega)
          rw [add_plain] at this
          rw [this, List.getD_eq_getElem?_getD, List.getD_eq_getElem?_getD, List.getElem?_take, if_pos (by omega)]
theorem c5 : Tryz.prog.cellsOf 5 = 1 := by kernel_rfl
theorem c3 : Tryz.prog.cellsOf 3 = 1 := by kernel_rfl
theorem c4 : Tryz.prog.cellsOf 4 = 1 := by kernel_rfl
theorem c32 : Tryz.prog.cellsOf 29 = 1 := by kernel_rfl
theorem open_act {H : Type} {enc : TypeId × Value → H} {w : World} {n : Nat} {v0 v1 v2 v3 v4 v5 : Value} {x : DataW H × List MemPlace} (h : DataW.trod enc Tryz.prog w 0 (fun _ => true) true n 31 [v0, v1, v2, v3, v4, v5] = some x) :
    ∃ y : ActD, y.Fits ∧ ∃ fa fl fc, v0 = .int .u8 y.kd ∧ v1 = .int .i64 y.n ∧ v2 = .int .u8 y.c ∧ v3 = .int .u8 y.cut ∧ v4 = .bool y.d ∧ v5 = .slice fa fl fc ∧ y.fs.length = fl ∧ fl ≤ fc ∧ fc ≤ 9223372036854775807 ∧ BV w fa y.fs := by
  obtain ⟨xs, k, hk, hxy, _, hxl, hf⟩ := DataW.trod_struct Tryz.underlying31 h
  match xs, hxl with
  | [y0, y1, y2, y3, y4, y5], _ =>
    have g0 := hf 0 _ rfl
    have g1 := hf 1 _ rfl
    have g2 := hf 2 _ rfl
    have g3 := hf 3 _ rfl
    have g4 := hf 4 _ rfl
    have g5 := hf 5 _ rfl
    simp [c5, c3, c4, c32] at g0 g1 g2 g3 g4 g5
    obtain ⟨z0, e0, _, w0⟩ := DataW.trod_int Tryz.underlying5 g0
    obtain ⟨z1, e1, _, w1⟩ := DataW.trod_int Tryz.underlying3 g1
    obtain ⟨z2, e2, _, w2⟩ := DataW.trod_int Tryz.underlying5 g2
    obtain ⟨z3, e3, _, w3⟩ := DataW.trod_int Tryz.underlying5 g3
    obtain ⟨z4, e4, _⟩ := DataW.trod_bool Tryz.underlying4 g4
    have u0 := bounds_u8 w0
    have u1 := bounds_i64 w1
    have u2 := bounds_u8 w2
    have u3 := bounds_u8 w3
    simp at e0 e1 e2 e3 e4
    have hfate : ∃ fa fl fc, ∃ zs : List Int, v5 = .slice fa fl fc ∧ ((fa = none ∧ fl = 0 ∧ fc = 0 ∧ zs = []) ∨ ∃ x, fa = some x ∧ fl ≤ fc ∧ fc ≤ maxLen ∧ zs.length = fc ∧ (∀ i, i < zs.length → w.cell? (x.add i) = some (.int .u8 (zs.getD i 0))) ∧ ∀ n ∈ zs, (Lit.int .u8 n).wf = true) := by
      rcases ChangeShapes.open_ints Tryz.underlying29 Tryz.underlying5 (by kernel_rfl) g5 with ⟨hcs, _⟩ | ⟨x, l, c, zs, hcs, _, hl, hm, hz, _, hcell, hwz⟩
      · simp at hcs
        exact ⟨none, 0, 0, [], hcs, .inl ⟨rfl, rfl, rfl, rfl⟩⟩
      · simp at hcs
        exact ⟨some x, l, c, zs, hcs, .inr ⟨x, rfl, hl, hm, by simpa using hz, hcell, hwz⟩⟩
    obtain ⟨fa, fl, fc, zs, e5, hz⟩ := hfate
    obtain ⟨ys, hy1, hy2, _, hy3, hy4⟩ := bytes_of hz
    exact ⟨⟨z0, z1, z2, z3, z4, ys⟩, ⟨by simp only; omega, by simp only; omega, by simp only; omega, by simp only; omega, by simp only; omega, by simp only; omega, by simp only; omega, by simp only; omega⟩, fa, fl, fc, e0, e1, e2, e3, e4, e5, hy1, hy3, hy4, hy2⟩
end Go.Proofs.YtbklnadlbcndlaaGreat.D
