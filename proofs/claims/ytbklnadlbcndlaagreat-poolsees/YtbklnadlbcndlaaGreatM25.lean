import Derived.Test.YtbklnadlbcndlaaGreatM24
import Derived.Test.YtbklnadlbcndlaaGreatM4
import Derived.Test.YtbklnadlbcndlaaGreatM12
import Derived.Test.YtbklnadlbcndlaaGreatM15
import Derived.Deep.Slices
import Derived.OpenShut
namespace Go.Proofs.YtbklnadlbcndlaaGreat
set_option maxRecDepth 20000
open Go.RowKit Go.Maps
set_option linter.unusedVariables false
set_option linter.unnecessarySimpa false
structure SAct where
  kd : Int
  id : Int
  pg : Int
  bs : List Int
  d : D.ActD
instance : Inhabited SAct := ⟨⟨0, 0, 0, [], default⟩⟩
structure SAct.Fits (x : SAct) : Prop where
  k0 : 0 ≤ x.kd
  k1 : x.kd ≤ 255
  n0 : -9223372036854775808 ≤ x.id
  n1 : x.id ≤ 9223372036854775807
  p0 : -9223372036854775808 ≤ x.pg
  p1 : x.pg ≤ 9223372036854775807
def SAt (w : World) (b off : Nat) (x : SAct) : Prop := x.Fits ∧ (∃ fa fl fc, w.cell? ⟨b, off, none⟩ = some (.int .u8 x.kd) ∧ w.cell? ⟨b, off + 1, none⟩ = some (.int .i64 x.id) ∧ w.cell? ⟨b, off + 2, none⟩ = some (.int .i64 x.pg) ∧ w.cell? ⟨b, off + 3, none⟩ = some (.slice fa fl fc) ∧ x.bs.length = fl ∧ fl ≤ fc ∧ fc ≤ 9223372036854775807 ∧ (fa = none → fc = 0) ∧ BV w fa x.bs) ∧ D.ActAt w b (off + 4) x.d
def SActs (w : World) (a : Option Addr) (len cap : Nat) (xs : List SAct) : Prop := xs.length = len ∧ len ≤ cap ∧ len ≤ 9223372036854775807 ∧ (a = none → cap = 0) ∧ (xs = [] ∨ ∃ b off, a = some ⟨b, off, none⟩ ∧ b < w.heap.size ∧ ∀ i, i < len → SAt w b (off + i * 10) (xs.getD i default))
theorem SAt.below {w w' : World} {b off : Nat} {x : SAct} (h : SAt w b off x) (hlt : b < w.heap.size) (hb : Below w.heap.size w w') : SAt w' b off x := by
  obtain ⟨hf, ⟨fa, fl, fc, h0, h1, h2, h3, h4, h5, h6, h7, h8⟩, hd⟩ := h
  exact ⟨hf, ⟨fa, fl, fc, (hb.cell (p := ⟨b, off, none⟩) hlt).trans h0, (hb.cell (p := ⟨b, off + 1, none⟩) hlt).trans h1, (hb.cell (p := ⟨b, off + 2, none⟩) hlt).trans h2, (hb.cell (p := ⟨b, off + 3, none⟩) hlt).trans h3, h4, h5, h6, h7, h8.below hb⟩, hd.below hlt hb⟩
theorem c33 : Tryz.prog.cellsOf 33 = 10 := by kernel_rfl
theorem c31 : Tryz.prog.cellsOf 31 = 6 := by kernel_rfl
theorem open_sact {H : Type} {enc : TypeId × Value → H} {w : World} {n : Nat} {v0 v1 v2 v3 v4 v5 v6 v7 v8 v9 : Value} {x : DataW H × List MemPlace} (h : DataW.trod enc Tryz.prog w 0 (fun _ => true) true n 33 [v0, v1, v2, v3, v4, v5, v6, v7, v8, v9] = some x) :
    ∃ y : SAct, y.Fits ∧ (∃ fa fl fc, v0 = .int .u8 y.kd ∧ v1 = .int .i64 y.id ∧ v2 = .int .i64 y.pg ∧ v3 = .slice fa fl fc ∧ y.bs.length = fl ∧ fl ≤ fc ∧ fc ≤ 9223372036854775807 ∧ (fa = none → fc = 0) ∧ BV w fa y.bs) ∧ y.d.Fits ∧ ∃ fa fl fc, v4 = .int .u8 y.d.kd ∧ v5 = .int .i64 y.d.n ∧ v6 = .int .u8 y.d.c ∧ v7 = .int .u8 y.d.cut ∧ v8 = .bool y.d.d ∧ v9 = .slice fa fl fc ∧ y.d.fs.length = fl ∧ fl ≤ fc ∧ fc ≤ 9223372036854775807 ∧ D.BV w fa y.d.fs := by
  obtain ⟨xs, k, hk, hxy, _, hxl, hf⟩ := DataW.trod_struct Tryz.underlying33 h
  match xs, hxl with
  | [y0, y1, y2, y3, y4], _ =>
    have g0 := hf 0 _ rfl
    have g1 := hf 1 _ rfl
    have g2 := hf 2 _ rfl
    have g3 := hf 3 _ rfl
    have g4 := hf 4 _ rfl
    simp [D.c5, D.c3, D.c32, c31] at g0 g1 g2 g3 g4
    obtain ⟨z0, e0, _, w0⟩ := DataW.trod_int Tryz.underlying5 g0
    obtain ⟨z1, e1, _, w1⟩ := DataW.trod_int Tryz.underlying3 g1
    obtain ⟨z2, e2, _, w2⟩ := DataW.trod_int Tryz.underlying3 g2
    have u0 := bounds_u8 w0
    have u1 := bounds_i64 w1
    have u2 := bounds_i64 w2
    simp at e0 e1 e2
    have hbody : ∃ fa fl fc, ∃ zs : List Int, v3 = .slice fa fl fc ∧ ((fa = none ∧ fl = 0 ∧ fc = 0 ∧ zs = []) ∨ ∃ x, fa = some x ∧ fl ≤ fc ∧ fc ≤ maxLen ∧ zs.length = fc ∧ (∀ i, i < zs.length → w.cell? (x.add i) = some (.int .u8 (zs.getD i 0))) ∧ ∀ n ∈ zs, (Lit.int .u8 n).wf = true) := by
      rcases ChangeShapes.open_ints Tryz.underlying29 Tryz.underlying5 (by kernel_rfl) g3 with ⟨hcs, _⟩ | ⟨x, l, c, zs, hcs, _, hl, hm, hz, _, hcell, hwz⟩
      · simp at hcs
        exact ⟨none, 0, 0, [], hcs, .inl ⟨rfl, rfl, rfl, rfl⟩⟩
      · simp at hcs
        exact ⟨some x, l, c, zs, hcs, .inr ⟨x, rfl, hl, hm, by simpa using hz, hcell, hwz⟩⟩
    obtain ⟨fa, fl, fc, zs, e3, hz⟩ := hbody
    obtain ⟨ys, hy1, hy2, hy5, hy3, hy4⟩ := D.bytes_of hz
    obtain ⟨yd, hyd, rest⟩ := D.open_act g4
    exact ⟨⟨z0, z1, z2, ys, yd⟩, ⟨by simp only; omega, by simp only; omega, by simp only; omega, by simp only; omega, by simp only; omega, by simp only; omega⟩, ⟨fa, fl, fc, e0, e1, e2, e3, hy1, hy3, hy4, hy5, hy2⟩, hyd, rest⟩
theorem open_sacts {H : Type} {enc : TypeId × Value → H} {w : World} {fuel : Nat} {a : Option Addr} {len cap : Nat} {x : DataW H × List MemPlace} (h : DataW.trod enc Tryz.prog w 0 (fun _ => true) true fuel 22 (Value.slice a len cap).cells.toList = some x) : ∃ xs, SActs w a len cap xs := by
  rcases Go.Deep.open_slice Tryz.underlying22 h with ⟨hcs, _⟩ | ⟨ad, l, c, m, n, D, Pl, hcs, _, hl, hm, hmm, _, hx⟩
  · simp [Value.cells] at hcs
    obtain ⟨rfl, rfl, rfl⟩ := hcs
    exact ⟨[], rfl, Nat.le_refl _, by decide, fun _ => rfl, .inl rfl⟩
  · simp [Value.cells] at hcs
    obtain ⟨rfl, rfl, rfl⟩ := hcs
    simp at hmm
    subst hmm
    rw [c33] at hx
    obtain ⟨b, off, spot⟩ := ad
    by_cases h0 : len = 0
    · subst h0
      exact ⟨[], rfl, hl, by decide, (fun h => by cases h), .inl rfl⟩
    obtain rfl : spot = none := by
      obtain ⟨cs', h1, h2⟩ := hx 0 (by omega)
      obtain ⟨_, hlen, hcell⟩ := World.cells?_some h1
      match cs', hlen with
      | [v0, v1, v2, v3, v4, v5, v6, v7, v8, v9], _ =>
        have e0 := hcell 0 (by omega)
        have := World.cell?_spot (e0.trans rfl)
        simpa [Addr.add] using this
    have each : ∀ i, i < len → ∃ y : SAct, b < w.heap.size ∧ SAt w b (off + i * 10) y := by
      intro i hi
      obtain ⟨cs', h1, h2⟩ := hx i (by omega)
      obtain ⟨_, hlen, hcell⟩ := World.cells?_some h1
      match cs', hlen with
      | [v0, v1, v2, v3, v4, v5, v6, v7, v8, v9], _ =>
        obtain ⟨y, hy, ⟨fa, fl, fc, rfl, rfl, rfl, rfl, q1, q2, q3, q4, q5⟩, hyd, ga, gl, gc, rfl, rfl, rfl, rfl, rfl, rfl, r1, r2, r3, r4⟩ := open_sact h2
        have e0 := hcell 0 (by omega)
        have hb := World.block_lt_of_cell? _ _ (e0.trans rfl)
        simp only [add_plain] at hcell hb
        refine ⟨y, hb, hy, ⟨fa, fl, fc, ?_, ?_, ?_, ?_, q1, q2, q3, q4, q5⟩, hyd, ga, gl, gc, ?_, ?_, ?_, ?_, ?_, ?_, r1, r2, r3, r4⟩
        · have := hcell 0 (by omega); simpa using this
        · have := hcell 1 (by omega); simpa using this
        · have := hcell 2 (by omega); simpa using this
        · have := hcell 3 (by omega); simpa using this
        · have := hcell 4 (by omega); simpa using this
        · have := hcell 5 (by omega); simpa [Nat.add_assoc] using this
        · have := hcell 6 (by omega); simpa [Nat.add_assoc] using this
        · have := hcell 7 (by omega); simpa [Nat.add_assoc] using this
        · have := hcell 8 (by omega); simpa [Nat.add_assoc] using this
        · have := hcell 9 (by omega); simpa [Nat.add_assoc] using this
    obtain ⟨f, hf⟩ := Go.Deep.choose_lt each
    refine ⟨(List.range len).map f, by simp, hl, by unfold maxLen at hm; omega, (fun h => by cases h), ?_⟩
    right
    refine ⟨b, off, rfl, (hf 0 (by omega)).1, fun i hi => ?_⟩
    have := (hf i hi).2
    simpa [List.getD_eq_getElem?_getD, hi] using this
end Go.Proofs.YtbklnadlbcndlaaGreat
namespace Go.Proofs.YtbklnadlbcndlaaGreat
set_option maxRecDepth 20000
open Go.RowKit
set_option linter.unusedVariables false
set_option linter.unusedSimpArgs false
theorem few_any (a : Option Addr) (len cap : Nat) (most : Int) (xs : List SAct) (w : World) (h : SActs w a len cap xs) (hm : most ≤ 1000) :
    Calls Tryz.prog 7 #[.slice a len cap, .int .i64 most] w fun e w' => ∃ b, e = .returned (.bool b) ∧ (b = true → (len : Int) ≤ most ∧ ∀ i, i < len → (xs.getD i default).bs.length ≤ 300) ∧ w' = w := by
  obtain ⟨hl, hc, hlm, hn, hx⟩ := h
  by_cases h1 : most < (len : Int)
  · have hd : decide (most < (len : Int)) = true := by simpa using h1
    go_enter Tryz.func7, Tryz.ntmps7
    go_wp2_with fail
    go_ret
    exact ⟨false, rfl, (fun h => by cases h), rfl⟩
  · have hd : decide (most < (len : Int)) = false := by simpa using h1
    have HX : Hid (∀ i, i < len → ∃ b off, a = some ⟨b, off, none⟩ ∧ ∃ fa fc, w.cell? ⟨b, off + i * 10 + 3, none⟩ = some (.slice fa (xs.getD i default).bs.length fc)) := fun i hi => by
      rcases hx with e | ⟨b, off, e, _, hx⟩
      · subst e; simp at hl; omega
      · obtain ⟨_, ⟨fa, fl, fc, _, _, _, q3, q4, _⟩, _⟩ := hx i hi
        exact ⟨b, off, e, fa, fc, by rw [q4]; exact q3⟩
    have HL : Hid (¬ most < (len : Int)) := h1
    clear hx hl h1 hn
    go_enter Tryz.func7, Tryz.ntmps7
    go_wp2_with fail
    go_loopw [5] (fun iv wr => ∃ i : Nat, i ≤ len ∧ iv = .int .i64 i ∧ wr = w ∧ Hid (∀ j, j < i → (xs.getD j default).bs.length ≤ 300)) (fun iv _ => len - (iOf iv).toNat)
    case atStart => exact ⟨0, Nat.zero_le _, rfl, rfl, fun j hj => by omega⟩
    case round =>
      obtain ⟨i, hi, rfl, rfl, HJ⟩ := hrel
      by_cases hlt : i < len
      · have hdk : decide ((i : Int) < (len : Int)) = true := by simp; omega
        obtain ⟨b, off, rfl, fa, fc, hcell⟩ := HX.out i hlt
        obtain ⟨m, hm'⟩ : ∃ m, m = (xs.getD i default).bs.length := ⟨_, rfl⟩
        rw [← hm'] at hcell
        have HM : Hid (m = (xs.getD i default).bs.length) := hm'
        clear hm'
        by_cases h4 : 300 < m
        · have h4' : decide ((300 : Int) < (m : Int)) = true := by simp; omega
          clear h4
          go_wp2_with fail
          go_ret
          exact ⟨false, rfl, (fun h => by cases h), rfl⟩
        · have h4' : decide ((300 : Int) < (m : Int)) = false := by simp; omega
          have H4 : Hid (¬ 300 < m) := h4
          clear h4
          go_wp2_with fail
          go_roundw
          case rel => exact ⟨i + 1, by omega, by go_num, trivial, fun j hj => by
            by_cases e : j = i
            · subst e; rw [← HM.out]; have := H4.out; omega
            · exact HJ.out j (by omega)⟩
          case measure => simp [iOf]; omega
      · obtain rfl : i = len := by omega
        go_wp2_with fail
        go_ret
        exact ⟨true, rfl, fun _ => ⟨by have := HL.out; omega, HJ.out⟩, rfl⟩
end Go.Proofs.YtbklnadlbcndlaaGreat
