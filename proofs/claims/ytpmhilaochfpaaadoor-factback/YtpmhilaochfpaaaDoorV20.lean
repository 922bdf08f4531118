import Derived.Test.YtpmhilaochfpaaaDoorV12
import Derived.Deep.Slices
import Derived.ChangeSlices
import Derived.OpenShut
import Derived.ProofKit
import Derived.RowKit3
namespace Go.Proofs.YtpmhilaochfpaaaDoor
open Go.ChangeShapes Go.WideShapes Go.ChangeAt Go.RowKit
set_option linter.unusedVariables false
set_option linter.unusedSimpArgs false
set_option maxRecDepth 20000
def okB (k : Int) : Prop := 0 ≤ k ∧ k ≤ 255
def okN (n : Int) : Prop := -9223372036854775808 ≤ n ∧ n ≤ 9223372036854775807
def okS (s : Str) : Prop := s.length ≤ maxLen
def VD.Ok (x : VD) : Prop := okB x.k ∧ okN x.n ∧ okS x.s
def ClassD.Ok (x : ClassD) : Prop := okS x.nm ∧ ∀ y ∈ x.attrs, okS y
def FactD.Ok (x : FactD) : Prop := okN x.t ∧ okS x.c ∧ ∀ y ∈ x.vs, y.Ok
def BoundD.Ok (x : BoundD) : Prop := okS x.nm ∧ x.x.Ok
structure HowD where
  t : Int
  sets : List BoundD
  a : Str
def HowD.Ok (x : HowD) : Prop := okN x.t ∧ (∀ y ∈ x.sets, y.Ok) ∧ okS x.a
def ReF (w : World) (cs : List Value) (f : FactD) : Prop := ∃ v, cs = [.int .i64 f.t, .string (st f.c), v] ∧ SlW 3 w (fun _ => True) v (f.vs.map clV)
instance : Inhabited VD := ⟨⟨0, 0, []⟩⟩
instance : Inhabited ClassD := ⟨⟨[], []⟩⟩
instance : Inhabited FactD := ⟨⟨0, [], []⟩⟩
instance : Inhabited BoundD := ⟨⟨[], default⟩⟩
theorem All2.eqm {α : Type} {f : α → List Value} {css : List (List Value)} {xs : List α} (h : All2 (fun c x => c = f x) css xs) : css = xs.map f := by
  induction xs generalizing css with
  | nil => cases css with
    | nil => rfl
    | cons c cs => exact h.elim
  | cons x xs ih => cases css with
    | nil => exact h.elim
    | cons c cs => rw [List.map_cons, h.1, ih h.2]
theorem All2.of_range {α : Type} {R : List Value → α → Prop} (f : Nat → List Value × α) : ∀ (l : List Nat), (∀ i ∈ l, R (f i).1 (f i).2) → All2 R (l.map fun i => (f i).1) (l.map fun i => (f i).2)
  | [], _ => trivial
  | i :: l, h => ⟨h i (List.mem_cons_self ..), All2.of_range f l fun j hj => h j (List.mem_cons_of_mem _ hj)⟩
theorem open_row {α : Type} [Inhabited α] {n : Nat} {sl e : TypeId} {H : Type} {enc : TypeId × Value → H} {w : World} {R : List Value → α → Prop} {F : α → Prop} (hsl : Tryd.prog.underlying sl = some (.slice e)) (hn : Tryd.prog.cellsOf e = n) (h0 : 0 < n)
    (he : ∀ (fuel : Nat) (cs : List Value) (x : DataW H × List MemPlace), cs.length = n → DataW.trod enc Tryd.prog w 0 (fun _ => true) true fuel e cs = some x → ∃ y, R cs y ∧ F y)
    {fuel : Nat} {v : Value} {x : DataW H × List MemPlace} (h : DataW.trod enc Tryd.prog w 0 (fun _ => true) true fuel sl [v] = some x) :
    ∃ (css : List (List Value)) (xs : List α), SlW n w (fun _ => True) v css ∧ All2 R css xs ∧ ∀ y ∈ xs, F y := by
  rcases Go.Deep.open_slice hsl h with ⟨hcs, _⟩ | ⟨ad, len, cap, m, k, D, Pl, hcs, _, hl, hm, hmm, _, hx⟩
  · simp at hcs
    subst hcs
    exact ⟨[], [], ⟨none, 0, rfl, Nat.le_refl _, by decide, .inl rfl⟩, trivial, by simp⟩
  · simp at hcs
    subst hcs
    simp at hmm
    subst hmm
    rw [hn] at hx
    obtain ⟨b, off, spot⟩ := ad
    have hmx : m ≤ 9223372036854775807 := by unfold maxLen at hm; omega
    by_cases hl0 : len = 0
    · subst hl0
      exact ⟨[], [], ⟨_, m, rfl, Nat.zero_le _, hmx, .inl rfl⟩, trivial, by simp⟩
    have hspot : spot = none := by
      obtain ⟨cs', h1, h2⟩ := hx 0 (by omega)
      obtain ⟨_, hlen, hcell⟩ := World.cells?_some h1
      match cs', hlen with
      | [], e => simp at e; omega
      | v0 :: _, _ =>
        have e0 := hcell 0 h0
        have := World.cell?_spot (e0.trans rfl)
        simpa [Addr.add] using this
    subst hspot
    have each : ∀ i, i < len → ∃ y : List Value × α, y.1.length = n ∧ b < w.heap.size ∧ (∀ j, j < n → w.cell? ⟨b, off + (i * n + j), none⟩ = y.1[j]?) ∧ R y.1 y.2 ∧ F y.2 := by
      intro i hi
      obtain ⟨cs', h1, h2⟩ := hx i (by omega)
      obtain ⟨_, hlen, hcell⟩ := World.cells?_some h1
      obtain ⟨y, hy, hf⟩ := he _ _ _ hlen h2
      refine ⟨(cs', y), hlen, ?_, ?_, hy, hf⟩
      · match cs', hlen with
        | [], e => simp at e; omega
        | v0 :: _, _ =>
          have e0 := hcell 0 h0
          have := World.block_lt_of_cell? _ _ (e0.trans rfl)
          rw [add_plain, add_plain] at this
          exact this
      · intro j hj
        have := hcell j hj
        rw [add_plain, add_plain] at this
        rw [← this]
        congr 2
        exact (Nat.add_assoc off (i * n) j).symm
    obtain ⟨f, hf⟩ := Go.Deep.choose_lt each
    refine ⟨(List.range len).map fun i => (f i).1, (List.range len).map fun i => (f i).2, ⟨_, m, by simp, by simpa using hl, hmx, .inr ⟨b, off, rfl, (hf 0 (by omega)).2.1, trivial, fun i j hi hj => ?_⟩⟩, All2.of_range f _ (fun i hi => (hf i (List.mem_range.1 hi)).2.2.2.1), ?_⟩
    · simp only [List.length_map, List.length_range] at hi
      rw [(hf i hi).2.2.1 j hj, List.getD_eq_getElem?_getD, List.getElem?_map, List.getElem?_range hi]
      rfl
    · intro y hy
      obtain ⟨i, hi, rfl⟩ := List.mem_map.1 hy
      exact (hf i (List.mem_range.1 hi)).2.2.2.2
section
variable {H : Type} {enc : TypeId × Value → H} {w : World}
theorem open_by {fuel : Nat} {v : Value} {x : DataW H × List MemPlace} (h : DataW.trod enc Tryd.prog w 0 (fun _ => true) true fuel 5 [v] = some x) : ∃ z, v = .int .u8 z ∧ okB z := by
  obtain ⟨z, e, _, hw⟩ := DataW.trod_int Tryd.underlying5 h
  simp at e
  have := bounds_u8 hw
  exact ⟨z, e, by unfold okB; omega⟩
theorem open_in {fuel : Nat} {v : Value} {x : DataW H × List MemPlace} (h : DataW.trod enc Tryd.prog w 0 (fun _ => true) true fuel 3 [v] = some x) : ∃ z, v = .int .i64 z ∧ okN z := by
  obtain ⟨z, e, _, hw⟩ := DataW.trod_int Tryd.underlying3 h
  simp at e
  have := bounds_i64 hw
  exact ⟨z, e, by unfold okN; omega⟩
theorem open_st {fuel : Nat} {v : Value} {x : DataW H × List MemPlace} (h : DataW.trod enc Tryd.prog w 0 (fun _ => true) true fuel 9 [v] = some x) : ∃ z : Str, v = .string (st z) ∧ okS z := by
  obtain ⟨s, e, _, hw⟩ := DataW.trod_string Tryd.underlying9 h
  simp at e
  exact ⟨s.data.toList, by rw [st_of]; exact e, by unfold okS; rw [lenL]; exact hw⟩
theorem cz5 : Tryd.prog.cellsOf 5 = 1 := by kernel_rfl
theorem cz3 : Tryd.prog.cellsOf 3 = 1 := by kernel_rfl
theorem cz4 : Tryd.prog.cellsOf 4 = 1 := by kernel_rfl
theorem cz9 : Tryd.prog.cellsOf 9 = 1 := by kernel_rfl
theorem cz52 : Tryd.prog.cellsOf 52 = 3 := by kernel_rfl
theorem open_val {fuel : Nat} {cs : List Value} {x : DataW H × List MemPlace} (hl : cs.length = 3) (h : DataW.trod enc Tryd.prog w 0 (fun _ => true) true fuel 52 cs = some x) : ∃ y : VD, (fun cs y => cs = clV y) cs y ∧ VD.Ok y := by
  match cs, hl with
  | [v0, v1, v2], _ =>
    obtain ⟨xs, k, hk, hxy, _, hxl, hf⟩ := DataW.trod_struct Tryd.underlying52 h
    match xs, hxl with
    | [y0, y1, y2], _ =>
      have g0 := hf 0 _ rfl
      have g1 := hf 1 _ rfl
      have g2 := hf 2 _ rfl
      simp [cz3, cz4, cz5, cz9] at g0 g1 g2
      obtain ⟨z0, rfl, o0⟩ := open_by g0
      obtain ⟨z1, rfl, o1⟩ := open_in g1
      obtain ⟨z2, rfl, o2⟩ := open_st g2
      exact ⟨⟨z0, z1, z2⟩, rfl, o0, o1, o2⟩
theorem cz34 : Tryd.prog.cellsOf 34 = 1 := by kernel_rfl
theorem open_vals {fuel : Nat} {v : Value} {x : DataW H × List MemPlace} (h : DataW.trod enc Tryd.prog w 0 (fun _ => true) true fuel 34 [v] = some x) : ∃ xs : List (VD), SlW 3 w (fun _ => True) v (xs.map clV) ∧ ∀ y ∈ xs, VD.Ok y := by
  obtain ⟨css, xs, h1, h2, h3⟩ := open_row (R := fun cs y => cs = clV y) (F := VD.Ok) Tryd.underlying34 cz52 (by decide) (fun _ _ _ hl hx => open_val hl hx) h
  rw [h2.eqm] at h1
  exact ⟨xs, h1, h3⟩
theorem cz36 : Tryd.prog.cellsOf 36 = 3 := by kernel_rfl
theorem open_fact {fuel : Nat} {cs : List Value} {x : DataW H × List MemPlace} (hl : cs.length = 3) (h : DataW.trod enc Tryd.prog w 0 (fun _ => true) true fuel 36 cs = some x) : ∃ y : FactD, (ReF w) cs y ∧ FactD.Ok y := by
  match cs, hl with
  | [v0, v1, v2], _ =>
    obtain ⟨xs, k, hk, hxy, _, hxl, hf⟩ := DataW.trod_struct Tryd.underlying36 h
    match xs, hxl with
    | [y0, y1, y2], _ =>
      have g0 := hf 0 _ rfl
      have g1 := hf 1 _ rfl
      have g2 := hf 2 _ rfl
      simp [cz3, cz34, cz4, cz5, cz9] at g0 g1 g2
      obtain ⟨z0, rfl, o0⟩ := open_in g0
      obtain ⟨z1, rfl, o1⟩ := open_st g1
      obtain ⟨z2, e2, o2⟩ := open_vals g2
      exact ⟨⟨z0, z1, z2⟩, ⟨_, rfl, e2⟩, o0, o1, o2⟩
theorem open_str {fuel : Nat} {cs : List Value} {x : DataW H × List MemPlace} (hl : cs.length = 1) (h : DataW.trod enc Tryd.prog w 0 (fun _ => true) true fuel 9 cs = some x) : ∃ y : Str, cs = clS y ∧ okS y := by
  match cs, hl with
  | [v], _ =>
    obtain ⟨z, rfl, hz⟩ := open_st h
    exact ⟨z, rfl, hz⟩
theorem cz48 : Tryd.prog.cellsOf 48 = 1 := by kernel_rfl
theorem open_strs {fuel : Nat} {v : Value} {x : DataW H × List MemPlace} (h : DataW.trod enc Tryd.prog w 0 (fun _ => true) true fuel 48 [v] = some x) : ∃ xs : List (Str), SlW 1 w (fun _ => True) v (xs.map clS) ∧ ∀ y ∈ xs, okS y := by
  obtain ⟨css, xs, h1, h2, h3⟩ := open_row (R := fun cs y => cs = clS y) (F := okS) Tryd.underlying48 cz9 (by decide) (fun _ _ _ hl hx => open_str hl hx) h
  rw [h2.eqm] at h1
  exact ⟨xs, h1, h3⟩
theorem cz50 : Tryd.prog.cellsOf 50 = 2 := by kernel_rfl
theorem open_class {fuel : Nat} {cs : List Value} {x : DataW H × List MemPlace} (hl : cs.length = 2) (h : DataW.trod enc Tryd.prog w 0 (fun _ => true) true fuel 50 cs = some x) : ∃ y : ClassD, (ReK (fun _ _ => True) w) cs y ∧ ClassD.Ok y := by
  match cs, hl with
  | [v0, v1], _ =>
    obtain ⟨xs, k, hk, hxy, _, hxl, hf⟩ := DataW.trod_struct Tryd.underlying50 h
    match xs, hxl with
    | [y0, y1], _ =>
      have g0 := hf 0 _ rfl
      have g1 := hf 1 _ rfl
      simp [cz3, cz4, cz48, cz5, cz9] at g0 g1
      obtain ⟨z0, rfl, o0⟩ := open_st g0
      obtain ⟨z1, e1, o1⟩ := open_strs g1
      exact ⟨⟨z0, z1⟩, ⟨_, rfl, e1⟩, o0, o1⟩
theorem open_classs {fuel : Nat} {v : Value} {x : DataW H × List MemPlace} (h : DataW.trod enc Tryd.prog w 0 (fun _ => true) true fuel 33 [v] = some x) : ∃ xs : List (ClassD), Row 2 (ReK fun _ _ => True) w (fun _ => True) v xs ∧ ∀ y ∈ xs, ClassD.Ok y := by
  obtain ⟨css, xs, h1, h2, h3⟩ := open_row (R := ReK (fun _ _ => True) w) (F := ClassD.Ok) Tryd.underlying33 cz50 (by decide) (fun _ _ _ hl hx => open_class hl hx) h
  exact ⟨xs, ⟨css, h1, h2⟩, h3⟩
theorem okWide_fact {W : World} {base : Nat} {v : Value} (h : Value.okWide Tryd.prog W .any base 36 v) : ∃ cs, v = .agg cs ∧ cs.size = 3 := by
  simp only [Value.okWide, Tryd.underlying36] at h
  obtain ⟨cs, h1, h2, _⟩ := h
  exact ⟨cs, h1, by rw [h2, cz36]⟩
theorem arg_fact {W : World} {base : Nat} {v : Value} {d : DataW H} {ps : List MemPlace} (hv : Value.okWide Tryd.prog W .any base 36 v) (h : DataW.Trod enc Tryd.prog W 0 (fun _ => true) true 36 v d ps) : ∃ (cs : List Value) (y : FactD), v = .agg cs.toArray ∧ (ReF W) cs y ∧ FactD.Ok y := by
  obtain ⟨cs, rfl, hs⟩ := okWide_fact hv
  obtain ⟨fuel, hf⟩ := h
  obtain ⟨l⟩ := cs
  obtain ⟨y, h1, h2⟩ := open_fact (cs := l) hs hf
  exact ⟨l, y, rfl, h1, h2⟩
theorem arg_cls {W : World} {base : Nat} {v : Value} {d : DataW H} {ps : List MemPlace} (hv : Value.okWide Tryd.prog W .any base 33 v) (h : DataW.Trod enc Tryd.prog W 0 (fun _ => true) true 33 v d ps) : ∃ x : List ClassD, Row 2 (ReK fun _ _ => True) W (fun _ => True) v x ∧ ∀ y ∈ x, ClassD.Ok y := by
  obtain ⟨a, n, c, rfl⟩ := okWide_slice Tryd.underlying33 hv
  obtain ⟨fuel, hf⟩ := h
  exact open_classs hf
end
end Go.Proofs.YtpmhilaochfpaaaDoor
