import Derived.Test.YtemacdimdpnkeaaDoorT9
import Derived.Deep.Slices
import Derived.ChangeSlices
import Derived.OpenShut
import Derived.ProofKit
import Derived.RowKit3
namespace Go.Proofs.YtemacdimdpnkeaaDoor
open Go.ChangeShapes Go.WideShapes Go.ChangeAt Go.RowKit
set_option linter.unusedVariables false
set_option linter.unusedSimpArgs false
set_option maxRecDepth 20000
def okB (k : Int) : Prop := 0 ≤ k ∧ k ≤ 255
def okN (n : Int) : Prop := -9223372036854775808 ≤ n ∧ n ≤ 9223372036854775807
def okS (s : Str) : Prop := s.length ≤ maxLen
def VD.Ok (x : VD) : Prop := okB x.k ∧ okN x.n ∧ okS x.s
def TestD.Ok (x : TestD) : Prop := okB x.p ∧ okS x.v ∧ x.x.Ok
def AttrD.Ok (x : AttrD) : Prop := okS x.a ∧ (∀ y ∈ x.ones, y.Ok) ∧ ∀ y ∈ x.tests, y.Ok
def CondD.Ok (x : CondD) : Prop := okS x.c ∧ ∀ y ∈ x.attrs, y.Ok
def ItemD.Ok (x : ItemD) : Prop := okB x.k ∧ x.x.Ok ∧ okS x.v
def SetD.Ok (x : SetD) : Prop := okS x.a ∧ ∀ y ∈ x.e, y.Ok
def ActD.Ok (x : ActD) : Prop := okB x.k ∧ okS x.c ∧ okN x.n ∧ okS x.v ∧ (∀ y ∈ x.sets, y.Ok) ∧ ∀ y ∈ x.exprs, ∀ z ∈ y, z.Ok
def RuleD.Ok (x : RuleD) : Prop := okS x.nm ∧ (∀ y ∈ x.conds, y.Ok) ∧ ∀ y ∈ x.acts, y.Ok
def ClassD.Ok (x : ClassD) : Prop := okS x.nm ∧ ∀ y ∈ x.attrs, okS y
def ProgD.Ok (x : ProgD) : Prop := (∀ y ∈ x.cs, y.Ok) ∧ ∀ y ∈ x.rs, y.Ok
instance : Inhabited VD := ⟨⟨0, 0, []⟩⟩
instance : Inhabited TestD := ⟨⟨0, [], default⟩⟩
instance : Inhabited AttrD := ⟨⟨[], [], []⟩⟩
instance : Inhabited CondD := ⟨⟨false, [], []⟩⟩
instance : Inhabited ItemD := ⟨⟨0, default, []⟩⟩
instance : Inhabited SetD := ⟨⟨[], []⟩⟩
instance : Inhabited ActD := ⟨⟨0, [], 0, [], [], []⟩⟩
instance : Inhabited RuleD := ⟨⟨[], [], []⟩⟩
instance : Inhabited ClassD := ⟨⟨[], []⟩⟩
instance : Inhabited ProgD := ⟨⟨[], []⟩⟩
theorem All2.eqm {α : Type} {f : α → List Value} {css : List (List Value)} {xs : List α} (h : All2 (fun c x => c = f x) css xs) : css = xs.map f := by
  induction xs generalizing css with
  | nil => cases css with
    | nil => rfl
    | cons c cs => exact h.elim
  | cons x xs ih => cases css with
    | nil => exact h.elim
    | cons c cs => rw [List.map_cons, h.1, ih h.2]
theorem All2.of_range {α : Type} {R : List Value → α → Prop} (f : Nat → List Value × α) : ∀ (l : List Nat), (∀ i ∈ l, R (f i).1 (f i).2) → All2 R (l.map fun i => (f i).1) (l.map fun i => (f i).2)
  | [], _ => trivial
  | i :: l, h => ⟨h i (List.mem_cons_self ..), All2.of_range f l fun j hj => h j (List.mem_cons_of_mem _ hj)⟩
theorem open_row {α : Type} [Inhabited α] {n : Nat} {sl e : TypeId} {H : Type} {enc : TypeId × Value → H} {w : World} {R : List Value → α → Prop} {F : α → Prop} (hsl : Tryd.prog.underlying sl = some (.slice e)) (hn : Tryd.prog.cellsOf e = n) (h0 : 0 < n)
    (he : ∀ (fuel : Nat) (cs : List Value) (x : DataW H × List MemPlace), cs.length = n → DataW.trod enc Tryd.prog w 0 (fun _ => true) true fuel e cs = some x → ∃ y, R cs y ∧ F y)
    {fuel : Nat} {v : Value} {x : DataW H × List MemPlace} (h : DataW.trod enc Tryd.prog w 0 (fun _ => true) true fuel sl [v] = some x) :
    ∃ (css : List (List Value)) (xs : List α), SlW n w (fun _ => True) v css ∧ All2 R css xs ∧ ∀ y ∈ xs, F y := by
  rcases Go.Deep.open_slice hsl h with ⟨hcs, _⟩ | ⟨ad, len, cap, m, k, D, Pl, hcs, _, hl, hm, hmm, _, hx⟩
  · simp at hcs
    subst hcs
    exact ⟨[], [], ⟨none, 0, rfl, Nat.le_refl _, by decide, .inl rfl⟩, trivial, by simp⟩
  · simp at hcs
    subst hcs
    simp at hmm
    subst hmm
    rw [hn] at hx
    obtain ⟨b, off, spot⟩ := ad
    have hmx : m ≤ 9223372036854775807 := by unfold maxLen at hm; omega
    by_cases hl0 : len = 0
    · subst hl0
      exact ⟨[], [], ⟨_, m, rfl, Nat.zero_le _, hmx, .inl rfl⟩, trivial, by simp⟩
    have hspot : spot = none := by
      obtain ⟨cs', h1, h2⟩ := hx 0 (by omega)
      obtain ⟨_, hlen, hcell⟩ := World.cells?_some h1
      match cs', hlen with
      | [], e => simp at e; omega
      | v0 :: _, _ =>
        have e0 := hcell 0 h0
        have := World.cell?_spot (e0.trans rfl)
        simpa [Addr.add] using this
    subst hspot
    have each : ∀ i, i < len → ∃ y : List Value × α, y.1.length = n ∧ b < w.heap.size ∧ (∀ j, j < n → w.cell? ⟨b, off + (i * n + j), none⟩ = y.1[j]?) ∧ R y.1 y.2 ∧ F y.2 := by
      intro i hi
      obtain ⟨cs', h1, h2⟩ := hx i (by omega)
      obtain ⟨_, hlen, hcell⟩ := World.cells?_some h1
      obtain ⟨y, hy, hf⟩ := he _ _ _ hlen h2
      refine ⟨(cs', y), hlen, ?_, ?_, hy, hf⟩
      · match cs', hlen with
        | [], e => simp at e; omega
        | v0 :: _, _ =>
          have e0 := hcell 0 h0
          have := World.block_lt_of_cell? _ _ (e0.trans rfl)
          rw [add_plain, add_plain] at this
          exact this
      · intro j hj
        have := hcell j hj
        rw [add_plain, add_plain] at this
        rw [← this]
        congr 2
        exact (Nat.add_assoc off (i * n) j).symm
    obtain ⟨f, hf⟩ := Go.Deep.choose_lt each
    refine ⟨(List.range len).map fun i => (f i).1, (List.range len).map fun i => (f i).2, ⟨_, m, by simp, by simpa using hl, hmx, .inr ⟨b, off, rfl, (hf 0 (by omega)).2.1, trivial, fun i j hi hj => ?_⟩⟩, All2.of_range f _ (fun i hi => (hf i (List.mem_range.1 hi)).2.2.2.1), ?_⟩
    · simp only [List.length_map, List.length_range] at hi
      rw [(hf i hi).2.2.1 j hj, List.getD_eq_getElem?_getD, List.getElem?_map, List.getElem?_range hi]
      rfl
    · intro y hy
      obtain ⟨i, hi, rfl⟩ := List.mem_map.1 hy
      exact (hf i (List.mem_range.1 hi)).2.2.2.2
section
variable {H : Type} {enc : TypeId × Value → H} {w : World}
theorem open_by {fuel : Nat} {v : Value} {x : DataW H × List MemPlace} (h : DataW.trod enc Tryd.prog w 0 (fun _ => true) true fuel 5 [v] = some x) : ∃ z, v = .int .u8 z ∧ okB z := by
  obtain ⟨z, e, _, hw⟩ := DataW.trod_int Tryd.underlying5 h
  simp at e
  have := bounds_u8 hw
  exact ⟨z, e, by unfold okB; omega⟩
theorem open_in {fuel : Nat} {v : Value} {x : DataW H × List MemPlace} (h : DataW.trod enc Tryd.prog w 0 (fun _ => true) true fuel 3 [v] = some x) : ∃ z, v = .int .i64 z ∧ okN z := by
  obtain ⟨z, e, _, hw⟩ := DataW.trod_int Tryd.underlying3 h
  simp at e
  have := bounds_i64 hw
  exact ⟨z, e, by unfold okN; omega⟩
theorem open_bo {fuel : Nat} {v : Value} {x : DataW H × List MemPlace} (h : DataW.trod enc Tryd.prog w 0 (fun _ => true) true fuel 4 [v] = some x) : ∃ z, v = .bool z := by
  obtain ⟨z, e, _⟩ := DataW.trod_bool Tryd.underlying4 h
  simp at e
  exact ⟨z, e⟩
theorem open_st {fuel : Nat} {v : Value} {x : DataW H × List MemPlace} (h : DataW.trod enc Tryd.prog w 0 (fun _ => true) true fuel 9 [v] = some x) : ∃ z : Str, v = .string (st z) ∧ okS z := by
  obtain ⟨s, e, _, hw⟩ := DataW.trod_string Tryd.underlying9 h
  simp at e
  exact ⟨s.data.toList, by rw [st_of]; exact e, by unfold okS; rw [lenL]; exact hw⟩
theorem cz5 : Tryd.prog.cellsOf 5 = 1 := by kernel_rfl
theorem cz3 : Tryd.prog.cellsOf 3 = 1 := by kernel_rfl
theorem cz4 : Tryd.prog.cellsOf 4 = 1 := by kernel_rfl
theorem cz9 : Tryd.prog.cellsOf 9 = 1 := by kernel_rfl
theorem open_str {fuel : Nat} {cs : List Value} {x : DataW H × List MemPlace} (hl : cs.length = 1) (h : DataW.trod enc Tryd.prog w 0 (fun _ => true) true fuel 9 cs = some x) : ∃ y : Str, cs = clS y ∧ okS y := by
  match cs, hl with
  | [v], _ =>
    obtain ⟨z, rfl, hz⟩ := open_st h
    exact ⟨z, rfl, hz⟩
theorem cz60 : Tryd.prog.cellsOf 60 = 1 := by kernel_rfl
theorem open_strs {fuel : Nat} {v : Value} {x : DataW H × List MemPlace} (h : DataW.trod enc Tryd.prog w 0 (fun _ => true) true fuel 60 [v] = some x) : ∃ xs : List (Str), SlW 1 w (fun _ => True) v (xs.map clS) ∧ ∀ y ∈ xs, okS y := by
  obtain ⟨css, xs, h1, h2, h3⟩ := open_row (R := fun cs y => cs = clS y) (F := okS) Tryd.underlying60 cz9 (by decide) (fun _ _ _ hl hx => open_str hl hx) h
  rw [h2.eqm] at h1
  exact ⟨xs, h1, h3⟩
theorem cz64 : Tryd.prog.cellsOf 64 = 2 := by kernel_rfl
theorem open_class {fuel : Nat} {cs : List Value} {x : DataW H × List MemPlace} (hl : cs.length = 2) (h : DataW.trod enc Tryd.prog w 0 (fun _ => true) true fuel 64 cs = some x) : ∃ y : ClassD, (ReK (fun _ _ => True) w) cs y ∧ ClassD.Ok y := by
  match cs, hl with
  | [v0, v1], _ =>
    obtain ⟨xs, k, hk, hxy, _, hxl, hf⟩ := DataW.trod_struct Tryd.underlying64 h
    match xs, hxl with
    | [y0, y1], _ =>
      have g0 := hf 0 _ rfl
      have g1 := hf 1 _ rfl
      simp [cz3, cz4, cz5, cz60, cz9] at g0 g1
      obtain ⟨z0, rfl, o0⟩ := open_st g0
      obtain ⟨z1, e1, o1⟩ := open_strs g1
      exact ⟨⟨z0, z1⟩, ⟨_, rfl, e1⟩, o0, o1⟩
theorem cz31 : Tryd.prog.cellsOf 31 = 1 := by kernel_rfl
theorem open_classs {fuel : Nat} {v : Value} {x : DataW H × List MemPlace} (h : DataW.trod enc Tryd.prog w 0 (fun _ => true) true fuel 31 [v] = some x) : ∃ xs : List (ClassD), Row 2 (ReK fun _ _ => True) w (fun _ => True) v xs ∧ ∀ y ∈ xs, ClassD.Ok y := by
  obtain ⟨css, xs, h1, h2, h3⟩ := open_row (R := ReK (fun _ _ => True) w) (F := ClassD.Ok) Tryd.underlying31 cz64 (by decide) (fun _ _ _ hl hx => open_class hl hx) h
  exact ⟨xs, ⟨css, h1, h2⟩, h3⟩
theorem cz25 : Tryd.prog.cellsOf 25 = 3 := by kernel_rfl
theorem open_val {fuel : Nat} {cs : List Value} {x : DataW H × List MemPlace} (hl : cs.length = 3) (h : DataW.trod enc Tryd.prog w 0 (fun _ => true) true fuel 25 cs = some x) : ∃ y : VD, (fun cs y => cs = clV y) cs y ∧ VD.Ok y := by
  match cs, hl with
  | [v0, v1, v2], _ =>
    obtain ⟨xs, k, hk, hxy, _, hxl, hf⟩ := DataW.trod_struct Tryd.underlying25 h
    match xs, hxl with
    | [y0, y1, y2], _ =>
      have g0 := hf 0 _ rfl
      have g1 := hf 1 _ rfl
      have g2 := hf 2 _ rfl
      simp [cz3, cz4, cz5, cz9] at g0 g1 g2
      obtain ⟨z0, rfl, o0⟩ := open_by g0
      obtain ⟨z1, rfl, o1⟩ := open_in g1
      obtain ⟨z2, rfl, o2⟩ := open_st g2
      exact ⟨⟨z0, z1, z2⟩, rfl, o0, o1, o2⟩
theorem cz46 : Tryd.prog.cellsOf 46 = 1 := by kernel_rfl
theorem open_vals {fuel : Nat} {v : Value} {x : DataW H × List MemPlace} (h : DataW.trod enc Tryd.prog w 0 (fun _ => true) true fuel 46 [v] = some x) : ∃ xs : List (VD), SlW 3 w (fun _ => True) v (xs.map clV) ∧ ∀ y ∈ xs, VD.Ok y := by
  obtain ⟨css, xs, h1, h2, h3⟩ := open_row (R := fun cs y => cs = clV y) (F := VD.Ok) Tryd.underlying46 cz25 (by decide) (fun _ _ _ hl hx => open_val hl hx) h
  rw [h2.eqm] at h1
  exact ⟨xs, h1, h3⟩
theorem cz57 : Tryd.prog.cellsOf 57 = 5 := by kernel_rfl
theorem open_test {fuel : Nat} {cs : List Value} {x : DataW H × List MemPlace} (hl : cs.length = 5) (h : DataW.trod enc Tryd.prog w 0 (fun _ => true) true fuel 57 cs = some x) : ∃ y : TestD, (fun cs y => cs = clT y) cs y ∧ TestD.Ok y := by
  match cs, hl with
  | [v0, v1, v2, v3, v4], _ =>
    obtain ⟨xs, k, hk, hxy, _, hxl, hf⟩ := DataW.trod_struct Tryd.underlying57 h
    match xs, hxl with
    | [y0, y1, y2], _ =>
      have g0 := hf 0 _ rfl
      have g1 := hf 1 _ rfl
      have g2 := hf 2 _ rfl
      simp [cz25, cz3, cz4, cz5, cz9] at g0 g1 g2
      obtain ⟨z0, rfl, o0⟩ := open_by g0
      obtain ⟨z1, rfl, o1⟩ := open_st g1
      obtain ⟨z2, e2, o2⟩ := open_val rfl g2
      simp only [clV, List.cons.injEq, and_true] at e2
      obtain ⟨rfl, rfl, rfl⟩ := e2
      exact ⟨⟨z0, z1, z2⟩, rfl, o0, o1, o2⟩
theorem cz47 : Tryd.prog.cellsOf 47 = 1 := by kernel_rfl
theorem open_tests {fuel : Nat} {v : Value} {x : DataW H × List MemPlace} (h : DataW.trod enc Tryd.prog w 0 (fun _ => true) true fuel 47 [v] = some x) : ∃ xs : List (TestD), SlW 5 w (fun _ => True) v (xs.map clT) ∧ ∀ y ∈ xs, TestD.Ok y := by
  obtain ⟨css, xs, h1, h2, h3⟩ := open_row (R := fun cs y => cs = clT y) (F := TestD.Ok) Tryd.underlying47 cz57 (by decide) (fun _ _ _ hl hx => open_test hl hx) h
  rw [h2.eqm] at h1
  exact ⟨xs, h1, h3⟩
theorem cz49 : Tryd.prog.cellsOf 49 = 3 := by kernel_rfl
theorem open_attr {fuel : Nat} {cs : List Value} {x : DataW H × List MemPlace} (hl : cs.length = 3) (h : DataW.trod enc Tryd.prog w 0 (fun _ => true) true fuel 49 cs = some x) : ∃ y : AttrD, (ReA (fun _ _ => True) w) cs y ∧ AttrD.Ok y := by
  match cs, hl with
  | [v0, v1, v2], _ =>
    obtain ⟨xs, k, hk, hxy, _, hxl, hf⟩ := DataW.trod_struct Tryd.underlying49 h
    match xs, hxl with
    | [y0, y1, y2], _ =>
      have g0 := hf 0 _ rfl
      have g1 := hf 1 _ rfl
      have g2 := hf 2 _ rfl
      simp [cz3, cz4, cz46, cz47, cz5, cz9] at g0 g1 g2
      obtain ⟨z0, rfl, o0⟩ := open_st g0
      obtain ⟨z1, e1, o1⟩ := open_vals g1
      obtain ⟨z2, e2, o2⟩ := open_tests g2
      exact ⟨⟨z0, z1, z2⟩, ⟨_, _, rfl, e1, e2⟩, o0, o1, o2⟩
theorem cz42 : Tryd.prog.cellsOf 42 = 1 := by kernel_rfl
theorem open_attrs {fuel : Nat} {v : Value} {x : DataW H × List MemPlace} (h : DataW.trod enc Tryd.prog w 0 (fun _ => true) true fuel 42 [v] = some x) : ∃ xs : List (AttrD), Row 3 (ReA fun _ _ => True) w (fun _ => True) v xs ∧ ∀ y ∈ xs, AttrD.Ok y := by
  obtain ⟨css, xs, h1, h2, h3⟩ := open_row (R := ReA (fun _ _ => True) w) (F := AttrD.Ok) Tryd.underlying42 cz49 (by decide) (fun _ _ _ hl hx => open_attr hl hx) h
  exact ⟨xs, ⟨css, h1, h2⟩, h3⟩
theorem cz44 : Tryd.prog.cellsOf 44 = 3 := by kernel_rfl
theorem open_cond {fuel : Nat} {cs : List Value} {x : DataW H × List MemPlace} (hl : cs.length = 3) (h : DataW.trod enc Tryd.prog w 0 (fun _ => true) true fuel 44 cs = some x) : ∃ y : CondD, (ReC (fun _ _ => True) w) cs y ∧ CondD.Ok y := by
  match cs, hl with
  | [v0, v1, v2], _ =>
    obtain ⟨xs, k, hk, hxy, _, hxl, hf⟩ := DataW.trod_struct Tryd.underlying44 h
    match xs, hxl with
    | [y0, y1, y2], _ =>
      have g0 := hf 0 _ rfl
      have g1 := hf 1 _ rfl
      have g2 := hf 2 _ rfl
      simp [cz3, cz4, cz42, cz5, cz9] at g0 g1 g2
      obtain ⟨z0, rfl⟩ := open_bo g0
      obtain ⟨z1, rfl, o1⟩ := open_st g1
      obtain ⟨z2, e2, o2⟩ := open_attrs g2
      exact ⟨⟨z0, z1, z2⟩, ⟨_, rfl, e2⟩, o1, o2⟩
theorem cz36 : Tryd.prog.cellsOf 36 = 1 := by kernel_rfl
theorem open_conds {fuel : Nat} {v : Value} {x : DataW H × List MemPlace} (h : DataW.trod enc Tryd.prog w 0 (fun _ => true) true fuel 36 [v] = some x) : ∃ xs : List (CondD), Row 3 (ReC fun _ _ => True) w (fun _ => True) v xs ∧ ∀ y ∈ xs, CondD.Ok y := by
  obtain ⟨css, xs, h1, h2, h3⟩ := open_row (R := ReC (fun _ _ => True) w) (F := CondD.Ok) Tryd.underlying36 cz44 (by decide) (fun _ _ _ hl hx => open_cond hl hx) h
  exact ⟨xs, ⟨css, h1, h2⟩, h3⟩
theorem cz27 : Tryd.prog.cellsOf 27 = 5 := by kernel_rfl
theorem open_item {fuel : Nat} {cs : List Value} {x : DataW H × List MemPlace} (hl : cs.length = 5) (h : DataW.trod enc Tryd.prog w 0 (fun _ => true) true fuel 27 cs = some x) : ∃ y : ItemD, (fun cs y => cs = clI y) cs y ∧ ItemD.Ok y := by
  match cs, hl with
  | [v0, v1, v2, v3, v4], _ =>
    obtain ⟨xs, k, hk, hxy, _, hxl, hf⟩ := DataW.trod_struct Tryd.underlying27 h
    match xs, hxl with
    | [y0, y1, y2], _ =>
      have g0 := hf 0 _ rfl
      have g1 := hf 1 _ rfl
      have g2 := hf 2 _ rfl
      simp [cz25, cz3, cz4, cz5, cz9] at g0 g1 g2
      obtain ⟨z0, rfl, o0⟩ := open_by g0
      obtain ⟨z1, e1, o1⟩ := open_val rfl g1
      simp only [clV, List.cons.injEq, and_true] at e1
      obtain ⟨rfl, rfl, rfl⟩ := e1
      obtain ⟨z2, rfl, o2⟩ := open_st g2
      exact ⟨⟨z0, z1, z2⟩, rfl, o0, o1, o2⟩
theorem cz22 : Tryd.prog.cellsOf 22 = 1 := by kernel_rfl
theorem open_items {fuel : Nat} {v : Value} {x : DataW H × List MemPlace} (h : DataW.trod enc Tryd.prog w 0 (fun _ => true) true fuel 22 [v] = some x) : ∃ xs : List (ItemD), SlW 5 w (fun _ => True) v (xs.map clI) ∧ ∀ y ∈ xs, ItemD.Ok y := by
  obtain ⟨css, xs, h1, h2, h3⟩ := open_row (R := fun cs y => cs = clI y) (F := ItemD.Ok) Tryd.underlying22 cz27 (by decide) (fun _ _ _ hl hx => open_item hl hx) h
  rw [h2.eqm] at h1
  exact ⟨xs, h1, h3⟩
theorem cz77 : Tryd.prog.cellsOf 77 = 2 := by kernel_rfl
theorem open_set {fuel : Nat} {cs : List Value} {x : DataW H × List MemPlace} (hl : cs.length = 2) (h : DataW.trod enc Tryd.prog w 0 (fun _ => true) true fuel 77 cs = some x) : ∃ y : SetD, (ReS (fun _ _ => True) w) cs y ∧ SetD.Ok y := by
  match cs, hl with
  | [v0, v1], _ =>
    obtain ⟨xs, k, hk, hxy, _, hxl, hf⟩ := DataW.trod_struct Tryd.underlying77 h
    match xs, hxl with
    | [y0, y1], _ =>
      have g0 := hf 0 _ rfl
      have g1 := hf 1 _ rfl
      simp [cz22, cz3, cz4, cz5, cz9] at g0 g1
      obtain ⟨z0, rfl, o0⟩ := open_st g0
      obtain ⟨z1, e1, o1⟩ := open_items g1
      exact ⟨⟨z0, z1⟩, ⟨_, rfl, e1⟩, o0, o1⟩
theorem cz51 : Tryd.prog.cellsOf 51 = 1 := by kernel_rfl
theorem open_sets {fuel : Nat} {v : Value} {x : DataW H × List MemPlace} (h : DataW.trod enc Tryd.prog w 0 (fun _ => true) true fuel 51 [v] = some x) : ∃ xs : List (SetD), Row 2 (ReS fun _ _ => True) w (fun _ => True) v xs ∧ ∀ y ∈ xs, SetD.Ok y := by
  obtain ⟨css, xs, h1, h2, h3⟩ := open_row (R := ReS (fun _ _ => True) w) (F := SetD.Ok) Tryd.underlying51 cz77 (by decide) (fun _ _ _ hl hx => open_set hl hx) h
  exact ⟨xs, ⟨css, h1, h2⟩, h3⟩
theorem open_expr {fuel : Nat} {cs : List Value} {x : DataW H × List MemPlace} (hl : cs.length = 1) (h : DataW.trod enc Tryd.prog w 0 (fun _ => true) true fuel 22 cs = some x) : ∃ y : List ItemD, ReE (fun _ _ => True) w cs y ∧ ∀ z ∈ y, z.Ok := by
  match cs, hl with
  | [v], _ =>
    obtain ⟨xs, h1, h2⟩ := open_items h
    exact ⟨xs, ⟨v, rfl, h1⟩, h2⟩
theorem cz52 : Tryd.prog.cellsOf 52 = 1 := by kernel_rfl
theorem open_exprs {fuel : Nat} {v : Value} {x : DataW H × List MemPlace} (h : DataW.trod enc Tryd.prog w 0 (fun _ => true) true fuel 52 [v] = some x) : ∃ xs : List (List ItemD), Row 1 (ReE fun _ _ => True) w (fun _ => True) v xs ∧ ∀ y ∈ xs, (fun y => ∀ z ∈ y, ItemD.Ok z) y := by
  obtain ⟨css, xs, h1, h2, h3⟩ := open_row (R := ReE (fun _ _ => True) w) (F := (fun y => ∀ z ∈ y, ItemD.Ok z)) Tryd.underlying52 cz22 (by decide) (fun _ _ _ hl hx => open_expr hl hx) h
  exact ⟨xs, ⟨css, h1, h2⟩, h3⟩
theorem cz54 : Tryd.prog.cellsOf 54 = 6 := by kernel_rfl
theorem open_act {fuel : Nat} {cs : List Value} {x : DataW H × List MemPlace} (hl : cs.length = 6) (h : DataW.trod enc Tryd.prog w 0 (fun _ => true) true fuel 54 cs = some x) : ∃ y : ActD, (ReT (fun _ _ => True) w) cs y ∧ ActD.Ok y := by
  match cs, hl with
  | [v0, v1, v2, v3, v4, v5], _ =>
    obtain ⟨xs, k, hk, hxy, _, hxl, hf⟩ := DataW.trod_struct Tryd.underlying54 h
    match xs, hxl with
    | [y0, y1, y2, y3, y4, y5], _ =>
      have g0 := hf 0 _ rfl
      have g1 := hf 1 _ rfl
      have g2 := hf 2 _ rfl
      have g3 := hf 3 _ rfl
      have g4 := hf 4 _ rfl
      have g5 := hf 5 _ rfl
      simp [cz3, cz4, cz5, cz51, cz52, cz9] at g0 g1 g2 g3 g4 g5
      obtain ⟨z0, rfl, o0⟩ := open_by g0
      obtain ⟨z1, rfl, o1⟩ := open_st g1
      obtain ⟨z2, rfl, o2⟩ := open_in g2
      obtain ⟨z3, rfl, o3⟩ := open_st g3
      obtain ⟨z4, e4, o4⟩ := open_sets g4
      obtain ⟨z5, e5, o5⟩ := open_exprs g5
      exact ⟨⟨z0, z1, z2, z3, z4, z5⟩, ⟨_, _, rfl, e4, e5⟩, o0, o1, o2, o3, o4, o5⟩
theorem cz37 : Tryd.prog.cellsOf 37 = 1 := by kernel_rfl
theorem open_acts {fuel : Nat} {v : Value} {x : DataW H × List MemPlace} (h : DataW.trod enc Tryd.prog w 0 (fun _ => true) true fuel 37 [v] = some x) : ∃ xs : List (ActD), Row 6 (ReT fun _ _ => True) w (fun _ => True) v xs ∧ ∀ y ∈ xs, ActD.Ok y := by
  obtain ⟨css, xs, h1, h2, h3⟩ := open_row (R := ReT (fun _ _ => True) w) (F := ActD.Ok) Tryd.underlying37 cz54 (by decide) (fun _ _ _ hl hx => open_act hl hx) h
  exact ⟨xs, ⟨css, h1, h2⟩, h3⟩
theorem cz39 : Tryd.prog.cellsOf 39 = 3 := by kernel_rfl
theorem open_rule {fuel : Nat} {cs : List Value} {x : DataW H × List MemPlace} (hl : cs.length = 3) (h : DataW.trod enc Tryd.prog w 0 (fun _ => true) true fuel 39 cs = some x) : ∃ y : RuleD, (ReR (fun _ _ => True) w) cs y ∧ RuleD.Ok y := by
  match cs, hl with
  | [v0, v1, v2], _ =>
    obtain ⟨xs, k, hk, hxy, _, hxl, hf⟩ := DataW.trod_struct Tryd.underlying39 h
    match xs, hxl with
    | [y0, y1, y2], _ =>
      have g0 := hf 0 _ rfl
      have g1 := hf 1 _ rfl
      have g2 := hf 2 _ rfl
      simp [cz3, cz36, cz37, cz4, cz5, cz9] at g0 g1 g2
      obtain ⟨z0, rfl, o0⟩ := open_st g0
      obtain ⟨z1, e1, o1⟩ := open_conds g1
      obtain ⟨z2, e2, o2⟩ := open_acts g2
      exact ⟨⟨z0, z1, z2⟩, ⟨_, _, rfl, e1, e2⟩, o0, o1, o2⟩
theorem cz32 : Tryd.prog.cellsOf 32 = 1 := by kernel_rfl
theorem open_rules {fuel : Nat} {v : Value} {x : DataW H × List MemPlace} (h : DataW.trod enc Tryd.prog w 0 (fun _ => true) true fuel 32 [v] = some x) : ∃ xs : List (RuleD), Row 3 (ReR fun _ _ => True) w (fun _ => True) v xs ∧ ∀ y ∈ xs, RuleD.Ok y := by
  obtain ⟨css, xs, h1, h2, h3⟩ := open_row (R := ReR (fun _ _ => True) w) (F := RuleD.Ok) Tryd.underlying32 cz39 (by decide) (fun _ _ _ hl hx => open_rule hl hx) h
  exact ⟨xs, ⟨css, h1, h2⟩, h3⟩
theorem cz34 : Tryd.prog.cellsOf 34 = 2 := by kernel_rfl
theorem open_prog {fuel : Nat} {cs : List Value} {x : DataW H × List MemPlace} (hl : cs.length = 2) (h : DataW.trod enc Tryd.prog w 0 (fun _ => true) true fuel 34 cs = some x) : ∃ y : ProgD, (ReP (fun _ _ => True) w) cs y ∧ ProgD.Ok y := by
  match cs, hl with
  | [v0, v1], _ =>
    obtain ⟨xs, k, hk, hxy, _, hxl, hf⟩ := DataW.trod_struct Tryd.underlying34 h
    match xs, hxl with
    | [y0, y1], _ =>
      have g0 := hf 0 _ rfl
      have g1 := hf 1 _ rfl
      simp [cz3, cz31, cz32, cz4, cz5, cz9] at g0 g1
      obtain ⟨z0, e0, o0⟩ := open_classs g0
      obtain ⟨z1, e1, o1⟩ := open_rules g1
      exact ⟨⟨z0, z1⟩, ⟨_, _, rfl, e0, e1⟩, o0, o1⟩
theorem okWide_prog {W : World} {base : Nat} {v : Value} (h : Value.okWide Tryd.prog W .any base 34 v) : ∃ cs, v = .agg cs ∧ cs.size = 2 := by
  simp only [Value.okWide, Tryd.underlying34] at h
  obtain ⟨cs, h1, h2, _⟩ := h
  exact ⟨cs, h1, by rw [h2, cz34]⟩
theorem arg_prog {W : World} {base : Nat} {v : Value} {d : DataW H} {ps : List MemPlace} (hv : Value.okWide Tryd.prog W .any base 34 v) (h : DataW.Trod enc Tryd.prog W 0 (fun _ => true) true 34 v d ps) : ∃ (cs : List Value) (y : ProgD), v = .agg cs.toArray ∧ (ReP (fun _ _ => True) W) cs y ∧ ProgD.Ok y := by
  obtain ⟨cs, rfl, hs⟩ := okWide_prog hv
  obtain ⟨fuel, hf⟩ := h
  obtain ⟨l⟩ := cs
  obtain ⟨y, h1, h2⟩ := open_prog (cs := l) hs hf
  exact ⟨l, y, rfl, h1, h2⟩
end
end Go.Proofs.YtemacdimdpnkeaaDoor
