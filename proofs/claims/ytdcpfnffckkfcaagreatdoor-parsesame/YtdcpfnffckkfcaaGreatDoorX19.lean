import Derived.Test.YtdcpfnffckkfcaaGreatDoorX10
import Derived.Deep.Slices
import Derived.ChangeSlices
import Derived.OpenShut
import Derived.ProofKit
import Derived.RowKit3
namespace Go.Proofs.YtdcpfnffckkfcaaGreatDoor
open Go.ChangeShapes Go.WideShapes Go.ChangeAt Go.RowKit
set_option linter.unusedVariables false
set_option linter.unusedSimpArgs false
set_option maxRecDepth 20000
def okB (k : Int) : Prop := 0 ≤ k ∧ k ≤ 255
def okN (n : Int) : Prop := -9223372036854775808 ≤ n ∧ n ≤ 9223372036854775807
def okS (s : Str) : Prop := s.length ≤ maxLen
def VD.Ok (x : VD) : Prop := okB x.k ∧ okN x.n ∧ okS x.s
def TestD.Ok (x : TestD) : Prop := okB x.p ∧ okS x.v ∧ x.x.Ok
def AttrD.Ok (x : AttrD) : Prop := okS x.a ∧ (∀ y ∈ x.ones, y.Ok) ∧ ∀ y ∈ x.tests, y.Ok
def CondD.Ok (x : CondD) : Prop := okS x.c ∧ ∀ y ∈ x.attrs, y.Ok
def ItemD.Ok (x : ItemD) : Prop := okB x.k ∧ x.x.Ok ∧ okS x.v
def SetD.Ok (x : SetD) : Prop := okS x.a ∧ ∀ y ∈ x.e, y.Ok
def ActD.Ok (x : ActD) : Prop := okB x.k ∧ okS x.c ∧ okN x.n ∧ okS x.v ∧ (∀ y ∈ x.sets, y.Ok) ∧ ∀ y ∈ x.exprs, ∀ z ∈ y, z.Ok
def RuleD.Ok (x : RuleD) : Prop := okS x.nm ∧ (∀ y ∈ x.conds, y.Ok) ∧ ∀ y ∈ x.acts, y.Ok
def ClassD.Ok (x : ClassD) : Prop := okS x.nm ∧ ∀ y ∈ x.attrs, okS y
def ProgD.Ok (x : ProgD) : Prop := (∀ y ∈ x.cs, y.Ok) ∧ ∀ y ∈ x.rs, y.Ok
instance : Inhabited VD := ⟨⟨0, 0, []⟩⟩
instance : Inhabited TestD := ⟨⟨0, [], default⟩⟩
instance : Inhabited AttrD := ⟨⟨[], [], []⟩⟩
instance : Inhabited CondD := ⟨⟨false, [], []⟩⟩
instance : Inhabited ItemD := ⟨⟨0, default, []⟩⟩
instance : Inhabited SetD := ⟨⟨[], []⟩⟩
instance : Inhabited ActD := ⟨⟨0, [], 0, [], [], []⟩⟩
instance : Inhabited RuleD := ⟨⟨[], [], []⟩⟩
instance : Inhabited ClassD := ⟨⟨[], []⟩⟩
instance : Inhabited ProgD := ⟨⟨[], []⟩⟩
theorem All2.eqm {α : Type} {f : α → List Value} {css : List (List Value)} {xs : List α} (h : All2 (fun c x => c = f x) css xs) : css = xs.map f := by
  induction xs generalizing css with
  | nil => cases css with
    | nil => rfl
    | cons c cs => exact h.elim
  | cons x xs ih => cases css with
    | nil => exact h.elim
    | cons c cs => rw [List.map_cons, h.1, ih h.2]
theorem All2.of_range {α : Type} {R : List Value → α → Prop} (f : Nat → List Value × α) : ∀ (l : List Nat), (∀ i ∈ l, R (f i).1 (f i).2) → All2 R (l.map fun i => (f i).1) (l.map fun i => (f i).2)
  | [], _ => trivial
  | i :: l, h => ⟨h i (List.mem_cons_self ..), All2.of_range f l fun j hj => h j (List.mem_cons_of_mem _ hj)⟩
theorem open_row {α : Type} [Inhabited α] {n : Nat} {sl e : TypeId} {H : Type} {enc : TypeId × Value → H} {w : World} {R : List Value → α → Prop} {F : α → Prop} (hsl : Tryz.prog.underlying sl = some (.slice e)) (hn : Tryz.prog.cellsOf e = n) (h0 : 0 < n)
    (he : ∀ (fuel : Nat) (cs : List Value) (x : DataW H × List MemPlace), cs.length = n → DataW.trod enc Tryz.prog w 0 (fun _ => true) true fuel e cs = some x → ∃ y, R cs y ∧ F y)
    {fuel : Nat} {v : Value} {x : DataW H × List MemPlace} (h : DataW.trod enc Tryz.prog w 0 (fun _ => true) true fuel sl [v] = some x) :
    ∃ (css : List (List Value)) (xs : List α), SlW n w (fun _ => True) v css ∧ All2 R css xs ∧ ∀ y ∈ xs, F y := by
  rcases Go.Deep.open_slice hsl h with ⟨hcs, _⟩ | ⟨ad, len, cap, m, k, D, Pl, hcs, _, hl, hm, hmm, _, hx⟩
  · simp at hcs
    subst hcs
    exact ⟨[], [], ⟨none, 0, rfl, Nat.le_refl _, by decide, .inl rfl⟩, trivial, by simp⟩
  · simp at hcs
    subst hcs
    simp at hmm
    subst hmm
    rw [hn] at hx
    obtain ⟨b, off, spot⟩ := ad
    have hmx : m ≤ 9223372036854775807 := by unfold maxLen at hm; omega
    by_cases hl0 : len = 0
    · subst hl0
      exact ⟨[], [], ⟨_, m, rfl, Nat.zero_le _, hmx, .inl rfl⟩, trivial, by simp⟩
    have hspot : spot = none := by
      obtain ⟨cs', h1, h2⟩ := hx 0 (by omega)
      obtain ⟨_, hlen, hcell⟩ := World.cells?_some h1
      match cs', hlen with
      | [], e => simp at e; omega
      | v0 :: _, _ =>
        have e0 := hcell 0 h0
        have := World.cell?_spot (e0.trans rfl)
        simpa [Addr.add] using this
    subst hspot
    have each : ∀ i, i < len → ∃ y : List Value × α, y.1.length = n ∧ b < w.heap.size ∧ (∀ j, j < n → w.cell? ⟨b, off + (i * n + j), none⟩ = y.1[j]?) ∧ R y.1 y.2 ∧ F y.2 := by
      intro i hi
      obtain ⟨cs', h1, h2⟩ := hx i (by omega)
      obtain ⟨_, hlen, hcell⟩ := World.cells?_some h1
      obtain ⟨y, hy, hf⟩ := he _ _ _ hlen h2
      refine ⟨(cs', y), hlen, ?_, ?_, hy, hf⟩
      · match cs', hlen with
        | [], e => simp at e; omega
        | v0 :: _, _ =>
          have e0 := hcell 0 h0
          have := World.block_lt_of_cell? _ _ (e0.trans rfl)
          rw [add_plain, add_plain] at this
          exact this
      · intro j hj
        have := hcell j hj
        rw [add_plain, add_plain] at this
        rw [← this]
        congr 2
        exact (Nat.add_assoc off (i * n) j).symm
    obtain ⟨f, hf⟩ := Go.Deep.choose_lt each
    refine ⟨(List.range len).map fun i => (f i).1, (List.range len).map fun i => (f i).2, ⟨_, m, by simp, by simpa using hl, hmx, .inr ⟨b, off, rfl, (hf 0 (by omega)).2.1, trivial, fun i j hi hj => ?_⟩⟩, All2.of_range f _ (fun i hi => (hf i (List.mem_range.1 hi)).2.2.2.1), ?_⟩
    · simp only [List.length_map, List.length_range] at hi
      rw [(hf i hi).2.2.1 j hj, List.getD_eq_getElem?_getD, List.getElem?_map, List.getElem?_range hi]
      rfl
    · intro y hy
      obtain ⟨i, hi, rfl⟩ := List.mem_map.1 hy
      exact (hf i (List.mem_range.1 hi)).2.2.2.2
section
variable {H : Type} {enc : TypeId × Value → H} {w : World}
theorem open_by {fuel : Nat} {v : Value} {x : DataW H × List MemPlace} (h : DataW.trod enc Tryz.prog w 0 (fun _ => true) true fuel 5 [v] = some x) : ∃ z, v = .int .u8 z ∧ okB z := by
  obtain ⟨z, e, _, hw⟩ := DataW.trod_int Tryz.underlying5 h
  simp at e
  have := bounds_u8 hw
  exact ⟨z, e, by unfold okB; omega⟩
theorem open_in {fuel : Nat} {v : Value} {x : DataW H × List MemPlace} (h : DataW.trod enc Tryz.prog w 0 (fun _ => true) true fuel 3 [v] = some x) : ∃ z, v = .int .i64 z ∧ okN z := by
  obtain ⟨z, e, _, hw⟩ := DataW.trod_int Tryz.underlying3 h
  simp at e
  have := bounds_i64 hw
  exact ⟨z, e, by unfold okN; omega⟩
theorem open_bo {fuel : Nat} {v : Value} {x : DataW H × List MemPlace} (h : DataW.trod enc Tryz.prog w 0 (fun _ => true) true fuel 4 [v] = some x) : ∃ z, v = .bool z := by
  obtain ⟨z, e, _⟩ := DataW.trod_bool Tryz.underlying4 h
  simp at e
  exact ⟨z, e⟩
theorem open_st {fuel : Nat} {v : Value} {x : DataW H × List MemPlace} (h : DataW.trod enc Tryz.prog w 0 (fun _ => true) true fuel 9 [v] = some x) : ∃ z : Str, v = .string (st z) ∧ okS z := by
  obtain ⟨s, e, _, hw⟩ := DataW.trod_string Tryz.underlying9 h
  simp at e
  exact ⟨s.data.toList, by rw [st_of]; exact e, by unfold okS; rw [lenL]; exact hw⟩
theorem cz5 : Tryz.prog.cellsOf 5 = 1 := by kernel_rfl
theorem cz3 : Tryz.prog.cellsOf 3 = 1 := by kernel_rfl
theorem cz4 : Tryz.prog.cellsOf 4 = 1 := by kernel_rfl
theorem cz9 : Tryz.prog.cellsOf 9 = 1 := by kernel_rfl
theorem open_str {fuel : Nat} {cs : List Value} {x : DataW H × List MemPlace} (hl : cs.length = 1) (h : DataW.trod enc Tryz.prog w 0 (fun _ => true) true fuel 9 cs = some x) : ∃ y : Str, cs = clS y ∧ okS y := by
  match cs, hl with
  | [v], _ =>
    obtain ⟨z, rfl, hz⟩ := open_st h
    exact ⟨z, rfl, hz⟩
theorem cz70 : Tryz.prog.cellsOf 70 = 1 := by kernel_rfl
theorem open_strs {fuel : Nat} {v : Value} {x : DataW H × List MemPlace} (h : DataW.trod enc Tryz.prog w 0 (fun _ => true) true fuel 70 [v] = some x) : ∃ xs : List (Str), SlW 1 w (fun _ => True) v (xs.map clS) ∧ ∀ y ∈ xs, okS y := by
  obtain ⟨css, xs, h1, h2, h3⟩ := open_row (R := fun cs y => cs = clS y) (F := okS) Tryz.underlying70 cz9 (by decide) (fun _ _ _ hl hx => open_str hl hx) h
  rw [h2.eqm] at h1
  exact ⟨xs, h1, h3⟩
theorem cz72 : Tryz.prog.cellsOf 72 = 2 := by kernel_rfl
theorem open_class {fuel : Nat} {cs : List Value} {x : DataW H × List MemPlace} (hl : cs.length = 2) (h : DataW.trod enc Tryz.prog w 0 (fun _ => true) true fuel 72 cs = some x) : ∃ y : ClassD, (ReK (fun _ _ => True) w) cs y ∧ ClassD.Ok y := by
  match cs, hl with
  | [v0, v1], _ =>
    obtain ⟨xs, k, hk, hxy, _, hxl, hf⟩ := DataW.trod_struct Tryz.underlying72 h
    match xs, hxl with
    | [y0, y1], _ =>
      have g0 := hf 0 _ rfl
      have g1 := hf 1 _ rfl
      simp [cz3, cz4, cz5, cz70, cz9] at g0 g1
      obtain ⟨z0, rfl, o0⟩ := open_st g0
      obtain ⟨z1, e1, o1⟩ := open_strs g1
      exact ⟨⟨z0, z1⟩, ⟨_, rfl, e1⟩, o0, o1⟩
theorem cz23 : Tryz.prog.cellsOf 23 = 1 := by kernel_rfl
theorem open_classs {fuel : Nat} {v : Value} {x : DataW H × List MemPlace} (h : DataW.trod enc Tryz.prog w 0 (fun _ => true) true fuel 23 [v] = some x) : ∃ xs : List (ClassD), Row 2 (ReK fun _ _ => True) w (fun _ => True) v xs ∧ ∀ y ∈ xs, ClassD.Ok y := by
  obtain ⟨css, xs, h1, h2, h3⟩ := open_row (R := ReK (fun _ _ => True) w) (F := ClassD.Ok) Tryz.underlying23 cz72 (by decide) (fun _ _ _ hl hx => open_class hl hx) h
  exact ⟨xs, ⟨css, h1, h2⟩, h3⟩
theorem cz41 : Tryz.prog.cellsOf 41 = 3 := by kernel_rfl
theorem open_val {fuel : Nat} {cs : List Value} {x : DataW H × List MemPlace} (hl : cs.length = 3) (h : DataW.trod enc Tryz.prog w 0 (fun _ => true) true fuel 41 cs = some x) : ∃ y : VD, (fun cs y => cs = clV y) cs y ∧ VD.Ok y := by
  match cs, hl with
  | [v0, v1, v2], _ =>
    obtain ⟨xs, k, hk, hxy, _, hxl, hf⟩ := DataW.trod_struct Tryz.underlying41 h
    match xs, hxl with
    | [y0, y1, y2], _ =>
      have g0 := hf 0 _ rfl
      have g1 := hf 1 _ rfl
      have g2 := hf 2 _ rfl
      simp [cz3, cz4, cz5, cz9] at g0 g1 g2
      obtain ⟨z0, rfl, o0⟩ := open_by g0
      obtain ⟨z1, rfl, o1⟩ := open_in g1
      obtain ⟨z2, rfl, o2⟩ := open_st g2
      exact ⟨⟨z0, z1, z2⟩, rfl, o0, o1, o2⟩
theorem cz101 : Tryz.prog.cellsOf 101 = 1 := by kernel_rfl
theorem open_vals {fuel : Nat} {v : Value} {x : DataW H × List MemPlace} (h : DataW.trod enc Tryz.prog w 0 (fun _ => true) true fuel 101 [v] = some x) : ∃ xs : List (VD), SlW 3 w (fun _ => True) v (xs.map clV) ∧ ∀ y ∈ xs, VD.Ok y := by
  obtain ⟨css, xs, h1, h2, h3⟩ := open_row (R := fun cs y => cs = clV y) (F := VD.Ok) Tryz.underlying101 cz41 (by decide) (fun _ _ _ hl hx => open_val hl hx) h
  rw [h2.eqm] at h1
  exact ⟨xs, h1, h3⟩
theorem cz137 : Tryz.prog.cellsOf 137 = 5 := by kernel_rfl
theorem open_test {fuel : Nat} {cs : List Value} {x : DataW H × List MemPlace} (hl : cs.length = 5) (h : DataW.trod enc Tryz.prog w 0 (fun _ => true) true fuel 137 cs = some x) : ∃ y : TestD, (fun cs y => cs = clT y) cs y ∧ TestD.Ok y := by
  match cs, hl with
  | [v0, v1, v2, v3, v4], _ =>
    obtain ⟨xs, k, hk, hxy, _, hxl, hf⟩ := DataW.trod_struct Tryz.underlying137 h
    match xs, hxl with
    | [y0, y1, y2], _ =>
      have g0 := hf 0 _ rfl
      have g1 := hf 1 _ rfl
      have g2 := hf 2 _ rfl
      simp [cz3, cz4, cz41, cz5, cz9] at g0 g1 g2
      obtain ⟨z0, rfl, o0⟩ := open_by g0
      obtain ⟨z1, rfl, o1⟩ := open_st g1
      obtain ⟨z2, e2, o2⟩ := open_val rfl g2
      simp only [clV, List.cons.injEq, and_true] at e2
      obtain ⟨rfl, rfl, rfl⟩ := e2
      exact ⟨⟨z0, z1, z2⟩, rfl, o0, o1, o2⟩
theorem cz102 : Tryz.prog.cellsOf 102 = 1 := by kernel_rfl
theorem open_tests {fuel : Nat} {v : Value} {x : DataW H × List MemPlace} (h : DataW.trod enc Tryz.prog w 0 (fun _ => true) true fuel 102 [v] = some x) : ∃ xs : List (TestD), SlW 5 w (fun _ => True) v (xs.map clT) ∧ ∀ y ∈ xs, TestD.Ok y := by
  obtain ⟨css, xs, h1, h2, h3⟩ := open_row (R := fun cs y => cs = clT y) (F := TestD.Ok) Tryz.underlying102 cz137 (by decide) (fun _ _ _ hl hx => open_test hl hx) h
  rw [h2.eqm] at h1
  exact ⟨xs, h1, h3⟩
theorem cz104 : Tryz.prog.cellsOf 104 = 3 := by kernel_rfl
theorem open_attr {fuel : Nat} {cs : List Value} {x : DataW H × List MemPlace} (hl : cs.length = 3) (h : DataW.trod enc Tryz.prog w 0 (fun _ => true) true fuel 104 cs = some x) : ∃ y : AttrD, (ReA (fun _ _ => True) w) cs y ∧ AttrD.Ok y := by
  match cs, hl with
  | [v0, v1, v2], _ =>
    obtain ⟨xs, k, hk, hxy, _, hxl, hf⟩ := DataW.trod_struct Tryz.underlying104 h
    match xs, hxl with
    | [y0, y1, y2], _ =>
      have g0 := hf 0 _ rfl
      have g1 := hf 1 _ rfl
      have g2 := hf 2 _ rfl
      simp [cz101, cz102, cz3, cz4, cz5, cz9] at g0 g1 g2
      obtain ⟨z0, rfl, o0⟩ := open_st g0
      obtain ⟨z1, e1, o1⟩ := open_vals g1
      obtain ⟨z2, e2, o2⟩ := open_tests g2
      exact ⟨⟨z0, z1, z2⟩, ⟨_, _, rfl, e1, e2⟩, o0, o1, o2⟩
theorem cz94 : Tryz.prog.cellsOf 94 = 1 := by kernel_rfl
theorem open_attrs {fuel : Nat} {v : Value} {x : DataW H × List MemPlace} (h : DataW.trod enc Tryz.prog w 0 (fun _ => true) true fuel 94 [v] = some x) : ∃ xs : List (AttrD), Row 3 (ReA fun _ _ => True) w (fun _ => True) v xs ∧ ∀ y ∈ xs, AttrD.Ok y := by
  obtain ⟨css, xs, h1, h2, h3⟩ := open_row (R := ReA (fun _ _ => True) w) (F := AttrD.Ok) Tryz.underlying94 cz104 (by decide) (fun _ _ _ hl hx => open_attr hl hx) h
  exact ⟨xs, ⟨css, h1, h2⟩, h3⟩
theorem cz96 : Tryz.prog.cellsOf 96 = 3 := by kernel_rfl
theorem open_cond {fuel : Nat} {cs : List Value} {x : DataW H × List MemPlace} (hl : cs.length = 3) (h : DataW.trod enc Tryz.prog w 0 (fun _ => true) true fuel 96 cs = some x) : ∃ y : CondD, (ReC (fun _ _ => True) w) cs y ∧ CondD.Ok y := by
  match cs, hl with
  | [v0, v1, v2], _ =>
    obtain ⟨xs, k, hk, hxy, _, hxl, hf⟩ := DataW.trod_struct Tryz.underlying96 h
    match xs, hxl with
    | [y0, y1, y2], _ =>
      have g0 := hf 0 _ rfl
      have g1 := hf 1 _ rfl
      have g2 := hf 2 _ rfl
      simp [cz3, cz4, cz5, cz9, cz94] at g0 g1 g2
      obtain ⟨z0, rfl⟩ := open_bo g0
      obtain ⟨z1, rfl, o1⟩ := open_st g1
      obtain ⟨z2, e2, o2⟩ := open_attrs g2
      exact ⟨⟨z0, z1, z2⟩, ⟨_, rfl, e2⟩, o1, o2⟩
theorem cz46 : Tryz.prog.cellsOf 46 = 1 := by kernel_rfl
theorem open_conds {fuel : Nat} {v : Value} {x : DataW H × List MemPlace} (h : DataW.trod enc Tryz.prog w 0 (fun _ => true) true fuel 46 [v] = some x) : ∃ xs : List (CondD), Row 3 (ReC fun _ _ => True) w (fun _ => True) v xs ∧ ∀ y ∈ xs, CondD.Ok y := by
  obtain ⟨css, xs, h1, h2, h3⟩ := open_row (R := ReC (fun _ _ => True) w) (F := CondD.Ok) Tryz.underlying46 cz96 (by decide) (fun _ _ _ hl hx => open_cond hl hx) h
  exact ⟨xs, ⟨css, h1, h2⟩, h3⟩
theorem cz58 : Tryz.prog.cellsOf 58 = 5 := by kernel_rfl
theorem open_item {fuel : Nat} {cs : List Value} {x : DataW H × List MemPlace} (hl : cs.length = 5) (h : DataW.trod enc Tryz.prog w 0 (fun _ => true) true fuel 58 cs = some x) : ∃ y : ItemD, (fun cs y => cs = clI y) cs y ∧ ItemD.Ok y := by
  match cs, hl with
  | [v0, v1, v2, v3, v4], _ =>
    obtain ⟨xs, k, hk, hxy, _, hxl, hf⟩ := DataW.trod_struct Tryz.underlying58 h
    match xs, hxl with
    | [y0, y1, y2], _ =>
      have g0 := hf 0 _ rfl
      have g1 := hf 1 _ rfl
      have g2 := hf 2 _ rfl
      simp [cz3, cz4, cz41, cz5, cz9] at g0 g1 g2
      obtain ⟨z0, rfl, o0⟩ := open_by g0
      obtain ⟨z1, e1, o1⟩ := open_val rfl g1
      simp only [clV, List.cons.injEq, and_true] at e1
      obtain ⟨rfl, rfl, rfl⟩ := e1
      obtain ⟨z2, rfl, o2⟩ := open_st g2
      exact ⟨⟨z0, z1, z2⟩, rfl, o0, o1, o2⟩
theorem cz54 : Tryz.prog.cellsOf 54 = 1 := by kernel_rfl
theorem open_items {fuel : Nat} {v : Value} {x : DataW H × List MemPlace} (h : DataW.trod enc Tryz.prog w 0 (fun _ => true) true fuel 54 [v] = some x) : ∃ xs : List (ItemD), SlW 5 w (fun _ => True) v (xs.map clI) ∧ ∀ y ∈ xs, ItemD.Ok y := by
  obtain ⟨css, xs, h1, h2, h3⟩ := open_row (R := fun cs y => cs = clI y) (F := ItemD.Ok) Tryz.underlying54 cz58 (by decide) (fun _ _ _ hl hx => open_item hl hx) h
  rw [h2.eqm] at h1
  exact ⟨xs, h1, h3⟩
theorem cz56 : Tryz.prog.cellsOf 56 = 2 := by kernel_rfl
theorem open_set {fuel : Nat} {cs : List Value} {x : DataW H × List MemPlace} (hl : cs.length = 2) (h : DataW.trod enc Tryz.prog w 0 (fun _ => true) true fuel 56 cs = some x) : ∃ y : SetD, (ReS (fun _ _ => True) w) cs y ∧ SetD.Ok y := by
  match cs, hl with
  | [v0, v1], _ =>
    obtain ⟨xs, k, hk, hxy, _, hxl, hf⟩ := DataW.trod_struct Tryz.underlying56 h
    match xs, hxl with
    | [y0, y1], _ =>
      have g0 := hf 0 _ rfl
      have g1 := hf 1 _ rfl
      simp [cz3, cz4, cz5, cz54, cz9] at g0 g1
      obtain ⟨z0, rfl, o0⟩ := open_st g0
      obtain ⟨z1, e1, o1⟩ := open_items g1
      exact ⟨⟨z0, z1⟩, ⟨_, rfl, e1⟩, o0, o1⟩
theorem cz50 : Tryz.prog.cellsOf 50 = 1 := by kernel_rfl
theorem open_sets {fuel : Nat} {v : Value} {x : DataW H × List MemPlace} (h : DataW.trod enc Tryz.prog w 0 (fun _ => true) true fuel 50 [v] = some x) : ∃ xs : List (SetD), Row 2 (ReS fun _ _ => True) w (fun _ => True) v xs ∧ ∀ y ∈ xs, SetD.Ok y := by
  obtain ⟨css, xs, h1, h2, h3⟩ := open_row (R := ReS (fun _ _ => True) w) (F := SetD.Ok) Tryz.underlying50 cz56 (by decide) (fun _ _ _ hl hx => open_set hl hx) h
  exact ⟨xs, ⟨css, h1, h2⟩, h3⟩
theorem open_expr {fuel : Nat} {cs : List Value} {x : DataW H × List MemPlace} (hl : cs.length = 1) (h : DataW.trod enc Tryz.prog w 0 (fun _ => true) true fuel 54 cs = some x) : ∃ y : List ItemD, ReE (fun _ _ => True) w cs y ∧ ∀ z ∈ y, z.Ok := by
  match cs, hl with
  | [v], _ =>
    obtain ⟨xs, h1, h2⟩ := open_items h
    exact ⟨xs, ⟨v, rfl, h1⟩, h2⟩
theorem cz51 : Tryz.prog.cellsOf 51 = 1 := by kernel_rfl
theorem open_exprs {fuel : Nat} {v : Value} {x : DataW H × List MemPlace} (h : DataW.trod enc Tryz.prog w 0 (fun _ => true) true fuel 51 [v] = some x) : ∃ xs : List (List ItemD), Row 1 (ReE fun _ _ => True) w (fun _ => True) v xs ∧ ∀ y ∈ xs, (fun y => ∀ z ∈ y, ItemD.Ok z) y := by
  obtain ⟨css, xs, h1, h2, h3⟩ := open_row (R := ReE (fun _ _ => True) w) (F := (fun y => ∀ z ∈ y, ItemD.Ok z)) Tryz.underlying51 cz54 (by decide) (fun _ _ _ hl hx => open_expr hl hx) h
  exact ⟨xs, ⟨css, h1, h2⟩, h3⟩
theorem cz53 : Tryz.prog.cellsOf 53 = 6 := by kernel_rfl
theorem open_act {fuel : Nat} {cs : List Value} {x : DataW H × List MemPlace} (hl : cs.length = 6) (h : DataW.trod enc Tryz.prog w 0 (fun _ => true) true fuel 53 cs = some x) : ∃ y : ActD, (ReT (fun _ _ => True) w) cs y ∧ ActD.Ok y := by
  match cs, hl with
  | [v0, v1, v2, v3, v4, v5], _ =>
    obtain ⟨xs, k, hk, hxy, _, hxl, hf⟩ := DataW.trod_struct Tryz.underlying53 h
    match xs, hxl with
    | [y0, y1, y2, y3, y4, y5], _ =>
      have g0 := hf 0 _ rfl
      have g1 := hf 1 _ rfl
      have g2 := hf 2 _ rfl
      have g3 := hf 3 _ rfl
      have g4 := hf 4 _ rfl
      have g5 := hf 5 _ rfl
      simp [cz3, cz4, cz5, cz50, cz51, cz9] at g0 g1 g2 g3 g4 g5
      obtain ⟨z0, rfl, o0⟩ := open_by g0
      obtain ⟨z1, rfl, o1⟩ := open_st g1
      obtain ⟨z2, rfl, o2⟩ := open_in g2
      obtain ⟨z3, rfl, o3⟩ := open_st g3
      obtain ⟨z4, e4, o4⟩ := open_sets g4
      obtain ⟨z5, e5, o5⟩ := open_exprs g5
      exact ⟨⟨z0, z1, z2, z3, z4, z5⟩, ⟨_, _, rfl, e4, e5⟩, o0, o1, o2, o3, o4, o5⟩
theorem cz47 : Tryz.prog.cellsOf 47 = 1 := by kernel_rfl
theorem open_acts {fuel : Nat} {v : Value} {x : DataW H × List MemPlace} (h : DataW.trod enc Tryz.prog w 0 (fun _ => true) true fuel 47 [v] = some x) : ∃ xs : List (ActD), Row 6 (ReT fun _ _ => True) w (fun _ => True) v xs ∧ ∀ y ∈ xs, ActD.Ok y := by
  obtain ⟨css, xs, h1, h2, h3⟩ := open_row (R := ReT (fun _ _ => True) w) (F := ActD.Ok) Tryz.underlying47 cz53 (by decide) (fun _ _ _ hl hx => open_act hl hx) h
  exact ⟨xs, ⟨css, h1, h2⟩, h3⟩
theorem cz49 : Tryz.prog.cellsOf 49 = 3 := by kernel_rfl
theorem open_rule {fuel : Nat} {cs : List Value} {x : DataW H × List MemPlace} (hl : cs.length = 3) (h : DataW.trod enc Tryz.prog w 0 (fun _ => true) true fuel 49 cs = some x) : ∃ y : RuleD, (ReR (fun _ _ => True) w) cs y ∧ RuleD.Ok y := by
  match cs, hl with
  | [v0, v1, v2], _ =>
    obtain ⟨xs, k, hk, hxy, _, hxl, hf⟩ := DataW.trod_struct Tryz.underlying49 h
    match xs, hxl with
    | [y0, y1, y2], _ =>
      have g0 := hf 0 _ rfl
      have g1 := hf 1 _ rfl
      have g2 := hf 2 _ rfl
      simp [cz3, cz4, cz46, cz47, cz5, cz9] at g0 g1 g2
      obtain ⟨z0, rfl, o0⟩ := open_st g0
      obtain ⟨z1, e1, o1⟩ := open_conds g1
      obtain ⟨z2, e2, o2⟩ := open_acts g2
      exact ⟨⟨z0, z1, z2⟩, ⟨_, _, rfl, e1, e2⟩, o0, o1, o2⟩
theorem cz24 : Tryz.prog.cellsOf 24 = 1 := by kernel_rfl
theorem open_rules {fuel : Nat} {v : Value} {x : DataW H × List MemPlace} (h : DataW.trod enc Tryz.prog w 0 (fun _ => true) true fuel 24 [v] = some x) : ∃ xs : List (RuleD), Row 3 (ReR fun _ _ => True) w (fun _ => True) v xs ∧ ∀ y ∈ xs, RuleD.Ok y := by
  obtain ⟨css, xs, h1, h2, h3⟩ := open_row (R := ReR (fun _ _ => True) w) (F := RuleD.Ok) Tryz.underlying24 cz49 (by decide) (fun _ _ _ hl hx => open_rule hl hx) h
  exact ⟨xs, ⟨css, h1, h2⟩, h3⟩
theorem cz26 : Tryz.prog.cellsOf 26 = 2 := by kernel_rfl
theorem open_prog {fuel : Nat} {cs : List Value} {x : DataW H × List MemPlace} (hl : cs.length = 2) (h : DataW.trod enc Tryz.prog w 0 (fun _ => true) true fuel 26 cs = some x) : ∃ y : ProgD, (ReP (fun _ _ => True) w) cs y ∧ ProgD.Ok y := by
  match cs, hl with
  | [v0, v1], _ =>
    obtain ⟨xs, k, hk, hxy, _, hxl, hf⟩ := DataW.trod_struct Tryz.underlying26 h
    match xs, hxl with
    | [y0, y1], _ =>
      have g0 := hf 0 _ rfl
      have g1 := hf 1 _ rfl
      simp [cz23, cz24, cz3, cz4, cz5, cz9] at g0 g1
      obtain ⟨z0, e0, o0⟩ := open_classs g0
      obtain ⟨z1, e1, o1⟩ := open_rules g1
      exact ⟨⟨z0, z1⟩, ⟨_, _, rfl, e0, e1⟩, o0, o1⟩
theorem okWide_prog {W : World} {base : Nat} {v : Value} (h : Value.okWide Tryz.prog W .any base 26 v) : ∃ cs, v = .agg cs ∧ cs.size = 2 := by
  simp only [Value.okWide, Tryz.underlying26] at h
  obtain ⟨cs, h1, h2, _⟩ := h
  exact ⟨cs, h1, by rw [h2, cz26]⟩
theorem arg_prog {W : World} {base : Nat} {v : Value} {d : DataW H} {ps : List MemPlace} (hv : Value.okWide Tryz.prog W .any base 26 v) (h : DataW.Trod enc Tryz.prog W 0 (fun _ => true) true 26 v d ps) : ∃ (cs : List Value) (y : ProgD), v = .agg cs.toArray ∧ (ReP (fun _ _ => True) W) cs y ∧ ProgD.Ok y := by
  obtain ⟨cs, rfl, hs⟩ := okWide_prog hv
  obtain ⟨fuel, hf⟩ := h
  obtain ⟨l⟩ := cs
  obtain ⟨y, h1, h2⟩ := open_prog (cs := l) hs hf
  exact ⟨l, y, rfl, h1, h2⟩
end
end Go.Proofs.YtdcpfnffckkfcaaGreatDoor
