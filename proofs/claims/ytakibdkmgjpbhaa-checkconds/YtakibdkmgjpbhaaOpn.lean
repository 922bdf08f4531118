/- A program's parts that came in, opened. -/
import Derived.Test.YtakibdkmgjpbhaaRe
import Derived.Deep.Slices
import Derived.ChangeSlices
import Derived.OpenShut
import Derived.ProofKit
import Derived.RowKit3
namespace Go.Proofs.Ytakibdkmgjpbhaa
open Go.ChangeShapes Go.WideShapes Go.ChangeAt Go.RowKit
set_option linter.unusedVariables false
set_option linter.unusedSimpArgs false
set_option maxRecDepth 20000

def okB (k : Int) : Prop := 0 ≤ k ∧ k ≤ 255
def okN (n : Int) : Prop := -9223372036854775808 ≤ n ∧ n ≤ 9223372036854775807
def okS (s : Str) : Prop := s.length ≤ maxLen
def VD.Ok (x : VD) : Prop := okB x.k ∧ okN x.n ∧ okS x.s
def TestD.Ok (x : TestD) : Prop := okB x.p ∧ okS x.v ∧ x.x.Ok
def AttrD.Ok (x : AttrD) : Prop := okS x.a ∧ (∀ y ∈ x.ones, y.Ok) ∧ ∀ y ∈ x.tests, y.Ok
def CondD.Ok (x : CondD) : Prop := okS x.c ∧ ∀ y ∈ x.attrs, y.Ok
def ItemD.Ok (x : ItemD) : Prop := okB x.k ∧ x.x.Ok ∧ okS x.v
def SetD.Ok (x : SetD) : Prop := okS x.a ∧ ∀ y ∈ x.e, y.Ok
def ActD.Ok (x : ActD) : Prop := okB x.k ∧ okS x.c ∧ okN x.n ∧ okS x.v ∧ (∀ y ∈ x.sets, y.Ok) ∧ ∀ y ∈ x.exprs, ∀ z ∈ y, z.Ok
def RuleD.Ok (x : RuleD) : Prop := okS x.nm ∧ (∀ y ∈ x.conds, y.Ok) ∧ ∀ y ∈ x.acts, y.Ok
def ClassD.Ok (x : ClassD) : Prop := okS x.nm ∧ ∀ y ∈ x.attrs, okS y
def ProgD.Ok (x : ProgD) : Prop := (∀ y ∈ x.cs, y.Ok) ∧ ∀ y ∈ x.rs, y.Ok
instance : Inhabited VD := ⟨⟨0, 0, []⟩⟩
instance : Inhabited TestD := ⟨⟨0, [], default⟩⟩
instance : Inhabited AttrD := ⟨⟨[], [], []⟩⟩
instance : Inhabited CondD := ⟨⟨false, [], []⟩⟩
instance : Inhabited ItemD := ⟨⟨0, default, []⟩⟩
instance : Inhabited SetD := ⟨⟨[], []⟩⟩
instance : Inhabited ActD := ⟨⟨0, [], 0, [], [], []⟩⟩
instance : Inhabited RuleD := ⟨⟨[], [], []⟩⟩
instance : Inhabited ClassD := ⟨⟨[], []⟩⟩
instance : Inhabited ProgD := ⟨⟨[], []⟩⟩
theorem All2.eqm {α : Type} {f : α → List Value} {css : List (List Value)} {xs : List α} (h : All2 (fun c x => c = f x) css xs) : css = xs.map f := by
  induction xs generalizing css with
  | nil => cases css with
    | nil => rfl
    | cons c cs => exact h.elim
  | cons x xs ih => cases css with
    | nil => exact h.elim
    | cons c cs => rw [List.map_cons, h.1, ih h.2]
theorem All2.of_range {α : Type} {R : List Value → α → Prop} (f : Nat → List Value × α) : ∀ (l : List Nat), (∀ i ∈ l, R (f i).1 (f i).2) → All2 R (l.map fun i => (f i).1) (l.map fun i => (f i).2)
  | [], _ => trivial
  | i :: l, h => ⟨h i (List.mem_cons_self ..), All2.of_range f l fun j hj => h j (List.mem_cons_of_mem _ hj)⟩
/-- A row that came in. -/
theorem open_row {α : Type} [Inhabited α] {n : Nat} {sl e : TypeId} {H : Type} {enc : TypeId × Value → H} {w : World} {R : List Value → α → Prop} {F : α → Prop} (hsl : Try.prog.underlying sl = some (.slice e)) (hn : Try.prog.cellsOf e = n) (h0 : 0 < n)
    (he : ∀ (fuel : Nat) (cs : List Value) (x : DataW H × List MemPlace), cs.length = n → DataW.trod enc Try.prog w 0 (fun _ => true) true fuel e cs = some x → ∃ y, R cs y ∧ F y)
    {fuel : Nat} {v : Value} {x : DataW H × List MemPlace} (h : DataW.trod enc Try.prog w 0 (fun _ => true) true fuel sl [v] = some x) :
    ∃ (css : List (List Value)) (xs : List α), SlW n w (fun _ => True) v css ∧ All2 R css xs ∧ ∀ y ∈ xs, F y := by
  rcases Go.Deep.open_slice hsl h with ⟨hcs, _⟩ | ⟨ad, len, cap, m, k, D, Pl, hcs, _, hl, hm, hmm, _, hx⟩
  · simp at hcs
    subst hcs
    exact ⟨[], [], ⟨none, 0, rfl, Nat.le_refl _, by decide, .inl rfl⟩, trivial, by simp⟩
  · simp at hcs
    subst hcs
    simp at hmm
    subst hmm
    rw [hn] at hx
    obtain ⟨b, off, spot⟩ := ad
    have hmx : m ≤ 9223372036854775807 := by unfold maxLen at hm; omega
    by_cases hl0 : len = 0
    · subst hl0
      exact ⟨[], [], ⟨_, m, rfl, Nat.zero_le _, hmx, .inl rfl⟩, trivial, by simp⟩
    have hspot : spot = none := by
      obtain ⟨cs', h1, h2⟩ := hx 0 (by omega)
      obtain ⟨_, hlen, hcell⟩ := World.cells?_some h1
      match cs', hlen with
      | [], e => simp at e; omega
      | v0 :: _, _ =>
        have e0 := hcell 0 h0
        have := World.cell?_spot (e0.trans rfl)
        simpa [Addr.add] using this
    subst hspot
    have each : ∀ i, i < len → ∃ y : List Value × α, y.1.length = n ∧ b < w.heap.size ∧ (∀ j, j < n → w.cell? ⟨b, off + (i * n + j), none⟩ = y.1[j]?) ∧ R y.1 y.2 ∧ F y.2 := by
      intro i hi
      obtain ⟨cs', h1, h2⟩ := hx i (by omega)
      obtain ⟨_, hlen, hcell⟩ := World.cells?_some h1
      obtain ⟨y, hy, hf⟩ := he _ _ _ hlen h2
      refine ⟨(cs', y), hlen, ?_, ?_, hy, hf⟩
      · match cs', hlen with
        | [], e => simp at e; omega
        | v0 :: _, _ =>
          have e0 := hcell 0 h0
          have := World.block_lt_of_cell? _ _ (e0.trans rfl)
          rw [add_plain, add_plain] at this
          exact this
      · intro j hj
        have := hcell j hj
        rw [add_plain, add_plain] at this
        rw [← this]
        congr 2
        exact (Nat.add_assoc off (i * n) j).symm
    obtain ⟨f, hf⟩ := Go.Deep.choose_lt each
    refine ⟨(List.range len).map fun i => (f i).1, (List.range len).map fun i => (f i).2, ⟨_, m, by simp, by simpa using hl, hmx, .inr ⟨b, off, rfl, (hf 0 (by omega)).2.1, trivial, fun i j hi hj => ?_⟩⟩, All2.of_range f _ (fun i hi => (hf i (List.mem_range.1 hi)).2.2.2.1), ?_⟩
    · simp only [List.length_map, List.length_range] at hi
      rw [(hf i hi).2.2.1 j hj, List.getD_eq_getElem?_getD, List.getElem?_map, List.getElem?_range hi]
      rfl
    · intro y hy
      obtain ⟨i, hi, rfl⟩ := List.mem_map.1 hy
      exact (hf i (List.mem_range.1 hi)).2.2.2.2
section
variable {H : Type} {enc : TypeId × Value → H} {w : World}
theorem open_by {fuel : Nat} {v : Value} {x : DataW H × List MemPlace} (h : DataW.trod enc Try.prog w 0 (fun _ => true) true fuel 5 [v] = some x) : ∃ z, v = .int .u8 z ∧ okB z := by
  obtain ⟨z, e, _, hw⟩ := DataW.trod_int Try.underlying5 h
  simp at e
  have := bounds_u8 hw
  exact ⟨z, e, by unfold okB; omega⟩
theorem open_in {fuel : Nat} {v : Value} {x : DataW H × List MemPlace} (h : DataW.trod enc Try.prog w 0 (fun _ => true) true fuel 3 [v] = some x) : ∃ z, v = .int .i64 z ∧ okN z := by
  obtain ⟨z, e, _, hw⟩ := DataW.trod_int Try.underlying3 h
  simp at e
  have := bounds_i64 hw
  exact ⟨z, e, by unfold okN; omega⟩
theorem open_bo {fuel : Nat} {v : Value} {x : DataW H × List MemPlace} (h : DataW.trod enc Try.prog w 0 (fun _ => true) true fuel 4 [v] = some x) : ∃ z, v = .bool z := by
  obtain ⟨z, e, _⟩ := DataW.trod_bool Try.underlying4 h
  simp at e
  exact ⟨z, e⟩
theorem open_st {fuel : Nat} {v : Value} {x : DataW H × List MemPlace} (h : DataW.trod enc Try.prog w 0 (fun _ => true) true fuel 9 [v] = some x) : ∃ z : Str, v = .string (st z) ∧ okS z := by
  obtain ⟨s, e, _, hw⟩ := DataW.trod_string Try.underlying9 h
  simp at e
  exact ⟨s.data.toList, by rw [st_of]; exact e, by unfold okS; rw [lenL]; exact hw⟩
theorem cz5 : Try.prog.cellsOf 5 = 1 := by kernel_rfl
theorem cz3 : Try.prog.cellsOf 3 = 1 := by kernel_rfl
theorem cz4 : Try.prog.cellsOf 4 = 1 := by kernel_rfl
theorem cz9 : Try.prog.cellsOf 9 = 1 := by kernel_rfl
theorem open_str {fuel : Nat} {cs : List Value} {x : DataW H × List MemPlace} (hl : cs.length = 1) (h : DataW.trod enc Try.prog w 0 (fun _ => true) true fuel 9 cs = some x) : ∃ y : Str, cs = clS y ∧ okS y := by
  match cs, hl with
  | [v], _ =>
    obtain ⟨z, rfl, hz⟩ := open_st h
    exact ⟨z, rfl, hz⟩
theorem cz39 : Try.prog.cellsOf 39 = 1 := by kernel_rfl
theorem open_strs {fuel : Nat} {v : Value} {x : DataW H × List MemPlace} (h : DataW.trod enc Try.prog w 0 (fun _ => true) true fuel 39 [v] = some x) : ∃ xs : List (Str), SlW 1 w (fun _ => True) v (xs.map clS) ∧ ∀ y ∈ xs, okS y := by
  obtain ⟨css, xs, h1, h2, h3⟩ := open_row (R := fun cs y => cs = clS y) (F := okS) Try.underlying39 cz9 (by decide) (fun _ _ _ hl hx => open_str hl hx) h
  rw [h2.eqm] at h1
  exact ⟨xs, h1, h3⟩
theorem cz41 : Try.prog.cellsOf 41 = 2 := by kernel_rfl
theorem open_class {fuel : Nat} {cs : List Value} {x : DataW H × List MemPlace} (hl : cs.length = 2) (h : DataW.trod enc Try.prog w 0 (fun _ => true) true fuel 41 cs = some x) : ∃ y : ClassD, (ReK (fun _ _ => True) w) cs y ∧ ClassD.Ok y := by
  match cs, hl with
  | [v0, v1], _ =>
    obtain ⟨xs, k, hk, hxy, _, hxl, hf⟩ := DataW.trod_struct Try.underlying41 h
    match xs, hxl with
    | [y0, y1], _ =>
      have g0 := hf 0 _ rfl
      have g1 := hf 1 _ rfl
      simp [cz3, cz39, cz4, cz5, cz9] at g0 g1
      obtain ⟨z0, rfl, o0⟩ := open_st g0
      obtain ⟨z1, e1, o1⟩ := open_strs g1
      exact ⟨⟨z0, z1⟩, ⟨_, rfl, e1⟩, o0, o1⟩
theorem cz22 : Try.prog.cellsOf 22 = 1 := by kernel_rfl
theorem open_classs {fuel : Nat} {v : Value} {x : DataW H × List MemPlace} (h : DataW.trod enc Try.prog w 0 (fun _ => true) true fuel 22 [v] = some x) : ∃ xs : List (ClassD), Row 2 (ReK fun _ _ => True) w (fun _ => True) v xs ∧ ∀ y ∈ xs, ClassD.Ok y := by
  obtain ⟨css, xs, h1, h2, h3⟩ := open_row (R := ReK (fun _ _ => True) w) (F := ClassD.Ok) Try.underlying22 cz41 (by decide) (fun _ _ _ hl hx => open_class hl hx) h
  exact ⟨xs, ⟨css, h1, h2⟩, h3⟩
theorem cz64 : Try.prog.cellsOf 64 = 3 := by kernel_rfl
theorem open_val {fuel : Nat} {cs : List Value} {x : DataW H × List MemPlace} (hl : cs.length = 3) (h : DataW.trod enc Try.prog w 0 (fun _ => true) true fuel 64 cs = some x) : ∃ y : VD, (fun cs y => cs = clV y) cs y ∧ VD.Ok y := by
  match cs, hl with
  | [v0, v1, v2], _ =>
    obtain ⟨xs, k, hk, hxy, _, hxl, hf⟩ := DataW.trod_struct Try.underlying64 h
    match xs, hxl with
    | [y0, y1, y2], _ =>
      have g0 := hf 0 _ rfl
      have g1 := hf 1 _ rfl
      have g2 := hf 2 _ rfl
      simp [cz3, cz4, cz5, cz9] at g0 g1 g2
      obtain ⟨z0, rfl, o0⟩ := open_by g0
      obtain ⟨z1, rfl, o1⟩ := open_in g1
      obtain ⟨z2, rfl, o2⟩ := open_st g2
      exact ⟨⟨z0, z1, z2⟩, rfl, o0, o1, o2⟩
theorem cz59 : Try.prog.cellsOf 59 = 1 := by kernel_rfl
theorem open_vals {fuel : Nat} {v : Value} {x : DataW H × List MemPlace} (h : DataW.trod enc Try.prog w 0 (fun _ => true) true fuel 59 [v] = some x) : ∃ xs : List (VD), SlW 3 w (fun _ => True) v (xs.map clV) ∧ ∀ y ∈ xs, VD.Ok y := by
  obtain ⟨css, xs, h1, h2, h3⟩ := open_row (R := fun cs y => cs = clV y) (F := VD.Ok) Try.underlying59 cz64 (by decide) (fun _ _ _ hl hx => open_val hl hx) h
  rw [h2.eqm] at h1
  exact ⟨xs, h1, h3⟩
theorem cz66 : Try.prog.cellsOf 66 = 5 := by kernel_rfl
theorem open_test {fuel : Nat} {cs : List Value} {x : DataW H × List MemPlace} (hl : cs.length = 5) (h : DataW.trod enc Try.prog w 0 (fun _ => true) true fuel 66 cs = some x) : ∃ y : TestD, (fun cs y => cs = clT y) cs y ∧ TestD.Ok y := by
  match cs, hl with
  | [v0, v1, v2, v3, v4], _ =>
    obtain ⟨xs, k, hk, hxy, _, hxl, hf⟩ := DataW.trod_struct Try.underlying66 h
    match xs, hxl with
    | [y0, y1, y2], _ =>
      have g0 := hf 0 _ rfl
      have g1 := hf 1 _ rfl
      have g2 := hf 2 _ rfl
      simp [cz3, cz4, cz5, cz64, cz9] at g0 g1 g2
      obtain ⟨z0, rfl, o0⟩ := open_by g0
      obtain ⟨z1, rfl, o1⟩ := open_st g1
      obtain ⟨z2, e2, o2⟩ := open_val rfl g2
      simp only [clV, List.cons.injEq, and_true] at e2
      obtain ⟨rfl, rfl, rfl⟩ := e2
      exact ⟨⟨z0, z1, z2⟩, rfl, o0, o1, o2⟩
theorem cz60 : Try.prog.cellsOf 60 = 1 := by kernel_rfl
theorem open_tests {fuel : Nat} {v : Value} {x : DataW H × List MemPlace} (h : DataW.trod enc Try.prog w 0 (fun _ => true) true fuel 60 [v] = some x) : ∃ xs : List (TestD), SlW 5 w (fun _ => True) v (xs.map clT) ∧ ∀ y ∈ xs, TestD.Ok y := by
  obtain ⟨css, xs, h1, h2, h3⟩ := open_row (R := fun cs y => cs = clT y) (F := TestD.Ok) Try.underlying60 cz66 (by decide) (fun _ _ _ hl hx => open_test hl hx) h
  rw [h2.eqm] at h1
  exact ⟨xs, h1, h3⟩
theorem cz62 : Try.prog.cellsOf 62 = 3 := by kernel_rfl
theorem open_attr {fuel : Nat} {cs : List Value} {x : DataW H × List MemPlace} (hl : cs.length = 3) (h : DataW.trod enc Try.prog w 0 (fun _ => true) true fuel 62 cs = some x) : ∃ y : AttrD, (ReA (fun _ _ => True) w) cs y ∧ AttrD.Ok y := by
  match cs, hl with
  | [v0, v1, v2], _ =>
    obtain ⟨xs, k, hk, hxy, _, hxl, hf⟩ := DataW.trod_struct Try.underlying62 h
    match xs, hxl with
    | [y0, y1, y2], _ =>
      have g0 := hf 0 _ rfl
      have g1 := hf 1 _ rfl
      have g2 := hf 2 _ rfl
      simp [cz3, cz4, cz5, cz59, cz60, cz9] at g0 g1 g2
      obtain ⟨z0, rfl, o0⟩ := open_st g0
      obtain ⟨z1, e1, o1⟩ := open_vals g1
      obtain ⟨z2, e2, o2⟩ := open_tests g2
      exact ⟨⟨z0, z1, z2⟩, ⟨_, _, rfl, e1, e2⟩, o0, o1, o2⟩
theorem cz48 : Try.prog.cellsOf 48 = 1 := by kernel_rfl
theorem open_attrs {fuel : Nat} {v : Value} {x : DataW H × List MemPlace} (h : DataW.trod enc Try.prog w 0 (fun _ => true) true fuel 48 [v] = some x) : ∃ xs : List (AttrD), Row 3 (ReA fun _ _ => True) w (fun _ => True) v xs ∧ ∀ y ∈ xs, AttrD.Ok y := by
  obtain ⟨css, xs, h1, h2, h3⟩ := open_row (R := ReA (fun _ _ => True) w) (F := AttrD.Ok) Try.underlying48 cz62 (by decide) (fun _ _ _ hl hx => open_attr hl hx) h
  exact ⟨xs, ⟨css, h1, h2⟩, h3⟩
theorem cz50 : Try.prog.cellsOf 50 = 3 := by kernel_rfl
theorem open_cond {fuel : Nat} {cs : List Value} {x : DataW H × List MemPlace} (hl : cs.length = 3) (h : DataW.trod enc Try.prog w 0 (fun _ => true) true fuel 50 cs = some x) : ∃ y : CondD, (ReC (fun _ _ => True) w) cs y ∧ CondD.Ok y := by
  match cs, hl with
  | [v0, v1, v2], _ =>
    obtain ⟨xs, k, hk, hxy, _, hxl, hf⟩ := DataW.trod_struct Try.underlying50 h
    match xs, hxl with
    | [y0, y1, y2], _ =>
      have g0 := hf 0 _ rfl
      have g1 := hf 1 _ rfl
      have g2 := hf 2 _ rfl
      simp [cz3, cz4, cz48, cz5, cz9] at g0 g1 g2
      obtain ⟨z0, rfl⟩ := open_bo g0
      obtain ⟨z1, rfl, o1⟩ := open_st g1
      obtain ⟨z2, e2, o2⟩ := open_attrs g2
      exact ⟨⟨z0, z1, z2⟩, ⟨_, rfl, e2⟩, o1, o2⟩
theorem cz30 : Try.prog.cellsOf 30 = 1 := by kernel_rfl
theorem open_conds {fuel : Nat} {v : Value} {x : DataW H × List MemPlace} (h : DataW.trod enc Try.prog w 0 (fun _ => true) true fuel 30 [v] = some x) : ∃ xs : List (CondD), Row 3 (ReC fun _ _ => True) w (fun _ => True) v xs ∧ ∀ y ∈ xs, CondD.Ok y := by
  obtain ⟨css, xs, h1, h2, h3⟩ := open_row (R := ReC (fun _ _ => True) w) (F := CondD.Ok) Try.underlying30 cz50 (by decide) (fun _ _ _ hl hx => open_cond hl hx) h
  exact ⟨xs, ⟨css, h1, h2⟩, h3⟩
theorem cz93 : Try.prog.cellsOf 93 = 5 := by kernel_rfl
theorem open_item {fuel : Nat} {cs : List Value} {x : DataW H × List MemPlace} (hl : cs.length = 5) (h : DataW.trod enc Try.prog w 0 (fun _ => true) true fuel 93 cs = some x) : ∃ y : ItemD, (fun cs y => cs = clI y) cs y ∧ ItemD.Ok y := by
  match cs, hl with
  | [v0, v1, v2, v3, v4], _ =>
    obtain ⟨xs, k, hk, hxy, _, hxl, hf⟩ := DataW.trod_struct Try.underlying93 h
    match xs, hxl with
    | [y0, y1, y2], _ =>
      have g0 := hf 0 _ rfl
      have g1 := hf 1 _ rfl
      have g2 := hf 2 _ rfl
      simp [cz3, cz4, cz5, cz64, cz9] at g0 g1 g2
      obtain ⟨z0, rfl, o0⟩ := open_by g0
      obtain ⟨z1, e1, o1⟩ := open_val rfl g1
      simp only [clV, List.cons.injEq, and_true] at e1
      obtain ⟨rfl, rfl, rfl⟩ := e1
      obtain ⟨z2, rfl, o2⟩ := open_st g2
      exact ⟨⟨z0, z1, z2⟩, rfl, o0, o1, o2⟩
theorem cz55 : Try.prog.cellsOf 55 = 1 := by kernel_rfl
theorem open_items {fuel : Nat} {v : Value} {x : DataW H × List MemPlace} (h : DataW.trod enc Try.prog w 0 (fun _ => true) true fuel 55 [v] = some x) : ∃ xs : List (ItemD), SlW 5 w (fun _ => True) v (xs.map clI) ∧ ∀ y ∈ xs, ItemD.Ok y := by
  obtain ⟨css, xs, h1, h2, h3⟩ := open_row (R := fun cs y => cs = clI y) (F := ItemD.Ok) Try.underlying55 cz93 (by decide) (fun _ _ _ hl hx => open_item hl hx) h
  rw [h2.eqm] at h1
  exact ⟨xs, h1, h3⟩
theorem cz72 : Try.prog.cellsOf 72 = 2 := by kernel_rfl
theorem open_set {fuel : Nat} {cs : List Value} {x : DataW H × List MemPlace} (hl : cs.length = 2) (h : DataW.trod enc Try.prog w 0 (fun _ => true) true fuel 72 cs = some x) : ∃ y : SetD, (ReS (fun _ _ => True) w) cs y ∧ SetD.Ok y := by
  match cs, hl with
  | [v0, v1], _ =>
    obtain ⟨xs, k, hk, hxy, _, hxl, hf⟩ := DataW.trod_struct Try.underlying72 h
    match xs, hxl with
    | [y0, y1], _ =>
      have g0 := hf 0 _ rfl
      have g1 := hf 1 _ rfl
      simp [cz3, cz4, cz5, cz55, cz9] at g0 g1
      obtain ⟨z0, rfl, o0⟩ := open_st g0
      obtain ⟨z1, e1, o1⟩ := open_items g1
      exact ⟨⟨z0, z1⟩, ⟨_, rfl, e1⟩, o0, o1⟩
theorem cz67 : Try.prog.cellsOf 67 = 1 := by kernel_rfl
theorem open_sets {fuel : Nat} {v : Value} {x : DataW H × List MemPlace} (h : DataW.trod enc Try.prog w 0 (fun _ => true) true fuel 67 [v] = some x) : ∃ xs : List (SetD), Row 2 (ReS fun _ _ => True) w (fun _ => True) v xs ∧ ∀ y ∈ xs, SetD.Ok y := by
  obtain ⟨css, xs, h1, h2, h3⟩ := open_row (R := ReS (fun _ _ => True) w) (F := SetD.Ok) Try.underlying67 cz72 (by decide) (fun _ _ _ hl hx => open_set hl hx) h
  exact ⟨xs, ⟨css, h1, h2⟩, h3⟩
theorem open_expr {fuel : Nat} {cs : List Value} {x : DataW H × List MemPlace} (hl : cs.length = 1) (h : DataW.trod enc Try.prog w 0 (fun _ => true) true fuel 55 cs = some x) : ∃ y : List ItemD, ReE (fun _ _ => True) w cs y ∧ ∀ z ∈ y, z.Ok := by
  match cs, hl with
  | [v], _ =>
    obtain ⟨xs, h1, h2⟩ := open_items h
    exact ⟨xs, ⟨v, rfl, h1⟩, h2⟩
theorem cz68 : Try.prog.cellsOf 68 = 1 := by kernel_rfl
theorem open_exprs {fuel : Nat} {v : Value} {x : DataW H × List MemPlace} (h : DataW.trod enc Try.prog w 0 (fun _ => true) true fuel 68 [v] = some x) : ∃ xs : List (List ItemD), Row 1 (ReE fun _ _ => True) w (fun _ => True) v xs ∧ ∀ y ∈ xs, (fun y => ∀ z ∈ y, ItemD.Ok z) y := by
  obtain ⟨css, xs, h1, h2, h3⟩ := open_row (R := ReE (fun _ _ => True) w) (F := (fun y => ∀ z ∈ y, ItemD.Ok z)) Try.underlying68 cz55 (by decide) (fun _ _ _ hl hx => open_expr hl hx) h
  exact ⟨xs, ⟨css, h1, h2⟩, h3⟩
theorem cz70 : Try.prog.cellsOf 70 = 6 := by kernel_rfl
theorem open_act {fuel : Nat} {cs : List Value} {x : DataW H × List MemPlace} (hl : cs.length = 6) (h : DataW.trod enc Try.prog w 0 (fun _ => true) true fuel 70 cs = some x) : ∃ y : ActD, (ReT (fun _ _ => True) w) cs y ∧ ActD.Ok y := by
  match cs, hl with
  | [v0, v1, v2, v3, v4, v5], _ =>
    obtain ⟨xs, k, hk, hxy, _, hxl, hf⟩ := DataW.trod_struct Try.underlying70 h
    match xs, hxl with
    | [y0, y1, y2, y3, y4, y5], _ =>
      have g0 := hf 0 _ rfl
      have g1 := hf 1 _ rfl
      have g2 := hf 2 _ rfl
      have g3 := hf 3 _ rfl
      have g4 := hf 4 _ rfl
      have g5 := hf 5 _ rfl
      simp [cz3, cz4, cz5, cz67, cz68, cz9] at g0 g1 g2 g3 g4 g5
      obtain ⟨z0, rfl, o0⟩ := open_by g0
      obtain ⟨z1, rfl, o1⟩ := open_st g1
      obtain ⟨z2, rfl, o2⟩ := open_in g2
      obtain ⟨z3, rfl, o3⟩ := open_st g3
      obtain ⟨z4, e4, o4⟩ := open_sets g4
      obtain ⟨z5, e5, o5⟩ := open_exprs g5
      exact ⟨⟨z0, z1, z2, z3, z4, z5⟩, ⟨_, _, rfl, e4, e5⟩, o0, o1, o2, o3, o4, o5⟩
theorem cz31 : Try.prog.cellsOf 31 = 1 := by kernel_rfl
theorem open_acts {fuel : Nat} {v : Value} {x : DataW H × List MemPlace} (h : DataW.trod enc Try.prog w 0 (fun _ => true) true fuel 31 [v] = some x) : ∃ xs : List (ActD), Row 6 (ReT fun _ _ => True) w (fun _ => True) v xs ∧ ∀ y ∈ xs, ActD.Ok y := by
  obtain ⟨css, xs, h1, h2, h3⟩ := open_row (R := ReT (fun _ _ => True) w) (F := ActD.Ok) Try.underlying31 cz70 (by decide) (fun _ _ _ hl hx => open_act hl hx) h
  exact ⟨xs, ⟨css, h1, h2⟩, h3⟩
theorem cz33 : Try.prog.cellsOf 33 = 3 := by kernel_rfl
theorem open_rule {fuel : Nat} {cs : List Value} {x : DataW H × List MemPlace} (hl : cs.length = 3) (h : DataW.trod enc Try.prog w 0 (fun _ => true) true fuel 33 cs = some x) : ∃ y : RuleD, (ReR (fun _ _ => True) w) cs y ∧ RuleD.Ok y := by
  match cs, hl with
  | [v0, v1, v2], _ =>
    obtain ⟨xs, k, hk, hxy, _, hxl, hf⟩ := DataW.trod_struct Try.underlying33 h
    match xs, hxl with
    | [y0, y1, y2], _ =>
      have g0 := hf 0 _ rfl
      have g1 := hf 1 _ rfl
      have g2 := hf 2 _ rfl
      simp [cz3, cz30, cz31, cz4, cz5, cz9] at g0 g1 g2
      obtain ⟨z0, rfl, o0⟩ := open_st g0
      obtain ⟨z1, e1, o1⟩ := open_conds g1
      obtain ⟨z2, e2, o2⟩ := open_acts g2
      exact ⟨⟨z0, z1, z2⟩, ⟨_, _, rfl, e1, e2⟩, o0, o1, o2⟩
theorem cz23 : Try.prog.cellsOf 23 = 1 := by kernel_rfl
theorem open_rules {fuel : Nat} {v : Value} {x : DataW H × List MemPlace} (h : DataW.trod enc Try.prog w 0 (fun _ => true) true fuel 23 [v] = some x) : ∃ xs : List (RuleD), Row 3 (ReR fun _ _ => True) w (fun _ => True) v xs ∧ ∀ y ∈ xs, RuleD.Ok y := by
  obtain ⟨css, xs, h1, h2, h3⟩ := open_row (R := ReR (fun _ _ => True) w) (F := RuleD.Ok) Try.underlying23 cz33 (by decide) (fun _ _ _ hl hx => open_rule hl hx) h
  exact ⟨xs, ⟨css, h1, h2⟩, h3⟩
theorem cz25 : Try.prog.cellsOf 25 = 2 := by kernel_rfl
theorem open_prog {fuel : Nat} {cs : List Value} {x : DataW H × List MemPlace} (hl : cs.length = 2) (h : DataW.trod enc Try.prog w 0 (fun _ => true) true fuel 25 cs = some x) : ∃ y : ProgD, (ReP (fun _ _ => True) w) cs y ∧ ProgD.Ok y := by
  match cs, hl with
  | [v0, v1], _ =>
    obtain ⟨xs, k, hk, hxy, _, hxl, hf⟩ := DataW.trod_struct Try.underlying25 h
    match xs, hxl with
    | [y0, y1], _ =>
      have g0 := hf 0 _ rfl
      have g1 := hf 1 _ rfl
      simp [cz22, cz23, cz3, cz4, cz5, cz9] at g0 g1
      obtain ⟨z0, e0, o0⟩ := open_classs g0
      obtain ⟨z1, e1, o1⟩ := open_rules g1
      exact ⟨⟨z0, z1⟩, ⟨_, _, rfl, e0, e1⟩, o0, o1⟩
theorem okWide_val {W : World} {base : Nat} {v : Value} (h : Value.okWide Try.prog W .any base 64 v) : ∃ cs, v = .agg cs ∧ cs.size = 3 := by
  simp only [Value.okWide, Try.underlying64] at h
  obtain ⟨cs, h1, h2, _⟩ := h
  exact ⟨cs, h1, by rw [h2, cz64]⟩
theorem arg_val {W : World} {base : Nat} {v : Value} {d : DataW H} {ps : List MemPlace} (hv : Value.okWide Try.prog W .any base 64 v) (h : DataW.Trod enc Try.prog W 0 (fun _ => true) true 64 v d ps) : ∃ (cs : List Value) (y : VD), v = .agg cs.toArray ∧ (fun cs y => cs = clV y) cs y ∧ VD.Ok y := by
  obtain ⟨cs, rfl, hs⟩ := okWide_val hv
  obtain ⟨fuel, hf⟩ := h
  obtain ⟨l⟩ := cs
  obtain ⟨y, h1, h2⟩ := open_val (cs := l) hs hf
  exact ⟨l, y, rfl, h1, h2⟩
theorem okWide_test {W : World} {base : Nat} {v : Value} (h : Value.okWide Try.prog W .any base 66 v) : ∃ cs, v = .agg cs ∧ cs.size = 5 := by
  simp only [Value.okWide, Try.underlying66] at h
  obtain ⟨cs, h1, h2, _⟩ := h
  exact ⟨cs, h1, by rw [h2, cz66]⟩
theorem arg_test {W : World} {base : Nat} {v : Value} {d : DataW H} {ps : List MemPlace} (hv : Value.okWide Try.prog W .any base 66 v) (h : DataW.Trod enc Try.prog W 0 (fun _ => true) true 66 v d ps) : ∃ (cs : List Value) (y : TestD), v = .agg cs.toArray ∧ (fun cs y => cs = clT y) cs y ∧ TestD.Ok y := by
  obtain ⟨cs, rfl, hs⟩ := okWide_test hv
  obtain ⟨fuel, hf⟩ := h
  obtain ⟨l⟩ := cs
  obtain ⟨y, h1, h2⟩ := open_test (cs := l) hs hf
  exact ⟨l, y, rfl, h1, h2⟩
theorem okWide_item {W : World} {base : Nat} {v : Value} (h : Value.okWide Try.prog W .any base 93 v) : ∃ cs, v = .agg cs ∧ cs.size = 5 := by
  simp only [Value.okWide, Try.underlying93] at h
  obtain ⟨cs, h1, h2, _⟩ := h
  exact ⟨cs, h1, by rw [h2, cz93]⟩
theorem arg_item {W : World} {base : Nat} {v : Value} {d : DataW H} {ps : List MemPlace} (hv : Value.okWide Try.prog W .any base 93 v) (h : DataW.Trod enc Try.prog W 0 (fun _ => true) true 93 v d ps) : ∃ (cs : List Value) (y : ItemD), v = .agg cs.toArray ∧ (fun cs y => cs = clI y) cs y ∧ ItemD.Ok y := by
  obtain ⟨cs, rfl, hs⟩ := okWide_item hv
  obtain ⟨fuel, hf⟩ := h
  obtain ⟨l⟩ := cs
  obtain ⟨y, h1, h2⟩ := open_item (cs := l) hs hf
  exact ⟨l, y, rfl, h1, h2⟩
theorem okWide_attr {W : World} {base : Nat} {v : Value} (h : Value.okWide Try.prog W .any base 62 v) : ∃ cs, v = .agg cs ∧ cs.size = 3 := by
  simp only [Value.okWide, Try.underlying62] at h
  obtain ⟨cs, h1, h2, _⟩ := h
  exact ⟨cs, h1, by rw [h2, cz62]⟩
theorem arg_attr {W : World} {base : Nat} {v : Value} {d : DataW H} {ps : List MemPlace} (hv : Value.okWide Try.prog W .any base 62 v) (h : DataW.Trod enc Try.prog W 0 (fun _ => true) true 62 v d ps) : ∃ (cs : List Value) (y : AttrD), v = .agg cs.toArray ∧ (ReA (fun _ _ => True) W) cs y ∧ AttrD.Ok y := by
  obtain ⟨cs, rfl, hs⟩ := okWide_attr hv
  obtain ⟨fuel, hf⟩ := h
  obtain ⟨l⟩ := cs
  obtain ⟨y, h1, h2⟩ := open_attr (cs := l) hs hf
  exact ⟨l, y, rfl, h1, h2⟩
theorem okWide_cond {W : World} {base : Nat} {v : Value} (h : Value.okWide Try.prog W .any base 50 v) : ∃ cs, v = .agg cs ∧ cs.size = 3 := by
  simp only [Value.okWide, Try.underlying50] at h
  obtain ⟨cs, h1, h2, _⟩ := h
  exact ⟨cs, h1, by rw [h2, cz50]⟩
theorem arg_cond {W : World} {base : Nat} {v : Value} {d : DataW H} {ps : List MemPlace} (hv : Value.okWide Try.prog W .any base 50 v) (h : DataW.Trod enc Try.prog W 0 (fun _ => true) true 50 v d ps) : ∃ (cs : List Value) (y : CondD), v = .agg cs.toArray ∧ (ReC (fun _ _ => True) W) cs y ∧ CondD.Ok y := by
  obtain ⟨cs, rfl, hs⟩ := okWide_cond hv
  obtain ⟨fuel, hf⟩ := h
  obtain ⟨l⟩ := cs
  obtain ⟨y, h1, h2⟩ := open_cond (cs := l) hs hf
  exact ⟨l, y, rfl, h1, h2⟩
theorem okWide_set {W : World} {base : Nat} {v : Value} (h : Value.okWide Try.prog W .any base 72 v) : ∃ cs, v = .agg cs ∧ cs.size = 2 := by
  simp only [Value.okWide, Try.underlying72] at h
  obtain ⟨cs, h1, h2, _⟩ := h
  exact ⟨cs, h1, by rw [h2, cz72]⟩
theorem arg_set {W : World} {base : Nat} {v : Value} {d : DataW H} {ps : List MemPlace} (hv : Value.okWide Try.prog W .any base 72 v) (h : DataW.Trod enc Try.prog W 0 (fun _ => true) true 72 v d ps) : ∃ (cs : List Value) (y : SetD), v = .agg cs.toArray ∧ (ReS (fun _ _ => True) W) cs y ∧ SetD.Ok y := by
  obtain ⟨cs, rfl, hs⟩ := okWide_set hv
  obtain ⟨fuel, hf⟩ := h
  obtain ⟨l⟩ := cs
  obtain ⟨y, h1, h2⟩ := open_set (cs := l) hs hf
  exact ⟨l, y, rfl, h1, h2⟩
theorem okWide_act {W : World} {base : Nat} {v : Value} (h : Value.okWide Try.prog W .any base 70 v) : ∃ cs, v = .agg cs ∧ cs.size = 6 := by
  simp only [Value.okWide, Try.underlying70] at h
  obtain ⟨cs, h1, h2, _⟩ := h
  exact ⟨cs, h1, by rw [h2, cz70]⟩
theorem arg_act {W : World} {base : Nat} {v : Value} {d : DataW H} {ps : List MemPlace} (hv : Value.okWide Try.prog W .any base 70 v) (h : DataW.Trod enc Try.prog W 0 (fun _ => true) true 70 v d ps) : ∃ (cs : List Value) (y : ActD), v = .agg cs.toArray ∧ (ReT (fun _ _ => True) W) cs y ∧ ActD.Ok y := by
  obtain ⟨cs, rfl, hs⟩ := okWide_act hv
  obtain ⟨fuel, hf⟩ := h
  obtain ⟨l⟩ := cs
  obtain ⟨y, h1, h2⟩ := open_act (cs := l) hs hf
  exact ⟨l, y, rfl, h1, h2⟩
theorem okWide_rule {W : World} {base : Nat} {v : Value} (h : Value.okWide Try.prog W .any base 33 v) : ∃ cs, v = .agg cs ∧ cs.size = 3 := by
  simp only [Value.okWide, Try.underlying33] at h
  obtain ⟨cs, h1, h2, _⟩ := h
  exact ⟨cs, h1, by rw [h2, cz33]⟩
theorem arg_rule {W : World} {base : Nat} {v : Value} {d : DataW H} {ps : List MemPlace} (hv : Value.okWide Try.prog W .any base 33 v) (h : DataW.Trod enc Try.prog W 0 (fun _ => true) true 33 v d ps) : ∃ (cs : List Value) (y : RuleD), v = .agg cs.toArray ∧ (ReR (fun _ _ => True) W) cs y ∧ RuleD.Ok y := by
  obtain ⟨cs, rfl, hs⟩ := okWide_rule hv
  obtain ⟨fuel, hf⟩ := h
  obtain ⟨l⟩ := cs
  obtain ⟨y, h1, h2⟩ := open_rule (cs := l) hs hf
  exact ⟨l, y, rfl, h1, h2⟩
theorem okWide_class {W : World} {base : Nat} {v : Value} (h : Value.okWide Try.prog W .any base 41 v) : ∃ cs, v = .agg cs ∧ cs.size = 2 := by
  simp only [Value.okWide, Try.underlying41] at h
  obtain ⟨cs, h1, h2, _⟩ := h
  exact ⟨cs, h1, by rw [h2, cz41]⟩
theorem arg_class {W : World} {base : Nat} {v : Value} {d : DataW H} {ps : List MemPlace} (hv : Value.okWide Try.prog W .any base 41 v) (h : DataW.Trod enc Try.prog W 0 (fun _ => true) true 41 v d ps) : ∃ (cs : List Value) (y : ClassD), v = .agg cs.toArray ∧ (ReK (fun _ _ => True) W) cs y ∧ ClassD.Ok y := by
  obtain ⟨cs, rfl, hs⟩ := okWide_class hv
  obtain ⟨fuel, hf⟩ := h
  obtain ⟨l⟩ := cs
  obtain ⟨y, h1, h2⟩ := open_class (cs := l) hs hf
  exact ⟨l, y, rfl, h1, h2⟩
theorem okWide_prog {W : World} {base : Nat} {v : Value} (h : Value.okWide Try.prog W .any base 25 v) : ∃ cs, v = .agg cs ∧ cs.size = 2 := by
  simp only [Value.okWide, Try.underlying25] at h
  obtain ⟨cs, h1, h2, _⟩ := h
  exact ⟨cs, h1, by rw [h2, cz25]⟩
theorem arg_prog {W : World} {base : Nat} {v : Value} {d : DataW H} {ps : List MemPlace} (hv : Value.okWide Try.prog W .any base 25 v) (h : DataW.Trod enc Try.prog W 0 (fun _ => true) true 25 v d ps) : ∃ (cs : List Value) (y : ProgD), v = .agg cs.toArray ∧ (ReP (fun _ _ => True) W) cs y ∧ ProgD.Ok y := by
  obtain ⟨cs, rfl, hs⟩ := okWide_prog hv
  obtain ⟨fuel, hf⟩ := h
  obtain ⟨l⟩ := cs
  obtain ⟨y, h1, h2⟩ := open_prog (cs := l) hs hf
  exact ⟨l, y, rfl, h1, h2⟩
end
end Go.Proofs.Ytakibdkmgjpbhaa
