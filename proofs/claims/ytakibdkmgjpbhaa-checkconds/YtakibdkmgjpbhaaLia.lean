/- (with what a yes tells) Whether programs are small enough for a statement: whatever is told, it is told: contracts of single calls. -/
import Derived.Test.YtakibdkmgjpbhaaRe
import Derived.Test.YtakibdkmgjpbhaaRn
namespace Go.Proofs.Ytakibdkmgjpbhaa
set_option maxRecDepth 20000
set_option maxRecDepth 20000
set_option maxRecDepth 20000
open Go.RowKit
set_option linter.unusedVariables false
set_option linter.unusedSimpArgs false
set_option maxRecDepth 20000


/-- Some answer; if it is yes, L. -/
def SomeL (L : Prop) (w : World) (e : Ending) (w' : World) : Prop := ∃ b, e = .returned (.bool b) ∧ (b = true → L) ∧ Below w.heap.size w w'
def itemL (x : ItemD) : Prop := x.v.length ≤ 60 ∧ x.x.s.length ≤ 60
def itemsL (l : List ItemD) : Prop := l.length ≤ 40 ∧ ∀ x ∈ l, itemL x
def testL (x : TestD) : Prop := x.v.length ≤ 60 ∧ x.x.s.length ≤ 60
def testsL (x : AttrD) : Prop := (∀ y ∈ x.ones, y.s.length ≤ 60) ∧ ∀ y ∈ x.tests, testL y
def attrL (y : AttrD) : Prop := y.a.length ≤ 60 ∧ y.ones.length ≤ 12 ∧ y.tests.length ≤ 12 ∧ testsL y
def condL (c : CondD) : Prop := c.c.length ≤ 60 ∧ c.attrs.length ≤ 10 ∧ ∀ y ∈ c.attrs, attrL y
def setL (x : SetD) : Prop := x.a.length ≤ 60 ∧ itemsL x.e
def actL (c : ActD) : Prop := c.c.length ≤ 60 ∧ c.v.length ≤ 60 ∧ c.sets.length ≤ 10 ∧ c.exprs.length ≤ 12 ∧ (∀ y ∈ c.sets, setL y) ∧ ∀ y ∈ c.exprs, itemsL y
def ruleL (x : RuleD) : Prop := x.nm.length ≤ 60 ∧ x.conds.length ≤ 8 ∧ x.acts.length ≤ 12 ∧ (∀ y ∈ x.conds, condL y) ∧ ∀ y ∈ x.acts, actL y
def classL (c : ClassD) : Prop := c.nm.length ≤ 60 ∧ c.attrs.length ≤ 10 ∧ ∀ y ∈ c.attrs, y.length ≤ 60
def progL (x : ProgD) : Prop := x.cs.length ≤ 20 ∧ x.rs.length ≤ 6 ∧ (∀ y ∈ x.cs, classL y) ∧ ∀ y ∈ x.rs, ruleL y
theorem all_idx {α : Type} {p : α → Prop} {l : List α} (d : α) (h : ∀ j, j < l.length → p (l.getD j d)) : ∀ x ∈ l, p x := by
  intro x hx
  obtain ⟨j, hj, rfl⟩ := List.mem_iff_getElem.1 hx
  have := h j hj
  rwa [List.getD_eq_getElem?_getD, List.getElem?_eq_getElem hj] at this
theorem nbf {b : Bool} (h : (!b) = false) : b = true := by cases b with
  | true => rfl
  | false => cases h
theorem idx_next {α : Type} {p : α → Prop} {l : List α} {d : α} {i : Nat} (h : ∀ j, j < i → p (l.getD j d)) (hi : p (l.getD i d)) : ∀ j, j < i + 1 → p (l.getD j d) := fun j hj => by
  rcases Nat.lt_or_eq_of_le (Nat.le_of_lt_succ hj) with hj | rfl
  · exact h j hj
  · exact hi
set_option maxHeartbeats 4000000 in
theorem lightItemsB {Q1 : Nat → Prop} (v1 : Value) (xs : List ItemD) (w : World) (h1 : SlW 5 w Q1 v1 (xs.map clI)) :
    Calls Try.prog 41 #[v1] w (SomeL (itemsL xs) w) := by
  obtain ⟨a1, c1, rfl⟩ := h1.shape
  obtain ⟨-, l1, m1, r1⟩ := h1.row
  simp only [List.length_map] at *
  have R1 : Hid (∀ i, i < xs.length → ∃ b off, a1 = some ⟨b, off, none⟩ ∧ b < w.heap.size ∧ ∀ j, j < 5 → w.cell? ⟨b, off + (i * 5 + j), none⟩ = ((xs.map clI).getD i [])[j]?) := r1
  clear r1 h1
  have hnn : (xs.length : Int) ≤ 9223372036854775807 := by omega
  go_enter Try.func41, Try.ntmps41
  go_wp2
  all_goals first | (go_ret; exact ⟨_, rfl, (fun h => by cases h), Below.refl _ _⟩) | skip
  have HL : Hid (xs.length ≤ 40) := by show _ ≤ _; omega
  go_loopw [3] (fun v wr => ∃ i : Nat, v = .int .i64 i ∧ i ≤ xs.length ∧ Below w.heap.size w wr ∧ (∀ j, j < i → itemL (xs.getD j ⟨0, v0, []⟩))) (fun v _ => (xs.length - intOf v).toNat)
  case atStart => exact ⟨0, rfl, Nat.zero_le _, Below.refl _ _, fun j hj => absurd hj (Nat.not_lt_zero _)⟩
  case round =>
    obtain ⟨i, rfl, hi, hbr, hno⟩ := hrel
    have NO : Hid (∀ j, j < i → itemL (xs.getD j ⟨0, v0, []⟩)) := hno
    clear hno
    by_cases hlt : i < xs.length
    · have hiz : (i : Int) < xs.length := by omega
      obtain ⟨b1, o1, rfl, hb1, q1⟩ := R1.out i hlt
      rw [getD_map clI xs i ⟨0, v0, []⟩ hlt] at q1
      have NX : Hid (itemL (xs.getD i ⟨0, v0, []⟩) → ∀ j, j < i + 1 → itemL (xs.getD j ⟨0, v0, []⟩)) := fun hx => idx_next NO.out hx
      generalize xs.getD i ⟨0, v0, []⟩ = x at q1 NX
      have c3 : wr.cell? ⟨b1, o1 + i * 5 + 3, none⟩ = some (.string (st x.x.s)) := (hbr.cell (p := ⟨b1, o1 + i * 5 + 3, none⟩) hb1).trans (q1 3 (by decide))
      have c4 : wr.cell? ⟨b1, o1 + i * 5 + 4, none⟩ = some (.string (st x.v)) := (hbr.cell (p := ⟨b1, o1 + i * 5 + 4, none⟩) hb1).trans (q1 4 (by decide))
      clear q1
      go_wp2
      all_goals first | (go_ret; exact ⟨_, rfl, (fun h => by cases h), hbr⟩) | skip
      all_goals
        go_roundw
        case rel => exact ⟨i + 1, by simp, by omega, hbr, NX.out ⟨by have := st_size x.v; omega, by have := st_size x.x.s; omega⟩⟩
        case measure => simp [intOf]; omega
    · have hiz : ¬ (i : Int) < xs.length := by omega
      go_wp2
      go_ret
      exact ⟨_, rfl, (fun _ => ⟨HL.out, all_idx ⟨0, v0, []⟩ fun j hj => NO.out j (by omega)⟩), hbr⟩
set_option maxHeartbeats 4000000 in
theorem lightTestsB {P : Nat → Nat → Prop} (cs : List Value) (x : AttrD) (w : World) (h : ReA P w cs x) :
    Calls Try.prog 40 #[.agg cs.toArray] w (SomeL (testsL x) w) := by
  obtain ⟨v1, v2, rfl, h1, h2⟩ := h
  obtain ⟨a1, c1, rfl⟩ := h1.shape
  obtain ⟨a2, c2, rfl⟩ := h2.shape
  obtain ⟨-, l1, m1, r1⟩ := h1.row
  obtain ⟨-, l2, m2, r2⟩ := h2.row
  simp only [List.length_map] at *
  have R1 : Hid (∀ i, i < x.ones.length → ∃ b off, a1 = some ⟨b, off, none⟩ ∧ b < w.heap.size ∧ ∀ j, j < 3 → w.cell? ⟨b, off + (i * 3 + j), none⟩ = ((x.ones.map clV).getD i [])[j]?) := r1
  have R2 : Hid (∀ i, i < x.tests.length → ∃ b off, a2 = some ⟨b, off, none⟩ ∧ b < w.heap.size ∧ ∀ j, j < 5 → w.cell? ⟨b, off + (i * 5 + j), none⟩ = ((x.tests.map clT).getD i [])[j]?) := r2
  clear r1 h1 r2 h2
  have hnn : (x.ones.length : Int) ≤ 9223372036854775807 := by omega
  have hnn2 : (x.tests.length : Int) ≤ 9223372036854775807 := by omega
  go_enter Try.func40, Try.ntmps40
  go_wp2
  go_loopw [3] (fun v wr => ∃ i : Nat, v = .int .i64 i ∧ i ≤ x.ones.length ∧ Below (w.alloc (.cells #[.string (st x.a), .slice a1 x.ones.length c1, .slice a2 x.tests.length c2] 62)).heap.size (w.alloc (.cells #[.string (st x.a), .slice a1 x.ones.length c1, .slice a2 x.tests.length c2] 62)) wr ∧ (∀ j, j < i → (x.ones.getD j v0).s.length ≤ 60)) (fun v _ => (x.ones.length - intOf v).toNat)
  case atStart => exact ⟨0, rfl, Nat.zero_le _, Below.refl _ _, fun j hj => absurd hj (Nat.not_lt_zero _)⟩
  case round =>
    obtain ⟨i, rfl, hi, hbr, hno⟩ := hrel
    have NO : Hid (∀ j, j < i → (x.ones.getD j v0).s.length ≤ 60) := hno
    clear hno
    obtain ⟨wo, hwo⟩ : ∃ wo, wo = wr := ⟨_, rfl⟩
    subst hwo
    have HW : Hid (Below w.heap.size w wo) := bt (bxn _ _) hbr
    have p0 : wo.cell? ⟨w.heap.size, 0, none⟩ = some (.string (st x.a)) := by rw [hbr.cell (p := ⟨w.heap.size, 0, none⟩) (by simp)]; go_simp
    have p1 : wo.cell? ⟨w.heap.size, 1, none⟩ = some (.slice a1 x.ones.length c1) := by rw [hbr.cell (p := ⟨w.heap.size, 1, none⟩) (by simp)]; go_simp
    have p2 : wo.cell? ⟨w.heap.size, 2, none⟩ = some (.slice a2 x.tests.length c2) := by rw [hbr.cell (p := ⟨w.heap.size, 2, none⟩) (by simp)]; go_simp
    by_cases hlt : i < x.ones.length
    · have hiz : (i : Int) < x.ones.length := by omega
      obtain ⟨b1, o1, rfl, hb1, q1⟩ := R1.out i hlt
      rw [getD_map clV x.ones i v0 hlt] at q1
      have NX : Hid ((x.ones.getD i v0).s.length ≤ 60 → ∀ j, j < i + 1 → (x.ones.getD j v0).s.length ≤ 60) := fun hx => idx_next (p := fun y : VD => y.s.length ≤ 60) NO.out hx
      generalize x.ones.getD i v0 = y at q1 NX
      have c3 : wo.cell? ⟨b1, o1 + i * 3 + 2, none⟩ = some (.string (st y.s)) := (HW.out.cell (p := ⟨b1, o1 + i * 3 + 2, none⟩) hb1).trans (q1 2 (by decide))
      clear q1
      go_wp2
      all_goals first | (go_ret; exact ⟨_, rfl, (fun h => by cases h), HW.out⟩) | skip
      all_goals
        go_roundw
        case rel => exact ⟨i + 1, by simp, by omega, hbr, NX.out (by have := st_size y.s; omega)⟩
        case measure => simp [intOf]; omega
    · have hiz : ¬ (i : Int) < x.ones.length := by omega
      go_wp2
      go_loopw [4] (fun v wr => ∃ i : Nat, v = .int .i64 i ∧ i ≤ x.tests.length ∧ Below (w.alloc (.cells #[.string (st x.a), .slice a1 x.ones.length c1, .slice a2 x.tests.length c2] 62)).heap.size (w.alloc (.cells #[.string (st x.a), .slice a1 x.ones.length c1, .slice a2 x.tests.length c2] 62)) wr ∧ (∀ j, j < i → testL (x.tests.getD j ⟨0, [], v0⟩))) (fun v _ => (x.tests.length - intOf v).toNat)
      case atStart => exact ⟨0, rfl, Nat.zero_le _, hbr, fun j hj => absurd hj (Nat.not_lt_zero _)⟩
      case round =>
        obtain ⟨k, rfl, hk, hbk, hno⟩ := hrel
        have NP : Hid (∀ j, j < k → testL (x.tests.getD j ⟨0, [], v0⟩)) := hno
        clear hno
        clear p0 p1 p2
        have HK : Hid (Below w.heap.size w wr) := bt (bxn _ _) hbk
        have p0 : wr.cell? ⟨w.heap.size, 0, none⟩ = some (.string (st x.a)) := by rw [hbk.cell (p := ⟨w.heap.size, 0, none⟩) (by simp)]; go_simp
        have p1 : wr.cell? ⟨w.heap.size, 1, none⟩ = some (.slice a1 x.ones.length c1) := by rw [hbk.cell (p := ⟨w.heap.size, 1, none⟩) (by simp)]; go_simp
        have p2 : wr.cell? ⟨w.heap.size, 2, none⟩ = some (.slice a2 x.tests.length c2) := by rw [hbk.cell (p := ⟨w.heap.size, 2, none⟩) (by simp)]; go_simp
        by_cases hlt2 : k < x.tests.length
        · have hkz : (k : Int) < x.tests.length := by omega
          obtain ⟨b1, o1, rfl, hb1, q1⟩ := R2.out k hlt2
          rw [getD_map clT x.tests k ⟨0, [], v0⟩ hlt2] at q1
          have NX : Hid (testL (x.tests.getD k ⟨0, [], v0⟩) → ∀ j, j < k + 1 → testL (x.tests.getD j ⟨0, [], v0⟩)) := fun hx => idx_next NP.out hx
          generalize x.tests.getD k ⟨0, [], v0⟩ = y at q1 NX
          have c1 : wr.cell? ⟨b1, o1 + k * 5 + 1, none⟩ = some (.string (st y.v)) := (HK.out.cell (p := ⟨b1, o1 + k * 5 + 1, none⟩) hb1).trans (q1 1 (by decide))
          have c4 : wr.cell? ⟨b1, o1 + k * 5 + 4, none⟩ = some (.string (st y.x.s)) := (HK.out.cell (p := ⟨b1, o1 + k * 5 + 4, none⟩) hb1).trans (q1 4 (by decide))
          clear q1
          go_wp2
          all_goals first | (go_ret; exact ⟨_, rfl, (fun h => by cases h), HK.out⟩) | skip
          all_goals
            go_roundw
            case rel => exact ⟨k + 1, by simp, by omega, hbk, NX.out ⟨by have := st_size y.v; omega, by have := st_size y.x.s; omega⟩⟩
            case measure => simp [intOf]; omega
        · have hkz : ¬ (k : Int) < x.tests.length := by omega
          go_wp2
          go_ret
          exact ⟨_, rfl, (fun _ => ⟨all_idx (p := fun y : VD => y.s.length ≤ 60) v0 fun j hj => NO.out j (by omega), all_idx ⟨0, [], v0⟩ fun j hj => NP.out j (by omega)⟩), HK.out⟩
end Go.Proofs.Ytakibdkmgjpbhaa
