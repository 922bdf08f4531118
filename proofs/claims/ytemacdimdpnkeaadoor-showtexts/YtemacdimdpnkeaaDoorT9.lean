import Derived.Test.YtemacdimdpnkeaaDoorT2
import Derived.Test.YtemacdimdpnkeaaDoorT7
import Derived.Test.YtemacdimdpnkeaaDoorT8
import Derived.Deep.RegionHeld3
import Derived.Deep.LoopGhost
namespace Go.Proofs.YtemacdimdpnkeaaDoor
set_option maxRecDepth 20000
set_option maxRecDepth 20000
open Go.RowKit
set_option linter.unusedVariables false
def clS (s : Str) : List Value := [.string (st s)]
def clV (x : VD) : List Value := [.int .u8 x.k, .int .i64 x.n, .string (st x.s)]
def clT (x : TestD) : List Value := [.int .u8 x.p, .string (st x.v), .int .u8 x.x.k, .int .i64 x.x.n, .string (st x.x.s)]
def clI (x : ItemD) : List Value := [.int .u8 x.k, .int .u8 x.x.k, .int .i64 x.x.n, .string (st x.x.s), .string (st x.v)]
def SlW (n : Nat) (w : World) (P : Nat → Prop) (v : Value) (css : List (List Value)) : Prop :=
  ∃ a cap, v = .slice a css.length cap ∧ css.length ≤ cap ∧ cap ≤ 9223372036854775807 ∧
    (css = [] ∨ ∃ b off, a = some ⟨b, off, none⟩ ∧ b < w.heap.size ∧ P b ∧ ∀ i j, i < css.length → j < n → w.cell? ⟨b, off + (i * n + j), none⟩ = (css.getD i [])[j]?)
def Stays (P : Nat → Nat → Prop) (w w' : World) : Prop := w.heap.size ≤ w'.heap.size ∧ ∀ k b, P k b → b < w.heap.size → w'.heap[b]? = w.heap[b]?
theorem Stays.below {P : Nat → Nat → Prop} {w w' : World} (h : Below w.heap.size w w') : Stays P w w' := ⟨h.size, fun k b _ hb => h.block b hb⟩
theorem SlW.keep {n k : Nat} {w w' : World} {P : Nat → Nat → Prop} {v : Value} {css : List (List Value)} (hs : Stays P w w') (h : SlW n w (P k) v css) : SlW n w' (P k) v css := by
  obtain ⟨a, cap, h1, h2, h3, h4⟩ := h
  refine ⟨a, cap, h1, h2, h3, ?_⟩
  rcases h4 with h4 | ⟨b, off, e, hb, hp, hc⟩
  · exact .inl h4
  · refine .inr ⟨b, off, e, Nat.lt_of_lt_of_le hb hs.1, hp, fun i j hi hj => ?_⟩
    rw [← hc i j hi hj]
    have := hs.2 k b hp hb
    simp [World.cell?, this]
theorem SlW.mono {n : Nat} {w : World} {P Q : Nat → Prop} {v : Value} {css : List (List Value)} (hpq : ∀ b, P b → Q b) (h : SlW n w P v css) : SlW n w Q v css := by
  obtain ⟨a, cap, h1, h2, h3, h4⟩ := h
  refine ⟨a, cap, h1, h2, h3, ?_⟩
  rcases h4 with h4 | ⟨b, off, e, hb, hp, hc⟩
  · exact .inl h4
  · exact .inr ⟨b, off, e, hb, hpq b hp, hc⟩
def All2 {α β : Type} (R : α → β → Prop) : List α → List β → Prop
  | [], [] => True
  | a :: as_, b :: bs => R a b ∧ All2 R as_ bs
  | _, _ => False
theorem All2.len {α β : Type} {R : α → β → Prop} : ∀ {as_ : List α} {bs : List β}, All2 R as_ bs → as_.length = bs.length
  | [], [], _ => rfl
  | _ :: _, _ :: _, h => by simp [All2.len h.2]
  | [], _ :: _, h => h.elim
  | _ :: _, [], h => h.elim
theorem All2.at {α β : Type} {R : α → β → Prop} : ∀ {as_ : List α} {bs : List β}, All2 R as_ bs → ∀ i (x : α) (y : β), i < bs.length → R (as_.getD i x) (bs.getD i y)
  | [], [], _, i, x, y, hi => by simp at hi
  | a :: as_, b :: bs, h, 0, x, y, _ => h.1
  | a :: as_, b :: bs, h, i + 1, x, y, hi => All2.at h.2 i x y (by simpa using hi)
  | [], _ :: _, h, _, _, _, _ => h.elim
  | _ :: _, [], h, _, _, _, _ => h.elim
theorem All2.map {α β : Type} {R S : α → β → Prop} (f : ∀ a b, R a b → S a b) : ∀ {as_ : List α} {bs : List β}, All2 R as_ bs → All2 S as_ bs
  | [], [], _ => trivial
  | _ :: _, _ :: _, h => ⟨f _ _ h.1, All2.map f h.2⟩
  | [], _ :: _, h => h.elim
  | _ :: _, [], h => h.elim
theorem All2.snoc {α β : Type} {R : α → β → Prop} {a : α} {b : β} (hr : R a b) : ∀ {as_ : List α} {bs : List β}, All2 R as_ bs → All2 R (as_ ++ [a]) (bs ++ [b])
  | [], [], _ => ⟨hr, trivial⟩
  | _ :: _, _ :: _, h => ⟨h.1, All2.snoc hr h.2⟩
  | [], _ :: _, h => h.elim
  | _ :: _, [], h => h.elim
def Row {α : Type} (n : Nat) (R : World → List Value → α → Prop) (w : World) (P : Nat → Prop) (v : Value) (xs : List α) : Prop := ∃ css, SlW n w P v css ∧ All2 (R w) css xs
variable (P : Nat → Nat → Prop)
def ReA (w : World) (cs : List Value) (x : AttrD) : Prop := ∃ v1 v2, cs = [.string (st x.a), v1, v2] ∧ SlW 3 w (P 2) v1 (x.ones.map clV) ∧ SlW 5 w (P 3) v2 (x.tests.map clT)
def ReC (w : World) (cs : List Value) (x : CondD) : Prop := ∃ v, cs = [.bool x.neg, .string (st x.c), v] ∧ Row 3 (ReA P) w (P 7) v x.attrs
def ReS (w : World) (cs : List Value) (x : SetD) : Prop := ∃ v, cs = [.string (st x.a), v] ∧ SlW 5 w (P 4) v (x.e.map clI)
def ReE (w : World) (cs : List Value) (x : List ItemD) : Prop := ∃ v, cs = [v] ∧ SlW 5 w (P 4) v (x.map clI)
def ReT (w : World) (cs : List Value) (x : ActD) : Prop := ∃ v1 v2, cs = [.int .u8 x.k, .string (st x.c), .int .i64 x.n, .string (st x.v), v1, v2] ∧ Row 2 (ReS P) w (P 5) v1 x.sets ∧ Row 1 (ReE P) w (P 6) v2 x.exprs
def ReR (w : World) (cs : List Value) (x : RuleD) : Prop := ∃ v1 v2, cs = [.string (st x.nm), v1, v2] ∧ Row 3 (ReC P) w (P 8) v1 x.conds ∧ Row 6 (ReT P) w (P 9) v2 x.acts
def ReK (w : World) (cs : List Value) (x : ClassD) : Prop := ∃ v, cs = [.string (st x.nm), v] ∧ SlW 1 w (P 1) v (x.attrs.map clS)
def ReP (w : World) (cs : List Value) (x : ProgD) : Prop := ∃ v1 v2, cs = [v1, v2] ∧ Row 2 (ReK P) w (P 10) v1 x.cs ∧ Row 3 (ReR P) w (P 11) v2 x.rs
variable {P}
theorem Row.keep {α : Type} {n k : Nat} {R : World → List Value → α → Prop} {w w' : World} {v : Value} {xs : List α} (hs : Stays P w w') (hR : ∀ cs x, R w cs x → R w' cs x) (h : Row n R w (P k) v xs) : Row n R w' (P k) v xs := by
  obtain ⟨css, h1, h2⟩ := h
  exact ⟨css, h1.keep hs, h2.map hR⟩
theorem ReA.keep {w w' : World} {cs : List Value} {x : AttrD} (hs : Stays P w w') (h : ReA P w cs x) : ReA P w' cs x := by
  obtain ⟨v1, v2, h1, h2, h3⟩ := h
  exact ⟨v1, v2, h1, h2.keep hs, h3.keep hs⟩
theorem ReC.keep {w w' : World} {cs : List Value} {x : CondD} (hs : Stays P w w') (h : ReC P w cs x) : ReC P w' cs x := by
  obtain ⟨v, h1, h2⟩ := h
  exact ⟨v, h1, h2.keep hs fun _ _ => ReA.keep hs⟩
theorem ReS.keep {w w' : World} {cs : List Value} {x : SetD} (hs : Stays P w w') (h : ReS P w cs x) : ReS P w' cs x := by
  obtain ⟨v, h1, h2⟩ := h
  exact ⟨v, h1, h2.keep hs⟩
theorem ReE.keep {w w' : World} {cs : List Value} {x : List ItemD} (hs : Stays P w w') (h : ReE P w cs x) : ReE P w' cs x := by
  obtain ⟨v, h1, h2⟩ := h
  exact ⟨v, h1, h2.keep hs⟩
theorem ReT.keep {w w' : World} {cs : List Value} {x : ActD} (hs : Stays P w w') (h : ReT P w cs x) : ReT P w' cs x := by
  obtain ⟨v1, v2, h1, h2, h3⟩ := h
  exact ⟨v1, v2, h1, h2.keep hs (fun _ _ => ReS.keep hs), h3.keep hs fun _ _ => ReE.keep hs⟩
theorem ReR.keep {w w' : World} {cs : List Value} {x : RuleD} (hs : Stays P w w') (h : ReR P w cs x) : ReR P w' cs x := by
  obtain ⟨v1, v2, h1, h2, h3⟩ := h
  exact ⟨v1, v2, h1, h2.keep hs (fun _ _ => ReC.keep hs), h3.keep hs fun _ _ => ReT.keep hs⟩
theorem ReK.keep {w w' : World} {cs : List Value} {x : ClassD} (hs : Stays P w w') (h : ReK P w cs x) : ReK P w' cs x := by
  obtain ⟨v, h1, h2⟩ := h
  exact ⟨v, h1, h2.keep hs⟩
theorem ReP.keep {w w' : World} {cs : List Value} {x : ProgD} (hs : Stays P w w') (h : ReP P w cs x) : ReP P w' cs x := by
  obtain ⟨v1, v2, h1, h2, h3⟩ := h
  exact ⟨v1, v2, h1, h2.keep hs (fun _ _ => ReK.keep hs), h3.keep hs fun _ _ => ReR.keep hs⟩
theorem SlW.row {n : Nat} {w : World} {Q : Nat → Prop} {a : Option Addr} {m cap : Nat} {css : List (List Value)} (h : SlW n w Q (.slice a m cap) css) : m = css.length ∧ css.length ≤ cap ∧ cap ≤ 9223372036854775807 ∧ (∀ i, i < css.length → ∃ b off, a = some ⟨b, off, none⟩ ∧ b < w.heap.size ∧ ∀ j, j < n → w.cell? ⟨b, off + (i * n + j), none⟩ = (css.getD i [])[j]?) := by
  obtain ⟨a', cap', h1, h2, h3, h4⟩ := h
  obtain ⟨rfl, rfl, rfl⟩ := Value.slice.inj h1
  refine ⟨rfl, h2, h3, fun i hi => ?_⟩
  rcases h4 with rfl | ⟨b, off, e, hb, _, hc⟩
  · simp at hi
  · exact ⟨b, off, e, hb, fun j hj => hc i j hi hj⟩
theorem SlW.shape {n : Nat} {w : World} {Q : Nat → Prop} {v : Value} {css : List (List Value)} (h : SlW n w Q v css) : ∃ a cap, v = .slice a css.length cap := by
  obtain ⟨a, cap, h1, _⟩ := h; exact ⟨a, cap, h1⟩
theorem getD_map {α : Type} (f : α → List Value) (l : List α) (i : Nat) (d : α) (h : i < l.length) : (l.map f).getD i [] = f (l.getD i d) := by
  rw [List.getD_eq_getElem?_getD, List.getD_eq_getElem?_getD, List.getElem?_map, List.getElem?_eq_getElem h]; rfl
end Go.Proofs.YtemacdimdpnkeaaDoor
namespace Go.Proofs.YtemacdimdpnkeaaDoor
set_option maxRecDepth 20000
set_option maxRecDepth 20000
open Go.RowKit
set_option linter.unusedVariables false
set_option linter.unusedSimpArgs false
set_option maxRecDepth 20000
def SomeL (L : Prop) (w : World) (e : Ending) (w' : World) : Prop := ∃ b, e = .returned (.bool b) ∧ (b = true → L) ∧ Below w.heap.size w w'
def itemL (x : ItemD) : Prop := x.v.length ≤ 60 ∧ x.x.s.length ≤ 60
def itemsL (l : List ItemD) : Prop := l.length ≤ 40 ∧ ∀ x ∈ l, itemL x
def testL (x : TestD) : Prop := x.v.length ≤ 60 ∧ x.x.s.length ≤ 60
def testsL (x : AttrD) : Prop := (∀ y ∈ x.ones, y.s.length ≤ 60) ∧ ∀ y ∈ x.tests, testL y
def attrL (y : AttrD) : Prop := y.a.length ≤ 60 ∧ y.ones.length ≤ 12 ∧ y.tests.length ≤ 12 ∧ testsL y
def condL (c : CondD) : Prop := c.c.length ≤ 60 ∧ c.attrs.length ≤ 10 ∧ ∀ y ∈ c.attrs, attrL y
def setL (x : SetD) : Prop := x.a.length ≤ 60 ∧ itemsL x.e
def actL (c : ActD) : Prop := c.c.length ≤ 60 ∧ c.v.length ≤ 60 ∧ c.sets.length ≤ 10 ∧ c.exprs.length ≤ 12 ∧ (∀ y ∈ c.sets, setL y) ∧ ∀ y ∈ c.exprs, itemsL y
def ruleL (x : RuleD) : Prop := x.nm.length ≤ 60 ∧ x.conds.length ≤ 8 ∧ x.acts.length ≤ 12 ∧ (∀ y ∈ x.conds, condL y) ∧ ∀ y ∈ x.acts, actL y
def classL (c : ClassD) : Prop := c.nm.length ≤ 60 ∧ c.attrs.length ≤ 10 ∧ ∀ y ∈ c.attrs, y.length ≤ 60
def progL (x : ProgD) : Prop := x.cs.length ≤ 20 ∧ x.rs.length ≤ 6 ∧ (∀ y ∈ x.cs, classL y) ∧ ∀ y ∈ x.rs, ruleL y
theorem all_idx {α : Type} {p : α → Prop} {l : List α} (d : α) (h : ∀ j, j < l.length → p (l.getD j d)) : ∀ x ∈ l, p x := by
  intro x hx
  obtain ⟨j, hj, rfl⟩ := List.mem_iff_getElem.1 hx
  have := h j hj
  rwa [List.getD_eq_getElem?_getD, List.getElem?_eq_getElem hj] at this
theorem nbf {b : Bool} (h : (!b) = false) : b = true := by cases b with
  | true => rfl
  | false => cases h
theorem idx_next {α : Type} {p : α → Prop} {l : List α} {d : α} {i : Nat} (h : ∀ j, j < i → p (l.getD j d)) (hi : p (l.getD i d)) : ∀ j, j < i + 1 → p (l.getD j d) := fun j hj => by
  rcases Nat.lt_or_eq_of_le (Nat.le_of_lt_succ hj) with hj | rfl
  · exact h j hj
  · exact hi
set_option maxHeartbeats 4000000 in
theorem lightItemsB {Q1 : Nat → Prop} (v1 : Value) (xs : List ItemD) (w : World) (h1 : SlW 5 w Q1 v1 (xs.map clI)) :
    Calls Tryd.prog 47 #[v1] w (SomeL (itemsL xs) w) := by
  obtain ⟨a1, c1, rfl⟩ := h1.shape
  obtain ⟨-, l1, m1, r1⟩ := h1.row
  simp only [List.length_map] at *
  have R1 : Hid (∀ i, i < xs.length → ∃ b off, a1 = some ⟨b, off, none⟩ ∧ b < w.heap.size ∧ ∀ j, j < 5 → w.cell? ⟨b, off + (i * 5 + j), none⟩ = ((xs.map clI).getD i [])[j]?) := r1
  clear r1 h1
  have hnn : (xs.length : Int) ≤ 9223372036854775807 := by omega
  go_enter Tryd.func47, Tryd.ntmps47
  go_wp2
  all_goals first | (go_ret; exact ⟨_, rfl, (fun h => by cases h), Below.refl _ _⟩) | skip
  have HL : Hid (xs.length ≤ 40) := by show _ ≤ _; omega
  go_loopw [3] (fun v wr => ∃ i : Nat, v = .int .i64 i ∧ i ≤ xs.length ∧ Below w.heap.size w wr ∧ (∀ j, j < i → itemL (xs.getD j ⟨0, v0, []⟩))) (fun v _ => (xs.length - intOf v).toNat)
  case atStart => exact ⟨0, rfl, Nat.zero_le _, Below.refl _ _, fun j hj => absurd hj (Nat.not_lt_zero _)⟩
  case round =>
    obtain ⟨i, rfl, hi, hbr, hno⟩ := hrel
    have NO : Hid (∀ j, j < i → itemL (xs.getD j ⟨0, v0, []⟩)) := hno
    clear hno
    by_cases hlt : i < xs.length
    · have hiz : (i : Int) < xs.length := by omega
      obtain ⟨b1, o1, rfl, hb1, q1⟩ := R1.out i hlt
      rw [getD_map clI xs i ⟨0, v0, []⟩ hlt] at q1
      have NX : Hid (itemL (xs.getD i ⟨0, v0, []⟩) → ∀ j, j < i + 1 → itemL (xs.getD j ⟨0, v0, []⟩)) := fun hx => idx_next NO.out hx
      generalize xs.getD i ⟨0, v0, []⟩ = x at q1 NX
      have c3 : wr.cell? ⟨b1, o1 + i * 5 + 3, none⟩ = some (.string (st x.x.s)) := (hbr.cell (p := ⟨b1, o1 + i * 5 + 3, none⟩) hb1).trans (q1 3 (by decide))
      have c4 : wr.cell? ⟨b1, o1 + i * 5 + 4, none⟩ = some (.string (st x.v)) := (hbr.cell (p := ⟨b1, o1 + i * 5 + 4, none⟩) hb1).trans (q1 4 (by decide))
      clear q1
      go_wp2
      all_goals first | (go_ret; exact ⟨_, rfl, (fun h => by cases h), hbr⟩) | skip
      all_goals
        go_roundw
        case rel => exact ⟨i + 1, by simp, by omega, hbr, NX.out ⟨by have := st_size x.v; omega, by have := st_size x.x.s; omega⟩⟩
        case measure => simp [intOf]; omega
    · have hiz : ¬ (i : Int) < xs.length := by omega
      go_wp2
      go_ret
      exact ⟨_, rfl, (fun _ => ⟨HL.out, all_idx ⟨0, v0, []⟩ fun j hj => NO.out j (by omega)⟩), hbr⟩
set_option maxHeartbeats 4000000 in
theorem lightTestsB {P : Nat → Nat → Prop} (cs : List Value) (x : AttrD) (w : World) (h : ReA P w cs x) :
    Calls Tryd.prog 46 #[.agg cs.toArray] w (SomeL (testsL x) w) := by
  obtain ⟨v1, v2, rfl, h1, h2⟩ := h
  obtain ⟨a1, c1, rfl⟩ := h1.shape
  obtain ⟨a2, c2, rfl⟩ := h2.shape
  obtain ⟨-, l1, m1, r1⟩ := h1.row
  obtain ⟨-, l2, m2, r2⟩ := h2.row
  simp only [List.length_map] at *
  have R1 : Hid (∀ i, i < x.ones.length → ∃ b off, a1 = some ⟨b, off, none⟩ ∧ b < w.heap.size ∧ ∀ j, j < 3 → w.cell? ⟨b, off + (i * 3 + j), none⟩ = ((x.ones.map clV).getD i [])[j]?) := r1
  have R2 : Hid (∀ i, i < x.tests.length → ∃ b off, a2 = some ⟨b, off, none⟩ ∧ b < w.heap.size ∧ ∀ j, j < 5 → w.cell? ⟨b, off + (i * 5 + j), none⟩ = ((x.tests.map clT).getD i [])[j]?) := r2
  clear r1 h1 r2 h2
  have hnn : (x.ones.length : Int) ≤ 9223372036854775807 := by omega
  have hnn2 : (x.tests.length : Int) ≤ 9223372036854775807 := by omega
  go_enter Tryd.func46, Tryd.ntmps46
  go_wp2
  go_loopw [3] (fun v wr => ∃ i : Nat, v = .int .i64 i ∧ i ≤ x.ones.length ∧ Below (w.alloc (.cells #[.string (st x.a), .slice a1 x.ones.length c1, .slice a2 x.tests.length c2] 49)).heap.size (w.alloc (.cells #[.string (st x.a), .slice a1 x.ones.length c1, .slice a2 x.tests.length c2] 49)) wr ∧ (∀ j, j < i → (x.ones.getD j v0).s.length ≤ 60)) (fun v _ => (x.ones.length - intOf v).toNat)
  case atStart => exact ⟨0, rfl, Nat.zero_le _, Below.refl _ _, fun j hj => absurd hj (Nat.not_lt_zero _)⟩
  case round =>
    obtain ⟨i, rfl, hi, hbr, hno⟩ := hrel
    have NO : Hid (∀ j, j < i → (x.ones.getD j v0).s.length ≤ 60) := hno
    clear hno
    obtain ⟨wo, hwo⟩ : ∃ wo, wo = wr := ⟨_, rfl⟩
    subst hwo
    have HW : Hid (Below w.heap.size w wo) := bt (bxn _ _) hbr
    have p0 : wo.cell? ⟨w.heap.size, 0, none⟩ = some (.string (st x.a)) := by rw [hbr.cell (p := ⟨w.heap.size, 0, none⟩) (by simp)]; go_simp
    have p1 : wo.cell? ⟨w.heap.size, 1, none⟩ = some (.slice a1 x.ones.length c1) := by rw [hbr.cell (p := ⟨w.heap.size, 1, none⟩) (by simp)]; go_simp
    have p2 : wo.cell? ⟨w.heap.size, 2, none⟩ = some (.slice a2 x.tests.length c2) := by rw [hbr.cell (p := ⟨w.heap.size, 2, none⟩) (by simp)]; go_simp
    by_cases hlt : i < x.ones.length
    · have hiz : (i : Int) < x.ones.length := by omega
      obtain ⟨b1, o1, rfl, hb1, q1⟩ := R1.out i hlt
      rw [getD_map clV x.ones i v0 hlt] at q1
      have NX : Hid ((x.ones.getD i v0).s.length ≤ 60 → ∀ j, j < i + 1 → (x.ones.getD j v0).s.length ≤ 60) := fun hx => idx_next (p := fun y : VD => y.s.length ≤ 60) NO.out hx
      generalize x.ones.getD i v0 = y at q1 NX
      have c3 : wo.cell? ⟨b1, o1 + i * 3 + 2, none⟩ = some (.string (st y.s)) := (HW.out.cell (p := ⟨b1, o1 + i * 3 + 2, none⟩) hb1).trans (q1 2 (by decide))
      clear q1
      go_wp2
      all_goals first | (go_ret; exact ⟨_, rfl, (fun h => by cases h), HW.out⟩) | skip
      all_goals
        go_roundw
        case rel => exact ⟨i + 1, by simp, by omega, hbr, NX.out (by have := st_size y.s; omega)⟩
        case measure => simp [intOf]; omega
    · have hiz : ¬ (i : Int) < x.ones.length := by omega
      go_wp2
      go_loopw [4] (fun v wr => ∃ i : Nat, v = .int .i64 i ∧ i ≤ x.tests.length ∧ Below (w.alloc (.cells #[.string (st x.a), .slice a1 x.ones.length c1, .slice a2 x.tests.length c2] 49)).heap.size (w.alloc (.cells #[.string (st x.a), .slice a1 x.ones.length c1, .slice a2 x.tests.length c2] 49)) wr ∧ (∀ j, j < i → testL (x.tests.getD j ⟨0, [], v0⟩))) (fun v _ => (x.tests.length - intOf v).toNat)
      case atStart => exact ⟨0, rfl, Nat.zero_le _, hbr, fun j hj => absurd hj (Nat.not_lt_zero _)⟩
      case round =>
        obtain ⟨k, rfl, hk, hbk, hno⟩ := hrel
        have NP : Hid (∀ j, j < k → testL (x.tests.getD j ⟨0, [], v0⟩)) := hno
        clear hno
        clear p0 p1 p2
        have HK : Hid (Below w.heap.size w wr) := bt (bxn _ _) hbk
        have p0 : wr.cell? ⟨w.heap.size, 0, none⟩ = some (.string (st x.a)) := by rw [hbk.cell (p := ⟨w.heap.size, 0, none⟩) (by simp)]; go_simp
        have p1 : wr.cell? ⟨w.heap.size, 1, none⟩ = some (.slice a1 x.ones.length c1) := by rw [hbk.cell (p := ⟨w.heap.size, 1, none⟩) (by simp)]; go_simp
        have p2 : wr.cell? ⟨w.heap.size, 2, none⟩ = some (.slice a2 x.tests.length c2) := by rw [hbk.cell (p := ⟨w.heap.size, 2, none⟩) (by simp)]; go_simp
        by_cases hlt2 : k < x.tests.length
        · have hkz : (k : Int) < x.tests.length := by omega
          obtain ⟨b1, o1, rfl, hb1, q1⟩ := R2.out k hlt2
          rw [getD_map clT x.tests k ⟨0, [], v0⟩ hlt2] at q1
          have NX : Hid (testL (x.tests.getD k ⟨0, [], v0⟩) → ∀ j, j < k + 1 → testL (x.tests.getD j ⟨0, [], v0⟩)) := fun hx => idx_next NP.out hx
          generalize x.tests.getD k ⟨0, [], v0⟩ = y at q1 NX
          have c1 : wr.cell? ⟨b1, o1 + k * 5 + 1, none⟩ = some (.string (st y.v)) := (HK.out.cell (p := ⟨b1, o1 + k * 5 + 1, none⟩) hb1).trans (q1 1 (by decide))
          have c4 : wr.cell? ⟨b1, o1 + k * 5 + 4, none⟩ = some (.string (st y.x.s)) := (HK.out.cell (p := ⟨b1, o1 + k * 5 + 4, none⟩) hb1).trans (q1 4 (by decide))
          clear q1
          go_wp2
          all_goals first | (go_ret; exact ⟨_, rfl, (fun h => by cases h), HK.out⟩) | skip
          all_goals
            go_roundw
            case rel => exact ⟨k + 1, by simp, by omega, hbk, NX.out ⟨by have := st_size y.v; omega, by have := st_size y.x.s; omega⟩⟩
            case measure => simp [intOf]; omega
        · have hkz : ¬ (k : Int) < x.tests.length := by omega
          go_wp2
          go_ret
          exact ⟨_, rfl, (fun _ => ⟨all_idx (p := fun y : VD => y.s.length ≤ 60) v0 fun j hj => NO.out j (by omega), all_idx ⟨0, [], v0⟩ fun j hj => NP.out j (by omega)⟩), HK.out⟩
end Go.Proofs.YtemacdimdpnkeaaDoor
namespace Go.Proofs.YtemacdimdpnkeaaDoor
set_option maxRecDepth 20000
set_option maxRecDepth 20000
open Go.RowKit
set_option linter.unusedVariables false
set_option linter.unusedSimpArgs false
set_option maxRecDepth 20000
set_option maxHeartbeats 8000000 in
theorem lightRuleB {P : Nat → Nat → Prop} (cs : List Value) (x : RuleD) (w : World) (h : ReR P w cs x) :
    Calls Tryd.prog 25 #[.agg cs.toArray] w (SomeL (ruleL x) w) := by
  obtain ⟨v1, v2, rfl, ⟨css1, h1, hh1⟩, ⟨css2, h2, hh2⟩⟩ := h
  have le1 := hh1.len
  have le2 := hh2.len
  obtain ⟨a1, c1, rfl⟩ := h1.shape
  obtain ⟨a2, c2, rfl⟩ := h2.shape
  obtain ⟨-, l1, m1, r1⟩ := h1.row
  obtain ⟨-, l2, m2, r2⟩ := h2.row
  rw [le1] at l1 r1 ⊢
  rw [le2] at l2 r2 ⊢
  have R1 : Hid (∀ i, i < x.conds.length → ∃ b off, a1 = some ⟨b, off, none⟩ ∧ b < w.heap.size ∧ ∀ j, j < 3 → w.cell? ⟨b, off + (i * 3 + j), none⟩ = (css1.getD i [])[j]?) := r1
  have R2 : Hid (∀ i, i < x.acts.length → ∃ b off, a2 = some ⟨b, off, none⟩ ∧ b < w.heap.size ∧ ∀ j, j < 6 → w.cell? ⟨b, off + (i * 6 + j), none⟩ = (css2.getD i [])[j]?) := r2
  have G1 : Hid (All2 (ReC P w) css1 x.conds) := hh1
  have G2 : Hid (All2 (ReT P w) css2 x.acts) := hh2
  clear r1 h1 r2 h2 hh1 hh2 le1 le2
  have hnn : (x.conds.length : Int) ≤ 9223372036854775807 := by omega
  have hnn2 : (x.acts.length : Int) ≤ 9223372036854775807 := by omega
  go_enter Tryd.func25, Tryd.ntmps25
  go_wp2
  all_goals first | (go_ret; exact ⟨_, rfl, (fun h => by cases h), bxn _ _⟩) | skip
  have HL : Hid (x.nm.length ≤ 60 ∧ x.conds.length ≤ 8 ∧ x.acts.length ≤ 12) := ⟨by have := st_size x.nm; omega, by omega, by omega⟩
  go_loopw [3] (fun v wr => ∃ i : Nat, v = .int .i64 i ∧ i ≤ x.conds.length ∧ Below (w.alloc (.cells #[.string (st x.nm), .slice a1 x.conds.length c1, .slice a2 x.acts.length c2] 39)).heap.size (w.alloc (.cells #[.string (st x.nm), .slice a1 x.conds.length c1, .slice a2 x.acts.length c2] 39)) wr ∧ (∀ j, j < i → condL (x.conds.getD j ⟨false, [], []⟩))) (fun v _ => (x.conds.length - intOf v).toNat)
  case atStart => exact ⟨0, rfl, Nat.zero_le _, Below.refl _ _, fun j hj => absurd hj (Nat.not_lt_zero _)⟩
  case round =>
    obtain ⟨i, rfl, hi, hbr, hno⟩ := hrel
    have NO : Hid (∀ j, j < i → condL (x.conds.getD j ⟨false, [], []⟩)) := hno
    clear hno
    obtain ⟨wo, hwo⟩ : ∃ wo, wo = wr := ⟨_, rfl⟩
    subst hwo
    have HW : Hid (Below w.heap.size w wo) := bt (bxn _ _) hbr
    have p0 : wo.cell? ⟨w.heap.size, 0, none⟩ = some (.string (st x.nm)) := by rw [hbr.cell (p := ⟨w.heap.size, 0, none⟩) (by simp)]; go_simp
    have p1 : wo.cell? ⟨w.heap.size, 1, none⟩ = some (.slice a1 x.conds.length c1) := by rw [hbr.cell (p := ⟨w.heap.size, 1, none⟩) (by simp)]; go_simp
    have p2 : wo.cell? ⟨w.heap.size, 2, none⟩ = some (.slice a2 x.acts.length c2) := by rw [hbr.cell (p := ⟨w.heap.size, 2, none⟩) (by simp)]; go_simp
    by_cases hlt : i < x.conds.length
    · have hiz : (i : Int) < x.conds.length := by omega
      obtain ⟨b1, o1, rfl, hb1, q1⟩ := R1.out i hlt
      have e1 := G1.out.at i [] ⟨false, [], []⟩ hlt
      have NX : Hid (condL (x.conds.getD i ⟨false, [], []⟩) → ∀ j, j < i + 1 → condL (x.conds.getD j ⟨false, [], []⟩)) := fun hx => idx_next NO.out hx
      generalize x.conds.getD i ⟨false, [], []⟩ = c at q1 e1 NX
      obtain ⟨u, ec, ⟨cssu, hu, hhu⟩⟩ := e1
      have leu := hhu.len
      obtain ⟨au, cu, rfl⟩ := hu.shape
      obtain ⟨-, lu, mu, ru⟩ := hu.row
      rw [leu] at lu ru ec
      have RU : Hid (∀ i, i < c.attrs.length → ∃ b off, au = some ⟨b, off, none⟩ ∧ b < w.heap.size ∧ ∀ j, j < 3 → w.cell? ⟨b, off + (i * 3 + j), none⟩ = (cssu.getD i [])[j]?) := ru
      have GU : Hid (All2 (ReA P w) cssu c.attrs) := hhu
      rw [ec] at q1
      have d1 : wo.cell? ⟨b1, o1 + i * 3 + 1, none⟩ = some (.string (st c.c)) := (HW.out.cell (p := ⟨b1, o1 + i * 3 + 1, none⟩) hb1).trans (q1 1 (by decide))
      have d2 : wo.cell? ⟨b1, o1 + i * 3 + 2, none⟩ = some (.slice au c.attrs.length cu) := (HW.out.cell (p := ⟨b1, o1 + i * 3 + 2, none⟩) hb1).trans (q1 2 (by decide))
      have hnu : (c.attrs.length : Int) ≤ 9223372036854775807 := by omega
      clear q1 ec ru hu hhu leu
      go_wp2
      all_goals first | (go_ret; exact ⟨_, rfl, (fun h => by cases h), HW.out⟩) | skip
      have HC : Hid (c.c.length ≤ 60 ∧ c.attrs.length ≤ 10) := ⟨by have := st_size c.c; omega, by omega⟩
      go_loopw [5] (fun v wr => ∃ k : Nat, v = .int .i64 k ∧ k ≤ c.attrs.length ∧ Below wo.heap.size wo wr ∧ (∀ j, j < k → attrL (c.attrs.getD j ⟨[], [], []⟩))) (fun v _ => (c.attrs.length - intOf v).toNat)
      case atStart => exact ⟨0, rfl, Nat.zero_le _, Below.refl _ _, fun j hj => absurd hj (Nat.not_lt_zero _)⟩
      case round =>
        obtain ⟨k, rfl, hk, hbk, hno⟩ := hrel
        have NP : Hid (∀ j, j < k → attrL (c.attrs.getD j ⟨[], [], []⟩)) := hno
        clear hno
        have HK : Hid (Below w.heap.size w wr) := bt HW.out hbk
        by_cases hlk : k < c.attrs.length
        · have hkz : (k : Int) < c.attrs.length := by omega
          obtain ⟨b2, o2, rfl, hb2, q2⟩ := RU.out k hlk
          have e2 := GU.out.at k [] ⟨[], [], []⟩ hlk
          have NY : Hid (attrL (c.attrs.getD k ⟨[], [], []⟩) → ∀ j, j < k + 1 → attrL (c.attrs.getD j ⟨[], [], []⟩)) := fun hx => idx_next NP.out hx
          generalize c.attrs.getD k ⟨[], [], []⟩ = y at q2 e2 NY
          have CL := fun W (hW : Below w.heap.size w W) => lightTestsB _ y W (ReA.keep (Stays.below hW) e2)
          obtain ⟨t1, t2, ec, k1, k2⟩ := e2
          obtain ⟨s1, d3, rfl⟩ := k1.shape
          obtain ⟨s2, d4, rfl⟩ := k2.shape
          obtain ⟨-, ly1, my1, -⟩ := k1.row
          obtain ⟨-, ly2, my2, -⟩ := k2.row
          rw [ec] at q2 CL
          simp only [List.length_map] at q2 CL ly1 ly2
          have f0 : wr.cell? ⟨b2, o2 + k * 3, none⟩ = some (.string (st y.a)) := (HK.out.cell (p := ⟨b2, o2 + k * 3, none⟩) hb2).trans (q2 0 (by decide))
          have f1 : wr.cell? ⟨b2, o2 + k * 3 + 1, none⟩ = some (.slice s1 y.ones.length d3) := (HK.out.cell (p := ⟨b2, o2 + k * 3 + 1, none⟩) hb2).trans (q2 1 (by decide))
          have f2 : wr.cell? ⟨b2, o2 + k * 3 + 2, none⟩ = some (.slice s2 y.tests.length d4) := (HK.out.cell (p := ⟨b2, o2 + k * 3 + 2, none⟩) hb2).trans (q2 2 (by decide))
          have CL1 := CL wr HK.out
          have hy1 : (y.ones.length : Int) ≤ 9223372036854775807 := by omega
          have hy2 : (y.tests.length : Int) ≤ 9223372036854775807 := by omega
          clear q2 ec k1 k2 CL
          go_wp2_with (go_at_call 46; refine CL1.mono ?_; rintro e w2 ⟨bb, rfl, hLL, hb2'⟩; have HLL := hLL; clear hLL; have HL2 : Hid (bb = true → _) := HLL; clear HLL CL1)
          all_goals first
            | (go_ret; exact ⟨_, rfl, (fun h => by cases h), HK.out⟩)
            | (go_ret; exact ⟨_, rfl, (fun h => by cases h), bt HK.out hb2'⟩)
            | (refine ⟨⟨k + 1, by simp, by omega, bt hbk hb2', NY.out ⟨by have := st_size y.a; omega, by omega, by omega, HL2.out (by first | assumption | exact nbf (And.right ‹_ ∧ (!bb) = false›) | exact nbf ‹(!bb) = false›)⟩⟩, ?_⟩; simp [intOf]; omega)
            | (go_roundw; case rel => exact ⟨k + 1, by simp, by omega, bt hbk hb2', NY.out ⟨by have := st_size y.a; omega, by omega, by omega, HL2.out (by first | assumption | exact nbf (And.right ‹_ ∧ (!bb) = false›) | exact nbf ‹(!bb) = false›)⟩⟩; case measure => simp [intOf]; omega)
        · have hkz : ¬ (k : Int) < c.attrs.length := by omega
          go_wp2
          go_roundw
          case rel => exact ⟨i + 1, by simp, by omega, bt hbr hbk, NX.out ⟨HC.out.1, HC.out.2, all_idx ⟨[], [], []⟩ fun j hj => NP.out j (by omega)⟩⟩
          case measure => simp [intOf]; omega
    · have hiz : ¬ (i : Int) < x.conds.length := by omega
      go_wp2
      go_loopw [6] (fun v wr => ∃ i : Nat, v = .int .i64 i ∧ i ≤ x.acts.length ∧ Below (w.alloc (.cells #[.string (st x.nm), .slice a1 x.conds.length c1, .slice a2 x.acts.length c2] 39)).heap.size (w.alloc (.cells #[.string (st x.nm), .slice a1 x.conds.length c1, .slice a2 x.acts.length c2] 39)) wr ∧ (∀ j, j < i → actL (x.acts.getD j ⟨0, [], 0, [], [], []⟩))) (fun v _ => (x.acts.length - intOf v).toNat)
      case atStart => exact ⟨0, rfl, Nat.zero_le _, hbr, fun j hj => absurd hj (Nat.not_lt_zero _)⟩
      case round =>
        obtain ⟨n, rfl, hn, hbn, hno⟩ := hrel
        have NQ : Hid (∀ j, j < n → actL (x.acts.getD j ⟨0, [], 0, [], [], []⟩)) := hno
        clear hno
        clear p0 p1 p2
        obtain ⟨wq, hwq⟩ : ∃ wq, wq = wr := ⟨_, rfl⟩
        subst hwq
        have HQ : Hid (Below w.heap.size w wq) := bt (bxn _ _) hbn
        have p0 : wq.cell? ⟨w.heap.size, 0, none⟩ = some (.string (st x.nm)) := by rw [hbn.cell (p := ⟨w.heap.size, 0, none⟩) (by simp)]; go_simp
        have p1 : wq.cell? ⟨w.heap.size, 1, none⟩ = some (.slice a1 x.conds.length c1) := by rw [hbn.cell (p := ⟨w.heap.size, 1, none⟩) (by simp)]; go_simp
        have p2 : wq.cell? ⟨w.heap.size, 2, none⟩ = some (.slice a2 x.acts.length c2) := by rw [hbn.cell (p := ⟨w.heap.size, 2, none⟩) (by simp)]; go_simp
        by_cases hltn : n < x.acts.length
        · have hnz : (n : Int) < x.acts.length := by omega
          obtain ⟨b1, o1, rfl, hb1, q1⟩ := R2.out n hltn
          have e1 := G2.out.at n [] ⟨0, [], 0, [], [], []⟩ hltn
          have NX : Hid (actL (x.acts.getD n ⟨0, [], 0, [], [], []⟩) → ∀ j, j < n + 1 → actL (x.acts.getD j ⟨0, [], 0, [], [], []⟩)) := fun hx => idx_next NQ.out hx
          generalize x.acts.getD n ⟨0, [], 0, [], [], []⟩ = c at q1 e1 NX
          obtain ⟨u, u', ec, ⟨cssu, hu, hhu⟩, ⟨cssv, hv, hhv⟩⟩ := e1
          have leu := hhu.len
          have lev := hhv.len
          obtain ⟨au, cu, rfl⟩ := hu.shape
          obtain ⟨av, cv, rfl⟩ := hv.shape
          obtain ⟨-, lu, mu, ru⟩ := hu.row
          obtain ⟨-, lv, mv, rv⟩ := hv.row
          rw [leu] at lu ru ec
          rw [lev] at lv rv ec
          have RU : Hid (∀ i, i < c.sets.length → ∃ b off, au = some ⟨b, off, none⟩ ∧ b < w.heap.size ∧ ∀ j, j < 2 → w.cell? ⟨b, off + (i * 2 + j), none⟩ = (cssu.getD i [])[j]?) := ru
          have GU : Hid (All2 (ReS P w) cssu c.sets) := hhu
          have RV : Hid (∀ i, i < c.exprs.length → ∃ b off, av = some ⟨b, off, none⟩ ∧ b < w.heap.size ∧ ∀ j, j < 1 → w.cell? ⟨b, off + (i * 1 + j), none⟩ = (cssv.getD i [])[j]?) := rv
          have GV : Hid (All2 (ReE P w) cssv c.exprs) := hhv
          rw [ec] at q1
          have d0 : wq.cell? ⟨b1, o1 + n * 6, none⟩ = some (.int .u8 c.k) := (HQ.out.cell (p := ⟨b1, o1 + n * 6, none⟩) hb1).trans (q1 0 (by decide))
          have d1 : wq.cell? ⟨b1, o1 + n * 6 + 1, none⟩ = some (.string (st c.c)) := (HQ.out.cell (p := ⟨b1, o1 + n * 6 + 1, none⟩) hb1).trans (q1 1 (by decide))
          have d2 : wq.cell? ⟨b1, o1 + n * 6 + 2, none⟩ = some (.int .i64 c.n) := (HQ.out.cell (p := ⟨b1, o1 + n * 6 + 2, none⟩) hb1).trans (q1 2 (by decide))
          have d3 : wq.cell? ⟨b1, o1 + n * 6 + 3, none⟩ = some (.string (st c.v)) := (HQ.out.cell (p := ⟨b1, o1 + n * 6 + 3, none⟩) hb1).trans (q1 3 (by decide))
          have d4 : wq.cell? ⟨b1, o1 + n * 6 + 4, none⟩ = some (.slice au c.sets.length cu) := (HQ.out.cell (p := ⟨b1, o1 + n * 6 + 4, none⟩) hb1).trans (q1 4 (by decide))
          have d5 : wq.cell? ⟨b1, o1 + n * 6 + 5, none⟩ = some (.slice av c.exprs.length cv) := (HQ.out.cell (p := ⟨b1, o1 + n * 6 + 5, none⟩) hb1).trans (q1 5 (by decide))
          have hnu : (c.sets.length : Int) ≤ 9223372036854775807 := by omega
          have hnv : (c.exprs.length : Int) ≤ 9223372036854775807 := by omega
          clear q1 ec ru hu hhu leu rv hv hhv lev
          have HA : Hid (Below w.heap.size w (wq.alloc (.cells #[.int .u8 c.k, .string (st c.c), .int .i64 c.n, .string (st c.v), .slice au c.sets.length cu, .slice av c.exprs.length cv] 54))) := bt HQ.out (bxn _ _)
          go_wp2
          all_goals first | (go_ret; exact ⟨_, rfl, (fun h => by cases h), HA.out⟩) | skip
          have HC : Hid (c.c.length ≤ 60 ∧ c.v.length ≤ 60 ∧ c.sets.length ≤ 10 ∧ c.exprs.length ≤ 12) := ⟨by have := st_size c.c; omega, by have := st_size c.v; omega, by omega, by omega⟩
          go_loopw [8] (fun v wr => ∃ k : Nat, v = .int .i64 k ∧ k ≤ c.sets.length ∧ Below (wq.alloc (.cells #[.int .u8 c.k, .string (st c.c), .int .i64 c.n, .string (st c.v), .slice au c.sets.length cu, .slice av c.exprs.length cv] 54)).heap.size (wq.alloc (.cells #[.int .u8 c.k, .string (st c.c), .int .i64 c.n, .string (st c.v), .slice au c.sets.length cu, .slice av c.exprs.length cv] 54)) wr ∧ (∀ j, j < k → setL (c.sets.getD j ⟨[], []⟩))) (fun v _ => (c.sets.length - intOf v).toNat)
          case atStart => exact ⟨0, rfl, Nat.zero_le _, Below.refl _ _, fun j hj => absurd hj (Nat.not_lt_zero _)⟩
          case round =>
            obtain ⟨k, rfl, hk, hbk, hno⟩ := hrel
            have NS : Hid (∀ j, j < k → setL (c.sets.getD j ⟨[], []⟩)) := hno
            clear hno
            obtain ⟨wp, hwp⟩ : ∃ wp, wp = wr := ⟨_, rfl⟩
            subst hwp
            have HK : Hid (Below w.heap.size w wp) := bt HA.out hbk
            have r0 : wp.cell? ⟨wq.heap.size, 0, none⟩ = some (.int .u8 c.k) := by rw [hbk.cell (p := ⟨wq.heap.size, 0, none⟩) (by simp)]; go_simp
            have r1 : wp.cell? ⟨wq.heap.size, 1, none⟩ = some (.string (st c.c)) := by rw [hbk.cell (p := ⟨wq.heap.size, 1, none⟩) (by simp)]; go_simp
            have r2 : wp.cell? ⟨wq.heap.size, 2, none⟩ = some (.int .i64 c.n) := by rw [hbk.cell (p := ⟨wq.heap.size, 2, none⟩) (by simp)]; go_simp
            have r3 : wp.cell? ⟨wq.heap.size, 3, none⟩ = some (.string (st c.v)) := by rw [hbk.cell (p := ⟨wq.heap.size, 3, none⟩) (by simp)]; go_simp
            have r4 : wp.cell? ⟨wq.heap.size, 4, none⟩ = some (.slice au c.sets.length cu) := by rw [hbk.cell (p := ⟨wq.heap.size, 4, none⟩) (by simp)]; go_simp
            have r5 : wp.cell? ⟨wq.heap.size, 5, none⟩ = some (.slice av c.exprs.length cv) := by rw [hbk.cell (p := ⟨wq.heap.size, 5, none⟩) (by simp)]; go_simp
            by_cases hlk : k < c.sets.length
            · have hkz : (k : Int) < c.sets.length := by omega
              obtain ⟨b2, o2, rfl, hb2, q2⟩ := RU.out k hlk
              have e2 := GU.out.at k [] ⟨[], []⟩ hlk
              have NY : Hid (setL (c.sets.getD k ⟨[], []⟩) → ∀ j, j < k + 1 → setL (c.sets.getD j ⟨[], []⟩)) := fun hx => idx_next NS.out hx
              generalize c.sets.getD k ⟨[], []⟩ = y at q2 e2 NY
              obtain ⟨t1, ec, k1⟩ := e2
              have CL1 := lightItemsB t1 y.e wp (k1.keep (Stays.below HK.out))
              rw [ec] at q2
              obtain ⟨s1, d8, rfl⟩ := k1.shape
              have f0 : wp.cell? ⟨b2, o2 + k * 2, none⟩ = some (.string (st y.a)) := (HK.out.cell (p := ⟨b2, o2 + k * 2, none⟩) hb2).trans (q2 0 (by decide))
              have f1 : wp.cell? ⟨b2, o2 + k * 2 + 1, none⟩ = some (.slice s1 (y.e.map clI).length d8) := (HK.out.cell (p := ⟨b2, o2 + k * 2 + 1, none⟩) hb2).trans (q2 1 (by decide))
              clear q2 ec k1
              generalize (y.e.map clI).length = ne at *
              go_wp2_with (go_at_call 47; refine CL1.mono ?_; rintro e w2 ⟨bb, rfl, hLL, hb2'⟩; have HLL := hLL; clear hLL; have HL2 : Hid (bb = true → _) := HLL; clear HLL CL1)
              all_goals first
                | (go_ret; exact ⟨_, rfl, (fun h => by cases h), HK.out⟩)
                | (go_ret; exact ⟨_, rfl, (fun h => by cases h), bt HK.out hb2'⟩)
                | (refine ⟨⟨k + 1, by simp, by omega, bt hbk hb2', NY.out ⟨by have := st_size y.a; omega, HL2.out (by first | assumption | exact nbf (And.right ‹_ ∧ (!bb) = false›) | exact nbf ‹(!bb) = false›)⟩⟩, ?_⟩; simp [intOf]; omega)
                | (go_roundw; case rel => exact ⟨k + 1, by simp, by omega, bt hbk hb2', NY.out ⟨by have := st_size y.a; omega, HL2.out (by first | assumption | exact nbf (And.right ‹_ ∧ (!bb) = false›) | exact nbf ‹(!bb) = false›)⟩⟩; case measure => simp [intOf]; omega)
            · have hkz : ¬ (k : Int) < c.sets.length := by omega
              go_wp2
              go_loopw [9] (fun v wr => ∃ k : Nat, v = .int .i64 k ∧ k ≤ c.exprs.length ∧ Below (wq.alloc (.cells #[.int .u8 c.k, .string (st c.c), .int .i64 c.n, .string (st c.v), .slice au c.sets.length cu, .slice av c.exprs.length cv] 54)).heap.size (wq.alloc (.cells #[.int .u8 c.k, .string (st c.c), .int .i64 c.n, .string (st c.v), .slice au c.sets.length cu, .slice av c.exprs.length cv] 54)) wr ∧ (∀ j, j < k → itemsL (c.exprs.getD j []))) (fun v _ => (c.exprs.length - intOf v).toNat)
              case atStart => exact ⟨0, rfl, Nat.zero_le _, hbk, fun j hj => absurd hj (Nat.not_lt_zero _)⟩
              case round =>
                obtain ⟨m, rfl, hm, hbm, hno⟩ := hrel
                have NE : Hid (∀ j, j < m → itemsL (c.exprs.getD j [])) := hno
                clear hno
                clear r0 r1 r2 r3 r4 r5
                have HM : Hid (Below w.heap.size w wr) := bt HA.out hbm
                have r0 : wr.cell? ⟨wq.heap.size, 0, none⟩ = some (.int .u8 c.k) := by rw [hbm.cell (p := ⟨wq.heap.size, 0, none⟩) (by simp)]; go_simp
                have r1 : wr.cell? ⟨wq.heap.size, 1, none⟩ = some (.string (st c.c)) := by rw [hbm.cell (p := ⟨wq.heap.size, 1, none⟩) (by simp)]; go_simp
                have r2 : wr.cell? ⟨wq.heap.size, 2, none⟩ = some (.int .i64 c.n) := by rw [hbm.cell (p := ⟨wq.heap.size, 2, none⟩) (by simp)]; go_simp
                have r3 : wr.cell? ⟨wq.heap.size, 3, none⟩ = some (.string (st c.v)) := by rw [hbm.cell (p := ⟨wq.heap.size, 3, none⟩) (by simp)]; go_simp
                have r4 : wr.cell? ⟨wq.heap.size, 4, none⟩ = some (.slice au c.sets.length cu) := by rw [hbm.cell (p := ⟨wq.heap.size, 4, none⟩) (by simp)]; go_simp
                have r5 : wr.cell? ⟨wq.heap.size, 5, none⟩ = some (.slice av c.exprs.length cv) := by rw [hbm.cell (p := ⟨wq.heap.size, 5, none⟩) (by simp)]; go_simp
                by_cases hlm : m < c.exprs.length
                · have hmz : (m : Int) < c.exprs.length := by omega
                  obtain ⟨b2, o2, rfl, hb2, q2⟩ := RV.out m hlm
                  have e2 := GV.out.at m [] [] hlm
                  have NY : Hid (itemsL (c.exprs.getD m []) → ∀ j, j < m + 1 → itemsL (c.exprs.getD j [])) := fun hx => idx_next NE.out hx
                  generalize c.exprs.getD m [] = y at q2 e2 NY
                  obtain ⟨t1, ec, k1⟩ := e2
                  have CL1 := lightItemsB t1 y wr (k1.keep (Stays.below HM.out))
                  rw [ec] at q2
                  obtain ⟨s1, d8, rfl⟩ := k1.shape
                  have f0 : wr.cell? ⟨b2, o2 + m, none⟩ = some (.slice s1 (y.map clI).length d8) := (HM.out.cell (p := ⟨b2, o2 + m, none⟩) hb2).trans (by have := q2 0 (by decide); rw [Nat.mul_one, Nat.add_zero] at this; exact this)
                  clear q2 ec k1
                  generalize (y.map clI).length = ne at *
                  go_wp2_with (go_at_call 47; refine CL1.mono ?_; rintro e w2 ⟨bb, rfl, hLL, hb2'⟩; have HLL := hLL; clear hLL; have HL2 : Hid (bb = true → _) := HLL; clear HLL CL1)
                  all_goals first
                    | (go_ret; exact ⟨_, rfl, (fun h => by cases h), bt HM.out hb2'⟩)
                    | (refine ⟨⟨m + 1, by simp, by omega, bt hbm hb2', NY.out (HL2.out (by first | assumption | exact nbf (And.right ‹_ ∧ (!bb) = false›) | exact nbf ‹(!bb) = false›))⟩, ?_⟩; simp [intOf]; omega)
                    | (go_roundw; case rel => exact ⟨m + 1, by simp, by omega, bt hbm hb2', NY.out (HL2.out (by first | assumption | exact nbf (And.right ‹_ ∧ (!bb) = false›) | exact nbf ‹(!bb) = false›))⟩; case measure => simp [intOf]; omega)
                · have hmz : ¬ (m : Int) < c.exprs.length := by omega
                  go_wp2
                  go_roundw
                  case rel => exact ⟨n + 1, by simp, by omega, bt (bt hbn (bxn _ _)) hbm, NX.out ⟨HC.out.1, HC.out.2.1, HC.out.2.2.1, HC.out.2.2.2, all_idx ⟨[], []⟩ fun j hj => NS.out j (by omega), all_idx [] fun j hj => NE.out j (by omega)⟩⟩
                  case measure => simp [intOf]; omega
        · have hnz : ¬ (n : Int) < x.acts.length := by omega
          go_wp2
          go_ret
          exact ⟨_, rfl, (fun _ => ⟨HL.out.1, HL.out.2.1, HL.out.2.2, all_idx ⟨false, [], []⟩ fun j hj => NO.out j (by omega), all_idx ⟨0, [], 0, [], [], []⟩ fun j hj => NQ.out j (by omega)⟩), HQ.out⟩
end Go.Proofs.YtemacdimdpnkeaaDoor
namespace Go.Proofs.YtemacdimdpnkeaaDoor
set_option maxRecDepth 20000
set_option maxRecDepth 20000
open Go.RowKit
set_option linter.unusedVariables false
set_option linter.unusedSimpArgs false
set_option maxRecDepth 20000
set_option maxHeartbeats 8000000 in
theorem lightB_any {P : Nat → Nat → Prop} (cs : List Value) (x : ProgD) (w : World) (h : ReP P w cs x) :
    Calls Tryd.prog 9 #[.agg cs.toArray] w (SomeL (progL x) w) := by
  obtain ⟨v1, v2, rfl, ⟨css1, h1, hh1⟩, ⟨css2, h2, hh2⟩⟩ := h
  have le1 := hh1.len
  have le2 := hh2.len
  obtain ⟨a1, c1, rfl⟩ := h1.shape
  obtain ⟨a2, c2, rfl⟩ := h2.shape
  obtain ⟨-, l1, m1, r1⟩ := h1.row
  obtain ⟨-, l2, m2, r2⟩ := h2.row
  rw [le1] at l1 r1 ⊢
  rw [le2] at l2 r2 ⊢
  have R1 : Hid (∀ i, i < x.cs.length → ∃ b off, a1 = some ⟨b, off, none⟩ ∧ b < w.heap.size ∧ ∀ j, j < 2 → w.cell? ⟨b, off + (i * 2 + j), none⟩ = (css1.getD i [])[j]?) := r1
  have R2 : Hid (∀ i, i < x.rs.length → ∃ b off, a2 = some ⟨b, off, none⟩ ∧ b < w.heap.size ∧ ∀ j, j < 3 → w.cell? ⟨b, off + (i * 3 + j), none⟩ = (css2.getD i [])[j]?) := r2
  have G1 : Hid (All2 (ReK P w) css1 x.cs) := hh1
  have G2 : Hid (All2 (ReR P w) css2 x.rs) := hh2
  clear r1 h1 r2 h2 hh1 hh2 le1 le2
  have hnn : (x.cs.length : Int) ≤ 9223372036854775807 := by omega
  have hnn2 : (x.rs.length : Int) ≤ 9223372036854775807 := by omega
  go_enter Tryd.func9, Tryd.ntmps9
  go_wp2
  all_goals first | (go_ret; exact ⟨_, rfl, (fun h => by cases h), bxn _ _⟩) | skip
  have HL : Hid (x.cs.length ≤ 20 ∧ x.rs.length ≤ 6) := ⟨by omega, by omega⟩
  go_loopw [3] (fun v wr => ∃ i : Nat, v = .int .i64 i ∧ i ≤ x.cs.length ∧ Below (w.alloc (.cells #[.slice a1 x.cs.length c1, .slice a2 x.rs.length c2] 34)).heap.size (w.alloc (.cells #[.slice a1 x.cs.length c1, .slice a2 x.rs.length c2] 34)) wr ∧ (∀ j, j < i → classL (x.cs.getD j ⟨[], []⟩))) (fun v _ => (x.cs.length - intOf v).toNat)
  case atStart => exact ⟨0, rfl, Nat.zero_le _, Below.refl _ _, fun j hj => absurd hj (Nat.not_lt_zero _)⟩
  case round =>
    obtain ⟨i, rfl, hi, hbr, hno⟩ := hrel
    have NO : Hid (∀ j, j < i → classL (x.cs.getD j ⟨[], []⟩)) := hno
    clear hno
    obtain ⟨wo, hwo⟩ : ∃ wo, wo = wr := ⟨_, rfl⟩
    subst hwo
    have HW : Hid (Below w.heap.size w wo) := bt (bxn _ _) hbr
    have p0 : wo.cell? ⟨w.heap.size, 0, none⟩ = some (.slice a1 x.cs.length c1) := by rw [hbr.cell (p := ⟨w.heap.size, 0, none⟩) (by simp)]; go_simp
    have p1 : wo.cell? ⟨w.heap.size, 1, none⟩ = some (.slice a2 x.rs.length c2) := by rw [hbr.cell (p := ⟨w.heap.size, 1, none⟩) (by simp)]; go_simp
    by_cases hlt : i < x.cs.length
    · have hiz : (i : Int) < x.cs.length := by omega
      obtain ⟨b1, o1, rfl, hb1, q1⟩ := R1.out i hlt
      have e1 := G1.out.at i [] ⟨[], []⟩ hlt
      have NX : Hid (classL (x.cs.getD i ⟨[], []⟩) → ∀ j, j < i + 1 → classL (x.cs.getD j ⟨[], []⟩)) := fun hx => idx_next NO.out hx
      generalize x.cs.getD i ⟨[], []⟩ = c at q1 e1 NX
      obtain ⟨u, ec, hu⟩ := e1
      obtain ⟨au, cu, rfl⟩ := hu.shape
      obtain ⟨-, lu, mu, ru⟩ := hu.row
      simp only [List.length_map] at lu ru ec
      have RU : Hid (∀ i, i < c.attrs.length → ∃ b off, au = some ⟨b, off, none⟩ ∧ b < w.heap.size ∧ ∀ j, j < 1 → w.cell? ⟨b, off + (i * 1 + j), none⟩ = ((c.attrs.map clS).getD i [])[j]?) := ru
      rw [ec] at q1
      have d0 : wo.cell? ⟨b1, o1 + i * 2, none⟩ = some (.string (st c.nm)) := (HW.out.cell (p := ⟨b1, o1 + i * 2, none⟩) hb1).trans (q1 0 (by decide))
      have d1 : wo.cell? ⟨b1, o1 + i * 2 + 1, none⟩ = some (.slice au c.attrs.length cu) := (HW.out.cell (p := ⟨b1, o1 + i * 2 + 1, none⟩) hb1).trans (q1 1 (by decide))
      have hnu : (c.attrs.length : Int) ≤ 9223372036854775807 := by omega
      clear q1 ec ru hu
      have HA : Hid (Below w.heap.size w (wo.alloc (.cells #[.string (st c.nm), .slice au c.attrs.length cu] 64))) := bt HW.out (bxn _ _)
      go_wp2
      all_goals first | (go_ret; exact ⟨_, rfl, (fun h => by cases h), HA.out⟩) | skip
      have HC : Hid (c.nm.length ≤ 60 ∧ c.attrs.length ≤ 10) := ⟨by have := st_size c.nm; omega, by omega⟩
      go_loopw [5] (fun v wr => ∃ k : Nat, v = .int .i64 k ∧ k ≤ c.attrs.length ∧ Below (wo.alloc (.cells #[.string (st c.nm), .slice au c.attrs.length cu] 64)).heap.size (wo.alloc (.cells #[.string (st c.nm), .slice au c.attrs.length cu] 64)) wr ∧ (∀ j, j < k → (c.attrs.getD j []).length ≤ 60)) (fun v _ => (c.attrs.length - intOf v).toNat)
      case atStart => exact ⟨0, rfl, Nat.zero_le _, Below.refl _ _, fun j hj => absurd hj (Nat.not_lt_zero _)⟩
      case round =>
        obtain ⟨k, rfl, hk, hbk, hno⟩ := hrel
        have NP : Hid (∀ j, j < k → (c.attrs.getD j []).length ≤ 60) := hno
        clear hno
        have HK : Hid (Below w.heap.size w wr) := bt HA.out hbk
        have r0 : wr.cell? ⟨wo.heap.size, 0, none⟩ = some (.string (st c.nm)) := by rw [hbk.cell (p := ⟨wo.heap.size, 0, none⟩) (by simp)]; go_simp
        have r1 : wr.cell? ⟨wo.heap.size, 1, none⟩ = some (.slice au c.attrs.length cu) := by rw [hbk.cell (p := ⟨wo.heap.size, 1, none⟩) (by simp)]; go_simp
        by_cases hlk : k < c.attrs.length
        · have hkz : (k : Int) < c.attrs.length := by omega
          obtain ⟨b2, o2, rfl, hb2, q2⟩ := RU.out k hlk
          have f0 : wr.cell? ⟨b2, o2 + k, none⟩ = some (.string (st (c.attrs.getD k []))) := (HK.out.cell (p := ⟨b2, o2 + k, none⟩) hb2).trans (by have := q2 0 (by decide); rw [Nat.mul_one, Nat.add_zero] at this; rw [this]; simp [List.getD, hlk, clS])
          clear q2
          have NY : Hid ((c.attrs.getD k []).length ≤ 60 → ∀ j, j < k + 1 → (c.attrs.getD j []).length ≤ 60) := fun hx => idx_next (p := fun y : Str => y.length ≤ 60) NP.out hx
          generalize c.attrs.getD k [] = y at f0 NY
          go_wp2
          all_goals first
            | (go_ret; exact ⟨_, rfl, (fun h => by cases h), HK.out⟩)
            | (refine ⟨⟨k + 1, by simp, by omega, hbk, NY.out (by have := st_size y; omega)⟩, ?_⟩; simp [intOf]; omega)
            | (go_roundw; case rel => exact ⟨k + 1, by simp, by omega, hbk, NY.out (by have := st_size y; omega)⟩; case measure => simp [intOf]; omega)
        · have hkz : ¬ (k : Int) < c.attrs.length := by omega
          go_wp2
          go_roundw
          case rel => exact ⟨i + 1, by simp, by omega, bt (bt hbr (bxn _ _)) hbk, NX.out ⟨HC.out.1, HC.out.2, all_idx (p := fun y : Str => y.length ≤ 60) [] fun j hj => NP.out j (by omega)⟩⟩
          case measure => simp [intOf]; omega
    · have hiz : ¬ (i : Int) < x.cs.length := by omega
      go_wp2
      go_loopw [6] (fun v wr => ∃ i : Nat, v = .int .i64 i ∧ i ≤ x.rs.length ∧ Below (w.alloc (.cells #[.slice a1 x.cs.length c1, .slice a2 x.rs.length c2] 34)).heap.size (w.alloc (.cells #[.slice a1 x.cs.length c1, .slice a2 x.rs.length c2] 34)) wr ∧ (∀ j, j < i → ruleL (x.rs.getD j ⟨[], [], []⟩))) (fun v _ => (x.rs.length - intOf v).toNat)
      case atStart => exact ⟨0, rfl, Nat.zero_le _, hbr, fun j hj => absurd hj (Nat.not_lt_zero _)⟩
      case round =>
        obtain ⟨n, rfl, hn, hbn, hno⟩ := hrel
        have NQ : Hid (∀ j, j < n → ruleL (x.rs.getD j ⟨[], [], []⟩)) := hno
        clear hno
        clear p0 p1
        obtain ⟨wq, hwq⟩ : ∃ wq, wq = wr := ⟨_, rfl⟩
        subst hwq
        have HQ : Hid (Below w.heap.size w wq) := bt (bxn _ _) hbn
        have p0 : wq.cell? ⟨w.heap.size, 0, none⟩ = some (.slice a1 x.cs.length c1) := by rw [hbn.cell (p := ⟨w.heap.size, 0, none⟩) (by simp)]; go_simp
        have p1 : wq.cell? ⟨w.heap.size, 1, none⟩ = some (.slice a2 x.rs.length c2) := by rw [hbn.cell (p := ⟨w.heap.size, 1, none⟩) (by simp)]; go_simp
        by_cases hltn : n < x.rs.length
        · have hnz : (n : Int) < x.rs.length := by omega
          obtain ⟨b1, o1, rfl, hb1, q1⟩ := R2.out n hltn
          have e1 := G2.out.at n [] ⟨[], [], []⟩ hltn
          have NX : Hid (ruleL (x.rs.getD n ⟨[], [], []⟩) → ∀ j, j < n + 1 → ruleL (x.rs.getD j ⟨[], [], []⟩)) := fun hx => idx_next NQ.out hx
          generalize x.rs.getD n ⟨[], [], []⟩ = c at q1 e1 NX
          have CL1 := lightRuleB _ c wq (ReR.keep (Stays.below HQ.out) e1)
          obtain ⟨u, u', ec, ⟨cssu, hu, -⟩, ⟨cssv, hv, -⟩⟩ := e1
          obtain ⟨au, cu, rfl⟩ := hu.shape
          obtain ⟨av, cv, rfl⟩ := hv.shape
          rw [ec] at q1 CL1
          have d0 : wq.cell? ⟨b1, o1 + n * 3, none⟩ = some (.string (st c.nm)) := (HQ.out.cell (p := ⟨b1, o1 + n * 3, none⟩) hb1).trans (q1 0 (by decide))
          have d1 : wq.cell? ⟨b1, o1 + n * 3 + 1, none⟩ = some (.slice au cssu.length cu) := (HQ.out.cell (p := ⟨b1, o1 + n * 3 + 1, none⟩) hb1).trans (q1 1 (by decide))
          have d2 : wq.cell? ⟨b1, o1 + n * 3 + 2, none⟩ = some (.slice av cssv.length cv) := (HQ.out.cell (p := ⟨b1, o1 + n * 3 + 2, none⟩) hb1).trans (q1 2 (by decide))
          clear q1 ec hu hv
          generalize cssu.length = nu at *
          generalize cssv.length = nv at *
          go_wp2_with (go_at_call 25; refine CL1.mono ?_; rintro e w2 ⟨bb, rfl, hLL, hb2'⟩; have HL2 : Hid (bb = true → _) := hLL; clear hLL CL1)
          all_goals first
            | (go_ret; exact ⟨_, rfl, (fun h => by cases h), bt HQ.out hb2'⟩)
            | (refine ⟨⟨n + 1, by simp, by omega, bt hbn hb2', NX.out (HL2.out (by first | assumption | exact nbf (And.right ‹_ ∧ (!bb) = false›) | exact nbf ‹(!bb) = false›))⟩, ?_⟩; simp [intOf]; omega)
            | (go_roundw; case rel => exact ⟨n + 1, by simp, by omega, bt hbn hb2', NX.out (HL2.out (by first | assumption | exact nbf (And.right ‹_ ∧ (!bb) = false›) | exact nbf ‹(!bb) = false›))⟩; case measure => simp [intOf]; omega)
        · have hnz : ¬ (n : Int) < x.rs.length := by omega
          go_wp2
          go_ret
          exact ⟨_, rfl, (fun _ => ⟨HL.out.1, HL.out.2, all_idx ⟨[], []⟩ fun j hj => NO.out j (by omega), all_idx ⟨[], [], []⟩ fun j hj => NQ.out j (by omega)⟩), HQ.out⟩
end Go.Proofs.YtemacdimdpnkeaaDoor
