/- Facts and sets as data, in memory; what a statement's lightness tells; base lemmas. -/
import Derived.Test.YtpmhilaochfpaaaDoorWs
import Derived.Test.YtpmhilaochfpaaaDoorSp
namespace Go.Proofs.YtpmhilaochfpaaaDoor
set_option maxRecDepth 20000
set_option maxRecDepth 20000
open Go.RowKit
set_option linter.unusedVariables false
set_option linter.unusedSimpArgs false

/-- A fact. -/
structure FactD where
  t : Int
  c : Str
  vs : List VD
deriving DecidableEq
/-- A set: an attribute's name and a value. -/
structure BoundD where
  nm : Str
  x : VD
deriving DecidableEq
def v00 : VD := ⟨0, 0, []⟩
def clB (b : BoundD) : List Value := [.string (st b.nm), .int .u8 b.x.k, .int .i64 b.x.n, .string (st b.x.s)]
/-- Some answer; if it is yes, L. -/
def SomeL (L : Prop) (w : World) (e : Ending) (w' : World) : Prop := ∃ b, e = .returned (.bool b) ∧ (b = true → L) ∧ Below w.heap.size w w'
def classL (c : ClassD) : Prop := c.nm.length ≤ 60 ∧ c.attrs.length ≤ 20 ∧ ∀ y ∈ c.attrs, y.length ≤ 60
def valL (x : VD) : Prop := x.s.length ≤ 60
def boundL (b : BoundD) : Prop := b.nm.length ≤ 60 ∧ b.x.s.length ≤ 60
def factL (f : FactD) : Prop := f.vs.length ≤ 20 ∧ f.c.length ≤ 60 ∧ ∀ x ∈ f.vs, valL x
def lightL (cs : List ClassD) (f : FactD) (bs : List BoundD) : Prop := cs.length ≤ 20 ∧ factL f ∧ bs.length ≤ 20 ∧ (∀ c ∈ cs, classL c) ∧ ∀ b ∈ bs, boundL b
theorem all_idx {α : Type} {p : α → Prop} {l : List α} (d : α) (h : ∀ j, j < l.length → p (l.getD j d)) : ∀ x ∈ l, p x := by
  intro x hx
  obtain ⟨j, hj, rfl⟩ := List.mem_iff_getElem.1 hx
  have := h j hj
  rwa [List.getD_eq_getElem?_getD, List.getElem?_eq_getElem hj] at this
theorem nbf {b : Bool} (h : (!b) = false) : b = true := by cases b with
  | true => rfl
  | false => cases h
theorem idx_next {α : Type} {p : α → Prop} {l : List α} {d : α} {i : Nat} (h : ∀ j, j < i → p (l.getD j d)) (hi : p (l.getD i d)) : ∀ j, j < i + 1 → p (l.getD j d) := fun j hj => by
  rcases Nat.lt_or_eq_of_le (Nat.le_of_lt_succ hj) with hj | rfl
  · exact h j hj
  · exact hi
theorem SlW.pin {n : Nat} {w : World} {P : Nat → Prop} {v : Value} {css : List (List Value)} (h : SlW n w P v css) : SlW n w (fun b => b < w.heap.size) v css := by
  obtain ⟨a, cap, h1, h2, h3, h4⟩ := h
  refine ⟨a, cap, h1, h2, h3, ?_⟩
  rcases h4 with h4 | ⟨b, off, e, hb, _, hc⟩
  · exact .inl h4
  · exact .inr ⟨b, off, e, hb, hb, hc⟩
theorem slK {n K : Nat} {w w' : World} {v : Value} {css : List (List Value)} (h : SlW n w (fun k => k < K) v css) (hb : Below K w w') : SlW n w' (fun k => k < K) v css := SlW.keep (P := fun _ k => k < K) (k := 0) ⟨hb.size, fun _ k hk _ => hb.block k hk⟩ h
theorem stK {K : Nat} {w w' : World} (hb : Below K w w') : Stays (fun _ k => k < K) w w' := ⟨hb.size, fun _ k hk _ => hb.block k hk⟩
/-- Classes that came in stay. -/
theorem rowK_keep {P : Nat → Nat → Prop} {Q : Nat → Prop} {v : Value} {cs : List ClassD} {w w' : World} (h : Row 2 (ReK P) w Q v cs) (hb : Below w.heap.size w w') : Row 2 (ReK P) w' Q v cs :=
  Row.keep (P := fun _ => Q) (k := 0) (Stays.below hb) (fun _ _ => ReK.keep (Stays.below hb)) h
/-- A row's element, cell by cell, of a row told by a map. -/
theorem SlW.at {α : Type} {n : Nat} {w : World} {Q : Nat → Prop} {a : Option Addr} {m cap : Nat} {f : α → List Value} {xs : List α} (h : SlW n w Q (.slice a m cap) (xs.map f)) (d : α) :
    m = xs.length ∧ xs.length ≤ cap ∧ cap ≤ 9223372036854775807 ∧ ∀ i, i < xs.length → ∃ b off, a = some ⟨b, off, none⟩ ∧ b < w.heap.size ∧ ∀ j, j < n → w.cell? ⟨b, off + (i * n + j), none⟩ = (f (xs.getD i d))[j]? := by
  obtain ⟨h1, h2, h3, h4⟩ := h.row
  simp only [List.length_map] at h1 h2 h4
  refine ⟨h1, h2, h3, fun i hi => ?_⟩
  obtain ⟨b, off, e, hb, hc⟩ := h4 i hi
  exact ⟨b, off, e, hb, fun j hj => by rw [hc j hj, getD_map f xs i d hi]⟩
theorem SlW.imp {n : Nat} {w : World} {P Q : Nat → Prop} {v : Value} {css : List (List Value)} (hpq : ∀ b, b < w.heap.size → P b → Q b) (h : SlW n w P v css) : SlW n w Q v css := by
  obtain ⟨a, cap, h1, h2, h3, h4⟩ := h
  refine ⟨a, cap, h1, h2, h3, h4.imp id ?_⟩
  rintro ⟨b, off, e, hb, hp, hc⟩
  exact ⟨b, off, e, hb, hpq b hb hp, hc⟩
theorem Row.imp {α : Type} {n : Nat} {R S : World → List Value → α → Prop} {w : World} {p q : Nat → Prop} {v : Value} {xs : List α} (hpq : ∀ b, b < w.heap.size → p b → q b) (hR : ∀ cs x, R w cs x → S w cs x) (h : Row n R w p v xs) : Row n S w q v xs := by
  obtain ⟨css, h1, h2⟩ := h
  exact ⟨css, h1.imp hpq, h2.map hR⟩
theorem ReK.imp {P Q : Nat → Nat → Prop} {w : World} {cs : List Value} {x : ClassD} (hpq : ∀ k b, b < w.heap.size → P k b → Q k b) (h : ReK P w cs x) : ReK Q w cs x := by
  obtain ⟨v, h1, h2⟩ := h
  exact ⟨v, h1, h2.imp (hpq 1)⟩
end Go.Proofs.YtpmhilaochfpaaaDoor
