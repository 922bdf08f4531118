import Derived.Test.YtpmhilaochfpaaaDoorV7
import Derived.Test.YtpmhilaochfpaaaDoorV9
import Derived.Test.YtpmhilaochfpaaaDoorV10
import Derived.Deep.RegionHeld3
import Derived.Deep.LoopGhost
import Derived.Maps.OwnSet
import Derived.Maps.Range
import Derived.Maps.RangeWalk
import Derived.WalkArith
import Derived.Carry
namespace Go.Proofs.YtpmhilaochfpaaaDoor
set_option maxRecDepth 20000
set_option maxRecDepth 20000
set_option maxRecDepth 20000
set_option maxRecDepth 20000
set_option maxRecDepth 20000
open Go.RowKit
set_option linter.unusedVariables false
def clS (s : Str) : List Value := [.string (st s)]
def clV (x : VD) : List Value := [.int .u8 x.k, .int .i64 x.n, .string (st x.s)]
def clT (x : TestD) : List Value := [.int .u8 x.p, .string (st x.v), .int .u8 x.x.k, .int .i64 x.x.n, .string (st x.x.s)]
def clI (x : ItemD) : List Value := [.int .u8 x.k, .int .u8 x.x.k, .int .i64 x.x.n, .string (st x.x.s), .string (st x.v)]
def SlW (n : Nat) (w : World) (P : Nat → Prop) (v : Value) (css : List (List Value)) : Prop :=
  ∃ a cap, v = .slice a css.length cap ∧ css.length ≤ cap ∧ cap ≤ 9223372036854775807 ∧
    (css = [] ∨ ∃ b off, a = some ⟨b, off, none⟩ ∧ b < w.heap.size ∧ P b ∧ ∀ i j, i < css.length → j < n → w.cell? ⟨b, off + (i * n + j), none⟩ = (css.getD i [])[j]?)
def Stays (P : Nat → Nat → Prop) (w w' : World) : Prop := w.heap.size ≤ w'.heap.size ∧ ∀ k b, P k b → b < w.heap.size → w'.heap[b]? = w.heap[b]?
theorem Stays.below {P : Nat → Nat → Prop} {w w' : World} (h : Below w.heap.size w w') : Stays P w w' := ⟨h.size, fun k b _ hb => h.block b hb⟩
theorem SlW.keep {n k : Nat} {w w' : World} {P : Nat → Nat → Prop} {v : Value} {css : List (List Value)} (hs : Stays P w w') (h : SlW n w (P k) v css) : SlW n w' (P k) v css := by
  obtain ⟨a, cap, h1, h2, h3, h4⟩ := h
  refine ⟨a, cap, h1, h2, h3, ?_⟩
  rcases h4 with h4 | ⟨b, off, e, hb, hp, hc⟩
  · exact .inl h4
  · refine .inr ⟨b, off, e, Nat.lt_of_lt_of_le hb hs.1, hp, fun i j hi hj => ?_⟩
    rw [← hc i j hi hj]
    have := hs.2 k b hp hb
    simp [World.cell?, this]
theorem SlW.mono {n : Nat} {w : World} {P Q : Nat → Prop} {v : Value} {css : List (List Value)} (hpq : ∀ b, P b → Q b) (h : SlW n w P v css) : SlW n w Q v css := by
  obtain ⟨a, cap, h1, h2, h3, h4⟩ := h
  refine ⟨a, cap, h1, h2, h3, ?_⟩
  rcases h4 with h4 | ⟨b, off, e, hb, hp, hc⟩
  · exact .inl h4
  · exact .inr ⟨b, off, e, hb, hpq b hp, hc⟩
def All2 {α β : Type} (R : α → β → Prop) : List α → List β → Prop
  | [], [] => True
  | a :: as_, b :: bs => R a b ∧ All2 R as_ bs
  | _, _ => False
theorem All2.len {α β : Type} {R : α → β → Prop} : ∀ {as_ : List α} {bs : List β}, All2 R as_ bs → as_.length = bs.length
  | [], [], _ => rfl
  | _ :: _, _ :: _, h => by simp [All2.len h.2]
  | [], _ :: _, h => h.elim
  | _ :: _, [], h => h.elim
theorem All2.at {α β : Type} {R : α → β → Prop} : ∀ {as_ : List α} {bs : List β}, All2 R as_ bs → ∀ i (x : α) (y : β), i < bs.length → R (as_.getD i x) (bs.getD i y)
  | [], [], _, i, x, y, hi => by simp at hi
  | a :: as_, b :: bs, h, 0, x, y, _ => h.1
  | a :: as_, b :: bs, h, i + 1, x, y, hi => All2.at h.2 i x y (by simpa using hi)
  | [], _ :: _, h, _, _, _, _ => h.elim
  | _ :: _, [], h, _, _, _, _ => h.elim
theorem All2.map {α β : Type} {R S : α → β → Prop} (f : ∀ a b, R a b → S a b) : ∀ {as_ : List α} {bs : List β}, All2 R as_ bs → All2 S as_ bs
  | [], [], _ => trivial
  | _ :: _, _ :: _, h => ⟨f _ _ h.1, All2.map f h.2⟩
  | [], _ :: _, h => h.elim
  | _ :: _, [], h => h.elim
theorem All2.snoc {α β : Type} {R : α → β → Prop} {a : α} {b : β} (hr : R a b) : ∀ {as_ : List α} {bs : List β}, All2 R as_ bs → All2 R (as_ ++ [a]) (bs ++ [b])
  | [], [], _ => ⟨hr, trivial⟩
  | _ :: _, _ :: _, h => ⟨h.1, All2.snoc hr h.2⟩
  | [], _ :: _, h => h.elim
  | _ :: _, [], h => h.elim
def Row {α : Type} (n : Nat) (R : World → List Value → α → Prop) (w : World) (P : Nat → Prop) (v : Value) (xs : List α) : Prop := ∃ css, SlW n w P v css ∧ All2 (R w) css xs
variable (P : Nat → Nat → Prop)
def ReA (w : World) (cs : List Value) (x : AttrD) : Prop := ∃ v1 v2, cs = [.string (st x.a), v1, v2] ∧ SlW 3 w (P 2) v1 (x.ones.map clV) ∧ SlW 5 w (P 3) v2 (x.tests.map clT)
def ReC (w : World) (cs : List Value) (x : CondD) : Prop := ∃ v, cs = [.bool x.neg, .string (st x.c), v] ∧ Row 3 (ReA P) w (P 7) v x.attrs
def ReS (w : World) (cs : List Value) (x : SetD) : Prop := ∃ v, cs = [.string (st x.a), v] ∧ SlW 5 w (P 4) v (x.e.map clI)
def ReE (w : World) (cs : List Value) (x : List ItemD) : Prop := ∃ v, cs = [v] ∧ SlW 5 w (P 4) v (x.map clI)
def ReT (w : World) (cs : List Value) (x : ActD) : Prop := ∃ v1 v2, cs = [.int .u8 x.k, .string (st x.c), .int .i64 x.n, .string (st x.v), v1, v2] ∧ Row 2 (ReS P) w (P 5) v1 x.sets ∧ Row 1 (ReE P) w (P 6) v2 x.exprs
def ReR (w : World) (cs : List Value) (x : RuleD) : Prop := ∃ v1 v2, cs = [.string (st x.nm), v1, v2] ∧ Row 3 (ReC P) w (P 8) v1 x.conds ∧ Row 6 (ReT P) w (P 9) v2 x.acts
def ReK (w : World) (cs : List Value) (x : ClassD) : Prop := ∃ v, cs = [.string (st x.nm), v] ∧ SlW 1 w (P 1) v (x.attrs.map clS)
def ReP (w : World) (cs : List Value) (x : ProgD) : Prop := ∃ v1 v2, cs = [v1, v2] ∧ Row 2 (ReK P) w (P 10) v1 x.cs ∧ Row 3 (ReR P) w (P 11) v2 x.rs
variable {P}
theorem Row.keep {α : Type} {n k : Nat} {R : World → List Value → α → Prop} {w w' : World} {v : Value} {xs : List α} (hs : Stays P w w') (hR : ∀ cs x, R w cs x → R w' cs x) (h : Row n R w (P k) v xs) : Row n R w' (P k) v xs := by
  obtain ⟨css, h1, h2⟩ := h
  exact ⟨css, h1.keep hs, h2.map hR⟩
theorem ReA.keep {w w' : World} {cs : List Value} {x : AttrD} (hs : Stays P w w') (h : ReA P w cs x) : ReA P w' cs x := by
  obtain ⟨v1, v2, h1, h2, h3⟩ := h
  exact ⟨v1, v2, h1, h2.keep hs, h3.keep hs⟩
theorem ReC.keep {w w' : World} {cs : List Value} {x : CondD} (hs : Stays P w w') (h : ReC P w cs x) : ReC P w' cs x := by
  obtain ⟨v, h1, h2⟩ := h
  exact ⟨v, h1, h2.keep hs fun _ _ => ReA.keep hs⟩
theorem ReS.keep {w w' : World} {cs : List Value} {x : SetD} (hs : Stays P w w') (h : ReS P w cs x) : ReS P w' cs x := by
  obtain ⟨v, h1, h2⟩ := h
  exact ⟨v, h1, h2.keep hs⟩
theorem ReE.keep {w w' : World} {cs : List Value} {x : List ItemD} (hs : Stays P w w') (h : ReE P w cs x) : ReE P w' cs x := by
  obtain ⟨v, h1, h2⟩ := h
  exact ⟨v, h1, h2.keep hs⟩
theorem ReT.keep {w w' : World} {cs : List Value} {x : ActD} (hs : Stays P w w') (h : ReT P w cs x) : ReT P w' cs x := by
  obtain ⟨v1, v2, h1, h2, h3⟩ := h
  exact ⟨v1, v2, h1, h2.keep hs (fun _ _ => ReS.keep hs), h3.keep hs fun _ _ => ReE.keep hs⟩
theorem ReR.keep {w w' : World} {cs : List Value} {x : RuleD} (hs : Stays P w w') (h : ReR P w cs x) : ReR P w' cs x := by
  obtain ⟨v1, v2, h1, h2, h3⟩ := h
  exact ⟨v1, v2, h1, h2.keep hs (fun _ _ => ReC.keep hs), h3.keep hs fun _ _ => ReT.keep hs⟩
theorem ReK.keep {w w' : World} {cs : List Value} {x : ClassD} (hs : Stays P w w') (h : ReK P w cs x) : ReK P w' cs x := by
  obtain ⟨v, h1, h2⟩ := h
  exact ⟨v, h1, h2.keep hs⟩
theorem ReP.keep {w w' : World} {cs : List Value} {x : ProgD} (hs : Stays P w w') (h : ReP P w cs x) : ReP P w' cs x := by
  obtain ⟨v1, v2, h1, h2, h3⟩ := h
  exact ⟨v1, v2, h1, h2.keep hs (fun _ _ => ReK.keep hs), h3.keep hs fun _ _ => ReR.keep hs⟩
theorem SlW.row {n : Nat} {w : World} {Q : Nat → Prop} {a : Option Addr} {m cap : Nat} {css : List (List Value)} (h : SlW n w Q (.slice a m cap) css) : m = css.length ∧ css.length ≤ cap ∧ cap ≤ 9223372036854775807 ∧ (∀ i, i < css.length → ∃ b off, a = some ⟨b, off, none⟩ ∧ b < w.heap.size ∧ ∀ j, j < n → w.cell? ⟨b, off + (i * n + j), none⟩ = (css.getD i [])[j]?) := by
  obtain ⟨a', cap', h1, h2, h3, h4⟩ := h
  obtain ⟨rfl, rfl, rfl⟩ := Value.slice.inj h1
  refine ⟨rfl, h2, h3, fun i hi => ?_⟩
  rcases h4 with rfl | ⟨b, off, e, hb, _, hc⟩
  · simp at hi
  · exact ⟨b, off, e, hb, fun j hj => hc i j hi hj⟩
theorem SlW.shape {n : Nat} {w : World} {Q : Nat → Prop} {v : Value} {css : List (List Value)} (h : SlW n w Q v css) : ∃ a cap, v = .slice a css.length cap := by
  obtain ⟨a, cap, h1, _⟩ := h; exact ⟨a, cap, h1⟩
theorem getD_map {α : Type} (f : α → List Value) (l : List α) (i : Nat) (d : α) (h : i < l.length) : (l.map f).getD i [] = f (l.getD i d) := by
  rw [List.getD_eq_getElem?_getD, List.getD_eq_getElem?_getD, List.getElem?_map, List.getElem?_eq_getElem h]; rfl
theorem eq_go {α : Type} [DecidableEq α] (d : α) {l m : List α} (hl : l.length = m.length) {i : Nat} (hi : ∀ j, j < i → l.getD j d = m.getD j d) (h : i = l.length) : l = m := by
  apply List.ext_getElem? 
  intro j
  by_cases hj : j < l.length
  · have := hi j (by omega)
    rw [List.getD_eq_getElem?_getD, List.getD_eq_getElem?_getD, List.getElem?_eq_getElem hj, List.getElem?_eq_getElem (by omega)] at this
    rw [List.getElem?_eq_getElem hj, List.getElem?_eq_getElem (by omega)]
    simpa using this
  · rw [List.getElem?_eq_none (by omega), List.getElem?_eq_none (by omega)]
theorem ne_go {α : Type} (d : α) {l m : List α} {i : Nat} (hi : l.getD i d ≠ m.getD i d) : l ≠ m := fun e => hi (by rw [e])
end Go.Proofs.YtpmhilaochfpaaaDoor
namespace Go.Proofs.YtpmhilaochfpaaaDoor
set_option maxRecDepth 20000
set_option maxRecDepth 20000
open Go.RowKit
open Go.Maps (Keyed string_keyed)
set_option linter.unusedVariables false
set_option linter.unusedSimpArgs false
set_option maxRecDepth 20000
def NS (w : World) (b n : Nat) (zs : List Str) : Prop := ∃ D : DataW Unit, w.ownsMap Tryd.prog (9) unitElem b n D ∧ ∀ s, Maps.has D (.string s) = decide (s ∈ zs)
theorem NS.lt {w : World} {b n : Nat} {zs : List Str} (h : NS w b n zs) : b < w.heap.size := by obtain ⟨D, h, _⟩ := h; exact h.lt
theorem NS.mono {w : World} {b n m : Nat} {zs : List Str} (h : NS w b n zs) (hm : n ≤ m) : NS w b m zs := by obtain ⟨D, h, h2⟩ := h; exact ⟨D, h.mono hm, h2⟩
theorem NS.congr {w : World} {b n : Nat} {zs ys : List Str} (h : NS w b n zs) (hm : ∀ s, s ∈ zs ↔ s ∈ ys) : NS w b n ys := by obtain ⟨D, h, h2⟩ := h; exact ⟨D, h, fun s => (h2 s).trans (decide_eq_decide.2 (hm s))⟩
theorem NS.move {w w' : World} {b n : Nat} {zs : List Str} (h : NS w b n zs) (hb : w'.heap[b]? = w.heap[b]?) : NS w' b n zs := by
  obtain ⟨D, ⟨es, clock, h1, F, hs, rfl⟩, h2⟩ := h
  exact ⟨_, ⟨es, clock, hb.trans h1, F, hs, rfl⟩, h2⟩
theorem NS.below {w w' : World} {b n B : Nat} {zs : List Str} (h : NS w b n zs) (hB : Below B w w') (hb : b < B) : NS w' b n zs := h.move (hB.block b hb)
abbrev Fx (b : Nat) (w w' : World) : Prop := w.grownBy w' (some b)
theorem Fx.of {w w' : World} (h : Below w.heap.size w w') (b : Nat) : Fx b w w' := ⟨h.os, h.tape, h.output, h.size, fun k hk _ => h.block k hk⟩
theorem Fx.refl (w : World) (b : Nat) : Fx b w w := World.grownBy.refl w _
theorem Fx.tr {b : Nat} {w w1 w2 : World} (h : Fx b w w1) (k : Fx b w1 w2) : Fx b w w2 :=
  ⟨k.os.trans h.os, k.tape.trans h.tape, k.output.trans h.output, Nat.le_trans h.size k.size, fun i hi hn => (k.block i (Nat.lt_of_lt_of_le hi h.size) hn).trans (h.block i hi hn)⟩
theorem Fx.bl {b : Nat} {w w1 w2 : World} (h : Fx b w w1) (k : Below w1.heap.size w1 w2) : Fx b w w2 := h.tr (Fx.of k b)
theorem Fx.below {b B : Nat} {w w1 : World} (h : Fx b w w1) (hb : B ≤ b) (hw : B ≤ w.heap.size) : Below B w w1 :=
  ⟨h.os, h.tape, h.output, h.size, fun k hk => h.block k (by omega) (by simp; omega)⟩
def NV (w : World) (v : Value) (zs : List Str) : Prop := (v = .map none ∧ zs = []) ∨ ∃ b n, v = .map (some b) ∧ NS w b n zs
theorem NS.put {w w3 : World} {b n : Nat} {zs : List Str} {s : Str} {D : DataW Unit} (h : w.ownsMap Tryd.prog (9) unitElem b n D) (hh : ∀ s, Maps.has D (.string s) = decide (s ∈ zs)) (h3 : w3.ownsMap Tryd.prog (9) unitElem b (n + 1) (D.put (.string s) (.agg []))) : NS w3 b (n + 1) (zs ++ [s]) :=
  ⟨_, h3, fun x => by
    by_cases e : x = s
    · subst e
      rw [Maps.has_put_same h.isMap (by trivial)]
      simp
    · rw [Maps.has_put_other (by simpa using e), hh x]
      exact decide_eq_decide.2 ⟨fun h => List.mem_append_left _ h, fun h => (List.mem_append.1 h).elim id fun h => absurd (List.mem_singleton.1 h) e⟩⟩
end Go.Proofs.YtpmhilaochfpaaaDoor
