/- Names that were met, in a map of a call's own: asked, added. -/
import Derived.Test.YtpmhilaochfpaaaDoorRe
import Derived.Test.YtpmhilaochfpaaaDoorRn
import Derived.Maps.OwnSet
import Derived.Maps.Range
import Derived.Maps.RangeWalk
import Derived.WalkArith
import Derived.Carry
namespace Go.Proofs.YtpmhilaochfpaaaDoor
set_option maxRecDepth 20000
set_option maxRecDepth 20000
open Go.RowKit
open Go.Maps (Keyed string_keyed)
set_option linter.unusedVariables false
set_option linter.unusedSimpArgs false
set_option maxRecDepth 20000

theorem key9 : Keyed Tryd.prog (9) := string_keyed Tryd.underlying9
theorem key_s {s : Str} (h : s.length ≤ 9223372036854775807) : keyOf Tryd.prog (9) (.string (st s)) = some (.string s) := by
  have := WideMaps.keyOf_string_mk (P := Tryd.prog) (k := 9) Tryd.underlying9 (s := st s) (by rw [st_size]; unfold maxLen; omega)
  rw [this, st_list]
/-- A map of names: at most n, just these. -/
def NS (w : World) (b n : Nat) (zs : List Str) : Prop := ∃ D : DataW Unit, w.ownsMap Tryd.prog (9) unitElem b n D ∧ ∀ s, Maps.has D (.string s) = decide (s ∈ zs)
theorem NS.made (w : World) : NS (w.alloc (.map #[] 0)) w.heap.size 0 [] := ⟨.map [], World.ownsMap_made w _ _ _, fun s => by simp [Maps.has]⟩
theorem NS.lt {w : World} {b n : Nat} {zs : List Str} (h : NS w b n zs) : b < w.heap.size := by obtain ⟨D, h, _⟩ := h; exact h.lt
theorem NS.mono {w : World} {b n m : Nat} {zs : List Str} (h : NS w b n zs) (hm : n ≤ m) : NS w b m zs := by obtain ⟨D, h, h2⟩ := h; exact ⟨D, h.mono hm, h2⟩
theorem NS.congr {w : World} {b n : Nat} {zs ys : List Str} (h : NS w b n zs) (hm : ∀ s, s ∈ zs ↔ s ∈ ys) : NS w b n ys := by obtain ⟨D, h, h2⟩ := h; exact ⟨D, h, fun s => (h2 s).trans (decide_eq_decide.2 (hm s))⟩
theorem NS.move {w w' : World} {b n : Nat} {zs : List Str} (h : NS w b n zs) (hb : w'.heap[b]? = w.heap[b]?) : NS w' b n zs := by
  obtain ⟨D, ⟨es, clock, h1, F, hs, rfl⟩, h2⟩ := h
  exact ⟨_, ⟨es, clock, hb.trans h1, F, hs, rfl⟩, h2⟩
theorem NS.below {w w' : World} {b n B : Nat} {zs : List Str} (h : NS w b n zs) (hB : Below B w w') (hb : b < B) : NS w' b n zs := h.move (hB.block b hb)
theorem NS.grow {w w' : World} {b n g : Nat} {zs : List Str} (h : NS w b n zs) (hg : w.grownBy w' (some g)) (hne : b ≠ g) : NS w' b n zs := h.move (hg.block b h.lt (by simpa using hne))
/-- All stays but the block b. -/
abbrev Fx (b : Nat) (w w' : World) : Prop := w.grownBy w' (some b)
theorem Fx.of {w w' : World} (h : Below w.heap.size w w') (b : Nat) : Fx b w w' := ⟨h.os, h.tape, h.output, h.size, fun k hk _ => h.block k hk⟩
theorem Fx.refl (w : World) (b : Nat) : Fx b w w := World.grownBy.refl w _
theorem Fx.tr {b : Nat} {w w1 w2 : World} (h : Fx b w w1) (k : Fx b w1 w2) : Fx b w w2 :=
  ⟨k.os.trans h.os, k.tape.trans h.tape, k.output.trans h.output, Nat.le_trans h.size k.size, fun i hi hn => (k.block i (Nat.lt_of_lt_of_le hi h.size) hn).trans (h.block i hi hn)⟩
theorem Fx.al {b : Nat} {w w1 : World} (h : Fx b w w1) (o : Obj) : Fx b w (w1.alloc o) := h.tr (Fx.of (bxn w1 o) b)
theorem Fx.bl {b : Nat} {w w1 w2 : World} (h : Fx b w w1) (k : Below w1.heap.size w1 w2) : Fx b w w2 := h.tr (Fx.of k b)
/-- A change of a block that is new is none. -/
theorem Fx.new {b c : Nat} {w w1 w2 : World} (h : Fx b w w1) (k : Fx c w1 w2) (hc : w.heap.size ≤ c) : Fx b w w2 :=
  ⟨k.os.trans h.os, k.tape.trans h.tape, k.output.trans h.output, Nat.le_trans h.size k.size, fun i hi hn => (k.block i (Nat.lt_of_lt_of_le hi h.size) (by simp; omega)).trans (h.block i hi hn)⟩
theorem Fx.below {b B : Nat} {w w1 : World} (h : Fx b w w1) (hb : B ≤ b) (hw : B ≤ w.heap.size) : Below B w w1 :=
  ⟨h.os, h.tape, h.output, h.size, fun k hk => h.block k (by omega) (by simp; omega)⟩
theorem Fx.newb {b : Nat} {w w1 : World} (h : Fx b w w1) (hb : w.heap.size ≤ b) : Below w.heap.size w w1 := h.below hb (Nat.le_refl _)
/-- Names, or a map that is none. -/
def NV (w : World) (v : Value) (zs : List Str) : Prop := (v = .map none ∧ zs = []) ∨ ∃ b n, v = .map (some b) ∧ NS w b n zs
def addZ (zs : List Str) (s : Str) : List Str := if s ∈ zs then zs else zs ++ [s]
theorem mem_addZ (zs : List Str) (s x : Str) : x ∈ addZ zs s ↔ x ∈ zs ∨ x = s := by
  unfold addZ; split
  · rename_i h; exact ⟨.inl, fun h' => h'.elim id fun e => e ▸ h⟩
  · rw [List.mem_append, List.mem_singleton]
theorem NS.put {w w3 : World} {b n : Nat} {zs : List Str} {s : Str} {D : DataW Unit} (h : w.ownsMap Tryd.prog (9) unitElem b n D) (hh : ∀ s, Maps.has D (.string s) = decide (s ∈ zs)) (h3 : w3.ownsMap Tryd.prog (9) unitElem b (n + 1) (D.put (.string s) (.agg []))) : NS w3 b (n + 1) (zs ++ [s]) :=
  ⟨_, h3, fun x => by
    by_cases e : x = s
    · subst e
      rw [Maps.has_put_same h.isMap (by trivial)]
      simp
    · rw [Maps.has_put_other (by simpa using e), hh x]
      exact decide_eq_decide.2 ⟨fun h => List.mem_append_left _ h, fun h => (List.mem_append.1 h).elim id fun h => absurd (List.mem_singleton.1 h) e⟩⟩
end Go.Proofs.YtpmhilaochfpaaaDoor
