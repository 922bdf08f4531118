/- Doubled, halved, set: as data; rows that are filled. -/
import Derived.Test.YtophkfbdhejmcaaCl
namespace Go.Proofs.Ytophkfbdhejmcaa
open Go.RowKit
set_option linter.unusedVariables false
set_option maxRecDepth 20000

def tabL (f : Nat → Int) (n : Nat) : List Int := (List.range n).map f
theorem tabL_len (f : Nat → Int) (n : Nat) : (tabL f n).length = n := by simp [tabL]
theorem tabL_get (f : Nat → Int) (n i : Nat) (h : i < n) : (tabL f n).getD i 0 = f i := by
  unfold tabL
  rw [List.getD_eq_getElem?_getD, List.getElem?_map, List.getElem?_range h]; rfl
theorem tabL_succ (f : Nat → Int) (n : Nat) : tabL f (n + 1) = tabL f n ++ [f n] := by simp [tabL, List.range_succ]
theorem tabL_ext {zs : List Int} {f : Nat → Int} {n : Nat} (hl : zs.length = n) (h : ∀ i, i < n → zs.getD i 0 = f i) : zs = tabL f n := by
  apply List.ext_getElem (by rw [tabL_len]; exact hl)
  intro i h1 h2
  have := h i (by omega)
  rw [List.getD_eq_getElem?_getD, List.getElem?_eq_getElem h1] at this
  rw [← tabL_get f n i (by omega), List.getD_eq_getElem?_getD, List.getElem?_eq_getElem h2] at this
  exact this
/-- A row of n ints whose first k are filled. -/
def fillL (f : Nat → Int) (n k : Nat) : List Value := (List.range n).map fun i => Value.int .i64 (if i < k then f i else 0)
theorem fillL_len (f : Nat → Int) (n k : Nat) : (fillL f n k).length = n := by simp [fillL]
theorem fillL_zero (f : Nat → Int) (n : Nat) : fillL f n 0 = List.replicate n (Value.int .i64 0) := by
  unfold fillL
  apply List.ext_getElem (by simp)
  intro i h1 h2
  simp
theorem fillL_full (f : Nat → Int) (n : Nat) : fillL f n n = (tabL f n).map (Value.int .i64) := by
  unfold fillL tabL
  rw [List.map_map]
  apply List.map_congr_left
  intro i hi
  rw [if_pos (List.mem_range.1 hi)]; rfl
theorem fillL_set (f : Nat → Int) (n k : Nat) (h : k < n) : (fillL f n k).set k (.int .i64 (f k)) = fillL f n (k + 1) := by
  unfold fillL
  apply List.ext_getElem (by simp)
  intro i h1 h2
  rw [List.getElem_set]
  simp only [List.getElem_map, List.getElem_range]
  by_cases e : k = i
  · subst e; rw [if_pos rfl, if_pos (by omega)]
  · rw [if_neg e]
    by_cases e2 : i < k
    · rw [if_pos e2, if_pos (by omega)]
    · rw [if_neg e2, if_neg (by omega)]
def dblF (zs : List Int) (i : Nat) : Int := zs.getD (i / 2) 0
def hlvF (zs : List Int) (i : Nat) : Int := zs.getD (2 * i) 0
def dblB (d : Int) (zs : List Int) : Bool := decide (chkE d zs = 0) && !decide (d = 10)
def dblD (d : Int) (zs : List Int) : Int := if dblB d zs then d + 1 else d
def dblL (d : Int) (zs : List Int) : List Int := if dblB d zs then tabL (dblF zs) (2 * zs.length) else zs
def twoB (zs : List Int) : Bool := (List.range (zs.length / 2)).all fun i => decide (zs.getD (2 * i) 0 = zs.getD (2 * i + 1) 0)
def hlvB (d : Int) (zs : List Int) : Bool := decide (chkE d zs = 0) && (!decide (d = 0) && twoB zs)
def hlvD (d : Int) (zs : List Int) : Int := if hlvB d zs then d - 1 else d
def hlvL (d : Int) (zs : List Int) : List Int := if hlvB d zs then tabL (hlvF zs) (zs.length / 2) else zs
def setB (d : Int) (zs : List Int) (p k id : Int) : Bool := decide (chkE d zs = 0) && (decide (0 ≤ k ∧ k ≤ d) && (decide (0 ≤ p ∧ p < (pwr k : Nat)) && isP id))
def setF (d : Int) (zs : List Int) (p k id : Int) (i : Nat) : Int := if ((i / pwr (d - k) : Nat) : Int) = p then id else zs.getD i 0
def setL (d : Int) (zs : List Int) (p k id : Int) : List Int := if setB d zs p k id then tabL (setF d zs p k id) zs.length else zs
theorem two_true {zs : List Int} (h : ∀ m, m < zs.length / 2 → zs.getD (2 * m) 0 = zs.getD (2 * m + 1) 0) : twoB zs = true := by
  unfold twoB
  rw [List.all_eq_true]
  intro i hi
  exact decide_eq_true (h i (List.mem_range.1 hi))
theorem two_false {zs : List Int} {m : Nat} (hm : m < zs.length / 2) (h : ¬ zs.getD (2 * m) 0 = zs.getD (2 * m + 1) 0) : twoB zs = false := by
  unfold twoB
  rw [List.all_eq_false]
  exact ⟨m, List.mem_range.2 hm, by rw [decide_eq_false h]; simp⟩
theorem two_get {zs : List Int} (h : twoB zs = true) {m : Nat} (hm : m < zs.length / 2) : zs.getD (2 * m) 0 = zs.getD (2 * m + 1) 0 := by
  unfold twoB at h
  exact of_decide_eq_true (List.all_eq_true.1 h m (List.mem_range.2 hm))
/-- A directory in memory. -/
def DV (w : World) (v : Value) (d : Int) (zs : List Int) : Prop := ∃ a c, v = dv d a zs.length c ∧ (a = none → c = 0) ∧ IV w a zs
theorem DV.below {w w' : World} {v : Value} {d : Int} {zs : List Int} (h : DV w v d zs) (hb : Below w.heap.size w w') : DV w' v d zs := by
  obtain ⟨a, c, e, h1, h2⟩ := h
  exact ⟨a, c, e, h1, h2.below hb⟩
theorem IV.set2 {w W : World} {a : Option Addr} {zs : List Int} (h : IV w a zs) (hb : Below w.heap.size w W) {g : Nat} (hg : w.heap.size ≤ g) (x y : Value) : IV ((W.setCell ⟨g, 0, none⟩ x).setCell ⟨g, 1, none⟩ y) a zs := h.below (set2_below hb hg x y)
end Go.Proofs.Ytophkfbdhejmcaa
