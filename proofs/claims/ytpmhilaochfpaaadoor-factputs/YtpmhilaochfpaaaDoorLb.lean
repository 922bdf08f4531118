/- The library's calls (a text's UTF-8, a number's digits, digits as a number), by the shelf's contracts; what the library's variables hold. -/
import Derived.Test.YtpmhilaochfpaaaDoorShelf
import Derived.Test.YtpmhilaochfpaaaDoorRows
import Derived.Test.YtpmhilaochfpaaaDoorWd
import Derived.Test.YtpmhilaochfpaaaDoorNb
namespace Go.Proofs.YtpmhilaochfpaaaDoor
set_option maxRecDepth 20000
set_option maxRecDepth 20000
set_option maxRecDepth 20000
set_option maxRecDepth 20000
set_option maxRecDepth 20000
open Go.RowKit
set_option linter.unusedVariables false
set_option maxRecDepth 20000

/-- A value of an interface's type. -/
def IsIf (v : Value) : Prop := v = .nilIface ∨ ∃ te pe, v = .iface te pe
/-- The library's variables lie as they were laid. -/
structure Vars (w : World) : Prop where
  tabs : Lib.Utf8Tabs 0 1 w
theorem cell_lt {w : World} {a : Addr} {v : Value} (hc : w.cell? a = some v) : a.block < w.heap.size := by
  rcases Nat.lt_or_ge a.block w.heap.size with h' | h'
  · exact h'
  · simp [World.cell?, Array.getElem?_eq_none h'] at hc
theorem tab_below {w w' : World} {n : String} {k : IntKind} {zs : List Int} (h : Lib.TabIs Tryd.prog w n k zs) (hb : Below w.heap.size w w') : Lib.TabIs Tryd.prog w' n k zs := by
  unfold Lib.TabIs World.var? at *
  cases hg : Tryd.prog.globalNamed n with
  | none => rw [hg] at h; simp at h
  | some g =>
    rw [hg] at h
    simp only [Option.bind_some] at h ⊢
    have hlt : g < w.heap.size := by
      rcases Nat.lt_or_ge g w.heap.size with h' | h'
      · exact h'
      · simp [Array.getElem?_eq_none h'] at h
    rw [hb.block g hlt]; exact h
theorem Vars.below {w w' : World} (h : Vars w) (hb : Below w.heap.size w w') : Vars w' := by
  exact ⟨Utf8Tabs_below h.tabs hb⟩
theorem valid_any (s : ByteArray) (w : World) (hs : s.size ≤ 1000000) (hT : Vars w) :
    Calls Tryd.prog 66 #[.string s] w fun e w' => e = .returned (.bool (Lib.validD s.data.toList)) ∧ Below w.heap.size w w' :=
  Any.utf8_ValidString Tryd.laysValid s w (by omega) hT.tabs
theorem below_gr {w : World} (k : Nat) (os : Array Obj) : Below w.heap.size w (Sort.grow (w.drewN k) os) :=
  ⟨rfl, rfl, rfl, by show w.heap.size ≤ (w.heap ++ os).size; rw [Array.size_append]; omega, fun j hj => by show (w.heap ++ os)[j]? = w.heap[j]?; exact Array.getElem?_append_left hj⟩
end Go.Proofs.YtpmhilaochfpaaaDoor
