/- What the library's variables hold; one start that fits. -/
import Derived.Test.YtbbjhiijialfoaaDoorLb
import Derived.Test.YtbbjhiijialfoaaDoorLf
import Derived.Test.YtbbjhiijialfoaaDoorCards
import Derived.Test.YtbbjhiijialfoaaDoorTie
import Derived.Lib.LaidU8T
import Derived.Lib.LaidIn
import Derived.Stop.LaidErr
import Derived.Deep.Slices
import Derived.ChangeSlices
import Derived.OpenShut
import Derived.ProofKit
namespace Go.Proofs.YtbbjhiijialfoaaDoor
set_option maxRecDepth 20000
open Go.ChangeShapes Go.WideShapes Go.ChangeAt Go.RowKit Go.Shelf
set_option linter.unusedVariables false
set_option maxRecDepth 100000

theorem cv9 : Tryd.prog.cellsOf 9 = 1 := by kernel_rfl
/-! ### The library's variables -/
def laids : List (String × DataW Unit) := Rows.classMakesRow.laid
theorem ePow : (Rows.laid_internal_strconv_uint64pow10 : DataW Unit) = Lib.tabData .u64 Lib.pow10Tab := by kernel_rfl
theorem eFirst : Rows.laid_unicode_utf8_first = Lib.firstData := by kernel_rfl
theorem eAcc : (Rows.laid_unicode_utf8_acceptRanges : DataW Unit) = Lib.acceptData := by kernel_rfl
theorem tPow : (Tryd.prog.globals[2]?).map (·.type) = some 115 := by kernel_rfl
theorem c133 : Tryd.prog.cellsOf 115 = 20 := by kernel_rfl
theorem pow_at : Tryd.prog.globalNamed powN = some 2 := by kernel_rfl
theorem c126 : Tryd.prog.cellsOf 102 = 1 := by kernel_rfl
theorem vars_of {W : World} (hL : laidMet Tryd.prog laids W) : Vars W := by
  have h3 : laidMet Tryd.prog ((powN, Lib.tabData .u64 Lib.pow10Tab) :: (laids.drop 3)) W := by rw [← ePow]; exact hL.tail.tail
  refine ⟨?_, ?_⟩
  · refine utf8Tabs_of_readsT (U8Types.of196 Tryd.laysValid) ⟨by kernel_rfl, by kernel_rfl, by kernel_rfl, by kernel_rfl, by kernel_rfl, by kernel_rfl, by kernel_rfl⟩ ?_ ?_
    · rw [← eFirst]; exact Lib.laidMet.reads hL (.tail _ (.tail _ (.tail _ (.tail _ (.head _)))))
    · rw [← eAcc]; exact Lib.laidMet.reads hL (.tail _ (.tail _ (.tail _ (.head _))))
  · exact Lib.tabIs_of_head pow_at tPow Tryd.underlying115 Tryd.underlying102 c126 c133 h3
def litZ : DataW Unit → Int
  | .lit (.int _ z) => z
  | _ => 0
def partsZ : DataW Unit → List Int
  | .agg l => l.map litZ
  | _ => []
def db64 : List Int := partsZ Rows.laid_math_bits_deBruijn64tab
def n64 : String := (laids.map (·.1)).getD 1 ""
theorem e64 : (Rows.laid_math_bits_deBruijn64tab : DataW Unit) = Lib.tabData .u8 db64 := by kernel_rfl
theorem g64 : Tryd.prog.globalNamed n64 = some 4 := by kernel_rfl
theorem t64 : (Tryd.prog.globals[4]?).map (·.type) = some 121 := by kernel_rfl
theorem c146 : Tryd.prog.cellsOf 121 = 64 := by kernel_rfl
theorem c5 : Tryd.prog.cellsOf 5 = 1 := by kernel_rfl
/-- There are five variables at the least. -/
theorem five_of {W : World} (hL : laidMet Tryd.prog laids W) : 5 ≤ W.heap.size := by
  have h2 : laidMet Tryd.prog ((n64, Lib.tabData .u8 db64) :: (laids.drop 2)) W := by rw [← e64]; exact hL.tail
  have h := Lib.tabIs_of_head g64 t64 Tryd.underlying121 Tryd.underlying5 c5 c146 h2
  unfold Lib.TabIs World.var? at h
  rw [g64] at h
  simp only [Option.bind_some] at h
  rcases Nat.lt_or_ge 4 W.heap.size with h' | h'
  · exact h'
  · simp [Array.getElem?_eq_none h'] at h

/-! ### One start that fits -/
def litOf : DataW Unit → Value
  | .lit (.int k z) => .int k z
  | _ => undef
def partsOf : DataW Unit → List (DataW Unit)
  | .agg l => l
  | _ => []
def tabOf (d : DataW Unit) : Array Value := ((partsOf d).map litOf).toArray
def putAt (h : Array Obj) (g : Nat) (cs : Array Value) : Array Obj := h.modify g fun
  | .cells _ t frozen => .cells cs t frozen
  | o => o
noncomputable def laidWorld (os : Os) : World :=
  let w0 := World.holding Tryd.prog os ⟨#[], #[], []⟩
  let h1 := putAt w0.heap 0 (Lib.firstTab.map fun z => Value.int .u8 z).toArray
  let h2 := putAt h1 1 ((List.range 16).flatMap fun i => [Value.int .u8 (Lib.accLo i), Value.int .u8 (Lib.accHi i)]).toArray
  let h5 := putAt h2 2 (tabOf Rows.laid_internal_strconv_uint64pow10)
  let h6 := putAt h5 3 (tabOf Rows.laid_math_bits_deBruijn32tab)
  let h7 := putAt h6 4 (tabOf Rows.laid_math_bits_deBruijn64tab)
  { w0 with heap := h7 }
theorem laidWorld_met (os : Os) (args : Array Value) : laidMet Tryd.prog laids ((laidWorld os).forCall (fun _ _ => 0) ⟨#[], args, []⟩).memory :=
  (LaidIn.of_run (l := laids) [0, 1, 2, 3, 4] 8 (by kernel_rfl) (by kernel_rfl) (by kernel_rfl) (by kernel_rfl)).met
theorem own : ownKnob Tryd.prog.godebug = none := by kernel_rfl
theorem laidOut : laidOutB Tryd.prog = true := by kernel_rfl
end Go.Proofs.YtbbjhiijialfoaaDoor
