import Derived.Test.YtemacdimdpnkeaaGreatDoorB8
import Derived.Test.YtemacdimdpnkeaaGreatDoorCards
import Derived.Test.YtemacdimdpnkeaaGreatDoorTie
import Derived.Lib.LaidU8T
import Derived.Lib.LaidIn
import Derived.Stop.LaidErr
import Derived.Deep.Slices
import Derived.ChangeSlices
import Derived.OpenShut
import Derived.ProofKit
namespace Go.Proofs.YtemacdimdpnkeaaGreatDoor
open Go.ChangeShapes Go.WideShapes Go.ChangeAt Go.RowKit Go.Shelf
set_option linter.unusedVariables false
set_option maxRecDepth 100000
theorem cv9 : Tryz.prog.cellsOf 9 = 1 := by kernel_rfl
def laids : List (String × DataW Unit) := Rows.showBackRow.laid
theorem ePow : (Rows.laid_internal_strconv_uint64pow10 : DataW Unit) = Lib.tabData .u64 Lib.pow10Tab := by kernel_rfl
theorem eFirst : Rows.laid_unicode_utf8_first = Lib.firstData := by kernel_rfl
theorem eAcc : (Rows.laid_unicode_utf8_acceptRanges : DataW Unit) = Lib.acceptData := by kernel_rfl
def nSyn : String := (laids.map (·.1)).getD 5 ""
def nRng : String := (laids.map (·.1)).getD 4 ""
theorem gSyn : Tryz.prog.globalNamed nSyn = some 3 := by kernel_rfl
theorem gRng : Tryz.prog.globalNamed nRng = some 4 := by kernel_rfl
theorem gPow : Tryz.prog.globalNamed powN = some 2 := by kernel_rfl
theorem tSyn : (Tryz.prog.globals[3]?).map (·.type) = some 85 := by kernel_rfl
theorem tRng : (Tryz.prog.globals[4]?).map (·.type) = some 85 := by kernel_rfl
theorem tPow : (Tryz.prog.globals[2]?).map (·.type) = some 188 := by kernel_rfl
def ifN : DataW Unit → String
  | .iface n _ => n
  | _ => ""
def nmE : String := ifN Rows.laid_strconv_ErrRange
theorem row207 (u : TypeId) (h : Tryz.prog.typeName? 3 u = some nmE) : u = 207 :=
  typeName_ptr_named (nm := "errors.errorString") (by kernel_rfl) (by kernel_rfl) (by decide) u (h.trans (congrArg some (by decide)))
theorem c209 : Tryz.prog.cellsOf 209 = 1 := by kernel_rfl
theorem c188 : Tryz.prog.cellsOf 188 = 20 := by kernel_rfl
theorem c173 : Tryz.prog.cellsOf 173 = 1 := by kernel_rfl
theorem vars_of {W : World} (hL : laidMet Tryz.prog laids W) : Vars W := by
  have h3 : laidMet Tryz.prog ((powN, Lib.tabData .u64 Lib.pow10Tab) :: (laids.drop 3)) W := by rw [← ePow]; exact hL.tail.tail
  have hr := hL.tail.tail.tail.tail
  obtain ⟨a0, s0, hv0, -, -, -⟩ := laid_sentinel (n := nRng) hr gRng tRng Tryz.underlying85 row207 Tryz.underlying207 Tryz.underlying209 rfl rfl Tryz.underlying9 c209 cv9
  obtain ⟨a1, s1, hv1, -, -, -⟩ := laid_sentinel (n := nSyn) hr.tail gSyn tSyn Tryz.underlying85 row207 Tryz.underlying207 Tryz.underlying209 rfl rfl Tryz.underlying9 c209 cv9
  refine ⟨?_, ?_, ?_, ?_⟩
  · refine utf8Tabs_of_readsT (U8Types.of196 Tryz.laysValid) ⟨by kernel_rfl, by kernel_rfl, by kernel_rfl, by kernel_rfl, by kernel_rfl, by kernel_rfl, by kernel_rfl⟩ ?_ ?_
    · rw [← eFirst]; exact Lib.laidMet.reads hL (.tail _ (.tail _ (.tail _ (.tail _ (.tail _ (.tail _ (.head _)))))))
    · rw [← eAcc]; exact Lib.laidMet.reads hL (.tail _ (.tail _ (.tail _ (.head _))))
  · exact ⟨_, by have h0 := World.var?_cell gSyn hv1 0; simpa using h0, .inr ⟨_, _, rfl⟩⟩
  · exact ⟨_, by have h0 := World.var?_cell gRng hv0 0; simpa using h0, .inr ⟨_, _, rfl⟩⟩
  · exact Lib.tabIs_of_head gPow tPow Tryz.underlying188 Tryz.underlying173 c173 c188 h3

def synS : ByteArray := { data := #[105, 110, 118, 97, 108, 105, 100, 32, 115, 121, 110, 116, 97, 120] }
def rngS : ByteArray := { data := #[118, 97, 108, 117, 101, 32, 111, 117, 116, 32, 111, 102, 32, 114, 97, 110, 103, 101] }
noncomputable def low : Nat := (World.holding Tryz.prog default ⟨#[], #[], []⟩).heap.size
def litOf : DataW Unit → Value
  | .lit (.int k z) => .int k z
  | _ => undef
def partsOf : DataW Unit → List (DataW Unit)
  | .agg l => l
  | _ => []
def tabOf (d : DataW Unit) : Array Value := ((partsOf d).map litOf).toArray
def putAt (h : Array Obj) (g : Nat) (cs : Array Value) : Array Obj := h.modify g fun
  | .cells _ t frozen => .cells cs t frozen
  | o => o
noncomputable def laidWorld (os : Os) : World :=
  let w0 := World.holding Tryz.prog os ⟨#[.cells #[.string synS] 209, .cells #[.string rngS] 209], #[], []⟩
  let h1 := putAt w0.heap 0 (Lib.firstTab.map fun z => Value.int .u8 z).toArray
  let h2 := putAt h1 1 ((List.range 16).flatMap fun i => [Value.int .u8 (Lib.accLo i), Value.int .u8 (Lib.accHi i)]).toArray
  let h3 := putAt h2 3 #[.iface 207 (.pointer (some ⟨low, 0, none⟩))]
  let h4 := putAt h3 4 #[.iface 207 (.pointer (some ⟨low + 1, 0, none⟩))]
  let h5 := putAt h4 2 (tabOf Rows.laid_internal_strconv_uint64pow10)
  let h6 := putAt h5 5 (tabOf Rows.laid_math_bits_deBruijn32tab)
  let h7 := putAt h6 6 (tabOf Rows.laid_math_bits_deBruijn64tab)
  { w0 with heap := h7 }
theorem laidWorld_met (os : Os) (args : Array Value) : laidMet Tryz.prog laids ((laidWorld os).forCall (fun _ _ => 0) ⟨#[], args, []⟩).memory :=
  (LaidIn.of_run (l := laids) [0, 1, 2, 3, 4, 5, 6, low, low + 1] 8 (by kernel_rfl) (by kernel_rfl) (by kernel_rfl) (by kernel_rfl)).met
theorem own : ownKnob Tryz.prog.godebug = none := by kernel_rfl
end Go.Proofs.YtemacdimdpnkeaaGreatDoor
