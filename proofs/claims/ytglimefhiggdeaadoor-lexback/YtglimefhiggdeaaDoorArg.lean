/- What came in: values, bytes; what the library's variables hold; one start that fits. -/
import Derived.Test.YtglimefhiggdeaaDoorAw
import Derived.Test.YtglimefhiggdeaaDoorCards
import Derived.Test.YtglimefhiggdeaaDoorTie
import Derived.Lib.LaidU8T
import Derived.Lib.LaidIn
import Derived.Stop.LaidErr
import Derived.Deep.Slices
import Derived.ChangeSlices
import Derived.OpenShut
import Derived.ProofKit
namespace Go.Proofs.YtglimefhiggdeaaDoor
open Go.ChangeShapes Go.WideShapes Go.ChangeAt Go.RowKit Go.Shelf
set_option linter.unusedVariables false
set_option maxRecDepth 100000

theorem cv5 : Tryd.prog.cellsOf 5 = 1 := by kernel_rfl
theorem cv3 : Tryd.prog.cellsOf 3 = 1 := by kernel_rfl
theorem cv9 : Tryd.prog.cellsOf 9 = 1 := by kernel_rfl
theorem cv31 : Tryd.prog.cellsOf 31 = 3 := by kernel_rfl
theorem cv33 : Tryd.prog.cellsOf 33 = 7 := by kernel_rfl
theorem okWide_t {W : World} {base : Nat} {v : Value} (h : Value.okWide Tryd.prog W .any base 33 v) : ∃ cs, v = .agg cs ∧ cs.size = 7 := by
  simp only [Value.okWide, Tryd.underlying33] at h
  obtain ⟨cs, h1, h2, _⟩ := h
  exact ⟨cs, h1, by rw [h2, cv33]⟩
/-- What a token that came in may be. -/
def WfT (k : Int) (nm : ByteArray) (p vk vn : Int) (vs : ByteArray) (a : Int) : Prop := (0 ≤ k ∧ k ≤ 255) ∧ nm.size ≤ maxLen ∧ (0 ≤ p ∧ p ≤ 255) ∧ (0 ≤ vk ∧ vk ≤ 255) ∧ vs.size ≤ maxLen
theorem open_t {H : Type} {enc : TypeId × Value → H} {W : World} {base : Nat} {v : Value} {d : DataW H} {ps : List MemPlace} (hv : Value.okWide Tryd.prog W .any base 33 v) (h : DataW.Trod enc Tryd.prog W 0 (fun _ => true) true 33 v d ps) : ∃ (k : Int) (nm : ByteArray) (p vk vn : Int) (vs : ByteArray) (a : Int), v = tq k nm p vk vn vs a ∧ WfT k nm p vk vn vs a := by
  obtain ⟨cs, rfl, hs⟩ := okWide_t hv
  obtain ⟨fuel, hf⟩ := h
  obtain ⟨v0, v1, v2, v3, v4, v5, v6, rfl⟩ : ∃ v0 v1 v2 v3 v4 v5 v6, cs = #[v0, v1, v2, v3, v4, v5, v6] := by
    obtain ⟨l⟩ := cs
    match l, hs with
    | [v0, v1, v2, v3, v4, v5, v6], _ => exact ⟨v0, v1, v2, v3, v4, v5, v6, rfl⟩
  obtain ⟨xs, k, hk, hxy, _, hxl, hx⟩ := DataW.trod_struct Tryd.underlying33 hf
  match xs, hxl with
  | [y0, y1, y2, y3, y4], _ =>
    have g0 := hx 0 _ rfl
    have g1 := hx 1 _ rfl
    have g2 := hx 2 _ rfl
    have g3 := hx 3 _ rfl
    have g4 := hx 4 _ rfl
    simp [cv5, cv3, cv9, cv31, Value.cells] at g0 g1 g2 g3 g4
    obtain ⟨z0, e0, _, w0⟩ := DataW.trod_int Tryd.underlying5 g0
    obtain ⟨s1, e1, _, w1⟩ := DataW.trod_string Tryd.underlying9 g1
    obtain ⟨z2, e2, _, w2⟩ := DataW.trod_int Tryd.underlying5 g2
    obtain ⟨z6, e6, _, w6⟩ := DataW.trod_int Tryd.underlying3 g4
    obtain ⟨us, k3, hk3, hu, _, hul, hux⟩ := DataW.trod_struct Tryd.underlying31 g3
    match us, hul with
    | [u0, u1, u2], _ =>
      have f0 := hux 0 _ rfl
      have f1 := hux 1 _ rfl
      have f2 := hux 2 _ rfl
      simp [cv5, cv3, cv9] at f0 f1 f2
      obtain ⟨z3, e3, _, w3⟩ := DataW.trod_int Tryd.underlying5 f0
      obtain ⟨z4, e4, _, w4⟩ := DataW.trod_int Tryd.underlying3 f1
      obtain ⟨s5, e5, _, w5⟩ := DataW.trod_string Tryd.underlying9 f2
      simp at e0 e1 e2 e3 e4 e5 e6
      have b0 := bounds_u8 w0
      have b2 := bounds_u8 w2
      have b3 := bounds_u8 w3
      exact ⟨z0, s1, z2, z3, z4, s5, z6, by rw [e0, e1, e2, e3, e4, e5, e6]; rfl, by omega, w1, by omega, by omega, w5⟩

/-! ### The library's variables -/
def laids : List (String × DataW Unit) := Rows.lexScansRow.laid
theorem ePow : (Rows.laid_internal_strconv_uint64pow10 : DataW Unit) = Lib.tabData .u64 Lib.pow10Tab := by kernel_rfl
theorem eFirst : Rows.laid_unicode_utf8_first = Lib.firstData := by kernel_rfl
theorem eAcc : (Rows.laid_unicode_utf8_acceptRanges : DataW Unit) = Lib.acceptData := by kernel_rfl
def nSyn : String := (laids.map (·.1)).getD 5 ""
def nRng : String := (laids.map (·.1)).getD 4 ""
theorem gSyn : Tryd.prog.globalNamed nSyn = some 3 := by kernel_rfl
theorem gRng : Tryd.prog.globalNamed nRng = some 4 := by kernel_rfl
theorem gPow : Tryd.prog.globalNamed powN = some 2 := by kernel_rfl
theorem tSyn : (Tryd.prog.globals[3]?).map (·.type) = some 67 := by kernel_rfl
theorem tRng : (Tryd.prog.globals[4]?).map (·.type) = some 67 := by kernel_rfl
theorem tPow : (Tryd.prog.globals[2]?).map (·.type) = some 87 := by kernel_rfl
def ifN : DataW Unit → String
  | .iface n _ => n
  | _ => ""
/-- The name of the type of a sentinel. -/
def nmE : String := ifN Rows.laid_strconv_ErrRange
theorem row107 (u : TypeId) (h : Tryd.prog.typeName? 3 u = some nmE) : u = 107 :=
  typeName_ptr_named (nm := "errors.errorString") (by kernel_rfl) (by kernel_rfl) (by decide) u (h.trans (congrArg some (by decide)))
theorem c109 : Tryd.prog.cellsOf 109 = 1 := by kernel_rfl
theorem c87 : Tryd.prog.cellsOf 87 = 20 := by kernel_rfl
theorem c72 : Tryd.prog.cellsOf 72 = 1 := by kernel_rfl
theorem vars_of {W : World} (hL : laidMet Tryd.prog laids W) : Vars W := by
  have h3 : laidMet Tryd.prog ((powN, Lib.tabData .u64 Lib.pow10Tab) :: (laids.drop 3)) W := by rw [← ePow]; exact hL.tail.tail
  have hr := hL.tail.tail.tail.tail
  obtain ⟨a0, s0, hv0, -, -, -⟩ := laid_sentinel (n := nRng) hr gRng tRng Tryd.underlying67 row107 Tryd.underlying107 Tryd.underlying109 rfl rfl Tryd.underlying9 c109 cv9
  obtain ⟨a1, s1, hv1, -, -, -⟩ := laid_sentinel (n := nSyn) hr.tail gSyn tSyn Tryd.underlying67 row107 Tryd.underlying107 Tryd.underlying109 rfl rfl Tryd.underlying9 c109 cv9
  refine ⟨?_, ?_, ?_, ?_⟩
  · refine utf8Tabs_of_readsT (U8Types.of196 Tryd.laysValid) ⟨by kernel_rfl, by kernel_rfl, by kernel_rfl, by kernel_rfl, by kernel_rfl, by kernel_rfl, by kernel_rfl⟩ ?_ ?_
    · rw [← eFirst]; exact Lib.laidMet.reads hL (.tail _ (.tail _ (.tail _ (.tail _ (.tail _ (.tail _ (.head _)))))))
    · rw [← eAcc]; exact Lib.laidMet.reads hL (.tail _ (.tail _ (.tail _ (.head _))))
  · exact ⟨_, by have h0 := World.var?_cell gSyn hv1 0; simpa using h0, .inr ⟨_, _, rfl⟩⟩
  · exact ⟨_, by have h0 := World.var?_cell gRng hv0 0; simpa using h0, .inr ⟨_, _, rfl⟩⟩
  · exact Lib.tabIs_of_head gPow tPow Tryd.underlying87 Tryd.underlying72 c72 c87 h3

/-! ### One start that fits -/
def synS : ByteArray := { data := #[105, 110, 118, 97, 108, 105, 100, 32, 115, 121, 110, 116, 97, 120] }
def rngS : ByteArray := { data := #[118, 97, 108, 117, 101, 32, 111, 117, 116, 32, 111, 102, 32, 114, 97, 110, 103, 101] }
noncomputable def low : Nat := (World.holding Tryd.prog default ⟨#[], #[], []⟩).heap.size
def litOf : DataW Unit → Value
  | .lit (.int k z) => .int k z
  | _ => undef
def partsOf : DataW Unit → List (DataW Unit)
  | .agg l => l
  | _ => []
def tabOf (d : DataW Unit) : Array Value := ((partsOf d).map litOf).toArray
def putAt (h : Array Obj) (g : Nat) (cs : Array Value) : Array Obj := h.modify g fun
  | .cells _ t frozen => .cells cs t frozen
  | o => o
noncomputable def laidWorld (os : Os) : World :=
  let w0 := World.holding Tryd.prog os ⟨#[.cells #[.string synS] 109, .cells #[.string rngS] 109], #[], []⟩
  let h1 := putAt w0.heap 0 (Lib.firstTab.map fun z => Value.int .u8 z).toArray
  let h2 := putAt h1 1 ((List.range 16).flatMap fun i => [Value.int .u8 (Lib.accLo i), Value.int .u8 (Lib.accHi i)]).toArray
  let h3 := putAt h2 3 #[.iface 107 (.pointer (some ⟨low, 0, none⟩))]
  let h4 := putAt h3 4 #[.iface 107 (.pointer (some ⟨low + 1, 0, none⟩))]
  let h5 := putAt h4 2 (tabOf Rows.laid_internal_strconv_uint64pow10)
  let h6 := putAt h5 5 (tabOf Rows.laid_math_bits_deBruijn32tab)
  let h7 := putAt h6 6 (tabOf Rows.laid_math_bits_deBruijn64tab)
  { w0 with heap := h7 }
theorem laidWorld_met (os : Os) (args : Array Value) : laidMet Tryd.prog laids ((laidWorld os).forCall (fun _ _ => 0) ⟨#[], args, []⟩).memory :=
  (LaidIn.of_run (l := laids) [0, 1, 2, 3, 4, 5, 6, low, low + 1] 8 (by kernel_rfl) (by kernel_rfl) (by kernel_rfl) (by kernel_rfl)).met
theorem own : ownKnob Tryd.prog.godebug = none := by kernel_rfl
theorem laidOut : laidOutB Tryd.prog = true := by kernel_rfl
end Go.Proofs.YtglimefhiggdeaaDoor
