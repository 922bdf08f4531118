/- What came in: values, bytes; what the library's variables hold; one start that fits. -/
import Derived.Test.YtkpmnncemfeojaaDoorAw
import Derived.Test.YtkpmnncemfeojaaDoorCards
import Derived.Test.YtkpmnncemfeojaaDoorTie
import Derived.Lib.LaidU8T
import Derived.Lib.LaidIn
import Derived.Stop.LaidErr
import Derived.Deep.Slices
import Derived.ChangeSlices
import Derived.OpenShut
import Derived.ProofKit
namespace Go.Proofs.YtkpmnncemfeojaaDoor
open Go.ChangeShapes Go.WideShapes Go.ChangeAt Go.RowKit Go.Shelf
set_option linter.unusedVariables false
set_option maxRecDepth 100000

theorem bytes_of {w : World} {a : Option Addr} {len cap : Nat} {zs : List Int} (h : (a = none ∧ len = 0 ∧ cap = 0 ∧ zs = []) ∨ ∃ x, a = some x ∧ len ≤ cap ∧ cap ≤ maxLen ∧ zs.length = cap ∧ (∀ i, i < zs.length → w.cell? (x.add i) = some (.int .u8 (zs.getD i 0))) ∧ ∀ n ∈ zs, (Lit.int .u8 n).wf = true) :
    ∃ ys : List Int, ys.length = len ∧ BV w a ys ∧ (a = none → cap = 0) ∧ len ≤ cap ∧ cap ≤ 9223372036854775807 := by
  rcases h with ⟨rfl, rfl, rfl, rfl⟩ | ⟨x, rfl, hl, hm, hz, hcell, hwz⟩
  · exact ⟨[], rfl, ⟨AllB.nil, .inl rfl⟩, fun _ => rfl, Nat.le_refl _, by decide⟩
  · refine ⟨zs.take len, by simp; omega, ⟨?_, ?_⟩, (fun h => by cases h), hl, by unfold maxLen at hm; omega⟩
    · intro z hz'
      have := bounds_u8 (hwz z (List.mem_of_mem_take hz'))
      omega
    · by_cases h0 : len = 0
      · left; simp [h0]
      · right
        obtain ⟨b, off, spot⟩ := x
        have hc := hcell 0 (by omega)
        have hspot : spot = none := by simpa [Addr.add] using World.cell?_spot hc
        subst hspot
        refine ⟨b, off, rfl, ?_, ?_⟩
        · have := World.block_lt_of_cell? _ _ hc
          simpa [Addr.add] using this
        · intro i hi
          rw [List.length_take] at hi
          have := hcell i (by omega)
          rw [add_plain] at this
          rw [this, List.getD_eq_getElem?_getD, List.getD_eq_getElem?_getD, List.getElem?_take, if_pos (by omega)]
/-- Ints that came in. -/

theorem cv5 : Tryd.prog.cellsOf 5 = 1 := by kernel_rfl
theorem cv3 : Tryd.prog.cellsOf 3 = 1 := by kernel_rfl
theorem cv9 : Tryd.prog.cellsOf 9 = 1 := by kernel_rfl
theorem cv23 : Tryd.prog.cellsOf 23 = 3 := by kernel_rfl
theorem okWide_v {W : World} {base : Nat} {v : Value} (h : Value.okWide Tryd.prog W .any base 23 v) : ∃ cs, v = .agg cs ∧ cs.size = 3 := by
  simp only [Value.okWide, Tryd.underlying23] at h
  obtain ⟨cs, h1, h2, _⟩ := h
  exact ⟨cs, h1, by rw [h2, cv23]⟩
/-- What a value that came in may be. -/
def WfV (k n : Int) (s : ByteArray) : Prop := 0 ≤ k ∧ k ≤ 255 ∧ -9223372036854775808 ≤ n ∧ n ≤ 9223372036854775807 ∧ s.size ≤ maxLen
theorem open_v {H : Type} {enc : TypeId × Value → H} {W : World} {base : Nat} {v : Value} {d : DataW H} {ps : List MemPlace} (hv : Value.okWide Tryd.prog W .any base 23 v) (h : DataW.Trod enc Tryd.prog W 0 (fun _ => true) true 23 v d ps) : ∃ (k n : Int) (s : ByteArray), v = vv k n s ∧ WfV k n s := by
  obtain ⟨cs, rfl, hs⟩ := okWide_v hv
  obtain ⟨fuel, hf⟩ := h
  obtain ⟨v0, v1, v2, rfl⟩ : ∃ v0 v1 v2, cs = #[v0, v1, v2] := by
    obtain ⟨l⟩ := cs
    match l, hs with
    | [v0, v1, v2], _ => exact ⟨v0, v1, v2, rfl⟩
  obtain ⟨xs, k, hk, hxy, _, hxl, hx⟩ := DataW.trod_struct Tryd.underlying23 hf
  match xs, hxl with
  | [y0, y1, y2], _ =>
    have g0 := hx 0 _ rfl
    have g1 := hx 1 _ rfl
    have g2 := hx 2 _ rfl
    simp [cv5, cv3, cv9, Value.cells] at g0 g1 g2
    obtain ⟨z0, e0, _, w0⟩ := DataW.trod_int Tryd.underlying5 g0
    obtain ⟨z1, e1, _, w1⟩ := DataW.trod_int Tryd.underlying3 g1
    obtain ⟨s2, e2, _, w2⟩ := DataW.trod_string Tryd.underlying9 g2
    simp at e0 e1 e2
    have b0 := bounds_u8 w0
    have b1 := bounds_i64 w1
    exact ⟨z0, z1, s2, by rw [e0, e1, e2]; rfl, by omega, by omega, by omega, by omega, w2⟩

/-! ### The library's variables -/
def laids : List (String × DataW Unit) := Rows.valueTextsRow.laid
theorem ePow : (Rows.laid_internal_strconv_uint64pow10 : DataW Unit) = Lib.tabData .u64 Lib.pow10Tab := by kernel_rfl
theorem eFirst : Rows.laid_unicode_utf8_first = Lib.firstData := by kernel_rfl
theorem eAcc : (Rows.laid_unicode_utf8_acceptRanges : DataW Unit) = Lib.acceptData := by kernel_rfl
def nSyn : String := (laids.map (·.1)).getD 5 ""
def nRng : String := (laids.map (·.1)).getD 4 ""
theorem gSyn : Tryd.prog.globalNamed nSyn = some 2 := by kernel_rfl
theorem gRng : Tryd.prog.globalNamed nRng = some 3 := by kernel_rfl
theorem gPow : Tryd.prog.globalNamed powN = some 4 := by kernel_rfl
theorem tSyn : (Tryd.prog.globals[2]?).map (·.type) = some 70 := by kernel_rfl
theorem tRng : (Tryd.prog.globals[3]?).map (·.type) = some 70 := by kernel_rfl
theorem tPow : (Tryd.prog.globals[4]?).map (·.type) = some 117 := by kernel_rfl
def ifN : DataW Unit → String
  | .iface n _ => n
  | _ => ""
/-- The name of the type of a sentinel. -/
def nmE : String := ifN Rows.laid_strconv_ErrRange
theorem row123 (u : TypeId) (h : Tryd.prog.typeName? 3 u = some nmE) : u = 123 :=
  typeName_ptr_named (nm := "errors.errorString") (by kernel_rfl) (by kernel_rfl) (by decide) u (h.trans (congrArg some (by decide)))
theorem c125 : Tryd.prog.cellsOf 125 = 1 := by kernel_rfl
theorem c117 : Tryd.prog.cellsOf 117 = 20 := by kernel_rfl
theorem c89 : Tryd.prog.cellsOf 89 = 1 := by kernel_rfl
theorem vars_of {W : World} (hL : laidMet Tryd.prog laids W) : Vars W := by
  have h3 : laidMet Tryd.prog ((powN, Lib.tabData .u64 Lib.pow10Tab) :: (laids.drop 3)) W := by rw [← ePow]; exact hL.tail.tail
  have hr := hL.tail.tail.tail.tail
  obtain ⟨a0, s0, hv0, -, -, -⟩ := laid_sentinel (n := nRng) hr gRng tRng Tryd.underlying70 row123 Tryd.underlying123 Tryd.underlying125 rfl rfl Tryd.underlying9 c125 cv9
  obtain ⟨a1, s1, hv1, -, -, -⟩ := laid_sentinel (n := nSyn) hr.tail gSyn tSyn Tryd.underlying70 row123 Tryd.underlying123 Tryd.underlying125 rfl rfl Tryd.underlying9 c125 cv9
  refine ⟨?_, ?_, ?_, ?_⟩
  · refine utf8Tabs_of_readsT (U8Types.of196 Tryd.laysValid) ⟨by kernel_rfl, by kernel_rfl, by kernel_rfl, by kernel_rfl, by kernel_rfl, by kernel_rfl, by kernel_rfl⟩ ?_ ?_
    · rw [← eFirst]; exact Lib.laidMet.reads hL (.tail _ (.tail _ (.tail _ (.tail _ (.tail _ (.tail _ (.head _)))))))
    · rw [← eAcc]; exact Lib.laidMet.reads hL (.tail _ (.tail _ (.tail _ (.head _))))
  · exact ⟨_, by have h0 := World.var?_cell gSyn hv1 0; simpa using h0, .inr ⟨_, _, rfl⟩⟩
  · exact ⟨_, by have h0 := World.var?_cell gRng hv0 0; simpa using h0, .inr ⟨_, _, rfl⟩⟩
  · exact Lib.tabIs_of_head gPow tPow Tryd.underlying117 Tryd.underlying89 c89 c117 h3

/-! ### One start that fits -/
def synS : ByteArray := { data := #[105, 110, 118, 97, 108, 105, 100, 32, 115, 121, 110, 116, 97, 120] }
def rngS : ByteArray := { data := #[118, 97, 108, 117, 101, 32, 111, 117, 116, 32, 111, 102, 32, 114, 97, 110, 103, 101] }
noncomputable def low : Nat := (World.holding Tryd.prog default ⟨#[], #[], []⟩).heap.size
def litOf : DataW Unit → Value
  | .lit (.int k z) => .int k z
  | _ => undef
def partsOf : DataW Unit → List (DataW Unit)
  | .agg l => l
  | _ => []
def tabOf (d : DataW Unit) : Array Value := ((partsOf d).map litOf).toArray
def putAt (h : Array Obj) (g : Nat) (cs : Array Value) : Array Obj := h.modify g fun
  | .cells _ t frozen => .cells cs t frozen
  | o => o
noncomputable def laidWorld (os : Os) : World :=
  let w0 := World.holding Tryd.prog os ⟨#[.cells #[.string synS] 125, .cells #[.string rngS] 125], #[], []⟩
  let h1 := putAt w0.heap 0 (Lib.firstTab.map fun z => Value.int .u8 z).toArray
  let h2 := putAt h1 1 ((List.range 16).flatMap fun i => [Value.int .u8 (Lib.accLo i), Value.int .u8 (Lib.accHi i)]).toArray
  let h3 := putAt h2 2 #[.iface 123 (.pointer (some ⟨low, 0, none⟩))]
  let h4 := putAt h3 3 #[.iface 123 (.pointer (some ⟨low + 1, 0, none⟩))]
  let h5 := putAt h4 4 (tabOf Rows.laid_internal_strconv_uint64pow10)
  let h6 := putAt h5 5 (tabOf Rows.laid_math_bits_deBruijn32tab)
  let h7 := putAt h6 6 (tabOf Rows.laid_math_bits_deBruijn64tab)
  { w0 with heap := h7 }
theorem laidWorld_met (os : Os) (args : Array Value) : laidMet Tryd.prog laids ((laidWorld os).forCall (fun _ _ => 0) ⟨#[], args, []⟩).memory :=
  (LaidIn.of_run (l := laids) [0, 1, 2, 3, 4, 5, 6, low, low + 1] 8 (by kernel_rfl) (by kernel_rfl) (by kernel_rfl) (by kernel_rfl)).met
theorem own : ownKnob Tryd.prog.godebug = none := by kernel_rfl
theorem laidOut : laidOutB Tryd.prog = true := by kernel_rfl
end Go.Proofs.YtkpmnncemfeojaaDoor
