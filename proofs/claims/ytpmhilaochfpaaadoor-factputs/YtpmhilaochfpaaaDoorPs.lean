/- Both Parses, Number, Symbol: contracts of single calls. -/
import Derived.Test.YtpmhilaochfpaaaDoorCk
import Derived.Test.YtpmhilaochfpaaaDoorTd
namespace Go.Proofs.YtpmhilaochfpaaaDoor
set_option maxRecDepth 20000
set_option maxRecDepth 20000
set_option maxRecDepth 20000
set_option maxRecDepth 20000
set_option maxRecDepth 20000
open Go.RowKit
set_option linter.unusedVariables false
set_option linter.unusedSimpArgs false
set_option maxRecDepth 20000

theorem bcell {W w1 : World} (hb : Below W.heap.size W w1) : (∀ b o, b < W.heap.size → w1.cell? ⟨b, o, none⟩ = W.cell? ⟨b, o, none⟩) ∧ (∀ b o, b < W.heap.size → w1.frozen? ⟨b, o, none⟩ = W.frozen? ⟨b, o, none⟩) :=
  ⟨fun b o h => hb.cell (p := ⟨b, o, none⟩) h, fun b o h => hb.frozen (p := ⟨b, o, none⟩) h⟩
def es : ByteArray := ByteArray.empty
theorem set3 {B : Nat} {w w1 : World} (h : Below B w w1) (b : Nat) (hb : B ≤ b) (x y z : Value) : Below B w (((w1.setCell ⟨b, 0, none⟩ x).setCell ⟨b, 1, none⟩ y).setCell ⟨b, 2, none⟩ z) :=
  ((h.setCell hb x).setCell hb y).setCell hb z
theorem up1 {w w1 : World} {o : Obj} (hb : Below (w.alloc o).heap.size (w.alloc o) w1) : Below w.heap.size w w1 := (box1 w o).trans (hb.mono (box1 w o).size)
/-- What Parse tells: the error, and the value. -/
def pzE (l : List UInt8) : Int := if wordB l = false then 6 else if l = nil3 then 0 else if numB l = true ∧ 1099511627776 < decV l then 12 else 0
def pzV (s : ByteArray) : Value :=
  if wordB s.data.toList = false ∨ s.data.toList = nil3 then vv 0 0 ByteArray.empty
  else if numB s.data.toList = true then (if 1099511627776 < decV s.data.toList then vv 0 0 ByteArray.empty else vv 1 (nbV s.data.toList) ByteArray.empty)
  else vv 2 0 s
theorem inB_nb (l : List UInt8) : inB (nbV l) = decide (decV l ≤ 1099511627776) := by
  unfold inB nbV; rw [decide_eq_decide]; split <;> omega
/-- What parseNumber answers of a text that is a number. -/
def pnA (l : List UInt8) : Value := if 1099511627776 < decV l then .tuple #[vv 0 0 ByteArray.empty, .int .i64 12] else .tuple #[vv 1 (nbV l) ByteArray.empty, .int .i64 0]
end Go.Proofs.YtpmhilaochfpaaaDoor
