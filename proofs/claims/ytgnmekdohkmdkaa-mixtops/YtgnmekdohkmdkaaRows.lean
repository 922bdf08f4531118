/-
  No cell of these rows narrows 'for every input' (looked for: loops, veiled, ifaces, maps, wideKeys, modest, calm, conditions, laid).
  DERIVED. THE GIVEN ROWS OF THIS SEAT. 3 by the template 'for every input the law returns true; each argument reads behind the call as it read before'; 0 by the template 'total and deterministic' (their statements: YtgnmekdohkmdkaaTotals.lean).
  GIVEN WITH THE SEED: the statements are not yours to turn. If you find one false, say at which input.
  Laid BY PROGRAM, IN A SANDBOX (cutbox-rows.mjs): the forced cells as the released guide's own fill.sh prints them over the translation 8bcd476d2bb4faa1… (all of the seat's roots in one cut). By AI agents, Wed Nov 11 2026. No macro, syntax, notation, axiom, sorry.
-/
import Derived.Test.YtgnmekdohkmdkaaChecked
import GoSem.Claim
import GoSem.ClaimJoined
import GoSem.ClaimMapViews
import Derived.JoinedTies
import Derived.KernelRfl
namespace Go.Proofs.Ytgnmekdohkmdkaa
/- THE CELL 'sum', in the pinned program and in every row, IS THE sha256 OF THE DUMP (.gsa) THAT YtgnmekdohkmdkaaProg.lean LOADS. Nothing in Lean hashes anything: it is a label: what it is worth is what the hold of that sum in a sandbox is worth. -/
noncomputable def Try.pinned : Pinned := { name := "ytgnmekdohkmdkaa", sum := "8bcd476d2bb4faa1fc00480781d49b5873e9c0ab750bab0e161d81d44cd0fb76", checked := Try.checked }
namespace Rows
def none {H : Type} : Left H := { results := [], args := [] }

/-- 'intarsialaw09.MixOfs': WHATEVER THE INPUT: true; the input reads as it did. -/
def mixOfsSpec : ChangeSpec := { name := "mixOfs", fn := fun _ => fun
  | [d] => { results := [.lit (.bool true)], args := [d] }
  | _ => none }
def mixOfsRow : OpenClaim := { program := "ytgnmekdohkmdkaa", sum := "8bcd476d2bb4faa1fc00480781d49b5873e9c0ab750bab0e161d81d44cd0fb76", func := "intarsia/intarsialaw09.MixOfs", spec := "mixOfs", apart := false }
def MixOfsSaid : Prop := mixOfsRow.holds Try.pinned (OpenSpec.ofChange mixOfsSpec)

/-- ITS FALSE NEIGHBOUR: 'it returns false'. Refute it at one input. -/
def mixOfsWrong : ChangeSpec := { name := "mixOfs", fn := fun _ => fun
  | [d] => { results := [.lit (.bool false)], args := [d] }
  | _ => none }
def MixOfsWrongFalsely : Prop := mixOfsRow.holds Try.pinned (OpenSpec.ofChange mixOfsWrong)

/-- 'intarsialaw09.MixTops': WHATEVER THE INPUT: true; the input reads as it did. -/
def mixTopsSpec : ChangeSpec := { name := "mixTops", fn := fun _ => fun
  | [d1, d2, d3] => { results := [.lit (.bool true)], args := [d1, d2, d3] }
  | _ => none }
def mixTopsRow : OpenClaim := { program := "ytgnmekdohkmdkaa", sum := "8bcd476d2bb4faa1fc00480781d49b5873e9c0ab750bab0e161d81d44cd0fb76", func := "intarsia/intarsialaw09.MixTops", spec := "mixTops", apart := false }
def MixTopsSaid : Prop := mixTopsRow.holds Try.pinned (OpenSpec.ofChange mixTopsSpec)

/-- ITS FALSE NEIGHBOUR: 'it returns false'. Refute it at one input. -/
def mixTopsWrong : ChangeSpec := { name := "mixTops", fn := fun _ => fun
  | [d1, d2, d3] => { results := [.lit (.bool false)], args := [d1, d2, d3] }
  | _ => none }
def MixTopsWrongFalsely : Prop := mixTopsRow.holds Try.pinned (OpenSpec.ofChange mixTopsWrong)

/-- 'intarsialaw09.MixDeeper': WHATEVER THE INPUT: true; the input reads as it did. -/
def mixDeeperSpec : ChangeSpec := { name := "mixDeeper", fn := fun _ => fun
  | [d1, d2] => { results := [.lit (.bool true)], args := [d1, d2] }
  | _ => none }
def mixDeeperRow : OpenClaim := { program := "ytgnmekdohkmdkaa", sum := "8bcd476d2bb4faa1fc00480781d49b5873e9c0ab750bab0e161d81d44cd0fb76", func := "intarsia/intarsialaw09.MixDeeper", spec := "mixDeeper", apart := false }
def MixDeeperSaid : Prop := mixDeeperRow.holds Try.pinned (OpenSpec.ofChange mixDeeperSpec)

/-- ITS FALSE NEIGHBOUR: 'it returns false'. Refute it at one input. -/
def mixDeeperWrong : ChangeSpec := { name := "mixDeeper", fn := fun _ => fun
  | [d1, d2] => { results := [.lit (.bool false)], args := [d1, d2] }
  | _ => none }
def MixDeeperWrongFalsely : Prop := mixDeeperRow.holds Try.pinned (OpenSpec.ofChange mixDeeperWrong)

/- THE SECOND FORM. 'bulk': how many values and letters a reading holds, each counted each time it is reached (what is shared counts as often as it is met; a slice's spare places count too). A statement '..UptoSaid' is the law's where the arguments, and the package variables that the reading takes, are together of bulk at most 1048576: NARROWER than '..Said'. Prove '..Said' where nothing that the law and all that it calls make is longer than what came in: it says more and counts as full. Else prove '..UptoSaid'. A law counts once. -/
mutual
def uptoBulk {H : Type} : DataW H → Nat
  | .lit (.string bytes) => bytes.length + 1
  | .lit _ => 1
  | .nil => 1
  | .ptr d => uptoBulk d + 1
  | .slice elems spare => uptoBulkAll elems + uptoBulkAll spare + 1
  | .agg parts => uptoBulkAll parts + 1
  | .iface _ d => uptoBulk d + 1
  | .map entries => uptoBulkEntries entries + 1
  | .held _ => 1
def uptoBulkAll {H : Type} : List (DataW H) → Nat
  | [] => 0
  | d :: r => uptoBulk d + uptoBulkAll r
def uptoBulkEntries {H : Type} : List (Lit × DataW H) → Nat
  | [] => 0
  | x :: r => uptoBulkEntry x + uptoBulkEntries r
def uptoBulkEntry {H : Type} : Lit × DataW H → Nat
  | (.string bytes, d) => bytes.length + uptoBulk d + 1
  | (_, d) => uptoBulk d + 1
 end
def uptoSmall : (H : Type) → List (DataW H) → Bool := fun _ ds => decide (uptoBulkAll ds ≤ 1048576)
def OpenSpec.upto (s : _root_.Go.ChangeSpec) : _root_.Go.OpenSpec := { _root_.Go.OpenSpec.ofChange s with cond := some uptoSmall }

/-- 'intarsialaw09.MixOfs', WHERE WHAT IT READS IS OF BULK AT MOST 1048576: true; the input reads as it did. -/
def mixOfsUptoRow : OpenClaim := { program := "ytgnmekdohkmdkaa", sum := "8bcd476d2bb4faa1fc00480781d49b5873e9c0ab750bab0e161d81d44cd0fb76", func := "intarsia/intarsialaw09.MixOfs", spec := "mixOfs", apart := false, narrowed := true }
def MixOfsUptoSaid : Prop := mixOfsUptoRow.holds Try.pinned (OpenSpec.upto mixOfsSpec)

/-- 'intarsialaw09.MixTops', WHERE WHAT IT READS IS OF BULK AT MOST 1048576: true; the input reads as it did. -/
def mixTopsUptoRow : OpenClaim := { program := "ytgnmekdohkmdkaa", sum := "8bcd476d2bb4faa1fc00480781d49b5873e9c0ab750bab0e161d81d44cd0fb76", func := "intarsia/intarsialaw09.MixTops", spec := "mixTops", apart := false, narrowed := true }
def MixTopsUptoSaid : Prop := mixTopsUptoRow.holds Try.pinned (OpenSpec.upto mixTopsSpec)

/-- 'intarsialaw09.MixDeeper', WHERE WHAT IT READS IS OF BULK AT MOST 1048576: true; the input reads as it did. -/
def mixDeeperUptoRow : OpenClaim := { program := "ytgnmekdohkmdkaa", sum := "8bcd476d2bb4faa1fc00480781d49b5873e9c0ab750bab0e161d81d44cd0fb76", func := "intarsia/intarsialaw09.MixDeeper", spec := "mixDeeper", apart := false, narrowed := true }
def MixDeeperUptoSaid : Prop := mixDeeperUptoRow.holds Try.pinned (OpenSpec.upto mixDeeperSpec)

end Rows
end Go.Proofs.Ytgnmekdohkmdkaa
