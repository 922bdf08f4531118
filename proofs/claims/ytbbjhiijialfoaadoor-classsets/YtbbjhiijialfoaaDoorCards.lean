/-
  DERIVED. GIVEN WITH THE SEED: THE CARDS: each row of YtbbjhiijialfoaaDoorRows.lean that lists a variable, with what it lists TIED to the program's text (the seventh form; the later family's looks); each row that meets fmt, with fmt's text TOLD by the authors' own Lean function (tested against real Go, not proved from fmt's source: count such statements apart). THE CARD IS WHAT COUNTS. Prove the row's statement (the work); the ties are given (YtbbjhiijialfoaaDoorTie.lean); close each card by the builder's one call (the guide's Derived/Test/ToyasCard.lean, 'card_holds'). Laid BY PROGRAM, IN A SANDBOX (cutbox-door.mjs). By AI agents, Wed Nov 11 2026. No macro, syntax, notation, axiom, sorry.
-/
import Derived.Test.YtbbjhiijialfoaaDoorRows
import GoSem.ClaimSeven
namespace Go.Proofs.YtbbjhiijialfoaaDoor
namespace Rows

/-- THE TIED CARD OF 'intarsialaw18.ClassMakes'. -/
def classMakesCard : Claim7 := { stood := { row := classMakesRow, standIns := [], harness := (true, "bb77afbdca64eea0ee0f265763a889a12c4ed3f89f30adfa7d91f8a4aa24a3e8"), looks := false }, kinds := [], alts := [], laidByText := true, laidKinds := [.data, .data, .data, .data, .pinned], laidTests := true, laidLooks := .later }
def ClassMakesCardSaid : Prop := Claim7.holds Tryd.pinned (.plain (OpenSpec.ofChange classMakesSpec)) classMakesCard

/-- THE TIED CARD OF 'intarsialaw18.ClassLooks'. -/
def classLooksCard : Claim7 := { stood := { row := classLooksRow, standIns := [], harness := (true, "bb77afbdca64eea0ee0f265763a889a12c4ed3f89f30adfa7d91f8a4aa24a3e8"), looks := false }, kinds := [], alts := [], laidByText := true, laidKinds := [.data, .data, .data, .data, .pinned], laidTests := true, laidLooks := .later }
def ClassLooksCardSaid : Prop := Claim7.holds Tryd.pinned (.plain (OpenSpec.ofChange classLooksSpec)) classLooksCard

/-- THE TIED CARD OF 'intarsialaw18.ClassSets'. -/
def classSetsCard : Claim7 := { stood := { row := classSetsRow, standIns := [], harness := (true, "bb77afbdca64eea0ee0f265763a889a12c4ed3f89f30adfa7d91f8a4aa24a3e8"), looks := false }, kinds := [], alts := [], laidByText := true, laidKinds := [.data, .data, .data, .data, .pinned], laidTests := true, laidLooks := .later }
def ClassSetsCardSaid : Prop := Claim7.holds Tryd.pinned (.plain (OpenSpec.ofChange classSetsSpec)) classSetsCard

/-- THE TIED CARD OF 'intarsialaw18.ClassSame'. -/
def classSameCard : Claim7 := { stood := { row := classSameRow, standIns := [], harness := (true, "bb77afbdca64eea0ee0f265763a889a12c4ed3f89f30adfa7d91f8a4aa24a3e8"), looks := false }, kinds := [], alts := [], laidByText := true, laidKinds := [.data, .data, .data, .data, .pinned], laidTests := true, laidLooks := .later }
def ClassSameCardSaid : Prop := Claim7.holds Tryd.pinned (.plain (OpenSpec.ofChange classSameSpec)) classSameCard

/-- THE SECOND FORM's CARD OF 'intarsialaw18.ClassMakes'. -/
def classMakesUptoCard : Claim7 := { stood := { row := classMakesUptoRow, standIns := [], harness := (true, "bb77afbdca64eea0ee0f265763a889a12c4ed3f89f30adfa7d91f8a4aa24a3e8"), looks := false }, kinds := [], alts := [], laidByText := true, laidKinds := [.data, .data, .data, .data, .pinned], laidTests := true, laidLooks := .later }
def ClassMakesUptoCardSaid : Prop := Claim7.holds Tryd.pinned (.plain (OpenSpec.upto classMakesSpec)) classMakesUptoCard

/-- THE SECOND FORM's CARD OF 'intarsialaw18.ClassLooks'. -/
def classLooksUptoCard : Claim7 := { stood := { row := classLooksUptoRow, standIns := [], harness := (true, "bb77afbdca64eea0ee0f265763a889a12c4ed3f89f30adfa7d91f8a4aa24a3e8"), looks := false }, kinds := [], alts := [], laidByText := true, laidKinds := [.data, .data, .data, .data, .pinned], laidTests := true, laidLooks := .later }
def ClassLooksUptoCardSaid : Prop := Claim7.holds Tryd.pinned (.plain (OpenSpec.upto classLooksSpec)) classLooksUptoCard

/-- THE SECOND FORM's CARD OF 'intarsialaw18.ClassSets'. -/
def classSetsUptoCard : Claim7 := { stood := { row := classSetsUptoRow, standIns := [], harness := (true, "bb77afbdca64eea0ee0f265763a889a12c4ed3f89f30adfa7d91f8a4aa24a3e8"), looks := false }, kinds := [], alts := [], laidByText := true, laidKinds := [.data, .data, .data, .data, .pinned], laidTests := true, laidLooks := .later }
def ClassSetsUptoCardSaid : Prop := Claim7.holds Tryd.pinned (.plain (OpenSpec.upto classSetsSpec)) classSetsUptoCard

/-- THE SECOND FORM's CARD OF 'intarsialaw18.ClassSame'. -/
def classSameUptoCard : Claim7 := { stood := { row := classSameUptoRow, standIns := [], harness := (true, "bb77afbdca64eea0ee0f265763a889a12c4ed3f89f30adfa7d91f8a4aa24a3e8"), looks := false }, kinds := [], alts := [], laidByText := true, laidKinds := [.data, .data, .data, .data, .pinned], laidTests := true, laidLooks := .later }
def ClassSameUptoCardSaid : Prop := Claim7.holds Tryd.pinned (.plain (OpenSpec.upto classSameSpec)) classSameUptoCard
end Rows
end Go.Proofs.YtbbjhiijialfoaaDoor
