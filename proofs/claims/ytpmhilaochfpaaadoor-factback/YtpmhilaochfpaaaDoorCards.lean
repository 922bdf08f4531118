/-
  DERIVED. GIVEN WITH THE SEED: THE CARDS: each row of YtpmhilaochfpaaaDoorRows.lean that lists a variable, with what it lists TIED to the program's text (the seventh form; the later family's looks); each row that meets fmt, with fmt's text TOLD by the authors' own Lean function (tested against real Go, not proved from fmt's source: count such statements apart). THE CARD IS WHAT COUNTS. Prove the row's statement (the work); the ties are given (YtpmhilaochfpaaaDoorTie.lean); close each card by the builder's one call (the guide's Derived/Test/ToyasCard.lean, 'card_holds'). Laid BY PROGRAM, IN A SANDBOX (cutbox-door.mjs). By AI agents, Wed Nov 11 2026. No macro, syntax, notation, axiom, sorry.
-/
import Derived.Test.YtpmhilaochfpaaaDoorRows
import GoSem.ClaimSeven
namespace Go.Proofs.YtpmhilaochfpaaaDoor
namespace Rows

/-- THE TIED CARD OF 'intarsialaw19.FactKeys'. -/
def factKeysCard : Claim7 := { stood := { row := factKeysRow, standIns := [], harness := (true, "577d7b892059d4355981c2189e22092bb02f9b333ae6065a85ab26dae50afba3"), looks := false }, kinds := [], alts := [], laidByText := true, laidKinds := [.data, .pinned], laidTests := true, laidLooks := .later }
def FactKeysCardSaid : Prop := Claim7.holds Tryd.pinned (.plain (OpenSpec.ofChange factKeysSpec)) factKeysCard

/-- THE TIED CARD OF 'intarsialaw19.FactPuts'. -/
def factPutsCard : Claim7 := { stood := { row := factPutsRow, standIns := [], harness := (true, "577d7b892059d4355981c2189e22092bb02f9b333ae6065a85ab26dae50afba3"), looks := false }, kinds := [], alts := [], laidByText := true, laidKinds := [.data, .pinned], laidTests := true, laidLooks := .later }
def FactPutsCardSaid : Prop := Claim7.holds Tryd.pinned (.plain (OpenSpec.ofChange factPutsSpec)) factPutsCard

/-- THE TIED CARD OF 'intarsialaw19.FactBack'. -/
def factBackCard : Claim7 := { stood := { row := factBackRow, standIns := [], harness := (true, "577d7b892059d4355981c2189e22092bb02f9b333ae6065a85ab26dae50afba3"), looks := false }, kinds := [], alts := [], laidByText := true, laidKinds := [.data, .pinned], laidTests := true, laidLooks := .later }
def FactBackCardSaid : Prop := Claim7.holds Tryd.pinned (.plain (OpenSpec.ofChange factBackSpec)) factBackCard

/-- THE SECOND FORM's CARD OF 'intarsialaw19.FactKeys'. -/
def factKeysUptoCard : Claim7 := { stood := { row := factKeysUptoRow, standIns := [], harness := (true, "577d7b892059d4355981c2189e22092bb02f9b333ae6065a85ab26dae50afba3"), looks := false }, kinds := [], alts := [], laidByText := true, laidKinds := [.data, .pinned], laidTests := true, laidLooks := .later }
def FactKeysUptoCardSaid : Prop := Claim7.holds Tryd.pinned (.plain (OpenSpec.upto factKeysSpec)) factKeysUptoCard

/-- THE SECOND FORM's CARD OF 'intarsialaw19.FactPuts'. -/
def factPutsUptoCard : Claim7 := { stood := { row := factPutsUptoRow, standIns := [], harness := (true, "577d7b892059d4355981c2189e22092bb02f9b333ae6065a85ab26dae50afba3"), looks := false }, kinds := [], alts := [], laidByText := true, laidKinds := [.data, .pinned], laidTests := true, laidLooks := .later }
def FactPutsUptoCardSaid : Prop := Claim7.holds Tryd.pinned (.plain (OpenSpec.upto factPutsSpec)) factPutsUptoCard

/-- THE SECOND FORM's CARD OF 'intarsialaw19.FactBack'. -/
def factBackUptoCard : Claim7 := { stood := { row := factBackUptoRow, standIns := [], harness := (true, "577d7b892059d4355981c2189e22092bb02f9b333ae6065a85ab26dae50afba3"), looks := false }, kinds := [], alts := [], laidByText := true, laidKinds := [.data, .pinned], laidTests := true, laidLooks := .later }
def FactBackUptoCardSaid : Prop := Claim7.holds Tryd.pinned (.plain (OpenSpec.upto factBackSpec)) factBackUptoCard
end Rows
end Go.Proofs.YtpmhilaochfpaaaDoor
