/-
  DERIVED. GIVEN WITH THE SEED: THE CARDS: each row of YtliinjibnikfgaaDoorRows.lean that lists a variable, with what it lists TIED to the program's text (the seventh form; the later family's looks); each row that meets fmt, with fmt's text TOLD by the authors' own Lean function (tested against real Go, not proved from fmt's source: count such statements apart). THE CARD IS WHAT COUNTS. Prove the row's statement (the work); the ties are given (YtliinjibnikfgaaDoorTie.lean); close each card by the builder's one call (the guide's Derived/Test/ToyasCard.lean, 'card_holds'). Laid BY PROGRAM, IN A SANDBOX (cutbox-door.mjs). By AI agents, Wed Nov 11 2026. No macro, syntax, notation, axiom, sorry.
-/
import Derived.Test.YtliinjibnikfgaaDoorRows
import GoSem.ClaimSeven
namespace Go.Proofs.YtliinjibnikfgaaDoor
namespace Rows

/-- THE TIED CARD OF 'halfwayhouselaw03.StartNames'. -/
def startNamesCard : Claim7 := { stood := { row := startNamesRow, standIns := [], harness := (true, "a6a17be2c968e26bac3604ade7335853319c9aae72ab871a54d72867091dc177"), looks := false }, kinds := [], alts := [], laidByText := true, laidKinds := [.data, .data, .data], laidTests := true, laidLooks := .later }
def StartNamesCardSaid : Prop := Claim7.holds Tryd.pinned (.plain (OpenSpec.ofChange startNamesSpec)) startNamesCard

/-- THE TIED CARD OF 'halfwayhouselaw03.StartCalls'. -/
def startCallsCard : Claim7 := { stood := { row := startCallsRow, standIns := [], harness := (true, "a6a17be2c968e26bac3604ade7335853319c9aae72ab871a54d72867091dc177"), looks := false }, kinds := [], alts := [], laidByText := true, laidKinds := [.data, .data, .data], laidTests := true, laidLooks := .later }
def StartCallsCardSaid : Prop := Claim7.holds Tryd.pinned (.plain (OpenSpec.ofChange startCallsSpec)) startCallsCard

/-- THE TIED CARD OF 'halfwayhouselaw03.StartBack'. -/
def startBackCard : Claim7 := { stood := { row := startBackRow, standIns := [], harness := (true, "a6a17be2c968e26bac3604ade7335853319c9aae72ab871a54d72867091dc177"), looks := false }, kinds := [], alts := [], laidByText := true, laidKinds := [.data, .data, .data], laidTests := true, laidLooks := .later }
def StartBackCardSaid : Prop := Claim7.holds Tryd.pinned (.plain (OpenSpec.ofChange startBackSpec)) startBackCard

/-- THE TIED CARD OF 'halfwayhouselaw02.FieldNames'. -/
def fieldNamesCard : Claim7 := { stood := { row := fieldNamesRow, standIns := [], harness := (true, "a6a17be2c968e26bac3604ade7335853319c9aae72ab871a54d72867091dc177"), looks := false }, kinds := [], alts := [], laidByText := true, laidKinds := [.data, .pinned], laidTests := true, laidLooks := .later }
def FieldNamesCardSaid : Prop := Claim7.holds Tryd.pinned (.plain (OpenSpec.ofChange fieldNamesSpec)) fieldNamesCard

/-- THE TIED CARD OF 'halfwayhouselaw02.FieldCalls'. -/
def fieldCallsCard : Claim7 := { stood := { row := fieldCallsRow, standIns := [], harness := (true, "a6a17be2c968e26bac3604ade7335853319c9aae72ab871a54d72867091dc177"), looks := false }, kinds := [], alts := [], laidByText := true, laidKinds := [.data, .pinned], laidTests := true, laidLooks := .later }
def FieldCallsCardSaid : Prop := Claim7.holds Tryd.pinned (.plain (OpenSpec.ofChange fieldCallsSpec)) fieldCallsCard

/-- THE TIED CARD OF 'halfwayhouselaw02.FieldNamed'. -/
def fieldNamedCard : Claim7 := { stood := { row := fieldNamedRow, standIns := [], harness := (true, "a6a17be2c968e26bac3604ade7335853319c9aae72ab871a54d72867091dc177"), looks := false }, kinds := [], alts := [], laidByText := true, laidKinds := [.data, .pinned], laidTests := true, laidLooks := .later }
def FieldNamedCardSaid : Prop := Claim7.holds Tryd.pinned (.plain (OpenSpec.ofChange fieldNamedSpec)) fieldNamedCard

/-- THE SECOND FORM's CARD OF 'halfwayhouselaw03.StartNames'. -/
def startNamesUptoCard : Claim7 := { stood := { row := startNamesUptoRow, standIns := [], harness := (true, "a6a17be2c968e26bac3604ade7335853319c9aae72ab871a54d72867091dc177"), looks := false }, kinds := [], alts := [], laidByText := true, laidKinds := [.data, .data, .data], laidTests := true, laidLooks := .later }
def StartNamesUptoCardSaid : Prop := Claim7.holds Tryd.pinned (.plain (OpenSpec.upto startNamesSpec)) startNamesUptoCard

/-- THE SECOND FORM's CARD OF 'halfwayhouselaw03.StartCalls'. -/
def startCallsUptoCard : Claim7 := { stood := { row := startCallsUptoRow, standIns := [], harness := (true, "a6a17be2c968e26bac3604ade7335853319c9aae72ab871a54d72867091dc177"), looks := false }, kinds := [], alts := [], laidByText := true, laidKinds := [.data, .data, .data], laidTests := true, laidLooks := .later }
def StartCallsUptoCardSaid : Prop := Claim7.holds Tryd.pinned (.plain (OpenSpec.upto startCallsSpec)) startCallsUptoCard

/-- THE SECOND FORM's CARD OF 'halfwayhouselaw03.StartBack'. -/
def startBackUptoCard : Claim7 := { stood := { row := startBackUptoRow, standIns := [], harness := (true, "a6a17be2c968e26bac3604ade7335853319c9aae72ab871a54d72867091dc177"), looks := false }, kinds := [], alts := [], laidByText := true, laidKinds := [.data, .data, .data], laidTests := true, laidLooks := .later }
def StartBackUptoCardSaid : Prop := Claim7.holds Tryd.pinned (.plain (OpenSpec.upto startBackSpec)) startBackUptoCard

/-- THE SECOND FORM's CARD OF 'halfwayhouselaw02.FieldNames'. -/
def fieldNamesUptoCard : Claim7 := { stood := { row := fieldNamesUptoRow, standIns := [], harness := (true, "a6a17be2c968e26bac3604ade7335853319c9aae72ab871a54d72867091dc177"), looks := false }, kinds := [], alts := [], laidByText := true, laidKinds := [.data, .pinned], laidTests := true, laidLooks := .later }
def FieldNamesUptoCardSaid : Prop := Claim7.holds Tryd.pinned (.plain (OpenSpec.upto fieldNamesSpec)) fieldNamesUptoCard

/-- THE SECOND FORM's CARD OF 'halfwayhouselaw02.FieldCalls'. -/
def fieldCallsUptoCard : Claim7 := { stood := { row := fieldCallsUptoRow, standIns := [], harness := (true, "a6a17be2c968e26bac3604ade7335853319c9aae72ab871a54d72867091dc177"), looks := false }, kinds := [], alts := [], laidByText := true, laidKinds := [.data, .pinned], laidTests := true, laidLooks := .later }
def FieldCallsUptoCardSaid : Prop := Claim7.holds Tryd.pinned (.plain (OpenSpec.upto fieldCallsSpec)) fieldCallsUptoCard

/-- THE SECOND FORM's CARD OF 'halfwayhouselaw02.FieldNamed'. -/
def fieldNamedUptoCard : Claim7 := { stood := { row := fieldNamedUptoRow, standIns := [], harness := (true, "a6a17be2c968e26bac3604ade7335853319c9aae72ab871a54d72867091dc177"), looks := false }, kinds := [], alts := [], laidByText := true, laidKinds := [.data, .pinned], laidTests := true, laidLooks := .later }
def FieldNamedUptoCardSaid : Prop := Claim7.holds Tryd.pinned (.plain (OpenSpec.upto fieldNamedSpec)) fieldNamedUptoCard
end Rows
end Go.Proofs.YtliinjibnikfgaaDoor
