/-
  DERIVED. GIVEN WITH THE SEED: THE CARDS: each row of YtapnlopeipdjmaaDoorRows.lean that lists a variable, with what it lists TIED to the program's text (the seventh form; the later family's looks); each row that meets fmt, with fmt's text TOLD by the authors' own Lean function (tested against real Go, not proved from fmt's source: count such statements apart). THE CARD IS WHAT COUNTS. Prove the row's statement (the work); the ties are given (YtapnlopeipdjmaaDoorTie.lean); close each card by the builder's one call (the guide's Derived/Test/ToyasCard.lean, 'card_holds'). Laid BY PROGRAM, IN A SANDBOX (cutbox-door.mjs). By AI agents, Wed Nov 11 2026. No macro, syntax, notation, axiom, sorry.
-/
import Derived.Test.YtapnlopeipdjmaaDoorRows
import GoSem.ClaimSeven
namespace Go.Proofs.YtapnlopeipdjmaaDoor
namespace Rows

/-- THE TIED CARD OF 'halfwayhouselaw04.FramingNames'. -/
def framingNamesCard : Claim7 := { stood := { row := framingNamesRow, standIns := [], harness := (true, "0f541ad15ebd9c1c7289b4609e8a89d792a515e76434cdec9dbf30ca25020bf9"), looks := false }, kinds := [], alts := [], laidByText := true, laidKinds := [.data, .pinned], laidTests := true, laidLooks := .later }
def FramingNamesCardSaid : Prop := Claim7.holds Tryd.pinned (.plain (OpenSpec.ofChange framingNamesSpec)) framingNamesCard

/-- THE TIED CARD OF 'halfwayhouselaw04.FramingCalls'. -/
def framingCallsCard : Claim7 := { stood := { row := framingCallsRow, standIns := [], harness := (true, "0f541ad15ebd9c1c7289b4609e8a89d792a515e76434cdec9dbf30ca25020bf9"), looks := false }, kinds := [], alts := [], laidByText := true, laidKinds := [.data, .pinned], laidTests := true, laidLooks := .later }
def FramingCallsCardSaid : Prop := Claim7.holds Tryd.pinned (.plain (OpenSpec.ofChange framingCallsSpec)) framingCallsCard

/-- THE TIED CARD OF 'halfwayhouselaw04.FramingOne'. -/
def framingOneCard : Claim7 := { stood := { row := framingOneRow, standIns := [], harness := (true, "0f541ad15ebd9c1c7289b4609e8a89d792a515e76434cdec9dbf30ca25020bf9"), looks := false }, kinds := [], alts := [], laidByText := true, laidKinds := [.data, .pinned], laidTests := true, laidLooks := .later }
def FramingOneCardSaid : Prop := Claim7.holds Tryd.pinned (.plain (OpenSpec.ofChange framingOneSpec)) framingOneCard

/-- THE TIED CARD OF 'halfwayhouselaw04.FramingLengths'. -/
def framingLengthsCard : Claim7 := { stood := { row := framingLengthsRow, standIns := [], harness := (true, "0f541ad15ebd9c1c7289b4609e8a89d792a515e76434cdec9dbf30ca25020bf9"), looks := false }, kinds := [], alts := [], laidByText := true, laidKinds := [.data, .pinned], laidTests := true, laidLooks := .later }
def FramingLengthsCardSaid : Prop := Claim7.holds Tryd.pinned (.plain (OpenSpec.ofChange framingLengthsSpec)) framingLengthsCard

/-- THE TIED CARD OF 'halfwayhouselaw04.FramingBare'. -/
def framingBareCard : Claim7 := { stood := { row := framingBareRow, standIns := [], harness := (true, "0f541ad15ebd9c1c7289b4609e8a89d792a515e76434cdec9dbf30ca25020bf9"), looks := false }, kinds := [], alts := [], laidByText := true, laidKinds := [.data, .pinned], laidTests := true, laidLooks := .later }
def FramingBareCardSaid : Prop := Claim7.holds Tryd.pinned (.plain (OpenSpec.ofChange framingBareSpec)) framingBareCard

/-- THE TIED CARD OF 'halfwayhouselaw02.FieldNames'. -/
def fieldNamesCard : Claim7 := { stood := { row := fieldNamesRow, standIns := [], harness := (true, "0f541ad15ebd9c1c7289b4609e8a89d792a515e76434cdec9dbf30ca25020bf9"), looks := false }, kinds := [], alts := [], laidByText := true, laidKinds := [.data, .pinned], laidTests := true, laidLooks := .later }
def FieldNamesCardSaid : Prop := Claim7.holds Tryd.pinned (.plain (OpenSpec.ofChange fieldNamesSpec)) fieldNamesCard

/-- THE TIED CARD OF 'halfwayhouselaw02.FieldCalls'. -/
def fieldCallsCard : Claim7 := { stood := { row := fieldCallsRow, standIns := [], harness := (true, "0f541ad15ebd9c1c7289b4609e8a89d792a515e76434cdec9dbf30ca25020bf9"), looks := false }, kinds := [], alts := [], laidByText := true, laidKinds := [.data, .pinned], laidTests := true, laidLooks := .later }
def FieldCallsCardSaid : Prop := Claim7.holds Tryd.pinned (.plain (OpenSpec.ofChange fieldCallsSpec)) fieldCallsCard

/-- THE TIED CARD OF 'halfwayhouselaw02.FieldNamed'. -/
def fieldNamedCard : Claim7 := { stood := { row := fieldNamedRow, standIns := [], harness := (true, "0f541ad15ebd9c1c7289b4609e8a89d792a515e76434cdec9dbf30ca25020bf9"), looks := false }, kinds := [], alts := [], laidByText := true, laidKinds := [.data, .pinned], laidTests := true, laidLooks := .later }
def FieldNamedCardSaid : Prop := Claim7.holds Tryd.pinned (.plain (OpenSpec.ofChange fieldNamedSpec)) fieldNamedCard

/-- THE SECOND FORM's CARD OF 'halfwayhouselaw04.FramingNames'. -/
def framingNamesUptoCard : Claim7 := { stood := { row := framingNamesUptoRow, standIns := [], harness := (true, "0f541ad15ebd9c1c7289b4609e8a89d792a515e76434cdec9dbf30ca25020bf9"), looks := false }, kinds := [], alts := [], laidByText := true, laidKinds := [.data, .pinned], laidTests := true, laidLooks := .later }
def FramingNamesUptoCardSaid : Prop := Claim7.holds Tryd.pinned (.plain (OpenSpec.upto framingNamesSpec)) framingNamesUptoCard

/-- THE SECOND FORM's CARD OF 'halfwayhouselaw04.FramingCalls'. -/
def framingCallsUptoCard : Claim7 := { stood := { row := framingCallsUptoRow, standIns := [], harness := (true, "0f541ad15ebd9c1c7289b4609e8a89d792a515e76434cdec9dbf30ca25020bf9"), looks := false }, kinds := [], alts := [], laidByText := true, laidKinds := [.data, .pinned], laidTests := true, laidLooks := .later }
def FramingCallsUptoCardSaid : Prop := Claim7.holds Tryd.pinned (.plain (OpenSpec.upto framingCallsSpec)) framingCallsUptoCard

/-- THE SECOND FORM's CARD OF 'halfwayhouselaw04.FramingOne'. -/
def framingOneUptoCard : Claim7 := { stood := { row := framingOneUptoRow, standIns := [], harness := (true, "0f541ad15ebd9c1c7289b4609e8a89d792a515e76434cdec9dbf30ca25020bf9"), looks := false }, kinds := [], alts := [], laidByText := true, laidKinds := [.data, .pinned], laidTests := true, laidLooks := .later }
def FramingOneUptoCardSaid : Prop := Claim7.holds Tryd.pinned (.plain (OpenSpec.upto framingOneSpec)) framingOneUptoCard

/-- THE SECOND FORM's CARD OF 'halfwayhouselaw04.FramingLengths'. -/
def framingLengthsUptoCard : Claim7 := { stood := { row := framingLengthsUptoRow, standIns := [], harness := (true, "0f541ad15ebd9c1c7289b4609e8a89d792a515e76434cdec9dbf30ca25020bf9"), looks := false }, kinds := [], alts := [], laidByText := true, laidKinds := [.data, .pinned], laidTests := true, laidLooks := .later }
def FramingLengthsUptoCardSaid : Prop := Claim7.holds Tryd.pinned (.plain (OpenSpec.upto framingLengthsSpec)) framingLengthsUptoCard

/-- THE SECOND FORM's CARD OF 'halfwayhouselaw04.FramingBare'. -/
def framingBareUptoCard : Claim7 := { stood := { row := framingBareUptoRow, standIns := [], harness := (true, "0f541ad15ebd9c1c7289b4609e8a89d792a515e76434cdec9dbf30ca25020bf9"), looks := false }, kinds := [], alts := [], laidByText := true, laidKinds := [.data, .pinned], laidTests := true, laidLooks := .later }
def FramingBareUptoCardSaid : Prop := Claim7.holds Tryd.pinned (.plain (OpenSpec.upto framingBareSpec)) framingBareUptoCard

/-- THE SECOND FORM's CARD OF 'halfwayhouselaw02.FieldNames'. -/
def fieldNamesUptoCard : Claim7 := { stood := { row := fieldNamesUptoRow, standIns := [], harness := (true, "0f541ad15ebd9c1c7289b4609e8a89d792a515e76434cdec9dbf30ca25020bf9"), looks := false }, kinds := [], alts := [], laidByText := true, laidKinds := [.data, .pinned], laidTests := true, laidLooks := .later }
def FieldNamesUptoCardSaid : Prop := Claim7.holds Tryd.pinned (.plain (OpenSpec.upto fieldNamesSpec)) fieldNamesUptoCard

/-- THE SECOND FORM's CARD OF 'halfwayhouselaw02.FieldCalls'. -/
def fieldCallsUptoCard : Claim7 := { stood := { row := fieldCallsUptoRow, standIns := [], harness := (true, "0f541ad15ebd9c1c7289b4609e8a89d792a515e76434cdec9dbf30ca25020bf9"), looks := false }, kinds := [], alts := [], laidByText := true, laidKinds := [.data, .pinned], laidTests := true, laidLooks := .later }
def FieldCallsUptoCardSaid : Prop := Claim7.holds Tryd.pinned (.plain (OpenSpec.upto fieldCallsSpec)) fieldCallsUptoCard

/-- THE SECOND FORM's CARD OF 'halfwayhouselaw02.FieldNamed'. -/
def fieldNamedUptoCard : Claim7 := { stood := { row := fieldNamedUptoRow, standIns := [], harness := (true, "0f541ad15ebd9c1c7289b4609e8a89d792a515e76434cdec9dbf30ca25020bf9"), looks := false }, kinds := [], alts := [], laidByText := true, laidKinds := [.data, .pinned], laidTests := true, laidLooks := .later }
def FieldNamedUptoCardSaid : Prop := Claim7.holds Tryd.pinned (.plain (OpenSpec.upto fieldNamedSpec)) fieldNamedUptoCard
end Rows
end Go.Proofs.YtapnlopeipdjmaaDoor
