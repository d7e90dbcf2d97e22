/-
  DERIVED. GIVEN WITH THE SEED: THE CARDS: each row of YtogdmhgblceddaaDoorRows.lean that lists a variable, with what it lists TIED to the program's text (the seventh form; the later family's looks); each row that meets fmt, with fmt's text TOLD by the authors' own Lean function (tested against real Go, not proved from fmt's source: count such statements apart). THE CARD IS WHAT COUNTS. Prove the row's statement (the work); the ties are given (YtogdmhgblceddaaDoorTie.lean); close each card by the builder's one call (the guide's Derived/Test/ToyasCard.lean, 'card_holds'). Laid BY PROGRAM, IN A SANDBOX (cutbox-door.mjs). By AI agents, Wed Nov 11 2026. No macro, syntax, notation, axiom, sorry.
-/
import Derived.Test.YtogdmhgblceddaaDoorRows
import GoSem.ClaimSeven
namespace Go.Proofs.YtogdmhgblceddaaDoor
namespace Rows

/-- THE TIED CARD OF 'halfwayhouselaw01.TokenWeights'. -/
def tokenWeightsCard : Claim7 := { stood := { row := tokenWeightsRow, standIns := [], harness := (true, "c05d51f47ba019121119bbf1a922f4e0e4e1cd757273f1ce4afb027fbf5e2d41"), looks := false }, kinds := [], alts := [], laidByText := true, laidKinds := [.data, .data, .data, .data, .data, .pinned, .pinned, .pinned], laidTests := true, laidLooks := .later }
def TokenWeightsCardSaid : Prop := Claim7.holds Tryd.pinned (.plain (OpenSpec.ofChange tokenWeightsSpec)) tokenWeightsCard

/-- THE TIED CARD OF 'halfwayhouselaw01.TokenBack'. -/
def tokenBackCard : Claim7 := { stood := { row := tokenBackRow, standIns := [], harness := (true, "c05d51f47ba019121119bbf1a922f4e0e4e1cd757273f1ce4afb027fbf5e2d41"), looks := false }, kinds := [], alts := [], laidByText := true, laidKinds := [.data, .data, .data, .data, .data, .pinned, .pinned, .pinned], laidTests := true, laidLooks := .later }
def TokenBackCardSaid : Prop := Claim7.holds Tryd.pinned (.plain (OpenSpec.ofChange tokenBackSpec)) tokenBackCard

/-- THE TIED CARD OF 'halfwayhouselaw01.TokenSmall'. -/
def tokenSmallCard : Claim7 := { stood := { row := tokenSmallRow, standIns := [], harness := (true, "c05d51f47ba019121119bbf1a922f4e0e4e1cd757273f1ce4afb027fbf5e2d41"), looks := false }, kinds := [], alts := [], laidByText := true, laidKinds := [.data, .data, .data, .data, .data, .pinned, .pinned, .pinned], laidTests := true, laidLooks := .later }
def TokenSmallCardSaid : Prop := Claim7.holds Tryd.pinned (.plain (OpenSpec.ofChange tokenSmallSpec)) tokenSmallCard

/-- THE TIED CARD OF 'halfwayhouselaw01.TokenNumbers'. -/
def tokenNumbersCard : Claim7 := { stood := { row := tokenNumbersRow, standIns := [], harness := (true, "c05d51f47ba019121119bbf1a922f4e0e4e1cd757273f1ce4afb027fbf5e2d41"), looks := false }, kinds := [], alts := [], laidByText := true, laidKinds := [.data, .data, .data, .data, .data, .pinned, .pinned, .pinned], laidTests := true, laidLooks := .later }
def TokenNumbersCardSaid : Prop := Claim7.holds Tryd.pinned (.plain (OpenSpec.ofChange tokenNumbersSpec)) tokenNumbersCard

/-- THE TIED CARD OF 'halfwayhouselaw01.TokenQuoted'. -/
def tokenQuotedCard : Claim7 := { stood := { row := tokenQuotedRow, standIns := [], harness := (true, "c05d51f47ba019121119bbf1a922f4e0e4e1cd757273f1ce4afb027fbf5e2d41"), looks := false }, kinds := [], alts := [], laidByText := true, laidKinds := [.data, .data, .data, .data, .data, .pinned, .pinned, .pinned], laidTests := true, laidLooks := .later }
def TokenQuotedCardSaid : Prop := Claim7.holds Tryd.pinned (.plain (OpenSpec.ofChange tokenQuotedSpec)) tokenQuotedCard

/-- THE TIED CARD OF 'halfwayhouselaw02.FieldNames'. -/
def fieldNamesCard : Claim7 := { stood := { row := fieldNamesRow, standIns := [], harness := (true, "c05d51f47ba019121119bbf1a922f4e0e4e1cd757273f1ce4afb027fbf5e2d41"), looks := false }, kinds := [], alts := [], laidByText := true, laidKinds := [.data, .pinned], laidTests := true, laidLooks := .later }
def FieldNamesCardSaid : Prop := Claim7.holds Tryd.pinned (.plain (OpenSpec.ofChange fieldNamesSpec)) fieldNamesCard

/-- THE TIED CARD OF 'halfwayhouselaw02.FieldCalls'. -/
def fieldCallsCard : Claim7 := { stood := { row := fieldCallsRow, standIns := [], harness := (true, "c05d51f47ba019121119bbf1a922f4e0e4e1cd757273f1ce4afb027fbf5e2d41"), looks := false }, kinds := [], alts := [], laidByText := true, laidKinds := [.data, .pinned], laidTests := true, laidLooks := .later }
def FieldCallsCardSaid : Prop := Claim7.holds Tryd.pinned (.plain (OpenSpec.ofChange fieldCallsSpec)) fieldCallsCard

/-- THE TIED CARD OF 'halfwayhouselaw02.FieldBack'. -/
def fieldBackCard : Claim7 := { stood := { row := fieldBackRow, standIns := [], harness := (true, "c05d51f47ba019121119bbf1a922f4e0e4e1cd757273f1ce4afb027fbf5e2d41"), looks := false }, kinds := [], alts := [], laidByText := true, laidKinds := [.data, .pinned], laidTests := true, laidLooks := .later }
def FieldBackCardSaid : Prop := Claim7.holds Tryd.pinned (.plain (OpenSpec.ofChange fieldBackSpec)) fieldBackCard

/-- THE TIED CARD OF 'halfwayhouselaw02.FieldSets'. -/
def fieldSetsCard : Claim7 := { stood := { row := fieldSetsRow, standIns := [], harness := (true, "c05d51f47ba019121119bbf1a922f4e0e4e1cd757273f1ce4afb027fbf5e2d41"), looks := false }, kinds := [], alts := [], laidByText := true, laidKinds := [.data, .pinned], laidTests := true, laidLooks := .later }
def FieldSetsCardSaid : Prop := Claim7.holds Tryd.pinned (.plain (OpenSpec.ofChange fieldSetsSpec)) fieldSetsCard

/-- THE TIED CARD OF 'halfwayhouselaw02.FieldNamed'. -/
def fieldNamedCard : Claim7 := { stood := { row := fieldNamedRow, standIns := [], harness := (true, "c05d51f47ba019121119bbf1a922f4e0e4e1cd757273f1ce4afb027fbf5e2d41"), looks := false }, kinds := [], alts := [], laidByText := true, laidKinds := [.data, .pinned], laidTests := true, laidLooks := .later }
def FieldNamedCardSaid : Prop := Claim7.holds Tryd.pinned (.plain (OpenSpec.ofChange fieldNamedSpec)) fieldNamedCard

/-- THE SECOND FORM's CARD OF 'halfwayhouselaw01.TokenWeights'. -/
def tokenWeightsUptoCard : Claim7 := { stood := { row := tokenWeightsUptoRow, standIns := [], harness := (true, "c05d51f47ba019121119bbf1a922f4e0e4e1cd757273f1ce4afb027fbf5e2d41"), looks := false }, kinds := [], alts := [], laidByText := true, laidKinds := [.data, .data, .data, .data, .data, .pinned, .pinned, .pinned], laidTests := true, laidLooks := .later }
def TokenWeightsUptoCardSaid : Prop := Claim7.holds Tryd.pinned (.plain (OpenSpec.upto tokenWeightsSpec)) tokenWeightsUptoCard

/-- THE SECOND FORM's CARD OF 'halfwayhouselaw01.TokenBack'. -/
def tokenBackUptoCard : Claim7 := { stood := { row := tokenBackUptoRow, standIns := [], harness := (true, "c05d51f47ba019121119bbf1a922f4e0e4e1cd757273f1ce4afb027fbf5e2d41"), looks := false }, kinds := [], alts := [], laidByText := true, laidKinds := [.data, .data, .data, .data, .data, .pinned, .pinned, .pinned], laidTests := true, laidLooks := .later }
def TokenBackUptoCardSaid : Prop := Claim7.holds Tryd.pinned (.plain (OpenSpec.upto tokenBackSpec)) tokenBackUptoCard

/-- THE SECOND FORM's CARD OF 'halfwayhouselaw01.TokenSmall'. -/
def tokenSmallUptoCard : Claim7 := { stood := { row := tokenSmallUptoRow, standIns := [], harness := (true, "c05d51f47ba019121119bbf1a922f4e0e4e1cd757273f1ce4afb027fbf5e2d41"), looks := false }, kinds := [], alts := [], laidByText := true, laidKinds := [.data, .data, .data, .data, .data, .pinned, .pinned, .pinned], laidTests := true, laidLooks := .later }
def TokenSmallUptoCardSaid : Prop := Claim7.holds Tryd.pinned (.plain (OpenSpec.upto tokenSmallSpec)) tokenSmallUptoCard

/-- THE SECOND FORM's CARD OF 'halfwayhouselaw01.TokenNumbers'. -/
def tokenNumbersUptoCard : Claim7 := { stood := { row := tokenNumbersUptoRow, standIns := [], harness := (true, "c05d51f47ba019121119bbf1a922f4e0e4e1cd757273f1ce4afb027fbf5e2d41"), looks := false }, kinds := [], alts := [], laidByText := true, laidKinds := [.data, .data, .data, .data, .data, .pinned, .pinned, .pinned], laidTests := true, laidLooks := .later }
def TokenNumbersUptoCardSaid : Prop := Claim7.holds Tryd.pinned (.plain (OpenSpec.upto tokenNumbersSpec)) tokenNumbersUptoCard

/-- THE SECOND FORM's CARD OF 'halfwayhouselaw01.TokenQuoted'. -/
def tokenQuotedUptoCard : Claim7 := { stood := { row := tokenQuotedUptoRow, standIns := [], harness := (true, "c05d51f47ba019121119bbf1a922f4e0e4e1cd757273f1ce4afb027fbf5e2d41"), looks := false }, kinds := [], alts := [], laidByText := true, laidKinds := [.data, .data, .data, .data, .data, .pinned, .pinned, .pinned], laidTests := true, laidLooks := .later }
def TokenQuotedUptoCardSaid : Prop := Claim7.holds Tryd.pinned (.plain (OpenSpec.upto tokenQuotedSpec)) tokenQuotedUptoCard

/-- THE SECOND FORM's CARD OF 'halfwayhouselaw02.FieldNames'. -/
def fieldNamesUptoCard : Claim7 := { stood := { row := fieldNamesUptoRow, standIns := [], harness := (true, "c05d51f47ba019121119bbf1a922f4e0e4e1cd757273f1ce4afb027fbf5e2d41"), looks := false }, kinds := [], alts := [], laidByText := true, laidKinds := [.data, .pinned], laidTests := true, laidLooks := .later }
def FieldNamesUptoCardSaid : Prop := Claim7.holds Tryd.pinned (.plain (OpenSpec.upto fieldNamesSpec)) fieldNamesUptoCard

/-- THE SECOND FORM's CARD OF 'halfwayhouselaw02.FieldCalls'. -/
def fieldCallsUptoCard : Claim7 := { stood := { row := fieldCallsUptoRow, standIns := [], harness := (true, "c05d51f47ba019121119bbf1a922f4e0e4e1cd757273f1ce4afb027fbf5e2d41"), looks := false }, kinds := [], alts := [], laidByText := true, laidKinds := [.data, .pinned], laidTests := true, laidLooks := .later }
def FieldCallsUptoCardSaid : Prop := Claim7.holds Tryd.pinned (.plain (OpenSpec.upto fieldCallsSpec)) fieldCallsUptoCard

/-- THE SECOND FORM's CARD OF 'halfwayhouselaw02.FieldBack'. -/
def fieldBackUptoCard : Claim7 := { stood := { row := fieldBackUptoRow, standIns := [], harness := (true, "c05d51f47ba019121119bbf1a922f4e0e4e1cd757273f1ce4afb027fbf5e2d41"), looks := false }, kinds := [], alts := [], laidByText := true, laidKinds := [.data, .pinned], laidTests := true, laidLooks := .later }
def FieldBackUptoCardSaid : Prop := Claim7.holds Tryd.pinned (.plain (OpenSpec.upto fieldBackSpec)) fieldBackUptoCard

/-- THE SECOND FORM's CARD OF 'halfwayhouselaw02.FieldSets'. -/
def fieldSetsUptoCard : Claim7 := { stood := { row := fieldSetsUptoRow, standIns := [], harness := (true, "c05d51f47ba019121119bbf1a922f4e0e4e1cd757273f1ce4afb027fbf5e2d41"), looks := false }, kinds := [], alts := [], laidByText := true, laidKinds := [.data, .pinned], laidTests := true, laidLooks := .later }
def FieldSetsUptoCardSaid : Prop := Claim7.holds Tryd.pinned (.plain (OpenSpec.upto fieldSetsSpec)) fieldSetsUptoCard

/-- THE SECOND FORM's CARD OF 'halfwayhouselaw02.FieldNamed'. -/
def fieldNamedUptoCard : Claim7 := { stood := { row := fieldNamedUptoRow, standIns := [], harness := (true, "c05d51f47ba019121119bbf1a922f4e0e4e1cd757273f1ce4afb027fbf5e2d41"), looks := false }, kinds := [], alts := [], laidByText := true, laidKinds := [.data, .pinned], laidTests := true, laidLooks := .later }
def FieldNamedUptoCardSaid : Prop := Claim7.holds Tryd.pinned (.plain (OpenSpec.upto fieldNamedSpec)) fieldNamedUptoCard
end Rows
end Go.Proofs.YtogdmhgblceddaaDoor
