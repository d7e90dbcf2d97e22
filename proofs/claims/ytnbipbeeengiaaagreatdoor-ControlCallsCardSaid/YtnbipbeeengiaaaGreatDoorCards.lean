/-
  DERIVED. GIVEN WITH THE SEED: THE CARDS: each row of YtnbipbeeengiaaaGreatDoorRows.lean that lists a variable, with what it lists TIED to the program's text (the seventh form; the later family's looks); each row that meets fmt, with fmt's text TOLD by the authors' own Lean function (tested against real Go, not proved from fmt's source: count such statements apart). THE CARD IS WHAT COUNTS. Prove the row's statement (the work); the ties are given (YtnbipbeeengiaaaGreatDoorTie.lean); close each card by the builder's one call (the guide's Derived/Test/ToyasCard.lean, 'card_holds'). Laid BY PROGRAM, IN A SANDBOX (cutbox-door.mjs). By AI agents, Wed Nov 11 2026. No macro, syntax, notation, axiom, sorry.
-/
import Derived.Test.YtnbipbeeengiaaaGreatDoorRows
import GoSem.ClaimSeven
namespace Go.Proofs.YtnbipbeeengiaaaGreatDoor
namespace Rows

/-- THE TIED CARD OF 'halfwayhouselaw08.EmitBack'. -/
def emitBackCard : Claim7 := { stood := { row := emitBackRow, standIns := [], harness := (true, "c7503b785b9167a0e5e11c0aab6f0f52e96edea75dc8203d41a8236651221874"), looks := false }, kinds := [], alts := [], laidByText := true, laidKinds := [.data, .data, .data, .data, .pinned], laidTests := true, laidLooks := .later }
def EmitBackCardSaid : Prop := Claim7.holds Tryz.pinned (.plain (OpenSpec.ofChange emitBackSpec)) emitBackCard

/-- THE TIED CARD OF 'halfwayhouselaw08.EmitAnswers'. -/
def emitAnswersCard : Claim7 := { stood := { row := emitAnswersRow, standIns := [], harness := (true, "c7503b785b9167a0e5e11c0aab6f0f52e96edea75dc8203d41a8236651221874"), looks := false }, kinds := [], alts := [], laidByText := true, laidKinds := [.data, .data, .data, .data, .pinned], laidTests := true, laidLooks := .later }
def EmitAnswersCardSaid : Prop := Claim7.holds Tryz.pinned (.plain (OpenSpec.ofChange emitAnswersSpec)) emitAnswersCard

/-- THE TIED CARD OF 'halfwayhouselaw08.EmitOwn'. -/
def emitOwnCard : Claim7 := { stood := { row := emitOwnRow, standIns := [], harness := (true, "c7503b785b9167a0e5e11c0aab6f0f52e96edea75dc8203d41a8236651221874"), looks := false }, kinds := [], alts := [], laidByText := true, laidKinds := [.data, .data, .data, .data, .pinned], laidTests := true, laidLooks := .later }
def EmitOwnCardSaid : Prop := Claim7.holds Tryz.pinned (.plain (OpenSpec.ofChange emitOwnSpec)) emitOwnCard

/-- THE TIED CARD OF 'halfwayhouselaw10.ControlCalls'. -/
def controlCallsCard : Claim7 := { stood := { row := controlCallsRow, standIns := [], harness := (true, "c7503b785b9167a0e5e11c0aab6f0f52e96edea75dc8203d41a8236651221874"), looks := false }, kinds := [], alts := [], laidByText := true, laidKinds := [.data, .data, .data, .data, .pinned], laidTests := true, laidLooks := .later }
def ControlCallsCardSaid : Prop := Claim7.holds Tryz.pinned (.plain (OpenSpec.ofChange controlCallsSpec)) controlCallsCard

/-- THE SECOND FORM's CARD OF 'halfwayhouselaw08.EmitBack'. -/
def emitBackUptoCard : Claim7 := { stood := { row := emitBackUptoRow, standIns := [], harness := (true, "c7503b785b9167a0e5e11c0aab6f0f52e96edea75dc8203d41a8236651221874"), looks := false }, kinds := [], alts := [], laidByText := true, laidKinds := [.data, .data, .data, .data, .pinned], laidTests := true, laidLooks := .later }
def EmitBackUptoCardSaid : Prop := Claim7.holds Tryz.pinned (.plain (OpenSpec.upto emitBackSpec)) emitBackUptoCard

/-- THE SECOND FORM's CARD OF 'halfwayhouselaw08.EmitAnswers'. -/
def emitAnswersUptoCard : Claim7 := { stood := { row := emitAnswersUptoRow, standIns := [], harness := (true, "c7503b785b9167a0e5e11c0aab6f0f52e96edea75dc8203d41a8236651221874"), looks := false }, kinds := [], alts := [], laidByText := true, laidKinds := [.data, .data, .data, .data, .pinned], laidTests := true, laidLooks := .later }
def EmitAnswersUptoCardSaid : Prop := Claim7.holds Tryz.pinned (.plain (OpenSpec.upto emitAnswersSpec)) emitAnswersUptoCard

/-- THE SECOND FORM's CARD OF 'halfwayhouselaw08.EmitOwn'. -/
def emitOwnUptoCard : Claim7 := { stood := { row := emitOwnUptoRow, standIns := [], harness := (true, "c7503b785b9167a0e5e11c0aab6f0f52e96edea75dc8203d41a8236651221874"), looks := false }, kinds := [], alts := [], laidByText := true, laidKinds := [.data, .data, .data, .data, .pinned], laidTests := true, laidLooks := .later }
def EmitOwnUptoCardSaid : Prop := Claim7.holds Tryz.pinned (.plain (OpenSpec.upto emitOwnSpec)) emitOwnUptoCard

/-- THE SECOND FORM's CARD OF 'halfwayhouselaw10.ControlCalls'. -/
def controlCallsUptoCard : Claim7 := { stood := { row := controlCallsUptoRow, standIns := [], harness := (true, "c7503b785b9167a0e5e11c0aab6f0f52e96edea75dc8203d41a8236651221874"), looks := false }, kinds := [], alts := [], laidByText := true, laidKinds := [.data, .data, .data, .data, .pinned], laidTests := true, laidLooks := .later }
def ControlCallsUptoCardSaid : Prop := Claim7.holds Tryz.pinned (.plain (OpenSpec.upto controlCallsSpec)) controlCallsUptoCard
end Rows
end Go.Proofs.YtnbipbeeengiaaaGreatDoor
