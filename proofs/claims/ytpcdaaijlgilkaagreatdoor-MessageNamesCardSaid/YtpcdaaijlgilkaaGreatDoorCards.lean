/-
  DERIVED. GIVEN WITH THE SEED: THE CARDS: each row of YtpcdaaijlgilkaaGreatDoorRows.lean that lists a variable, with what it lists TIED to the program's text (the seventh form; the later family's looks); each row that meets fmt, with fmt's text TOLD by the authors' own Lean function (tested against real Go, not proved from fmt's source: count such statements apart). THE CARD IS WHAT COUNTS. Prove the row's statement (the work); the ties are given (YtpcdaaijlgilkaaGreatDoorTie.lean); close each card by the builder's one call (the guide's Derived/Test/ToyasCard.lean, 'card_holds'). Laid BY PROGRAM, IN A SANDBOX (cutbox-door.mjs). By AI agents, Wed Nov 11 2026. No macro, syntax, notation, axiom, sorry.
-/
import Derived.Test.YtpcdaaijlgilkaaGreatDoorRows
import GoSem.ClaimSeven
namespace Go.Proofs.YtpcdaaijlgilkaaGreatDoor
namespace Rows

/-- THE TIED CARD OF 'halfwayhouselaw06.MessageNames'. -/
def messageNamesCard : Claim7 := { stood := { row := messageNamesRow, standIns := [], harness := (true, "3b6e1eaf82b6694780fce32a540acaca333bc1a0b641376b2e45b499a4540c83"), looks := true }, kinds := [], alts := [], laidByText := true, laidKinds := [.data, .data, .data, .data, .sentinel, .sentinel, .pinned], laidTests := true, laidLooks := .later }
def MessageNamesCardSaid : Prop := Claim7.holds Tryz.pinned (.plain (OpenSpec.ofChange messageNamesSpec)) messageNamesCard

/-- THE TIED CARD OF 'halfwayhouselaw06.MessageCuts'. -/
def messageCutsCard : Claim7 := { stood := { row := messageCutsRow, standIns := [], harness := (true, "3b6e1eaf82b6694780fce32a540acaca333bc1a0b641376b2e45b499a4540c83"), looks := true }, kinds := [], alts := [], laidByText := true, laidKinds := [.data, .data, .data, .data, .sentinel, .sentinel, .pinned], laidTests := true, laidLooks := .later }
def MessageCutsCardSaid : Prop := Claim7.holds Tryz.pinned (.plain (OpenSpec.ofChange messageCutsSpec)) messageCutsCard

/-- THE TIED CARD OF 'halfwayhouselaw06.MessagePrefix'. -/
def messagePrefixCard : Claim7 := { stood := { row := messagePrefixRow, standIns := [], harness := (true, "3b6e1eaf82b6694780fce32a540acaca333bc1a0b641376b2e45b499a4540c83"), looks := true }, kinds := [], alts := [], laidByText := true, laidKinds := [.data, .data, .data, .data, .sentinel, .sentinel, .pinned], laidTests := true, laidLooks := .later }
def MessagePrefixCardSaid : Prop := Claim7.holds Tryz.pinned (.plain (OpenSpec.ofChange messagePrefixSpec)) messagePrefixCard

/-- THE TIED CARD OF 'halfwayhouselaw06.MessageLimits'. -/
def messageLimitsCard : Claim7 := { stood := { row := messageLimitsRow, standIns := [], harness := (true, "3b6e1eaf82b6694780fce32a540acaca333bc1a0b641376b2e45b499a4540c83"), looks := true }, kinds := [], alts := [], laidByText := true, laidKinds := [.data, .data, .data, .data, .sentinel, .sentinel, .pinned], laidTests := true, laidLooks := .later }
def MessageLimitsCardSaid : Prop := Claim7.holds Tryz.pinned (.plain (OpenSpec.ofChange messageLimitsSpec)) messageLimitsCard

/-- THE TIED CARD OF 'halfwayhouselaw06.MessageRoom'. -/
def messageRoomCard : Claim7 := { stood := { row := messageRoomRow, standIns := [], harness := (true, "3b6e1eaf82b6694780fce32a540acaca333bc1a0b641376b2e45b499a4540c83"), looks := true }, kinds := [], alts := [], laidByText := true, laidKinds := [.data, .data, .data, .data, .sentinel, .sentinel, .pinned], laidTests := true, laidLooks := .later }
def MessageRoomCardSaid : Prop := Claim7.holds Tryz.pinned (.plain (OpenSpec.ofChange messageRoomSpec)) messageRoomCard

/-- THE TIED CARD OF 'halfwayhouselaw06.MessageTurns'. -/
def messageTurnsCard : Claim7 := { stood := { row := messageTurnsRow, standIns := [], harness := (true, "3b6e1eaf82b6694780fce32a540acaca333bc1a0b641376b2e45b499a4540c83"), looks := true }, kinds := [], alts := [], laidByText := true, laidKinds := [.data, .data, .data, .data, .sentinel, .sentinel, .pinned], laidTests := true, laidLooks := .later }
def MessageTurnsCardSaid : Prop := Claim7.holds Tryz.pinned (.plain (OpenSpec.ofChange messageTurnsSpec)) messageTurnsCard

/-- THE SECOND FORM's CARD OF 'halfwayhouselaw06.MessageNames'. -/
def messageNamesUptoCard : Claim7 := { stood := { row := messageNamesUptoRow, standIns := [], harness := (true, "3b6e1eaf82b6694780fce32a540acaca333bc1a0b641376b2e45b499a4540c83"), looks := true }, kinds := [], alts := [], laidByText := true, laidKinds := [.data, .data, .data, .data, .sentinel, .sentinel, .pinned], laidTests := true, laidLooks := .later }
def MessageNamesUptoCardSaid : Prop := Claim7.holds Tryz.pinned (.plain (OpenSpec.upto messageNamesSpec)) messageNamesUptoCard

/-- THE SECOND FORM's CARD OF 'halfwayhouselaw06.MessageCuts'. -/
def messageCutsUptoCard : Claim7 := { stood := { row := messageCutsUptoRow, standIns := [], harness := (true, "3b6e1eaf82b6694780fce32a540acaca333bc1a0b641376b2e45b499a4540c83"), looks := true }, kinds := [], alts := [], laidByText := true, laidKinds := [.data, .data, .data, .data, .sentinel, .sentinel, .pinned], laidTests := true, laidLooks := .later }
def MessageCutsUptoCardSaid : Prop := Claim7.holds Tryz.pinned (.plain (OpenSpec.upto messageCutsSpec)) messageCutsUptoCard

/-- THE SECOND FORM's CARD OF 'halfwayhouselaw06.MessagePrefix'. -/
def messagePrefixUptoCard : Claim7 := { stood := { row := messagePrefixUptoRow, standIns := [], harness := (true, "3b6e1eaf82b6694780fce32a540acaca333bc1a0b641376b2e45b499a4540c83"), looks := true }, kinds := [], alts := [], laidByText := true, laidKinds := [.data, .data, .data, .data, .sentinel, .sentinel, .pinned], laidTests := true, laidLooks := .later }
def MessagePrefixUptoCardSaid : Prop := Claim7.holds Tryz.pinned (.plain (OpenSpec.upto messagePrefixSpec)) messagePrefixUptoCard

/-- THE SECOND FORM's CARD OF 'halfwayhouselaw06.MessageLimits'. -/
def messageLimitsUptoCard : Claim7 := { stood := { row := messageLimitsUptoRow, standIns := [], harness := (true, "3b6e1eaf82b6694780fce32a540acaca333bc1a0b641376b2e45b499a4540c83"), looks := true }, kinds := [], alts := [], laidByText := true, laidKinds := [.data, .data, .data, .data, .sentinel, .sentinel, .pinned], laidTests := true, laidLooks := .later }
def MessageLimitsUptoCardSaid : Prop := Claim7.holds Tryz.pinned (.plain (OpenSpec.upto messageLimitsSpec)) messageLimitsUptoCard

/-- THE SECOND FORM's CARD OF 'halfwayhouselaw06.MessageRoom'. -/
def messageRoomUptoCard : Claim7 := { stood := { row := messageRoomUptoRow, standIns := [], harness := (true, "3b6e1eaf82b6694780fce32a540acaca333bc1a0b641376b2e45b499a4540c83"), looks := true }, kinds := [], alts := [], laidByText := true, laidKinds := [.data, .data, .data, .data, .sentinel, .sentinel, .pinned], laidTests := true, laidLooks := .later }
def MessageRoomUptoCardSaid : Prop := Claim7.holds Tryz.pinned (.plain (OpenSpec.upto messageRoomSpec)) messageRoomUptoCard

/-- THE SECOND FORM's CARD OF 'halfwayhouselaw06.MessageTurns'. -/
def messageTurnsUptoCard : Claim7 := { stood := { row := messageTurnsUptoRow, standIns := [], harness := (true, "3b6e1eaf82b6694780fce32a540acaca333bc1a0b641376b2e45b499a4540c83"), looks := true }, kinds := [], alts := [], laidByText := true, laidKinds := [.data, .data, .data, .data, .sentinel, .sentinel, .pinned], laidTests := true, laidLooks := .later }
def MessageTurnsUptoCardSaid : Prop := Claim7.holds Tryz.pinned (.plain (OpenSpec.upto messageTurnsSpec)) messageTurnsUptoCard
end Rows
end Go.Proofs.YtpcdaaijlgilkaaGreatDoor
