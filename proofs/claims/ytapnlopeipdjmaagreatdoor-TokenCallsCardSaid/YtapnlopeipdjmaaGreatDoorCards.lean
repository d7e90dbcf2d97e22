/-
  DERIVED. GIVEN WITH THE SEED: THE CARDS: each row of YtapnlopeipdjmaaGreatDoorRows.lean that lists a variable, with what it lists TIED to the program's text (the seventh form; the later family's looks); each row that meets fmt, with fmt's text TOLD by the authors' own Lean function (tested against real Go, not proved from fmt's source: count such statements apart). THE CARD IS WHAT COUNTS. Prove the row's statement (the work); the ties are given (YtapnlopeipdjmaaGreatDoorTie.lean); close each card by the builder's one call (the guide's Derived/Test/ToyasCard.lean, 'card_holds'). Laid BY PROGRAM, IN A SANDBOX (cutbox-door.mjs). By AI agents, Wed Nov 11 2026. No macro, syntax, notation, axiom, sorry.
-/
import Derived.Test.YtapnlopeipdjmaaGreatDoorRows
import GoSem.ClaimSeven
namespace Go.Proofs.YtapnlopeipdjmaaGreatDoor
namespace Rows

/-- THE TIED CARD OF 'halfwayhouselaw01.TokenCalls'. -/
def tokenCallsCard : Claim7 := { stood := { row := tokenCallsRow, standIns := [], harness := (true, "3013f8fbb074b73ea52edde8fb2a59783eb39ea062b278cde01940cfc97bd3a5"), looks := false }, kinds := [], alts := [], laidByText := true, laidKinds := [.data, .data, .data, .data, .data, .pinned, .pinned, .pinned], laidTests := true, laidLooks := .later }
def TokenCallsCardSaid : Prop := Claim7.holds Tryz.pinned (.plain (OpenSpec.ofChange tokenCallsSpec)) tokenCallsCard

/-- THE SECOND FORM's CARD OF 'halfwayhouselaw01.TokenCalls'. -/
def tokenCallsUptoCard : Claim7 := { stood := { row := tokenCallsUptoRow, standIns := [], harness := (true, "3013f8fbb074b73ea52edde8fb2a59783eb39ea062b278cde01940cfc97bd3a5"), looks := false }, kinds := [], alts := [], laidByText := true, laidKinds := [.data, .data, .data, .data, .data, .pinned, .pinned, .pinned], laidTests := true, laidLooks := .later }
def TokenCallsUptoCardSaid : Prop := Claim7.holds Tryz.pinned (.plain (OpenSpec.upto tokenCallsSpec)) tokenCallsUptoCard
end Rows
end Go.Proofs.YtapnlopeipdjmaaGreatDoor
