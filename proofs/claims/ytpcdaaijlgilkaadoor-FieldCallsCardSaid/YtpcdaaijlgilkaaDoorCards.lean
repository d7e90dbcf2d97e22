/-
  DERIVED. GIVEN WITH THE SEED: THE CARDS: each row of YtpcdaaijlgilkaaDoorRows.lean that lists a variable, with what it lists TIED to the program's text (the seventh form; the later family's looks); each row that meets fmt, with fmt's text TOLD by the authors' own Lean function (tested against real Go, not proved from fmt's source: count such statements apart). THE CARD IS WHAT COUNTS. Prove the row's statement (the work); the ties are given (YtpcdaaijlgilkaaDoorTie.lean); close each card by the builder's one call (the guide's Derived/Test/ToyasCard.lean, 'card_holds'). Laid BY PROGRAM, IN A SANDBOX (cutbox-door.mjs). By AI agents, Wed Nov 11 2026. No macro, syntax, notation, axiom, sorry.
-/
import Derived.Test.YtpcdaaijlgilkaaDoorRows
import GoSem.ClaimSeven
namespace Go.Proofs.YtpcdaaijlgilkaaDoor
namespace Rows

/-- THE TIED CARD OF 'halfwayhouselaw02.FieldCalls'. -/
def fieldCallsCard : Claim7 := { stood := { row := fieldCallsRow, standIns := [], harness := (true, "a354fc16a89fd6a84bedd46d1048d2cf63d971e69c64dfabecb382641fcf812f"), looks := false }, kinds := [], alts := [], laidByText := true, laidKinds := [.data, .pinned], laidTests := true, laidLooks := .later }
def FieldCallsCardSaid : Prop := Claim7.holds Tryd.pinned (.plain (OpenSpec.ofChange fieldCallsSpec)) fieldCallsCard

/-- THE SECOND FORM's CARD OF 'halfwayhouselaw02.FieldCalls'. -/
def fieldCallsUptoCard : Claim7 := { stood := { row := fieldCallsUptoRow, standIns := [], harness := (true, "a354fc16a89fd6a84bedd46d1048d2cf63d971e69c64dfabecb382641fcf812f"), looks := false }, kinds := [], alts := [], laidByText := true, laidKinds := [.data, .pinned], laidTests := true, laidLooks := .later }
def FieldCallsUptoCardSaid : Prop := Claim7.holds Tryd.pinned (.plain (OpenSpec.upto fieldCallsSpec)) fieldCallsUptoCard
end Rows
end Go.Proofs.YtpcdaaijlgilkaaDoor
