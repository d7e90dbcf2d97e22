/-
  DERIVED. GIVEN WITH THE SEED: THE CARDS: each row of YtcddkeekabafgaaGreatDoorRows.lean that lists a variable, with what it lists TIED to the program's text (the seventh form; the later family's looks); each row that meets fmt, with fmt's text TOLD by the authors' own Lean function (tested against real Go, not proved from fmt's source: count such statements apart). THE CARD IS WHAT COUNTS. Prove the row's statement (the work); the ties are given (YtcddkeekabafgaaGreatDoorTie.lean); close each card by the builder's one call (the guide's Derived/Test/ToyasCard.lean, 'card_holds'). Laid BY PROGRAM, IN A SANDBOX (cutbox-door.mjs). By AI agents, Wed Nov 11 2026. No macro, syntax, notation, axiom, sorry.
-/
import Derived.Test.YtcddkeekabafgaaGreatDoorRows
import GoSem.ClaimSeven
namespace Go.Proofs.YtcddkeekabafgaaGreatDoor
namespace Rows

/-- THE TIED CARD OF 'halfwayhouselaw07.HopCalls'. -/
def hopCallsCard : Claim7 := { stood := { row := hopCallsRow, standIns := [], harness := (true, "d2dc5ccf9986f6b2695ca39a9dd8098965e329db3307298d58892a251d1feb56"), looks := false }, kinds := [], alts := [], laidByText := true, laidKinds := [.data, .data, .data, .data, .pinned], laidTests := true, laidLooks := .later }
def HopCallsCardSaid : Prop := Claim7.holds Tryz.pinned (.plain (OpenSpec.ofChange hopCallsSpec)) hopCallsCard

/-- THE TIED CARD OF 'halfwayhouselaw07.HopOnce'. -/
def hopOnceCard : Claim7 := { stood := { row := hopOnceRow, standIns := [], harness := (true, "d2dc5ccf9986f6b2695ca39a9dd8098965e329db3307298d58892a251d1feb56"), looks := false }, kinds := [], alts := [], laidByText := true, laidKinds := [.data, .data, .data, .data, .pinned], laidTests := true, laidLooks := .later }
def HopOnceCardSaid : Prop := Claim7.holds Tryz.pinned (.plain (OpenSpec.ofChange hopOnceSpec)) hopOnceCard

/-- THE SECOND FORM's CARD OF 'halfwayhouselaw07.HopCalls'. -/
def hopCallsUptoCard : Claim7 := { stood := { row := hopCallsUptoRow, standIns := [], harness := (true, "d2dc5ccf9986f6b2695ca39a9dd8098965e329db3307298d58892a251d1feb56"), looks := false }, kinds := [], alts := [], laidByText := true, laidKinds := [.data, .data, .data, .data, .pinned], laidTests := true, laidLooks := .later }
def HopCallsUptoCardSaid : Prop := Claim7.holds Tryz.pinned (.plain (OpenSpec.upto hopCallsSpec)) hopCallsUptoCard

/-- THE SECOND FORM's CARD OF 'halfwayhouselaw07.HopOnce'. -/
def hopOnceUptoCard : Claim7 := { stood := { row := hopOnceUptoRow, standIns := [], harness := (true, "d2dc5ccf9986f6b2695ca39a9dd8098965e329db3307298d58892a251d1feb56"), looks := false }, kinds := [], alts := [], laidByText := true, laidKinds := [.data, .data, .data, .data, .pinned], laidTests := true, laidLooks := .later }
def HopOnceUptoCardSaid : Prop := Claim7.holds Tryz.pinned (.plain (OpenSpec.upto hopOnceSpec)) hopOnceUptoCard
end Rows
end Go.Proofs.YtcddkeekabafgaaGreatDoor
