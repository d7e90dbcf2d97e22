/-
  DERIVED. GIVEN WITH THE SEED: THE CARDS: each row of YtdlbmfgajgefdaaDoorRows.lean that lists a variable, with what it lists TIED to the program's text (the seventh form; the later family's looks); each row that meets fmt, with fmt's text TOLD by the authors' own Lean function (tested against real Go, not proved from fmt's source: count such statements apart). THE CARD IS WHAT COUNTS. Prove the row's statement (the work); the ties are given (YtdlbmfgajgefdaaDoorTie.lean); close each card by the builder's one call (the guide's Derived/Test/ToyasCard.lean, 'card_holds'). Laid BY PROGRAM, IN A SANDBOX (cutbox-door.mjs). By AI agents, Wed Nov 11 2026. No macro, syntax, notation, axiom, sorry.
-/
import Derived.Test.YtdlbmfgajgefdaaDoorRows
import GoSem.ClaimSeven
namespace Go.Proofs.YtdlbmfgajgefdaaDoor
namespace Rows

/-- THE TIED CARD OF 'halfwayhouselaw08.EmitNames'. -/
def emitNamesCard : Claim7 := { stood := { row := emitNamesRow, standIns := [], harness := (true, "a6426cc00f9b7bc300a049fa3a77ca6c894910774b5d4437ed398469b8847f0a"), looks := false }, kinds := [], alts := [], laidByText := true, laidKinds := [.data, .data, .data, .data, .pinned], laidTests := true, laidLooks := .later }
def EmitNamesCardSaid : Prop := Claim7.holds Tryd.pinned (.plain (OpenSpec.ofChange emitNamesSpec)) emitNamesCard

/-- THE SECOND FORM's CARD OF 'halfwayhouselaw08.EmitNames'. -/
def emitNamesUptoCard : Claim7 := { stood := { row := emitNamesUptoRow, standIns := [], harness := (true, "a6426cc00f9b7bc300a049fa3a77ca6c894910774b5d4437ed398469b8847f0a"), looks := false }, kinds := [], alts := [], laidByText := true, laidKinds := [.data, .data, .data, .data, .pinned], laidTests := true, laidLooks := .later }
def EmitNamesUptoCardSaid : Prop := Claim7.holds Tryd.pinned (.plain (OpenSpec.upto emitNamesSpec)) emitNamesUptoCard
end Rows
end Go.Proofs.YtdlbmfgajgefdaaDoor
