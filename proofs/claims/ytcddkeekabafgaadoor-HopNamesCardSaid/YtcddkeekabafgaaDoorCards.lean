/-
  DERIVED. GIVEN WITH THE SEED: THE CARDS: each row of YtcddkeekabafgaaDoorRows.lean that lists a variable, with what it lists TIED to the program's text (the seventh form; the later family's looks); each row that meets fmt, with fmt's text TOLD by the authors' own Lean function (tested against real Go, not proved from fmt's source: count such statements apart). THE CARD IS WHAT COUNTS. Prove the row's statement (the work); the ties are given (YtcddkeekabafgaaDoorTie.lean); close each card by the builder's one call (the guide's Derived/Test/ToyasCard.lean, 'card_holds'). Laid BY PROGRAM, IN A SANDBOX (cutbox-door.mjs). By AI agents, Wed Nov 11 2026. No macro, syntax, notation, axiom, sorry.
-/
import Derived.Test.YtcddkeekabafgaaDoorRows
import GoSem.ClaimSeven
namespace Go.Proofs.YtcddkeekabafgaaDoor
namespace Rows

/-- THE TIED CARD OF 'halfwayhouselaw07.HopNames'. -/
def hopNamesCard : Claim7 := { stood := { row := hopNamesRow, standIns := [], harness := (true, "69d1a8a1b1e8d5ed7be467eeb7b7928b514c579f740d30e513e1eab6686e7177"), looks := false }, kinds := [], alts := [], laidByText := true, laidKinds := [.data, .data, .data, .data, .pinned], laidTests := true, laidLooks := .later }
def HopNamesCardSaid : Prop := Claim7.holds Tryd.pinned (.plain (OpenSpec.ofChange hopNamesSpec)) hopNamesCard

/-- THE TIED CARD OF 'halfwayhouselaw07.HopStays'. -/
def hopStaysCard : Claim7 := { stood := { row := hopStaysRow, standIns := [], harness := (true, "69d1a8a1b1e8d5ed7be467eeb7b7928b514c579f740d30e513e1eab6686e7177"), looks := false }, kinds := [], alts := [], laidByText := true, laidKinds := [.data, .data, .data, .data, .pinned], laidTests := true, laidLooks := .later }
def HopStaysCardSaid : Prop := Claim7.holds Tryd.pinned (.plain (OpenSpec.ofChange hopStaysSpec)) hopStaysCard

/-- THE TIED CARD OF 'halfwayhouselaw07.HopNamed'. -/
def hopNamedCard : Claim7 := { stood := { row := hopNamedRow, standIns := [], harness := (true, "69d1a8a1b1e8d5ed7be467eeb7b7928b514c579f740d30e513e1eab6686e7177"), looks := false }, kinds := [], alts := [], laidByText := true, laidKinds := [.data, .data, .data, .data, .pinned], laidTests := true, laidLooks := .later }
def HopNamedCardSaid : Prop := Claim7.holds Tryd.pinned (.plain (OpenSpec.ofChange hopNamedSpec)) hopNamedCard

/-- THE SECOND FORM's CARD OF 'halfwayhouselaw07.HopNames'. -/
def hopNamesUptoCard : Claim7 := { stood := { row := hopNamesUptoRow, standIns := [], harness := (true, "69d1a8a1b1e8d5ed7be467eeb7b7928b514c579f740d30e513e1eab6686e7177"), looks := false }, kinds := [], alts := [], laidByText := true, laidKinds := [.data, .data, .data, .data, .pinned], laidTests := true, laidLooks := .later }
def HopNamesUptoCardSaid : Prop := Claim7.holds Tryd.pinned (.plain (OpenSpec.upto hopNamesSpec)) hopNamesUptoCard

/-- THE SECOND FORM's CARD OF 'halfwayhouselaw07.HopStays'. -/
def hopStaysUptoCard : Claim7 := { stood := { row := hopStaysUptoRow, standIns := [], harness := (true, "69d1a8a1b1e8d5ed7be467eeb7b7928b514c579f740d30e513e1eab6686e7177"), looks := false }, kinds := [], alts := [], laidByText := true, laidKinds := [.data, .data, .data, .data, .pinned], laidTests := true, laidLooks := .later }
def HopStaysUptoCardSaid : Prop := Claim7.holds Tryd.pinned (.plain (OpenSpec.upto hopStaysSpec)) hopStaysUptoCard

/-- THE SECOND FORM's CARD OF 'halfwayhouselaw07.HopNamed'. -/
def hopNamedUptoCard : Claim7 := { stood := { row := hopNamedUptoRow, standIns := [], harness := (true, "69d1a8a1b1e8d5ed7be467eeb7b7928b514c579f740d30e513e1eab6686e7177"), looks := false }, kinds := [], alts := [], laidByText := true, laidKinds := [.data, .data, .data, .data, .pinned], laidTests := true, laidLooks := .later }
def HopNamedUptoCardSaid : Prop := Claim7.holds Tryd.pinned (.plain (OpenSpec.upto hopNamedSpec)) hopNamedUptoCard
end Rows
end Go.Proofs.YtcddkeekabafgaaDoor
