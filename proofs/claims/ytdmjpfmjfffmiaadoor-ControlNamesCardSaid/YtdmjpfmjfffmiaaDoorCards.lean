/-
  DERIVED. GIVEN WITH THE SEED: THE CARDS: each row of YtdmjpfmjfffmiaaDoorRows.lean that lists a variable, with what it lists TIED to the program's text (the seventh form; the later family's looks); each row that meets fmt, with fmt's text TOLD by the authors' own Lean function (tested against real Go, not proved from fmt's source: count such statements apart). THE CARD IS WHAT COUNTS. Prove the row's statement (the work); the ties are given (YtdmjpfmjfffmiaaDoorTie.lean); close each card by the builder's one call (the guide's Derived/Test/ToyasCard.lean, 'card_holds'). Laid BY PROGRAM, IN A SANDBOX (cutbox-door.mjs). By AI agents, Wed Nov 11 2026. No macro, syntax, notation, axiom, sorry.
-/
import Derived.Test.YtdmjpfmjfffmiaaDoorRows
import GoSem.ClaimSeven
namespace Go.Proofs.YtdmjpfmjfffmiaaDoor
namespace Rows

/-- THE TIED CARD OF 'halfwayhouselaw09.DateCalls'. -/
def dateCallsCard : Claim7 := { stood := { row := dateCallsRow, standIns := [], harness := (true, "ba06293275da8df8a5e577af37ae855d54b2789635a8b602a77a72cbf941aa2c"), looks := false }, kinds := [], alts := [], laidByText := true, laidKinds := [.data, .data, .data, .data, .data, .data, .pinned], laidTests := true, laidLooks := .later }
def DateCallsCardSaid : Prop := Claim7.holds Tryd.pinned (.plain (OpenSpec.ofChange dateCallsSpec)) dateCallsCard

/-- THE TIED CARD OF 'halfwayhouselaw10.ControlNames'. -/
def controlNamesCard : Claim7 := { stood := { row := controlNamesRow, standIns := [], harness := (true, "ba06293275da8df8a5e577af37ae855d54b2789635a8b602a77a72cbf941aa2c"), looks := false }, kinds := [], alts := [], laidByText := true, laidKinds := [.data, .data, .data, .data, .pinned], laidTests := true, laidLooks := .later }
def ControlNamesCardSaid : Prop := Claim7.holds Tryd.pinned (.plain (OpenSpec.ofChange controlNamesSpec)) controlNamesCard

/-- THE TIED CARD OF 'halfwayhouselaw10.ControlBack'. -/
def controlBackCard : Claim7 := { stood := { row := controlBackRow, standIns := [], harness := (true, "ba06293275da8df8a5e577af37ae855d54b2789635a8b602a77a72cbf941aa2c"), looks := false }, kinds := [], alts := [], laidByText := true, laidKinds := [.data, .data, .data, .data, .pinned], laidTests := true, laidLooks := .later }
def ControlBackCardSaid : Prop := Claim7.holds Tryd.pinned (.plain (OpenSpec.ofChange controlBackSpec)) controlBackCard

/-- THE TIED CARD OF 'halfwayhouselaw10.ControlMore'. -/
def controlMoreCard : Claim7 := { stood := { row := controlMoreRow, standIns := [], harness := (true, "ba06293275da8df8a5e577af37ae855d54b2789635a8b602a77a72cbf941aa2c"), looks := false }, kinds := [], alts := [], laidByText := true, laidKinds := [.data, .data, .data, .data, .pinned], laidTests := true, laidLooks := .later }
def ControlMoreCardSaid : Prop := Claim7.holds Tryd.pinned (.plain (OpenSpec.ofChange controlMoreSpec)) controlMoreCard

/-- THE TIED CARD OF 'halfwayhouselaw10.ControlEach'. -/
def controlEachCard : Claim7 := { stood := { row := controlEachRow, standIns := [], harness := (true, "ba06293275da8df8a5e577af37ae855d54b2789635a8b602a77a72cbf941aa2c"), looks := false }, kinds := [], alts := [], laidByText := true, laidKinds := [.data, .pinned], laidTests := true, laidLooks := .later }
def ControlEachCardSaid : Prop := Claim7.holds Tryd.pinned (.plain (OpenSpec.ofChange controlEachSpec)) controlEachCard

/-- THE SECOND FORM's CARD OF 'halfwayhouselaw09.DateCalls'. -/
def dateCallsUptoCard : Claim7 := { stood := { row := dateCallsUptoRow, standIns := [], harness := (true, "ba06293275da8df8a5e577af37ae855d54b2789635a8b602a77a72cbf941aa2c"), looks := false }, kinds := [], alts := [], laidByText := true, laidKinds := [.data, .data, .data, .data, .data, .data, .pinned], laidTests := true, laidLooks := .later }
def DateCallsUptoCardSaid : Prop := Claim7.holds Tryd.pinned (.plain (OpenSpec.upto dateCallsSpec)) dateCallsUptoCard

/-- THE SECOND FORM's CARD OF 'halfwayhouselaw10.ControlNames'. -/
def controlNamesUptoCard : Claim7 := { stood := { row := controlNamesUptoRow, standIns := [], harness := (true, "ba06293275da8df8a5e577af37ae855d54b2789635a8b602a77a72cbf941aa2c"), looks := false }, kinds := [], alts := [], laidByText := true, laidKinds := [.data, .data, .data, .data, .pinned], laidTests := true, laidLooks := .later }
def ControlNamesUptoCardSaid : Prop := Claim7.holds Tryd.pinned (.plain (OpenSpec.upto controlNamesSpec)) controlNamesUptoCard

/-- THE SECOND FORM's CARD OF 'halfwayhouselaw10.ControlBack'. -/
def controlBackUptoCard : Claim7 := { stood := { row := controlBackUptoRow, standIns := [], harness := (true, "ba06293275da8df8a5e577af37ae855d54b2789635a8b602a77a72cbf941aa2c"), looks := false }, kinds := [], alts := [], laidByText := true, laidKinds := [.data, .data, .data, .data, .pinned], laidTests := true, laidLooks := .later }
def ControlBackUptoCardSaid : Prop := Claim7.holds Tryd.pinned (.plain (OpenSpec.upto controlBackSpec)) controlBackUptoCard

/-- THE SECOND FORM's CARD OF 'halfwayhouselaw10.ControlMore'. -/
def controlMoreUptoCard : Claim7 := { stood := { row := controlMoreUptoRow, standIns := [], harness := (true, "ba06293275da8df8a5e577af37ae855d54b2789635a8b602a77a72cbf941aa2c"), looks := false }, kinds := [], alts := [], laidByText := true, laidKinds := [.data, .data, .data, .data, .pinned], laidTests := true, laidLooks := .later }
def ControlMoreUptoCardSaid : Prop := Claim7.holds Tryd.pinned (.plain (OpenSpec.upto controlMoreSpec)) controlMoreUptoCard

/-- THE SECOND FORM's CARD OF 'halfwayhouselaw10.ControlEach'. -/
def controlEachUptoCard : Claim7 := { stood := { row := controlEachUptoRow, standIns := [], harness := (true, "ba06293275da8df8a5e577af37ae855d54b2789635a8b602a77a72cbf941aa2c"), looks := false }, kinds := [], alts := [], laidByText := true, laidKinds := [.data, .pinned], laidTests := true, laidLooks := .later }
def ControlEachUptoCardSaid : Prop := Claim7.holds Tryd.pinned (.plain (OpenSpec.upto controlEachSpec)) controlEachUptoCard
end Rows
end Go.Proofs.YtdmjpfmjfffmiaaDoor
