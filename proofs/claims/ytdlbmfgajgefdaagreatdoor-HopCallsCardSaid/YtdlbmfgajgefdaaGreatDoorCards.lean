/-
  DERIVED. GIVEN WITH THE SEED: THE CARDS: each row of YtdlbmfgajgefdaaGreatDoorRows.lean that lists a variable, with what it lists TIED to the program's text (the seventh form; the later family's looks); each row that meets fmt, with fmt's text TOLD by the authors' own Lean function (tested against real Go, not proved from fmt's source: count such statements apart). THE CARD IS WHAT COUNTS. Prove the row's statement (the work); the ties are given (YtdlbmfgajgefdaaGreatDoorTie.lean); close each card by the builder's one call (the guide's Derived/Test/ToyasCard.lean, 'card_holds'). Laid BY PROGRAM, IN A SANDBOX (cutbox-door.mjs). By AI agents, Wed Nov 11 2026. No macro, syntax, notation, axiom, sorry.
-/
import Derived.Test.YtdlbmfgajgefdaaGreatDoorRows
import GoSem.ClaimSeven
namespace Go.Proofs.YtdlbmfgajgefdaaGreatDoor
namespace Rows

/-- THE TIED CARD OF 'halfwayhouselaw07.HopCalls'. -/
def hopCallsCard : Claim7 := { stood := { row := hopCallsRow, standIns := [], harness := (true, "81e52b9c9112c3bc87f9d85742b67b43acc3f9794b3396c3ecdf9117e5bca31c"), looks := false }, kinds := [], alts := [], laidByText := true, laidKinds := [.data, .data, .data, .data, .pinned], laidTests := true, laidLooks := .later }
def HopCallsCardSaid : Prop := Claim7.holds Tryz.pinned (.plain (OpenSpec.ofChange hopCallsSpec)) hopCallsCard

/-- THE TIED CARD OF 'halfwayhouselaw08.EmitCalls'. -/
def emitCallsCard : Claim7 := { stood := { row := emitCallsRow, standIns := [], harness := (true, "81e52b9c9112c3bc87f9d85742b67b43acc3f9794b3396c3ecdf9117e5bca31c"), looks := false }, kinds := [], alts := [], laidByText := true, laidKinds := [.data, .data, .data, .data, .pinned], laidTests := true, laidLooks := .later }
def EmitCallsCardSaid : Prop := Claim7.holds Tryz.pinned (.plain (OpenSpec.ofChange emitCallsSpec)) emitCallsCard

/-- THE TIED CARD OF 'halfwayhouselaw08.EmitBack'. -/
def emitBackCard : Claim7 := { stood := { row := emitBackRow, standIns := [], harness := (true, "81e52b9c9112c3bc87f9d85742b67b43acc3f9794b3396c3ecdf9117e5bca31c"), looks := false }, kinds := [], alts := [], laidByText := true, laidKinds := [.data, .data, .data, .data, .pinned], laidTests := true, laidLooks := .later }
def EmitBackCardSaid : Prop := Claim7.holds Tryz.pinned (.plain (OpenSpec.ofChange emitBackSpec)) emitBackCard

/-- THE TIED CARD OF 'halfwayhouselaw08.EmitAnswers'. -/
def emitAnswersCard : Claim7 := { stood := { row := emitAnswersRow, standIns := [], harness := (true, "81e52b9c9112c3bc87f9d85742b67b43acc3f9794b3396c3ecdf9117e5bca31c"), looks := false }, kinds := [], alts := [], laidByText := true, laidKinds := [.data, .data, .data, .data, .pinned], laidTests := true, laidLooks := .later }
def EmitAnswersCardSaid : Prop := Claim7.holds Tryz.pinned (.plain (OpenSpec.ofChange emitAnswersSpec)) emitAnswersCard

/-- THE TIED CARD OF 'halfwayhouselaw08.EmitOwn'. -/
def emitOwnCard : Claim7 := { stood := { row := emitOwnRow, standIns := [], harness := (true, "81e52b9c9112c3bc87f9d85742b67b43acc3f9794b3396c3ecdf9117e5bca31c"), looks := false }, kinds := [], alts := [], laidByText := true, laidKinds := [.data, .data, .data, .data, .pinned], laidTests := true, laidLooks := .later }
def EmitOwnCardSaid : Prop := Claim7.holds Tryz.pinned (.plain (OpenSpec.ofChange emitOwnSpec)) emitOwnCard

/-- THE SECOND FORM's CARD OF 'halfwayhouselaw07.HopCalls'. -/
def hopCallsUptoCard : Claim7 := { stood := { row := hopCallsUptoRow, standIns := [], harness := (true, "81e52b9c9112c3bc87f9d85742b67b43acc3f9794b3396c3ecdf9117e5bca31c"), looks := false }, kinds := [], alts := [], laidByText := true, laidKinds := [.data, .data, .data, .data, .pinned], laidTests := true, laidLooks := .later }
def HopCallsUptoCardSaid : Prop := Claim7.holds Tryz.pinned (.plain (OpenSpec.upto hopCallsSpec)) hopCallsUptoCard

/-- THE SECOND FORM's CARD OF 'halfwayhouselaw08.EmitCalls'. -/
def emitCallsUptoCard : Claim7 := { stood := { row := emitCallsUptoRow, standIns := [], harness := (true, "81e52b9c9112c3bc87f9d85742b67b43acc3f9794b3396c3ecdf9117e5bca31c"), looks := false }, kinds := [], alts := [], laidByText := true, laidKinds := [.data, .data, .data, .data, .pinned], laidTests := true, laidLooks := .later }
def EmitCallsUptoCardSaid : Prop := Claim7.holds Tryz.pinned (.plain (OpenSpec.upto emitCallsSpec)) emitCallsUptoCard

/-- THE SECOND FORM's CARD OF 'halfwayhouselaw08.EmitBack'. -/
def emitBackUptoCard : Claim7 := { stood := { row := emitBackUptoRow, standIns := [], harness := (true, "81e52b9c9112c3bc87f9d85742b67b43acc3f9794b3396c3ecdf9117e5bca31c"), looks := false }, kinds := [], alts := [], laidByText := true, laidKinds := [.data, .data, .data, .data, .pinned], laidTests := true, laidLooks := .later }
def EmitBackUptoCardSaid : Prop := Claim7.holds Tryz.pinned (.plain (OpenSpec.upto emitBackSpec)) emitBackUptoCard

/-- THE SECOND FORM's CARD OF 'halfwayhouselaw08.EmitAnswers'. -/
def emitAnswersUptoCard : Claim7 := { stood := { row := emitAnswersUptoRow, standIns := [], harness := (true, "81e52b9c9112c3bc87f9d85742b67b43acc3f9794b3396c3ecdf9117e5bca31c"), looks := false }, kinds := [], alts := [], laidByText := true, laidKinds := [.data, .data, .data, .data, .pinned], laidTests := true, laidLooks := .later }
def EmitAnswersUptoCardSaid : Prop := Claim7.holds Tryz.pinned (.plain (OpenSpec.upto emitAnswersSpec)) emitAnswersUptoCard

/-- THE SECOND FORM's CARD OF 'halfwayhouselaw08.EmitOwn'. -/
def emitOwnUptoCard : Claim7 := { stood := { row := emitOwnUptoRow, standIns := [], harness := (true, "81e52b9c9112c3bc87f9d85742b67b43acc3f9794b3396c3ecdf9117e5bca31c"), looks := false }, kinds := [], alts := [], laidByText := true, laidKinds := [.data, .data, .data, .data, .pinned], laidTests := true, laidLooks := .later }
def EmitOwnUptoCardSaid : Prop := Claim7.holds Tryz.pinned (.plain (OpenSpec.upto emitOwnSpec)) emitOwnUptoCard
end Rows
end Go.Proofs.YtdlbmfgajgefdaaGreatDoor
