/-
  DERIVED. GIVEN WITH THE SEED: THE CARDS: each row of YtajmheblbnodjaaDoorRows.lean that lists a variable, with what it lists TIED to the program's text (the seventh form; the later family's looks); each row that meets fmt, with fmt's text TOLD by the authors' own Lean function (tested against real Go, not proved from fmt's source: count such statements apart). THE CARD IS WHAT COUNTS. Prove the row's statement (the work); the ties are given (YtajmheblbnodjaaDoorTie.lean); close each card by the builder's one call (the guide's Derived/Test/ToyasCard.lean, 'card_holds'). Laid BY PROGRAM, IN A SANDBOX (cutbox-door.mjs). By AI agents, Wed Nov 11 2026. No macro, syntax, notation, axiom, sorry.
-/
import Derived.Test.YtajmheblbnodjaaDoorRows
import GoSem.ClaimSeven
namespace Go.Proofs.YtajmheblbnodjaaDoor
namespace Rows

/-- THE TIED CARD OF 'halfwayhouselaw09.DateCalls'. -/
def dateCallsCard : Claim7 := { stood := { row := dateCallsRow, standIns := [], harness := (true, "5e425a56e57fd2e989ab8c6be8af1b00453e536f069e6e5f58b6c511ec516824"), looks := false }, kinds := [], alts := [], laidByText := true, laidKinds := [.data, .data, .data, .data, .data, .data, .pinned], laidTests := true, laidLooks := .later }
def DateCallsCardSaid : Prop := Claim7.holds Tryd.pinned (.plain (OpenSpec.ofChange dateCallsSpec)) dateCallsCard

/-- THE TIED CARD OF 'halfwayhouselaw11.EtagWeak'. -/
def etagWeakCard : Claim7 := { stood := { row := etagWeakRow, standIns := [], harness := (true, "5e425a56e57fd2e989ab8c6be8af1b00453e536f069e6e5f58b6c511ec516824"), looks := false }, kinds := [], alts := [], laidByText := true, laidKinds := [.data, .data, .data, .data, .data, .data, .pinned], laidTests := true, laidLooks := .later }
def EtagWeakCardSaid : Prop := Claim7.holds Tryd.pinned (.plain (OpenSpec.ofChange etagWeakSpec)) etagWeakCard

/-- THE TIED CARD OF 'halfwayhouselaw11.EtagLists'. -/
def etagListsCard : Claim7 := { stood := { row := etagListsRow, standIns := [], harness := (true, "5e425a56e57fd2e989ab8c6be8af1b00453e536f069e6e5f58b6c511ec516824"), looks := false }, kinds := [], alts := [], laidByText := true, laidKinds := [.data, .data, .data, .data, .data, .data, .pinned], laidTests := true, laidLooks := .later }
def EtagListsCardSaid : Prop := Claim7.holds Tryd.pinned (.plain (OpenSpec.ofChange etagListsSpec)) etagListsCard

/-- THE SECOND FORM's CARD OF 'halfwayhouselaw09.DateCalls'. -/
def dateCallsUptoCard : Claim7 := { stood := { row := dateCallsUptoRow, standIns := [], harness := (true, "5e425a56e57fd2e989ab8c6be8af1b00453e536f069e6e5f58b6c511ec516824"), looks := false }, kinds := [], alts := [], laidByText := true, laidKinds := [.data, .data, .data, .data, .data, .data, .pinned], laidTests := true, laidLooks := .later }
def DateCallsUptoCardSaid : Prop := Claim7.holds Tryd.pinned (.plain (OpenSpec.upto dateCallsSpec)) dateCallsUptoCard

/-- THE SECOND FORM's CARD OF 'halfwayhouselaw11.EtagWeak'. -/
def etagWeakUptoCard : Claim7 := { stood := { row := etagWeakUptoRow, standIns := [], harness := (true, "5e425a56e57fd2e989ab8c6be8af1b00453e536f069e6e5f58b6c511ec516824"), looks := false }, kinds := [], alts := [], laidByText := true, laidKinds := [.data, .data, .data, .data, .data, .data, .pinned], laidTests := true, laidLooks := .later }
def EtagWeakUptoCardSaid : Prop := Claim7.holds Tryd.pinned (.plain (OpenSpec.upto etagWeakSpec)) etagWeakUptoCard

/-- THE SECOND FORM's CARD OF 'halfwayhouselaw11.EtagLists'. -/
def etagListsUptoCard : Claim7 := { stood := { row := etagListsUptoRow, standIns := [], harness := (true, "5e425a56e57fd2e989ab8c6be8af1b00453e536f069e6e5f58b6c511ec516824"), looks := false }, kinds := [], alts := [], laidByText := true, laidKinds := [.data, .data, .data, .data, .data, .data, .pinned], laidTests := true, laidLooks := .later }
def EtagListsUptoCardSaid : Prop := Claim7.holds Tryd.pinned (.plain (OpenSpec.upto etagListsSpec)) etagListsUptoCard
end Rows
end Go.Proofs.YtajmheblbnodjaaDoor
