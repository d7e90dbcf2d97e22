/-
  DERIVED. GIVEN WITH THE SEED: THE CARDS: each row of YtdpfeedpnnicjaaDoorRows.lean that lists a variable, with what it lists TIED to the program's text (the seventh form; the later family's looks); each row that meets fmt, with fmt's text TOLD by the authors' own Lean function (tested against real Go, not proved from fmt's source: count such statements apart). THE CARD IS WHAT COUNTS. Prove the row's statement (the work); the ties are given (YtdpfeedpnnicjaaDoorTie.lean); close each card by the builder's one call (the guide's Derived/Test/ToyasCard.lean, 'card_holds'). Laid BY PROGRAM, IN A SANDBOX (cutbox-door.mjs). By AI agents, Wed Nov 11 2026. No macro, syntax, notation, axiom, sorry.
-/
import Derived.Test.YtdpfeedpnnicjaaDoorRows
import GoSem.ClaimSeven
namespace Go.Proofs.YtdpfeedpnnicjaaDoor
namespace Rows

/-- THE TIED CARD OF 'halfwayhouselaw09.DateNames'. -/
def dateNamesCard : Claim7 := { stood := { row := dateNamesRow, standIns := [], harness := (true, "c63976376e399bd78ee19df34c10c6f93f5ad36644779e18d04aef66dbf5b95b"), looks := false }, kinds := [], alts := [], laidByText := true, laidKinds := [.data, .data, .data, .data, .data, .data, .pinned], laidTests := true, laidLooks := .later }
def DateNamesCardSaid : Prop := Claim7.holds Tryd.pinned (.plain (OpenSpec.ofChange dateNamesSpec)) dateNamesCard

/-- THE TIED CARD OF 'halfwayhouselaw09.DateCalls'. -/
def dateCallsCard : Claim7 := { stood := { row := dateCallsRow, standIns := [], harness := (true, "c63976376e399bd78ee19df34c10c6f93f5ad36644779e18d04aef66dbf5b95b"), looks := false }, kinds := [], alts := [], laidByText := true, laidKinds := [.data, .data, .data, .data, .data, .data, .pinned], laidTests := true, laidLooks := .later }
def DateCallsCardSaid : Prop := Claim7.holds Tryd.pinned (.plain (OpenSpec.ofChange dateCallsSpec)) dateCallsCard

/-- THE TIED CARD OF 'halfwayhouselaw09.DateBack'. -/
def dateBackCard : Claim7 := { stood := { row := dateBackRow, standIns := [], harness := (true, "c63976376e399bd78ee19df34c10c6f93f5ad36644779e18d04aef66dbf5b95b"), looks := false }, kinds := [], alts := [], laidByText := true, laidKinds := [.data, .data, .data, .data, .data, .data, .pinned], laidTests := true, laidLooks := .later }
def DateBackCardSaid : Prop := Claim7.holds Tryd.pinned (.plain (OpenSpec.ofChange dateBackSpec)) dateBackCard

/-- THE TIED CARD OF 'halfwayhouselaw09.DateRises'. -/
def dateRisesCard : Claim7 := { stood := { row := dateRisesRow, standIns := [], harness := (true, "c63976376e399bd78ee19df34c10c6f93f5ad36644779e18d04aef66dbf5b95b"), looks := false }, kinds := [], alts := [], laidByText := true, laidKinds := [.data, .data, .data, .data, .data, .data, .pinned], laidTests := true, laidLooks := .later }
def DateRisesCardSaid : Prop := Claim7.holds Tryd.pinned (.plain (OpenSpec.ofChange dateRisesSpec)) dateRisesCard

/-- THE TIED CARD OF 'halfwayhouselaw09.DateForms'. -/
def dateFormsCard : Claim7 := { stood := { row := dateFormsRow, standIns := [], harness := (true, "c63976376e399bd78ee19df34c10c6f93f5ad36644779e18d04aef66dbf5b95b"), looks := false }, kinds := [], alts := [], laidByText := true, laidKinds := [.data, .data, .data, .data, .data, .data, .pinned], laidTests := true, laidLooks := .later }
def DateFormsCardSaid : Prop := Claim7.holds Tryd.pinned (.plain (OpenSpec.ofChange dateFormsSpec)) dateFormsCard

/-- THE SECOND FORM's CARD OF 'halfwayhouselaw09.DateNames'. -/
def dateNamesUptoCard : Claim7 := { stood := { row := dateNamesUptoRow, standIns := [], harness := (true, "c63976376e399bd78ee19df34c10c6f93f5ad36644779e18d04aef66dbf5b95b"), looks := false }, kinds := [], alts := [], laidByText := true, laidKinds := [.data, .data, .data, .data, .data, .data, .pinned], laidTests := true, laidLooks := .later }
def DateNamesUptoCardSaid : Prop := Claim7.holds Tryd.pinned (.plain (OpenSpec.upto dateNamesSpec)) dateNamesUptoCard

/-- THE SECOND FORM's CARD OF 'halfwayhouselaw09.DateCalls'. -/
def dateCallsUptoCard : Claim7 := { stood := { row := dateCallsUptoRow, standIns := [], harness := (true, "c63976376e399bd78ee19df34c10c6f93f5ad36644779e18d04aef66dbf5b95b"), looks := false }, kinds := [], alts := [], laidByText := true, laidKinds := [.data, .data, .data, .data, .data, .data, .pinned], laidTests := true, laidLooks := .later }
def DateCallsUptoCardSaid : Prop := Claim7.holds Tryd.pinned (.plain (OpenSpec.upto dateCallsSpec)) dateCallsUptoCard

/-- THE SECOND FORM's CARD OF 'halfwayhouselaw09.DateBack'. -/
def dateBackUptoCard : Claim7 := { stood := { row := dateBackUptoRow, standIns := [], harness := (true, "c63976376e399bd78ee19df34c10c6f93f5ad36644779e18d04aef66dbf5b95b"), looks := false }, kinds := [], alts := [], laidByText := true, laidKinds := [.data, .data, .data, .data, .data, .data, .pinned], laidTests := true, laidLooks := .later }
def DateBackUptoCardSaid : Prop := Claim7.holds Tryd.pinned (.plain (OpenSpec.upto dateBackSpec)) dateBackUptoCard

/-- THE SECOND FORM's CARD OF 'halfwayhouselaw09.DateRises'. -/
def dateRisesUptoCard : Claim7 := { stood := { row := dateRisesUptoRow, standIns := [], harness := (true, "c63976376e399bd78ee19df34c10c6f93f5ad36644779e18d04aef66dbf5b95b"), looks := false }, kinds := [], alts := [], laidByText := true, laidKinds := [.data, .data, .data, .data, .data, .data, .pinned], laidTests := true, laidLooks := .later }
def DateRisesUptoCardSaid : Prop := Claim7.holds Tryd.pinned (.plain (OpenSpec.upto dateRisesSpec)) dateRisesUptoCard

/-- THE SECOND FORM's CARD OF 'halfwayhouselaw09.DateForms'. -/
def dateFormsUptoCard : Claim7 := { stood := { row := dateFormsUptoRow, standIns := [], harness := (true, "c63976376e399bd78ee19df34c10c6f93f5ad36644779e18d04aef66dbf5b95b"), looks := false }, kinds := [], alts := [], laidByText := true, laidKinds := [.data, .data, .data, .data, .data, .data, .pinned], laidTests := true, laidLooks := .later }
def DateFormsUptoCardSaid : Prop := Claim7.holds Tryd.pinned (.plain (OpenSpec.upto dateFormsSpec)) dateFormsUptoCard
end Rows
end Go.Proofs.YtdpfeedpnnicjaaDoor
