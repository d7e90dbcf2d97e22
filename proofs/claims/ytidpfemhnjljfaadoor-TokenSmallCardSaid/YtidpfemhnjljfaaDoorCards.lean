/-
  DERIVED. GIVEN WITH THE SEED: THE CARDS: each row of YtidpfemhnjljfaaDoorRows.lean that lists a variable, with what it lists TIED to the program's text (the seventh form; the later family's looks); each row that meets fmt, with fmt's text TOLD by the authors' own Lean function (tested against real Go, not proved from fmt's source: count such statements apart). THE CARD IS WHAT COUNTS. Prove the row's statement (the work); the ties are given (YtidpfemhnjljfaaDoorTie.lean); close each card by the builder's one call (the guide's Derived/Test/ToyasCard.lean, 'card_holds'). Laid BY PROGRAM, IN A SANDBOX (cutbox-door.mjs). By AI agents, Wed Nov 11 2026. No macro, syntax, notation, axiom, sorry.
-/
import Derived.Test.YtidpfemhnjljfaaDoorRows
import GoSem.ClaimSeven
namespace Go.Proofs.YtidpfemhnjljfaaDoor
namespace Rows

/-- THE TIED CARD OF 'halfwayhouselaw01.TokenWeights'. -/
def tokenWeightsCard : Claim7 := { stood := { row := tokenWeightsRow, standIns := [], harness := (true, "52ee3dc40560eda744862eb6af0084c05364a9c622786cf93846374d411f8ec4"), looks := false }, kinds := [], alts := [], laidByText := true, laidKinds := [.data, .data, .data, .data, .data, .pinned, .pinned, .pinned], laidTests := true, laidLooks := .later }
def TokenWeightsCardSaid : Prop := Claim7.holds Tryd.pinned (.plain (OpenSpec.ofChange tokenWeightsSpec)) tokenWeightsCard

/-- THE TIED CARD OF 'halfwayhouselaw01.TokenBack'. -/
def tokenBackCard : Claim7 := { stood := { row := tokenBackRow, standIns := [], harness := (true, "52ee3dc40560eda744862eb6af0084c05364a9c622786cf93846374d411f8ec4"), looks := false }, kinds := [], alts := [], laidByText := true, laidKinds := [.data, .data, .data, .data, .data, .pinned, .pinned, .pinned], laidTests := true, laidLooks := .later }
def TokenBackCardSaid : Prop := Claim7.holds Tryd.pinned (.plain (OpenSpec.ofChange tokenBackSpec)) tokenBackCard

/-- THE TIED CARD OF 'halfwayhouselaw01.TokenSmall'. -/
def tokenSmallCard : Claim7 := { stood := { row := tokenSmallRow, standIns := [], harness := (true, "52ee3dc40560eda744862eb6af0084c05364a9c622786cf93846374d411f8ec4"), looks := false }, kinds := [], alts := [], laidByText := true, laidKinds := [.data, .data, .data, .data, .data, .pinned, .pinned, .pinned], laidTests := true, laidLooks := .later }
def TokenSmallCardSaid : Prop := Claim7.holds Tryd.pinned (.plain (OpenSpec.ofChange tokenSmallSpec)) tokenSmallCard

/-- THE TIED CARD OF 'halfwayhouselaw01.TokenNumbers'. -/
def tokenNumbersCard : Claim7 := { stood := { row := tokenNumbersRow, standIns := [], harness := (true, "52ee3dc40560eda744862eb6af0084c05364a9c622786cf93846374d411f8ec4"), looks := false }, kinds := [], alts := [], laidByText := true, laidKinds := [.data, .data, .data, .data, .data, .pinned, .pinned, .pinned], laidTests := true, laidLooks := .later }
def TokenNumbersCardSaid : Prop := Claim7.holds Tryd.pinned (.plain (OpenSpec.ofChange tokenNumbersSpec)) tokenNumbersCard

/-- THE TIED CARD OF 'halfwayhouselaw01.TokenQuoted'. -/
def tokenQuotedCard : Claim7 := { stood := { row := tokenQuotedRow, standIns := [], harness := (true, "52ee3dc40560eda744862eb6af0084c05364a9c622786cf93846374d411f8ec4"), looks := false }, kinds := [], alts := [], laidByText := true, laidKinds := [.data, .data, .data, .data, .data, .pinned, .pinned, .pinned], laidTests := true, laidLooks := .later }
def TokenQuotedCardSaid : Prop := Claim7.holds Tryd.pinned (.plain (OpenSpec.ofChange tokenQuotedSpec)) tokenQuotedCard

/-- THE SECOND FORM's CARD OF 'halfwayhouselaw01.TokenWeights'. -/
def tokenWeightsUptoCard : Claim7 := { stood := { row := tokenWeightsUptoRow, standIns := [], harness := (true, "52ee3dc40560eda744862eb6af0084c05364a9c622786cf93846374d411f8ec4"), looks := false }, kinds := [], alts := [], laidByText := true, laidKinds := [.data, .data, .data, .data, .data, .pinned, .pinned, .pinned], laidTests := true, laidLooks := .later }
def TokenWeightsUptoCardSaid : Prop := Claim7.holds Tryd.pinned (.plain (OpenSpec.upto tokenWeightsSpec)) tokenWeightsUptoCard

/-- THE SECOND FORM's CARD OF 'halfwayhouselaw01.TokenBack'. -/
def tokenBackUptoCard : Claim7 := { stood := { row := tokenBackUptoRow, standIns := [], harness := (true, "52ee3dc40560eda744862eb6af0084c05364a9c622786cf93846374d411f8ec4"), looks := false }, kinds := [], alts := [], laidByText := true, laidKinds := [.data, .data, .data, .data, .data, .pinned, .pinned, .pinned], laidTests := true, laidLooks := .later }
def TokenBackUptoCardSaid : Prop := Claim7.holds Tryd.pinned (.plain (OpenSpec.upto tokenBackSpec)) tokenBackUptoCard

/-- THE SECOND FORM's CARD OF 'halfwayhouselaw01.TokenSmall'. -/
def tokenSmallUptoCard : Claim7 := { stood := { row := tokenSmallUptoRow, standIns := [], harness := (true, "52ee3dc40560eda744862eb6af0084c05364a9c622786cf93846374d411f8ec4"), looks := false }, kinds := [], alts := [], laidByText := true, laidKinds := [.data, .data, .data, .data, .data, .pinned, .pinned, .pinned], laidTests := true, laidLooks := .later }
def TokenSmallUptoCardSaid : Prop := Claim7.holds Tryd.pinned (.plain (OpenSpec.upto tokenSmallSpec)) tokenSmallUptoCard

/-- THE SECOND FORM's CARD OF 'halfwayhouselaw01.TokenNumbers'. -/
def tokenNumbersUptoCard : Claim7 := { stood := { row := tokenNumbersUptoRow, standIns := [], harness := (true, "52ee3dc40560eda744862eb6af0084c05364a9c622786cf93846374d411f8ec4"), looks := false }, kinds := [], alts := [], laidByText := true, laidKinds := [.data, .data, .data, .data, .data, .pinned, .pinned, .pinned], laidTests := true, laidLooks := .later }
def TokenNumbersUptoCardSaid : Prop := Claim7.holds Tryd.pinned (.plain (OpenSpec.upto tokenNumbersSpec)) tokenNumbersUptoCard

/-- THE SECOND FORM's CARD OF 'halfwayhouselaw01.TokenQuoted'. -/
def tokenQuotedUptoCard : Claim7 := { stood := { row := tokenQuotedUptoRow, standIns := [], harness := (true, "52ee3dc40560eda744862eb6af0084c05364a9c622786cf93846374d411f8ec4"), looks := false }, kinds := [], alts := [], laidByText := true, laidKinds := [.data, .data, .data, .data, .data, .pinned, .pinned, .pinned], laidTests := true, laidLooks := .later }
def TokenQuotedUptoCardSaid : Prop := Claim7.holds Tryd.pinned (.plain (OpenSpec.upto tokenQuotedSpec)) tokenQuotedUptoCard
end Rows
end Go.Proofs.YtidpfemhnjljfaaDoor
