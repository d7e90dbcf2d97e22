/-
  DERIVED. GIVEN WITH THE SEED: THE CARDS: each row of YthooghgiokgdhaaDoorRows.lean that lists a variable, with what it lists TIED to the program's text (the seventh form; the later family's looks); each row that meets fmt, with fmt's text TOLD by the authors' own Lean function (tested against real Go, not proved from fmt's source: count such statements apart). THE CARD IS WHAT COUNTS. Prove the row's statement (the work); the ties are given (YthooghgiokgdhaaDoorTie.lean); close each card by the builder's one call (the guide's Derived/Test/ToyasCard.lean, 'card_holds'). Laid BY PROGRAM, IN A SANDBOX (cutbox-door.mjs). By AI agents, Wed Nov 11 2026. No macro, syntax, notation, axiom, sorry.
-/
import Derived.Test.YthooghgiokgdhaaDoorRows
import GoSem.ClaimSeven
namespace Go.Proofs.YthooghgiokgdhaaDoor
namespace Rows

/-- THE TIED CARD OF 'halfwayhouselaw12.VaryNames'. -/
def varyNamesCard : Claim7 := { stood := { row := varyNamesRow, standIns := [], harness := (true, "7e27dc698ad9899931571c6be5e534b89a3045c1a004649ced2148327ebbcc31"), looks := false }, kinds := [], alts := [], laidByText := true, laidKinds := [.data, .data, .data, .data, .pinned], laidTests := true, laidLooks := .later }
def VaryNamesCardSaid : Prop := Claim7.holds Tryd.pinned (.plain (OpenSpec.ofChange varyNamesSpec)) varyNamesCard

/-- THE TIED CARD OF 'halfwayhouselaw12.VaryKeys'. -/
def varyKeysCard : Claim7 := { stood := { row := varyKeysRow, standIns := [], harness := (true, "7e27dc698ad9899931571c6be5e534b89a3045c1a004649ced2148327ebbcc31"), looks := false }, kinds := [], alts := [], laidByText := true, laidKinds := [.data, .data, .data, .data, .pinned], laidTests := true, laidLooks := .later }
def VaryKeysCardSaid : Prop := Claim7.holds Tryd.pinned (.plain (OpenSpec.ofChange varyKeysSpec)) varyKeysCard

/-- THE TIED CARD OF 'halfwayhouselaw12.VaryRises'. -/
def varyRisesCard : Claim7 := { stood := { row := varyRisesRow, standIns := [], harness := (true, "7e27dc698ad9899931571c6be5e534b89a3045c1a004649ced2148327ebbcc31"), looks := false }, kinds := [], alts := [], laidByText := true, laidKinds := [.data, .pinned], laidTests := true, laidLooks := .later }
def VaryRisesCardSaid : Prop := Claim7.holds Tryd.pinned (.plain (OpenSpec.ofChange varyRisesSpec)) varyRisesCard

/-- THE TIED CARD OF 'halfwayhouselaw12.VaryWhite'. -/
def varyWhiteCard : Claim7 := { stood := { row := varyWhiteRow, standIns := [], harness := (true, "7e27dc698ad9899931571c6be5e534b89a3045c1a004649ced2148327ebbcc31"), looks := false }, kinds := [], alts := [], laidByText := true, laidKinds := [.data, .pinned], laidTests := true, laidLooks := .later }
def VaryWhiteCardSaid : Prop := Claim7.holds Tryd.pinned (.plain (OpenSpec.ofChange varyWhiteSpec)) varyWhiteCard

/-- THE SECOND FORM's CARD OF 'halfwayhouselaw12.VaryNames'. -/
def varyNamesUptoCard : Claim7 := { stood := { row := varyNamesUptoRow, standIns := [], harness := (true, "7e27dc698ad9899931571c6be5e534b89a3045c1a004649ced2148327ebbcc31"), looks := false }, kinds := [], alts := [], laidByText := true, laidKinds := [.data, .data, .data, .data, .pinned], laidTests := true, laidLooks := .later }
def VaryNamesUptoCardSaid : Prop := Claim7.holds Tryd.pinned (.plain (OpenSpec.upto varyNamesSpec)) varyNamesUptoCard

/-- THE SECOND FORM's CARD OF 'halfwayhouselaw12.VaryKeys'. -/
def varyKeysUptoCard : Claim7 := { stood := { row := varyKeysUptoRow, standIns := [], harness := (true, "7e27dc698ad9899931571c6be5e534b89a3045c1a004649ced2148327ebbcc31"), looks := false }, kinds := [], alts := [], laidByText := true, laidKinds := [.data, .data, .data, .data, .pinned], laidTests := true, laidLooks := .later }
def VaryKeysUptoCardSaid : Prop := Claim7.holds Tryd.pinned (.plain (OpenSpec.upto varyKeysSpec)) varyKeysUptoCard

/-- THE SECOND FORM's CARD OF 'halfwayhouselaw12.VaryRises'. -/
def varyRisesUptoCard : Claim7 := { stood := { row := varyRisesUptoRow, standIns := [], harness := (true, "7e27dc698ad9899931571c6be5e534b89a3045c1a004649ced2148327ebbcc31"), looks := false }, kinds := [], alts := [], laidByText := true, laidKinds := [.data, .pinned], laidTests := true, laidLooks := .later }
def VaryRisesUptoCardSaid : Prop := Claim7.holds Tryd.pinned (.plain (OpenSpec.upto varyRisesSpec)) varyRisesUptoCard

/-- THE SECOND FORM's CARD OF 'halfwayhouselaw12.VaryWhite'. -/
def varyWhiteUptoCard : Claim7 := { stood := { row := varyWhiteUptoRow, standIns := [], harness := (true, "7e27dc698ad9899931571c6be5e534b89a3045c1a004649ced2148327ebbcc31"), looks := false }, kinds := [], alts := [], laidByText := true, laidKinds := [.data, .pinned], laidTests := true, laidLooks := .later }
def VaryWhiteUptoCardSaid : Prop := Claim7.holds Tryd.pinned (.plain (OpenSpec.upto varyWhiteSpec)) varyWhiteUptoCard
end Rows
end Go.Proofs.YthooghgiokgdhaaDoor
