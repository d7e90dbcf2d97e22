/-
  DERIVED. GIVEN WITH THE SEED: THE CARDS: each row of YtanilbckakoogaaGreatDoorRows.lean that lists a variable, with what it lists TIED to the program's text (the seventh form; the later family's looks); each row that meets fmt, with fmt's text TOLD by the authors' own Lean function (tested against real Go, not proved from fmt's source: count such statements apart). THE CARD IS WHAT COUNTS. Prove the row's statement (the work); the ties are given (YtanilbckakoogaaGreatDoorTie.lean); close each card by the builder's one call (the guide's Derived/Test/ToyasCard.lean, 'card_holds'). Laid BY PROGRAM, IN A SANDBOX (cutbox-door.mjs). By AI agents, Wed Nov 11 2026. No macro, syntax, notation, axiom, sorry.
-/
import Derived.Test.YtanilbckakoogaaGreatDoorRows
import GoSem.ClaimSeven
namespace Go.Proofs.YtanilbckakoogaaGreatDoor
namespace Rows

/-- THE TIED CARD OF 'halfwayhouselaw05.ChunkCalls'. -/
def chunkCallsCard : Claim7 := { stood := { row := chunkCallsRow, standIns := [], harness := (true, "71aac11eddba1586b4bf9537fb1919061c7defc8b7c112a821f0dea532ca03d1"), looks := true }, kinds := [], alts := [], laidByText := true, laidKinds := [.data, .data, .data, .data, .sentinel, .sentinel, .pinned], laidTests := true, laidLooks := .later }
def ChunkCallsCardSaid : Prop := Claim7.holds Tryz.pinned (.plain (OpenSpec.ofChange chunkCallsSpec)) chunkCallsCard

/-- THE SECOND FORM's CARD OF 'halfwayhouselaw05.ChunkCalls'. -/
def chunkCallsUptoCard : Claim7 := { stood := { row := chunkCallsUptoRow, standIns := [], harness := (true, "71aac11eddba1586b4bf9537fb1919061c7defc8b7c112a821f0dea532ca03d1"), looks := true }, kinds := [], alts := [], laidByText := true, laidKinds := [.data, .data, .data, .data, .sentinel, .sentinel, .pinned], laidTests := true, laidLooks := .later }
def ChunkCallsUptoCardSaid : Prop := Claim7.holds Tryz.pinned (.plain (OpenSpec.upto chunkCallsSpec)) chunkCallsUptoCard
end Rows
end Go.Proofs.YtanilbckakoogaaGreatDoor
