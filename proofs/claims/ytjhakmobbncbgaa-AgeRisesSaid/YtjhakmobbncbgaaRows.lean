/-
  No cell of these rows narrows 'for every input' (looked for: loops, veiled, ifaces, maps, wideKeys, modest, calm, conditions, laid).
  DERIVED. THE GIVEN ROWS OF THIS SEAT. 4 by the template 'for every input the law returns true; each argument reads behind the call as it read before'; 0 by the template 'total and deterministic' (their statements: YtjhakmobbncbgaaTotals.lean).
  GIVEN WITH THE SEED: the statements are not yours to turn. If you find one false, say at which input.
  Laid BY PROGRAM, IN A SANDBOX (cutbox-rows.mjs): the forced cells as the released guide's own fill.sh prints them over the translation f18ce23d0e3bf2d7… (all of the seat's roots in one cut). By AI agents, Wed Nov 11 2026. No macro, syntax, notation, axiom, sorry.
-/
import Derived.Test.YtjhakmobbncbgaaChecked
import GoSem.Claim
import GoSem.ClaimJoined
import GoSem.ClaimMapViews
import Derived.JoinedTies
import Derived.KernelRfl
namespace Go.Proofs.Ytjhakmobbncbgaa
/- THE CELL 'sum', in the pinned program and in every row, IS THE sha256 OF THE DUMP (.gsa) THAT YtjhakmobbncbgaaProg.lean LOADS. Nothing in Lean hashes anything: it is a label: what it is worth is what the hold of that sum in a sandbox is worth. -/
noncomputable def Try.pinned : Pinned := { name := "ytjhakmobbncbgaa", sum := "f18ce23d0e3bf2d7a6b0caee542efd876477c9d76be090e9580b5f92e4f10dc7", checked := Try.checked }
namespace Rows
def none {H : Type} : Left H := { results := [], args := [] }

/-- 'halfwayhouselaw14.AgeRises': WHATEVER THE INPUT: true; the input reads as it did. -/
def ageRisesSpec : ChangeSpec := { name := "ageRises", fn := fun _ => fun
  | [d1, d2, d3, d4] => { results := [.lit (.bool true)], args := [d1, d2, d3, d4] }
  | _ => none }
def ageRisesRow : OpenClaim := { program := "ytjhakmobbncbgaa", sum := "f18ce23d0e3bf2d7a6b0caee542efd876477c9d76be090e9580b5f92e4f10dc7", func := "halfwayhouse/halfwayhouselaw14.AgeRises", spec := "ageRises", inPlace := ["math.archFloor", "math.Float64bits", "math.Float64frombits", "math.archTrunc"], apart := false }
def AgeRisesSaid : Prop := ageRisesRow.holds Try.pinned (OpenSpec.ofChange ageRisesSpec)

/-- ITS FALSE NEIGHBOUR: 'it returns false'. Refute it at one input. -/
def ageRisesWrong : ChangeSpec := { name := "ageRises", fn := fun _ => fun
  | [d1, d2, d3, d4] => { results := [.lit (.bool false)], args := [d1, d2, d3, d4] }
  | _ => none }
def AgeRisesWrongFalsely : Prop := ageRisesRow.holds Try.pinned (OpenSpec.ofChange ageRisesWrong)

/-- 'halfwayhouselaw14.AgeParts': WHATEVER THE INPUT: true; the input reads as it did. -/
def agePartsSpec : ChangeSpec := { name := "ageParts", fn := fun _ => fun
  | [d1, d2, d3, d4] => { results := [.lit (.bool true)], args := [d1, d2, d3, d4] }
  | _ => none }
def agePartsRow : OpenClaim := { program := "ytjhakmobbncbgaa", sum := "f18ce23d0e3bf2d7a6b0caee542efd876477c9d76be090e9580b5f92e4f10dc7", func := "halfwayhouse/halfwayhouselaw14.AgeParts", spec := "ageParts", inPlace := ["math.archFloor", "math.Float64bits", "math.Float64frombits", "math.archTrunc"], apart := false }
def AgePartsSaid : Prop := agePartsRow.holds Try.pinned (OpenSpec.ofChange agePartsSpec)

/-- ITS FALSE NEIGHBOUR: 'it returns false'. Refute it at one input. -/
def agePartsWrong : ChangeSpec := { name := "ageParts", fn := fun _ => fun
  | [d1, d2, d3, d4] => { results := [.lit (.bool false)], args := [d1, d2, d3, d4] }
  | _ => none }
def AgePartsWrongFalsely : Prop := agePartsRow.holds Try.pinned (OpenSpec.ofChange agePartsWrong)

/-- 'halfwayhouselaw14.AgeSums': WHATEVER THE INPUT: true; the input reads as it did. -/
def ageSumsSpec : ChangeSpec := { name := "ageSums", fn := fun _ => fun
  | [d1, d2, d3] => { results := [.lit (.bool true)], args := [d1, d2, d3] }
  | _ => none }
def ageSumsRow : OpenClaim := { program := "ytjhakmobbncbgaa", sum := "f18ce23d0e3bf2d7a6b0caee542efd876477c9d76be090e9580b5f92e4f10dc7", func := "halfwayhouse/halfwayhouselaw14.AgeSums", spec := "ageSums", inPlace := ["math.archFloor", "math.Float64bits", "math.Float64frombits", "math.archTrunc"], apart := false }
def AgeSumsSaid : Prop := ageSumsRow.holds Try.pinned (OpenSpec.ofChange ageSumsSpec)

/-- ITS FALSE NEIGHBOUR: 'it returns false'. Refute it at one input. -/
def ageSumsWrong : ChangeSpec := { name := "ageSums", fn := fun _ => fun
  | [d1, d2, d3] => { results := [.lit (.bool false)], args := [d1, d2, d3] }
  | _ => none }
def AgeSumsWrongFalsely : Prop := ageSumsRow.holds Try.pinned (OpenSpec.ofChange ageSumsWrong)

/-- 'halfwayhouselaw14.AgeHalves': WHATEVER THE INPUT: true; the input reads as it did. -/
def ageHalvesSpec : ChangeSpec := { name := "ageHalves", fn := fun _ => fun
  | [d1, d2] => { results := [.lit (.bool true)], args := [d1, d2] }
  | _ => none }
def ageHalvesRow : OpenClaim := { program := "ytjhakmobbncbgaa", sum := "f18ce23d0e3bf2d7a6b0caee542efd876477c9d76be090e9580b5f92e4f10dc7", func := "halfwayhouse/halfwayhouselaw14.AgeHalves", spec := "ageHalves", inPlace := ["math.archFloor", "math.Float64bits", "math.Float64frombits", "math.archTrunc"], apart := false }
def AgeHalvesSaid : Prop := ageHalvesRow.holds Try.pinned (OpenSpec.ofChange ageHalvesSpec)

/-- ITS FALSE NEIGHBOUR: 'it returns false'. Refute it at one input. -/
def ageHalvesWrong : ChangeSpec := { name := "ageHalves", fn := fun _ => fun
  | [d1, d2] => { results := [.lit (.bool false)], args := [d1, d2] }
  | _ => none }
def AgeHalvesWrongFalsely : Prop := ageHalvesRow.holds Try.pinned (OpenSpec.ofChange ageHalvesWrong)

/- THE SECOND FORM. 'bulk': how many values and letters a reading holds, each counted each time it is reached (what is shared counts as often as it is met; a slice's spare places count too). A statement '..UptoSaid' is the law's where the arguments, and the package variables that the reading takes, are together of bulk at most 1048576: NARROWER than '..Said'. Prove '..Said' where nothing that the law and all that it calls make is longer than what came in: it says more and counts as full. Else prove '..UptoSaid'. A law counts once. -/
mutual
def uptoBulk {H : Type} : DataW H → Nat
  | .lit (.string bytes) => bytes.length + 1
  | .lit _ => 1
  | .nil => 1
  | .ptr d => uptoBulk d + 1
  | .slice elems spare => uptoBulkAll elems + uptoBulkAll spare + 1
  | .agg parts => uptoBulkAll parts + 1
  | .iface _ d => uptoBulk d + 1
  | .map entries => uptoBulkEntries entries + 1
  | .held _ => 1
def uptoBulkAll {H : Type} : List (DataW H) → Nat
  | [] => 0
  | d :: r => uptoBulk d + uptoBulkAll r
def uptoBulkEntries {H : Type} : List (Lit × DataW H) → Nat
  | [] => 0
  | x :: r => uptoBulkEntry x + uptoBulkEntries r
def uptoBulkEntry {H : Type} : Lit × DataW H → Nat
  | (.string bytes, d) => bytes.length + uptoBulk d + 1
  | (_, d) => uptoBulk d + 1
 end
def uptoSmall : (H : Type) → List (DataW H) → Bool := fun _ ds => decide (uptoBulkAll ds ≤ 1048576)
def OpenSpec.upto (s : _root_.Go.ChangeSpec) : _root_.Go.OpenSpec := { _root_.Go.OpenSpec.ofChange s with cond := some uptoSmall }

/-- 'halfwayhouselaw14.AgeRises', WHERE WHAT IT READS IS OF BULK AT MOST 1048576: true; the input reads as it did. -/
def ageRisesUptoRow : OpenClaim := { program := "ytjhakmobbncbgaa", sum := "f18ce23d0e3bf2d7a6b0caee542efd876477c9d76be090e9580b5f92e4f10dc7", func := "halfwayhouse/halfwayhouselaw14.AgeRises", spec := "ageRises", inPlace := ["math.archFloor", "math.Float64bits", "math.Float64frombits", "math.archTrunc"], apart := false, narrowed := true }
def AgeRisesUptoSaid : Prop := ageRisesUptoRow.holds Try.pinned (OpenSpec.upto ageRisesSpec)

/-- 'halfwayhouselaw14.AgeParts', WHERE WHAT IT READS IS OF BULK AT MOST 1048576: true; the input reads as it did. -/
def agePartsUptoRow : OpenClaim := { program := "ytjhakmobbncbgaa", sum := "f18ce23d0e3bf2d7a6b0caee542efd876477c9d76be090e9580b5f92e4f10dc7", func := "halfwayhouse/halfwayhouselaw14.AgeParts", spec := "ageParts", inPlace := ["math.archFloor", "math.Float64bits", "math.Float64frombits", "math.archTrunc"], apart := false, narrowed := true }
def AgePartsUptoSaid : Prop := agePartsUptoRow.holds Try.pinned (OpenSpec.upto agePartsSpec)

/-- 'halfwayhouselaw14.AgeSums', WHERE WHAT IT READS IS OF BULK AT MOST 1048576: true; the input reads as it did. -/
def ageSumsUptoRow : OpenClaim := { program := "ytjhakmobbncbgaa", sum := "f18ce23d0e3bf2d7a6b0caee542efd876477c9d76be090e9580b5f92e4f10dc7", func := "halfwayhouse/halfwayhouselaw14.AgeSums", spec := "ageSums", inPlace := ["math.archFloor", "math.Float64bits", "math.Float64frombits", "math.archTrunc"], apart := false, narrowed := true }
def AgeSumsUptoSaid : Prop := ageSumsUptoRow.holds Try.pinned (OpenSpec.upto ageSumsSpec)

/-- 'halfwayhouselaw14.AgeHalves', WHERE WHAT IT READS IS OF BULK AT MOST 1048576: true; the input reads as it did. -/
def ageHalvesUptoRow : OpenClaim := { program := "ytjhakmobbncbgaa", sum := "f18ce23d0e3bf2d7a6b0caee542efd876477c9d76be090e9580b5f92e4f10dc7", func := "halfwayhouse/halfwayhouselaw14.AgeHalves", spec := "ageHalves", inPlace := ["math.archFloor", "math.Float64bits", "math.Float64frombits", "math.archTrunc"], apart := false, narrowed := true }
def AgeHalvesUptoSaid : Prop := ageHalvesUptoRow.holds Try.pinned (OpenSpec.upto ageHalvesSpec)

end Rows
end Go.Proofs.Ytjhakmobbncbgaa
