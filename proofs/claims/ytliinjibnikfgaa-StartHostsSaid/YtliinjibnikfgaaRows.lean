/-
  No cell of these rows narrows 'for every input' (looked for: loops, veiled, ifaces, maps, wideKeys, modest, calm, conditions, laid).
  DERIVED. THE GIVEN ROWS OF THIS SEAT. 3 by the template 'for every input the law returns true; each argument reads behind the call as it read before'; 0 by the template 'total and deterministic' (their statements: YtliinjibnikfgaaTotals.lean).
  GIVEN WITH THE SEED: the statements are not yours to turn. If you find one false, say at which input.
  Laid BY PROGRAM, IN A SANDBOX (cutbox-rows.mjs): the forced cells as the released guide's own fill.sh prints them over the translation 4a44fbfd0f7adc9a… (all of the seat's roots in one cut). By AI agents, Wed Nov 11 2026. No macro, syntax, notation, axiom, sorry.
-/
import Derived.Test.YtliinjibnikfgaaChecked
import GoSem.Claim
import GoSem.ClaimJoined
import GoSem.ClaimMapViews
import Derived.JoinedTies
import Derived.KernelRfl
namespace Go.Proofs.Ytliinjibnikfgaa
/- THE CELL 'sum', in the pinned program and in every row, IS THE sha256 OF THE DUMP (.gsa) THAT YtliinjibnikfgaaProg.lean LOADS. Nothing in Lean hashes anything: it is a label: what it is worth is what the hold of that sum in a sandbox is worth. -/
noncomputable def Try.pinned : Pinned := { name := "ytliinjibnikfgaa", sum := "4a44fbfd0f7adc9a9d5b3ce5c1b26734e8ade04b99e8b7e6514e6f620d87e7b2", checked := Try.checked }
namespace Rows
def none {H : Type} : Left H := { results := [], args := [] }

/-- 'halfwayhouselaw03.StartTargets': WHATEVER THE INPUT: true; the input reads as it did. -/
def startTargetsSpec : ChangeSpec := { name := "startTargets", fn := fun _ => fun
  | [d1, d2, d3] => { results := [.lit (.bool true)], args := [d1, d2, d3] }
  | _ => none }
def startTargetsRow : OpenClaim := { program := "ytliinjibnikfgaa", sum := "4a44fbfd0f7adc9a9d5b3ce5c1b26734e8ade04b99e8b7e6514e6f620d87e7b2", func := "halfwayhouse/halfwayhouselaw03.StartTargets", spec := "startTargets", inPlace := ["internal/bytealg.IndexByteString", "internal/bytealg.IndexString"], unfollowed := true, recurses := true, named := ["internal/bytealg.MaxLen"], apart := false }
def StartTargetsSaid : Prop := startTargetsRow.holds Try.pinned (OpenSpec.ofChange startTargetsSpec)

/-- ITS FALSE NEIGHBOUR: 'it returns false'. Refute it at one input. -/
def startTargetsWrong : ChangeSpec := { name := "startTargets", fn := fun _ => fun
  | [d1, d2, d3] => { results := [.lit (.bool false)], args := [d1, d2, d3] }
  | _ => none }
def StartTargetsWrongFalsely : Prop := startTargetsRow.holds Try.pinned (OpenSpec.ofChange startTargetsWrong)

/-- 'halfwayhouselaw03.StartVersions': WHATEVER THE INPUT: true; the input reads as it did. -/
def startVersionsSpec : ChangeSpec := { name := "startVersions", fn := fun _ => fun
  | [d1, d2, d3] => { results := [.lit (.bool true)], args := [d1, d2, d3] }
  | _ => none }
def startVersionsRow : OpenClaim := { program := "ytliinjibnikfgaa", sum := "4a44fbfd0f7adc9a9d5b3ce5c1b26734e8ade04b99e8b7e6514e6f620d87e7b2", func := "halfwayhouse/halfwayhouselaw03.StartVersions", spec := "startVersions", inPlace := ["internal/bytealg.IndexByteString", "internal/bytealg.IndexString"], unfollowed := true, recurses := true, named := ["internal/bytealg.MaxLen"], apart := false }
def StartVersionsSaid : Prop := startVersionsRow.holds Try.pinned (OpenSpec.ofChange startVersionsSpec)

/-- ITS FALSE NEIGHBOUR: 'it returns false'. Refute it at one input. -/
def startVersionsWrong : ChangeSpec := { name := "startVersions", fn := fun _ => fun
  | [d1, d2, d3] => { results := [.lit (.bool false)], args := [d1, d2, d3] }
  | _ => none }
def StartVersionsWrongFalsely : Prop := startVersionsRow.holds Try.pinned (OpenSpec.ofChange startVersionsWrong)

/-- 'halfwayhouselaw03.StartHosts': WHATEVER THE INPUT: true; the input reads as it did. -/
def startHostsSpec : ChangeSpec := { name := "startHosts", fn := fun _ => fun
  | [d1, d2] => { results := [.lit (.bool true)], args := [d1, d2] }
  | _ => none }
def startHostsRow : OpenClaim := { program := "ytliinjibnikfgaa", sum := "4a44fbfd0f7adc9a9d5b3ce5c1b26734e8ade04b99e8b7e6514e6f620d87e7b2", func := "halfwayhouse/halfwayhouselaw03.StartHosts", spec := "startHosts", inPlace := ["internal/bytealg.IndexByteString", "internal/bytealg.IndexString"], unfollowed := true, recurses := true, named := ["internal/bytealg.MaxLen"], apart := false }
def StartHostsSaid : Prop := startHostsRow.holds Try.pinned (OpenSpec.ofChange startHostsSpec)

/-- ITS FALSE NEIGHBOUR: 'it returns false'. Refute it at one input. -/
def startHostsWrong : ChangeSpec := { name := "startHosts", fn := fun _ => fun
  | [d1, d2] => { results := [.lit (.bool false)], args := [d1, d2] }
  | _ => none }
def StartHostsWrongFalsely : Prop := startHostsRow.holds Try.pinned (OpenSpec.ofChange startHostsWrong)

/- THE SECOND FORM. 'bulk': how many values and letters a reading holds, each counted each time it is reached (what is shared counts as often as it is met; a slice's spare places count too). A statement '..UptoSaid' is the law's where the arguments, and the package variables that the reading takes, are together of bulk at most 1048576: NARROWER than '..Said'. Prove '..Said' where nothing that the law and all that it calls make is longer than what came in: it says more and counts as full. Else prove '..UptoSaid'. A law counts once. -/
mutual
def uptoBulk {H : Type} : DataW H → Nat
  | .lit (.string bytes) => bytes.length + 1
  | .lit _ => 1
  | .nil => 1
  | .ptr d => uptoBulk d + 1
  | .slice elems spare => uptoBulkAll elems + uptoBulkAll spare + 1
  | .agg parts => uptoBulkAll parts + 1
  | .iface _ d => uptoBulk d + 1
  | .map entries => uptoBulkEntries entries + 1
  | .held _ => 1
def uptoBulkAll {H : Type} : List (DataW H) → Nat
  | [] => 0
  | d :: r => uptoBulk d + uptoBulkAll r
def uptoBulkEntries {H : Type} : List (Lit × DataW H) → Nat
  | [] => 0
  | x :: r => uptoBulkEntry x + uptoBulkEntries r
def uptoBulkEntry {H : Type} : Lit × DataW H → Nat
  | (.string bytes, d) => bytes.length + uptoBulk d + 1
  | (_, d) => uptoBulk d + 1
 end
def uptoSmall : (H : Type) → List (DataW H) → Bool := fun _ ds => decide (uptoBulkAll ds ≤ 1048576)
def OpenSpec.upto (s : _root_.Go.ChangeSpec) : _root_.Go.OpenSpec := { _root_.Go.OpenSpec.ofChange s with cond := some uptoSmall }

/-- 'halfwayhouselaw03.StartTargets', WHERE WHAT IT READS IS OF BULK AT MOST 1048576: true; the input reads as it did. -/
def startTargetsUptoRow : OpenClaim := { program := "ytliinjibnikfgaa", sum := "4a44fbfd0f7adc9a9d5b3ce5c1b26734e8ade04b99e8b7e6514e6f620d87e7b2", func := "halfwayhouse/halfwayhouselaw03.StartTargets", spec := "startTargets", inPlace := ["internal/bytealg.IndexByteString", "internal/bytealg.IndexString"], unfollowed := true, recurses := true, named := ["internal/bytealg.MaxLen"], apart := false, narrowed := true }
def StartTargetsUptoSaid : Prop := startTargetsUptoRow.holds Try.pinned (OpenSpec.upto startTargetsSpec)

/-- 'halfwayhouselaw03.StartVersions', WHERE WHAT IT READS IS OF BULK AT MOST 1048576: true; the input reads as it did. -/
def startVersionsUptoRow : OpenClaim := { program := "ytliinjibnikfgaa", sum := "4a44fbfd0f7adc9a9d5b3ce5c1b26734e8ade04b99e8b7e6514e6f620d87e7b2", func := "halfwayhouse/halfwayhouselaw03.StartVersions", spec := "startVersions", inPlace := ["internal/bytealg.IndexByteString", "internal/bytealg.IndexString"], unfollowed := true, recurses := true, named := ["internal/bytealg.MaxLen"], apart := false, narrowed := true }
def StartVersionsUptoSaid : Prop := startVersionsUptoRow.holds Try.pinned (OpenSpec.upto startVersionsSpec)

/-- 'halfwayhouselaw03.StartHosts', WHERE WHAT IT READS IS OF BULK AT MOST 1048576: true; the input reads as it did. -/
def startHostsUptoRow : OpenClaim := { program := "ytliinjibnikfgaa", sum := "4a44fbfd0f7adc9a9d5b3ce5c1b26734e8ade04b99e8b7e6514e6f620d87e7b2", func := "halfwayhouse/halfwayhouselaw03.StartHosts", spec := "startHosts", inPlace := ["internal/bytealg.IndexByteString", "internal/bytealg.IndexString"], unfollowed := true, recurses := true, named := ["internal/bytealg.MaxLen"], apart := false, narrowed := true }
def StartHostsUptoSaid : Prop := startHostsUptoRow.holds Try.pinned (OpenSpec.upto startHostsSpec)

end Rows
end Go.Proofs.Ytliinjibnikfgaa
