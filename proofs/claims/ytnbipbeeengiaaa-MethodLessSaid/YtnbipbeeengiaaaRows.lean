/-
  No cell of these rows narrows 'for every input' (looked for: loops, veiled, ifaces, maps, wideKeys, modest, calm, conditions, laid).
  DERIVED. THE GIVEN ROWS OF THIS SEAT. 3 by the template 'for every input the law returns true; each argument reads behind the call as it read before'; 0 by the template 'total and deterministic' (their statements: YtnbipbeeengiaaaTotals.lean).
  GIVEN WITH THE SEED: the statements are not yours to turn. If you find one false, say at which input.
  Laid BY PROGRAM, IN A SANDBOX (cutbox-rows.mjs): the forced cells as the released guide's own fill.sh prints them over the translation 34128718e525ee54… (all of the seat's roots in one cut). By AI agents, Wed Nov 11 2026. No macro, syntax, notation, axiom, sorry.
-/
import Derived.Test.YtnbipbeeengiaaaChecked
import GoSem.Claim
import GoSem.ClaimJoined
import GoSem.ClaimMapViews
import Derived.JoinedTies
import Derived.KernelRfl
namespace Go.Proofs.Ytnbipbeeengiaaa
/- THE CELL 'sum', in the pinned program and in every row, IS THE sha256 OF THE DUMP (.gsa) THAT YtnbipbeeengiaaaProg.lean LOADS. Nothing in Lean hashes anything: it is a label: what it is worth is what the hold of that sum in a sandbox is worth. -/
noncomputable def Try.pinned : Pinned := { name := "ytnbipbeeengiaaa", sum := "34128718e525ee541a82a39614c64d9b887a4ce23a355315c3854c486093a0af", checked := Try.checked }
namespace Rows
def none {H : Type} : Left H := { results := [], args := [] }

/-- 'halfwayhouselaw13.MethodNames': WHATEVER THE INPUT: true; the input reads as it did. -/
def methodNamesSpec : ChangeSpec := { name := "methodNames", fn := fun _ => fun
  | [] => { results := [.lit (.bool true)], args := [] }
  | _ => none }
def methodNamesRow : OpenClaim := { program := "ytnbipbeeengiaaa", sum := "34128718e525ee541a82a39614c64d9b887a4ce23a355315c3854c486093a0af", func := "halfwayhouse/halfwayhouselaw13.MethodNames", spec := "methodNames", apart := false }
def MethodNamesSaid : Prop := methodNamesRow.holds Try.pinned (OpenSpec.ofChange methodNamesSpec)

/-- ITS FALSE NEIGHBOUR: 'it returns false'. Refute it at one input. -/
def methodNamesWrong : ChangeSpec := { name := "methodNames", fn := fun _ => fun
  | [] => { results := [.lit (.bool false)], args := [] }
  | _ => none }
def MethodNamesWrongFalsely : Prop := methodNamesRow.holds Try.pinned (OpenSpec.ofChange methodNamesWrong)

/-- 'halfwayhouselaw13.MethodCalls': WHATEVER THE INPUT: true; the input reads as it did. -/
def methodCallsSpec : ChangeSpec := { name := "methodCalls", fn := fun _ => fun
  | [d1, d2] => { results := [.lit (.bool true)], args := [d1, d2] }
  | _ => none }
def methodCallsRow : OpenClaim := { program := "ytnbipbeeengiaaa", sum := "34128718e525ee541a82a39614c64d9b887a4ce23a355315c3854c486093a0af", func := "halfwayhouse/halfwayhouselaw13.MethodCalls", spec := "methodCalls", apart := false }
def MethodCallsSaid : Prop := methodCallsRow.holds Try.pinned (OpenSpec.ofChange methodCallsSpec)

/-- ITS FALSE NEIGHBOUR: 'it returns false'. Refute it at one input. -/
def methodCallsWrong : ChangeSpec := { name := "methodCalls", fn := fun _ => fun
  | [d1, d2] => { results := [.lit (.bool false)], args := [d1, d2] }
  | _ => none }
def MethodCallsWrongFalsely : Prop := methodCallsRow.holds Try.pinned (OpenSpec.ofChange methodCallsWrong)

/-- 'halfwayhouselaw13.MethodLess': WHATEVER THE INPUT: true; the input reads as it did. -/
def methodLessSpec : ChangeSpec := { name := "methodLess", fn := fun _ => fun
  | [d1, d2] => { results := [.lit (.bool true)], args := [d1, d2] }
  | _ => none }
def methodLessRow : OpenClaim := { program := "ytnbipbeeengiaaa", sum := "34128718e525ee541a82a39614c64d9b887a4ce23a355315c3854c486093a0af", func := "halfwayhouse/halfwayhouselaw13.MethodLess", spec := "methodLess", apart := false }
def MethodLessSaid : Prop := methodLessRow.holds Try.pinned (OpenSpec.ofChange methodLessSpec)

/-- ITS FALSE NEIGHBOUR: 'it returns false'. Refute it at one input. -/
def methodLessWrong : ChangeSpec := { name := "methodLess", fn := fun _ => fun
  | [d1, d2] => { results := [.lit (.bool false)], args := [d1, d2] }
  | _ => none }
def MethodLessWrongFalsely : Prop := methodLessRow.holds Try.pinned (OpenSpec.ofChange methodLessWrong)

/- THE SECOND FORM. 'bulk': how many values and letters a reading holds, each counted each time it is reached (what is shared counts as often as it is met; a slice's spare places count too). A statement '..UptoSaid' is the law's where the arguments, and the package variables that the reading takes, are together of bulk at most 1048576: NARROWER than '..Said'. Prove '..Said' where nothing that the law and all that it calls make is longer than what came in: it says more and counts as full. Else prove '..UptoSaid'. A law counts once. -/
mutual
def uptoBulk {H : Type} : DataW H → Nat
  | .lit (.string bytes) => bytes.length + 1
  | .lit _ => 1
  | .nil => 1
  | .ptr d => uptoBulk d + 1
  | .slice elems spare => uptoBulkAll elems + uptoBulkAll spare + 1
  | .agg parts => uptoBulkAll parts + 1
  | .iface _ d => uptoBulk d + 1
  | .map entries => uptoBulkEntries entries + 1
  | .held _ => 1
def uptoBulkAll {H : Type} : List (DataW H) → Nat
  | [] => 0
  | d :: r => uptoBulk d + uptoBulkAll r
def uptoBulkEntries {H : Type} : List (Lit × DataW H) → Nat
  | [] => 0
  | x :: r => uptoBulkEntry x + uptoBulkEntries r
def uptoBulkEntry {H : Type} : Lit × DataW H → Nat
  | (.string bytes, d) => bytes.length + uptoBulk d + 1
  | (_, d) => uptoBulk d + 1
 end
def uptoSmall : (H : Type) → List (DataW H) → Bool := fun _ ds => decide (uptoBulkAll ds ≤ 1048576)
def OpenSpec.upto (s : _root_.Go.ChangeSpec) : _root_.Go.OpenSpec := { _root_.Go.OpenSpec.ofChange s with cond := some uptoSmall }

/-- 'halfwayhouselaw13.MethodNames', WHERE WHAT IT READS IS OF BULK AT MOST 1048576: true; the input reads as it did. -/
def methodNamesUptoRow : OpenClaim := { program := "ytnbipbeeengiaaa", sum := "34128718e525ee541a82a39614c64d9b887a4ce23a355315c3854c486093a0af", func := "halfwayhouse/halfwayhouselaw13.MethodNames", spec := "methodNames", apart := false, narrowed := true }
def MethodNamesUptoSaid : Prop := methodNamesUptoRow.holds Try.pinned (OpenSpec.upto methodNamesSpec)

/-- 'halfwayhouselaw13.MethodCalls', WHERE WHAT IT READS IS OF BULK AT MOST 1048576: true; the input reads as it did. -/
def methodCallsUptoRow : OpenClaim := { program := "ytnbipbeeengiaaa", sum := "34128718e525ee541a82a39614c64d9b887a4ce23a355315c3854c486093a0af", func := "halfwayhouse/halfwayhouselaw13.MethodCalls", spec := "methodCalls", apart := false, narrowed := true }
def MethodCallsUptoSaid : Prop := methodCallsUptoRow.holds Try.pinned (OpenSpec.upto methodCallsSpec)

/-- 'halfwayhouselaw13.MethodLess', WHERE WHAT IT READS IS OF BULK AT MOST 1048576: true; the input reads as it did. -/
def methodLessUptoRow : OpenClaim := { program := "ytnbipbeeengiaaa", sum := "34128718e525ee541a82a39614c64d9b887a4ce23a355315c3854c486093a0af", func := "halfwayhouse/halfwayhouselaw13.MethodLess", spec := "methodLess", apart := false, narrowed := true }
def MethodLessUptoSaid : Prop := methodLessUptoRow.holds Try.pinned (OpenSpec.upto methodLessSpec)

end Rows
end Go.Proofs.Ytnbipbeeengiaaa
