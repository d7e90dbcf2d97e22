/-
  NARROWER THAN 'FOR EVERY INPUT', by the rows' own cells (each row's printed sentence says how): FramingNames: laid · FramingCalls: laid · FramingOne: laid · FramingLengths: laid · FramingBare: laid · FieldNames: laid · FieldCalls: laid · FieldNamed: laid.
  DERIVED. THE GIVEN ROWS OF THIS SEAT. 8 by the template 'for every input the law returns true; each argument reads behind the call as it read before'; 0 by the template 'total and deterministic' (their statements: YtapnlopeipdjmaaDoorTotals.lean).
  GIVEN WITH THE SEED: the statements are not yours to turn. If you find one false, say at which input.
  Laid BY PROGRAM, IN A SANDBOX (cutbox-rows.mjs): the forced cells as the released guide's own fill.sh prints them over the translation 3d5f80751d52e391… (all of the seat's roots in one cut). By AI agents, Wed Nov 11 2026. No macro, syntax, notation, axiom, sorry.
-/
import Derived.Test.YtapnlopeipdjmaaDoorChecked
import GoSem.PinnedTables
import GoSem.Claim
import GoSem.ClaimJoined
import GoSem.ClaimMapViews
import Derived.JoinedTies
import Derived.KernelRfl
namespace Go.Proofs.YtapnlopeipdjmaaDoor
/- THE CELL 'sum', in the pinned program and in every row, IS THE sha256 OF THE DUMP (.gsa) THAT YtapnlopeipdjmaaDoorProg.lean LOADS. Nothing in Lean hashes anything: it is a label: what it is worth is what the hold of that sum in a sandbox is worth. -/
noncomputable def Tryd.pinned : Pinned := { name := "ytapnlopeipdjmaadoor", sum := "3d5f80751d52e3910e95bf9eb78dffb96c120868d22a2cbbeefc3e70dc28ced5", checked := Tryd.checked }
namespace Rows
def none {H : Type} : Left H := { results := [], args := [] }

/- WHAT THE LISTED PACKAGE-LEVEL VARIABLES READ AS WHEN THE CALL BEGINS. Each datum BY PROGRAM (the guide's laid-datum.mjs) off the statement by which the dump's own 'gosem.cut.vars' lays the variable. In a bare row this is a premise. The card (YtapnlopeipdjmaaDoorCards.lean) ties it to the program's text. -/
def laid_unicode_utf8_acceptRanges {H : Type} : DataW H := .agg [.agg [.lit (.int .u8 128), .lit (.int .u8 191)], .agg [.lit (.int .u8 160), .lit (.int .u8 191)], .agg [.lit (.int .u8 128), .lit (.int .u8 159)], .agg [.lit (.int .u8 144), .lit (.int .u8 191)], .agg [.lit (.int .u8 128), .lit (.int .u8 143)], .agg [.lit (.int .u8 0), .lit (.int .u8 0)], .agg [.lit (.int .u8 0), .lit (.int .u8 0)], .agg [.lit (.int .u8 0), .lit (.int .u8 0)], .agg [.lit (.int .u8 0), .lit (.int .u8 0)], .agg [.lit (.int .u8 0), .lit (.int .u8 0)], .agg [.lit (.int .u8 0), .lit (.int .u8 0)], .agg [.lit (.int .u8 0), .lit (.int .u8 0)], .agg [.lit (.int .u8 0), .lit (.int .u8 0)], .agg [.lit (.int .u8 0), .lit (.int .u8 0)], .agg [.lit (.int .u8 0), .lit (.int .u8 0)], .agg [.lit (.int .u8 0), .lit (.int .u8 0)]]
/-- One of Go's own tables, pinned by name: the form's constant. -/
def laid_unicode_utf8_first : DataW Unit := Go.Pinned.utf8First

/-- 'halfwayhouselaw04.FramingNames': WHATEVER THE INPUT: true; the input reads as it did. -/
def framingNamesSpec : ChangeSpec := { name := "framingNames", fn := fun _ => fun
  | [] => { results := [.lit (.bool true)], args := [] }
  | _ => none }
def framingNamesRow : OpenClaim := { program := "ytapnlopeipdjmaadoor", sum := "3d5f80751d52e3910e95bf9eb78dffb96c120868d22a2cbbeefc3e70dc28ced5", func := "halfwayhouse/halfwayhouselaw04.FramingNames", spec := "framingNames", inPlace := ["internal/abi.NoEscape", "internal/bytealg.MakeNoZero", "internal/bytealg.IndexByteString", "internal/bytealg.IndexString"], named := ["unicode/utf8.first", "unicode/utf8.acceptRanges", "internal/bytealg.MaxLen"], apart := false, laid := [("unicode/utf8.acceptRanges", laid_unicode_utf8_acceptRanges), ("unicode/utf8.first", laid_unicode_utf8_first)] }
def FramingNamesSaid : Prop := framingNamesRow.holds Tryd.pinned (OpenSpec.ofChange framingNamesSpec)

/-- ITS FALSE NEIGHBOUR: 'it returns false'. Refute it at one input. -/
def framingNamesWrong : ChangeSpec := { name := "framingNames", fn := fun _ => fun
  | [] => { results := [.lit (.bool false)], args := [] }
  | _ => none }
def FramingNamesWrongFalsely : Prop := framingNamesRow.holds Tryd.pinned (OpenSpec.ofChange framingNamesWrong)

/-- 'halfwayhouselaw04.FramingCalls': WHATEVER THE INPUT: true; the input reads as it did. -/
def framingCallsSpec : ChangeSpec := { name := "framingCalls", fn := fun _ => fun
  | [d1, d2, d3, d4] => { results := [.lit (.bool true)], args := [d1, d2, d3, d4] }
  | _ => none }
def framingCallsRow : OpenClaim := { program := "ytapnlopeipdjmaadoor", sum := "3d5f80751d52e3910e95bf9eb78dffb96c120868d22a2cbbeefc3e70dc28ced5", func := "halfwayhouse/halfwayhouselaw04.FramingCalls", spec := "framingCalls", inPlace := ["internal/abi.NoEscape", "internal/bytealg.MakeNoZero", "internal/bytealg.IndexByteString", "internal/bytealg.IndexString"], named := ["unicode/utf8.first", "unicode/utf8.acceptRanges", "internal/bytealg.MaxLen"], apart := false, laid := [("unicode/utf8.acceptRanges", laid_unicode_utf8_acceptRanges), ("unicode/utf8.first", laid_unicode_utf8_first)] }
def FramingCallsSaid : Prop := framingCallsRow.holds Tryd.pinned (OpenSpec.ofChange framingCallsSpec)

/-- ITS FALSE NEIGHBOUR: 'it returns false'. Refute it at one input. -/
def framingCallsWrong : ChangeSpec := { name := "framingCalls", fn := fun _ => fun
  | [d1, d2, d3, d4] => { results := [.lit (.bool false)], args := [d1, d2, d3, d4] }
  | _ => none }
def FramingCallsWrongFalsely : Prop := framingCallsRow.holds Tryd.pinned (OpenSpec.ofChange framingCallsWrong)

/-- 'halfwayhouselaw04.FramingOne': WHATEVER THE INPUT: true; the input reads as it did. -/
def framingOneSpec : ChangeSpec := { name := "framingOne", fn := fun _ => fun
  | [d1, d2, d3, d4] => { results := [.lit (.bool true)], args := [d1, d2, d3, d4] }
  | _ => none }
def framingOneRow : OpenClaim := { program := "ytapnlopeipdjmaadoor", sum := "3d5f80751d52e3910e95bf9eb78dffb96c120868d22a2cbbeefc3e70dc28ced5", func := "halfwayhouse/halfwayhouselaw04.FramingOne", spec := "framingOne", inPlace := ["internal/abi.NoEscape", "internal/bytealg.MakeNoZero", "internal/bytealg.IndexByteString", "internal/bytealg.IndexString"], named := ["unicode/utf8.first", "unicode/utf8.acceptRanges", "internal/bytealg.MaxLen"], apart := false, laid := [("unicode/utf8.acceptRanges", laid_unicode_utf8_acceptRanges), ("unicode/utf8.first", laid_unicode_utf8_first)] }
def FramingOneSaid : Prop := framingOneRow.holds Tryd.pinned (OpenSpec.ofChange framingOneSpec)

/-- ITS FALSE NEIGHBOUR: 'it returns false'. Refute it at one input. -/
def framingOneWrong : ChangeSpec := { name := "framingOne", fn := fun _ => fun
  | [d1, d2, d3, d4] => { results := [.lit (.bool false)], args := [d1, d2, d3, d4] }
  | _ => none }
def FramingOneWrongFalsely : Prop := framingOneRow.holds Tryd.pinned (OpenSpec.ofChange framingOneWrong)

/-- 'halfwayhouselaw04.FramingLengths': WHATEVER THE INPUT: true; the input reads as it did. -/
def framingLengthsSpec : ChangeSpec := { name := "framingLengths", fn := fun _ => fun
  | [d1, d2, d3, d4] => { results := [.lit (.bool true)], args := [d1, d2, d3, d4] }
  | _ => none }
def framingLengthsRow : OpenClaim := { program := "ytapnlopeipdjmaadoor", sum := "3d5f80751d52e3910e95bf9eb78dffb96c120868d22a2cbbeefc3e70dc28ced5", func := "halfwayhouse/halfwayhouselaw04.FramingLengths", spec := "framingLengths", inPlace := ["internal/abi.NoEscape", "internal/bytealg.MakeNoZero", "internal/bytealg.IndexByteString", "internal/bytealg.IndexString"], recurses := true, named := ["unicode/utf8.first", "unicode/utf8.acceptRanges", "internal/bytealg.MaxLen"], apart := false, laid := [("unicode/utf8.acceptRanges", laid_unicode_utf8_acceptRanges), ("unicode/utf8.first", laid_unicode_utf8_first)] }
def FramingLengthsSaid : Prop := framingLengthsRow.holds Tryd.pinned (OpenSpec.ofChange framingLengthsSpec)

/-- ITS FALSE NEIGHBOUR: 'it returns false'. Refute it at one input. -/
def framingLengthsWrong : ChangeSpec := { name := "framingLengths", fn := fun _ => fun
  | [d1, d2, d3, d4] => { results := [.lit (.bool false)], args := [d1, d2, d3, d4] }
  | _ => none }
def FramingLengthsWrongFalsely : Prop := framingLengthsRow.holds Tryd.pinned (OpenSpec.ofChange framingLengthsWrong)

/-- 'halfwayhouselaw04.FramingBare': WHATEVER THE INPUT: true; the input reads as it did. -/
def framingBareSpec : ChangeSpec := { name := "framingBare", fn := fun _ => fun
  | [d1, d2, d3, d4, d5] => { results := [.lit (.bool true)], args := [d1, d2, d3, d4, d5] }
  | _ => none }
def framingBareRow : OpenClaim := { program := "ytapnlopeipdjmaadoor", sum := "3d5f80751d52e3910e95bf9eb78dffb96c120868d22a2cbbeefc3e70dc28ced5", func := "halfwayhouse/halfwayhouselaw04.FramingBare", spec := "framingBare", inPlace := ["internal/abi.NoEscape", "internal/bytealg.MakeNoZero", "internal/bytealg.IndexByteString", "internal/bytealg.IndexString"], named := ["unicode/utf8.first", "unicode/utf8.acceptRanges", "internal/bytealg.MaxLen"], apart := false, laid := [("unicode/utf8.acceptRanges", laid_unicode_utf8_acceptRanges), ("unicode/utf8.first", laid_unicode_utf8_first)] }
def FramingBareSaid : Prop := framingBareRow.holds Tryd.pinned (OpenSpec.ofChange framingBareSpec)

/-- ITS FALSE NEIGHBOUR: 'it returns false'. Refute it at one input. -/
def framingBareWrong : ChangeSpec := { name := "framingBare", fn := fun _ => fun
  | [d1, d2, d3, d4, d5] => { results := [.lit (.bool false)], args := [d1, d2, d3, d4, d5] }
  | _ => none }
def FramingBareWrongFalsely : Prop := framingBareRow.holds Tryd.pinned (OpenSpec.ofChange framingBareWrong)

/-- 'halfwayhouselaw02.FieldNames': WHATEVER THE INPUT: true; the input reads as it did. -/
def fieldNamesSpec : ChangeSpec := { name := "fieldNames", fn := fun _ => fun
  | [] => { results := [.lit (.bool true)], args := [] }
  | _ => none }
def fieldNamesRow : OpenClaim := { program := "ytapnlopeipdjmaadoor", sum := "3d5f80751d52e3910e95bf9eb78dffb96c120868d22a2cbbeefc3e70dc28ced5", func := "halfwayhouse/halfwayhouselaw02.FieldNames", spec := "fieldNames", inPlace := ["internal/bytealg.IndexByteString", "internal/bytealg.IndexString", "internal/abi.NoEscape", "internal/bytealg.MakeNoZero"], unfollowed := true, recurses := true, named := ["internal/bytealg.MaxLen", "unicode/utf8.first", "unicode/utf8.acceptRanges"], apart := false, laid := [("unicode/utf8.acceptRanges", laid_unicode_utf8_acceptRanges), ("unicode/utf8.first", laid_unicode_utf8_first)] }
def FieldNamesSaid : Prop := fieldNamesRow.holds Tryd.pinned (OpenSpec.ofChange fieldNamesSpec)

/-- ITS FALSE NEIGHBOUR: 'it returns false'. Refute it at one input. -/
def fieldNamesWrong : ChangeSpec := { name := "fieldNames", fn := fun _ => fun
  | [] => { results := [.lit (.bool false)], args := [] }
  | _ => none }
def FieldNamesWrongFalsely : Prop := fieldNamesRow.holds Tryd.pinned (OpenSpec.ofChange fieldNamesWrong)

/-- 'halfwayhouselaw02.FieldCalls': WHATEVER THE INPUT: true; the input reads as it did. -/
def fieldCallsSpec : ChangeSpec := { name := "fieldCalls", fn := fun _ => fun
  | [d1, d2, d3, d4, d5] => { results := [.lit (.bool true)], args := [d1, d2, d3, d4, d5] }
  | _ => none }
def fieldCallsRow : OpenClaim := { program := "ytapnlopeipdjmaadoor", sum := "3d5f80751d52e3910e95bf9eb78dffb96c120868d22a2cbbeefc3e70dc28ced5", func := "halfwayhouse/halfwayhouselaw02.FieldCalls", spec := "fieldCalls", inPlace := ["internal/bytealg.IndexByteString", "internal/bytealg.IndexString", "internal/abi.NoEscape", "internal/bytealg.MakeNoZero"], unfollowed := true, recurses := true, named := ["internal/bytealg.MaxLen", "unicode/utf8.first", "unicode/utf8.acceptRanges"], apart := false, laid := [("unicode/utf8.acceptRanges", laid_unicode_utf8_acceptRanges), ("unicode/utf8.first", laid_unicode_utf8_first)] }
def FieldCallsSaid : Prop := fieldCallsRow.holds Tryd.pinned (OpenSpec.ofChange fieldCallsSpec)

/-- ITS FALSE NEIGHBOUR: 'it returns false'. Refute it at one input. -/
def fieldCallsWrong : ChangeSpec := { name := "fieldCalls", fn := fun _ => fun
  | [d1, d2, d3, d4, d5] => { results := [.lit (.bool false)], args := [d1, d2, d3, d4, d5] }
  | _ => none }
def FieldCallsWrongFalsely : Prop := fieldCallsRow.holds Tryd.pinned (OpenSpec.ofChange fieldCallsWrong)

/-- 'halfwayhouselaw02.FieldNamed': WHATEVER THE INPUT: true; the input reads as it did. -/
def fieldNamedSpec : ChangeSpec := { name := "fieldNamed", fn := fun _ => fun
  | [d] => { results := [.lit (.bool true)], args := [d] }
  | _ => none }
def fieldNamedRow : OpenClaim := { program := "ytapnlopeipdjmaadoor", sum := "3d5f80751d52e3910e95bf9eb78dffb96c120868d22a2cbbeefc3e70dc28ced5", func := "halfwayhouse/halfwayhouselaw02.FieldNamed", spec := "fieldNamed", inPlace := ["internal/bytealg.IndexByteString", "internal/bytealg.IndexString"], unfollowed := true, recurses := true, named := ["internal/bytealg.MaxLen", "unicode/utf8.first", "unicode/utf8.acceptRanges"], apart := false, laid := [("unicode/utf8.acceptRanges", laid_unicode_utf8_acceptRanges), ("unicode/utf8.first", laid_unicode_utf8_first)] }
def FieldNamedSaid : Prop := fieldNamedRow.holds Tryd.pinned (OpenSpec.ofChange fieldNamedSpec)

/-- ITS FALSE NEIGHBOUR: 'it returns false'. Refute it at one input. -/
def fieldNamedWrong : ChangeSpec := { name := "fieldNamed", fn := fun _ => fun
  | [d] => { results := [.lit (.bool false)], args := [d] }
  | _ => none }
def FieldNamedWrongFalsely : Prop := fieldNamedRow.holds Tryd.pinned (OpenSpec.ofChange fieldNamedWrong)

/- THE SECOND FORM. 'bulk': how many values and letters a reading holds, each counted each time it is reached (what is shared counts as often as it is met; a slice's spare places count too). A statement '..UptoSaid' is the law's where the arguments, and the package variables that the reading takes, are together of bulk at most 1048576: NARROWER than '..Said'. Prove '..Said' where nothing that the law and all that it calls make is longer than what came in: it says more and counts as full. Else prove '..UptoSaid'. A law counts once. -/
mutual
def uptoBulk {H : Type} : DataW H → Nat
  | .lit (.string bytes) => bytes.length + 1
  | .lit _ => 1
  | .nil => 1
  | .ptr d => uptoBulk d + 1
  | .slice elems spare => uptoBulkAll elems + uptoBulkAll spare + 1
  | .agg parts => uptoBulkAll parts + 1
  | .iface _ d => uptoBulk d + 1
  | .map entries => uptoBulkEntries entries + 1
  | .held _ => 1
def uptoBulkAll {H : Type} : List (DataW H) → Nat
  | [] => 0
  | d :: r => uptoBulk d + uptoBulkAll r
def uptoBulkEntries {H : Type} : List (Lit × DataW H) → Nat
  | [] => 0
  | x :: r => uptoBulkEntry x + uptoBulkEntries r
def uptoBulkEntry {H : Type} : Lit × DataW H → Nat
  | (.string bytes, d) => bytes.length + uptoBulk d + 1
  | (_, d) => uptoBulk d + 1
 end
def uptoSmall : (H : Type) → List (DataW H) → Bool := fun _ ds => decide (uptoBulkAll ds ≤ 1048576)
def OpenSpec.upto (s : _root_.Go.ChangeSpec) : _root_.Go.OpenSpec := { _root_.Go.OpenSpec.ofChange s with cond := some uptoSmall }

/-- 'halfwayhouselaw04.FramingNames', WHERE WHAT IT READS IS OF BULK AT MOST 1048576: true; the input reads as it did. -/
def framingNamesUptoRow : OpenClaim := { program := "ytapnlopeipdjmaadoor", sum := "3d5f80751d52e3910e95bf9eb78dffb96c120868d22a2cbbeefc3e70dc28ced5", func := "halfwayhouse/halfwayhouselaw04.FramingNames", spec := "framingNames", inPlace := ["internal/abi.NoEscape", "internal/bytealg.MakeNoZero", "internal/bytealg.IndexByteString", "internal/bytealg.IndexString"], named := ["unicode/utf8.first", "unicode/utf8.acceptRanges", "internal/bytealg.MaxLen"], apart := false, laid := [("unicode/utf8.acceptRanges", laid_unicode_utf8_acceptRanges), ("unicode/utf8.first", laid_unicode_utf8_first)], narrowed := true }
def FramingNamesUptoSaid : Prop := framingNamesUptoRow.holds Tryd.pinned (OpenSpec.upto framingNamesSpec)

/-- 'halfwayhouselaw04.FramingCalls', WHERE WHAT IT READS IS OF BULK AT MOST 1048576: true; the input reads as it did. -/
def framingCallsUptoRow : OpenClaim := { program := "ytapnlopeipdjmaadoor", sum := "3d5f80751d52e3910e95bf9eb78dffb96c120868d22a2cbbeefc3e70dc28ced5", func := "halfwayhouse/halfwayhouselaw04.FramingCalls", spec := "framingCalls", inPlace := ["internal/abi.NoEscape", "internal/bytealg.MakeNoZero", "internal/bytealg.IndexByteString", "internal/bytealg.IndexString"], named := ["unicode/utf8.first", "unicode/utf8.acceptRanges", "internal/bytealg.MaxLen"], apart := false, laid := [("unicode/utf8.acceptRanges", laid_unicode_utf8_acceptRanges), ("unicode/utf8.first", laid_unicode_utf8_first)], narrowed := true }
def FramingCallsUptoSaid : Prop := framingCallsUptoRow.holds Tryd.pinned (OpenSpec.upto framingCallsSpec)

/-- 'halfwayhouselaw04.FramingOne', WHERE WHAT IT READS IS OF BULK AT MOST 1048576: true; the input reads as it did. -/
def framingOneUptoRow : OpenClaim := { program := "ytapnlopeipdjmaadoor", sum := "3d5f80751d52e3910e95bf9eb78dffb96c120868d22a2cbbeefc3e70dc28ced5", func := "halfwayhouse/halfwayhouselaw04.FramingOne", spec := "framingOne", inPlace := ["internal/abi.NoEscape", "internal/bytealg.MakeNoZero", "internal/bytealg.IndexByteString", "internal/bytealg.IndexString"], named := ["unicode/utf8.first", "unicode/utf8.acceptRanges", "internal/bytealg.MaxLen"], apart := false, laid := [("unicode/utf8.acceptRanges", laid_unicode_utf8_acceptRanges), ("unicode/utf8.first", laid_unicode_utf8_first)], narrowed := true }
def FramingOneUptoSaid : Prop := framingOneUptoRow.holds Tryd.pinned (OpenSpec.upto framingOneSpec)

/-- 'halfwayhouselaw04.FramingLengths', WHERE WHAT IT READS IS OF BULK AT MOST 1048576: true; the input reads as it did. -/
def framingLengthsUptoRow : OpenClaim := { program := "ytapnlopeipdjmaadoor", sum := "3d5f80751d52e3910e95bf9eb78dffb96c120868d22a2cbbeefc3e70dc28ced5", func := "halfwayhouse/halfwayhouselaw04.FramingLengths", spec := "framingLengths", inPlace := ["internal/abi.NoEscape", "internal/bytealg.MakeNoZero", "internal/bytealg.IndexByteString", "internal/bytealg.IndexString"], recurses := true, named := ["unicode/utf8.first", "unicode/utf8.acceptRanges", "internal/bytealg.MaxLen"], apart := false, laid := [("unicode/utf8.acceptRanges", laid_unicode_utf8_acceptRanges), ("unicode/utf8.first", laid_unicode_utf8_first)], narrowed := true }
def FramingLengthsUptoSaid : Prop := framingLengthsUptoRow.holds Tryd.pinned (OpenSpec.upto framingLengthsSpec)

/-- 'halfwayhouselaw04.FramingBare', WHERE WHAT IT READS IS OF BULK AT MOST 1048576: true; the input reads as it did. -/
def framingBareUptoRow : OpenClaim := { program := "ytapnlopeipdjmaadoor", sum := "3d5f80751d52e3910e95bf9eb78dffb96c120868d22a2cbbeefc3e70dc28ced5", func := "halfwayhouse/halfwayhouselaw04.FramingBare", spec := "framingBare", inPlace := ["internal/abi.NoEscape", "internal/bytealg.MakeNoZero", "internal/bytealg.IndexByteString", "internal/bytealg.IndexString"], named := ["unicode/utf8.first", "unicode/utf8.acceptRanges", "internal/bytealg.MaxLen"], apart := false, laid := [("unicode/utf8.acceptRanges", laid_unicode_utf8_acceptRanges), ("unicode/utf8.first", laid_unicode_utf8_first)], narrowed := true }
def FramingBareUptoSaid : Prop := framingBareUptoRow.holds Tryd.pinned (OpenSpec.upto framingBareSpec)

/-- 'halfwayhouselaw02.FieldNames', WHERE WHAT IT READS IS OF BULK AT MOST 1048576: true; the input reads as it did. -/
def fieldNamesUptoRow : OpenClaim := { program := "ytapnlopeipdjmaadoor", sum := "3d5f80751d52e3910e95bf9eb78dffb96c120868d22a2cbbeefc3e70dc28ced5", func := "halfwayhouse/halfwayhouselaw02.FieldNames", spec := "fieldNames", inPlace := ["internal/bytealg.IndexByteString", "internal/bytealg.IndexString", "internal/abi.NoEscape", "internal/bytealg.MakeNoZero"], unfollowed := true, recurses := true, named := ["internal/bytealg.MaxLen", "unicode/utf8.first", "unicode/utf8.acceptRanges"], apart := false, laid := [("unicode/utf8.acceptRanges", laid_unicode_utf8_acceptRanges), ("unicode/utf8.first", laid_unicode_utf8_first)], narrowed := true }
def FieldNamesUptoSaid : Prop := fieldNamesUptoRow.holds Tryd.pinned (OpenSpec.upto fieldNamesSpec)

/-- 'halfwayhouselaw02.FieldCalls', WHERE WHAT IT READS IS OF BULK AT MOST 1048576: true; the input reads as it did. -/
def fieldCallsUptoRow : OpenClaim := { program := "ytapnlopeipdjmaadoor", sum := "3d5f80751d52e3910e95bf9eb78dffb96c120868d22a2cbbeefc3e70dc28ced5", func := "halfwayhouse/halfwayhouselaw02.FieldCalls", spec := "fieldCalls", inPlace := ["internal/bytealg.IndexByteString", "internal/bytealg.IndexString", "internal/abi.NoEscape", "internal/bytealg.MakeNoZero"], unfollowed := true, recurses := true, named := ["internal/bytealg.MaxLen", "unicode/utf8.first", "unicode/utf8.acceptRanges"], apart := false, laid := [("unicode/utf8.acceptRanges", laid_unicode_utf8_acceptRanges), ("unicode/utf8.first", laid_unicode_utf8_first)], narrowed := true }
def FieldCallsUptoSaid : Prop := fieldCallsUptoRow.holds Tryd.pinned (OpenSpec.upto fieldCallsSpec)

/-- 'halfwayhouselaw02.FieldNamed', WHERE WHAT IT READS IS OF BULK AT MOST 1048576: true; the input reads as it did. -/
def fieldNamedUptoRow : OpenClaim := { program := "ytapnlopeipdjmaadoor", sum := "3d5f80751d52e3910e95bf9eb78dffb96c120868d22a2cbbeefc3e70dc28ced5", func := "halfwayhouse/halfwayhouselaw02.FieldNamed", spec := "fieldNamed", inPlace := ["internal/bytealg.IndexByteString", "internal/bytealg.IndexString"], unfollowed := true, recurses := true, named := ["internal/bytealg.MaxLen", "unicode/utf8.first", "unicode/utf8.acceptRanges"], apart := false, laid := [("unicode/utf8.acceptRanges", laid_unicode_utf8_acceptRanges), ("unicode/utf8.first", laid_unicode_utf8_first)], narrowed := true }
def FieldNamedUptoSaid : Prop := fieldNamedUptoRow.holds Tryd.pinned (OpenSpec.upto fieldNamedSpec)

end Rows
end Go.Proofs.YtapnlopeipdjmaaDoor
