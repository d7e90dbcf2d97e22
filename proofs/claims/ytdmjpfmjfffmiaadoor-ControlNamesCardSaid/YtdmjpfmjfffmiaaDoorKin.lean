/- token.kinds, token.all: which bytes stand where. -/
import Derived.Test.YtdmjpfmjfffmiaaDoorCln
import Derived.Great.BuildSlice
import Derived.Deep.WholeRow
namespace Go.Proofs.YtdmjpfmjfffmiaaDoor
open Go.RowKit
namespace Tk

/-- the kind of each byte, by ranges -/
def kindOf (c : Nat) : Int :=
  if c = 9 then 1 else if c < 32 then 0 else if 128 ≤ c then 1 else if c = 127 then 0
  else if [32, 34, 40, 41, 44, 47, 58, 59, 60, 61, 62, 63, 64, 91, 92, 93, 123, 125].contains c then 1 else 2
def kindL : List Int := (List.range 256).map kindOf

/-- 256 kinds, none said -/
def zk : Array Value := Array.replicate 256 (.int .u8 0)
theorem kind_zero (w : World) : (zeroValue 143).run Tryd.prog w = .ok (.agg zk) w := by kernel_rfl

set_option maxHeartbeats 1000000 in
set_option maxRecDepth 100000 in
theorem kinds_any (w : World) :
    Calls Tryd.prog 129 #[] w fun e w' => e = .returned (.agg (kindL.map (Value.int .u8)).toArray) ∧ Below w.heap.size w w' := by
  have hzk := kind_zero
  go_enter Tryd.func129, Tryd.ntmps129
  go_wp2_with (refine wpList_buildFlatArrTo rfl 143 125 256 _ rfl .u8 kindL (some 1) rfl (by kernel_rfl) (by kernel_rfl) (by kernel_rfl) (by kernel_rfl) ?_)
  have hld := run_loadVar_new (P := Tryd.prog) w 143 (kindL.map (Value.int .u8)).toArray 256 125 Tryd.underlying143 (by kernel_rfl)
  first
  | simp only [Result.andThen, run_storeCells_new (P := Tryd.prog) w 143 zk (kindL.map (Value.int .u8)).toArray (by kernel_rfl) (by kernel_rfl) (by kernel_rfl)]
  | simp only [Result.andThen, run_storeCells_new (P := Tryd.prog) w 143 Tryd.zeroCells143 (kindL.map (Value.int .u8)).toArray (by kernel_rfl) (by kernel_rfl) (by kernel_rfl)]
  rw [Oper.upon_skip]
  go_wp2_with fail
  refine bodyPost_ret (v := .agg (kindL.map (Value.int .u8)).toArray) ?_ rfl ⟨rfl, (Below.refl _ _).alloc (Nat.le_refl _) _⟩
  exact results_cell_row rfl _ _ w.heap.size 143 _ (0, 0) _ rfl (heap_alloc_last w _) Tryd.underlying143 rfl (by kernel_rfl)
end Tk
end Go.Proofs.YtdmjpfmjfffmiaaDoor
