/- kit.Same of equal lists of pairs. -/
import Derived.Test.YtdmjpfmjfffmiaaDoorCtM
import Derived.ChangeKeysEq
import Derived.BigQuiet
namespace Go.Proofs.YtdmjpfmjfffmiaaDoor
open Go.RowKit
namespace Tk

theorem pair_neq (W : World) (a b : ByteArray) : (binOp .neq 46 (.agg #[.string a, .string b]) (.agg #[.string a, .string b])).run Tryd.prog W = .ok (.bool false) W := by
  obtain ⟨i0, hi, -⟩ := info_parts strInfo
  have hc : Tryd.prog.cellsOf 9 = 1 := by kernel_rfl
  rw [run_neq_struct, show (10000 : Nat) = 9999 + 1 from rfl, run_equalIn_array W 9999 _ _ Tryd.underlying46 hi, hc]
  simp [List.range, List.range.loop, Op.eqItems, part, go_sem]

set_option maxHeartbeats 2000000 in
set_option maxRecDepth 100000 in
theorem psame_self (v1 v2 : Value) (l : List (Bs × Bs)) (w : World) (h1 : IsPrs w v1 l) (h2 : IsPrs w v2 l) (hl : l.length ≤ 1099511627) :
    Calls Tryd.prog 25 #[v1, v2] w fun e w' => e = .returned (.bool true) ∧ Below w.heap.size w w' := by
  obtain ⟨a1, c1, rfl, l1, k1⟩ := h1
  obtain ⟨a2, c2, rfl, l2, k2⟩ := h2
  have K1 := Lib.hid k1
  have K2 := Lib.hid k2
  have hb : ((l.length : Int) != (l.length : Int)) = false := by simp
  clear k1 k2
  go_enter Tryd.func25, Tryd.ntmps25
  go_wp2_with fail
  go_loopw [5] (fun v wr => ∃ (j n : Nat), j ≤ l.length ∧ v = .int .i64 j ∧ wr = w.drewN n) (fun v _ => l.length - (RowKit.intOf v).toNat)
  case atStart => exact ⟨0, 0, Nat.zero_le _, rfl, rfl⟩
  case round =>
    obtain ⟨j, n, hj, rfl, rfl⟩ := hrel
    by_cases hlt : j < l.length
    · obtain ⟨b1, o1, rfl, d1, d2⟩ := K1.out j (l.getD j ([], [])) (by simp [List.getD, hlt])
      obtain ⟨b2, o2, rfl, d3, d4⟩ := K2.out j (l.getD j ([], [])) (by simp [List.getD, hlt])
      have hfn := pair_neq
      generalize l.getD j ([], []) = f at *
      have g0 : (0 : Int) ≤ (j : Int) := by omega
      have g1 : (j : Int) < (l.length : Int) := by omega
      go_wp2_with fail
      go_quiet (fail)
      go_wp2_with fail
      exact ⟨⟨j + 1, _, by omega, by go_num, rfl⟩, by simp [RowKit.intOf]; omega⟩
    · go_wp2_with fail
      go_ret
      exact ⟨rfl, ⟨rfl, rfl, rfl, Nat.le_refl _, fun _ _ => rfl⟩⟩
end Tk
end Go.Proofs.YtdmjpfmjfffmiaaDoor
