/- token.Token, token.Char, field.chars, field.Check. -/
import Derived.Test.YtanilbckakoogaaGreatDoorCut
import Derived.Test.YtanilbckakoogaaGreatDoorTkA
namespace Go.Proofs.YtanilbckakoogaaGreatDoor
open Go.RowKit
namespace Tk

theorem run_kind (w : World) (c : UInt8) (k : Int) (ks : Array Value) (h : ks[c.toNat]? = some (.int .u8 k)) : (Instr.index 79 (.agg ks) (.int .u8 (c.toNat : Int))).run Tryz.prog w = .ok (.int .u8 k) w := by
  have h0 : (0 : Int) ≤ (c.toNat : Int) ∧ (c.toNat : Int) < (256 : Int) := ⟨by omega, by have := c.toNat_lt; omega⟩
  have hlt := c.toNat_lt
  simp [Instr.index, asIntOf, run_underlying Tryz.underlying79, part, Tryz.isAgg78, Tryz.sizeOf78, h, hlt]

set_option maxHeartbeats 1000000 in
set_option maxRecDepth 100000 in
theorem char_any (c : UInt8) (w : World) :
    Calls Tryz.prog 34 #[.int .u8 (c.toNat : Int)] w fun e w' => e = .returned (.bool (decide (1 ≤ kindOf c.toNat))) ∧ Below w.heap.size w w' := by
  have HK := Lib.hid (kinds_any w)
  have hr := fun W => run_kind W c _ _ (kindL_at c)
  generalize (kindL.map (Value.int .u8)).toArray = ks at *
  generalize kindOf c.toNat = k at *
  by_cases hk : 1 ≤ k
  · go_enter Tryz.func34, Tryz.ntmps34
    go_wp2_with fail
    refine HK.out.mono ?_
    rintro e w' ⟨rfl, hb⟩
    have HB := Lib.hid hb
    clear hb
    go_wp2_with fail
    go_ret
    exact ⟨by simp [hk], HB.out⟩
  · go_enter Tryz.func34, Tryz.ntmps34
    go_wp2_with fail
    refine HK.out.mono ?_
    rintro e w' ⟨rfl, hb⟩
    have HB := Lib.hid hb
    clear hb
    go_wp2_with fail
    go_ret
    exact ⟨by simp, HB.out⟩
end Tk
end Go.Proofs.YtanilbckakoogaaGreatDoor
