/- token.Char, token.Tchar at any byte. -/
import Derived.Test.YtapnlopeipdjmaaGreatDoorTkA
import Derived.Test.YtapnlopeipdjmaaGreatDoorSta1
namespace Go.Proofs.YtapnlopeipdjmaaGreatDoor
open Go.RowKit
namespace Tk

theorem chz_kind (w : World) (c : UInt8) (k : Int) (ks : Array Value) (h : ks[c.toNat]? = some (.int .u8 k)) : (Instr.index 49 (.agg ks) (.int .u8 (c.toNat : Int))).run Tryz.prog w = .ok (.int .u8 k) w := by
  have h0 : (0 : Int) ≤ (c.toNat : Int) ∧ (c.toNat : Int) < (256 : Int) := ⟨by omega, by have := c.toNat_lt; omega⟩
  have hlt := c.toNat_lt
  simp [Instr.index, asIntOf, run_underlying Tryz.underlying49, part, Tryz.isAgg39, Tryz.sizeOf39, h, hlt]

set_option maxHeartbeats 1000000 in
set_option maxRecDepth 100000 in
theorem chz_any (c : UInt8) (w : World) :
    Calls Tryz.prog 13 #[.int .u8 (c.toNat : Int)] w fun e w' => e = .returned (.bool (decide (1 ≤ kindOf c.toNat))) ∧ Below w.heap.size w w' := by
  have HK := Lib.hid (kinds_any w)
  have hr := fun W => chz_kind W c _ _ (kindL_at c)
  generalize (kindL.map (Value.int .u8)).toArray = ks at *
  generalize kindOf c.toNat = k at *
  by_cases hk : 1 ≤ k
  · go_enter Tryz.func13, Tryz.ntmps13
    go_wp2_with fail
    refine HK.out.mono ?_
    rintro e w' ⟨rfl, hb⟩
    have HB := Lib.hid hb
    clear hb
    go_wp2_with fail
    go_ret
    exact ⟨by simp [hk], HB.out⟩
  · go_enter Tryz.func13, Tryz.ntmps13
    go_wp2_with fail
    refine HK.out.mono ?_
    rintro e w' ⟨rfl, hb⟩
    have HB := Lib.hid hb
    clear hb
    go_wp2_with fail
    go_ret
    exact ⟨by simp, HB.out⟩

theorem kind_le (c : UInt8) : kindOf c.toNat = 0 ∨ kindOf c.toNat = 1 ∨ kindOf c.toNat = 2 := by
  have := u8_all (fun c => decide (kindOf c.toNat = 0 ∨ kindOf c.toNat = 1 ∨ kindOf c.toNat = 2)) (by decide +kernel) c
  simpa using this

set_option maxHeartbeats 1000000 in
set_option maxRecDepth 100000 in
theorem tchz_any (c : UInt8) (w : World) :
    Calls Tryz.prog 11 #[.int .u8 (c.toNat : Int)] w fun e w' => e = .returned (.bool (decide (2 ≤ kindOf c.toNat))) ∧ Below w.heap.size w w' := by
  have HK := Lib.hid (kinds_any w)
  have hr := fun W => chz_kind W c _ _ (kindL_at c)
  have hkk := kind_le c
  generalize (kindL.map (Value.int .u8)).toArray = ks at *
  generalize kindOf c.toNat = k at *
  rcases hkk with rfl | rfl | rfl
  all_goals
    go_enter Tryz.func11, Tryz.ntmps11
    go_wp2_with fail
    refine HK.out.mono ?_
    rintro e w' ⟨rfl, hb⟩
    have HB := Lib.hid hb
    clear hb
    go_wp2_with fail
    go_ret
    exact ⟨rfl, HB.out⟩
end Tk
end Go.Proofs.YtapnlopeipdjmaaGreatDoor
