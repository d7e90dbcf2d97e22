/- token.Token, token.Char, field.chars, field.Check. -/
import Derived.Test.YtogdmhgblceddaaDoorCut
namespace Go.Proofs.YtogdmhgblceddaaDoor
open Go.RowKit
namespace Tk

set_option maxHeartbeats 1000000 in
set_option maxRecDepth 100000 in
theorem token_any (s : ByteArray) (w : World) (hs : s.size ≤ 1099511627776) :
    Calls Tryd.prog 85 #[.string s] w fun e w' => e = .returned (.bool (!(bs s).isEmpty && allL 2 (bs s))) ∧ Below w.heap.size w w' := by
  have H := Lib.hid (all_any s 2 w hs)
  cases hb : (bs s).isEmpty
  · have he : s.toList.isEmpty = false := by rw [toList_bs]; exact hb
    clear hb
    go_enter Tryd.func85, Tryd.ntmps85
    go_wp2_with fail
    refine H.out.mono ?_
    rintro e w' ⟨rfl, hb⟩
    have HB := Lib.hid hb
    clear hb
    go_wp2_with fail
    go_ret
    exact ⟨rfl, HB.out⟩
  · have he : s.toList.isEmpty = true := by rw [toList_bs]; exact hb
    clear hb
    go_enter Tryd.func85, Tryd.ntmps85
    go_wp2_with fail
    go_ret
    exact ⟨rfl, Below.refl _ _⟩

theorem run_kind (w : World) (c : UInt8) (k : Int) (ks : Array Value) (h : ks[c.toNat]? = some (.int .u8 k)) : (Instr.index 103 (.agg ks) (.int .u8 (c.toNat : Int))).run Tryd.prog w = .ok (.int .u8 k) w := by
  have h0 : (0 : Int) ≤ (c.toNat : Int) ∧ (c.toNat : Int) < (256 : Int) := ⟨by omega, by have := c.toNat_lt; omega⟩
  have hlt := c.toNat_lt
  simp [Instr.index, asIntOf, run_underlying Tryd.underlying103, part, Tryd.isAgg76, Tryd.sizeOf76, h, hlt]

set_option maxHeartbeats 1000000 in
set_option maxRecDepth 100000 in
theorem char_any (c : UInt8) (w : World) :
    Calls Tryd.prog 106 #[.int .u8 (c.toNat : Int)] w fun e w' => e = .returned (.bool (decide (1 ≤ kindOf c.toNat))) ∧ Below w.heap.size w w' := by
  have HK := Lib.hid (kinds_any w)
  have hr := fun W => run_kind W c _ _ (kindL_at c)
  generalize (kindL.map (Value.int .u8)).toArray = ks at *
  generalize kindOf c.toNat = k at *
  by_cases hk : 1 ≤ k
  · go_enter Tryd.func106, Tryd.ntmps106
    go_wp2_with fail
    refine HK.out.mono ?_
    rintro e w' ⟨rfl, hb⟩
    have HB := Lib.hid hb
    clear hb
    go_wp2_with fail
    go_ret
    exact ⟨by simp [hk], HB.out⟩
  · go_enter Tryd.func106, Tryd.ntmps106
    go_wp2_with fail
    refine HK.out.mono ?_
    rintro e w' ⟨rfl, hb⟩
    have HB := Lib.hid hb
    clear hb
    go_wp2_with fail
    go_ret
    exact ⟨by simp, HB.out⟩
end Tk
end Go.Proofs.YtogdmhgblceddaaDoor
