/- token.Token. -/
import Derived.Test.YtdmjpfmjfffmiaaDoorAll
namespace Go.Proofs.YtdmjpfmjfffmiaaDoor
open Go.RowKit
namespace Tk

set_option maxHeartbeats 1000000 in
set_option maxRecDepth 100000 in
theorem token_any (s : ByteArray) (w : World) (hs : s.size ≤ 1099511627776) :
    Calls Tryd.prog 92 #[.string s] w fun e w' => e = .returned (.bool (!(bs s).isEmpty && allL 2 (bs s))) ∧ Below w.heap.size w w' := by
  have H := Lib.hid (all_any s 2 w hs)
  cases hb : (bs s).isEmpty
  · have he : s.toList.isEmpty = false := by rw [toList_bs]; exact hb
    clear hb
    go_enter Tryd.func92, Tryd.ntmps92
    go_wp2_with fail
    refine H.out.mono ?_
    rintro e w' ⟨rfl, hb⟩
    have HB := Lib.hid hb
    clear hb
    go_wp2_with fail
    go_ret
    exact ⟨rfl, HB.out⟩
  · have he : s.toList.isEmpty = true := by rw [toList_bs]; exact hb
    clear hb
    go_enter Tryd.func92, Tryd.ntmps92
    go_wp2_with fail
    go_ret
    exact ⟨rfl, Below.refl _ _⟩
end Tk
end Go.Proofs.YtdmjpfmjfffmiaaDoor
