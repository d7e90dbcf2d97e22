/- strings.Clone. -/
import Derived.Test.YtajmheblbnodjaaDoorTok0
import Derived.Test.YtajmheblbnodjaaDoorBase
namespace Go.Proofs.YtajmheblbnodjaaDoor
open Go.RowKit
namespace Tk

def StrPost (text : Bs) (w : World) (r : Ending) (w' : World) : Prop := r = .returned (.string (mkS text)) ∧ Below w.heap.size w w'

set_option maxHeartbeats 400000 in
theorem clone_any (s : ByteArray) (w : World) (h : s.size ≤ 1099511627776) :
    Calls Tryd.prog 69 #[.string s] w (StrPost (bs s) w) := by
  have H := Lib.hid (Tryd.stringslite_Clone s w (by omega))
  go_enter Tryd.func69, Tryd.ntmps69
  go_wp2_with fail
  refine H.out.mono ?_
  rintro e w' ⟨rfl, hb⟩
  have HB := Lib.hid hb
  clear hb
  go_wp2_with fail
  go_ret
  exact ⟨by rw [mkS_bs]; rfl, HB.out⟩
end Tk
end Go.Proofs.YtajmheblbnodjaaDoor
