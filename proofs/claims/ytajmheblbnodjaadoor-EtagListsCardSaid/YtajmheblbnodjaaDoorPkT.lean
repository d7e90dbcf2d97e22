/- halfwayhousekit.Pick, Times. -/
import Derived.Test.YtajmheblbnodjaaDoorBase
import Derived.Test.YtajmheblbnodjaaDoorTok0
namespace Go.Proofs.YtajmheblbnodjaaDoor
open Go.RowKit
namespace Tk

def PickPost (m : Nat) (w : World) (r : Ending) (w' : World) : Prop := ∃ k : Nat, k < m ∧ r = .returned (.int .i64 k) ∧ w = w'

set_option maxHeartbeats 1000000 in
theorem pick_any (n : Int) (m : Nat) (w : World) (hm : 1 ≤ m) (hm2 : m ≤ 1099511627776) :
    Calls Tryd.prog 20 #[.int .i64 n, .int .i64 m] w (PickPost m w) := by
  have b0 : -(m : Int) < n.tmod m := by have := Int.lt_tmod_of_pos n (by omega : (0 : Int) < m); exact this
  have b1 : n.tmod m < m := Int.tmod_lt_of_pos n (by omega)
  by_cases hneg : n.tmod m < 0
  · go_enter Tryd.func20, Tryd.ntmps20
    go_wp2_with fail
    go_ret
    exact ⟨(n.tmod m + m).toNat, by omega, by rw [show (((n.tmod m + m).toNat : Nat) : Int) = n.tmod m + m by omega]; rfl, rfl⟩
  · go_enter Tryd.func20, Tryd.ntmps20
    go_wp2_with fail
    go_ret
    exact ⟨(n.tmod m).toNat, by omega, by rw [show (((n.tmod m).toNat : Nat) : Int) = n.tmod m by omega]; rfl, rfl⟩

end Tk
end Go.Proofs.YtajmheblbnodjaaDoor

