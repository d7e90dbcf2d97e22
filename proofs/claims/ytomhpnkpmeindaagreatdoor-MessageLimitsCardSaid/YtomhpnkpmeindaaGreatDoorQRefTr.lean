/- The document's own Trim. -/
import Derived.Test.YtomhpnkpmeindaaGreatDoorQRefA
import Derived.Test.YtomhpnkpmeindaaGreatDoorQA
namespace Go.Proofs.YtomhpnkpmeindaaGreatDoor
open Go.RowKit
namespace Tk

theorem tr_consW (c : UInt8) (l : Bs) (hc : wh c = true) : trimL (c :: l) = trimL l := by
  rw [trimL_eq, trimL_eq]
  unfold tr
  rw [List.reverse_cons, dropWhile_append]
  have h1 : ([c] : Bs).dropWhile wh = [] := by rw [List.dropWhile_cons, hc, if_pos rfl]; rfl
  by_cases h : l.reverse.dropWhile wh = []
  · rw [if_pos h, h, h1]
  · rw [if_neg h, List.reverse_append]
    show (c :: (l.reverse.dropWhile wh).reverse).dropWhile wh = _
    rw [List.dropWhile_cons, hc, if_pos rfl]
theorem tr_snocW (c : UInt8) (l : Bs) (hc : wh c = true) : trimL (l ++ [c]) = trimL l := by
  rw [trimL_eq, trimL_eq]
  congr 1
  unfold tr
  rw [List.reverse_append]
  show ((c :: l.reverse).dropWhile wh).reverse = _
  rw [List.dropWhile_cons, hc, if_pos rfl]
theorem wh_of (c : UInt8) : wh c = (decide (c.toNat = 32) || decide (c.toNat = 9)) := by
  have := u8_all (fun c => wh c == (decide (c.toNat = 32) || decide (c.toNat = 9))) (by decide +kernel) c
  simpa using this

end Tk
end Go.Proofs.YtomhpnkpmeindaaGreatDoor
