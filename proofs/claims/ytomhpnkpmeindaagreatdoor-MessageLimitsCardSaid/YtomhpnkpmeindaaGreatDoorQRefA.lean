/- The document's own tests of bytes and texts: Digit, Letter, Tchar, Token, Char, Chars. -/
import Derived.Test.YtomhpnkpmeindaaGreatDoorQE
namespace Go.Proofs.YtomhpnkpmeindaaGreatDoor
open Go.RowKit
namespace Tk

theorem retB2 {a b : Bool} (h : a = b) : Ending.returned (.bool a) = .returned (.bool b) := by rw [h]

def tmarks : Bs := [33, 35, 36, 37, 38, 39, 42, 43, 45, 46, 94, 95, 96, 124, 126]
theorem kind_tchar (c : UInt8) : decide (2 ≤ kindOf c.toNat) = (isLet c || isDig c || tmarks.contains c) := by
  have := u8_all (fun c => decide (2 ≤ kindOf c.toNat) == (isLet c || isDig c || tmarks.contains c)) (by decide +kernel) c
  simpa using this

theorem kind_char8 (c : UInt8) : decide (1 ≤ kindOf c.toNat) = (decide (c.toNat = 9) || (decide (32 ≤ c.toNat) && decide (c.toNat ≤ 126)) || decide (128 ≤ c.toNat)) := by
  have := u8_all (fun c => decide (1 ≤ kindOf c.toNat) == (decide (c.toNat = 9) || (decide (32 ≤ c.toNat) && decide (c.toNat ≤ 126)) || decide (128 ≤ c.toNat))) (by decide +kernel) c
  simpa using this

end Tk
end Go.Proofs.YtomhpnkpmeindaaGreatDoor
