/- token.Quote: what a text looks like when it is quoted. -/
import Derived.Test.YtdmjpfmjfffmiaaDoorAll
import Derived.Test.YtdmjpfmjfffmiaaDoorBldB
namespace Go.Proofs.YtdmjpfmjfffmiaaDoor
open Go.RowKit
namespace Tk

def esc (c : UInt8) : Bs := if c = 34 ∨ c = 92 then [92, c] else [c]
theorem esc_len : ∀ l : Bs, (l.flatMap esc).length ≤ 2 * l.length
  | [] => by simp
  | c :: r => by
    have := esc_len r
    have h : (esc c).length ≤ 2 := by unfold esc; split <;> simp
    rw [List.flatMap_cons, List.length_append, List.length_cons]
    omega
theorem esc_take (s : ByteArray) (i : Nat) (h : i < s.size) : ((bs s).take (i + 1)).flatMap esc = ((bs s).take i).flatMap esc ++ esc s[i] := by
  have hd : (bs s).take (i + 1) = (bs s).take i ++ [s[i]] := by
    rw [List.take_add_one, List.getElem?_eq_getElem (by rw [length_bs]; exact h)]; rfl
  rw [hd, List.flatMap_append]; simp
def quoteL (l : Bs) : Bs := 34 :: (l.flatMap esc ++ [34])

end Tk
end Go.Proofs.YtdmjpfmjfffmiaaDoor
