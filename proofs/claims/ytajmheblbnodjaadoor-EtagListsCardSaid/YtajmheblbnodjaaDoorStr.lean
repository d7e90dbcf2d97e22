/- Lists of texts in a row of one's own. -/
import Derived.Test.YtajmheblbnodjaaDoorTrm
namespace Go.Proofs.YtajmheblbnodjaaDoor
open Go.RowKit
namespace Tk

def strs (P : List Bs) : List Value := P.map fun t => .string (mkS t)
theorem strs_append (P Q : List Bs) : strs (P ++ Q) = strs P ++ strs Q := by simp [strs]
theorem strInfo : (Tryd.prog.info? 9).map (fun i => (i.zero, i.size, i.bytes)) = some (some (.string .empty), 1, 16) := by kernel_rfl

def ListPost (base : Nat) (Q : List Bs) (w : World) (r : Ending) (w' : World) : Prop :=
  ∃ v, r = .returned v ∧ w'.ownsRow base 9 1 v Q.length (strs Q) ∧ Below base w w'

theorem below_of_grown {a b : World} {B : Nat} {v : Value} {n : Nat} {xs : List Value} {e : TypeId} (h : a.grownBy b v.ownBlock) (ho : a.ownsRow B e 1 v n xs) (hB : B ≤ a.heap.size) : Below B a b :=
  (Below.refl B a).grown h hB fun k hk => (ho.lt k hk).1
end Tk
end Go.Proofs.YtajmheblbnodjaaDoor
