/- What readings of arguments share. -/
import Derived.Test.YtnbipbeeengiaaaGreatDoorQA
import Derived.SizedLaws
import Derived.Carry
namespace Go.Proofs.YtnbipbeeengiaaaGreatDoor
open Go.RowKit Go.ChangeShapes Go.WideShapes
namespace Tk

theorem all_mem {H : Type} {P : Program} {e : TypeId} : ∀ {l : List (DataW H)} {d : DataW H}, d ∈ l → ∀ n ∈ d.weights P e, n ∈ DataW.weightsAll P e l
  | d' :: r, d, hd, n, hn => by
    simp only [DataW.weightsAll, List.mem_append]
    rcases List.mem_cons.1 hd with rfl | h
    · exact Or.inl hn
    · exact Or.inr (all_mem h n hn)

theorem laidOut : laidOutB Tryz.prog = true := by kernel_rfl
theorem cellsStr : Tryz.prog.cellsOf 9 = 1 := by kernel_rfl
theorem bytesStr : Tryz.prog.bytesOf 9 = 16 := by kernel_rfl

end Tk
end Go.Proofs.YtnbipbeeengiaaaGreatDoor
