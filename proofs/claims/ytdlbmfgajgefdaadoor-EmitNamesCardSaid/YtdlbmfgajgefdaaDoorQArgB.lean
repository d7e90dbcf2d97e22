/- From what a row lists to the table of trailing zeros. -/
import Derived.Test.YtdlbmfgajgefdaaDoorQD
import Derived.Lib.LaidTab
import Derived.ProofKit
namespace Go.Proofs.YtdlbmfgajgefdaaDoor
open Go.RowKit Go.ChangeShapes Go.WideShapes
namespace Tk

/-- one variable off the list -/
theorem laid_atB {P : Program} {W : World} : ∀ {l : List (String × DataW Unit)} {ps : List MemPlace}, DataW.LaidVars P W l ps → ∀ (n : String) (d : DataW Unit), (n, d) ∈ l →
    ∃ g t cs fuel p, P.globalNamed n = some g ∧ (P.globals[g]?).map (·.type) = some t ∧ W.var? P n = some cs ∧ DataW.trod (fun _ => ()) P W 0 (fun _ => true) false fuel t cs.toList = some (d, p)
  | [], _, _, n, d, h => by simp at h
  | (m, e) :: r, ps, h, n, d, hm => by
    obtain ⟨g, t, cs, fuel, p, q, h1, h2, h3, h4, h5, -⟩ := h
    rcases List.mem_cons.1 hm with hm | hm
    · injection hm with a b
      subst a b
      exact ⟨g, t, cs, fuel, p, h1, h2, h3, h4⟩
    · exact laid_atB h5 n d hm

def deB : List Int := [0, 1, 56, 2, 57, 49, 28, 3, 61, 58, 42, 50, 38, 29, 17, 4, 62, 47, 59, 36, 45, 43, 51, 22, 53, 39, 33, 30, 24, 18, 12, 5, 63, 55, 48, 27, 60, 41, 37, 16, 46, 35, 44, 21, 52, 32, 23, 11, 54, 26, 40, 15, 34, 20, 31, 10, 25, 14, 19, 9, 13, 8, 7, 6]
theorem gDeB : Tryd.prog.globalNamed "math/bits.deBruijn64tab" = some 2 := by kernel_rfl
theorem gDeBType : (Tryd.prog.globals[2]?).map (·.type) = some 117 := by kernel_rfl
theorem cellsU8B : Tryd.prog.cellsOf 5 = 1 := by kernel_rfl
theorem cellsDeB : Tryd.prog.cellsOf 117 = 64 := by kernel_rfl

theorem bruijn_of {l : List (String × DataW Unit)} {W : World} (h : laidMet Tryd.prog l W) (h2 : ("math/bits.deBruijn64tab", Lib.tabData .u8 deB) ∈ l) : Bruijn W.heap.size W := by
  obtain ⟨ps, hl, -⟩ := h
  obtain ⟨g', t', cs', fuel', p', b1, b2, b3, b4⟩ := laid_atB hl _ _ h2
  obtain rfl := Option.some.inj (gDeB.symm.trans b1)
  obtain rfl := Option.some.inj (gDeBType.symm.trans b2)
  have hcs := Lib.cells_of_tab Tryd.underlying117 Tryd.underlying5 cellsU8B cellsDeB b4
  have h0 : W.cell? ⟨2, 15, none⟩ = some (.int .u8 4) := by
    rw [World.var?_cell gDeB b3 15, ← Array.getElem?_toList, hcs]; rfl
  exact ⟨World.block_lt_of_cell? _ _ h0, Nat.le_refl _, h0⟩
end Tk
end Go.Proofs.YtdlbmfgajgefdaaDoor
