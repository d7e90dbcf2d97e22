/- A list of texts as an argument: its room; the powers of ten as they are laid. -/
import Derived.Test.YthooghgiokgdhaaGreatDoorQArgs
import Derived.Test.YthooghgiokgdhaaGreatDoorQL
import Derived.Lib.LaidTab
import Derived.Lib.SmallJoins
import Derived.SizedLaws
import Derived.ProofKit
import Derived.OpenShut
import Derived.Carry
namespace Go.Proofs.YthooghgiokgdhaaGreatDoor
open Go.RowKit Go.ChangeShapes Go.WideShapes Go.Deep Go.Joins
namespace Tk
theorem strs_capV {H : Type} {enc : TypeId × Value → H} {W : World} {a0 : Option Addr} {n0 c0 : Nat} {d : DataW H} {p : List MemPlace}
    (h : DataW.Trod enc Tryz.prog W 0 (fun _ => true) true 26 (.slice a0 n0 c0) d p) : n0 ≤ c0 := by
  obtain ⟨fuel, hf⟩ := h
  rcases open_strs Tryz.underlying26 Tryz.underlying9 cellsStr hf with ⟨hcs, hx⟩ | ⟨a, len, cap, m, Sx, hcs, _, hl, -⟩
  · simp [Value.cells] at hcs
    obtain ⟨rfl, rfl, rfl⟩ := hcs
    exact Nat.le_refl _
  · simp [Value.cells] at hcs
    obtain ⟨rfl, rfl, rfl⟩ := hcs
    exact hl
theorem sized_text {H : Type} {ts : List TypeId} {ds : List (DataW H)} (h : (DataW.weightsEach Tryz.prog ts ds).all (· ≤ reachBytes) = true) {j : Nat} {x : List UInt8} (ht : ts[j]? = some 9) (hd : ds[j]? = some (.lit (.string x))) : x.length ≤ 140737488351232 := by
  have := of_decide_eq_true (List.all_eq_true.1 h x.length (DataW.weights_mem_each ht hd x.length (by simp [DataW.weights])))
  exact this
/-- one variable off the list -/
theorem laid_atV {P : Program} {W : World} : ∀ {l : List (String × DataW Unit)} {ps : List MemPlace}, DataW.LaidVars P W l ps → ∀ (n : String) (d : DataW Unit), (n, d) ∈ l →
    ∃ g t cs fuel p, P.globalNamed n = some g ∧ (P.globals[g]?).map (·.type) = some t ∧ W.var? P n = some cs ∧ DataW.trod (fun _ => ()) P W 0 (fun _ => true) false fuel t cs.toList = some (d, p)
  | [], _, _, n, d, h => by simp at h
  | (m, e) :: r, ps, h, n, d, hm => by
    obtain ⟨g, t, cs, fuel, p, q, h1, h2, h3, h4, h5, -⟩ := h
    rcases List.mem_cons.1 hm with hm | hm
    · injection hm with a b
      subst a b
      exact ⟨g, t, cs, fuel, p, h1, h2, h3, h4⟩
    · exact laid_atV h5 n d hm
theorem gTenTypeV : (Tryz.prog.globals[2]?).map (·.type) = some 277 := by kernel_rfl
theorem cellsU64V : Tryz.prog.cellsOf 239 = 1 := by kernel_rfl
theorem cellsTensV : Tryz.prog.cellsOf 277 = 20 := by kernel_rfl
theorem tenV_of {l : List (String × DataW Unit)} {W : World} (h : laidMet Tryz.prog l W) (h2 : ("internal/strconv.uint64pow10", Lib.tabData .u64 Lib.pow10Tab) ∈ l) : TenV W := by
  obtain ⟨ps, hl, -⟩ := h
  obtain ⟨g', t', cs', fuel', p', b1, b2, b3, b4⟩ := laid_atV hl _ _ h2
  obtain rfl := Option.some.inj (gTenV.symm.trans b1)
  obtain rfl := Option.some.inj (gTenTypeV.symm.trans b2)
  have hcs := Lib.cells_of_tab Tryz.underlying277 Tryz.underlying239 cellsU64V cellsTensV b4
  refine ⟨?_, by unfold Lib.TabIs; rw [b3, ← hcs]⟩
  refine Nat.lt_of_not_le fun hle => ?_
  have h0 : W.cell? ⟨2, 0, none⟩ = cs'[0]? := World.var?_cell gTenV b3 0
  rw [← Array.getElem?_toList, hcs] at h0
  simp only [World.cell?, Array.getElem?_eq_none hle] at h0
  cases h0
end Tk
end Go.Proofs.YthooghgiokgdhaaGreatDoor
