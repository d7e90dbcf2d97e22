/- A nil list of texts holds no room. -/
import Derived.Test.YtdmjpfmjfffmiaaDoorArgK
namespace Go.Proofs.YtdmjpfmjfffmiaaDoor
open Go.RowKit Go.ChangeShapes Go.WideShapes Go.Deep Go.Joins
namespace Tk
theorem strs_nil {H : Type} {enc : TypeId × Value → H} {W : World} {v : Value} {d : DataW H} {p : List MemPlace}
    (h : DataW.Trod enc Tryd.prog W 0 (fun _ => true) true 38 v d p) : ∀ n c, v = .slice none n c → c = 0 := by
  rintro n0 c0 rfl
  obtain ⟨fuel, hf⟩ := h
  rcases open_strs Tryd.underlying38 Tryd.underlying9 cellsStr hf with ⟨hcs, -⟩ | ⟨a, len, cap, m, Sx, hcs, _, hl, -⟩
  · simp [Value.cells] at hcs
    exact hcs.2
  · simp [Value.cells] at hcs
theorem sized_text {H : Type} {ts : List TypeId} {ds : List (DataW H)} (h : (DataW.weightsEach Tryd.prog ts ds).all (· ≤ reachBytes) = true) {j : Nat} {x : List UInt8} (ht : ts[j]? = some 9) (hd : ds[j]? = some (.lit (.string x))) : x.length ≤ 140737488351232 := by
  have := of_decide_eq_true (List.all_eq_true.1 h x.length (DataW.weights_mem_each ht hd x.length (by simp [DataW.weights])))
  exact this
end Tk
end Go.Proofs.YtdmjpfmjfffmiaaDoor
