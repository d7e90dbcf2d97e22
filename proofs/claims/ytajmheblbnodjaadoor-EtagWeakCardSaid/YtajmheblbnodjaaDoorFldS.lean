/- field.Same: two lists of fields held against each other. -/
import Derived.Test.YtajmheblbnodjaaDoorFldM
import Derived.Test.YtajmheblbnodjaaDoorSam
namespace Go.Proofs.YtajmheblbnodjaaDoor
open Go.RowKit
namespace Tk

def eqF (f g : Bs × Bs) : Bool := decide (lowL f.1 = lowL g.1) && decide (f.2 = g.2)
def sameFs : List (Bs × Bs) → List (Bs × Bs) → Bool
  | [], [] => true
  | f :: t, g :: u => eqF f g && sameFs t u
  | _, _ => false

theorem below_some_draws {w w1 : World} (h : Below w.heap.size w w1) (n : Nat) : Below w.heap.size w (w1.drewN n) := h.trans ⟨rfl, rfl, rfl, Nat.le_refl _, fun _ _ => rfl⟩
theorem beq_mkS' (a b : Bs) : ((mkS a).toList == (mkS b).toList) = decide (a = b) := by
  rw [toList_bs, toList_bs, bs_mkS, bs_mkS]
  by_cases h : a = b <;> simp [h]

theorem sameFs_drop (l m : List (Bs × Bs)) (i : Nat) (hi : i < l.length) (hm : i < m.length) : sameFs (l.drop i) (m.drop i) = (eqF (l.getD i ([], [])) (m.getD i ([], [])) && sameFs (l.drop (i + 1)) (m.drop (i + 1))) := by
  rw [List.drop_eq_getElem_cons hi, List.drop_eq_getElem_cons hm, sameFs]
  simp [List.getD, hi, hm]
theorem sameFs_len : ∀ (l m : List (Bs × Bs)), sameFs l m = true → l.length = m.length
  | [], [], _ => rfl
  | f :: t, g :: u, h => by
    simp only [sameFs, Bool.and_eq_true] at h
    have := sameFs_len t u h.2
    simp [this]
  | [], _ :: _, h => by simp [sameFs] at h
  | _ :: _, [], h => by simp [sameFs] at h

end Tk
end Go.Proofs.YtajmheblbnodjaaDoor
