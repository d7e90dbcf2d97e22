/- field.Get, field.List: however many fields have the name. -/
import Derived.Test.YtajmheblbnodjaaDoorFldG
import Derived.Test.YtajmheblbnodjaaDoorJoin
import Derived.Test.YtajmheblbnodjaaDoorSmall0
import Derived.Deep.Onto
import Derived.Lib.Join
namespace Go.Proofs.YtajmheblbnodjaaDoor
open Go.RowKit
namespace Tk

def joinB (P : List Bs) : Bs := Lib.join P [44, 32]
theorem joinB_nil : joinB [] = [] := rfl
theorem map_mkS : ∀ (P : List Bs), (P.map mkS).map (·.data.toList) = P
  | [] => rfl
  | x :: t => by rw [List.map_cons, List.map_cons, map_mkS t]; rfl
theorem sum_all (name : Bs) : ∀ l : List (Bs × Bs), Lib.lens (allF l name) + 2 * (allF l name).length ≤ sumF l
  | [] => by simp [allF, Lib.lens, sumF]
  | f :: t => by
    have ih := sum_all name t
    have e : allF (f :: t) name = (if isN name f then [f.2] else []) ++ allF t name := by unfold allF; cases h : isN name f <;> simp [h]
    rw [e]
    unfold sumF
    cases isN name f
    · simp; omega
    · simp [Lib.lens] at *; omega
theorem joinB_le (name : Bs) (l : List (Bs × Bs)) : (joinB (allF l name)).length ≤ sumF l := by
  have h := sum_all name l
  unfold joinB
  cases hh : allF l name with
  | nil => simp [Lib.join_nil]
  | cons x r => rw [Lib.join_length]; rw [hh] at h; simp only [List.length_cons, List.length_nil] at *; omega
/-- what List tells -/
def listF (l : List (Bs × Bs)) (name : Bs) : List Bs := (allF l name).flatMap splitL
theorem flat_len : ∀ P : List Bs, (P.flatMap splitL).length ≤ Lib.lens P + P.length
  | [] => by simp
  | x :: t => by
    have := flat_len t
    have h2 := split_len x
    simp [Lib.lens] at *; omega
theorem listF_len (name : Bs) (l : List (Bs × Bs)) : (listF l name).length ≤ sumF l := by
  have := flat_len (allF l name)
  have h := sum_all name l
  unfold listF; omega
theorem flat_piece : ∀ (P : List Bs) (p : Bs), p ∈ P.flatMap splitL → p.length ≤ Lib.lens P
  | [], p, h => by simp at h
  | x :: t, p, h => by
    rw [List.flatMap_cons, List.mem_append] at h
    rcases h with h | h
    · have := split_piece x p h; simp [Lib.lens] at *; omega
    · have := flat_piece t p h; simp [Lib.lens] at *; omega
theorem listF_piece (name : Bs) (l : List (Bs × Bs)) (p : Bs) (h : p ∈ listF l name) : p.length ≤ sumF l := by
  have := flat_piece _ p h
  have h := sum_all name l
  omega
theorem all_piece (name : Bs) (l : List (Bs × Bs)) (p : Bs) (h : p ∈ allF l name) : p.length ≤ sumF l := by
  have h2 := sum_all name l
  have : ∀ (P : List Bs), p ∈ P → p.length ≤ Lib.lens P := by
    intro P
    induction P with
    | nil => intro h; simp at h
    | cons x t ih =>
      intro h
      rcases List.mem_cons.1 h with rfl | h
      · simp [Lib.lens]
      · have := ih h; simp [Lib.lens] at *; omega
  have := this _ h
  omega
theorem take_flat (P : List Bs) (i : Nat) (h : i < P.length) : (P.take (i + 1)).flatMap splitL = (P.take i).flatMap splitL ++ splitL (P.getD i []) := by
  rw [List.take_succ_eq_append_getElem h, List.flatMap_append]; simp [List.getD, h]
theorem flat_sub (P : List Bs) (i : Nat) : ((P.take i).flatMap splitL).length ≤ (P.flatMap splitL).length := by
  have e : P.flatMap splitL = (P.take i).flatMap splitL ++ (P.drop i).flatMap splitL := by rw [← List.flatMap_append, List.take_append_drop]
  rw [e, List.length_append]; omega

theorem sum_each (l : List (Bs × Bs)) (hz : sumF l ≤ 1099511627) : ∀ f ∈ l, f.1.length ≤ 1099511627776 ∧ f.2.length ≤ 1099511627776 := fun f hf => by
  have := sumF_mem l f hf; omega

end Tk
end Go.Proofs.YtajmheblbnodjaaDoor
