/- What setting and removing do to a list of fields: plain facts. -/
import Derived.Test.YtogdmhgblceddaaDoorFldQ
import Derived.Test.YtogdmhgblceddaaDoorFldT
namespace Go.Proofs.YtogdmhgblceddaaDoor
open Go.RowKit
namespace Tk

theorem allF_app (a b : List (Bs × Bs)) (name : Bs) : allF (a ++ b) name = allF a name ++ allF b name := by unfold allF; simp
theorem allF_none (l : List (Bs × Bs)) (name : Bs) (h : ∀ f ∈ l, isN name f = false) : allF l name = [] := by
  unfold allF
  rw [List.filter_eq_nil_iff.2 (fun f hf => by rw [h f hf]; simp)]; rfl
theorem allF_del (name : Bs) (l : List (Bs × Bs)) : allF (delF name l) name = [] := by
  refine allF_none _ _ fun f hf => ?_
  have := (List.mem_filter.1 hf).2
  simpa using this
theorem isN_other {name other : Bs} (h : lowL name ≠ lowL other) (f : Bs × Bs) (hf : isN other f = true) : isN name f = false := by
  unfold isN at *
  simp only [decide_eq_true_eq, decide_eq_false_iff_not] at *
  intro e; exact h (by rw [← e, ← hf])
theorem allF_del_other {name other : Bs} (h : lowL name ≠ lowL other) (l : List (Bs × Bs)) : allF (delF name l) other = allF l other := by
  unfold allF delF
  rw [List.filter_filter]
  congr 1
  apply List.filter_congr
  intro f _
  cases hf : isN other f
  · simp
  · simp [isN_other h f hf]
theorem delF_app (name : Bs) (a b : List (Bs × Bs)) : delF name (a ++ b) = delF name a ++ delF name b := by unfold delF; simp
theorem delF_del (name : Bs) (l : List (Bs × Bs)) : delF name (delF name l) = delF name l :=
  delF_all name _ fun f hf => by
    have := (List.mem_filter.1 hf).2
    simpa using this
theorem isN_eq (name : Bs) (f : Bs × Bs) (x : Bs) : isN name (f.1, x) = isN name f := rfl
theorem isN_self (name x : Bs) : isN name (name, x) = true := by simp [isN]

/-- a list with a field of this name, cut at the first of them -/
theorem cut_at (name : Bs) (l : List (Bs × Bs)) (h : l.findIdx (isN name) < l.length) :
    ∃ a f b, l = a ++ f :: b ∧ (∀ g ∈ a, isN name g = false) ∧ isN name f = true ∧ ∀ x, setF name x l = a ++ (f.1, x) :: delF name b := by
  refine ⟨l.take (l.findIdx (isN name)), l.getD (l.findIdx (isN name)) ([], []), l.drop (l.findIdx (isN name) + 1), ?_, find_before name l, find_hit name l h, fun x => ?_⟩
  · have : l.drop (l.findIdx (isN name)) = l.getD (l.findIdx (isN name)) ([], []) :: l.drop (l.findIdx (isN name) + 1) := by rw [List.drop_eq_getElem_cons h]; simp [List.getD, h]
    rw [← this, List.take_append_drop]
  · unfold setF; rw [if_pos h]

theorem allF_cons (f : Bs × Bs) (b : List (Bs × Bs)) (name : Bs) : allF (f :: b) name = (if isN name f then [f.2] else []) ++ allF b name := by
  unfold allF
  cases h : isN name f <;> simp [h]
theorem delF_cons (f : Bs × Bs) (b : List (Bs × Bs)) (name : Bs) : delF name (f :: b) = (if isN name f then [] else [f]) ++ delF name b := by
  unfold delF
  cases h : isN name f <;> simp [h]

theorem set_all (name x : Bs) (l : List (Bs × Bs)) : allF (setF name x l) name = [x] := by
  by_cases h : l.findIdx (isN name) < l.length
  · obtain ⟨a, f, b, -, ha, hf, hs⟩ := cut_at name l h
    rw [hs, allF_app, allF_none a name ha, allF_cons, isN_eq, hf, allF_del]; rfl
  · unfold setF
    rw [if_neg h, allF_app, allF_none l name (find_none name l h), allF_cons, isN_self]; rfl
theorem set_del (name x : Bs) (l : List (Bs × Bs)) : delF name (setF name x l) = delF name l := by
  by_cases h : l.findIdx (isN name) < l.length
  · obtain ⟨a, f, b, hl, ha, hf, hs⟩ := cut_at name l h
    rw [hs, hl, delF_app, delF_app, delF_cons, delF_cons, isN_eq, hf, delF_del]; rfl
  · unfold setF
    rw [if_neg h, delF_app, delF_cons, isN_self]
    show delF name l ++ ([] ++ delF name []) = delF name l
    simp [delF]
theorem set_len (name x : Bs) (l : List (Bs × Bs)) : (setF name x l).length = (delF name l).length + 1 := by
  by_cases h : l.findIdx (isN name) < l.length
  · obtain ⟨a, f, b, hl, ha, hf, hs⟩ := cut_at name l h
    rw [hs, hl, delF_app, delF_cons, hf, delF_all name a ha]; simp; omega
  · unfold setF
    rw [if_neg h, delF_all name l (find_none name l h)]; simp
theorem set_other {name other : Bs} (hne : lowL name ≠ lowL other) (x : Bs) (l : List (Bs × Bs)) : allF (setF name x l) other = allF l other := by
  have hno : ∀ f, isN name f = true → isN other f = false := fun f hf => isN_other (Ne.symm hne) f hf
  by_cases h : l.findIdx (isN name) < l.length
  · obtain ⟨a, f, b, hl, ha, hf, hs⟩ := cut_at name l h
    rw [hs, hl, allF_app, allF_app, allF_cons, allF_cons, isN_eq, hno f hf, allF_del_other hne]; rfl
  · unfold setF
    rw [if_neg h, allF_app, allF_cons, hno _ (isN_self name x)]
    simp [allF]
theorem del_set (name x : Bs) (l : List (Bs × Bs)) : setF name x (delF name l) = delF name l ++ [(name, x)] := by
  unfold setF
  rw [if_neg]
  intro h
  have h1 := find_hit name _ h
  have h2 := (List.mem_filter.1 (show (delF name l).getD ((delF name l).findIdx (isN name)) ([], []) ∈ delF name l by simp [List.getD, h])).2
  rw [h1] at h2
  cases h2
theorem sameFs_refl : ∀ l : List (Bs × Bs), sameFs l l = true
  | [] => rfl
  | f :: t => by rw [sameFs, sameFs_refl t]; simp [eqF]
end Tk
end Go.Proofs.YtogdmhgblceddaaDoor
