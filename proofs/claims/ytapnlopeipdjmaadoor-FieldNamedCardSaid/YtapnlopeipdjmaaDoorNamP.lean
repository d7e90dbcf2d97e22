/- Each name once, at its first place: plain facts. -/
import Derived.Test.YtapnlopeipdjmaaDoorFldV
namespace Go.Proofs.YtapnlopeipdjmaaDoor
namespace Tk

def onceGo : List Bs → List Bs → List Bs
  | _, [] => []
  | seen, x :: t => if x ∈ seen then onceGo seen t else x :: onceGo (x :: seen) t
def lowN (l : List (Bs × Bs)) : List Bs := l.map fun f => lowL f.1
/-- the names of fields in small letters, each once -/
def namesL (l : List (Bs × Bs)) : List Bs := onceGo [] (lowN l)

theorem once_congr : ∀ (L s1 s2 : List Bs), (∀ x, x ∈ s1 ↔ x ∈ s2) → onceGo s1 L = onceGo s2 L
  | [], _, _, _ => rfl
  | x :: t, s1, s2, h => by
    rw [onceGo, onceGo]
    by_cases hx : x ∈ s1
    · rw [if_pos hx, if_pos ((h x).1 hx), once_congr t s1 s2 h]
    · rw [if_neg hx, if_neg (fun e => hx ((h x).2 e)), once_congr t (x :: s1) (x :: s2) fun y => by simp [h y]]
theorem once_snoc : ∀ (L s : List Bs) (x : Bs), onceGo s (L ++ [x]) = onceGo s L ++ (if x ∈ s ∨ x ∈ L then [] else [x])
  | [], s, x => by
    rw [List.nil_append, onceGo]
    by_cases h : x ∈ s
    · simp [h, onceGo]
    · simp [h, onceGo]
  | y :: t, s, x => by
    rw [List.cons_append, onceGo, onceGo]
    by_cases hy : y ∈ s
    · rw [if_pos hy, if_pos hy, once_snoc t s x]
      congr 1
      by_cases hx : x ∈ s
      · rw [if_pos (.inl hx), if_pos (.inl hx)]
      · by_cases hxt : x ∈ t
        · rw [if_pos (.inr hxt), if_pos (.inr (by simp [hxt]))]
        · rw [if_neg (by simp [hx, hxt]), if_neg]
          simp only [List.mem_cons, not_or]
          exact ⟨hx, fun e => hx (e ▸ hy), hxt⟩
    · rw [if_neg hy, if_neg hy, once_snoc t (y :: s) x, List.cons_append]
      congr 2
      by_cases h : x ∈ s ∨ x = y ∨ x ∈ t
      · rw [if_pos (by simp only [List.mem_cons]; rcases h with h | h | h <;> simp [h]), if_pos (by simp only [List.mem_cons]; rcases h with h | h | h <;> simp [h])]
      · rw [if_neg, if_neg]
        · simp only [List.mem_cons]; exact h
        · simp only [List.mem_cons]
          intro h2
          rcases h2 with (h2 | h2) | h2
          · exact h (.inr (.inl h2))
          · exact h (.inl h2)
          · exact h (.inr (.inr h2))
theorem once_mem : ∀ (L s : List Bs) (x : Bs), x ∈ onceGo s L ↔ x ∈ L ∧ x ∉ s
  | [], s, x => by simp [onceGo]
  | y :: t, s, x => by
    rw [onceGo]
    by_cases hy : y ∈ s
    · rw [if_pos hy, once_mem t s x]
      constructor
      · rintro ⟨h1, h2⟩; exact ⟨by simp [h1], h2⟩
      · rintro ⟨h1, h2⟩
        rcases List.mem_cons.1 h1 with rfl | h1
        · exact absurd hy h2
        · exact ⟨h1, h2⟩
    · rw [if_neg hy, List.mem_cons, once_mem t (y :: s) x]
      constructor
      · rintro (rfl | ⟨h1, h2⟩)
        · exact ⟨by simp, hy⟩
        · exact ⟨by simp [h1], fun e => h2 (by simp [e])⟩
      · rintro ⟨h1, h2⟩
        by_cases e : x = y
        · exact .inl e
        · rcases List.mem_cons.1 h1 with rfl | h1
          · exact absurd rfl e
          · exact .inr ⟨h1, by simp [e, h2]⟩
theorem once_nodup : ∀ (L s : List Bs), (onceGo s L).Nodup
  | [], s => List.nodup_nil
  | y :: t, s => by
    rw [onceGo]
    split
    · exact once_nodup t s
    · rw [List.nodup_cons]
      exact ⟨fun h => ((once_mem t (y :: s) y).1 h).2 (by simp), once_nodup t (y :: s)⟩
theorem count_ne (x y : Bs) (t : List Bs) (h : x ≠ y) : (y :: t).count x = t.count x := List.count_cons_of_ne (fun e => h e.symm)
theorem once_sum : ∀ (L s : List Bs), ((onceGo s L).map fun x => L.count x).sum = (L.filter fun x => decide (x ∉ s)).length
  | [], s => rfl
  | y :: t, s => by
    rw [onceGo]
    by_cases hy : y ∈ s
    · rw [if_pos hy, List.filter_cons_of_neg (by simp [hy]), ← once_sum t s]
      congr 1
      refine List.map_congr_left fun x hx => count_ne x y t ?_
      rintro rfl
      exact ((once_mem t s x).1 hx).2 hy
    · rw [if_neg hy, List.filter_cons_of_pos (by simp [hy]), List.map_cons, List.sum_cons, List.length_cons, List.count_cons_self]
      have e : ((onceGo (y :: s) t).map fun x => (y :: t).count x) = (onceGo (y :: s) t).map fun x => t.count x := by
        refine List.map_congr_left fun x hx => count_ne x y t ?_
        rintro rfl
        exact ((once_mem t (x :: s) x).1 hx).2 (by simp)
      rw [e, once_sum t (y :: s)]
      have key : ∀ u : List Bs, (u.filter fun x => decide (x ∉ s)).length = u.count y + (u.filter fun x => decide (x ∉ y :: s)).length := by
        intro u
        induction u with
        | nil => rfl
        | cons a u ih =>
          by_cases ha : a = y
          · subst ha
            rw [List.filter_cons_of_pos (by simp [hy]), List.filter_cons_of_neg (by simp), List.count_cons_self, List.length_cons, ih]; omega
          · rw [count_ne y a u (fun e => ha e.symm)]
            by_cases has : a ∈ s
            · rw [List.filter_cons_of_neg (by simp [has]), List.filter_cons_of_neg (by simp [has]), ih]
            · rw [List.filter_cons_of_pos (by simp [has]), List.filter_cons_of_pos (by simp [has, ha]), List.length_cons, List.length_cons, ih]; omega
      rw [key t]; omega

theorem all_count (l : List (Bs × Bs)) (x : Bs) (hx : lowL x = x) : (allF l x).length = (lowN l).count x := by
  unfold allF lowN
  rw [List.length_map]
  induction l with
  | nil => rfl
  | cons f t ih =>
    rw [List.map_cons]
    by_cases h : lowL f.1 = x
    · rw [List.filter_cons_of_pos (by unfold isN; simp [h, hx]), List.length_cons, ih, h, List.count_cons_self]
    · rw [List.filter_cons_of_neg (by unfold isN; simp [h, hx]), ih, count_ne x _ _ (fun e => h e.symm)]
theorem names_low (l : List (Bs × Bs)) (x : Bs) (h : x ∈ namesL l) : lowL x = x := by
  have := ((once_mem _ _ _).1 h).1
  unfold lowN at this
  rw [List.mem_map] at this
  obtain ⟨f, -, rfl⟩ := this
  exact lowL_lowL _
theorem names_all (l : List (Bs × Bs)) (x : Bs) (h : x ∈ namesL l) : 0 < (allF l x).length := by
  rw [all_count l x (names_low l x h), List.count_pos_iff]
  exact ((once_mem _ _ _).1 h).1
theorem names_nodup (l : List (Bs × Bs)) : (namesL l).Nodup := once_nodup _ _
theorem names_sum (l : List (Bs × Bs)) : ((namesL l).map fun x => (allF l x).length).sum = l.length := by
  have h := once_sum (lowN l) []
  have e : ((namesL l).map fun x => (allF l x).length) = (onceGo [] (lowN l)).map fun x => (lowN l).count x := List.map_congr_left fun x hx => all_count l x (names_low l x hx)
  rw [e, h, List.filter_eq_self.2 (fun _ _ => by simp)]
  unfold lowN; simp
theorem names_snoc (l : List (Bs × Bs)) (f : Bs × Bs) : namesL (l ++ [f]) = namesL l ++ (if lowL f.1 ∈ lowN l then [] else [lowL f.1]) := by
  unfold namesL
  have e : lowN (l ++ [f]) = lowN l ++ [lowL f.1] := by unfold lowN; simp
  rw [e, once_snoc]; simp
theorem once_len : ∀ (L s : List Bs), (onceGo s L).length ≤ L.length
  | [], _ => Nat.le_refl _
  | y :: t, s => by
    rw [onceGo]
    split
    · exact Nat.le_succ_of_le (once_len t s)
    · exact Nat.succ_le_succ (once_len t _)
theorem names_len (l : List (Bs × Bs)) : (namesL l).length ≤ l.length := by
  have := once_len (lowN l) []
  unfold lowN at this
  rw [List.length_map] at this
  exact this
end Tk
end Go.Proofs.YtapnlopeipdjmaaDoor
