/- Runs of white space between parts: what one blank, or many, or comma and blank, give. -/
import Derived.Test.YthooghgiokgdhaaDoorQC
namespace Go.Proofs.YthooghgiokgdhaaDoor
namespace Tk

/-- was the last byte white space? -/
def endW : Bool → Bs → Bool
  | p, [] => p
  | _, c :: t => endW (whV c) t
theorem nar_app : ∀ (s : Bs) (p : Bool) (t : Bs), narG p (s ++ t) = narG p s ++ narG (endW p s) t
  | [], p, t => by simp [narG, endW]
  | c :: s, p, t => by
    rw [List.cons_append, narG, narG, endW]
    cases hc : whV c with
    | true =>
      rw [if_pos rfl, if_pos rfl, nar_app s true t]
      split <;> simp
    | false =>
      rw [if_neg (by decide), if_neg (by decide), nar_app s false t]
      simp
theorem end_app : ∀ (s : Bs) (p : Bool) (t : Bs), endW p (s ++ t) = endW (endW p s) t
  | [], p, t => rfl
  | c :: s, p, t => by rw [List.cons_append, endW, endW, end_app s _ t]
theorem nar_plain : ∀ (s : Bs) (p : Bool), (∀ c ∈ s, whV c = false) → narG p s = s
  | [], p, _ => by simp [narG]
  | c :: t, p, h => by
    rw [narG, if_neg (by rw [h c (by simp)]; decide), nar_plain t false (fun d hd => h d (by simp [hd]))]
theorem end_plain : ∀ (s : Bs) (p : Bool), (∀ c ∈ s, whV c = false) → s ≠ [] → endW p s = false
  | [c], p, h, _ => by rw [endW, endW]; exact h c (by simp)
  | c :: d :: t, p, h, _ => by
    rw [endW]; exact end_plain (d :: t) _ (fun x hx => h x (by simp [hx])) (by simp)
/-- blank and tab, k times -/
def btS : Nat → Bs
  | 0 => []
  | k + 1 => btS k ++ [32, 9]
theorem end_bt : ∀ k, endW true (btS k) = true
  | 0 => rfl
  | k + 1 => by rw [btS, end_app, end_bt k]; decide
theorem nar_bt : ∀ k, narG true (btS k) = []
  | 0 => rfl
  | k + 1 => by rw [btS, nar_app, nar_bt k, end_bt k]; decide
theorem bt_cons : ∀ k, btS (k + 1) = 32 :: 9 :: btS k
  | 0 => rfl
  | k + 1 => by
    have h : btS (k + 1) = btS k ++ [32, 9] := rfl
    have ih := bt_cons k
    have h2 : btS (k + 1 + 1) = btS (k + 1) ++ [32, 9] := rfl
    rw [h2, ih, List.cons_append, List.cons_append, ← h, ih]
theorem nar_bt1 (k : Nat) (t : Bs) : narG false (btS (k + 1) ++ t) = 32 :: narG true t := by
  rw [bt_cons, List.cons_append, narG, if_pos (by decide), if_neg (by decide), List.cons_append, narG, if_pos (by decide), if_pos rfl, nar_app, nar_bt, end_bt]
  rfl
/-- parts, one after another, with what lies between -/
def glue (sep : Nat → Bs) (P : List Bs) : Nat → Bs
  | 0 => []
  | i + 1 => glue sep P i ++ ((if i = 0 then [] else sep i) ++ P.getD i [])
def sp1 : Nat → Bs := fun _ => [32]
def spC : Nat → Bs := fun _ => [44, 32]
theorem glue_nar (sep : Nat → Bs) (P : List Bs) (hs : ∀ i t, narG false (sep i ++ t) = 32 :: narG true t) (hP : ∀ p ∈ P, p ≠ [] ∧ ∀ c ∈ p, whV c = false) :
    ∀ i, i ≤ P.length → narL (glue sep P i) = glue sp1 P i ∧ (0 < i → endW false (glue sep P i) = false)
  | 0, _ => ⟨rfl, fun h => absurd h (by omega)⟩
  | i + 1, hi => by
    obtain ⟨h1, h2⟩ := glue_nar sep P hs hP i (by omega)
    have hp := hP (P.getD i []) (by simp [List.getD, show i < P.length by omega])
    generalize hx : P.getD i [] = x at hp
    rw [glue, glue, hx]
    by_cases h0 : i = 0
    · subst h0
      rw [if_pos rfl, if_pos rfl]
      refine ⟨?_, fun _ => ?_⟩
      · show narG false ([] ++ ([] ++ x)) = [] ++ ([] ++ x)
        simp only [List.nil_append]
        exact nar_plain x false hp.2
      · show endW false ([] ++ ([] ++ x)) = false
        simp only [List.nil_append]
        exact end_plain x false hp.2 hp.1
    · rw [if_neg h0, if_neg h0]
      refine ⟨?_, fun _ => ?_⟩
      · unfold narL at h1 ⊢
        rw [nar_app, h1, h2 (by omega), hs, nar_plain x true hp.2]
        rfl
      · rw [end_app, end_app, end_plain x _ hp.2 hp.1]
theorem glue_blank (P : List Bs) (hP : ∀ p ∈ P, p ≠ [] ∧ ∀ c ∈ p, whV c = false) : narL (glue sp1 P P.length) = glue sp1 P P.length :=
  (glue_nar sp1 P (fun i t => by unfold sp1; rw [List.singleton_append, narG, if_pos (by decide), if_neg (by decide)]) hP _ (Nat.le_refl _)).1
theorem glue_comma (P : List Bs) (hP : ∀ p ∈ P, p ≠ [] ∧ ∀ c ∈ p, whV c = false) : ∀ i, i ≤ P.length → narL (glue spC P i) = glue spC P i ∧ (0 < i → endW false (glue spC P i) = false)
  | 0, _ => ⟨rfl, fun h => absurd h (by omega)⟩
  | i + 1, hi => by
    obtain ⟨h1, h2⟩ := glue_comma P hP i (by omega)
    have hp := hP (P.getD i []) (by simp [List.getD, show i < P.length by omega])
    generalize hx : P.getD i [] = x at hp
    rw [glue, hx]
    by_cases h0 : i = 0
    · subst h0
      rw [if_pos rfl]
      refine ⟨?_, fun _ => ?_⟩
      · show narG false ([] ++ ([] ++ x)) = [] ++ ([] ++ x)
        simp only [List.nil_append]
        exact nar_plain x false hp.2
      · show endW false ([] ++ ([] ++ x)) = false
        simp only [List.nil_append]
        exact end_plain x false hp.2 hp.1
    · rw [if_neg h0]
      have hc : narG false (spC i ++ x) = spC i ++ x := by
        unfold spC
        rw [List.cons_append, List.singleton_append, narG, if_neg (by decide), narG, if_pos (by decide), if_neg (by decide), nar_plain x true hp.2]
      refine ⟨?_, fun _ => ?_⟩
      · unfold narL at h1 ⊢
        rw [nar_app, h1, h2 (by omega), hc]
      · rw [end_app, end_app, end_plain x _ hp.2 hp.1]
theorem joinV_snoc (P : List Bs) (x sep : Bs) (h : P ≠ []) : Lib.join (P ++ [x]) sep = Lib.join P sep ++ sep ++ x := by
  cases P with
  | nil => exact absurd rfl h
  | cons y r =>
    rw [List.cons_append, Lib.join_cons, Lib.join_cons]
    simp [Lib.joinTail, List.append_assoc]
theorem glue_join (P : List Bs) : ∀ i, i ≤ P.length → glue spC P i = Lib.join (P.take i) [44, 32]
  | 0, _ => by simp [glue, Lib.join_nil]
  | i + 1, hi => by
    have ih := glue_join P i (by omega)
    have hlt : i < P.length := by omega
    rw [glue, ih, List.take_succ_eq_append_getElem hlt]
    have hg : P.getD i [] = P[i] := by simp [List.getD, hlt]
    rw [hg]
    by_cases h0 : i = 0
    · subst h0
      simp [Lib.join, List.intercalate]
    · rw [if_neg h0]
      have hne : P.take i ≠ [] := by
        intro e
        have := congrArg List.length e
        rw [List.length_take] at this
        simp only [List.length_nil] at this
        omega
      unfold spC
      rw [← List.append_assoc]
      exact (joinV_snoc _ _ _ hne).symm
end Tk
end Go.Proofs.YthooghgiokgdhaaDoor
