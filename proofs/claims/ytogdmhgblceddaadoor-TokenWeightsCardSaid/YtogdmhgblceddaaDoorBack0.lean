/- Plain facts behind TokenBack: a list of quoted texts is split into them. -/
import Derived.Test.YtogdmhgblceddaaDoorWgt0
namespace Go.Proofs.YtogdmhgblceddaaDoor
namespace Tk
open Ff

/-- what the law joins: each text that can be quoted, quoted, a blank, a comma and a tab behind it -/
def joinQ (l : List Bs) : Bs := (l.filter (allL 1)).flatMap fun x => quoteL x ++ [32, 44, 9]
def wantQ (l : List Bs) : List Bs := (l.filter (allL 1)).map quoteL

theorem tr_blank (l : Bs) : tr (l ++ [32]) = tr l := by
  unfold tr
  rw [List.reverse_append]
  show ((32 :: l.reverse).dropWhile wh).reverse = _
  rw [List.dropWhile_cons, show wh 32 = true by decide, if_pos rfl]
theorem neat_quote (x : Bs) : Neat (quoteL x) := by
  unfold quoteL
  refine ⟨fun c h => ?_, fun c h => ?_⟩
  · simp at h; subst h; decide
  · rw [← List.cons_append, List.getLast?_append] at h; simp at h; subst h; decide
theorem trim_tab (m : Bs) (h : Neat m) (hm : m ≠ []) : trimL (9 :: (m ++ [32])) = m := by
  rw [trimL_eq, ← List.cons_append, tr_blank]
  have h1 : tr (9 :: m) = 9 :: m := by
    unfold tr
    rw [dropWhile_same _ (fun c hc => h.2 c (by
      rw [List.head?_reverse] at hc
      cases m with
      | nil => exact absurd rfl hm
      | cons a t => rw [List.getLast?_cons_cons] at hc; exact hc)), List.reverse_reverse]
  rw [h1, List.dropWhile_cons, show wh 9 = true by decide, if_pos rfl, dropWhile_same m h.1]
theorem trim_none (m : Bs) (h : Neat m) : trimL (m ++ [32]) = m := by
  rw [trimL_eq, tr_blank, ← trimL_eq, neat_trim m h]

theorem spl_quote (w x r : Bs) : spl 0 w (quoteL x ++ [32, 44, 9] ++ r) = (w ++ quoteL x ++ [32]) :: spl 0 [9] r := by
  have e : quoteL x ++ [32, 44, 9] ++ r = 34 :: (x.flatMap esc ++ 34 :: (32 :: 44 :: 9 :: r)) := by simp [quoteL]
  rw [e, spl, if_neg (by decide), if_pos rfl, spl_close, closeLen_esc]
  have e1 : (x.flatMap esc ++ 34 :: (32 :: 44 :: 9 :: r)).take ((x.flatMap esc).length + 1) = x.flatMap esc ++ [34] := by
    generalize x.flatMap esc = m
    rw [List.take_append, List.take_of_length_le (by omega)]; simp
  have e2 : (x.flatMap esc ++ 34 :: (32 :: 44 :: 9 :: r)).drop ((x.flatMap esc).length + 1) = 32 :: 44 :: 9 :: r := by
    generalize x.flatMap esc = m
    rw [List.drop_append, List.drop_eq_nil_of_le (by omega)]; simp
  rw [e1, e2, spl, if_neg (by decide), if_neg (by decide), spl, if_pos rfl, spl, if_neg (by decide), if_neg (by decide)]
  simp [quoteL]

theorem parts_quotes : ∀ (l : List Bs) (w : Bs), (w = [] ∨ w = [9]) → parts (spl 0 w (l.flatMap fun x => quoteL x ++ [32, 44, 9])) = l.map quoteL
  | [], w, h => by rcases h with rfl | rfl <;> decide
  | x :: l, w, h => by
    rw [List.flatMap_cons, spl_quote, parts_cons, parts_quotes l [9] (.inr rfl), List.map_cons]
    have hne : quoteL x ≠ [] := by simp [quoteL]
    have ht : trimL (w ++ quoteL x ++ [32]) = quoteL x := by
      rcases h with rfl | rfl
      · exact trim_none _ (neat_quote x)
      · exact trim_tab _ (neat_quote x) hne
    rw [ht]
    unfold addP
    rw [if_neg hne]; rfl
theorem split_joined (l : List Bs) : splitL (joinQ l) = wantQ l := parts_quotes _ [] (.inl rfl)

def sumL : List Bs → Nat
  | [] => 0
  | x :: t => x.length + sumL t
/-- may the texts be gone through: so many bytes together -/
def ltGo (b : Nat) : Nat → List Bs → Bool
  | _, [] => true
  | n, x :: t => if b < n + x.length then false else ltGo b (n + x.length) t
def lightT (l : List Bs) : Bool := decide (l.length ≤ 20) && ltGo 200 0 l
theorem ltGo_sum (b : Nat) : ∀ (l : List Bs) (n : Nat), n ≤ b → ltGo b n l = true → n + sumL l ≤ b
  | [], n, hn, _ => by simp [sumL]; exact hn
  | x :: t, n, hn, h => by
    unfold ltGo at h
    split at h
    · cases h
    · have := ltGo_sum b t (n + x.length) (by omega) h
      unfold sumL; omega
theorem sum_mem : ∀ (l : List Bs) (x : Bs), x ∈ l → x.length ≤ sumL l
  | y :: t, x, h => by
    unfold sumL
    rcases List.mem_cons.1 h with rfl | h
    · omega
    · have := sum_mem t x h; omega
theorem light_parts (l : List Bs) (h : lightT l = true) : l.length ≤ 20 ∧ sumL l ≤ 200 ∧ ∀ x ∈ l, x.length ≤ 200 := by
  unfold lightT at h
  rw [Bool.and_eq_true, decide_eq_true_eq] at h
  have := ltGo_sum 200 l 0 (by omega) h.2
  exact ⟨h.1, by omega, fun x hx => by have := sum_mem l x hx; omega⟩
theorem sum_take : ∀ (l : List Bs) (i : Nat), sumL (l.take i) ≤ sumL l
  | [], i => by simp
  | x :: t, 0 => by simp [sumL]
  | x :: t, i + 1 => by have := sum_take t i; simp only [List.take_succ_cons, sumL]; omega
theorem join_len : ∀ l : List Bs, (joinQ l).length ≤ 2 * sumL l + 5 * l.length
  | [] => by simp [joinQ]
  | x :: t => by
    have ih := join_len t
    have he : (quoteL x).length ≤ 2 * x.length + 2 := by
      have := esc_len x
      unfold quoteL
      rw [List.length_cons, List.length_append, List.length_singleton]; omega
    unfold joinQ at *
    rw [List.filter_cons]
    split
    · rw [List.flatMap_cons, List.length_append, List.length_append]
      unfold sumL
      simp only [List.length_cons, List.length_nil]
      omega
    · unfold sumL; simp only [List.length_cons]; omega

theorem join_snoc_no (l : List Bs) (x : Bs) (h : allL 1 x = false) : joinQ (l ++ [x]) = joinQ l ∧ wantQ (l ++ [x]) = wantQ l := by
  unfold joinQ wantQ
  rw [List.filter_append, List.filter_cons, h]; simp
theorem join_snoc_yes (l : List Bs) (x : Bs) (h : allL 1 x = true) : joinQ (l ++ [x]) = joinQ l ++ (quoteL x ++ [32, 44, 9]) ∧ wantQ (l ++ [x]) = wantQ l ++ [quoteL x] := by
  unfold joinQ wantQ
  rw [List.filter_append, List.filter_cons, h]; simp
theorem want_len (l : List Bs) : (wantQ l).length ≤ l.length := by
  unfold wantQ; rw [List.length_map]; exact List.length_filter_le _ _

theorem gk_spec (q : Nat) : ∀ n, F (gk q n) ≤ q ∧ (gk q n = n ∨ q < F (gk q n + 1))
  | 0 => ⟨by show F 0 ≤ q; rw [F_zero]; omega, .inl rfl⟩
  | n + 1 => by
    by_cases h : F (n + 1) ≤ q
    · rw [gk_pos q n h]; exact ⟨h, .inl rfl⟩
    · rw [gk_neg q n h]
      have ih := gk_spec q n
      refine ⟨ih.1, .inr ?_⟩
      rcases ih.2 with h2 | h2
      · rw [h2]; omega
      · exact h2
end Tk
end Go.Proofs.YtogdmhgblceddaaDoor
