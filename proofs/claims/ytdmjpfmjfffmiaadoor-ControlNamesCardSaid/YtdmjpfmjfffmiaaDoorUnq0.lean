/- Plain facts of quoting: where a quoted text closes, and what it says. -/
import Derived.Test.YtdmjpfmjfffmiaaDoorQuo
namespace Go.Proofs.YtdmjpfmjfffmiaaDoor
open Go.RowKit
namespace Tk

/-- what the bytes behind an opening quote say, the last one left out -/
def unq : Bs → Bs
  | [] => []
  | [_] => []
  | c :: d :: t => if c = 92 then d :: unq t else c :: unq (d :: t)

def unqOk (l : Bs) : Bool := decide (l.head? = some 34) && decide (closing l 0 + 1 = l.length) && allL 1 l

theorem unq_bs (d : UInt8) (t : Bs) : unq (92 :: d :: t) = d :: unq t := by simp [unq]
theorem unq_o (c : UInt8) (t : Bs) (h : c ≠ 92) (ht : t ≠ []) : unq (c :: t) = c :: unq t := by
  cases t with
  | nil => exact absurd rfl ht
  | cons d t => simp [unq, h]
theorem closeLen_b (d : UInt8) (t : Bs) : closeLen (92 :: d :: t) = 2 + closeLen t := by simp [closeLen]

def pairs (l : Bs) : Bs := l.flatMap fun c => [92, c]
theorem pairs_len (l : Bs) : (pairs l).length = 2 * l.length := by
  induction l with
  | nil => rfl
  | cons c t ih => unfold pairs at *; rw [List.flatMap_cons, List.length_append, ih]; simp; omega
theorem pairs_cons (c : UInt8) (t : Bs) : pairs (c :: t) = 92 :: c :: pairs t := rfl
theorem pairs_snoc (l : Bs) (c : UInt8) : pairs (l ++ [c]) = pairs l ++ [92, c] := by simp [pairs]
theorem closeLen_pairs (r : Bs) : ∀ l : Bs, closeLen (pairs l ++ 34 :: r) = 2 * l.length
  | [] => closeLen_q r
  | c :: t => by
    have := closeLen_pairs r t
    rw [pairs_cons, List.cons_append, List.cons_append, closeLen_b, this]; simp; omega
theorem unq_pairs : ∀ l : Bs, unq (pairs l ++ [34]) = l
  | [] => rfl
  | c :: t => by
    rw [pairs_cons, List.cons_append, List.cons_append, unq_bs, unq_pairs t]
theorem all_pairs : ∀ l : Bs, allL 1 (pairs l) = allL 1 l
  | [] => rfl
  | c :: t => by rw [pairs_cons, allL_cons, allL_cons, allL_cons, all_pairs t, k92, Bool.true_and]
theorem closing_head (c : UInt8) (t : Bs) : closing (c :: t) 0 = 1 + closeLen t := by unfold closing; simp
theorem unqOk_pairs (l : Bs) : unqOk (34 :: (pairs l ++ [34])) = allL 1 l := by
  unfold unqOk
  rw [closing_head, closeLen_pairs, allL_cons, allL_append, all_pairs, k34]
  have h1 : decide (1 + 2 * l.length + 1 = (34 :: (pairs l ++ [34])).length) = true := by
    simp [pairs_len]; omega
  rw [h1]
  show (true && true && (true && (allL 1 l && true))) = _
  simp

theorem esc_b (c : UInt8) (h : c = 34 ∨ c = 92) : esc c = [92, c] := by unfold esc; rw [if_pos h]
theorem esc_o (c : UInt8) (h : ¬ (c = 34 ∨ c = 92)) : esc c = [c] := by unfold esc; rw [if_neg h]
theorem closeLen_esc (r : Bs) : ∀ l : Bs, closeLen (l.flatMap esc ++ 34 :: r) = (l.flatMap esc).length
  | [] => closeLen_q r
  | c :: t => by
    have ih := closeLen_esc r t
    rw [List.flatMap_cons, List.append_assoc]
    by_cases h : c = 34 ∨ c = 92
    · rw [esc_b c h, List.cons_append, List.cons_append, List.nil_append, closeLen_b, ih]; simp; omega
    · rw [esc_o c h, List.cons_append, List.nil_append, closeLen_o c _ (fun e => h (.inr e)) (fun e => h (.inl e)), ih]; simp; omega
theorem unq_esc : ∀ l : Bs, unq (l.flatMap esc ++ [34]) = l
  | [] => rfl
  | c :: t => by
    have ih := unq_esc t
    rw [List.flatMap_cons, List.append_assoc]
    by_cases h : c = 34 ∨ c = 92
    · rw [esc_b c h, List.cons_append, List.cons_append, List.nil_append, unq_bs, ih]
    · rw [esc_o c h, List.cons_append, List.nil_append, unq_o c _ (fun e => h (.inr e)) (by simp), ih]
theorem all_esc : ∀ l : Bs, allL 1 (l.flatMap esc) = allL 1 l
  | [] => rfl
  | c :: t => by
    have ih := all_esc t
    rw [List.flatMap_cons, allL_append, allL_cons, ih]
    by_cases h : c = 34 ∨ c = 92
    · rw [esc_b c h, allL_cons, allL_cons, k92, Bool.true_and]; simp [allL]
    · rw [esc_o c h, allL_cons]; simp [allL]
theorem unqOk_quote (l : Bs) : unqOk (quoteL l) = allL 1 l := by
  unfold unqOk quoteL
  rw [closing_head, closeLen_esc, allL_cons, allL_append, all_esc, k34]
  have h1 : decide (1 + (l.flatMap esc).length + 1 = (34 :: (l.flatMap esc ++ [34])).length) = true := by
    simp; omega
  rw [h1]
  show (true && true && (true && (allL 1 l && true))) = _
  simp
theorem unq_quote (l : Bs) : unq ((quoteL l).drop 1) = l := unq_esc l
theorem unqOk_more (l m : Bs) : unqOk (quoteL l ++ m ++ [34]) = false := by
  have e : quoteL l ++ m ++ [34] = 34 :: (l.flatMap esc ++ 34 :: (m ++ [34])) := by simp [quoteL]
  unfold unqOk
  rw [e, closing_head, closeLen_esc]
  have h1 : decide (1 + (l.flatMap esc).length + 1 = (34 :: (l.flatMap esc ++ 34 :: (m ++ [34]))).length) = false := by
    simp; omega
  rw [h1]; simp

/-- the document's value character, as the reference asks it -/
theorem kind_char (n : Nat) (hn : n < 256) : decide (1 ≤ kindOf n) = (decide (n = 9) || (decide (32 ≤ n) && decide (n ≤ 126)) || decide (128 ≤ n)) := by
  unfold kindOf
  by_cases h9 : n = 9
  · subst h9; decide
  · rw [if_neg h9]
    by_cases h32 : n < 32
    · rw [if_pos h32]; simp [h9]; omega
    · rw [if_neg h32]
      by_cases h128 : 128 ≤ n
      · rw [if_pos h128]; simp [h128]
      · rw [if_neg h128]
        by_cases h127 : n = 127
        · subst h127; decide
        · rw [if_neg h127]
          have h1 : n ≤ 126 := by omega
          have h2 : 32 ≤ n := by omega
          split <;> simp [h1, h2]
end Tk
end Go.Proofs.YtdmjpfmjfffmiaaDoor
