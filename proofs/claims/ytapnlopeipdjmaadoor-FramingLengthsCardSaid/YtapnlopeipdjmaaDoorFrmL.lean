/- Texts of numbers with commas between: plain facts behind FramingLengths. -/
import Derived.Test.YtapnlopeipdjmaaDoorFrmP
namespace Go.Proofs.YtapnlopeipdjmaaDoor
namespace Tk

theorem dig_bounds (d : UInt8) (h : isDig d = true) : 48 ≤ d.toNat ∧ d.toNat ≤ 57 := by
  unfold isDig at h; simpa using h
theorem dig_wh (d : UInt8) (h : isDig d = true) : wh d = false := by
  have hb := dig_bounds d h
  unfold wh
  cases hc : [(32 : UInt8), 9].contains d
  · rfl
  · simp at hc
    rcases hc with rfl | rfl
    · exact absurd hb.1 (by decide)
    · exact absurd hb.1 (by decide)
theorem dig_neat (l : Bs) (h : ∀ c ∈ l, isDig c = true) : trimL l = l := by
  refine neat_trim l ⟨fun c hc => dig_wh c (h c ?_), fun c hc => dig_wh c (h c ?_)⟩
  · exact List.mem_of_mem_head? hc
  · exact List.mem_of_mem_getLast? hc
theorem tr_snoc32 (l : Bs) : trimL (l ++ [32]) = trimL l := by
  rw [trimL_eq, trimL_eq]
  congr 1
  unfold tr
  rw [List.reverse_append]
  show ((32 :: l.reverse).dropWhile wh).reverse = _
  rw [List.dropWhile_cons, show wh 32 = true by decide, if_pos rfl]
theorem tr_cons32 (l : Bs) : trimL (32 :: l) = trimL l := by rw [trimL_eq, trimL_eq]; exact tr_cons l

theorem spl_plain : ∀ (l cur : Bs), (∀ c ∈ l, c ≠ 44 ∧ c ≠ 34) → spl 0 cur l = [cur ++ l]
  | [], cur, _ => by simp [spl]
  | c :: t, cur, h => by
    have h1 := h c (by simp)
    rw [spl, if_neg h1.1, if_neg h1.2, spl_plain t _ fun x hx => h x (by simp [hx])]
    simp
theorem dig_plain (c : UInt8) (h : isDig c = true) : c ≠ 44 ∧ c ≠ 34 := by
  have hb := dig_bounds c h
  constructor
  · rintro rfl; exact absurd hb.1 (by decide)
  · rintro rfl; exact absurd hb.1 (by decide)
theorem split_plain (l : Bs) (h : ∀ c ∈ l, c ≠ 44 ∧ c ≠ 34) : splitL l = addP (trimL l) := by
  unfold splitL
  rw [spl_plain l [] h, List.nil_append, parts_one]
theorem digL_dig (n : Nat) : ∀ c ∈ digL n, isDig c = true := digL_digits n n (Nat.le_refl _)
theorem addP_dig (n : Nat) : addP (digL n) = [digL n] := by unfold addP; rw [if_neg (digL_ne n)]
theorem split_d (n : Nat) : splitL (digL n) = [digL n] := by
  rw [split_plain _ fun c hc => dig_plain c (digL_dig n c hc), dig_neat _ (digL_dig n), addP_dig]
theorem split_sd (n : Nat) : splitL (32 :: digL n) = [digL n] := by
  rw [split_plain _ ?_, tr_cons32, dig_neat _ (digL_dig n), addP_dig]
  intro c hc
  rcases List.mem_cons.1 hc with rfl | hc
  · decide
  · exact dig_plain c (digL_dig n c hc)
theorem split_ds (n : Nat) : splitL (digL n ++ [32]) = [digL n] := by
  rw [split_plain _ ?_, tr_snoc32, dig_neat _ (digL_dig n), addP_dig]
  intro c hc
  rcases List.mem_append.1 hc with hc | hc
  · exact dig_plain c (digL_dig n c hc)
  · simp at hc; subst hc; decide
theorem hasQ_app (a b : Bs) : hasQ (a ++ b) = (hasQ a || hasQ b) := by unfold hasQ; simp
theorem hasQ_dig (n : Nat) : hasQ (digL n) = false := by
  unfold hasQ
  cases h : (digL n).contains 34
  · rfl
  · rw [List.contains_iff_mem] at h
    exact absurd rfl (dig_plain 34 (digL_dig n 34 h)).2

/-- so many numbers with a comma and a blank between; with a blank and a comma -/
def txA (k : Nat → Nat) : Nat → Bs
  | 0 => []
  | i + 1 => (if 0 < i then txA k i ++ [44, 32] else txA k i) ++ digL (k i)
def txB (k : Nat → Nat) : Nat → Bs
  | 0 => []
  | i + 1 => (if 0 < i then txB k i ++ [32, 44] else txB k i) ++ digL (k i)
def nums (k : Nat → Nat) (i : Nat) : List Bs := (List.range i).map fun j => digL (k j)
theorem nums_succ (k : Nat → Nat) (i : Nat) : nums k (i + 1) = nums k i ++ [digL (k i)] := by unfold nums; rw [List.range_succ]; simp

theorem txA_split (k : Nat → Nat) : ∀ i, splitL (txA k (i + 1)) = nums k (i + 1) ∧ hasQ (txA k (i + 1)) = false
  | 0 => by
    have e : txA k 1 = digL (k 0) := by simp [txA]
    rw [e]
    exact ⟨by rw [split_d]; rfl, hasQ_dig _⟩
  | i + 1 => by
    obtain ⟨h1, h2⟩ := txA_split k i
    have e : txA k (i + 2) = txA k (i + 1) ++ [44] ++ (32 :: digL (k (i + 1))) := by
      show (if 0 < i + 1 then txA k (i + 1) ++ [44, 32] else txA k (i + 1)) ++ digL (k (i + 1)) = _
      rw [if_pos (Nat.succ_pos i)]; simp
    constructor
    · rw [e, split_app _ _ h2, h1, split_sd, nums_succ k (i + 1)]
    · rw [e, hasQ_app, hasQ_app, h2, show (32 :: digL (k (i + 1))) = [32] ++ digL (k (i + 1)) from rfl, hasQ_app, hasQ_dig]; rfl
theorem txB_split (k : Nat → Nat) : ∀ i, splitL (txB k (i + 1)) = nums k (i + 1) ∧ splitL (txB k (i + 1) ++ [32]) = nums k (i + 1) ∧ hasQ (txB k (i + 1)) = false
  | 0 => by
    have e : txB k 1 = digL (k 0) := by simp [txB]
    rw [e]
    exact ⟨by rw [split_d]; rfl, by rw [split_ds]; rfl, hasQ_dig _⟩
  | i + 1 => by
    obtain ⟨-, h1, h2⟩ := txB_split k i
    have h3 : hasQ (txB k (i + 1) ++ [32]) = false := by rw [hasQ_app, h2]; rfl
    have e : txB k (i + 2) = txB k (i + 1) ++ [32] ++ [44] ++ digL (k (i + 1)) := by
      show (if 0 < i + 1 then txB k (i + 1) ++ [32, 44] else txB k (i + 1)) ++ digL (k (i + 1)) = _
      rw [if_pos (Nat.succ_pos i)]; simp
    refine ⟨?_, ?_, ?_⟩
    · rw [e, split_app _ _ h3, h1, split_d, nums_succ k (i + 1)]
    · rw [e, List.append_assoc, split_app _ _ h3, h1, split_ds, nums_succ k (i + 1)]
    · rw [e, hasQ_app, hasQ_app, h3, hasQ_dig]; rfl

theorem isNum_dig (a n : Nat) (hn : n ≤ maxN) : isNum a (digL n) = decide (n = a) := by
  have h := num_zeros 0 n
  rw [List.replicate_zero, List.nil_append, if_neg (by omega)] at h
  unfold isNum
  rw [h]; simp
theorem firstN_nums (k : Nat → Nat) (i : Nat) (hk : k 0 ≤ maxN) (hi : 0 < i) : firstN (nums k i) = k 0 := by
  obtain ⟨j, rfl⟩ : ∃ j, i = j + 1 := ⟨i - 1, by omega⟩
  have h := num_zeros 0 (k 0)
  rw [List.replicate_zero, List.nil_append, if_neg (by omega)] at h
  unfold firstN nums
  rw [List.range_succ_eq_map]
  simp [h]
/-- the one number, another at one place -/
def kAt (n other a : Nat) (i : Nat) : Nat := if i = a then other else n
theorem nums_ok (k : Nat → Nat) (i : Nat) (hk : ∀ j, k j ≤ maxN) (hi : 0 < i) : lensOk (nums k i) = decide (∀ j, j < i → k j = k 0) := by
  have hf := firstN_nums k i (hk 0) hi
  by_cases h : ∀ j, j < i → k j = k 0
  · rw [decide_eq_true h]
    refine lensOk_yes _ ?_ ?_
    · unfold nums; simp; omega
    · intro p hp
      unfold nums at hp
      rw [List.mem_map] at hp
      obtain ⟨j, hj, rfl⟩ := hp
      rw [hf, isNum_dig _ _ (hk j), decide_eq_true_eq]
      exact h j (List.mem_range.1 hj)
  · rw [decide_eq_false h]
    have h2 : ∃ j, j < i ∧ k j ≠ k 0 := by
      refine Classical.byContradiction fun hn => h fun j hj => ?_
      exact Classical.byContradiction fun hne => hn ⟨j, hj, hne⟩
    obtain ⟨j, hj, hne⟩ := h2
    refine lensOk_no _ (digL (k j)) ?_ ?_
    · unfold nums
      exact List.mem_map.2 ⟨j, List.mem_range.2 hj, rfl⟩
    · rw [hf, isNum_dig _ _ (hk j), decide_eq_false hne]
theorem nums_at (n other a i : Nat) (hn : n ≤ maxN) (ho : other ≤ maxN) (ha : a < i) : lensOk (nums (kAt n other a) i) = (decide (n = other) || decide (i = 1)) := by
  rw [nums_ok _ _ (fun j => by unfold kAt; split <;> assumption) (by omega)]
  by_cases h1 : n = other
  · subst h1
    rw [decide_eq_true (fun j _ => by unfold kAt; split <;> split <;> rfl)]; simp
  · by_cases h2 : i = 1
    · subst h2
      rw [decide_eq_true (fun j hj => by obtain rfl : j = 0 := by omega
                                         rfl)]; simp
    · rw [decide_eq_false, decide_eq_false h1, decide_eq_false h2]; · rfl
      intro h
      by_cases ha0 : a = 0
      · have := h 1 (by omega)
        unfold kAt at this
        rw [if_neg (by omega), if_pos ha0.symm] at this
        exact h1 this
      · have := h a ha
        unfold kAt at this
        rw [if_pos rfl, if_neg (by omega)] at this
        exact h1 this.symm
theorem nums_same (n i : Nat) (hn : n ≤ maxN) (hi : 0 < i) : lensOk (nums (fun _ => n) i) = true ∧ firstN (nums (fun _ => n) i) = n := by
  refine ⟨?_, firstN_nums _ i hn hi⟩
  rw [nums_ok _ _ (fun _ => hn) hi, decide_eq_true (fun _ _ => rfl)]

/-- a length out of what the list tells -/
theorem len_of (l : List (Bs × Bs)) (P : List Bs) (hP : P ≠ []) (h : listF l nmCL = P) : lenN l = (if lensOk P then firstN P else 0) ∧ hasF l nmCL = true ∧ lenS l = if lensOk P then 0 else 400 := by
  have h2 := list_has l nmCL (by rw [h]; exact hP)
  refine ⟨by unfold lenN lenOkF; rw [h], h2, ?_⟩
  unfold lenS lenOkF
  rw [h2, h]
  cases lensOk P <;> rfl
theorem listF_one (name t : Bs) (h : lowL name = lowL nmCL) : listF [(name, t)] nmCL = splitL t := by
  unfold listF allF isN
  simp [h]
theorem listF_many (name : Bs) (h : lowL name = lowL nmCL) (k : Nat → Nat) : ∀ i, listF ((List.range i).map fun j => (name, digL (k j))) nmCL = nums k i
  | 0 => rfl
  | i + 1 => by
    have ih := listF_many name h k i
    rw [nums_succ, ← ih, List.range_succ, List.map_append]
    have hn : isN nmCL (name, digL (k i)) = true := by unfold isN; simp [h]
    unfold listF
    rw [allF_app', List.flatMap_append]
    congr 1
    unfold allF
    simp [hn, split_d]
theorem nums_ne (k : Nat → Nat) (i : Nat) (h : 0 < i) : nums k i ≠ [] := by unfold nums; simp; omega
theorem txA_len (k : Nat → Nat) (h : ∀ j, (digL (k j)).length ≤ 20) : ∀ i, (txA k i).length ≤ 22 * i
  | 0 => by simp [txA]
  | i + 1 => by
    have := txA_len k h i
    have h2 := h i
    unfold txA
    split <;> simp <;> omega
theorem txB_len (k : Nat → Nat) (h : ∀ j, (digL (k j)).length ≤ 20) : ∀ i, (txB k i).length ≤ 22 * i
  | 0 => by simp [txB]
  | i + 1 => by
    have := txB_len k h i
    have h2 := h i
    unfold txB
    split <;> simp <;> omega
end Tk
end Go.Proofs.YtapnlopeipdjmaaDoor
