/- VaryWhite, the plain side: what the law says of parts that are tokens. -/
import Derived.Test.YthooghgiokgdhaaDoorQVaW
import Derived.Test.YthooghgiokgdhaaDoorQC
import Derived.Test.YthooghgiokgdhaaDoorQRefA
namespace Go.Proofs.YthooghgiokgdhaaDoor
namespace Tk

theorem kind_wh (c : UInt8) (h : 2 ≤ kindOf c.toNat) : whV c = false := by
  have hh : ∀ k : Fin 256, 2 ≤ kindOf (UInt8.ofNat k.val).toNat → whV (UInt8.ofNat k.val) = false := by decide +kernel
  have := hh ⟨c.toNat, c.toNat_lt⟩
  rw [UInt8.ofNat_toNat] at this
  exact this h
theorem tok_plain (p : Bs) (h : tokL p = true) : p ≠ [] ∧ ∀ c ∈ p, whV c = false := by
  unfold tokL at h
  rw [Bool.and_eq_true] at h
  refine ⟨fun e => by subst e; simp at h, fun c hc => ?_⟩
  have h2 := h.2
  unfold allL at h2
  rw [List.all_eq_true] at h2
  exact kind_wh c (by simpa using h2 c hc)
/-- what lies between the parts -/
def sepW (D : List Int) : Nat → Bs := fun i => btS (1 + ((D.getD i 0) % 4).toNat)
theorem sepW_nar (D : List Int) (i : Nat) (t : Bs) : narG false (sepW D i ++ t) = 32 :: narG true t := by
  unfold sepW
  rw [Nat.add_comm]
  exact nar_bt1 _ t
theorem bt_len2 : ∀ k, (btS k).length = 2 * k
  | 0 => rfl
  | k + 1 => by rw [btS, List.length_append, bt_len2 k]; simp only [List.length_cons, List.length_nil]; omega
theorem sepW_len (D : List Int) (i : Nat) : (sepW D i).length ≤ 8 := by unfold sepW; rw [bt_len2]; omega
theorem glue_len (sep : Nat → Bs) (P : List Bs) (k : Nat) (hs : ∀ i, (sep i).length ≤ 8) (hP : ∀ p ∈ P, p.length ≤ k) : ∀ i, i ≤ P.length → (glue sep P i).length ≤ i * (k + 8)
  | 0, _ => by simp [glue]
  | i + 1, hi => by
    have ih := glue_len sep P k hs hP i (by omega)
    have h1 := hP (P.getD i []) (by simp [List.getD, show i < P.length by omega])
    have h2 := hs i
    rw [glue, List.length_append, List.length_append, Nat.succ_mul]
    split
    · simp only [List.length_nil]; omega
    · omega
theorem low_low (n : Bs) : lowL (lowL n) = lowL n := lowL_lowL n
theorem all_one (n x : Bs) : allF [(n, x)] n = [x] := by unfold allF isN; simp
theorem all_low (n x : Bs) : allF [(lowL n, x)] n = [x] := by unfold allF isN; simp [lowL_lowL]
theorem all_nil (n : Bs) : allF [] n = [] := rfl
theorem all_each (n : Bs) : ∀ P : List Bs, allF (P.map fun p => (n, p)) n = P
  | [] => rfl
  | p :: t => by
    have ih := all_each n t
    unfold allF isN at *
    simp only [List.map_cons, decide_true, List.filter_cons_of_pos] at *
    rw [ih]
theorem val_one (x : Bs) : valV [x] = 43 :: narL x := by
  unfold valV
  rw [if_neg (by simp), List.map_cons, List.map_nil, Lib.join_one]
theorem nar_parts (P : List Bs) (hP : ∀ p ∈ P, p ≠ [] ∧ ∀ c ∈ p, whV c = false) : P.map narL = P := by
  conv => rhs; rw [← List.map_id P]
  exact List.map_congr_left fun p hp => nar_plain p false (hP p hp).2
/-- what the law finds -/
theorem white_facts (P : List Bs) (D : List Int) (n : Bs) (hP : ∀ p ∈ P, p ≠ [] ∧ ∀ c ∈ p, whV c = false) :
    mchV [(n, glue sp1 P P.length)] [(lowL n, glue (sepW D) P P.length)] [n] = true ∧ valV (allF [(n, glue sp1 P P.length)] n) = 43 :: glue sp1 P P.length ∧
      (P ≠ [] → valV (allF (P.map fun p => (n, p)) n) = 43 :: glue spC P P.length ∧ mchV (P.map fun p => (n, p)) [(n, glue spC P P.length)] [n] = true) := by
  have h1 := glue_blank P hP
  have h2 := (glue_nar (sepW D) P (sepW_nar D) hP P.length (Nat.le_refl _)).1
  have h3 := (glue_comma P hP P.length (Nat.le_refl _)).1
  have h4 := glue_join P P.length (Nat.le_refl _)
  rw [List.take_length] at h4
  have hv : valV (allF [(n, glue sp1 P P.length)] n) = 43 :: glue sp1 P P.length := by rw [all_one, val_one, h1]
  refine ⟨?_, hv, fun hne => ?_⟩
  · unfold mchV matV
    rw [List.all_cons, List.all_nil, Bool.and_true, beq_iff_eq]
    show valV (allF [(n, glue sp1 P P.length)] n) = valV (allF [(lowL n, glue (sepW D) P P.length)] n)
    rw [hv, all_low, val_one, h2]
  · have e : valV (allF (P.map fun p => (n, p)) n) = 43 :: glue spC P P.length := by
      rw [all_each, h4]
      unfold valV
      rw [if_neg hne, nar_parts P hP]
    refine ⟨e, ?_⟩
    unfold mchV matV
    rw [List.all_cons, List.all_nil, Bool.and_true, beq_iff_eq]
    show valV (allF (P.map fun p => (n, p)) n) = valV (allF [(n, glue spC P P.length)] n)
    rw [e, all_one, val_one, h3]
theorem white_none (n : Bs) : valV (allF [] n) = [45] ∧ valV (allF [(n, [])] n) = [43] ∧ mchV [] [(n, [])] [n] = false := by
  refine ⟨rfl, by rw [all_one]; rfl, ?_⟩
  unfold mchV matV
  rw [List.all_cons, List.all_nil, Bool.and_true]
  show (valV (allF [] n) == valV (allF [(n, [])] n)) = false
  rw [all_one]
  rfl
end Tk
end Go.Proofs.YthooghgiokgdhaaDoor
