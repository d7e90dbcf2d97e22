/- Num0 VaK VaV VaM VaF FldN LgU VaL BldB VaQ VaJ VaT LtT PkT BasV, put together. -/
import Derived.Test.YthooghgiokgdhaaDoorQA
import Derived.Test.YthooghgiokgdhaaDoorQB
import Derived.Lib.Join
import Derived.Deep.Cut
import Derived.Deep.RegionHeld3
import Derived.Laws.StructEq
import Derived.IntWalk
import Derived.Deep.QuietTactic
import Derived.BigQuiet
import Derived.Lib.AppendIntMem
import Derived.Lib.ItoaMem
import Derived.Laws.AppendOwnNone
import Derived.BigFrame
import Derived.Lib.LaidU8T
import Derived.Lib.LaidU8
namespace Go.Proofs.YthooghgiokgdhaaDoor
namespace Tk

def maxN : Nat := 9007199254740991
def isDig (c : UInt8) : Bool := decide (48 ≤ c.toNat) && decide (c.toNat ≤ 57)
def numGo : Nat → Bs → Nat × Nat
  | n, [] => if maxN < n then (0, 3) else (n, 0)
  | n, c :: t => if isDig c = true then numGo (if n ≤ maxN then n * 10 + (c.toNat - 48) else n) t else (0, 4)
def numL (l : Bs) : Nat × Nat := if l = [] then (0, 4) else numGo 0 l

def digL (n : Nat) : Bs := if h : n < 10 then [UInt8.ofNat (48 + n)] else digL (n / 10) ++ [UInt8.ofNat (48 + n % 10)]
def valFrom (a : Nat) (l : Bs) : Nat := l.foldl (fun a c => a * 10 + (c.toNat - 48)) a

theorem valFrom_ge : ∀ (l : Bs) (a : Nat), a ≤ valFrom a l
  | [], a => Nat.le_refl _
  | c :: t, a => by
    have := valFrom_ge t (a * 10 + (c.toNat - 48))
    show a ≤ valFrom (a * 10 + (c.toNat - 48)) t
    omega
theorem numGo_val : ∀ (l : Bs) (n : Nat), (∀ c ∈ l, isDig c = true) → numGo n l = if maxN < valFrom n l then (0, 3) else (valFrom n l, 0)
  | [], n, _ => rfl
  | c :: t, n, h => by
    have hc : isDig c = true := h c (by simp)
    have ht : ∀ x ∈ t, isDig x = true := fun x hx => h x (by simp [hx])
    rw [numGo, if_pos hc]
    by_cases hn : n ≤ maxN
    · rw [if_pos hn, numGo_val t _ ht]; rfl
    · rw [if_neg hn, numGo_val t n ht]
      have h1 := valFrom_ge t n
      have h2 : n ≤ valFrom n (c :: t) := valFrom_ge (c :: t) n
      rw [if_pos (by omega), if_pos (by omega)]
theorem numGo_bad : ∀ (l : Bs) (n : Nat), (∃ c ∈ l, isDig c = false) → numGo n l = (0, 4)
  | [], n, h => by simp at h
  | c :: t, n, h => by
    by_cases hc : isDig c = true
    · rw [numGo, if_pos hc]
      refine numGo_bad t _ ?_
      obtain ⟨x, hx, hb⟩ := h
      rcases List.mem_cons.1 hx with rfl | hx
      · rw [hc] at hb; cases hb
      · exact ⟨x, hx, hb⟩
    · rw [numGo, if_neg hc]

theorem dig_toNat (d : Nat) (h : d < 10) : (UInt8.ofNat (48 + d)).toNat = 48 + d := by rw [UInt8.toNat_ofNat']; omega
theorem isDig_ofNat (d : Nat) (h : d < 10) : isDig (UInt8.ofNat (48 + d)) = true := by
  unfold isDig; rw [dig_toNat d h]; simp; omega
theorem digL_small (n : Nat) (h : n < 10) : digL n = [UInt8.ofNat (48 + n)] := by rw [digL, dif_pos h]
theorem digL_big (n : Nat) (h : ¬ n < 10) : digL n = digL (n / 10) ++ digL (n % 10) := by
  rw [digL, dif_neg h, digL_small (n % 10) (by omega)]
theorem digL_digits : ∀ (k n : Nat), n ≤ k → ∀ c ∈ digL n, isDig c = true
  | 0, n, h => by
    rw [digL_small n (by omega)]
    intro c hc
    rw [List.mem_singleton] at hc
    subst hc
    exact isDig_ofNat n (by omega)
  | k + 1, n, h => by
    by_cases hn : n < 10
    · rw [digL_small n hn]
      intro c hc
      rw [List.mem_singleton] at hc
      subst hc
      exact isDig_ofNat n hn
    · rw [digL_big n hn]
      intro c hc
      rcases List.mem_append.1 hc with hc | hc
      · exact digL_digits k (n / 10) (by omega) c hc
      · exact digL_digits k (n % 10) (by omega) c hc
theorem valFrom_append (a : Nat) (l m : Bs) : valFrom a (l ++ m) = valFrom (valFrom a l) m := by simp [valFrom]
theorem valFrom_dig : ∀ (k n : Nat), n ≤ k → valFrom 0 (digL n) = n
  | 0, n, h => by
    rw [digL_small n (by omega)]
    show 0 * 10 + ((UInt8.ofNat (48 + n)).toNat - 48) = n
    rw [dig_toNat n (by omega)]; omega
  | k + 1, n, h => by
    by_cases hn : n < 10
    · rw [digL_small n hn]
      show 0 * 10 + ((UInt8.ofNat (48 + n)).toNat - 48) = n
      rw [dig_toNat n hn]; omega
    · rw [digL_big n hn, valFrom_append, valFrom_dig k (n / 10) (by omega), digL_small (n % 10) (by omega)]
      show n / 10 * 10 + ((UInt8.ofNat (48 + n % 10)).toNat - 48) = n
      rw [dig_toNat (n % 10) (by omega)]; omega
theorem valFrom_zeros : ∀ k, valFrom 0 (List.replicate k 48) = 0
  | 0 => rfl
  | k + 1 => by
    rw [List.replicate_succ]
    show valFrom 0 (List.replicate k 48) = 0
    exact valFrom_zeros k
theorem digL_ne (n : Nat) : digL n ≠ [] := by
  rw [digL]; split <;> simp

/-- the first half of the law -/
theorem num_zeros (k n : Nat) : numL (List.replicate k 48 ++ digL n) = if maxN < n then (0, 3) else (n, 0) := by
  unfold numL
  rw [if_neg (by simp [digL_ne]), numGo_val _ _ ?_, valFrom_append, valFrom_zeros, valFrom_dig n n (Nat.le_refl _)]
  intro c hc
  rcases List.mem_append.1 hc with hc | hc
  · rw [List.mem_replicate] at hc; rw [hc.2]; rfl
  · exact digL_digits n n (Nat.le_refl _) c hc
/-- the second half -/
theorem num_bad (l m : Bs) (c : UInt8) (h : isDig c = false) : numL (l ++ [c] ++ m) = (0, 4) := by
  unfold numL
  rw [if_neg (by simp), numGo_bad _ _ ⟨c, by simp, h⟩]
theorem digL_len : ∀ (k n : Nat), n < 10 ^ (k + 1) → (digL n).length ≤ k + 1
  | 0, n, h => by rw [digL_small n (by omega)]; simp
  | k + 1, n, h => by
    by_cases hn : n < 10
    · rw [digL_small n hn]; simp
    · rw [digL_big n hn, List.length_append, digL_small (n % 10) (by omega)]
      have := digL_len k (n / 10) (by rw [Nat.pow_succ] at h; omega)
      simp; omega
end Tk
end Go.Proofs.YthooghgiokgdhaaDoor
namespace Go.Proofs.YthooghgiokgdhaaDoor
namespace Tk

/-- what a list of values of one name says: P its values -/
def valV (P : List Bs) : Bs := if P = [] then [45] else 43 :: Lib.join (P.map narL) [44, 32]
/-- one name's part of a key -/
def entV (n v : Bs) : Bs := lowL n ++ (58 :: (digL v.length ++ (58 :: (v ++ [10]))))
def keyV (f : Bs → Bs) (names : List Bs) : Bs := names.flatMap fun n => entV n (f n)
def matV (f g : Bs → Bs) (names : List Bs) : Bool := names.all fun n => f n == g n

theorem dig_no58 (n : Nat) : ∀ c ∈ digL n, c ≠ 58 := by
  intro c hc e
  have h := digL_digits n n (Nat.le_refl _) c hc
  subst e
  revert h
  decide
theorem digL_inj (a b : Nat) (h : digL a = digL b) : a = b := by
  have h1 := valFrom_dig a a (Nat.le_refl _)
  rw [h, valFrom_dig b b (Nat.le_refl _)] at h1
  exact h1.symm
theorem split58 : ∀ (a b x y : Bs), (∀ c ∈ a, c ≠ 58) → (∀ c ∈ b, c ≠ 58) → a ++ 58 :: x = b ++ 58 :: y → a = b ∧ x = y
  | [], [], x, y, _, _, h => by simpa using h
  | [], d :: b, x, y, _, hb, h => by
    simp only [List.nil_append, List.cons_append, List.cons.injEq] at h
    exact absurd h.1.symm (hb d (by simp))
  | c :: a, [], x, y, ha, _, h => by
    simp only [List.nil_append, List.cons_append, List.cons.injEq] at h
    exact absurd h.1 (ha c (by simp))
  | c :: a, d :: b, x, y, ha, hb, h => by
    simp only [List.cons_append, List.cons.injEq] at h
    obtain ⟨h1, h2⟩ := split58 a b x y (fun c hc => ha c (by simp [hc])) (fun c hc => hb c (by simp [hc])) h.2
    exact ⟨by rw [h.1, h1], h2⟩
theorem ent_inj (n v v' r r' : Bs) (h : entV n v ++ r = entV n v' ++ r') : v = v' ∧ r = r' := by
  unfold entV at h
  simp only [List.append_assoc, List.cons_append, List.append_cancel_left_eq, List.cons.injEq, true_and] at h
  obtain ⟨h1, h2⟩ := split58 _ _ _ _ (dig_no58 _) (dig_no58 _) h
  have h3 := digL_inj _ _ h1
  have h4 := List.append_inj h2 h3
  simp only [List.cons.injEq, true_and, List.nil_append] at h4
  exact h4
theorem key_iff (f g : Bs → Bs) : ∀ (names : List Bs), keyV f names = keyV g names ↔ matV f g names = true
  | [] => by simp [keyV, matV]
  | n :: t => by
    have ih := key_iff f g t
    unfold keyV matV at *
    rw [List.flatMap_cons, List.flatMap_cons, List.all_cons, Bool.and_eq_true, beq_iff_eq]
    constructor
    · intro h
      obtain ⟨h1, h2⟩ := ent_inj n _ _ _ _ h
      exact ⟨h1, ih.1 h2⟩
    · rintro ⟨h1, h2⟩
      rw [h1, ih.2 h2]
theorem mkS_eq (a b : Bs) : (mkS a = mkS b) = (a = b) := propext ⟨mkS_inj, fun h => by rw [h]⟩
theorem key_dec (f g : Bs → Bs) (names : List Bs) : decide (mkS (keyV f names) = mkS (keyV g names)) = matV f g names := by
  rw [Bool.eq_iff_iff, decide_eq_true_eq, ← key_iff]
  exact ⟨mkS_inj, fun h => by rw [h]⟩
theorem mat_symm (f g : Bs → Bs) (names : List Bs) : matV g f names = matV f g names := by
  unfold matV
  rw [Bool.eq_iff_iff, List.all_eq_true, List.all_eq_true]
  constructor <;> intro h x hx <;> have := h x hx <;> rw [beq_iff_eq] at * <;> exact this.symm
theorem mat_refl (f : Bs → Bs) (names : List Bs) : matV f f names = true := by
  unfold matV; rw [List.all_eq_true]; intro x _; exact beq_self_eq_true _
theorem mat_sub (f g : Bs → Bs) (a b : List Bs) (h : ∀ x ∈ b, x ∈ a) (hm : matV f g a = true) : matV f g b = true := by
  unfold matV at *
  rw [List.all_eq_true] at *
  exact fun x hx => hm x (h x hx)
theorem key_snoc (f : Bs → Bs) (L : List Bs) (n : Bs) : keyV f (L ++ [n]) = keyV f L ++ entV n (f n) := by
  simp [keyV]
theorem val_len (P : List Bs) : (valV P).length ≤ Lib.lens P + 2 * P.length + 1 := by
  unfold valV
  split
  · simp
  · have h : ∀ Q : List Bs, (Lib.join (Q.map narL) [44, 32]).length ≤ Lib.lens Q + 2 * Q.length := by
      intro Q
      induction Q with
      | nil => simp [Lib.join]
      | cons x t ih =>
        have h1 := narL_len x
        cases t with
        | nil => simp [Lib.join, Lib.lens]; omega
        | cons y t => simp [Lib.join, Lib.lens] at ih ⊢; omega
    have := h P
    simp only [List.length_cons]; omega
end Tk
end Go.Proofs.YthooghgiokgdhaaDoor
namespace Go.Proofs.YthooghgiokgdhaaDoor
open Go.RowKit
namespace Tk

/-- the values, the first i of them with single blanks -/
def mixV (P : List Bs) (i : Nat) : List Bs := (P.take i).map narL ++ P.drop i
theorem mixV_len (P : List Bs) (i : Nat) : (mixV P i).length = P.length := by
  unfold mixV; rw [List.length_append, List.length_map, List.length_take, List.length_drop]; omega
theorem mixV_get (P : List Bs) (i : Nat) (h : i < P.length) : (strs (mixV P i))[i]? = some (.string (mkS (P.getD i []))) := by
  unfold strs mixV
  rw [List.getElem?_map, List.getElem?_append_right (by rw [List.length_map, List.length_take]; omega), List.length_map, List.length_take, Nat.min_eq_left (by omega), Nat.sub_self, List.getElem?_drop, Nat.add_zero]
  simp [List.getD, h]
theorem mixV_set (P : List Bs) (i : Nat) (h : i < P.length) : (strs (mixV P i)).set i (.string (mkS (narL (P.getD i [])))) = strs (mixV P (i + 1)) := by
  apply List.ext_getElem?
  intro j
  unfold strs mixV
  rw [List.getElem?_set, List.getElem?_map, List.getElem?_map]
  by_cases e : i = j
  · subst e
    rw [if_pos rfl, if_pos (by rw [List.length_map, List.length_append, List.length_map, List.length_take, List.length_drop]; omega)]
    rw [List.getElem?_append_left (by rw [List.length_map, List.length_take]; omega), List.getElem?_map, List.getElem?_take, if_pos (by omega)]
    simp [List.getD, h]
  · rw [if_neg e]
    by_cases hj : j < i
    · rw [List.getElem?_append_left (by rw [List.length_map, List.length_take]; omega), List.getElem?_append_left (by rw [List.length_map, List.length_take]; omega), List.getElem?_map, List.getElem?_map, List.getElem?_take, List.getElem?_take, if_pos (by omega), if_pos (by omega)]
    · rw [List.getElem?_append_right (by rw [List.length_map, List.length_take]; omega), List.getElem?_append_right (by rw [List.length_map, List.length_take]; omega), List.length_map, List.length_map, List.length_take, List.length_take, List.getElem?_drop, List.getElem?_drop]
      congr 2
      omega
theorem mixV_0 (P : List Bs) : mixV P 0 = P := by simp [mixV]
theorem mixV_end (P : List Bs) : mixV P P.length = P.map narL := by simp [mixV]
theorem own_keepV {w w' : World} {B : Nat} {v : Value} {n : Nat} {xs : List Value} {e : TypeId} (h : w.ownsRow B e 1 v n xs) (hb : Below w.heap.size w w') : w'.ownsRow B e 1 v n xs :=
  World.ownsRow.kept h (row := none) ⟨hb.os, hb.tape, hb.output, hb.size, fun k hk _ => hb.block k hk⟩ (by cases h : v.ownBlock <;> simp)
theorem lens_nar : ∀ P : List Bs, Lib.lens (P.map narL) ≤ Lib.lens P
  | [] => by simp [Lib.lens]
  | x :: t => by
    have h1 := narL_len x
    have h2 := lens_nar t
    simp only [Lib.lens, List.map_cons, List.sum_cons] at h2 ⊢
    omega
theorem joinN_len (P : List Bs) : (Lib.join (P.map narL) [44, 32]).length ≤ Lib.lens P + 2 * P.length := by
  cases P with
  | nil => simp [Lib.join_nil]
  | cons x t =>
    have h1 := narL_len x
    have h2 := lens_nar t
    rw [List.map_cons, Lib.join_cons, List.length_append, Lib.joinTail_length, List.length_map]
    simp only [Lib.lens, List.map_cons, List.sum_cons, List.length_cons, List.length_nil] at h2 ⊢
    omega

set_option maxHeartbeats 8000000 in
set_option maxRecDepth 100000 in
theorem vval_any (v : Value) (l : List (Bs × Bs)) (name : Bs) (w : World) (hT : Utf w) (hs : IsFlds w v l) (hz : sumF l ≤ 1000000) (hn : name.length ≤ 1099511627776) (hl : l.length ≤ 1048576) :
    Calls Tryd.prog 10 #[v, .string (mkS name)] w fun e w' => e = .returned (.string (mkS (valV (allF l name)))) ∧ Below w.heap.size w w' := by
  have HA := Lib.hid (fall_any v l name w hs (sum_each l (by omega)) hn hl)
  have hpc := Lib.hid (fun p hp => Nat.le_trans (all_piece name l p hp) hz)
  have hal := allF_len l name
  have hPl : (allF l name).length ≤ 1048576 := by omega
  have hsm := sum_all name l
  have hjn := joinN_len (allF l name)
  have hjl : Hid ((joinB ((allF l name).map narL)).length ≤ 2000000) := by show (Lib.join _ _).length ≤ _; omega
  have HT := Lib.hid hT
  unfold ListPost at HA
  obtain ⟨a, cap, rfl⟩ : ∃ a cap, v = .slice a l.length cap := by obtain ⟨a, c, h, -⟩ := hs; exact ⟨a, c, h⟩
  clear hs hz hal hsm hjn hT
  generalize allF l name = P at *
  have hv0 : P = [] → valV P = [45] := fun h => by unfold valV; rw [if_pos h]
  have hv1 : P ≠ [] → valV P = 43 :: joinB (P.map narL) := fun h => by unfold valV; rw [if_neg h]; rfl
  generalize valV P = V at *
  by_cases hP0 : P = []
  · subst hP0
    obtain rfl := hv0 rfl
    clear hv0 hv1
    go_enter Tryd.func10, Tryd.ntmps10
    go_wp2_with fail
    refine HA.out.mono ?_
    rintro e w1 ⟨v1, rfl, ho, hb⟩
    obtain ⟨a1, c1, rfl⟩ : ∃ a c, v1 = .slice a 0 c := by
      rcases ho.2 with ⟨hv, hn⟩ | ⟨g, cap, cur, hv, _⟩
      · exact ⟨_, _, hv⟩
      · exact ⟨_, _, hv⟩
    have HB := Lib.hid hb
    clear ho hb
    go_wp2_with fail
    go_ret
    exact ⟨rfl, HB.out⟩
  · obtain rfl := hv1 hP0
    have hpos : (P.length : Int) ≠ 0 := by
      have : P.length ≠ 0 := fun e => hP0 (List.eq_nil_of_length_eq_zero e)
      omega
    have e0 : ((P.length : Int) == 0) = false := by rw [beq_eq_false_iff_ne]; exact hpos
    have HP0 := Lib.hid hP0
    have HP1 := Lib.hid hpos
    clear hv0 hv1 hP0 hpos
    go_enter Tryd.func10, Tryd.ntmps10
    go_wp2_with fail
    refine HA.out.mono ?_
    rintro e w1 ⟨v1, rfl, ho, hb⟩
    obtain ⟨g, c1, rfl, hge⟩ : ∃ g c, v1 = .slice (some ⟨g, 0, none⟩) P.length c ∧ w.heap.size ≤ g := by
      rcases ho.2 with ⟨hv, hn⟩ | ⟨g, cap, cur, hv, hb, _⟩
      · exact absurd hn (by have := HP1.out; omega)
      · exact ⟨_, _, hv, hb⟩
    have HB := Lib.hid hb
    have HO := Lib.hid ho
    have HGe := Lib.hid hge
    clear ho hb hge
    go_wp2_with fail
    go_loopw [16] (fun vi wr => ∃ i : Nat, i ≤ P.length ∧ vi = .int .i64 i ∧ Hid (wr.ownsRow w.heap.size 9 1 (.slice (some ⟨g, 0, none⟩) P.length c1) P.length (strs (mixV P i))) ∧ Hid (Below w.heap.size w wr)) (fun vi _ => P.length - (RowKit.intOf vi).toNat)
    case atStart => exact ⟨0, Nat.zero_le _, rfl, by show World.ownsRow _ _ _ _ _ _ _; rw [mixV_0]; exact HO.out, HB.out⟩
    case round =>
      obtain ⟨i, hi, rfl, HOi, HBi⟩ := hrel
      rename World => W
      by_cases hlt : i < P.length
      · have hg := mixV_get P i hlt
        have hst := mixV_set P i hlt
        have hm := hpc.out (P.getD i []) (by simp [List.getD, hlt])
        have hc0 := HOi.out.cellAt i (by rw [Nat.mul_one]; exact hlt)
        rw [hg] at hc0
        have hf0 := HOi.out.frozenAt i
        have HN := Lib.hid (narrow_any (P.getD i []) W (HT.out.later HBi.out) (by omega))
        have HG := Lib.hid hg
        have HS := Lib.hid hst
        have g0 : (0 : Int) ≤ (i : Int) := by omega
        have g1 : (i : Int) < (P.length : Int) := by omega
        clear hg hst hm
        generalize P.getD i [] = x at *
        go_wp2_with fail
        refine HN.out.mono ?_
        rintro e W2 ⟨rfl, hb2⟩
        have ho2 := own_keepV HOi.out hb2
        have HB2 := Lib.hid (HBi.out.trans (hb2.mono HBi.out.size))
        have hc2 := ho2.cellAt i (by rw [Nat.mul_one]; exact hlt)
        rw [HG.out] at hc2
        have hf2 := ho2.frozenAt i
        have HO2 := Lib.hid ho2
        clear ho2 hb2 hc0 hf0
        go_wp2_with fail
        have hst := HO2.out.stored i (.string (mkS (narL x)))
        rw [HS.out] at hst
        refine ⟨⟨i + 1, hlt, by go_num, hst.1, ?_⟩, by simp [RowKit.intOf]; omega⟩
        exact HB2.out.setCell (p := ⟨g, i, none⟩) HGe.out _
      · obtain rfl : i = P.length := by omega
        have hol := HOi.out
        rw [mixV_end] at hol
        have hlen2 : P.length = (P.map narL).length := by simp
        have hj := joinP_any (.slice (some ⟨g, 0, none⟩) P.length c1) (P.map narL) w.heap.size W (by rw [← hlen2]; exact hol) (by rw [← hlen2]; exact hPl) (Nat.le_trans hjl.out (by decide))
        have HJ := Lib.hid hj
        clear hol hlen2 hj
        generalize hjj : joinB (P.map narL) = j at *
        have hjz := size_mkS j
        have hjl2 : j.length ≤ 2000000 := hjl.out
        have HJJ := Lib.hid hjj
        clear hjj
        go_wp2_with fail
        refine HJ.out.mono ?_
        rintro e W2 ⟨rfl, hb2⟩
        have HB2 := Lib.hid (HBi.out.trans (hb2.mono HBi.out.size))
        clear hb2
        go_wp2_with fail
        go_ret
        refine ⟨?_, HB2.out⟩
        rw [HJJ.out, show (⟨#[43]⟩ : ByteArray) = mkS [43] from rfl, mkS_append]; rfl
end Tk
end Go.Proofs.YthooghgiokgdhaaDoor
namespace Go.Proofs.YthooghgiokgdhaaDoor
open Go.RowKit
namespace Tk

/-- the function value that Match hands to slices.ContainsFunc -/
def difV (g1 g2 : Nat) : Value := .func (.func 31) #[] #[.pointer (some ⟨g1, 0, none⟩), .pointer (some ⟨g2, 0, none⟩)]
/-- do they differ at a name? -/
def difB (la lb : List (Bs × Bs)) (x : Bs) : Bool := !(decide (valV (allF la x) = valV (allF lb x)))

set_option maxHeartbeats 4000000 in
set_option maxRecDepth 100000 in
theorem match1_any (g1 g2 : Nat) (va vb : Value) (la lb : List (Bs × Bs)) (x : Bs) (w : World) (h1 : Bx w g1 29 #[va]) (h2 : Bx w g2 29 #[vb]) (hT : Utf w) (ha : IsFlds w va la) (hb : IsFlds w vb lb)
    (za : sumF la ≤ 1000000) (zb : sumF lb ≤ 1000000) (hn : x.length ≤ 1099511627776) (na : la.length ≤ 1048576) (nb : lb.length ≤ 1048576) :
    Calls Tryd.prog 31 #[.string (mkS x), .pointer (some ⟨g1, 0, none⟩), .pointer (some ⟨g2, 0, none⟩)] w fun e w' => e = .returned (.bool (difB la lb x)) ∧ Below w.heap.size w w' := by
  have HV1 := Lib.hid (fun (W : World) (hs : IsFlds W va la) (hT : Utf W) => vval_any va la x W hT hs za hn na)
  have HV2 := Lib.hid (fun (W : World) (hs : IsFlds W vb lb) (hT : Utf W) => vval_any vb lb x W hT hs zb hn nb)
  have hbd : Below w.heap.size w w.drew := (Below.refl _ _).drew
  have hHeld0 : (fun Wz : World => Bx Wz g1 29 #[va] ∧ Bx Wz g2 29 #[vb] ∧ IsFlds Wz va la ∧ IsFlds Wz vb lb ∧ Utf Wz ∧ Below w.heap.size w Wz) w.drew := ⟨h1.later hbd, h2.later hbd, isFlds_below ha hbd, isFlds_below hb hbd, hT.later hbd, hbd⟩
  have hq : difB la lb x = !(decide (valV (allF la x) = valV (allF lb x))) := rfl
  rw [hq]
  have hbeq := beq_mkS' (valV (allF la x)) (valV (allF lb x))
  clear h1 h2 hT ha hb hbd hq
  generalize valV (allF la x) = p at *
  generalize valV (allF lb x) = q at *
  obtain ⟨aa, ca, rfl⟩ : ∃ a c, va = .slice a la.length c := by obtain ⟨a, c, h, -⟩ := hHeld0.2.2.1; exact ⟨a, c, h⟩
  obtain ⟨ab, cb, rfl⟩ : ∃ a c, vb = .slice a lb.length c := by obtain ⟨a, c, h, -⟩ := hHeld0.2.2.2.1; exact ⟨a, c, h⟩

  by_cases hpq : p = q
  · rw [decide_eq_true hpq] at hbeq ⊢
    have hbne : ((mkS p).toList != (mkS q).toList) = false := by unfold bne; rw [hbeq]; rfl
    clear hpq
    go_enter Tryd.func31, Tryd.ntmps31
    go_upto_region 1 with fail
    refine wp_region_held_drew (S := (fun Wz : World => Bx Wz g1 29 #[(.slice aa la.length ca)] ∧ Bx Wz g2 29 #[(.slice ab lb.length cb)] ∧ IsFlds Wz (.slice aa la.length ca) la ∧ IsFlds Wz (.slice ab lb.length cb) lb ∧ Utf Wz ∧ Below w.heap.size w Wz)) (by kernel_rfl) hHeld0 (fun hHeld => ?_)
    refine wpAnyH_take (i := 0) (v := (.slice aa la.length ca)) rfl (by kernel_rfl) (by kernel_rfl) (by kernel_rfl) (fun _ _ _ h => h) (Or.inl ⟨by kernel_rfl, ?_⟩) (by assumption) ?_
    case refine_1 => (intro Wz hSw; have u := hSw.1.cell 0 _ rfl; go_simp; try with_reducible rfl)
    try simp only [Act.put, List.getElem_toArray, List.getElem_cons_zero, List.setIfInBounds_toArray, List.set_cons_zero, List.set_cons_succ]
    refine wpAnyH_take (i := 1) (v := .string (mkS x)) rfl (by kernel_rfl) (by kernel_rfl) (by kernel_rfl) (fun _ _ _ h => h) (Or.inl ⟨by kernel_rfl, ?_⟩) (by assumption) ?_
    case refine_1 => (intro Wz hSw; go_simp; try with_reducible rfl)
    try simp only [Act.put, List.getElem_toArray, List.getElem_cons_succ, List.getElem_cons_zero, List.setIfInBounds_toArray, List.set_cons_zero, List.set_cons_succ]
    refine wpAnyH_take (i := 3) (v := .slice ab lb.length cb) rfl (by kernel_rfl) (by kernel_rfl) (by kernel_rfl) (fun _ _ _ h => h) (Or.inl ⟨by kernel_rfl, ?_⟩) (by assumption) ?_
    case refine_1 => (intro Wz hSw; have u := hSw.2.1.cell 0 _ rfl; go_simp; try with_reducible rfl)
    try simp only [Act.put, List.getElem_toArray, List.getElem_cons_succ, List.getElem_cons_zero, List.setIfInBounds_toArray, List.set_cons_zero, List.set_cons_succ]
    refine wpAnyH_take (i := 4) (v := .string (mkS x)) rfl (by kernel_rfl) (by kernel_rfl) (by kernel_rfl) (fun _ _ _ h => h) (Or.inl ⟨by kernel_rfl, ?_⟩) (by assumption) ?_
    case refine_1 => (intro Wz hSw; go_simp; try with_reducible rfl)
    try simp only [Act.put, List.getElem_toArray, List.getElem_cons_succ, List.getElem_cons_zero, List.setIfInBounds_toArray, List.set_cons_zero, List.set_cons_succ]
    refine wpAnyH_ready (rs := [2]) (by kernel_rfl) (by simp) ?_
    refine AllReadyH.cons rfl (fun K hK => ?_) AllReadyH.nil
    go_simp
    refine (HV1.out _ hHeld0.2.2.1 hHeld0.2.2.2.2.1).mono ?_
    rintro e y1 ⟨rfl, hbb⟩
    have hHeld1 : (fun Wz : World => Bx Wz g1 29 #[(.slice aa la.length ca)] ∧ Bx Wz g2 29 #[(.slice ab lb.length cb)] ∧ IsFlds Wz (.slice aa la.length ca) la ∧ IsFlds Wz (.slice ab lb.length cb) lb ∧ Utf Wz ∧ Below w.heap.size w Wz) y1 := ⟨hHeld0.1.later hbb, hHeld0.2.1.later hbb, isFlds_below hHeld0.2.2.1 hbb, isFlds_below hHeld0.2.2.2.1 hbb, hHeld0.2.2.2.2.1.later hbb, hHeld0.2.2.2.2.2.trans (hbb.mono hHeld0.2.2.2.2.2.size)⟩
    clear hbb
    go_simp
    refine hK.out _ _ hHeld1 (fun hHeld2 => ?_)
    clear hK K hHeld2
    try simp only [Act.put, List.getElem_toArray, List.getElem_cons_succ, List.getElem_cons_zero, List.setIfInBounds_toArray, List.set_cons_zero, List.set_cons_succ]
    refine wpAnyH_ready (rs := [5]) (by kernel_rfl) (by simp) ?_
    refine AllReadyH.cons rfl (fun K hK => ?_) AllReadyH.nil
    go_simp
    refine (HV2.out _ hHeld1.2.2.2.1 hHeld1.2.2.2.2.1).mono ?_
    rintro e y2 ⟨rfl, hbb⟩
    have hHeld2x : (fun Wz : World => Bx Wz g1 29 #[(.slice aa la.length ca)] ∧ Bx Wz g2 29 #[(.slice ab lb.length cb)] ∧ IsFlds Wz (.slice aa la.length ca) la ∧ IsFlds Wz (.slice ab lb.length cb) lb ∧ Utf Wz ∧ Below w.heap.size w Wz) y2 := ⟨hHeld1.1.later hbb, hHeld1.2.1.later hbb, isFlds_below hHeld1.2.2.1 hbb, isFlds_below hHeld1.2.2.2.1 hbb, hHeld1.2.2.2.2.1.later hbb, hHeld1.2.2.2.2.2.trans (hbb.mono hHeld1.2.2.2.2.2.size)⟩
    clear hbb
    go_simp
    refine hK.out _ _ hHeld2x (fun hHeld2 => ?_)
    clear hK K hHeld2
    try simp only [Act.put, List.getElem_toArray, List.getElem_cons_succ, List.getElem_cons_zero, List.setIfInBounds_toArray, List.set_cons_zero, List.set_cons_succ]
    refine wpAnyH_take (i := 6) (v := .bool false) rfl (by kernel_rfl) (by kernel_rfl) (by kernel_rfl) (fun _ _ _ h => h) (Or.inl ⟨by kernel_rfl, ?_⟩) (by assumption) ?_
    case refine_1 => (intro Wz hSw; go_simp; try with_reducible rfl)
    try simp only [Act.put, List.getElem_toArray, List.getElem_cons_succ, List.getElem_cons_zero, List.setIfInBounds_toArray, List.set_cons_zero, List.set_cons_succ]
    refine wpAnyH_take (i := 7) (v := ?_) rfl (by kernel_rfl) (by kernel_rfl) (by kernel_rfl) (fun _ _ _ h => h) (Or.inl ⟨by kernel_rfl, ?_⟩) (by assumption) ?_
    case refine_2 => (intro Wz hSw; go_simp; try with_reducible rfl)
    try simp only [Act.put, List.getElem_toArray, List.getElem_cons_succ, List.getElem_cons_zero, List.setIfInBounds_toArray, List.set_cons_zero, List.set_cons_succ]
    refine wpAnyH_done (by kernel_rfl) ?_ _
    go_wp2_with fail
    go_ret
    exact ⟨rfl, hHeld2x.2.2.2.2.2⟩
  · rw [decide_eq_false hpq] at hbeq ⊢
    have hbne : ((mkS p).toList != (mkS q).toList) = true := by unfold bne; rw [hbeq]; rfl
    clear hpq
    go_enter Tryd.func31, Tryd.ntmps31
    go_upto_region 1 with fail
    refine wp_region_held_drew (S := (fun Wz : World => Bx Wz g1 29 #[(.slice aa la.length ca)] ∧ Bx Wz g2 29 #[(.slice ab lb.length cb)] ∧ IsFlds Wz (.slice aa la.length ca) la ∧ IsFlds Wz (.slice ab lb.length cb) lb ∧ Utf Wz ∧ Below w.heap.size w Wz)) (by kernel_rfl) hHeld0 (fun hHeld => ?_)
    refine wpAnyH_take (i := 0) (v := (.slice aa la.length ca)) rfl (by kernel_rfl) (by kernel_rfl) (by kernel_rfl) (fun _ _ _ h => h) (Or.inl ⟨by kernel_rfl, ?_⟩) (by assumption) ?_
    case refine_1 => (intro Wz hSw; have u := hSw.1.cell 0 _ rfl; go_simp; try with_reducible rfl)
    try simp only [Act.put, List.getElem_toArray, List.getElem_cons_zero, List.setIfInBounds_toArray, List.set_cons_zero, List.set_cons_succ]
    refine wpAnyH_take (i := 1) (v := .string (mkS x)) rfl (by kernel_rfl) (by kernel_rfl) (by kernel_rfl) (fun _ _ _ h => h) (Or.inl ⟨by kernel_rfl, ?_⟩) (by assumption) ?_
    case refine_1 => (intro Wz hSw; go_simp; try with_reducible rfl)
    try simp only [Act.put, List.getElem_toArray, List.getElem_cons_succ, List.getElem_cons_zero, List.setIfInBounds_toArray, List.set_cons_zero, List.set_cons_succ]
    refine wpAnyH_take (i := 3) (v := .slice ab lb.length cb) rfl (by kernel_rfl) (by kernel_rfl) (by kernel_rfl) (fun _ _ _ h => h) (Or.inl ⟨by kernel_rfl, ?_⟩) (by assumption) ?_
    case refine_1 => (intro Wz hSw; have u := hSw.2.1.cell 0 _ rfl; go_simp; try with_reducible rfl)
    try simp only [Act.put, List.getElem_toArray, List.getElem_cons_succ, List.getElem_cons_zero, List.setIfInBounds_toArray, List.set_cons_zero, List.set_cons_succ]
    refine wpAnyH_take (i := 4) (v := .string (mkS x)) rfl (by kernel_rfl) (by kernel_rfl) (by kernel_rfl) (fun _ _ _ h => h) (Or.inl ⟨by kernel_rfl, ?_⟩) (by assumption) ?_
    case refine_1 => (intro Wz hSw; go_simp; try with_reducible rfl)
    try simp only [Act.put, List.getElem_toArray, List.getElem_cons_succ, List.getElem_cons_zero, List.setIfInBounds_toArray, List.set_cons_zero, List.set_cons_succ]
    refine wpAnyH_ready (rs := [2]) (by kernel_rfl) (by simp) ?_
    refine AllReadyH.cons rfl (fun K hK => ?_) AllReadyH.nil
    go_simp
    refine (HV1.out _ hHeld0.2.2.1 hHeld0.2.2.2.2.1).mono ?_
    rintro e y1 ⟨rfl, hbb⟩
    have hHeld1 : (fun Wz : World => Bx Wz g1 29 #[(.slice aa la.length ca)] ∧ Bx Wz g2 29 #[(.slice ab lb.length cb)] ∧ IsFlds Wz (.slice aa la.length ca) la ∧ IsFlds Wz (.slice ab lb.length cb) lb ∧ Utf Wz ∧ Below w.heap.size w Wz) y1 := ⟨hHeld0.1.later hbb, hHeld0.2.1.later hbb, isFlds_below hHeld0.2.2.1 hbb, isFlds_below hHeld0.2.2.2.1 hbb, hHeld0.2.2.2.2.1.later hbb, hHeld0.2.2.2.2.2.trans (hbb.mono hHeld0.2.2.2.2.2.size)⟩
    clear hbb
    go_simp
    refine hK.out _ _ hHeld1 (fun hHeld2 => ?_)
    clear hK K hHeld2
    try simp only [Act.put, List.getElem_toArray, List.getElem_cons_succ, List.getElem_cons_zero, List.setIfInBounds_toArray, List.set_cons_zero, List.set_cons_succ]
    refine wpAnyH_ready (rs := [5]) (by kernel_rfl) (by simp) ?_
    refine AllReadyH.cons rfl (fun K hK => ?_) AllReadyH.nil
    go_simp
    refine (HV2.out _ hHeld1.2.2.2.1 hHeld1.2.2.2.2.1).mono ?_
    rintro e y2 ⟨rfl, hbb⟩
    have hHeld2x : (fun Wz : World => Bx Wz g1 29 #[(.slice aa la.length ca)] ∧ Bx Wz g2 29 #[(.slice ab lb.length cb)] ∧ IsFlds Wz (.slice aa la.length ca) la ∧ IsFlds Wz (.slice ab lb.length cb) lb ∧ Utf Wz ∧ Below w.heap.size w Wz) y2 := ⟨hHeld1.1.later hbb, hHeld1.2.1.later hbb, isFlds_below hHeld1.2.2.1 hbb, isFlds_below hHeld1.2.2.2.1 hbb, hHeld1.2.2.2.2.1.later hbb, hHeld1.2.2.2.2.2.trans (hbb.mono hHeld1.2.2.2.2.2.size)⟩
    clear hbb
    go_simp
    refine hK.out _ _ hHeld2x (fun hHeld2 => ?_)
    clear hK K hHeld2
    try simp only [Act.put, List.getElem_toArray, List.getElem_cons_succ, List.getElem_cons_zero, List.setIfInBounds_toArray, List.set_cons_zero, List.set_cons_succ]
    refine wpAnyH_take (i := 6) (v := .bool true) rfl (by kernel_rfl) (by kernel_rfl) (by kernel_rfl) (fun _ _ _ h => h) (Or.inl ⟨by kernel_rfl, ?_⟩) (by assumption) ?_
    case refine_1 => (intro Wz hSw; go_simp; try with_reducible rfl)
    try simp only [Act.put, List.getElem_toArray, List.getElem_cons_succ, List.getElem_cons_zero, List.setIfInBounds_toArray, List.set_cons_zero, List.set_cons_succ]
    refine wpAnyH_take (i := 7) (v := ?_) rfl (by kernel_rfl) (by kernel_rfl) (by kernel_rfl) (fun _ _ _ h => h) (Or.inl ⟨by kernel_rfl, ?_⟩) (by assumption) ?_
    case refine_2 => (intro Wz hSw; go_simp; try with_reducible rfl)
    try simp only [Act.put, List.getElem_toArray, List.getElem_cons_succ, List.getElem_cons_zero, List.setIfInBounds_toArray, List.set_cons_zero, List.set_cons_succ]
    refine wpAnyH_done (by kernel_rfl) ?_ _
    go_wp2_with fail
    go_ret
    exact ⟨rfl, hHeld2x.2.2.2.2.2⟩
end Tk
end Go.Proofs.YthooghgiokgdhaaDoor
namespace Go.Proofs.YthooghgiokgdhaaDoor
open Go.RowKit
namespace Tk

def idxG {α : Type} (p : α → Bool) (l : List α) : Int := if l.findIdx p < l.length then (l.findIdx p : Int) else -1
theorem idxG_hit (p : Bs → Bool) (l : List Bs) (i : Nat) (hi : i < l.length) (h1 : ∀ f ∈ l.take i, p f = false) (h2 : p (l.getD i []) = true) : l.findIdx p = i := by
  rw [List.findIdx_eq hi]
  refine ⟨by simpa [List.getD, hi] using h2, fun j hj => ?_⟩
  refine h1 _ ?_
  rw [List.mem_take_iff_getElem]
  exact ⟨j, by omega, rfl⟩
theorem idxG_no {α : Type} (p : α → Bool) (l : List α) (h1 : ∀ f ∈ l, p f = false) : l.findIdx p = l.length := by
  rw [List.findIdx_eq_length]; exact h1
theorem idxG_any {α : Type} (p : α → Bool) (l : List α) : decide (0 ≤ idxG p l) = l.any p := by
  unfold idxG
  by_cases h : l.findIdx p < l.length
  · rw [if_pos h, decide_eq_true (by omega)]
    have h2 := List.findIdx_getElem (w := h)
    exact (List.any_eq_true.2 ⟨_, List.getElem_mem h, h2⟩).symm
  · rw [if_neg h]
    have h3 : l.findIdx p = l.length := by
      have := List.findIdx_le_length (p := p) (xs := l); omega
    rw [List.findIdx_eq_length] at h3
    rw [show decide ((0 : Int) ≤ -1) = false by decide]
    symm
    rw [List.any_eq_false]
    intro x hx
    rw [h3 x hx]; simp
theorem isStrsV_below {w w' : World} {v : Value} {l : List Bs} (h : IsStrs w v l) (hb : Below w.heap.size w w') : IsStrs w' v l := by
  obtain ⟨a, c, rfl, hc⟩ := h
  refine ⟨a, c, rfl, fun j t hj => ?_⟩
  obtain ⟨b, o, rfl, h2⟩ := hc j t hj
  refine ⟨b, o, rfl, (hb.cell (p := ⟨b, o + j, none⟩) ?_).trans h2⟩
  refine Nat.lt_of_not_le fun hle => ?_
  unfold World.cell? at h2
  rw [Array.getElem?_eq_none hle] at h2
  simp at h2

/-- what Match$1 reads -/
structure MatA (g1 g2 : Nat) (va vb : Value) (la lb : List (Bs × Bs)) (w : World) : Prop where
  b1 : Bx w g1 29 #[va]
  b2 : Bx w g2 29 #[vb]
  ut : Utf w
  fa : IsFlds w va la
  fb : IsFlds w vb lb
theorem MatA.later {g1 g2 : Nat} {va vb : Value} {la lb : List (Bs × Bs)} {w w' : World} (h : MatA g1 g2 va vb la lb w) (hb : Below w.heap.size w w') : MatA g1 g2 va vb la lb w' :=
  ⟨h.b1.later hb, h.b2.later hb, h.ut.later hb, isFlds_below h.fa hb, isFlds_below h.fb hb⟩

set_option maxHeartbeats 4000000 in
set_option maxRecDepth 100000 in
theorem indexV_any (v : Value) (g1 g2 : Nat) (va vb : Value) (la lb : List (Bs × Bs)) (l : List Bs) (w : World) (hs : IsStrs w v l) (hA : MatA g1 g2 va vb la lb w)
    (za : sumF la ≤ 1000000) (zb : sumF lb ≤ 1000000) (na : la.length ≤ 1048576) (nb : lb.length ≤ 1048576) (hz : ∀ x ∈ l, x.length ≤ 1000000) (hl : l.length ≤ 1048576) :
    Calls Tryd.prog 50 #[v, difV g1 g2] w fun e w' => e = .returned (.int .i64 (idxG (difB la lb) l)) ∧ Below w.heap.size w w' := by
  have HS := Lib.hid hs
  have HG := Lib.hid hA
  have HZ := Lib.hid hz
  have HN := Lib.hid (fun (x : Bs) (W : World) (hm : MatA g1 g2 va vb la lb W) (hx : x.length ≤ 1000000) => match1_any g1 g2 va vb la lb x W hm.b1 hm.b2 hm.ut hm.fa hm.fb za zb (by omega) na nb)
  obtain ⟨a, cap, rfl⟩ : ∃ a cap, v = .slice a l.length cap := by obtain ⟨a, c, h, -⟩ := hs; exact ⟨a, c, h⟩
  clear hs hA hz
  have HIH := Lib.hid (fun i hi h1 h2 => idxG_hit (difB la lb) l i hi h1 h2)
  have HIN := Lib.hid (idxG_no (difB la lb) l)
  have HID : Hid (idxG (difB la lb) l = if l.findIdx (difB la lb) < l.length then (l.findIdx (difB la lb) : Int) else -1) := rfl
  generalize idxG (difB la lb) l = q at *
  generalize difB la lb = p at *
  unfold difV
  go_enter Tryd.func50, Tryd.ntmps50
  go_wp2_with fail
  go_loopw [5, 8] (fun _ vi wr => ∃ i : Nat, i ≤ l.length ∧ vi = .int .i64 i ∧ Hid (∀ f ∈ l.take i, p f = false) ∧ Hid (Below w.heap.size w wr)) (fun _ vi _ => l.length - (RowKit.intOf vi).toNat)
  case atStart => exact ⟨0, Nat.zero_le _, rfl, fun f hf => by simp at hf, Below.refl _ _⟩
  case round =>
    obtain ⟨i, hi, rfl, HA, HB⟩ := hrel
    rename World => W
    by_cases hlt : i < l.length
    · obtain ⟨a', c', e', hc⟩ := isStrsV_below HS.out HB.out
      injection e' with e1 _ e2
      subst e1 e2
      obtain ⟨b, o, rfl, hc0⟩ := hc i (l.getD i []) (by simp [List.getD, hlt])
      have hhit := HIH.out i hlt HA.out
      have htk : l.take (i + 1) = l.take i ++ [l.getD i []] := by
        rw [List.take_succ_eq_append_getElem hlt]; simp [List.getD, hlt]
      have HC := HN.out (l.getD i []) W (HG.out.later HB.out) (HZ.out _ (by simp [List.getD, hlt]))
      have HTK := Lib.hid htk
      have HHit := Lib.hid hhit
      clear hc htk hhit
      generalize l.getD i [] = x at *
      have g0 : (0 : Int) ≤ (i : Int) := by omega
      have g1' : (i : Int) < (l.length : Int) := by omega
      cases hk : p x
      · rw [hk] at HC
        have HA2 : Hid (∀ f ∈ l.take (i + 1), p f = false) := by
          intro f hf
          rw [HTK.out, List.mem_append, List.mem_singleton] at hf
          rcases hf with hf | rfl
          · exact HA.out f hf
          · exact hk
        have HC2 := Lib.hid HC
        clear HC hk
        go_wp2_with fail
        refine HC2.out.mono ?_
        rintro e w' ⟨rfl, hb⟩
        have HB2 := Lib.hid (HB.out.trans (hb.mono HB.out.size))
        clear hb
        go_wp2_with fail
        exact ⟨⟨i + 1, hlt, by go_num, HA2, HB2⟩, by simp [RowKit.intOf]; omega⟩
      · rw [hk] at HC
        have hidx : q = (i : Int) := by rw [HID.out, HHit.out hk, if_pos hlt]
        have HX := Lib.hid hidx
        have HC2 := Lib.hid HC
        clear HC hk hidx
        go_wp2_with fail
        refine HC2.out.mono ?_
        rintro e w' ⟨rfl, hb⟩
        have HB2 := Lib.hid (HB.out.trans (hb.mono HB.out.size))
        clear hb
        go_wp2_with fail
        go_ret
        exact ⟨by rw [HX.out]; rfl, HB2.out⟩
    · have hil : l.take i = l := List.take_of_length_le (by omega)
      rw [hil] at HA
      have hidx : q = -1 := by rw [HID.out, HIN.out HA.out, if_neg (by omega)]
      have HX := Lib.hid hidx
      clear hidx hil
      go_wp2_with fail
      go_ret
      exact ⟨by rw [HX.out]; rfl, HB.out⟩

set_option maxHeartbeats 2000000 in
set_option maxRecDepth 100000 in
theorem containsV_any (v : Value) (g1 g2 : Nat) (va vb : Value) (la lb : List (Bs × Bs)) (l : List Bs) (w : World) (hs : IsStrs w v l) (hA : MatA g1 g2 va vb la lb w)
    (za : sumF la ≤ 1000000) (zb : sumF lb ≤ 1000000) (na : la.length ≤ 1048576) (nb : lb.length ≤ 1048576) (hz : ∀ x ∈ l, x.length ≤ 1000000) (hl : l.length ≤ 1048576) :
    Calls Tryd.prog 30 #[v, difV g1 g2] w fun e w' => e = .returned (.bool (l.any (difB la lb))) ∧ Below w.heap.size w w' := by
  have HI := Lib.hid (indexV_any v g1 g2 va vb la lb l w hs hA za zb na nb hz hl)
  have HA := Lib.hid (idxG_any (difB la lb) l)
  generalize idxG (difB la lb) l = q at *
  generalize l.any (difB la lb) = r at *
  clear hs hA hz
  unfold difV at *
  go_enter Tryd.func30, Tryd.ntmps30
  go_wp2_with fail
  refine HI.out.mono ?_
  rintro e w1 ⟨rfl, hb⟩
  have HB := Lib.hid hb
  clear hb
  go_wp2_with fail
  go_ret
  exact ⟨by rw [← HA.out]; rfl, HB.out⟩

/-- do requests with these fields match? -/
def mchV (la lb : List (Bs × Bs)) (names : List Bs) : Bool := matV (fun n => valV (allF la n)) (fun n => valV (allF lb n)) names
theorem mch_any (la lb : List (Bs × Bs)) (names : List Bs) : (!(names.any (difB la lb))) = mchV la lb names := by
  unfold mchV matV
  induction names with
  | nil => rfl
  | cons x t ih =>
    rw [List.any_cons, List.all_cons, Bool.not_or, ih]
    congr 1
    unfold difB
    rw [Bool.not_not, Bool.eq_iff_iff, decide_eq_true_eq, beq_iff_eq]

set_option maxHeartbeats 2000000 in
set_option maxRecDepth 100000 in
theorem match_any (v va vb : Value) (la lb : List (Bs × Bs)) (l : List Bs) (w : World) (hs : IsStrs w v l) (hT : Utf w) (ha : IsFlds w va la) (hb : IsFlds w vb lb)
    (za : sumF la ≤ 1000000) (zb : sumF lb ≤ 1000000) (na : la.length ≤ 1048576) (nb : lb.length ≤ 1048576) (hz : ∀ x ∈ l, x.length ≤ 1000000) (hl : l.length ≤ 1048576) :
    Calls Tryd.prog 11 #[v, va, vb] w fun e w' => e = .returned (.bool (mchV la lb l)) ∧ Below w.heap.size w w' := by
  have hb1 : Below w.heap.size w (w.alloc (.cells #[va] 29)) := (Below.refl _ _).alloc (Nat.le_refl _) _
  have hb2 : Below w.heap.size w ((w.alloc (.cells #[va] 29)).alloc (.cells #[vb] 29)) := hb1.alloc hb1.size _
  have hx1 := (Bx.new w 29 #[va]).later ((Below.refl _ _).alloc (Nat.le_refl _) (.cells #[vb] 29))
  have hx2 := Bx.new (w.alloc (.cells #[va] 29)) 29 #[vb]
  rw [World.size_alloc] at hx2
  have HM := mch_any la lb l
  have HC := Lib.hid (containsV_any v w.heap.size (w.heap.size + 1) va vb la lb l _ (isStrsV_below hs hb2) ⟨hx1, hx2, hT.later hb2, isFlds_below ha hb2, isFlds_below hb hb2⟩ za zb na nb hz hl)
  have HB := Lib.hid hb2
  have hsz : w.heap.size ≤ ((w.alloc (.cells #[va] 29)).alloc (.cells #[vb] 29)).heap.size := hb2.size
  have HSZ := Lib.hid hsz
  rw [← HM]
  obtain ⟨aa, ca, rfl⟩ : ∃ a c, va = .slice a la.length c := by obtain ⟨a, c, h, -⟩ := ha; exact ⟨a, c, h⟩
  obtain ⟨ab, cb, rfl⟩ : ∃ a c, vb = .slice a lb.length c := by obtain ⟨a, c, h, -⟩ := hb; exact ⟨a, c, h⟩
  obtain ⟨a, cap, rfl⟩ : ∃ a cap, v = .slice a l.length cap := by obtain ⟨a, c, h, -⟩ := hs; exact ⟨a, c, h⟩
  generalize l.any (difB la lb) = r at *
  clear hs ha hb hT hb1 hb2 hx1 hx2 hz HM hsz
  unfold difV at HC
  go_enter Tryd.func11, Tryd.ntmps11
  go_wp2_with fail
  refine HC.out.mono ?_
  rintro e w1 ⟨rfl, hb⟩
  have HB1 := Lib.hid (HB.out.trans (hb.mono HSZ.out))
  clear hb
  go_wp2_with fail
  go_ret
  exact ⟨rfl, HB1.out⟩

set_option maxHeartbeats 1000000 in
theorem primary_any (s t : Bs) (w : World) (hs : s.length ≤ 1099511627) (ht : t.length ≤ 1099511627) :
    Calls Tryd.prog 13 #[.string (mkS s), .string (mkS t)] w fun e w' => e = .returned (.string (mkS (lowL s ++ 32 :: t))) ∧ Below w.heap.size w w' := by
  have hL := tlower_any (mkS s) w (by rw [size_mkS]; omega)
  rw [bs_mkS] at hL
  have HL := Lib.hid hL
  have h1 := size_mkS (lowL s)
  have h2 := size_mkS t
  have h3 : (lowL s).length = s.length := by simp [lowL]
  generalize lowL s = u at *
  clear hL
  go_enter Tryd.func13, Tryd.ntmps13
  go_wp2_with fail
  refine HL.out.mono ?_
  rintro e w1 ⟨rfl, hb⟩
  have HB1 := Lib.hid hb
  clear hb
  go_wp2_with fail
  go_ret
  refine ⟨?_, HB1.out⟩
  rw [show (⟨#[32]⟩ : ByteArray) = mkS [32] from rfl, mkS_append, mkS_append]; simp
end Tk
end Go.Proofs.YthooghgiokgdhaaDoor
namespace Go.Proofs.YthooghgiokgdhaaDoor
open Go.RowKit
namespace Tk

theorem noStand : Tryd.prog.stoodInHeld 27 = false := by kernel_rfl
theorem field_eql (W : World) (a b c d : ByteArray) : (binOp .eql 27 (.agg #[.string a, .string b]) (.agg #[.string c, .string d])).run Tryd.prog W = .ok (.bool (a.toList == c.toList && b.toList == d.toList)) W := by
  rw [run_eql_struct, run_equalIn_agg _ _ _ _ _ (by simp [Program.fieldsOf, Tryd.underlying27]) noStand]
  simp [Program.fieldsOf, Tryd.underlying27, Op.eqFields, go_sem]
  by_cases h1 : a.toList = c.toList <;> by_cases h2 : b.toList = d.toList <;> simp [h1, h2]

/-- may the fields be gone through: so many bytes together -/
def lfGo (b : Nat) : Nat → List (Bs × Bs) → Bool
  | _, [] => true
  | n, f :: t => if b < n + f.1.length + f.2.length then false else lfGo b (n + f.1.length + f.2.length) t
def lightF (l : List (Bs × Bs)) : Bool := decide (l.length ≤ 30) && lfGo 600 0 l
theorem lfGo_sum (b : Nat) : ∀ (l : List (Bs × Bs)) (n : Nat), n ≤ b → lfGo b n l = true → n + sumF l ≤ b + 4 * l.length
  | [], n, hn, _ => by simp [sumF]; exact hn
  | f :: t, n, hn, h => by
    unfold lfGo at h
    split at h
    · cases h
    · have := lfGo_sum b t (n + f.1.length + f.2.length) (by omega) h
      unfold sumF; simp only [List.length_cons]; omega
theorem lightF_parts (l : List (Bs × Bs)) (h : lightF l = true) : l.length ≤ 30 ∧ sumF l ≤ 720 := by
  unfold lightF at h
  rw [Bool.and_eq_true, decide_eq_true_eq] at h
  have := lfGo_sum 600 l 0 (by omega) h.2
  exact ⟨h.1, by omega⟩

set_option maxHeartbeats 2000000 in
set_option maxRecDepth 100000 in
theorem lightFields_any (v : Value) (l : List (Bs × Bs)) (w : World) (hs : IsFlds w v l) (hz : ∀ f ∈ l, f.1.length ≤ 140737488351232 ∧ f.2.length ≤ 140737488351232) (hl : l.length ≤ 140737488351232) :
    Calls Tryd.prog 36 #[v, .int .i64 30, .int .i64 600] w fun e w' => e = .returned (.bool (lightF l)) ∧ ∃ n, w' = w.drewN n := by
  obtain ⟨a, c, rfl, hcap, hc⟩ := hs
  have HC := Lib.hid hc
  have HZ := Lib.hid hz
  clear hc hz
  by_cases h20 : 30 < l.length
  · have fin : lightF l = false := by unfold lightF; rw [decide_eq_false (by omega)]; rfl
    have HF := Lib.hid fin
    have h' : (30 : Int) < (l.length : Int) := by omega
    clear fin
    go_enter Tryd.func36, Tryd.ntmps36
    go_wp2_with fail
    go_ret
    exact ⟨by rw [HF.out]; rfl, 0, rfl⟩
  · have fin : lightF l = lfGo 600 0 l := by unfold lightF; rw [decide_eq_true (by omega)]; rfl
    have HF := Lib.hid fin
    have h' : ¬ (30 : Int) < (l.length : Int) := by omega
    clear fin
    go_enter Tryd.func36, Tryd.ntmps36
    go_wp2_with fail
    go_loopw [7, 8] (fun vn vi wr => ∃ (i n m : Nat), i ≤ l.length ∧ n ≤ 600 ∧ vi = .int .i64 i ∧ vn = .int .i64 n ∧ wr = w.drewN m ∧ Hid (lightF l = lfGo 600 n (l.drop i))) (fun _ vi _ => l.length - (RowKit.intOf vi).toNat)
    case atStart => exact ⟨0, 0, 0, by omega, by omega, rfl, rfl, rfl, HF.out⟩
    case round =>
      obtain ⟨i, n, m, hi, hn, rfl, rfl, rfl, hd⟩ := hrel
      by_cases hlt : i < l.length
      · obtain ⟨b, o, rfl, hc0, hc1⟩ := HC.out i (l.getD i ([], [])) (by simp [List.getD, hlt])
        obtain ⟨z0, z1⟩ := HZ.out (l.getD i ([], [])) (by simp [List.getD, hlt])
        have hdr : l.drop i = l.getD i ([], []) :: l.drop (i + 1) := by rw [List.drop_eq_getElem_cons hlt]; simp [List.getD, hlt]
        have HD := Lib.hid hdr
        clear hdr
        generalize l.getD i ([], []) = f at *
        obtain ⟨x, y⟩ := f
        simp only at z0 z1 hc0 hc1
        have s0 := size_mkS x
        have s1 := size_mkS y
        have HS0 := Lib.hid s0
        have HS1 := Lib.hid s1
        have y0 : (mkS x).size ≤ 140737488351232 := by omega
        have y1 : (mkS y).size ≤ 140737488351232 := by omega
        clear s0 s1 z0 z1
        have hb0 : (0 : Int) ≤ (i : Int) := by omega
        have hb1 : (i : Int) < (l.length : Int) := by omega
        by_cases hb : 600 < n + (mkS x).size + (mkS y).size
        · have fin : lightF l = false := by
            rw [hd.out, HD.out, lfGo, if_pos (by rw [← HS0.out, ← HS1.out]; exact hb)]
          have HF2 := Lib.hid fin
          have hb' : (600 : Int) < (n : Int) + ((mkS x).size : Int) + ((mkS y).size : Int) := by omega
          clear fin HF HD hd
          generalize mkS x = s at *
          generalize mkS y = t at *
          have w1 : IntKind.i64.wrap ((n : Int) + (s.size : Int)) = (n : Int) + (s.size : Int) := IntWalk.i64_in _ (by omega)
          have w2 : IntKind.i64.wrap ((n : Int) + (s.size : Int) + (t.size : Int)) = (n : Int) + (s.size : Int) + (t.size : Int) := IntWalk.i64_in _ (by omega)
          go_wp2_with fail
          go_quiet (fail)
          clear w1 w2
          go_wp2_with fail
          go_ret
          exact ⟨by rw [HF2.out]; rfl, _, rfl⟩
        · have nx : lightF l = lfGo 600 (n + (mkS x).size + (mkS y).size) (l.drop (i + 1)) := by
            rw [hd.out, HD.out, lfGo, if_neg (by rw [← HS0.out, ← HS1.out]; exact hb), HS0.out, HS1.out]
          have HN := Lib.hid nx
          have hb' : ¬ (600 : Int) < (n : Int) + ((mkS x).size : Int) + ((mkS y).size : Int) := by omega
          clear nx HF HD hd
          generalize mkS x = s at *
          generalize mkS y = t at *
          have w1 : IntKind.i64.wrap ((n : Int) + (s.size : Int)) = (n : Int) + (s.size : Int) := IntWalk.i64_in _ (by omega)
          have w2 : IntKind.i64.wrap ((n : Int) + (s.size : Int) + (t.size : Int)) = (n : Int) + (s.size : Int) + (t.size : Int) := IntWalk.i64_in _ (by omega)
          go_wp2_with fail
          go_quiet (fail)
          clear w1 w2
          go_wp2_with fail
          exact ⟨⟨i + 1, n + s.size + t.size, _, by omega, by omega, by go_num, by go_num, rfl, HN⟩, by simp [RowKit.intOf]; omega⟩
      · have fin : lightF l = true := by rw [hd.out, List.drop_eq_nil_of_le (by omega)]; rfl
        have HF2 := Lib.hid fin
        clear fin
        go_wp2_with fail
        go_ret
        exact ⟨by rw [HF2.out]; rfl, _, rfl⟩

theorem ex_line1 : lnN [65, 58, 32, 32, 98, 32] = [65] ∧ lnV [65, 58, 32, 32, 98, 32] = [98] ∧ lnE [65, 58, 32, 32, 98, 32] = 0 := by decide +kernel
theorem ex_line2 : lnN [65, 32, 58, 32, 98] = [] ∧ lnV [65, 32, 58, 32, 98] = [] ∧ lnE [65, 32, 58, 32, 98] = 4 := by decide +kernel
def Yes2 (w : World) (r : Ending) (w' : World) : Prop := r = .returned (.bool true) ∧ Below w.heap.size w w'

end Tk
end Go.Proofs.YthooghgiokgdhaaDoor
namespace Go.Proofs.YthooghgiokgdhaaDoor
open Go.RowKit
namespace Tk

def lightU (l : List (Bs × Bs)) : Bool := decide (l.length ≤ 20) && lfGo 600 0 l
theorem lightU_parts (l : List (Bs × Bs)) (h : lightU l = true) : l.length ≤ 20 ∧ sumF l ≤ 680 := by
  unfold lightU at h
  rw [Bool.and_eq_true, decide_eq_true_eq] at h
  have := lfGo_sum 600 l 0 (by omega) h.2
  exact ⟨h.1, by omega⟩

set_option maxHeartbeats 2000000 in
set_option maxRecDepth 100000 in
theorem lightTwenty_any (v : Value) (l : List (Bs × Bs)) (w : World) (hs : IsFlds w v l) (hz : ∀ f ∈ l, f.1.length ≤ 140737488351232 ∧ f.2.length ≤ 140737488351232) (hl : l.length ≤ 140737488351232) :
    Calls Tryd.prog 36 #[v, .int .i64 20, .int .i64 600] w fun e w' => e = .returned (.bool (lightU l)) ∧ ∃ n, w' = w.drewN n := by
  obtain ⟨a, c, rfl, hcap, hc⟩ := hs
  have HC := Lib.hid hc
  have HZ := Lib.hid hz
  clear hc hz
  by_cases h20 : 20 < l.length
  · have fin : lightU l = false := by unfold lightU; rw [decide_eq_false (by omega)]; rfl
    have HF := Lib.hid fin
    have h' : (20 : Int) < (l.length : Int) := by omega
    clear fin
    go_enter Tryd.func36, Tryd.ntmps36
    go_wp2_with fail
    go_ret
    exact ⟨by rw [HF.out]; rfl, 0, rfl⟩
  · have fin : lightU l = lfGo 600 0 l := by unfold lightU; rw [decide_eq_true (by omega)]; rfl
    have HF := Lib.hid fin
    have h' : ¬ (20 : Int) < (l.length : Int) := by omega
    clear fin
    go_enter Tryd.func36, Tryd.ntmps36
    go_wp2_with fail
    go_loopw [7, 8] (fun vn vi wr => ∃ (i n m : Nat), i ≤ l.length ∧ n ≤ 600 ∧ vi = .int .i64 i ∧ vn = .int .i64 n ∧ wr = w.drewN m ∧ Hid (lightU l = lfGo 600 n (l.drop i))) (fun _ vi _ => l.length - (RowKit.intOf vi).toNat)
    case atStart => exact ⟨0, 0, 0, by omega, by omega, rfl, rfl, rfl, HF.out⟩
    case round =>
      obtain ⟨i, n, m, hi, hn, rfl, rfl, rfl, hd⟩ := hrel
      by_cases hlt : i < l.length
      · obtain ⟨b, o, rfl, hc0, hc1⟩ := HC.out i (l.getD i ([], [])) (by simp [List.getD, hlt])
        obtain ⟨z0, z1⟩ := HZ.out (l.getD i ([], [])) (by simp [List.getD, hlt])
        have hdr : l.drop i = l.getD i ([], []) :: l.drop (i + 1) := by rw [List.drop_eq_getElem_cons hlt]; simp [List.getD, hlt]
        have HD := Lib.hid hdr
        clear hdr
        generalize l.getD i ([], []) = f at *
        obtain ⟨x, y⟩ := f
        simp only at z0 z1 hc0 hc1
        have s0 := size_mkS x
        have s1 := size_mkS y
        have HS0 := Lib.hid s0
        have HS1 := Lib.hid s1
        have y0 : (mkS x).size ≤ 140737488351232 := by omega
        have y1 : (mkS y).size ≤ 140737488351232 := by omega
        clear s0 s1 z0 z1
        have hb0 : (0 : Int) ≤ (i : Int) := by omega
        have hb1 : (i : Int) < (l.length : Int) := by omega
        by_cases hb : 600 < n + (mkS x).size + (mkS y).size
        · have fin : lightU l = false := by
            rw [hd.out, HD.out, lfGo, if_pos (by rw [← HS0.out, ← HS1.out]; exact hb)]
          have HF2 := Lib.hid fin
          have hb' : (600 : Int) < (n : Int) + ((mkS x).size : Int) + ((mkS y).size : Int) := by omega
          clear fin HF HD hd
          generalize mkS x = s at *
          generalize mkS y = t at *
          have w1 : IntKind.i64.wrap ((n : Int) + (s.size : Int)) = (n : Int) + (s.size : Int) := IntWalk.i64_in _ (by omega)
          have w2 : IntKind.i64.wrap ((n : Int) + (s.size : Int) + (t.size : Int)) = (n : Int) + (s.size : Int) + (t.size : Int) := IntWalk.i64_in _ (by omega)
          go_wp2_with fail
          go_quiet (fail)
          clear w1 w2
          go_wp2_with fail
          go_ret
          exact ⟨by rw [HF2.out]; rfl, _, rfl⟩
        · have nx : lightU l = lfGo 600 (n + (mkS x).size + (mkS y).size) (l.drop (i + 1)) := by
            rw [hd.out, HD.out, lfGo, if_neg (by rw [← HS0.out, ← HS1.out]; exact hb), HS0.out, HS1.out]
          have HN := Lib.hid nx
          have hb' : ¬ (600 : Int) < (n : Int) + ((mkS x).size : Int) + ((mkS y).size : Int) := by omega
          clear nx HF HD hd
          generalize mkS x = s at *
          generalize mkS y = t at *
          have w1 : IntKind.i64.wrap ((n : Int) + (s.size : Int)) = (n : Int) + (s.size : Int) := IntWalk.i64_in _ (by omega)
          have w2 : IntKind.i64.wrap ((n : Int) + (s.size : Int) + (t.size : Int)) = (n : Int) + (s.size : Int) + (t.size : Int) := IntWalk.i64_in _ (by omega)
          go_wp2_with fail
          go_quiet (fail)
          clear w1 w2
          go_wp2_with fail
          exact ⟨⟨i + 1, n + s.size + t.size, _, by omega, by omega, by go_num, by go_num, rfl, HN⟩, by simp [RowKit.intOf]; omega⟩
      · have fin : lightU l = true := by rw [hd.out, List.drop_eq_nil_of_le (by omega)]; rfl
        have HF2 := Lib.hid fin
        clear fin
        go_wp2_with fail
        go_ret
        exact ⟨by rw [HF2.out]; rfl, _, rfl⟩

end Tk
end Go.Proofs.YthooghgiokgdhaaDoor
namespace Go.Proofs.YthooghgiokgdhaaDoor
open Go.RowKit
namespace Tk

theorem isFlds_litV (w : World) (n x : Bs) : IsFlds (w.alloc (.cells #[.string (mkS n), .string (mkS x)] 27)) (.slice (some ⟨w.heap.size, 0, none⟩) 1 1) [(n, x)] := by
  refine ⟨_, 1, rfl, Nat.le_refl _, fun j f hj => ?_⟩
  cases j with
  | zero =>
    simp at hj; subst hj
    refine ⟨w.heap.size, 0, rfl, ?_, ?_⟩
    · rw [Lib.cell_of_heap (heap_alloc_last w _)]; rfl
    · rw [Lib.cell_of_heap (heap_alloc_last w _)]; rfl
  | succ j => simp at hj
theorem below_allocV (w : World) (o : Obj) : Below w.heap.size w (w.alloc o) := (Below.refl _ _).alloc (Nat.le_refl _) _

set_option maxHeartbeats 1000000 in
theorem vone_any (n x : ByteArray) (w : World) :
    Calls Tryd.prog 9 #[.string n, .string x] w fun e w' => e = .returned (.agg #[.string n, .string x]) ∧ Below w.heap.size w w' := by
  have hT := Two.new w 27 (.string ⟨#[]⟩) (.string ⟨#[]⟩)
  have c0 := hT.c0
  have c1 := hT.c1
  have f0 := hT.f0
  have f1 := hT.f1
  have hT2 := Two.new w 27 (.string n) (.string x)
  have q0 := hT2.c0
  have q1 := hT2.c1
  clear hT hT2
  go_enter Tryd.func9, Tryd.ntmps9
  go_wp2_with fail
  refine bodyPost_ret (v := .agg #[.string n, .string x]) ?_ rfl ⟨rfl, (Below.refl _ _).alloc (Nat.le_refl _) _⟩
  simp [results, Tryd.results9, go_sem, q0, q1]

set_option maxHeartbeats 1000000 in
theorem vlight_any (v : Value) (l : List (Bs × Bs)) (w : World) (hs : IsFlds w v l) (hz : ∀ f ∈ l, f.1.length ≤ 140737488351232 ∧ f.2.length ≤ 140737488351232) (hl : l.length ≤ 140737488351232) :
    Calls Tryd.prog 14 #[v] w fun e w' => e = .returned (.bool (lightU l)) ∧ ∃ n, w' = w.drewN n := by
  have HL := Lib.hid (lightTwenty_any v l w hs hz hl)
  obtain ⟨a, cap, rfl⟩ : ∃ a cap, v = .slice a l.length cap := by obtain ⟨a, c, h, -⟩ := hs; exact ⟨a, c, h⟩
  clear hs hz
  generalize lightU l = q at *
  go_enter Tryd.func14, Tryd.ntmps14
  go_wp2_with fail
  refine HL.out.mono ?_
  rintro e w1 ⟨rfl, n, rfl⟩
  go_wp2_with fail
  go_ret
  exact ⟨rfl, n, rfl⟩

theorem nms_of (P M : List Bs) (h : [42] ∉ P) (hM : M.Pairwise (· < ·)) (hm : ∀ x, x ∈ P.map lowL ↔ x ∈ M) : nmsV P = M := by
  unfold nmsV
  rw [if_neg h]
  exact set_unique _ _ (set_lt _) hM (fun x => by rw [set_mem]; exact hm x)
/-- the chapter's example -/
def exLv : List (Bs × Bs) := [([118, 97, 114, 121], [66, 44, 32, 97, 44, 32, 98])]
theorem exLv_list : listF exLv nVary = [[66], [97], [98]] := by decide
theorem exLv_nms : nmsV [[66], [97], [98]] = [[97], [98]] := by
  refine nms_of _ _ (by decide) (by decide) (fun x => ?_)
  have e : ([[66], [97], [98]] : List Bs).map lowL = [[98], [97], [98]] := by decide
  rw [e]
  simp only [List.mem_cons, List.mem_nil_iff, or_false]
  constructor
  · rintro (h | h | h)
    · exact .inr h
    · exact .inl h
    · exact .inr h
  · rintro (h | h)
    · exact .inr (.inl h)
    · exact .inl h

set_option maxHeartbeats 2000000 in
set_option maxRecDepth 100000 in
theorem lives12_any (w : World) : Calls Tryd.prog 7 #[] w fun e w' => e = .returned (.bool true) ∧ Below w.heap.size w w' := by
  have HO := Lib.hid (vone_any ⟨#[118, 97, 114, 121]⟩ ⟨#[66, 44, 32, 97, 44, 32, 98]⟩ w)
  have HN : Hid (∀ (v : Value) (W : World), IsFlds W v exLv → Calls Tryd.prog 8 #[v] W fun e w' => ∃ v', e = .returned (.tuple #[v', .bool false]) ∧ IsStrs w' v' [[97], [98]] ∧ Below W.heap.size W w') := fun v W hs => by
    have h := names_any v exLv W hs (by decide) (by decide)
    rw [exLv_list] at h
    refine h.mono ?_
    rintro e w' ⟨v', rfl, ho, hb⟩
    rw [exLv_nms] at ho
    exact ⟨v', rfl, isStrs_own ho, hb⟩
  have HSm : Hid (∀ (v1 v2 : Value) (W : World), IsStrs W v1 [[97], [98]] → IsStrs W v2 [[97], [98]] → Calls Tryd.prog 20 #[v1, v2] W fun e w' => e = .returned (.bool true) ∧ Below W.heap.size W w') := fun v1 v2 W h1 h2 => by
    have h := same_any v1 v2 _ _ W h1 h2 (by decide) (by decide)
    rw [show decide (([[97], [98]] : List Bs) = [[97], [98]]) = true by decide] at h
    refine h.mono ?_
    rintro e w' ⟨rfl, n, rfl⟩
    exact ⟨rfl, ⟨rfl, rfl, rfl, Nat.le_refl _, fun _ _ => rfl⟩⟩
  go_enter Tryd.func7, Tryd.ntmps7
  go_wp2_with fail
  refine HO.out.mono ?_
  rintro e w1 ⟨rfl, hb⟩
  have hfl : IsFlds (w1.alloc (.cells #[.string ⟨#[118, 97, 114, 121]⟩, .string ⟨#[66, 44, 32, 97, 44, 32, 98]⟩] 27)) (.slice (some ⟨w1.heap.size, 0, none⟩) 1 1) exLv := isFlds_litV w1 _ _
  have HF1 := Lib.hid hfl
  have hb1 := below_allocV w1 (.cells #[.string ⟨#[118, 97, 114, 121]⟩, .string ⟨#[66, 44, 32, 97, 44, 32, 98]⟩] 27)
  have HB1 := Lib.hid (hb.trans (hb1.mono hb.size))
  clear hb hfl hb1
  go_wp2_with fail
  refine (HN.out _ _ HF1.out).mono ?_
  rintro e w2 ⟨v2, rfl, hs2, hb⟩
  obtain ⟨a, c, rfl⟩ : ∃ a c, v2 = .slice a 2 c := by obtain ⟨a, c, h, -⟩ := hs2; exact ⟨a, c, h⟩
  have HB2 := Lib.hid (HB1.out.trans (hb.mono HB1.out.size))
  have hb3 := below_allocV w2 (.cells #[.string ⟨#[97]⟩, .string ⟨#[98]⟩] 9)
  have HS3 := Lib.hid (isStrsV_below hs2 hb3)
  have hl3 : IsStrs (w2.alloc (.cells #[.string ⟨#[97]⟩, .string ⟨#[98]⟩] 9)) (.slice (some ⟨w2.heap.size, 0, none⟩) 2 2) [[97], [98]] := isStrs_lit w2 [[97], [98]] _ _ 2 rfl
  have HL3 := Lib.hid hl3
  have HB3 := Lib.hid (HB2.out.trans (hb3.mono HB2.out.size))
  clear hb hs2 hb3 hl3
  go_wp2_with fail
  refine (HSm.out _ _ _ HS3.out HL3.out).mono ?_
  rintro e w4 ⟨rfl, hb⟩
  have HB4 := Lib.hid (HB3.out.trans (hb.mono HB3.out.size))
  clear hb
  go_wp2_with fail
  go_ret
  exact ⟨rfl, HB4.out⟩
end Tk
end Go.Proofs.YthooghgiokgdhaaDoor
namespace Go.Proofs.YthooghgiokgdhaaDoor
open Go.RowKit
namespace Tk

set_option maxHeartbeats 2000000 in
set_option maxRecDepth 100000 in
theorem writeByte (B b : Nat) (l : Bs) (c : UInt8) (w : World) (h : IsB B b l w) (hlen : l.length + 1 ≤ 1099511627776) (hBw : B ≤ w.heap.size) :
    Calls Tryd.prog 33 #[.pointer (some ⟨b, 0, none⟩), .int .u8 c.toNat] w fun e w' => e = .returned .nilIface ∧ IsB B b (l ++ [c]) w' ∧ Below B w w' := by
  obtain ⟨i0, hi, hz0, hz1, hz2⟩ := info_parts byteInf
  have hl : (Lib.byteCells l).length = l.length := by simp [Lib.byteCells]
  have hcat : Lib.byteCells (l ++ [c]) = Lib.byteCells l ++ [.int .u8 c.toNat] := by simp [Lib.byteCells]
  go_enter Tryd.func33, Tryd.ntmps33
  go_wp2_with fail
  refine (check_any B b l _ h).mono ?_
  rintro e w1 ⟨rfl, h1, hb1⟩
  obtain ⟨hB, v, hbk, hown, hne⟩ := h1
  have c0 : w1.cell? ⟨b, 0, none⟩ = some (.pointer (some ⟨b, 0, none⟩)) := by rw [Lib.cell_of_heap hbk]; rfl
  have c1 : w1.cell? ⟨b, 1, none⟩ = some v := by rw [Lib.cell_of_heap hbk]; rfl
  go_wp2_with (at_builtin; refine wpList_append_own _ rfl _ _ 42 rfl B 5 i0 (.int .u8 0) 1 1 Tryd.underlying42 hi hz0 hz1 hz2 rfl (by decide) _ _ _ rfl (hown.alloc _) ⟨w1.heap.size, 0, none⟩ 1 1 [.int .u8 c.toNat] rfl rfl ?c1 ?c2 ?c3 ?c4 ?c5 ?_)
  case c1 =>
    intro j u hj
    match j, hj with
    | 0, hj => simp at hj; subst hj; simp [Addr.add]
  case c2 => intro u hu; simp at hu; subst hu; rfl
  case c3 => unfold maxLen; omega
  case c4 => omega
  case c5 => have := hb1.size; simp; omega
  intro v' w2 hown' hgrow _
  have hlt : b < w1.heap.size := by
    rcases Nat.lt_or_ge b w1.heap.size with h' | h'
    · exact h'
    · simp [Array.getElem?_eq_none h'] at hbk
  have hb2 : w2.heap[b]? = some (.cells #[.pointer (some ⟨b, 0, none⟩), v] 51 (0, 0)) := by
    rw [hgrow.block b (by simp; omega) (fun e => hne e.symm), Lib.alloc_old w1 _ b hlt]
    exact hbk
  have d0 : w2.cell? ⟨b, 0, none⟩ = some (.pointer (some ⟨b, 0, none⟩)) := by rw [Lib.cell_of_heap hb2]; rfl
  have d1 : w2.cell? ⟨b, 1, none⟩ = some v := by rw [Lib.cell_of_heap hb2]; rfl
  have f1 : w2.frozen? ⟨b, 1, none⟩ = false := Lib.frozen_of_heap hb2 1
  obtain ⟨g, cap, rfl⟩ : ∃ g cap, v' = .slice (some ⟨g, 0, none⟩) (l.length + 1) cap := by
    rcases hown'.2 with ⟨_, h0⟩ | ⟨g, cap, cur, hv, _⟩
    · omega
    · exact ⟨g, cap, hv⟩
  go_wp2_with fail
  go_ret
  refine ⟨rfl, .inr ?_, ?_⟩
  · rw [hcat]
    exact Lib.BuilderAt.put (T := 51) (e := 5) hB hb2 (bs' := Lib.byteCells l ++ [.int .u8 c.toNat]) (by simpa [hl] using hown') (by decide)
  · exact ((hb1.alloc (by have := hb1.size; omega) _).grown hgrow (by have := hb1.size; simp; omega) (fun k hk => (hown.lt k hk).1)).setCell (p := ⟨b, 1, none⟩) hB _
end Tk
end Go.Proofs.YthooghgiokgdhaaDoor
namespace Go.Proofs.YthooghgiokgdhaaDoor
open Go.RowKit
namespace Tk

theorem decV : ∀ (k u : Nat), u ≤ k → Lib.decDigits u = digL u
  | 0, u, h => by
    rw [Lib.decDigits, digL, dif_pos (by omega), dif_pos (by omega)]
  | k + 1, u, h => by
    by_cases hu : u < 10
    · rw [Lib.decDigits, digL, dif_pos hu, dif_pos hu]
    · rw [Lib.decDigits, digL, dif_neg hu, dif_neg hu, decV k (u / 10) (by omega)]
/-- the table of powers of ten -/
structure TenV (w : World) : Prop where
  big : 3 < w.heap.size
  tab : Lib.TabIs Tryd.prog w "internal/strconv.uint64pow10" .u64 Lib.pow10Tab
theorem gTenV : Tryd.prog.globalNamed "internal/strconv.uint64pow10" = some 3 := by kernel_rfl
theorem TenV.later {w w' : World} (h : TenV w) (hb : Below w.heap.size w w') : TenV w' := ⟨Nat.lt_of_lt_of_le h.big hb.size, var?_below hb gTenV h.big h.tab⟩
theorem itoaV_any (n : Nat) (w : World) (hT : TenV w) (hn : n ≤ 9223372036854775807) :
    Calls Tryd.prog 34 #[.int .i64 (n : Int)] w fun e w' => e = .returned (.string (mkS (digL n))) ∧ Below w.heap.size w w' :=
  (Tryd.strconv_Itoa (n : Int) (by omega) (by omega) w hT.tab).mono fun _ _ ⟨h1, k, os, h2⟩ => ⟨by rw [h1, Lib.itoa_nonneg, decV n n (Nat.le_refl _)]; rfl, h2 ▸ Lib.below_grow _ _ (Nat.le_refl _) _ _⟩

theorem keyV_len (f : Bs → Bs) : ∀ L : List Bs, (∀ n ∈ L, n.length ≤ 1000000 ∧ (f n).length ≤ 4000000) → (keyV f L).length ≤ L.length * 5000030
  | [], _ => by simp [keyV]
  | n :: t, h => by
    have ih := keyV_len f t (fun x hx => h x (by simp [hx]))
    have h1 := h n (by simp)
    have h2 := digL_len 19 (f n).length (by omega)
    have h3 : (lowL n).length = n.length := by simp [lowL]
    have e : keyV f (n :: t) = entV n (f n) ++ keyV f t := by simp [keyV]
    have e2 : (entV n (f n)).length = n.length + (digL (f n).length).length + (f n).length + 3 := by
      unfold entV
      simp only [List.length_append, List.length_cons, List.length_nil]
      omega
    rw [e, List.length_append, List.length_cons, Nat.succ_mul, e2]
    omega
/-- what a request with these fields has for a name -/
def vlV (l : List (Bs × Bs)) (n : Bs) : Bs := valV (allF l n)
theorem vlV_len (l : List (Bs × Bs)) (n : Bs) (h : sumF l ≤ 1000000) : (vlV l n).length ≤ 4000000 := by
  have h1 := val_len (allF l n)
  have h2 := sum_all n l
  have h3 := allF_len l n
  unfold vlV; omega
theorem take_nextV (l : List Bs) (i : Nat) (h : i < l.length) : l.take (i + 1) = l.take i ++ [l.getD i []] := by
  rw [List.take_succ_eq_append_getElem h]; simp [List.getD, h]

set_option maxHeartbeats 8000000 in
set_option maxRecDepth 100000 in
theorem key_any (v vl : Value) (l : List (Bs × Bs)) (names : List Bs) (w : World) (hs : IsStrs w v names) (hT : Utf w) (hN : TenV w) (hf : IsFlds w vl l) (zl : sumF l ≤ 1000000) (nl : l.length ≤ 1048576) (hz : ∀ x ∈ names, x.length ≤ 1000000) (hl : names.length ≤ 1000) :
    Calls Tryd.prog 12 #[v, vl] w fun e w' => e = .returned (.string (mkS (keyV (vlV l) names))) ∧ Below w.heap.size w w' := by
  have HS := Lib.hid hs
  have HF := Lib.hid hf
  have HT := Lib.hid hT
  have HTn := Lib.hid hN
  have HZ := Lib.hid hz
  have HVl := Lib.hid (fun n => vlV_len l n zl)
  have HV := Lib.hid (fun (W : World) (n : Bs) (hs : IsFlds W vl l) (hT : Utf W) (hn : n.length ≤ 1000000) => vval_any vl l n W hT hs zl (by omega) nl)
  have HKl := Lib.hid (fun (i : Nat) => keyV_len (vlV l) (names.take i) (fun n hn => ⟨hz n (List.mem_of_mem_take hn), vlV_len l n zl⟩))
  obtain ⟨a, cap, rfl⟩ : ∃ a cap, v = .slice a names.length cap := by obtain ⟨a, c, h, -⟩ := hs; exact ⟨a, c, h⟩
  obtain ⟨al, cl, rfl⟩ : ∃ a cap, vl = .slice a l.length cap := by obtain ⟨a, c, h, -⟩ := hf; exact ⟨a, c, h⟩
  have hB0 := Lib.hid (Lib.fresh_isBuilder 51 5 w)
  have HB1 := Lib.hid (show Below w.heap.size w (w.alloc (Obj.cells #[Value.pointer none, Value.slice none 0 0] 51)) from (Below.refl _ _).alloc (Nat.le_refl _) _)
  have hsz : w.heap.size ≤ (w.alloc (Obj.cells #[Value.pointer none, Value.slice none 0 0] 51)).heap.size := by simp
  clear hs hf hT hN hz zl nl
  go_enter Tryd.func12, Tryd.ntmps12
  go_wp2_with fail
  generalize w.alloc (Obj.cells #[Value.pointer none, Value.slice none 0 0] 51) = W at *
  generalize hgw : w.heap.size = B at *
  have HGW := Lib.hid hgw
  clear hgw
  have HTB := Lib.hid (fun (W' : World) (h : Below B w W') => HTn.out.later (show Below w.heap.size w W' by rw [HGW.out]; exact h))
  go_loopw [11] (fun vi wr => ∃ i : Nat, i ≤ names.length ∧ vi = .int .i64 i ∧ Hid (IsB B B (keyV (vlV l) (names.take i)) wr) ∧ Hid (Below B w wr) ∧ B ≤ wr.heap.size) (fun vi _ => names.length - (RowKit.intOf vi).toNat)
  case atStart => exact ⟨0, Nat.zero_le _, rfl, hB0.out, HB1.out, hsz⟩
  case round =>
    obtain ⟨i, hi, rfl, hI, hB3, hBw⟩ := hrel
    rename World => W3
    by_cases hlt : i < names.length
    · have hbw : Below w.heap.size w W3 := by rw [HGW.out]; exact hB3.out
      obtain ⟨a', c', e', hc⟩ := isStrsV_below HS.out hbw
      injection e' with e1 _ e2
      subst e1 e2
      obtain ⟨b, o, rfl, hc0⟩ := hc i (names.getD i []) (by simp [List.getD, hlt])
      have hm := HZ.out (names.getD i []) (by simp [List.getD, hlt])
      have htk := take_nextV names i hlt
      have hks := key_snoc (vlV l) (names.take i) (names.getD i [])
      rw [← htk] at hks
      have hkl := HKl.out i
      have hkm : (names.take i).length ≤ 1000 := by rw [List.length_take]; omega
      have hP : (keyV (vlV l) (names.take i)).length ≤ 5000030000 := by omega
      have HVal := Lib.hid (HV.out W3 (names.getD i []) (isFlds_below HF.out hbw) (HT.out.later hbw) hm)
      have hvl := HVl.out (names.getD i [])
      have hent : entV (names.getD i []) (vlV l (names.getD i [])) = lowL (names.getD i []) ++ (58 :: (digL (vlV l (names.getD i [])).length ++ (58 :: (vlV l (names.getD i []) ++ [10])))) := rfl
      have HKS := Lib.hid (hks.trans (by rw [hent]))
      have hdl := digL_len 19 (vlV l (names.getD i [])).length (by omega)
      have hvv : vlV l (names.getD i []) = valV (allF l (names.getD i [])) := rfl
      rw [← hvv] at HVal
      clear hc htk hbw hks hkl hkm hent hvv
      generalize names.getD i [] = n at *
      generalize vlV l n = x at *
      generalize keyV (vlV l) (names.take i) = P at *
      have hlw := tlower_any (mkS n)
      have HLw := Lib.hid (fun W : World => tlower_any (mkS n) W (by rw [size_mkS]; omega))
      rw [bs_mkS] at HLw
      have hll : (lowL n).length = n.length := by simp [lowL]
      have HII := Lib.hid (fun (W : World) (h : TenV W) => itoaV_any x.length W h (by omega))
      have hxz := size_mkS x
      have HWS := Lib.hid (fun (W : World) (Q : Bs) (t : Bs) (h : IsB B B Q W) (hq : Q.length + t.length ≤ 1099511627776) (hw : B ≤ W.heap.size) => by
        have h1 := writeString B B Q (mkS t) W h (by rw [size_mkS]; exact hq) hw
        rw [bs_mkS] at h1
        exact h1)
      have HWB := Lib.hid (fun (W : World) (Q : Bs) (c : UInt8) (h : IsB B B Q W) (hq : Q.length + 1 ≤ 1099511627776) (hw : B ≤ W.heap.size) => writeByte B B Q c W h hq hw)
      generalize lowL n = u at *
      generalize digL x.length = d at *
      have HLn : Hid (P.length ≤ 5000030000 ∧ n.length ≤ 1000000 ∧ u.length = n.length ∧ d.length ≤ 20 ∧ x.length ≤ 4000000) := ⟨hP, hm, hll, hdl, hvl⟩
      have hkx : IntKind.i64.wrap (x.length : Int) = (x.length : Int) := IntWalk.i64_in _ (by omega)
      have g0 : (0 : Int) ≤ (i : Int) := by omega
      have g1 : (i : Int) < (names.length : Int) := by omega
      clear hP hm hll hdl hvl hlw hkx
      go_wp2_with fail
      refine HVal.out.mono ?_
      rintro e w1 ⟨rfl, hb⟩
      have HI1 := Lib.hid (isB_below hI.out hb)
      have HB1 := Lib.hid (hB3.out.trans (hb.mono hBw))
      have hs1 := Nat.le_trans hBw hb.size
      clear hb
      go_wp2_with fail
      refine (HLw.out _).mono ?_
      rintro e w2 ⟨rfl, hb⟩
      have HI2 := Lib.hid (isB_below HI1.out hb)
      have HB2 := Lib.hid (HB1.out.trans (hb.mono hs1))
      have hs2 := Nat.le_trans hs1 hb.size
      clear hb
      have H3 := Lib.hid (HWS.out w2 P u HI2.out (by have := HLn.out; omega) hs2)
      go_wp2_with fail
      refine H3.out.mono ?_
      rintro e w3 ⟨rfl, hi, hb, -⟩
      have HI3 := Lib.hid hi
      have HB3 := Lib.hid (HB2.out.trans hb)
      have hs3 := Nat.le_trans hs2 hb.size
      clear hi hb
      have H4 := Lib.hid (HWB.out w3 (P ++ u) 58 HI3.out (by simp only [List.length_append]; have := HLn.out; omega) hs3)
      go_wp2_with fail
      refine H4.out.mono ?_
      rintro e w4 ⟨rfl, hi, hb⟩
      have HI4 := Lib.hid hi
      have HB4 := Lib.hid (HB3.out.trans hb)
      have hs4 := Nat.le_trans hs3 hb.size
      clear hi hb
      have H5 := Lib.hid (HII.out w4 (HTB.out w4 HB4.out))
      go_wp2_with fail
      refine H5.out.mono ?_
      rintro e w5 ⟨rfl, hb⟩
      have HI5 := Lib.hid (isB_below HI4.out hb)
      have HB5 := Lib.hid (HB4.out.trans (hb.mono hs4))
      have hs5 := Nat.le_trans hs4 hb.size
      clear hb
      have H6 := Lib.hid (HWS.out w5 (P ++ u ++ [58]) d HI5.out (by simp only [List.length_append, List.length_cons, List.length_nil]; have := HLn.out; omega) hs5)
      go_wp2_with fail
      refine H6.out.mono ?_
      rintro e w6 ⟨rfl, hi, hb, -⟩
      have HI6 := Lib.hid hi
      have HB6 := Lib.hid (HB5.out.trans hb)
      have hs6 := Nat.le_trans hs5 hb.size
      clear hi hb
      have H7 := Lib.hid (HWB.out w6 (P ++ u ++ [58] ++ d) 58 HI6.out (by simp only [List.length_append, List.length_cons, List.length_nil]; have := HLn.out; omega) hs6)
      go_wp2_with fail
      refine H7.out.mono ?_
      rintro e w7 ⟨rfl, hi, hb⟩
      have HI7 := Lib.hid hi
      have HB7 := Lib.hid (HB6.out.trans hb)
      have hs7 := Nat.le_trans hs6 hb.size
      clear hi hb
      have H8 := Lib.hid (HWS.out w7 (P ++ u ++ [58] ++ d ++ [58]) x HI7.out (by simp only [List.length_append, List.length_cons, List.length_nil]; have := HLn.out; omega) hs7)
      go_wp2_with fail
      refine H8.out.mono ?_
      rintro e w8 ⟨rfl, hi, hb, -⟩
      have HI8 := Lib.hid hi
      have HB8 := Lib.hid (HB7.out.trans hb)
      have hs8 := Nat.le_trans hs7 hb.size
      clear hi hb
      have H9 := Lib.hid (HWB.out w8 (P ++ u ++ [58] ++ d ++ [58] ++ x) 10 HI8.out (by simp only [List.length_append, List.length_cons, List.length_nil]; have := HLn.out; omega) hs8)
      go_wp2_with fail
      refine H9.out.mono ?_
      rintro e w9 ⟨rfl, hi, hb⟩
      have HI9 := Lib.hid hi
      have HB9 := Lib.hid (HB8.out.trans hb)
      have hs9 := Nat.le_trans hs8 hb.size
      clear hi hb
      have HIF : Hid (IsB B B (keyV (vlV l) (names.take (i + 1))) w9) := by
        show IsB B B (keyV (vlV l) (names.take (i + 1))) w9
        rw [HKS.out]
        have h := HI9.out
        simpa using h
      go_wp2_with fail
      exact ⟨⟨i + 1, by omega, by go_num, HIF, HB9, hs9⟩, by simp [RowKit.intOf]; omega⟩
    · have hil : names.take i = names := List.take_of_length_le (by omega)
      rw [hil] at hI
      have H3 := Lib.hid (Tryd.Builder_String_any B B (keyV (vlV l) names) W3 hI.out hBw)
      clear hil
      go_wp2_with fail
      refine H3.out.mono ?_
      rintro e w5 ⟨rfl, hb5⟩
      have HB5 := Lib.hid (hB3.out.trans hb5)
      clear hb5
      go_wp2_with fail
      go_ret
      exact ⟨rfl, by rw [HGW.out]; exact HB5.out⟩
end Tk
end Go.Proofs.YthooghgiokgdhaaDoor
namespace Go.Proofs.YthooghgiokgdhaaDoor
open Go.RowKit
namespace Tk

theorem strs_oneV (R : List Bs) : ∀ u ∈ strs R, u.oneCell' = true := by
  intro u hu
  unfold strs at hu
  rw [List.mem_map] at hu
  obtain ⟨t, -, rfl⟩ := hu
  rfl
set_option maxRecDepth 100000 in
theorem joinS_runV (w : World) (o : Oper) (a : Act) (K : Act → World → Prop) (Q : Exit → Act → World → Prop) (s x : Operand)
    (ho : o.op = .call { callee := .builtin .append, args := #[s, x], argTypes := #[23, 23] })
    (base : Nat) (v v2 : Value) (P R : List Bs) (hs : a.eval s = v) (hx : a.eval x = v2) (h1 : w.ownsRow base 9 1 v P.length (strs P)) (h2 : IsStrs w v2 R) (hnl : ∀ n c, v2 = .slice none n c → c = 0)
    (hB : base ≤ w.heap.size) (hPR : P.length + R.length ≤ 8796093022208)
    (h : ∀ v' w', w'.ownsRow base 9 1 v' (P ++ R).length (strs (P ++ R)) → w.grownBy w' v.ownBlock → K (a.put o.dst v') w') : o.wp Tryd.prog a w K Q := by
  obtain ⟨i0, hi, hz0, hz1, hz2⟩ := info_parts strInfo
  obtain ⟨ad, cap, rfl, hc⟩ := h2
  rcases ad with _ | ad
  · have hR0 : R = [] := by
      cases R with
      | nil => rfl
      | cons f t => obtain ⟨b, o, e, -⟩ := hc 0 f rfl; cases e
    subst hR0
    have hcap0 := hnl _ _ rfl
    subst hcap0
    have hrun := run_append_owned_none (P := Tryd.prog) (w := w) base 23 o.type 9 i0 1 Tryd.underlying23 hi v P.length (strs P) h1
    unfold Oper.wp
    simp only [List.length_nil] at hx
    simp [execOp, ho, resolve, invoke, builtin, hs, hx, hrun, Result.andThen]
    exact h v w (by simpa using h1) ⟨rfl, rfl, rfl, Nat.le_refl _, fun _ _ _ => rfl⟩
  · refine wp_append_own (P := Tryd.prog) w s x 23 ho base 9 i0 (.string .empty) 1 16 Tryd.underlying23 hi hz0 hz1 hz2 rfl (by decide) v P.length (strs P) hs h1 ad R.length cap (strs R) hx (by simp [strs])
      (fun j u hj => ?_) (strs_oneV R) (by unfold maxLen; omega) (by omega) hB ?_
    · unfold strs at hj
      rw [List.getElem?_map] at hj
      obtain ⟨t, ht, rfl⟩ := Option.map_eq_some_iff.1 hj
      obtain ⟨b, o, e, g0⟩ := hc j t ht
      injection e with e
      subst e
      rw [Go.WideShapes.add_plain]
      exact g0
    · intro v' w' ho' hg' _
      refine h v' w' ?_ hg'
      rw [List.length_append, strs_append]
      exact ho'
theorem wpList_joinSV {ops : Array Oper} {rest : List Oper} {w : World} {o : Oper} {a : Act} {Q : Exit → Act → World → Prop} (hgd : o.guard = none) (s x : Operand)
    (ho : o.op = .call { callee := .builtin .append, args := #[s, x], argTypes := #[23, 23] })
    (base : Nat) (v v2 : Value) (P R : List Bs) (hs : a.eval s = v) (hx : a.eval x = v2) (h1 : w.ownsRow base 9 1 v P.length (strs P)) (h2 : IsStrs w v2 R) (hnl : ∀ n c, v2 = .slice none n c → c = 0)
    (hB : base ≤ w.heap.size) (hPR : P.length + R.length ≤ 8796093022208)
    (h : ∀ v' w', w'.ownsRow base 9 1 v' (P ++ R).length (strs (P ++ R)) → w.grownBy w' v.ownBlock → wpList Tryd.prog ops Q rest (a.put o.dst v') w') : wpList Tryd.prog ops Q (o :: rest) a w :=
  wpList_plain hgd fun _ hK => joinS_runV w o a _ Q s x ho base v v2 P R hs hx h1 h2 hnl hB hPR fun v' w' a b => hK _ _ (h v' w' a b)

set_option maxHeartbeats 2000000 in
set_option maxRecDepth 100000 in
theorem ownS_anyV (v : Value) (l : List Bs) (w : World) (hs : IsStrs w v l) (hnl : ∀ n c, v = .slice none n c → c = 0) (hl : l.length ≤ 8796093022208) :
    Calls Tryd.prog 17 #[v] w fun e w' => ∃ v', e = .returned v' ∧ w'.ownsRow w.heap.size 9 1 v' l.length (strs l) ∧ Below w.heap.size w w' := by
  have HS := Lib.hid hs
  have HNL := Lib.hid hnl
  obtain ⟨a, cap, rfl⟩ : ∃ a cap, v = .slice a l.length cap := by obtain ⟨a, c, h, -⟩ := hs; exact ⟨a, c, h⟩
  clear hs hnl
  go_enter Tryd.func17, Tryd.ntmps17
  have ho := World.ownsRow_lit (base := w.heap.size) (e := 9) (size := 1) w #[] 0 (Nat.le_refl _) (by decide) rfl
  have hb0 : Below w.heap.size w (w.alloc (Obj.cells #[] 9)) := (Below.refl _ _).alloc (Nat.le_refl _) _
  have HF := Lib.hid (isStrsV_below HS.out hb0)
  have HB0 := Lib.hid hb0
  have HO := Lib.hid ho
  clear ho hb0
  go_wp2_with (at_builtin; refine wpList_joinSV rfl _ _ rfl w.heap.size _ _ [] l rfl rfl HO.out HF.out HNL.out (by simp) (by simpa using hl) ?_)
  intro v' w' ho' hg'
  have HB1 := Lib.hid (HB0.out.trans (below_of_grown hg' HO.out (by simp)))
  have HO1 := Lib.hid ho'
  clear ho' hg'
  go_wp2_with fail
  go_ret
  exact ⟨v', rfl, HO1.out, HB1.out⟩
end Tk
end Go.Proofs.YthooghgiokgdhaaDoor
namespace Go.Proofs.YthooghgiokgdhaaDoor
open Go.RowKit
namespace Tk

theorem u8xV : U8Extra Tryd.prog Tryd.lays260_ren where
  n3 := by kernel_rfl
  n4 := by kernel_rfl
  y3 := by kernel_rfl
  y4 := by kernel_rfl
  c5 := by kernel_rfl
  c119 := by kernel_rfl
  c138 := by kernel_rfl
theorem utf_of {l : List (String × DataW Unit)} {W : World} (h : laidMet Tryd.prog l W) (h1 : ("unicode/utf8.first", Lib.firstData) ∈ l) (h2 : ("unicode/utf8.acceptRanges", Lib.acceptData) ∈ l) : Utf W :=
  utf8Tabs_of_readsT (U8Types.of260 Tryd.lays260) u8xV (Lib.laidMet.reads h h1) (Lib.laidMet.reads h h2)
end Tk
end Go.Proofs.YthooghgiokgdhaaDoor
namespace Go.Proofs.YthooghgiokgdhaaDoor
open Go.RowKit
namespace Tk

/-- may the texts be gone through: so many bytes together -/
def txGo (b : Nat) : Nat → List Bs → Bool
  | _, [] => true
  | n, x :: t => if b < n + x.length then false else txGo b (n + x.length) t
def lightX (M b : Nat) (l : List Bs) : Bool := decide (l.length ≤ M) && txGo b 0 l
theorem txGo_each (b : Nat) : ∀ (l : List Bs) (n : Nat), txGo b n l = true → ∀ x ∈ l, x.length ≤ b
  | [], _, _, x, hx => by simp at hx
  | y :: t, n, h, x, hx => by
    unfold txGo at h
    split at h
    · cases h
    · rcases List.mem_cons.1 hx with rfl | hx
      · omega
      · exact txGo_each b t _ h x hx
theorem lightX_parts (M b : Nat) (l : List Bs) (h : lightX M b l = true) : l.length ≤ M ∧ ∀ x ∈ l, x.length ≤ b := by
  unfold lightX at h
  rw [Bool.and_eq_true, decide_eq_true_eq] at h
  exact ⟨h.1, txGo_each b l 0 h.2⟩

set_option maxHeartbeats 2000000 in
set_option maxRecDepth 100000 in
theorem lightX_any (M b : Nat) (v : Value) (l : List Bs) (w : World) (hM : M ≤ 1000000) (hb : b ≤ 1000000) (hs : IsStrs w v l) (hz : ∀ x ∈ l, x.length ≤ 140737488351232) (hl : l.length ≤ 140737488351232) :
    Calls Tryd.prog 15 #[v, .int .i64 (M : Int), .int .i64 (b : Int)] w fun e w' => e = .returned (.bool (lightX M b l)) ∧ w = w' := by
  obtain ⟨a, c, rfl, hc⟩ := hs
  have HC := Lib.hid hc
  have HZ := Lib.hid hz
  clear hc hz
  by_cases h20 : M < l.length
  · have fin : lightX M b l = false := by unfold lightX; rw [decide_eq_false (by omega)]; rfl
    have HF := Lib.hid fin
    have h' : (M : Int) < (l.length : Int) := by omega
    clear fin
    go_enter Tryd.func15, Tryd.ntmps15
    go_wp2_with fail
    go_ret
    exact ⟨by rw [HF.out]; rfl, rfl⟩
  · have fin : lightX M b l = txGo b 0 l := by unfold lightX; rw [decide_eq_true (by omega)]; rfl
    have HF := Lib.hid fin
    have h' : ¬ (M : Int) < (l.length : Int) := by omega
    clear fin
    go_enter Tryd.func15, Tryd.ntmps15
    go_wp2_with fail
    go_loop [7, 8] (fun vn vi => ∃ (i n : Nat), i ≤ l.length ∧ n ≤ b ∧ vi = .int .i64 i ∧ vn = .int .i64 n ∧ Hid (lightX M b l = txGo b n (l.drop i))) (fun _ vi => l.length - (RowKit.intOf vi).toNat)
    case atStart => exact ⟨0, 0, by omega, by omega, rfl, rfl, HF.out⟩
    case round =>
      obtain ⟨i, n, hi, hn, rfl, rfl, hd⟩ := hrel
      by_cases hlt : i < l.length
      · obtain ⟨bb, o, rfl, hcell⟩ := HC.out i (l.getD i []) (by simp [List.getD, hlt])
        have hxl := HZ.out (l.getD i []) (by simp [List.getD, hlt])
        have hdr : l.drop i = l.getD i [] :: l.drop (i + 1) := by rw [List.drop_eq_getElem_cons hlt]; simp [List.getD, hlt]
        have HD := Lib.hid hdr
        have hsz : (mkS (l.getD i [])).size = (l.getD i []).length := size_mkS _
        clear hdr
        generalize l.getD i [] = x at *
        have HS := Lib.hid hsz
        have hxz : (mkS x).size ≤ 140737488351232 := by omega
        clear hsz
        by_cases hbb : b < n + (mkS x).size
        · have fin : lightX M b l = false := by
            rw [hd.out, HD.out, txGo, if_pos (by rw [← HS.out]; exact hbb)]
          have HF2 := Lib.hid fin
          have hb' : (b : Int) < (n : Int) + ((mkS x).size : Int) := by omega
          clear fin
          generalize mkS x = s at *
          go_wp2_with fail
          go_ret
          exact ⟨by rw [HF2.out]; rfl, rfl⟩
        · have nx : lightX M b l = txGo b (n + (mkS x).size) (l.drop (i + 1)) := by
            rw [hd.out, HD.out, txGo, if_neg (by rw [← HS.out]; exact hbb), HS.out]
          have HN := Lib.hid nx
          have hb' : ¬ (b : Int) < (n : Int) + ((mkS x).size : Int) := by omega
          clear nx
          generalize mkS x = s at *
          go_wp2_with fail
          exact ⟨⟨i + 1, n + s.size, by omega, by omega, by go_num, by go_num, HN⟩, by simp [RowKit.intOf]; omega⟩
      · have fin : lightX M b l = true := by rw [hd.out, List.drop_eq_nil_of_le (by omega)]; rfl
        have HF2 := Lib.hid fin
        clear fin
        go_wp2_with fail
        go_ret
        exact ⟨by rw [HF2.out]; rfl, rfl⟩
end Tk
end Go.Proofs.YthooghgiokgdhaaDoor
namespace Go.Proofs.YthooghgiokgdhaaDoor
open Go.RowKit
namespace Tk

def PickPost (m : Nat) (w : World) (r : Ending) (w' : World) : Prop := ∃ k : Nat, k < m ∧ r = .returned (.int .i64 k) ∧ w = w'

set_option maxHeartbeats 1000000 in
theorem pick_any (n : Int) (m : Nat) (w : World) (hm : 1 ≤ m) (hm2 : m ≤ 1099511627776) :
    Calls Tryd.prog 16 #[.int .i64 n, .int .i64 m] w (PickPost m w) := by
  have b0 : -(m : Int) < n.tmod m := by have := Int.lt_tmod_of_pos n (by omega : (0 : Int) < m); exact this
  have b1 : n.tmod m < m := Int.tmod_lt_of_pos n (by omega)
  by_cases hneg : n.tmod m < 0
  · go_enter Tryd.func16, Tryd.ntmps16
    go_wp2_with fail
    go_ret
    exact ⟨(n.tmod m + m).toNat, by omega, by rw [show (((n.tmod m + m).toNat : Nat) : Int) = n.tmod m + m by omega]; rfl, rfl⟩
  · go_enter Tryd.func16, Tryd.ntmps16
    go_wp2_with fail
    go_ret
    exact ⟨(n.tmod m).toNat, by omega, by rw [show (((n.tmod m).toNat : Nat) : Int) = n.tmod m by omega]; rfl, rfl⟩

set_option maxRecDepth 100000 in
set_option maxHeartbeats 1000000 in
/-- noughts, so many -/
theorem times_any (N : Nat) (w : World) (hN : N ≤ 1000) :
    Calls Tryd.prog 22 #[.string ⟨#[48]⟩, .int .i64 N] w fun r w' => r = .returned (.string (mkS (List.replicate N 48))) ∧ w = w' := by
  go_enter Tryd.func22, Tryd.ntmps22
  go_wp2_with fail
  go_loop [0, 1, 5] (fun vs vn vo => ∃ (p n a : Nat), p ≤ 2 * N + 1 ∧ Hid (a + p * n = N) ∧ n ≤ N ∧ a ≤ N ∧ vs = .string (mkS (List.replicate p 48)) ∧ vn = .int .i64 n ∧ vo = .string (mkS (List.replicate a 48))) (fun _ vn _ => (RowKit.intOf vn).toNat)
  case atStart => exact ⟨1, N, 0, by omega, by show _ = _; omega, by omega, by omega, rfl, rfl, rfl⟩
  case round =>
    obtain ⟨p, n, a, hp, hsum, hn, ha, rfl, rfl, rfl⟩ := hrel
    have z1 : (mkS (List.replicate p 48)).size = p := by rw [size_mkS, List.length_replicate]
    have z2 : (mkS (List.replicate a 48)).size = a := by rw [size_mkS, List.length_replicate]
    have hz : (mkS (List.replicate p 48)).size + (mkS (List.replicate p 48)).size ≤ 9223372036854775807 := by rw [z1]; omega
    have hz2 : (mkS (List.replicate a 48)).size + (mkS (List.replicate p 48)).size ≤ 9223372036854775807 := by rw [z1, z2]; omega
    have a1 : mkS (List.replicate p 48) ++ mkS (List.replicate p 48) = mkS (List.replicate (2 * p) 48) := by rw [mkS_append, List.replicate_append_replicate, Nat.two_mul]
    have a2 : mkS (List.replicate a 48) ++ mkS (List.replicate p 48) = mkS (List.replicate (a + p) 48) := by rw [mkS_append, List.replicate_append_replicate]
    have A1 := Lib.hid a1
    have A2 := Lib.hid a2
    clear a1 a2 z1 z2
    by_cases h0 : n = 0
    · subst h0
      have e : a = N := by have := hsum.out; omega
      subst e
      go_wp2_with fail
      go_ret
      exact ⟨rfl, rfl⟩
    · have hpn : p * n ≤ N := by have := hsum.out; omega
      have hp2 : p ≤ N := Nat.le_trans (Nat.le_mul_of_pos_right p (by omega)) hpn
      by_cases hodd : n % 2 = 1
      · have t : ((n : Int) % 2 == 1) = true := by rw [beq_iff_eq]; omega
        have e : a + p + 2 * p * (n / 2) = N := by
          have h1 := hsum.out
          have h2 : n = 2 * (n / 2) + 1 := by omega
          generalize n / 2 = h at *
          subst h2
          rw [Nat.mul_add, Nat.mul_one] at h1
          rw [Nat.mul_comm 2 p, Nat.mul_assoc]
          omega
        have E := Lib.hid e
        have hap : a + p ≤ N := by omega
        clear e hodd hpn
        go_wp2_with fail
        go_round
        case rel => exact ⟨2 * p, n / 2, a + p, by omega, E, by omega, hap, congrArg Value.string A1.out, by go_num, congrArg Value.string A2.out⟩
        case measure => simp [RowKit.intOf]; omega
      · have t : ((n : Int) % 2 == 1) = false := by rw [beq_eq_false_iff_ne]; omega
        have e : a + 2 * p * (n / 2) = N := by
          have h1 := hsum.out
          have h2 : n = 2 * (n / 2) := by omega
          generalize n / 2 = h at *
          subst h2
          rw [Nat.mul_comm 2 p, Nat.mul_assoc]
          exact h1
        have E := Lib.hid e
        clear e hodd hpn
        go_wp2_with fail
        go_round
        case rel => exact ⟨2 * p, n / 2, a, by omega, E, by omega, ha, congrArg Value.string A1.out, by go_num, rfl⟩
        case measure => simp [RowKit.intOf]; omega
end Tk
end Go.Proofs.YthooghgiokgdhaaDoor
namespace Go.Proofs.YthooghgiokgdhaaDoor
namespace Tk
end Tk
end Go.Proofs.YthooghgiokgdhaaDoor
