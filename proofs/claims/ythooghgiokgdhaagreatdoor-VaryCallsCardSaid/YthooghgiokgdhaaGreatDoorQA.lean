/- Tok0 VaN Small0 VaR Base Cln Kin All Fld0, put together. -/
import Derived.Lib.SlTrimSet
import Derived.Lib.Strings
import Derived.Lib.SlicesCompact
import Derived.Lib.RowBridge
import Derived.Test.YthooghgiokgdhaaGreatDoorRows
import Derived.WalkKit
import Derived.WalkSpells
import Derived.WalkLawsBesides
import Derived.Lib.Hide
import Derived.Test.YthooghgiokgdhaaGreatDoorShelf
import Derived.BigQuiet
import Derived.Deep.QuietTactic
import Derived.IntWalk
import Derived.OwnWalk
import Derived.Handy
import Derived.Great.BuildSlice
import Derived.Deep.WholeRow
import Derived.Lib.Bytealg
namespace Go.Proofs.YthooghgiokgdhaaGreatDoor
namespace Tk

abbrev Bs := List UInt8
def mkS (l : Bs) : ByteArray := ⟨l.toArray⟩
def bs (s : ByteArray) : Bs := s.data.toList
@[simp] theorem bs_mkS (l : Bs) : bs (mkS l) = l := rfl
@[simp] theorem mkS_bs (s : ByteArray) : mkS (bs s) = s := by cases s; rfl
theorem size_mkS (l : Bs) : (mkS l).size = l.length := by show l.toArray.size = _; simp
theorem length_bs (s : ByteArray) : (bs s).length = s.size := Array.length_toList
theorem mkS_inj {a b : Bs} (h : mkS a = mkS b) : a = b := by have := congrArg bs h; simpa using this

theorem mkS_append (a b : Bs) : mkS a ++ mkS b = mkS (a ++ b) := by
  apply ByteArray.ext
  apply Array.ext'
  rw [ByteArray.data_append]
  simp [mkS]
def trimL (l : Bs) : Bs := Lib.trimS l [32, 9]

theorem getD_bs (s : ByteArray) (k : Nat) (h : k < s.size) : (bs s).getD k 0 = s[k] := by
  have h' : k < (bs s).length := by rw [length_bs]; exact h
  rw [List.getD, List.getElem?_eq_getElem h']
  rfl
theorem u8_is (c : UInt8) (n : Nat) (hn : n < 256) (h : ((c.toNat : Int) == (n : Int)) = true) : c = UInt8.ofNat n := by
  rw [beq_iff_eq] at h
  apply UInt8.toNat_inj.1
  rw [UInt8.toNat_ofNat']; omega
theorem u8_not (c : UInt8) (n : Nat) (h : ((c.toNat : Int) == (n : Int)) = false) (hn : n < 256) : c ≠ UInt8.ofNat n := by
  rw [beq_eq_false_iff_ne] at h
  intro e
  subst e
  rw [UInt8.toNat_ofNat'] at h
  omega

theorem toList_bs (s : ByteArray) : s.toList = bs s := ByteArray.toList_eq s
theorem bs_extract (s : ByteArray) (a b : Nat) : bs (s.extract a b) = ((bs s).drop a).take (b - a) := Lib.extract_data s a b
theorem extract_mkS (s : ByteArray) (a b : Nat) : s.extract a b = mkS (((bs s).drop a).take (b - a)) := by rw [← bs_extract, mkS_bs]

/-- from behind a quote: how far to the one that closes -/
def closeLen : Bs → Nat
  | [] => 0
  | [c] => if c = 92 then 2 else if c = 34 then 0 else 1
  | c :: d :: t => if c = 92 then 2 + closeLen t else if c = 34 then 0 else 1 + closeLen (d :: t)

/-- the pieces between commas; mode 0: outside quotes, 1: inside, 2: behind a backslash -/
def spl : Nat → Bs → Bs → List Bs
  | _, cur, [] => [cur]
  | 0, cur, c :: t => if c = 44 then cur :: spl 0 [] t else if c = 34 then spl 1 (cur ++ [c]) t else spl 0 (cur ++ [c]) t
  | 1, cur, c :: t => if c = 92 then spl 2 (cur ++ [c]) t else if c = 34 then spl 0 (cur ++ [c]) t else spl 1 (cur ++ [c]) t
  | _ + 2, cur, c :: t => spl 1 (cur ++ [c]) t

def addP (t : Bs) : List Bs := if t = [] then [] else [t]
def parts (l : List Bs) : List Bs := l.flatMap fun p => addP (trimL p)
def splitL (l : Bs) : List Bs := parts (spl 0 [] l)

theorem parts_cons (p : Bs) (l : List Bs) : parts (p :: l) = addP (trimL p) ++ parts l := by simp [parts]
theorem parts_one (p : Bs) : parts [p] = addP (trimL p) := by simp [parts]

theorem spl_close : ∀ (r cur : Bs), spl 1 cur r = spl 0 (cur ++ r.take (closeLen r + 1)) (r.drop (closeLen r + 1))
  | [], cur => by simp [spl]
  | [c], cur => by
    by_cases h : c = 92
    · subst h; simp [spl, closeLen]
    · by_cases h2 : c = 34
      · subst h2; simp [spl, closeLen]
      · simp [spl, closeLen, h, h2]
  | c :: d :: t, cur => by
    by_cases h : c = 92
    · subst h
      have ih := spl_close t (cur ++ [92] ++ [d])
      simp only [spl, closeLen, if_true]
      rw [ih]
      simp [Nat.add_comm 2, List.take_succ_cons, List.drop_succ_cons]
    · by_cases h2 : c = 34
      · subst h2; simp [spl, closeLen]
      · have ih := spl_close (d :: t) (cur ++ [c])
        rw [spl, if_neg h, if_neg h2, ih]
        simp only [closeLen, if_neg h, if_neg h2]
        simp [Nat.add_comm 1, List.take_succ_cons, List.drop_succ_cons]

theorem drop_cons (l : Bs) (i : Nat) (h : i < l.length) : l.drop i = l.getD i 0 :: l.drop (i + 1) := by
  rw [List.drop_eq_getElem_cons h]; simp [List.getD, h]
theorem take_snoc (l : Bs) (i : Nat) (h : i < l.length) : l.take (i + 1) = l.take i ++ [l.getD i 0] := by
  rw [List.take_succ_eq_append_getElem h]; simp [List.getD, h]

theorem closeLen_bs (r : Bs) (h : r = 92 :: r.tail) : closeLen r = 2 + closeLen (r.drop 2) := by
  match r, h with
  | [c], h => simp at h; subst h; simp [closeLen]
  | c :: d :: t, h => simp at h; subst h; simp [closeLen]
theorem closeLen_q (t : Bs) : closeLen (34 :: t) = 0 := by cases t <;> simp [closeLen]
theorem closeLen_o (c : UInt8) (t : Bs) (h : c ≠ 92) (h2 : c ≠ 34) : closeLen (c :: t) = 1 + closeLen t := by
  cases t with
  | nil => simp [closeLen, h, h2]
  | cons d t => simp [closeLen, h, h2]

theorem closeLen_le : ∀ r : Bs, closeLen r ≤ r.length + 1
  | [] => by simp [closeLen]
  | [c] => by simp only [closeLen, List.length_singleton]; split; omega; split <;> omega
  | c :: d :: t => by
    have h1 := closeLen_le t
    have h2 := closeLen_le (d :: t)
    simp only [closeLen, List.length_cons] at *
    split; omega; split <;> omega

/-- what the search for pieces holds at place i: the pieces found, and the piece begun at b -/
def splAt (l : Bs) (b i : Nat) : List Bs := parts (spl 0 ((l.take i).drop b) (l.drop i))
theorem splAt_start (l : Bs) : splitL l = splAt l 0 0 := by simp [splAt, splitL]
theorem splAt_end (l : Bs) (b i : Nat) (h : l.length ≤ i) : splAt l b i = addP (trimL (l.drop b)) := by
  unfold splAt
  rw [List.take_of_length_le h, List.drop_eq_nil_of_le h, spl, parts_one]
theorem splAt_comma (l : Bs) (b i : Nat) (hi : i < l.length) (hc : l.getD i 0 = 44) : splAt l b i = addP (trimL ((l.drop b).take (i - b))) ++ splAt l (i + 1) (i + 1) := by
  unfold splAt
  rw [drop_cons l i hi, hc, spl, if_pos rfl, parts_cons, List.drop_take, List.drop_take, Nat.sub_self, List.take_zero]
theorem splAt_other (l : Bs) (b i : Nat) (hi : i < l.length) (hb : b ≤ i) (h1 : l.getD i 0 ≠ 44) (h2 : l.getD i 0 ≠ 34) : splAt l b i = splAt l b (i + 1) := by
  unfold splAt
  rw [drop_cons l i hi, spl, if_neg h1, if_neg h2, take_snoc l i hi, List.drop_append_of_le_length (by rw [List.length_take]; omega)]
theorem splAt_quote (l : Bs) (b i : Nat) (hi : i < l.length) (hb : b ≤ i) (hc : l.getD i 0 = 34) : splAt l b i = splAt l b (i + 1 + closeLen (l.drop (i + 1)) + 1) := by
  unfold splAt
  rw [drop_cons l i hi, hc, spl, if_neg (by decide), if_pos rfl, spl_close, List.drop_drop]
  rw [show i + 1 + closeLen (l.drop (i + 1)) + 1 = i + 1 + (closeLen (l.drop (i + 1)) + 1) by omega]
  generalize closeLen (l.drop (i + 1)) + 1 = K
  rw [List.take_add (i := i + 1), take_snoc l i hi, hc, List.append_assoc (l.take i), List.drop_append_of_le_length (by rw [List.length_take]; omega), List.append_assoc]

def lowB (c : UInt8) : UInt8 := if 65 ≤ c.toNat ∧ c.toNat ≤ 90 then c + 32 else c
def lowL (l : Bs) : Bs := l.map lowB
theorem lowB_up (c : UInt8) (h0 : 65 ≤ c.toNat) (h1 : c.toNat ≤ 90) : ((lowB c).toNat : Int) = (c.toNat : Int) - 65 + 97 := by
  unfold lowB; rw [if_pos ⟨h0, h1⟩, UInt8.toNat_add]
  have : (32 : UInt8).toNat = 32 := rfl
  omega
theorem lowB_same (c : UInt8) (h : ¬ (65 ≤ c.toNat ∧ c.toNat ≤ 90)) : lowB c = c := by unfold lowB; rw [if_neg h]
theorem lowB_lowB (c : UInt8) : lowB (lowB c) = lowB c := by
  by_cases h : 65 ≤ c.toNat ∧ c.toNat ≤ 90
  · have := lowB_up c h.1 h.2
    exact lowB_same _ (by omega)
  · rw [lowB_same c h, lowB_same c h]
theorem lowL_lowL (l : Bs) : lowL (lowL l) = lowL l := by unfold lowL; rw [List.map_map]; exact List.map_congr_left fun c _ => lowB_lowB c
theorem length_lowL (l : Bs) : (lowL l).length = l.length := by simp [lowL]
def hasQ (l : Bs) : Bool := l.contains 34

theorem trim_sublist (l : Bs) : (trimL l).length ≤ l.length := by
  have dw : ∀ (p : UInt8 → Bool) (l : Bs), (l.dropWhile p).length ≤ l.length := fun p l => by
    induction l with
    | nil => simp
    | cons a t ih => rw [List.dropWhile_cons]; split; exact Nat.le_succ_of_le ih; exact Nat.le_refl _
  unfold trimL Lib.trimS Lib.trimLeftS Lib.trimRightS
  refine Nat.le_trans (dw _ _) ?_
  rw [List.length_reverse]
  exact Nat.le_trans (dw _ _) (by rw [List.length_reverse]; exact Nat.le_refl _)

def closing (l : Bs) (i : Nat) : Nat := i + 1 + closeLen (l.drop (i + 1))
theorem bs_head (s : ByteArray) (h : 0 < s.size) : (bs s).head? = some s[0] := by
  rw [List.head?_eq_getElem?, List.getElem?_eq_getElem (by rw [length_bs]; exact h)]; rfl
theorem bs_drop (s : ByteArray) (i : Nat) (h : i < s.size) : (bs s).drop i = s[i] :: (bs s).drop (i + 1) := by
  rw [List.drop_eq_getElem_cons (by rw [length_bs]; exact h)]; rfl
theorem empty_of (s : ByteArray) (h : s.size = 0) : s.toList.isEmpty = true := by
  rw [toList_bs, List.isEmpty_iff, ← List.length_eq_zero_iff, length_bs]; exact h
theorem not_empty_of (s : ByteArray) (h : 0 < s.size) : s.toList.isEmpty = false := by
  rw [toList_bs]
  cases e : bs s with
  | nil => have := length_bs s; rw [e] at this; simp at this; omega
  | cons c t => rfl
end Tk
end Go.Proofs.YthooghgiokgdhaaGreatDoor
namespace Go.Proofs.YthooghgiokgdhaaGreatDoor
namespace Tk

/-- in order -/
def ordL (l : List Bs) : List Bs := l.mergeSort fun x y => decide (x ≤ y)
/-- in order, each once -/
def setL12 (l : List Bs) : List Bs := Lib.compact (ordL l)

theorem bs_trans {a b c : Bs} (h : a ≤ b) (k : b ≤ c) : a ≤ c := List.le_trans h k
theorem bs_lt {a b : Bs} (h : a ≤ b) (k : a ≠ b) : a < b := by
  rcases Classical.em (a < b) with h1 | h1
  · exact h1
  · exact absurd (List.le_antisymm h h1) k
theorem ord_sorted (l : List Bs) : (ordL l).Pairwise (· ≤ ·) := by
  have h := List.pairwise_mergeSort (le := fun x y : Bs => decide (x ≤ y)) (fun a b c h1 h2 => by
    rw [decide_eq_true_eq] at *; exact bs_trans h1 h2) (fun a b => by
    rw [Bool.or_eq_true, decide_eq_true_eq, decide_eq_true_eq]; exact List.le_total a b) l
  exact h.imp (fun h => by simpa using h)
theorem ord_mem (l : List Bs) (x : Bs) : x ∈ ordL l ↔ x ∈ l := List.mem_mergeSort
theorem ord_len (l : List Bs) : (ordL l).length = l.length := List.length_mergeSort l

theorem get_le {l : List Bs} (h : l.Pairwise (· ≤ ·)) {i j : Nat} (hij : i ≤ j) (hj : j < l.length) : l.toArray[i]! ≤ l.toArray[j]! := by
  rcases Nat.eq_or_lt_of_le hij with rfl | h2
  · exact List.le_refl _
  · have h3 := List.pairwise_iff_getElem.1 h i j (by omega) hj h2
    rw [getElem!_pos l.toArray i (by simp; omega), getElem!_pos l.toArray j (by simp; omega)]
    simpa using h3

theorem upto_both (l : List Bs) (h : l.Pairwise (· ≤ ·)) : ∀ m, m ≤ l.length → (Lib.compactUpTo l.toArray m).Pairwise (· < ·) ∧ ∀ x, x ∈ Lib.compactUpTo l.toArray m ↔ ∃ j, j < m ∧ l.toArray[j]! = x
  | 0, _ => by
    refine ⟨by simp [Lib.compactUpTo], fun x => ?_⟩
    simp [Lib.compactUpTo]
  | m + 1, hm => by
    obtain ⟨i1, i2⟩ := upto_both l h m (by omega)
    rw [Lib.compactUpTo_succ]
    by_cases hk : Lib.keeps l.toArray m = true
    · rw [if_pos hk]
      refine ⟨?_, fun x => ?_⟩
      · rw [List.pairwise_append]
        refine ⟨i1, by simp, fun a ha b hb => ?_⟩
        rw [List.mem_singleton] at hb
        subst hb
        obtain ⟨j, hj, rfl⟩ := (i2 a).1 ha
        unfold Lib.keeps at hk
        rw [decide_eq_true_eq] at hk
        have hne := hk.resolve_left (by omega)
        have h1 := get_le h (i := j) (j := m - 1) (by omega) (by omega)
        have h2 := get_le h (i := m - 1) (j := m) (by omega) (by omega)
        refine bs_lt (bs_trans h1 h2) (fun e => hne ?_)
        rw [← e] at h2 ⊢
        exact List.le_antisymm h1 h2
      · rw [List.mem_append, List.mem_singleton, i2]
        constructor
        · rintro (⟨j, hj, rfl⟩ | rfl)
          · exact ⟨j, by omega, rfl⟩
          · exact ⟨m, by omega, rfl⟩
        · rintro ⟨j, hj, rfl⟩
          by_cases e : j = m
          · subst e; exact .inr rfl
          · exact .inl ⟨j, by omega, rfl⟩
    · rw [if_neg hk, List.append_nil]
      refine ⟨i1, fun x => ?_⟩
      rw [i2]
      constructor
      · rintro ⟨j, hj, rfl⟩; exact ⟨j, by omega, rfl⟩
      · rintro ⟨j, hj, rfl⟩
        by_cases e : j = m
        · subst e
          unfold Lib.keeps at hk
          rw [decide_eq_true_eq] at hk
          have h0 : j ≠ 0 := fun e => hk (.inl e)
          have h1 : l.toArray[j]! = l.toArray[j - 1]! := Classical.byContradiction fun e => hk (.inr e)
          exact ⟨j - 1, by omega, h1.symm⟩
        · exact ⟨j, by omega, rfl⟩

theorem set_lt (l : List Bs) : (setL12 l).Pairwise (· < ·) := (upto_both (ordL l) (ord_sorted l) _ (Nat.le_refl _)).1
theorem set_memV (l : List Bs) (x : Bs) : x ∈ setL12 l ↔ x ∈ l := by
  unfold setL12 Lib.compact
  rw [(upto_both (ordL l) (ord_sorted l) _ (Nat.le_refl _)).2 x, ← ord_mem l x, List.mem_iff_getElem]
  constructor
  · rintro ⟨j, hj, rfl⟩
    exact ⟨j, hj, by rw [getElem!_pos _ j (by simpa using hj)]; simp⟩
  · rintro ⟨j, hj, rfl⟩
    exact ⟨j, hj, by rw [getElem!_pos _ j (by simpa using hj)]; simp⟩

theorem lt_irr (a : Bs) : ¬ a < a := List.lt_irrefl a
theorem lt_tr {a b c : Bs} (h : a < b) (k : b < c) : a < c := List.lt_trans h k
/-- a list in order, each once, is one by what it holds -/
theorem set_unique : ∀ (a b : List Bs), a.Pairwise (· < ·) → b.Pairwise (· < ·) → (∀ x, x ∈ a ↔ x ∈ b) → a = b
  | [], [], _, _, _ => rfl
  | [], y :: b, _, _, h => absurd ((h y).2 (by simp)) (by simp)
  | x :: a, [], _, _, h => absurd ((h x).1 (by simp)) (by simp)
  | x :: a, y :: b, ha, hb, h => by
    rw [List.pairwise_cons] at ha hb
    have hxy : x = y := by
      rcases List.mem_cons.1 ((h x).1 (by simp)) with e | e
      · exact e
      · rcases List.mem_cons.1 ((h y).2 (by simp)) with e2 | e2
        · exact e2.symm
        · exact absurd (lt_tr (ha.1 y e2) (hb.1 x e)) (lt_irr _)
    subst hxy
    congr 1
    refine set_unique a b ha.2 hb.2 (fun z => ?_)
    have hz := h z
    rw [List.mem_cons, List.mem_cons] at hz
    constructor
    · intro hm
      rcases hz.1 (.inr hm) with e | e
      · subst e; exact absurd (ha.1 _ hm) (lt_irr _)
      · exact e
    · intro hm
      rcases hz.2 (.inr hm) with e | e
      · subst e; exact absurd (hb.1 _ hm) (lt_irr _)
      · exact e
theorem set_lenV (l : List Bs) : (setL12 l).length ≤ l.length := by
  have h := Lib.compact_length_le (ordL l)
  rw [ord_len] at h
  exact h
theorem set_congr (a b : List Bs) (h : ∀ x, x ∈ a ↔ x ∈ b) : setL12 a = setL12 b :=
  set_unique _ _ (set_lt a) (set_lt b) (fun x => by rw [set_memV, set_memV]; exact h x)
end Tk
end Go.Proofs.YthooghgiokgdhaaGreatDoor
namespace Go.Proofs.YthooghgiokgdhaaGreatDoor
namespace Tk

def wh (c : UInt8) : Bool := [32, 9].contains c
/-- no white space at either end -/
def Neat (l : Bs) : Prop := (∀ c, l.head? = some c → wh c = false) ∧ (∀ c, l.getLast? = some c → wh c = false)

theorem dropWhile_head (l : Bs) : ∀ c, (l.dropWhile wh).head? = some c → wh c = false := by
  induction l with
  | nil => intro c h; simp at h
  | cons a t ih =>
    intro c h
    rw [List.dropWhile_cons] at h
    cases ha : wh a with
    | true => rw [ha, if_pos rfl] at h; exact ih c h
    | false => rw [ha, if_neg (by decide)] at h; simp at h; rw [← h]; exact ha
theorem dropWhile_last (l : Bs) : ∀ c, (l.dropWhile wh).getLast? = some c → l.getLast? = some c := by
  induction l with
  | nil => intro c h; exact h
  | cons a t ih =>
    intro c h
    rw [List.dropWhile_cons] at h
    cases ha : wh a with
    | true =>
      rw [ha, if_pos rfl] at h
      have h2 := ih c h
      cases t with
      | nil => simp at h2
      | cons b u => rw [List.getLast?_cons_cons]; exact h2
    | false => rw [ha, if_neg (by decide)] at h; exact h
theorem dropWhile_same (l : Bs) (h : ∀ c, l.head? = some c → wh c = false) : l.dropWhile wh = l := by
  cases l with
  | nil => rfl
  | cons a t => rw [List.dropWhile_cons, h a rfl, if_neg (by decide)]

def tr (l : Bs) : Bs := (l.reverse.dropWhile wh).reverse
theorem trimL_eq (l : Bs) : trimL l = (tr l).dropWhile wh := rfl
theorem tr_last (l : Bs) : ∀ c, (tr l).getLast? = some c → wh c = false := by
  intro c h
  unfold tr at h
  rw [List.getLast?_reverse] at h
  exact dropWhile_head _ c h
theorem trim_neat (l : Bs) : Neat (trimL l) := by
  rw [trimL_eq]
  exact ⟨dropWhile_head _, fun c h => tr_last l c (dropWhile_last _ c h)⟩
theorem neat_trim (l : Bs) (h : Neat l) : trimL l = l := by
  have h1 : tr l = l := by
    unfold tr
    rw [dropWhile_same _ (fun c hc => h.2 c (by rw [List.head?_reverse] at hc; exact hc)), List.reverse_reverse]
  rw [trimL_eq, h1, dropWhile_same l h.1]
theorem trim_trim (l : Bs) : trimL (trimL l) = trimL l := neat_trim _ (trim_neat l)

theorem tr_snoc (l : Bs) : tr (l ++ [9]) = tr l := by
  unfold tr
  rw [List.reverse_append]
  show ((9 :: l.reverse).dropWhile wh).reverse = _
  rw [List.dropWhile_cons, show wh 9 = true by decide, if_pos rfl]
theorem dropWhile_append (l m : Bs) : (l ++ m).dropWhile wh = if l.dropWhile wh = [] then m.dropWhile wh else l.dropWhile wh ++ m := by
  induction l with
  | nil => simp
  | cons a t ih =>
    rw [List.cons_append, List.dropWhile_cons, List.dropWhile_cons]
    cases ha : wh a with
    | true => rw [if_pos rfl, if_pos rfl]; exact ih
    | false => simp
theorem tr_cons (l : Bs) : (tr (32 :: l)).dropWhile wh = (tr l).dropWhile wh := by
  unfold tr
  rw [List.reverse_cons, dropWhile_append]
  by_cases h : l.reverse.dropWhile wh = []
  · rw [if_pos h, h]; decide
  · rw [if_neg h, List.reverse_append]
    show (32 :: (l.reverse.dropWhile wh).reverse).dropWhile wh = _
    rw [List.dropWhile_cons, show wh 32 = true by decide, if_pos rfl]
theorem trim_around (l : Bs) : trimL ([32] ++ l ++ [9]) = trimL l := by
  rw [trimL_eq, trimL_eq, tr_snoc]
  exact tr_cons l

theorem split_neat (l : Bs) : ∀ p ∈ splitL l, p ≠ [] ∧ trimL p = p := by
  intro p hp
  unfold splitL parts at hp
  rw [List.mem_flatMap] at hp
  obtain ⟨x, -, hx⟩ := hp
  unfold addP at hx
  split at hx
  · simp at hx
  · rename_i hne
    rw [List.mem_singleton] at hx
    subst hx
    exact ⟨hne, trim_trim x⟩

theorem spl_app : ∀ (s cur t : Bs), hasQ s = false → spl 0 cur (s ++ 44 :: t) = spl 0 cur s ++ spl 0 [] t
  | [], cur, t, _ => by simp [spl]
  | c :: s, cur, t, h => by
    have hc : c ≠ 34 := fun e => by subst e; simp [hasQ] at h
    have hs : hasQ s = false := by
      unfold hasQ at *
      rw [List.contains_cons, Bool.or_eq_false_iff] at h
      exact h.2
    rw [List.cons_append]
    by_cases h44 : c = 44
    · subst h44
      rw [spl, if_pos rfl, spl, if_pos rfl, spl_app s [] t hs]; rfl
    · rw [spl, if_neg h44, if_neg hc, spl_app s _ t hs]
      rw [show spl 0 cur (c :: s) = spl 0 (cur ++ [c]) s by rw [spl, if_neg h44, if_neg hc]]
theorem split_app (s t : Bs) (h : hasQ s = false) : splitL (s ++ [44] ++ t) = splitL s ++ splitL t := by
  unfold splitL
  rw [List.append_assoc]
  show parts (spl 0 [] (s ++ 44 :: t)) = _
  rw [spl_app s [] t h]
  simp [parts]
theorem spl_len : ∀ (l : Bs) (m : Nat) (cur : Bs), (spl m cur l).length ≤ l.length + 1
  | [], m, cur => by cases m <;> simp [spl]
  | c :: t, 0, cur => by
    rw [spl]
    split
    · have := spl_len t 0 []; simp; omega
    · split
      · have := spl_len t 1 (cur ++ [c]); simp; omega
      · have := spl_len t 0 (cur ++ [c]); simp; omega
  | c :: t, 1, cur => by
    rw [spl]
    split
    · have := spl_len t 2 (cur ++ [c]); simp; omega
    · split
      · have := spl_len t 0 (cur ++ [c]); simp; omega
      · have := spl_len t 1 (cur ++ [c]); simp; omega
  | c :: t, m + 2, cur => by
    rw [spl]
    have := spl_len t 1 (cur ++ [c]); simp; omega
theorem parts_len (l : List Bs) : (parts l).length ≤ l.length := by
  induction l with
  | nil => simp [parts]
  | cons a t ih =>
    rw [parts_cons, List.length_append]
    have : (addP (trimL a)).length ≤ 1 := by unfold addP; split <;> simp
    simp; omega
theorem split_len (l : Bs) : (splitL l).length ≤ l.length + 1 := Nat.le_trans (parts_len _) (spl_len l 0 [])
theorem spl_piece : ∀ (l : Bs) (m : Nat) (cur : Bs), ∀ p ∈ spl m cur l, p.length ≤ cur.length + l.length
  | [], m, cur => by cases m <;> simp [spl]
  | c :: t, 0, cur => by
    rw [spl]
    split
    · intro p hp
      rcases List.mem_cons.1 hp with rfl | hp
      · simp
      · have := spl_piece t 0 [] p hp; simp at *; omega
    · split
      · intro p hp; have := spl_piece t 1 (cur ++ [c]) p hp; simp at *; omega
      · intro p hp; have := spl_piece t 0 (cur ++ [c]) p hp; simp at *; omega
  | c :: t, 1, cur => by
    rw [spl]
    split
    · intro p hp; have := spl_piece t 2 (cur ++ [c]) p hp; simp at *; omega
    · split
      · intro p hp; have := spl_piece t 0 (cur ++ [c]) p hp; simp at *; omega
      · intro p hp; have := spl_piece t 1 (cur ++ [c]) p hp; simp at *; omega
  | c :: t, m + 2, cur => by
    rw [spl]
    intro p hp; have := spl_piece t 1 (cur ++ [c]) p hp; simp at *; omega
theorem split_piece (l p : Bs) (h : p ∈ splitL l) : p.length ≤ l.length := by
  unfold splitL parts at h
  rw [List.mem_flatMap] at h
  obtain ⟨x, hx, hp⟩ := h
  have h1 := spl_piece l 0 [] x hx
  have h2 := trim_sublist x
  unfold addP at hp
  split at hp
  · simp at hp
  · rw [List.mem_singleton] at hp; subst hp; simp at h1; omega
end Tk
end Go.Proofs.YthooghgiokgdhaaGreatDoor
namespace Go.Proofs.YthooghgiokgdhaaGreatDoor
namespace Tk

/-- no comma, but in quotes -/
def Com (p : Bs) : Prop := 34 ∈ p ∨ 44 ∉ p
theorem com_snoc {cur : Bs} {c : UInt8} (h : Com cur) (hc : c ≠ 44) : Com (cur ++ [c]) := by
  unfold Com at *
  rcases h with h | h
  · exact .inl (by simp [h])
  · exact .inr (by simp [h, Ne.symm hc])
theorem spl_com : ∀ (l : Bs), (∀ cur, Com cur → ∀ p ∈ spl 0 cur l, Com p) ∧ (∀ cur, 34 ∈ cur → ∀ p ∈ spl 1 cur l, Com p) ∧ (∀ cur, 34 ∈ cur → ∀ p ∈ spl 2 cur l, Com p)
  | [] => by
    refine ⟨fun cur h p hp => ?_, fun cur h p hp => ?_, fun cur h p hp => ?_⟩ <;> simp only [spl, List.mem_singleton] at hp <;> subst hp
    · exact h
    · exact .inl h
    · exact .inl h
  | c :: t => by
    obtain ⟨i0, i1, i2⟩ := spl_com t
    refine ⟨fun cur h p hp => ?_, fun cur h p hp => ?_, fun cur h p hp => ?_⟩
    · rw [spl] at hp
      split at hp
      · rcases List.mem_cons.1 hp with rfl | hp
        · exact h
        · exact i0 [] (.inr (by simp)) p hp
      · rename_i h44
        split at hp
        · rename_i h34
          exact i1 _ (by simp [h34]) p hp
        · exact i0 _ (com_snoc h h44) p hp
    · rw [spl] at hp
      split at hp
      · exact i2 _ (by simp [h]) p hp
      · split at hp
        · exact i0 _ (.inl (by simp [h])) p hp
        · exact i1 _ (by simp [h]) p hp
    · rw [spl] at hp
      exact i1 _ (by simp [h]) p hp
theorem mem_dropWh (c : UInt8) (hc : wh c = false) : ∀ l : Bs, c ∈ l → c ∈ l.dropWhile wh
  | [], h => h
  | d :: t, h => by
    rw [List.dropWhile_cons]
    split
    · rename_i hd
      rcases List.mem_cons.1 h with rfl | h
      · rw [hc] at hd; cases hd
      · exact mem_dropWh c hc t h
    · exact h
theorem mem_trim (c : UInt8) (hc : wh c = false) (l : Bs) (h : c ∈ l) : c ∈ trimL l := by
  rw [trimL_eq]
  refine mem_dropWh c hc _ ?_
  unfold tr
  rw [List.mem_reverse]
  exact mem_dropWh c hc _ (by rw [List.mem_reverse]; exact h)
theorem trim_mem (c : UInt8) (l : Bs) (h : c ∈ trimL l) : c ∈ l := by
  rw [trimL_eq] at h
  have h2 := List.Sublist.mem h (List.dropWhile_sublist wh)
  unfold tr at h2
  rw [List.mem_reverse] at h2
  have h3 := List.Sublist.mem h2 (List.dropWhile_sublist wh)
  rw [List.mem_reverse] at h3
  exact h3
theorem split_com (l p : Bs) (hp : p ∈ splitL l) : Com p := by
  unfold splitL parts at hp
  rw [List.mem_flatMap] at hp
  obtain ⟨x, hx, hp⟩ := hp
  have h := (spl_com l).1 [] (.inr (by simp)) x hx
  unfold addP at hp
  split at hp
  · simp at hp
  · rw [List.mem_singleton] at hp
    subst hp
    rcases h with h | h
    · exact .inl (mem_trim 34 (by decide) x h)
    · exact .inr (fun h2 => h (trim_mem 44 x h2))

theorem lowB_le (c : UInt8) : ∀ d : UInt8, (d = 44 ∨ d = 34 ∨ d = 42) → (lowB c = d ↔ c = d) := by
  intro d hd
  have h : ∀ k : Fin 256, ∀ d : Fin 3, (lowB (UInt8.ofNat k.val) = ([44, 34, 42] : Bs).getD d.val 0 ↔ UInt8.ofNat k.val = ([44, 34, 42] : Bs).getD d.val 0) := by decide +kernel
  have e : UInt8.ofNat c.toNat = c := UInt8.ofNat_toNat
  have hlt : c.toNat < 256 := c.toNat_lt
  rcases hd with rfl | rfl | rfl
  · have := h ⟨c.toNat, hlt⟩ 0; rw [e] at this; exact this
  · have := h ⟨c.toNat, hlt⟩ 1; rw [e] at this; exact this
  · have := h ⟨c.toNat, hlt⟩ 2; rw [e] at this; exact this
theorem lowB_wh (c : UInt8) : wh (lowB c) = wh c := by
  have h : ∀ k : Fin 256, wh (lowB (UInt8.ofNat k.val)) = wh (UInt8.ofNat k.val) := by decide +kernel
  have := h ⟨c.toNat, c.toNat_lt⟩
  rwa [UInt8.ofNat_toNat] at this
theorem lowB_twice (c : UInt8) : lowB (lowB c) = lowB c := by
  have h : ∀ k : Fin 256, lowB (lowB (UInt8.ofNat k.val)) = lowB (UInt8.ofNat k.val) := by decide +kernel
  have := h ⟨c.toNat, c.toNat_lt⟩
  rwa [UInt8.ofNat_toNat] at this
theorem low_twiceV (l : Bs) : lowL (lowL l) = lowL l := by
  unfold lowL; rw [List.map_map]; exact List.map_congr_left fun c _ => lowB_twice c
theorem low_mem (l : Bs) (d : UInt8) (hd : d = 44 ∨ d = 34 ∨ d = 42) : d ∈ lowL l ↔ d ∈ l := by
  unfold lowL
  rw [List.mem_map]
  constructor
  · rintro ⟨c, hc, h⟩
    rw [(lowB_le c d hd).1 h] at hc; exact hc
  · intro h
    exact ⟨d, h, (lowB_le d d hd).2 rfl⟩
theorem low_star (l : Bs) : lowL l = [42] ↔ l = [42] := by
  constructor
  · intro h
    match l, h with
    | [c], h =>
      unfold lowL at h
      rw [List.map_cons, List.map_nil, List.cons.injEq] at h
      rw [(lowB_le c 42 (by simp)).1 h.1]
    | [], h => simp [lowL] at h
    | c :: d :: t, h => simp [lowL] at h
  · rintro rfl; decide
theorem low_neat (l : Bs) (h : Neat l) : Neat (lowL l) := by
  unfold Neat lowL at *
  refine ⟨fun c hc => ?_, fun c hc => ?_⟩
  · rw [List.head?_map, Option.map_eq_some_iff] at hc
    obtain ⟨d, hd, rfl⟩ := hc
    rw [lowB_wh]; exact h.1 d hd
  · rw [List.getLast?_map, Option.map_eq_some_iff] at hc
    obtain ⟨d, hd, rfl⟩ := hc
    rw [lowB_wh]; exact h.2 d hd

/-- the names of a list's parts; star aside -/
def nmsV (P : List Bs) : List Bs := if [42] ∈ P then [] else setL12 (P.map lowL)
/-- names written, comma and blank behind each -/
def wrtV (M : List Bs) : Bs := M.flatMap (· ++ [44, 32])
structure Good (m : Bs) : Prop where
  ne : m ≠ []
  neat : Neat m
  c44 : 44 ∉ m
  c34 : 34 ∉ m
theorem spl_plainV : ∀ (l cur : Bs), 44 ∉ l → 34 ∉ l → spl 0 cur l = [cur ++ l]
  | [], cur, _, _ => by simp [spl]
  | c :: t, cur, h, k => by
    rw [List.mem_cons, not_or] at h k
    rw [spl, if_neg (Ne.symm h.1), if_neg (Ne.symm k.1), spl_plainV t (cur ++ [c]) h.2 k.2]
    simp
theorem trim_blankV (l : Bs) : trimL (32 :: l) = trimL l := by rw [trimL_eq, trimL_eq]; exact tr_cons l
theorem wrt_parts : ∀ (M : List Bs) (cw : Bs), (cw = [] ∨ cw = [32]) → (∀ m ∈ M, Good m) → parts (spl 0 cw (wrtV M)) = M
  | [], cw, hc, _ => by
    show parts (spl 0 cw []) = []
    rw [show spl 0 cw [] = [cw] by simp [spl], parts_one]
    rcases hc with rfl | rfl
    · decide
    · decide
  | m :: t, cw, hc, h => by
    have hm := h m (by simp)
    have ih := wrt_parts t [32] (.inr rfl) (fun x hx => h x (by simp [hx]))
    have e : wrtV (m :: t) = m ++ 44 :: (32 :: wrtV t) := by unfold wrtV; rw [List.flatMap_cons]; simp
    have hq : hasQ m = false := by
      unfold hasQ
      cases hcn : List.contains m 34 with
      | false => rfl
      | true => exact absurd (List.contains_iff_mem.1 hcn) hm.c34
    rw [e, spl_app m cw _ hq, spl_plainV m cw hm.c44 hm.c34, List.singleton_append, parts_cons]
    have e3 : spl 0 [] (32 :: wrtV t) = spl 0 [32] (wrtV t) := by rw [spl, if_neg (by decide), if_neg (by decide), List.nil_append]
    rw [e3, ih]
    have e4 : trimL (cw ++ m) = m := by
      rcases hc with rfl | rfl
      · exact neat_trim m hm.neat
      · rw [List.singleton_append, trim_blankV]; exact neat_trim m hm.neat
    rw [e4]
    unfold addP
    rw [if_neg hm.ne]; rfl
theorem wrt_split (M : List Bs) (h : ∀ m ∈ M, Good m) : splitL (wrtV M) = M := wrt_parts M [] (.inl rfl) h
theorem wrt_app (A B : List Bs) : wrtV (A ++ B) = wrtV A ++ wrtV B := by unfold wrtV; rw [List.flatMap_append]
theorem wrt_mem (M : List Bs) (m : Bs) (hm : m ∈ M) (c : UInt8) (hc : c ∈ m) : c ∈ wrtV M := by
  unfold wrtV
  rw [List.mem_flatMap]
  exact ⟨m, hm, by simp [hc]⟩
/-- what is written of the names, twice, is read as the names -/
theorem back_names (P : List Bs) (hP : ∀ p ∈ P, p ≠ [] ∧ trimL p = p ∧ Com p) (hq : 34 ∉ wrtV (nmsV P).reverse) :
    nmsV (splitL (wrtV (nmsV P).reverse ++ wrtV (nmsV P).reverse)) = nmsV P := by
  have hg : ∀ m ∈ nmsV P, Good m ∧ lowL m = m ∧ m ≠ [42] := by
    intro m hm
    have h34 : 34 ∉ m := fun h => hq (wrt_mem _ m (by simpa using hm) 34 h)
    unfold nmsV at hm
    split at hm
    · simp at hm
    · rename_i hst
      rw [set_memV, List.mem_map] at hm
      obtain ⟨p, hp, rfl⟩ := hm
      obtain ⟨h1, h2, h3⟩ := hP p hp
      rw [low_mem p 34 (by simp)] at h34
      refine ⟨⟨by simp [lowL, h1], low_neat p (h2 ▸ trim_neat p), ?_, ?_⟩, low_twiceV p, fun e => hst ?_⟩
      · rw [low_mem p 44 (by simp)]
        exact h3.resolve_left h34
      · rw [low_mem p 34 (by simp)]; exact h34
      · rw [low_star] at e; exact e ▸ hp
  rw [← wrt_app, wrt_split _ (fun m hm => (hg m (by simpa using hm)).1)]
  have hst2 : [42] ∉ (nmsV P).reverse ++ (nmsV P).reverse := fun h => (hg [42] (by simpa using h)).2.2 rfl
  have hlt : (nmsV P).Pairwise (· < ·) := by
    unfold nmsV; split
    · simp
    · exact set_lt _
  show (if [42] ∈ (nmsV P).reverse ++ (nmsV P).reverse then [] else setL12 (((nmsV P).reverse ++ (nmsV P).reverse).map lowL)) = nmsV P
  rw [if_neg hst2]
  refine set_unique _ _ (set_lt _) hlt (fun x => ?_)
  rw [set_memV, List.mem_map]
  constructor
  · rintro ⟨m, hm, rfl⟩
    have hm2 : m ∈ nmsV P := by simpa using hm
    rw [(hg m hm2).2.1]; exact hm2
  · intro hx
    exact ⟨x, by simpa using hx, (hg x hx).2.1⟩
theorem wrt_len : ∀ (M : List Bs) (k : Nat), (∀ m ∈ M, m.length ≤ k) → (wrtV M).length ≤ M.length * (k + 2)
  | [], k, _ => by simp [wrtV]
  | m :: t, k, h => by
    have ih := wrt_len t k (fun x hx => h x (by simp [hx]))
    have h1 := h m (by simp)
    unfold wrtV at *
    rw [List.flatMap_cons, List.length_append, List.length_cons, Nat.succ_mul, List.length_append]
    simp only [List.length_cons, List.length_nil]
    omega
end Tk
end Go.Proofs.YthooghgiokgdhaaGreatDoor

namespace Go.Proofs.YthooghgiokgdhaaGreatDoor
open Go.RowKit
namespace Tk

def StrPost (text : Bs) (w : World) (r : Ending) (w' : World) : Prop := r = .returned (.string (mkS text)) ∧ Below w.heap.size w w'

set_option maxHeartbeats 400000 in
theorem clone_any (s : ByteArray) (w : World) (h : s.size ≤ 1099511627776) :
    Calls Tryz.prog 104 #[.string s] w (StrPost (bs s) w) := by
  have H := Lib.hid (Tryz.stringslite_Clone s w (by omega))
  go_enter Tryz.func104, Tryz.ntmps104
  go_wp2_with fail
  refine H.out.mono ?_
  rintro e w' ⟨rfl, hb⟩
  have HB := Lib.hid hb
  clear hb
  go_wp2_with fail
  go_ret
  exact ⟨by rw [mkS_bs]; rfl, HB.out⟩
end Tk
end Go.Proofs.YthooghgiokgdhaaGreatDoor
namespace Go.Proofs.YthooghgiokgdhaaGreatDoor
open Go.RowKit
namespace Tk

/-- the kind of each byte, by ranges -/
def kindOf (c : Nat) : Int :=
  if c = 9 then 1 else if c < 32 then 0 else if 128 ≤ c then 1 else if c = 127 then 0
  else if [32, 34, 40, 41, 44, 47, 58, 59, 60, 61, 62, 63, 64, 91, 92, 93, 123, 125].contains c then 1 else 2
def kindL : List Int := (List.range 256).map kindOf

/-- 256 kinds, none said -/
def zk : Array Value := Array.replicate 256 (.int .u8 0)
theorem kind_zero (w : World) : (zeroValue 274).run Tryz.prog w = .ok (.agg zk) w := by kernel_rfl

set_option maxHeartbeats 1000000 in
set_option maxRecDepth 100000 in
theorem kinds_any (w : World) :
    Calls Tryz.prog 259 #[] w fun e w' => e = .returned (.agg (kindL.map (Value.int .u8)).toArray) ∧ Below w.heap.size w w' := by
  have hzk := kind_zero
  go_enter Tryz.func259, Tryz.ntmps259
  go_wp2_with (refine wpList_buildFlatArrTo rfl 274 237 256 _ rfl .u8 kindL (some 1) rfl (by kernel_rfl) (by kernel_rfl) (by kernel_rfl) (by kernel_rfl) ?_)
  have hld := run_loadVar_new (P := Tryz.prog) w 274 (kindL.map (Value.int .u8)).toArray 256 237 Tryz.underlying274 (by kernel_rfl)
  first
  | simp only [Result.andThen, run_storeCells_new (P := Tryz.prog) w 274 zk (kindL.map (Value.int .u8)).toArray (by kernel_rfl) (by kernel_rfl) (by kernel_rfl)]
  | simp only [Result.andThen, run_storeCells_new (P := Tryz.prog) w 274 Tryz.zeroCells274 (kindL.map (Value.int .u8)).toArray (by kernel_rfl) (by kernel_rfl) (by kernel_rfl)]
  rw [Oper.upon_skip]
  go_wp2_with fail
  refine bodyPost_ret (v := .agg (kindL.map (Value.int .u8)).toArray) ?_ rfl ⟨rfl, (Below.refl _ _).alloc (Nat.le_refl _) _⟩
  exact results_cell_row rfl _ _ w.heap.size 274 _ (0, 0) _ rfl (heap_alloc_last w _) Tryz.underlying274 rfl (by kernel_rfl)
end Tk
end Go.Proofs.YthooghgiokgdhaaGreatDoor
namespace Go.Proofs.YthooghgiokgdhaaGreatDoor
open Go.RowKit
namespace Tk

def allL (k : Int) (l : Bs) : Bool := l.all fun c => decide (k ≤ kindOf c.toNat)

theorem allL_cons (k : Int) (c : UInt8) (t : Bs) : allL k (c :: t) = (decide (k ≤ kindOf c.toNat) && allL k t) := rfl
theorem allL_append (k : Int) (a b : Bs) : allL k (a ++ b) = (allL k a && allL k b) := by unfold allL; rw [List.all_append]
theorem k92 : decide (1 ≤ kindOf (92 : UInt8).toNat) = true := by decide
theorem k34 : decide (1 ≤ kindOf (34 : UInt8).toNat) = true := by decide

theorem kindL_size : (kindL.map (Value.int .u8)).toArray.size = 256 := by kernel_rfl
theorem kindL_one : (kindL.map (Value.int .u8)).toArray.all (·.oneCell') = true := by kernel_rfl
theorem kindL_at (c : UInt8) : (kindL.map (Value.int .u8)).toArray[c.toNat]? = some (.int .u8 (kindOf c.toNat)) := by
  have h : c.toNat < 256 := c.toNat_lt
  simp [kindL, h]

set_option maxHeartbeats 1000000 in
set_option maxRecDepth 100000 in
theorem all_any (s : ByteArray) (k : Int) (w : World) (hs : s.size ≤ 1099511627776) :
    Calls Tryz.prog 209 #[.string s, .int .u8 k] w fun e w' => e = .returned (.bool (allL k (bs s))) ∧ Below w.heap.size w w' := by
  have hks := kindL_size
  have hk1 := kindL_one
  have hka := Lib.hid kindL_at
  have HK := Lib.hid (kinds_any w)
  generalize (kindL.map (Value.int .u8)).toArray = ks at *
  have hzk := kind_zero
  go_enter Tryz.func209, Tryz.ntmps209
  go_wp2_with fail
  refine HK.out.mono ?_
  rintro e w1 ⟨rfl, hb⟩
  have HB := Lib.hid hb
  clear hb
  go_wp2_with fail
  first
  | simp only [Result.andThen, run_storeCells_new (P := Tryz.prog) w1 274 zk ks (by rw [hks]; kernel_rfl) (by rw [hks]; kernel_rfl) hk1]
  | simp only [Result.andThen, run_storeCells_new (P := Tryz.prog) w1 274 Tryz.zeroCells274 ks (by rw [hks]; kernel_rfl) (by rw [hks]; kernel_rfl) hk1]
  rw [Oper.upon_skip]
  have hcell : ∀ c : UInt8, (w1.alloc (Obj.cells ks 274)).cell? ⟨w1.heap.size, c.toNat, none⟩ = some (.int .u8 (kindOf c.toNat)) := fun c => by
    rw [Lib.cell_of_heap (heap_alloc_last w1 _)]; exact hka.out c
  have HC := Lib.hid hcell
  have HB2 := Lib.hid ((HB.out).alloc HB.out.size (Obj.cells ks 274))
  clear hcell hka hks hk1 HK hzk
  generalize hW : w1.alloc (Obj.cells ks 274) = W at *
  clear hW
  generalize w1.heap.size = g at *
  go_wp2_with fail
  go_loopw [10] (fun v wr => ∃ i : Nat, i ≤ s.size ∧ v = .int .i64 i ∧ wr = W ∧ Hid (allL k (bs s) = allL k ((bs s).drop i))) (fun v _ => s.size - (RowKit.intOf v).toNat)
  case atStart => exact ⟨0, Nat.zero_le _, rfl, rfl, rfl⟩
  case round =>
    obtain ⟨i, hi, rfl, rfl, hd⟩ := hrel
    by_cases hlt : i < s.size
    · have hc := HC.out s[i]
      have hu := s[i].toNat_lt
      have hdrop : (bs s).drop i = s[i] :: (bs s).drop (i + 1) := by
        rw [List.drop_eq_getElem_cons (by rw [length_bs]; exact hlt)]; rfl
      have HD := Lib.hid hdrop
      clear hdrop
      by_cases hk : kindOf s[i].toNat < k
      · go_wp2_with fail
        have fin : allL k (bs s) = false := by
          rw [hd.out, HD.out]
          have : decide (k ≤ kindOf s[i].toNat) = false := by simp; omega
          unfold allL; rw [List.all_cons, this]; rfl
        go_ret
        exact ⟨by rw [fin]; rfl, HB2.out⟩
      · go_wp2_with fail
        refine ⟨⟨i + 1, by omega, by go_num, trivial, ?_⟩, by simp [RowKit.intOf]; omega⟩
        show _ = _
        rw [hd.out, HD.out]
        have : k ≤ kindOf s[i].toNat := by omega
        simp [allL, this]
    · go_wp2_with fail
      have fin : allL k (bs s) = true := by
        rw [hd.out, List.drop_eq_nil_of_le (by rw [length_bs]; omega)]; rfl
      go_ret
      exact ⟨by rw [fin]; rfl, HB2.out⟩
end Tk
end Go.Proofs.YthooghgiokgdhaaGreatDoor
namespace Go.Proofs.YthooghgiokgdhaaGreatDoor
namespace Tk

/-- is it a field that may be: a name that is a token, a value of value characters without white space at its ends -/
def okF (n v : Bs) : Bool := !n.isEmpty && allL 2 n && (allL 1 v && decide (trimL v = v))

/-- what stands before the first c, what stands behind it, and whether there is one -/
def cutL (c : UInt8) (l : Bs) : Bs × Bs × Bool := if l.contains c then (l.takeWhile (· != c), (l.dropWhile (· != c)).drop 1, true) else (l, [], false)

theorem cut_index (c : UInt8) : ∀ l : Bs, (Lib.indexByte l c = -1 ∧ l.contains c = false) ∨ ∃ i : Nat, Lib.indexByte l c = i ∧ i < l.length ∧ l.contains c = true ∧ l.take i = l.takeWhile (· != c) ∧ l.drop (i + 1) = (l.dropWhile (· != c)).drop 1
  | [] => .inl ⟨rfl, rfl⟩
  | b :: t => by
    unfold Lib.indexByte
    by_cases hb : b = c
    · subst hb
      exact .inr ⟨0, by simp, by simp, by simp, by simp, by simp⟩
    · have h1 : (b == c) = false := beq_eq_false_iff_ne.2 hb
      have h2 : (b != c) = true := by simp [hb]
      have h3 : (c == b) = false := beq_eq_false_iff_ne.2 (fun e => hb e.symm)
      rcases cut_index c t with ⟨h, hc⟩ | ⟨i, h, hi, hc, ht, hd⟩
      · left
        rw [h1, h]
        exact ⟨by simp, by rw [List.contains_cons, h3, hc]; rfl⟩
      · right
        refine ⟨i + 1, ?_, by simp; omega, by rw [List.contains_cons, hc]; simp, ?_, ?_⟩
        · rw [h1, h]
          have : ((i : Int) == -1) = false := by rw [beq_eq_false_iff_ne]; omega
          rw [this]; simp
        · rw [List.take_succ_cons, List.takeWhile_cons, h2, if_pos rfl, ht]
        · rw [List.drop_succ_cons, List.dropWhile_cons, h2, if_pos rfl, hd]

def lineOk (l : Bs) : Bool := (cutL 58 l).2.2 && okF (cutL 58 l).1 (trimL (cutL 58 l).2.1)
def lineN (l : Bs) : Bs := (cutL 58 l).1
def lineV (l : Bs) : Bs := trimL (cutL 58 l).2.1

def bytesF (f : Bs × Bs) : Bs := f.1 ++ [58, 32] ++ f.2 ++ [13, 10]
def okFs (l : List (Bs × Bs)) : Bool := l.all fun f => okF f.1 f.2

theorem trim_blank (l : Bs) : trimL (32 :: l) = trimL l := by rw [trimL_eq, trimL_eq]; exact tr_cons l
theorem allL_mem (k : Int) (l : Bs) (h : allL k l = true) (c : UInt8) (hc : c ∈ l) : k ≤ kindOf c.toNat := by
  unfold allL at h
  rw [List.all_eq_true] at h
  simpa using h c hc
theorem no_colon (n : Bs) (h : allL 2 n = true) : ∀ c ∈ n, (c != 58) = true := by
  intro c hc
  have := allL_mem 2 n h c hc
  by_cases e : c = 58
  · subst e; exact absurd this (by decide)
  · simp [e]
theorem cut_colon (n r : Bs) (h : allL 2 n = true) : cutL 58 (n ++ 58 :: r) = (n, r, true) := by
  have hn := no_colon n h
  unfold cutL
  rw [if_pos (by simp)]
  have h1 : (n ++ 58 :: r).takeWhile (· != 58) = n := by
    rw [List.takeWhile_append_of_pos hn, List.takeWhile_cons]; simp
  have h2 : (n ++ 58 :: r).dropWhile (· != 58) = 58 :: r := by
    rw [List.dropWhile_append_of_pos hn, List.dropWhile_cons]; simp
  rw [h1, h2]; rfl
theorem okF_parts (n v : Bs) (h : okF n v = true) : n ≠ [] ∧ allL 2 n = true ∧ allL 1 v = true ∧ trimL v = v := by
  unfold okF at h
  simp only [Bool.and_eq_true, decide_eq_true_eq, Bool.not_eq_true', List.isEmpty_eq_false_iff] at h
  exact ⟨h.1.1, h.1.2, h.2.1, h.2.2⟩
/-- a line of a field is read as the field -/
theorem line_bytes (n v : Bs) (h : okF n v = true) : lineOk (n ++ [58, 32] ++ v) = true ∧ lineN (n ++ [58, 32] ++ v) = n ∧ lineV (n ++ [58, 32] ++ v) = v := by
  obtain ⟨h1, h2, h3, h4⟩ := okF_parts n v h
  have e : n ++ [58, 32] ++ v = n ++ 58 :: (32 :: v) := by simp
  unfold lineOk lineN lineV
  rw [e, cut_colon n _ h2]
  simp only [trim_blank, h4, h, Bool.and_true, and_self]
theorem line_ok (l : Bs) (h : lineOk l = true) : okF (lineN l) (lineV l) = true := by
  unfold lineOk at h
  rw [Bool.and_eq_true] at h
  exact h.2
end Tk
end Go.Proofs.YthooghgiokgdhaaGreatDoor
