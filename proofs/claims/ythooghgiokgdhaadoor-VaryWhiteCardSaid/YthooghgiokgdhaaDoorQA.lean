/- Tok0 VaN Small0 VaR Base Cln Kin All Fld0 Cut TkA FldA Trm FldB FldL Bld BldS FldM Sam FldS Str FldG TokA TokB TokC Same Join FldV, put together. -/
import Derived.Lib.SlTrimSet
import Derived.Lib.Strings
import Derived.Lib.SlicesCompact
import Derived.Lib.RowBridge
import Derived.Test.YthooghgiokgdhaaDoorRows
import Derived.WalkKit
import Derived.WalkSpells
import Derived.WalkLawsBesides
import Derived.Lib.Hide
import Derived.Test.YthooghgiokgdhaaDoorShelf
import Derived.BigQuiet
import Derived.Deep.QuietTactic
import Derived.IntWalk
import Derived.OwnWalk
import Derived.Handy
import Derived.Great.BuildSlice
import Derived.Deep.WholeRow
import Derived.Lib.Bytealg
import Derived.Shelf.RegionOpenPlain
import Derived.Shelf.Strings.SlTrimAscii
import Derived.Deep.RegionHeld3
import Derived.Deep.RegionWith
import Derived.Shelf.Strings.Builder1
import Derived.Laws.AppendOwnNone
import Derived.BigFrame
import Derived.Deep.Onto
import Derived.Lib.Join
namespace Go.Proofs.YthooghgiokgdhaaDoor
namespace Tk

abbrev Bs := List UInt8
def mkS (l : Bs) : ByteArray := ⟨l.toArray⟩
def bs (s : ByteArray) : Bs := s.data.toList
@[simp] theorem bs_mkS (l : Bs) : bs (mkS l) = l := rfl
@[simp] theorem mkS_bs (s : ByteArray) : mkS (bs s) = s := by cases s; rfl
theorem size_mkS (l : Bs) : (mkS l).size = l.length := by show l.toArray.size = _; simp
theorem length_bs (s : ByteArray) : (bs s).length = s.size := Array.length_toList
theorem mkS_inj {a b : Bs} (h : mkS a = mkS b) : a = b := by have := congrArg bs h; simpa using this

theorem mkS_append (a b : Bs) : mkS a ++ mkS b = mkS (a ++ b) := by
  apply ByteArray.ext
  apply Array.ext'
  rw [ByteArray.data_append]
  simp [mkS]
def trimL (l : Bs) : Bs := Lib.trimS l [32, 9]

theorem getD_bs (s : ByteArray) (k : Nat) (h : k < s.size) : (bs s).getD k 0 = s[k] := by
  have h' : k < (bs s).length := by rw [length_bs]; exact h
  rw [List.getD, List.getElem?_eq_getElem h']
  rfl
theorem u8_is (c : UInt8) (n : Nat) (hn : n < 256) (h : ((c.toNat : Int) == (n : Int)) = true) : c = UInt8.ofNat n := by
  rw [beq_iff_eq] at h
  apply UInt8.toNat_inj.1
  rw [UInt8.toNat_ofNat']; omega
theorem u8_not (c : UInt8) (n : Nat) (h : ((c.toNat : Int) == (n : Int)) = false) (hn : n < 256) : c ≠ UInt8.ofNat n := by
  rw [beq_eq_false_iff_ne] at h
  intro e
  subst e
  rw [UInt8.toNat_ofNat'] at h
  omega

theorem toList_bs (s : ByteArray) : s.toList = bs s := ByteArray.toList_eq s
theorem bs_extract (s : ByteArray) (a b : Nat) : bs (s.extract a b) = ((bs s).drop a).take (b - a) := Lib.extract_data s a b
theorem extract_mkS (s : ByteArray) (a b : Nat) : s.extract a b = mkS (((bs s).drop a).take (b - a)) := by rw [← bs_extract, mkS_bs]

/-- from behind a quote: how far to the one that closes -/
def closeLen : Bs → Nat
  | [] => 0
  | [c] => if c = 92 then 2 else if c = 34 then 0 else 1
  | c :: d :: t => if c = 92 then 2 + closeLen t else if c = 34 then 0 else 1 + closeLen (d :: t)

/-- the pieces between commas; mode 0: outside quotes, 1: inside, 2: behind a backslash -/
def spl : Nat → Bs → Bs → List Bs
  | _, cur, [] => [cur]
  | 0, cur, c :: t => if c = 44 then cur :: spl 0 [] t else if c = 34 then spl 1 (cur ++ [c]) t else spl 0 (cur ++ [c]) t
  | 1, cur, c :: t => if c = 92 then spl 2 (cur ++ [c]) t else if c = 34 then spl 0 (cur ++ [c]) t else spl 1 (cur ++ [c]) t
  | _ + 2, cur, c :: t => spl 1 (cur ++ [c]) t

def addP (t : Bs) : List Bs := if t = [] then [] else [t]
def parts (l : List Bs) : List Bs := l.flatMap fun p => addP (trimL p)
def splitL (l : Bs) : List Bs := parts (spl 0 [] l)

theorem parts_cons (p : Bs) (l : List Bs) : parts (p :: l) = addP (trimL p) ++ parts l := by simp [parts]
theorem parts_one (p : Bs) : parts [p] = addP (trimL p) := by simp [parts]

theorem spl_close : ∀ (r cur : Bs), spl 1 cur r = spl 0 (cur ++ r.take (closeLen r + 1)) (r.drop (closeLen r + 1))
  | [], cur => by simp [spl]
  | [c], cur => by
    by_cases h : c = 92
    · subst h; simp [spl, closeLen]
    · by_cases h2 : c = 34
      · subst h2; simp [spl, closeLen]
      · simp [spl, closeLen, h, h2]
  | c :: d :: t, cur => by
    by_cases h : c = 92
    · subst h
      have ih := spl_close t (cur ++ [92] ++ [d])
      simp only [spl, closeLen, if_true]
      rw [ih]
      simp [Nat.add_comm 2, List.take_succ_cons, List.drop_succ_cons]
    · by_cases h2 : c = 34
      · subst h2; simp [spl, closeLen]
      · have ih := spl_close (d :: t) (cur ++ [c])
        rw [spl, if_neg h, if_neg h2, ih]
        simp only [closeLen, if_neg h, if_neg h2]
        simp [Nat.add_comm 1, List.take_succ_cons, List.drop_succ_cons]

theorem drop_cons (l : Bs) (i : Nat) (h : i < l.length) : l.drop i = l.getD i 0 :: l.drop (i + 1) := by
  rw [List.drop_eq_getElem_cons h]; simp [List.getD, h]
theorem take_snoc (l : Bs) (i : Nat) (h : i < l.length) : l.take (i + 1) = l.take i ++ [l.getD i 0] := by
  rw [List.take_succ_eq_append_getElem h]; simp [List.getD, h]

theorem closeLen_bs (r : Bs) (h : r = 92 :: r.tail) : closeLen r = 2 + closeLen (r.drop 2) := by
  match r, h with
  | [c], h => simp at h; subst h; simp [closeLen]
  | c :: d :: t, h => simp at h; subst h; simp [closeLen]
theorem closeLen_q (t : Bs) : closeLen (34 :: t) = 0 := by cases t <;> simp [closeLen]
theorem closeLen_o (c : UInt8) (t : Bs) (h : c ≠ 92) (h2 : c ≠ 34) : closeLen (c :: t) = 1 + closeLen t := by
  cases t with
  | nil => simp [closeLen, h, h2]
  | cons d t => simp [closeLen, h, h2]

theorem closeLen_le : ∀ r : Bs, closeLen r ≤ r.length + 1
  | [] => by simp [closeLen]
  | [c] => by simp only [closeLen, List.length_singleton]; split; omega; split <;> omega
  | c :: d :: t => by
    have h1 := closeLen_le t
    have h2 := closeLen_le (d :: t)
    simp only [closeLen, List.length_cons] at *
    split; omega; split <;> omega

/-- what the search for pieces holds at place i: the pieces found, and the piece begun at b -/
def splAt (l : Bs) (b i : Nat) : List Bs := parts (spl 0 ((l.take i).drop b) (l.drop i))
theorem splAt_start (l : Bs) : splitL l = splAt l 0 0 := by simp [splAt, splitL]
theorem splAt_end (l : Bs) (b i : Nat) (h : l.length ≤ i) : splAt l b i = addP (trimL (l.drop b)) := by
  unfold splAt
  rw [List.take_of_length_le h, List.drop_eq_nil_of_le h, spl, parts_one]
theorem splAt_comma (l : Bs) (b i : Nat) (hi : i < l.length) (hc : l.getD i 0 = 44) : splAt l b i = addP (trimL ((l.drop b).take (i - b))) ++ splAt l (i + 1) (i + 1) := by
  unfold splAt
  rw [drop_cons l i hi, hc, spl, if_pos rfl, parts_cons, List.drop_take, List.drop_take, Nat.sub_self, List.take_zero]
theorem splAt_other (l : Bs) (b i : Nat) (hi : i < l.length) (hb : b ≤ i) (h1 : l.getD i 0 ≠ 44) (h2 : l.getD i 0 ≠ 34) : splAt l b i = splAt l b (i + 1) := by
  unfold splAt
  rw [drop_cons l i hi, spl, if_neg h1, if_neg h2, take_snoc l i hi, List.drop_append_of_le_length (by rw [List.length_take]; omega)]
theorem splAt_quote (l : Bs) (b i : Nat) (hi : i < l.length) (hb : b ≤ i) (hc : l.getD i 0 = 34) : splAt l b i = splAt l b (i + 1 + closeLen (l.drop (i + 1)) + 1) := by
  unfold splAt
  rw [drop_cons l i hi, hc, spl, if_neg (by decide), if_pos rfl, spl_close, List.drop_drop]
  rw [show i + 1 + closeLen (l.drop (i + 1)) + 1 = i + 1 + (closeLen (l.drop (i + 1)) + 1) by omega]
  generalize closeLen (l.drop (i + 1)) + 1 = K
  rw [List.take_add (i := i + 1), take_snoc l i hi, hc, List.append_assoc (l.take i), List.drop_append_of_le_length (by rw [List.length_take]; omega), List.append_assoc]

def lowB (c : UInt8) : UInt8 := if 65 ≤ c.toNat ∧ c.toNat ≤ 90 then c + 32 else c
def lowL (l : Bs) : Bs := l.map lowB
theorem lowB_up (c : UInt8) (h0 : 65 ≤ c.toNat) (h1 : c.toNat ≤ 90) : ((lowB c).toNat : Int) = (c.toNat : Int) - 65 + 97 := by
  unfold lowB; rw [if_pos ⟨h0, h1⟩, UInt8.toNat_add]
  have : (32 : UInt8).toNat = 32 := rfl
  omega
theorem lowB_same (c : UInt8) (h : ¬ (65 ≤ c.toNat ∧ c.toNat ≤ 90)) : lowB c = c := by unfold lowB; rw [if_neg h]
theorem lowB_lowB (c : UInt8) : lowB (lowB c) = lowB c := by
  by_cases h : 65 ≤ c.toNat ∧ c.toNat ≤ 90
  · have := lowB_up c h.1 h.2
    exact lowB_same _ (by omega)
  · rw [lowB_same c h, lowB_same c h]
theorem lowL_lowL (l : Bs) : lowL (lowL l) = lowL l := by unfold lowL; rw [List.map_map]; exact List.map_congr_left fun c _ => lowB_lowB c
theorem length_lowL (l : Bs) : (lowL l).length = l.length := by simp [lowL]
def hasQ (l : Bs) : Bool := l.contains 34

theorem trim_sublist (l : Bs) : (trimL l).length ≤ l.length := by
  have dw : ∀ (p : UInt8 → Bool) (l : Bs), (l.dropWhile p).length ≤ l.length := fun p l => by
    induction l with
    | nil => simp
    | cons a t ih => rw [List.dropWhile_cons]; split; exact Nat.le_succ_of_le ih; exact Nat.le_refl _
  unfold trimL Lib.trimS Lib.trimLeftS Lib.trimRightS
  refine Nat.le_trans (dw _ _) ?_
  rw [List.length_reverse]
  exact Nat.le_trans (dw _ _) (by rw [List.length_reverse]; exact Nat.le_refl _)

def closing (l : Bs) (i : Nat) : Nat := i + 1 + closeLen (l.drop (i + 1))
theorem bs_head (s : ByteArray) (h : 0 < s.size) : (bs s).head? = some s[0] := by
  rw [List.head?_eq_getElem?, List.getElem?_eq_getElem (by rw [length_bs]; exact h)]; rfl
theorem bs_drop (s : ByteArray) (i : Nat) (h : i < s.size) : (bs s).drop i = s[i] :: (bs s).drop (i + 1) := by
  rw [List.drop_eq_getElem_cons (by rw [length_bs]; exact h)]; rfl
theorem empty_of (s : ByteArray) (h : s.size = 0) : s.toList.isEmpty = true := by
  rw [toList_bs, List.isEmpty_iff, ← List.length_eq_zero_iff, length_bs]; exact h
theorem not_empty_of (s : ByteArray) (h : 0 < s.size) : s.toList.isEmpty = false := by
  rw [toList_bs]
  cases e : bs s with
  | nil => have := length_bs s; rw [e] at this; simp at this; omega
  | cons c t => rfl
end Tk
end Go.Proofs.YthooghgiokgdhaaDoor
namespace Go.Proofs.YthooghgiokgdhaaDoor
namespace Tk

/-- in order -/
def ordL (l : List Bs) : List Bs := l.mergeSort fun x y => decide (x ≤ y)
/-- in order, each once -/
def setL12 (l : List Bs) : List Bs := Lib.compact (ordL l)

theorem bs_trans {a b c : Bs} (h : a ≤ b) (k : b ≤ c) : a ≤ c := List.le_trans h k
theorem bs_lt {a b : Bs} (h : a ≤ b) (k : a ≠ b) : a < b := by
  rcases Classical.em (a < b) with h1 | h1
  · exact h1
  · exact absurd (List.le_antisymm h h1) k
theorem ord_sorted (l : List Bs) : (ordL l).Pairwise (· ≤ ·) := by
  have h := List.pairwise_mergeSort (le := fun x y : Bs => decide (x ≤ y)) (fun a b c h1 h2 => by
    rw [decide_eq_true_eq] at *; exact bs_trans h1 h2) (fun a b => by
    rw [Bool.or_eq_true, decide_eq_true_eq, decide_eq_true_eq]; exact List.le_total a b) l
  exact h.imp (fun h => by simpa using h)
theorem ord_mem (l : List Bs) (x : Bs) : x ∈ ordL l ↔ x ∈ l := List.mem_mergeSort
theorem ord_len (l : List Bs) : (ordL l).length = l.length := List.length_mergeSort l

theorem get_le {l : List Bs} (h : l.Pairwise (· ≤ ·)) {i j : Nat} (hij : i ≤ j) (hj : j < l.length) : l.toArray[i]! ≤ l.toArray[j]! := by
  rcases Nat.eq_or_lt_of_le hij with rfl | h2
  · exact List.le_refl _
  · have h3 := List.pairwise_iff_getElem.1 h i j (by omega) hj h2
    rw [getElem!_pos l.toArray i (by simp; omega), getElem!_pos l.toArray j (by simp; omega)]
    simpa using h3

theorem upto_both (l : List Bs) (h : l.Pairwise (· ≤ ·)) : ∀ m, m ≤ l.length → (Lib.compactUpTo l.toArray m).Pairwise (· < ·) ∧ ∀ x, x ∈ Lib.compactUpTo l.toArray m ↔ ∃ j, j < m ∧ l.toArray[j]! = x
  | 0, _ => by
    refine ⟨by simp [Lib.compactUpTo], fun x => ?_⟩
    simp [Lib.compactUpTo]
  | m + 1, hm => by
    obtain ⟨i1, i2⟩ := upto_both l h m (by omega)
    rw [Lib.compactUpTo_succ]
    by_cases hk : Lib.keeps l.toArray m = true
    · rw [if_pos hk]
      refine ⟨?_, fun x => ?_⟩
      · rw [List.pairwise_append]
        refine ⟨i1, by simp, fun a ha b hb => ?_⟩
        rw [List.mem_singleton] at hb
        subst hb
        obtain ⟨j, hj, rfl⟩ := (i2 a).1 ha
        unfold Lib.keeps at hk
        rw [decide_eq_true_eq] at hk
        have hne := hk.resolve_left (by omega)
        have h1 := get_le h (i := j) (j := m - 1) (by omega) (by omega)
        have h2 := get_le h (i := m - 1) (j := m) (by omega) (by omega)
        refine bs_lt (bs_trans h1 h2) (fun e => hne ?_)
        rw [← e] at h2 ⊢
        exact List.le_antisymm h1 h2
      · rw [List.mem_append, List.mem_singleton, i2]
        constructor
        · rintro (⟨j, hj, rfl⟩ | rfl)
          · exact ⟨j, by omega, rfl⟩
          · exact ⟨m, by omega, rfl⟩
        · rintro ⟨j, hj, rfl⟩
          by_cases e : j = m
          · subst e; exact .inr rfl
          · exact .inl ⟨j, by omega, rfl⟩
    · rw [if_neg hk, List.append_nil]
      refine ⟨i1, fun x => ?_⟩
      rw [i2]
      constructor
      · rintro ⟨j, hj, rfl⟩; exact ⟨j, by omega, rfl⟩
      · rintro ⟨j, hj, rfl⟩
        by_cases e : j = m
        · subst e
          unfold Lib.keeps at hk
          rw [decide_eq_true_eq] at hk
          have h0 : j ≠ 0 := fun e => hk (.inl e)
          have h1 : l.toArray[j]! = l.toArray[j - 1]! := Classical.byContradiction fun e => hk (.inr e)
          exact ⟨j - 1, by omega, h1.symm⟩
        · exact ⟨j, by omega, rfl⟩

theorem set_lt (l : List Bs) : (setL12 l).Pairwise (· < ·) := (upto_both (ordL l) (ord_sorted l) _ (Nat.le_refl _)).1
theorem set_mem (l : List Bs) (x : Bs) : x ∈ setL12 l ↔ x ∈ l := by
  unfold setL12 Lib.compact
  rw [(upto_both (ordL l) (ord_sorted l) _ (Nat.le_refl _)).2 x, ← ord_mem l x, List.mem_iff_getElem]
  constructor
  · rintro ⟨j, hj, rfl⟩
    exact ⟨j, hj, by rw [getElem!_pos _ j (by simpa using hj)]; simp⟩
  · rintro ⟨j, hj, rfl⟩
    exact ⟨j, hj, by rw [getElem!_pos _ j (by simpa using hj)]; simp⟩

theorem lt_irr (a : Bs) : ¬ a < a := List.lt_irrefl a
theorem lt_tr {a b c : Bs} (h : a < b) (k : b < c) : a < c := List.lt_trans h k
/-- a list in order, each once, is one by what it holds -/
theorem set_unique : ∀ (a b : List Bs), a.Pairwise (· < ·) → b.Pairwise (· < ·) → (∀ x, x ∈ a ↔ x ∈ b) → a = b
  | [], [], _, _, _ => rfl
  | [], y :: b, _, _, h => absurd ((h y).2 (by simp)) (by simp)
  | x :: a, [], _, _, h => absurd ((h x).1 (by simp)) (by simp)
  | x :: a, y :: b, ha, hb, h => by
    rw [List.pairwise_cons] at ha hb
    have hxy : x = y := by
      rcases List.mem_cons.1 ((h x).1 (by simp)) with e | e
      · exact e
      · rcases List.mem_cons.1 ((h y).2 (by simp)) with e2 | e2
        · exact e2.symm
        · exact absurd (lt_tr (ha.1 y e2) (hb.1 x e)) (lt_irr _)
    subst hxy
    congr 1
    refine set_unique a b ha.2 hb.2 (fun z => ?_)
    have hz := h z
    rw [List.mem_cons, List.mem_cons] at hz
    constructor
    · intro hm
      rcases hz.1 (.inr hm) with e | e
      · subst e; exact absurd (ha.1 _ hm) (lt_irr _)
      · exact e
    · intro hm
      rcases hz.2 (.inr hm) with e | e
      · subst e; exact absurd (hb.1 _ hm) (lt_irr _)
      · exact e
theorem set_len (l : List Bs) : (setL12 l).length ≤ l.length := by
  have h := Lib.compact_length_le (ordL l)
  rw [ord_len] at h
  exact h
theorem set_congr (a b : List Bs) (h : ∀ x, x ∈ a ↔ x ∈ b) : setL12 a = setL12 b :=
  set_unique _ _ (set_lt a) (set_lt b) (fun x => by rw [set_mem, set_mem]; exact h x)
end Tk
end Go.Proofs.YthooghgiokgdhaaDoor
namespace Go.Proofs.YthooghgiokgdhaaDoor
namespace Tk

def wh (c : UInt8) : Bool := [32, 9].contains c
/-- no white space at either end -/
def Neat (l : Bs) : Prop := (∀ c, l.head? = some c → wh c = false) ∧ (∀ c, l.getLast? = some c → wh c = false)

theorem dropWhile_head (l : Bs) : ∀ c, (l.dropWhile wh).head? = some c → wh c = false := by
  induction l with
  | nil => intro c h; simp at h
  | cons a t ih =>
    intro c h
    rw [List.dropWhile_cons] at h
    cases ha : wh a with
    | true => rw [ha, if_pos rfl] at h; exact ih c h
    | false => rw [ha, if_neg (by decide)] at h; simp at h; rw [← h]; exact ha
theorem dropWhile_last (l : Bs) : ∀ c, (l.dropWhile wh).getLast? = some c → l.getLast? = some c := by
  induction l with
  | nil => intro c h; exact h
  | cons a t ih =>
    intro c h
    rw [List.dropWhile_cons] at h
    cases ha : wh a with
    | true =>
      rw [ha, if_pos rfl] at h
      have h2 := ih c h
      cases t with
      | nil => simp at h2
      | cons b u => rw [List.getLast?_cons_cons]; exact h2
    | false => rw [ha, if_neg (by decide)] at h; exact h
theorem dropWhile_same (l : Bs) (h : ∀ c, l.head? = some c → wh c = false) : l.dropWhile wh = l := by
  cases l with
  | nil => rfl
  | cons a t => rw [List.dropWhile_cons, h a rfl, if_neg (by decide)]

def tr (l : Bs) : Bs := (l.reverse.dropWhile wh).reverse
theorem trimL_eq (l : Bs) : trimL l = (tr l).dropWhile wh := rfl
theorem tr_last (l : Bs) : ∀ c, (tr l).getLast? = some c → wh c = false := by
  intro c h
  unfold tr at h
  rw [List.getLast?_reverse] at h
  exact dropWhile_head _ c h
theorem trim_neat (l : Bs) : Neat (trimL l) := by
  rw [trimL_eq]
  exact ⟨dropWhile_head _, fun c h => tr_last l c (dropWhile_last _ c h)⟩
theorem neat_trim (l : Bs) (h : Neat l) : trimL l = l := by
  have h1 : tr l = l := by
    unfold tr
    rw [dropWhile_same _ (fun c hc => h.2 c (by rw [List.head?_reverse] at hc; exact hc)), List.reverse_reverse]
  rw [trimL_eq, h1, dropWhile_same l h.1]
theorem trim_trim (l : Bs) : trimL (trimL l) = trimL l := neat_trim _ (trim_neat l)

theorem tr_snoc (l : Bs) : tr (l ++ [9]) = tr l := by
  unfold tr
  rw [List.reverse_append]
  show ((9 :: l.reverse).dropWhile wh).reverse = _
  rw [List.dropWhile_cons, show wh 9 = true by decide, if_pos rfl]
theorem dropWhile_append (l m : Bs) : (l ++ m).dropWhile wh = if l.dropWhile wh = [] then m.dropWhile wh else l.dropWhile wh ++ m := by
  induction l with
  | nil => simp
  | cons a t ih =>
    rw [List.cons_append, List.dropWhile_cons, List.dropWhile_cons]
    cases ha : wh a with
    | true => rw [if_pos rfl, if_pos rfl]; exact ih
    | false => simp
theorem tr_cons (l : Bs) : (tr (32 :: l)).dropWhile wh = (tr l).dropWhile wh := by
  unfold tr
  rw [List.reverse_cons, dropWhile_append]
  by_cases h : l.reverse.dropWhile wh = []
  · rw [if_pos h, h]; decide
  · rw [if_neg h, List.reverse_append]
    show (32 :: (l.reverse.dropWhile wh).reverse).dropWhile wh = _
    rw [List.dropWhile_cons, show wh 32 = true by decide, if_pos rfl]
theorem trim_around (l : Bs) : trimL ([32] ++ l ++ [9]) = trimL l := by
  rw [trimL_eq, trimL_eq, tr_snoc]
  exact tr_cons l

theorem split_neat (l : Bs) : ∀ p ∈ splitL l, p ≠ [] ∧ trimL p = p := by
  intro p hp
  unfold splitL parts at hp
  rw [List.mem_flatMap] at hp
  obtain ⟨x, -, hx⟩ := hp
  unfold addP at hx
  split at hx
  · simp at hx
  · rename_i hne
    rw [List.mem_singleton] at hx
    subst hx
    exact ⟨hne, trim_trim x⟩

theorem spl_app : ∀ (s cur t : Bs), hasQ s = false → spl 0 cur (s ++ 44 :: t) = spl 0 cur s ++ spl 0 [] t
  | [], cur, t, _ => by simp [spl]
  | c :: s, cur, t, h => by
    have hc : c ≠ 34 := fun e => by subst e; simp [hasQ] at h
    have hs : hasQ s = false := by
      unfold hasQ at *
      rw [List.contains_cons, Bool.or_eq_false_iff] at h
      exact h.2
    rw [List.cons_append]
    by_cases h44 : c = 44
    · subst h44
      rw [spl, if_pos rfl, spl, if_pos rfl, spl_app s [] t hs]; rfl
    · rw [spl, if_neg h44, if_neg hc, spl_app s _ t hs]
      rw [show spl 0 cur (c :: s) = spl 0 (cur ++ [c]) s by rw [spl, if_neg h44, if_neg hc]]
theorem split_app (s t : Bs) (h : hasQ s = false) : splitL (s ++ [44] ++ t) = splitL s ++ splitL t := by
  unfold splitL
  rw [List.append_assoc]
  show parts (spl 0 [] (s ++ 44 :: t)) = _
  rw [spl_app s [] t h]
  simp [parts]
theorem spl_len : ∀ (l : Bs) (m : Nat) (cur : Bs), (spl m cur l).length ≤ l.length + 1
  | [], m, cur => by cases m <;> simp [spl]
  | c :: t, 0, cur => by
    rw [spl]
    split
    · have := spl_len t 0 []; simp; omega
    · split
      · have := spl_len t 1 (cur ++ [c]); simp; omega
      · have := spl_len t 0 (cur ++ [c]); simp; omega
  | c :: t, 1, cur => by
    rw [spl]
    split
    · have := spl_len t 2 (cur ++ [c]); simp; omega
    · split
      · have := spl_len t 0 (cur ++ [c]); simp; omega
      · have := spl_len t 1 (cur ++ [c]); simp; omega
  | c :: t, m + 2, cur => by
    rw [spl]
    have := spl_len t 1 (cur ++ [c]); simp; omega
theorem parts_len (l : List Bs) : (parts l).length ≤ l.length := by
  induction l with
  | nil => simp [parts]
  | cons a t ih =>
    rw [parts_cons, List.length_append]
    have : (addP (trimL a)).length ≤ 1 := by unfold addP; split <;> simp
    simp; omega
theorem split_len (l : Bs) : (splitL l).length ≤ l.length + 1 := Nat.le_trans (parts_len _) (spl_len l 0 [])
theorem spl_piece : ∀ (l : Bs) (m : Nat) (cur : Bs), ∀ p ∈ spl m cur l, p.length ≤ cur.length + l.length
  | [], m, cur => by cases m <;> simp [spl]
  | c :: t, 0, cur => by
    rw [spl]
    split
    · intro p hp
      rcases List.mem_cons.1 hp with rfl | hp
      · simp
      · have := spl_piece t 0 [] p hp; simp at *; omega
    · split
      · intro p hp; have := spl_piece t 1 (cur ++ [c]) p hp; simp at *; omega
      · intro p hp; have := spl_piece t 0 (cur ++ [c]) p hp; simp at *; omega
  | c :: t, 1, cur => by
    rw [spl]
    split
    · intro p hp; have := spl_piece t 2 (cur ++ [c]) p hp; simp at *; omega
    · split
      · intro p hp; have := spl_piece t 0 (cur ++ [c]) p hp; simp at *; omega
      · intro p hp; have := spl_piece t 1 (cur ++ [c]) p hp; simp at *; omega
  | c :: t, m + 2, cur => by
    rw [spl]
    intro p hp; have := spl_piece t 1 (cur ++ [c]) p hp; simp at *; omega
theorem split_piece (l p : Bs) (h : p ∈ splitL l) : p.length ≤ l.length := by
  unfold splitL parts at h
  rw [List.mem_flatMap] at h
  obtain ⟨x, hx, hp⟩ := h
  have h1 := spl_piece l 0 [] x hx
  have h2 := trim_sublist x
  unfold addP at hp
  split at hp
  · simp at hp
  · rw [List.mem_singleton] at hp; subst hp; simp at h1; omega
end Tk
end Go.Proofs.YthooghgiokgdhaaDoor
namespace Go.Proofs.YthooghgiokgdhaaDoor
namespace Tk

/-- no comma, but in quotes -/
def Com (p : Bs) : Prop := 34 ∈ p ∨ 44 ∉ p
theorem com_snoc {cur : Bs} {c : UInt8} (h : Com cur) (hc : c ≠ 44) : Com (cur ++ [c]) := by
  unfold Com at *
  rcases h with h | h
  · exact .inl (by simp [h])
  · exact .inr (by simp [h, Ne.symm hc])
theorem spl_com : ∀ (l : Bs), (∀ cur, Com cur → ∀ p ∈ spl 0 cur l, Com p) ∧ (∀ cur, 34 ∈ cur → ∀ p ∈ spl 1 cur l, Com p) ∧ (∀ cur, 34 ∈ cur → ∀ p ∈ spl 2 cur l, Com p)
  | [] => by
    refine ⟨fun cur h p hp => ?_, fun cur h p hp => ?_, fun cur h p hp => ?_⟩ <;> simp only [spl, List.mem_singleton] at hp <;> subst hp
    · exact h
    · exact .inl h
    · exact .inl h
  | c :: t => by
    obtain ⟨i0, i1, i2⟩ := spl_com t
    refine ⟨fun cur h p hp => ?_, fun cur h p hp => ?_, fun cur h p hp => ?_⟩
    · rw [spl] at hp
      split at hp
      · rcases List.mem_cons.1 hp with rfl | hp
        · exact h
        · exact i0 [] (.inr (by simp)) p hp
      · rename_i h44
        split at hp
        · rename_i h34
          exact i1 _ (by simp [h34]) p hp
        · exact i0 _ (com_snoc h h44) p hp
    · rw [spl] at hp
      split at hp
      · exact i2 _ (by simp [h]) p hp
      · split at hp
        · exact i0 _ (.inl (by simp [h])) p hp
        · exact i1 _ (by simp [h]) p hp
    · rw [spl] at hp
      exact i1 _ (by simp [h]) p hp
theorem mem_dropWh (c : UInt8) (hc : wh c = false) : ∀ l : Bs, c ∈ l → c ∈ l.dropWhile wh
  | [], h => h
  | d :: t, h => by
    rw [List.dropWhile_cons]
    split
    · rename_i hd
      rcases List.mem_cons.1 h with rfl | h
      · rw [hc] at hd; cases hd
      · exact mem_dropWh c hc t h
    · exact h
theorem mem_trim (c : UInt8) (hc : wh c = false) (l : Bs) (h : c ∈ l) : c ∈ trimL l := by
  rw [trimL_eq]
  refine mem_dropWh c hc _ ?_
  unfold tr
  rw [List.mem_reverse]
  exact mem_dropWh c hc _ (by rw [List.mem_reverse]; exact h)
theorem trim_mem (c : UInt8) (l : Bs) (h : c ∈ trimL l) : c ∈ l := by
  rw [trimL_eq] at h
  have h2 := List.Sublist.mem h (List.dropWhile_sublist wh)
  unfold tr at h2
  rw [List.mem_reverse] at h2
  have h3 := List.Sublist.mem h2 (List.dropWhile_sublist wh)
  rw [List.mem_reverse] at h3
  exact h3
theorem split_com (l p : Bs) (hp : p ∈ splitL l) : Com p := by
  unfold splitL parts at hp
  rw [List.mem_flatMap] at hp
  obtain ⟨x, hx, hp⟩ := hp
  have h := (spl_com l).1 [] (.inr (by simp)) x hx
  unfold addP at hp
  split at hp
  · simp at hp
  · rw [List.mem_singleton] at hp
    subst hp
    rcases h with h | h
    · exact .inl (mem_trim 34 (by decide) x h)
    · exact .inr (fun h2 => h (trim_mem 44 x h2))

theorem lowB_le (c : UInt8) : ∀ d : UInt8, (d = 44 ∨ d = 34 ∨ d = 42) → (lowB c = d ↔ c = d) := by
  intro d hd
  have h : ∀ k : Fin 256, ∀ d : Fin 3, (lowB (UInt8.ofNat k.val) = ([44, 34, 42] : Bs).getD d.val 0 ↔ UInt8.ofNat k.val = ([44, 34, 42] : Bs).getD d.val 0) := by decide +kernel
  have e : UInt8.ofNat c.toNat = c := UInt8.ofNat_toNat
  have hlt : c.toNat < 256 := c.toNat_lt
  rcases hd with rfl | rfl | rfl
  · have := h ⟨c.toNat, hlt⟩ 0; rw [e] at this; exact this
  · have := h ⟨c.toNat, hlt⟩ 1; rw [e] at this; exact this
  · have := h ⟨c.toNat, hlt⟩ 2; rw [e] at this; exact this
theorem lowB_wh (c : UInt8) : wh (lowB c) = wh c := by
  have h : ∀ k : Fin 256, wh (lowB (UInt8.ofNat k.val)) = wh (UInt8.ofNat k.val) := by decide +kernel
  have := h ⟨c.toNat, c.toNat_lt⟩
  rwa [UInt8.ofNat_toNat] at this
theorem lowB_twice (c : UInt8) : lowB (lowB c) = lowB c := by
  have h : ∀ k : Fin 256, lowB (lowB (UInt8.ofNat k.val)) = lowB (UInt8.ofNat k.val) := by decide +kernel
  have := h ⟨c.toNat, c.toNat_lt⟩
  rwa [UInt8.ofNat_toNat] at this
theorem low_twiceV (l : Bs) : lowL (lowL l) = lowL l := by
  unfold lowL; rw [List.map_map]; exact List.map_congr_left fun c _ => lowB_twice c
theorem low_mem (l : Bs) (d : UInt8) (hd : d = 44 ∨ d = 34 ∨ d = 42) : d ∈ lowL l ↔ d ∈ l := by
  unfold lowL
  rw [List.mem_map]
  constructor
  · rintro ⟨c, hc, h⟩
    rw [(lowB_le c d hd).1 h] at hc; exact hc
  · intro h
    exact ⟨d, h, (lowB_le d d hd).2 rfl⟩
theorem low_star (l : Bs) : lowL l = [42] ↔ l = [42] := by
  constructor
  · intro h
    match l, h with
    | [c], h =>
      unfold lowL at h
      rw [List.map_cons, List.map_nil, List.cons.injEq] at h
      rw [(lowB_le c 42 (by simp)).1 h.1]
    | [], h => simp [lowL] at h
    | c :: d :: t, h => simp [lowL] at h
  · rintro rfl; decide
theorem low_neat (l : Bs) (h : Neat l) : Neat (lowL l) := by
  unfold Neat lowL at *
  refine ⟨fun c hc => ?_, fun c hc => ?_⟩
  · rw [List.head?_map, Option.map_eq_some_iff] at hc
    obtain ⟨d, hd, rfl⟩ := hc
    rw [lowB_wh]; exact h.1 d hd
  · rw [List.getLast?_map, Option.map_eq_some_iff] at hc
    obtain ⟨d, hd, rfl⟩ := hc
    rw [lowB_wh]; exact h.2 d hd

/-- the names of a list's parts; star aside -/
def nmsV (P : List Bs) : List Bs := if [42] ∈ P then [] else setL12 (P.map lowL)
/-- names written, comma and blank behind each -/
def wrtV (M : List Bs) : Bs := M.flatMap (· ++ [44, 32])
structure Good (m : Bs) : Prop where
  ne : m ≠ []
  neat : Neat m
  c44 : 44 ∉ m
  c34 : 34 ∉ m
theorem spl_plainV : ∀ (l cur : Bs), 44 ∉ l → 34 ∉ l → spl 0 cur l = [cur ++ l]
  | [], cur, _, _ => by simp [spl]
  | c :: t, cur, h, k => by
    rw [List.mem_cons, not_or] at h k
    rw [spl, if_neg (Ne.symm h.1), if_neg (Ne.symm k.1), spl_plainV t (cur ++ [c]) h.2 k.2]
    simp
theorem trim_blankV (l : Bs) : trimL (32 :: l) = trimL l := by rw [trimL_eq, trimL_eq]; exact tr_cons l
theorem wrt_parts : ∀ (M : List Bs) (cw : Bs), (cw = [] ∨ cw = [32]) → (∀ m ∈ M, Good m) → parts (spl 0 cw (wrtV M)) = M
  | [], cw, hc, _ => by
    show parts (spl 0 cw []) = []
    rw [show spl 0 cw [] = [cw] by simp [spl], parts_one]
    rcases hc with rfl | rfl
    · decide
    · decide
  | m :: t, cw, hc, h => by
    have hm := h m (by simp)
    have ih := wrt_parts t [32] (.inr rfl) (fun x hx => h x (by simp [hx]))
    have e : wrtV (m :: t) = m ++ 44 :: (32 :: wrtV t) := by unfold wrtV; rw [List.flatMap_cons]; simp
    have hq : hasQ m = false := by
      unfold hasQ
      cases hcn : List.contains m 34 with
      | false => rfl
      | true => exact absurd (List.contains_iff_mem.1 hcn) hm.c34
    rw [e, spl_app m cw _ hq, spl_plainV m cw hm.c44 hm.c34, List.singleton_append, parts_cons]
    have e3 : spl 0 [] (32 :: wrtV t) = spl 0 [32] (wrtV t) := by rw [spl, if_neg (by decide), if_neg (by decide), List.nil_append]
    rw [e3, ih]
    have e4 : trimL (cw ++ m) = m := by
      rcases hc with rfl | rfl
      · exact neat_trim m hm.neat
      · rw [List.singleton_append, trim_blankV]; exact neat_trim m hm.neat
    rw [e4]
    unfold addP
    rw [if_neg hm.ne]; rfl
theorem wrt_split (M : List Bs) (h : ∀ m ∈ M, Good m) : splitL (wrtV M) = M := wrt_parts M [] (.inl rfl) h
theorem wrt_app (A B : List Bs) : wrtV (A ++ B) = wrtV A ++ wrtV B := by unfold wrtV; rw [List.flatMap_append]
theorem wrt_mem (M : List Bs) (m : Bs) (hm : m ∈ M) (c : UInt8) (hc : c ∈ m) : c ∈ wrtV M := by
  unfold wrtV
  rw [List.mem_flatMap]
  exact ⟨m, hm, by simp [hc]⟩
/-- what is written of the names, twice, is read as the names -/
theorem back_names (P : List Bs) (hP : ∀ p ∈ P, p ≠ [] ∧ trimL p = p ∧ Com p) (hq : 34 ∉ wrtV (nmsV P).reverse) :
    nmsV (splitL (wrtV (nmsV P).reverse ++ wrtV (nmsV P).reverse)) = nmsV P := by
  have hg : ∀ m ∈ nmsV P, Good m ∧ lowL m = m ∧ m ≠ [42] := by
    intro m hm
    have h34 : 34 ∉ m := fun h => hq (wrt_mem _ m (by simpa using hm) 34 h)
    unfold nmsV at hm
    split at hm
    · simp at hm
    · rename_i hst
      rw [set_mem, List.mem_map] at hm
      obtain ⟨p, hp, rfl⟩ := hm
      obtain ⟨h1, h2, h3⟩ := hP p hp
      rw [low_mem p 34 (by simp)] at h34
      refine ⟨⟨by simp [lowL, h1], low_neat p (h2 ▸ trim_neat p), ?_, ?_⟩, low_twiceV p, fun e => hst ?_⟩
      · rw [low_mem p 44 (by simp)]
        exact h3.resolve_left h34
      · rw [low_mem p 34 (by simp)]; exact h34
      · rw [low_star] at e; exact e ▸ hp
  rw [← wrt_app, wrt_split _ (fun m hm => (hg m (by simpa using hm)).1)]
  have hst2 : [42] ∉ (nmsV P).reverse ++ (nmsV P).reverse := fun h => (hg [42] (by simpa using h)).2.2 rfl
  have hlt : (nmsV P).Pairwise (· < ·) := by
    unfold nmsV; split
    · simp
    · exact set_lt _
  show (if [42] ∈ (nmsV P).reverse ++ (nmsV P).reverse then [] else setL12 (((nmsV P).reverse ++ (nmsV P).reverse).map lowL)) = nmsV P
  rw [if_neg hst2]
  refine set_unique _ _ (set_lt _) hlt (fun x => ?_)
  rw [set_mem, List.mem_map]
  constructor
  · rintro ⟨m, hm, rfl⟩
    have hm2 : m ∈ nmsV P := by simpa using hm
    rw [(hg m hm2).2.1]; exact hm2
  · intro hx
    exact ⟨x, by simpa using hx, (hg x hx).2.1⟩
theorem wrt_len : ∀ (M : List Bs) (k : Nat), (∀ m ∈ M, m.length ≤ k) → (wrtV M).length ≤ M.length * (k + 2)
  | [], k, _ => by simp [wrtV]
  | m :: t, k, h => by
    have ih := wrt_len t k (fun x hx => h x (by simp [hx]))
    have h1 := h m (by simp)
    unfold wrtV at *
    rw [List.flatMap_cons, List.length_append, List.length_cons, Nat.succ_mul, List.length_append]
    simp only [List.length_cons, List.length_nil]
    omega
end Tk
end Go.Proofs.YthooghgiokgdhaaDoor

namespace Go.Proofs.YthooghgiokgdhaaDoor
open Go.RowKit
namespace Tk

def StrPost (text : Bs) (w : World) (r : Ending) (w' : World) : Prop := r = .returned (.string (mkS text)) ∧ Below w.heap.size w w'

set_option maxHeartbeats 400000 in
theorem clone_any (s : ByteArray) (w : World) (h : s.size ≤ 1099511627776) :
    Calls Tryd.prog 45 #[.string s] w (StrPost (bs s) w) := by
  have H := Lib.hid (Tryd.stringslite_Clone s w (by omega))
  go_enter Tryd.func45, Tryd.ntmps45
  go_wp2_with fail
  refine H.out.mono ?_
  rintro e w' ⟨rfl, hb⟩
  have HB := Lib.hid hb
  clear hb
  go_wp2_with fail
  go_ret
  exact ⟨by rw [mkS_bs]; rfl, HB.out⟩
end Tk
end Go.Proofs.YthooghgiokgdhaaDoor
namespace Go.Proofs.YthooghgiokgdhaaDoor
open Go.RowKit
namespace Tk

/-- the kind of each byte, by ranges -/
def kindOf (c : Nat) : Int :=
  if c = 9 then 1 else if c < 32 then 0 else if 128 ≤ c then 1 else if c = 127 then 0
  else if [32, 34, 40, 41, 44, 47, 58, 59, 60, 61, 62, 63, 64, 91, 92, 93, 123, 125].contains c then 1 else 2
def kindL : List Int := (List.range 256).map kindOf

/-- 256 kinds, none said -/
def zk : Array Value := Array.replicate 256 (.int .u8 0)
end Tk
end Go.Proofs.YthooghgiokgdhaaDoor
namespace Go.Proofs.YthooghgiokgdhaaDoor
open Go.RowKit
namespace Tk

def allL (k : Int) (l : Bs) : Bool := l.all fun c => decide (k ≤ kindOf c.toNat)

theorem allL_cons (k : Int) (c : UInt8) (t : Bs) : allL k (c :: t) = (decide (k ≤ kindOf c.toNat) && allL k t) := rfl
theorem allL_append (k : Int) (a b : Bs) : allL k (a ++ b) = (allL k a && allL k b) := by unfold allL; rw [List.all_append]
theorem k92 : decide (1 ≤ kindOf (92 : UInt8).toNat) = true := by decide
theorem k34 : decide (1 ≤ kindOf (34 : UInt8).toNat) = true := by decide

theorem kindL_size : (kindL.map (Value.int .u8)).toArray.size = 256 := by kernel_rfl
theorem kindL_one : (kindL.map (Value.int .u8)).toArray.all (·.oneCell') = true := by kernel_rfl
theorem kindL_at (c : UInt8) : (kindL.map (Value.int .u8)).toArray[c.toNat]? = some (.int .u8 (kindOf c.toNat)) := by
  have h : c.toNat < 256 := c.toNat_lt
  simp [kindL, h]

end Tk
end Go.Proofs.YthooghgiokgdhaaDoor
namespace Go.Proofs.YthooghgiokgdhaaDoor
namespace Tk

/-- is it a field that may be: a name that is a token, a value of value characters without white space at its ends -/
def okF (n v : Bs) : Bool := !n.isEmpty && allL 2 n && (allL 1 v && decide (trimL v = v))

/-- what stands before the first c, what stands behind it, and whether there is one -/
def cutL (c : UInt8) (l : Bs) : Bs × Bs × Bool := if l.contains c then (l.takeWhile (· != c), (l.dropWhile (· != c)).drop 1, true) else (l, [], false)

theorem cut_index (c : UInt8) : ∀ l : Bs, (Lib.indexByte l c = -1 ∧ l.contains c = false) ∨ ∃ i : Nat, Lib.indexByte l c = i ∧ i < l.length ∧ l.contains c = true ∧ l.take i = l.takeWhile (· != c) ∧ l.drop (i + 1) = (l.dropWhile (· != c)).drop 1
  | [] => .inl ⟨rfl, rfl⟩
  | b :: t => by
    unfold Lib.indexByte
    by_cases hb : b = c
    · subst hb
      exact .inr ⟨0, by simp, by simp, by simp, by simp, by simp⟩
    · have h1 : (b == c) = false := beq_eq_false_iff_ne.2 hb
      have h2 : (b != c) = true := by simp [hb]
      have h3 : (c == b) = false := beq_eq_false_iff_ne.2 (fun e => hb e.symm)
      rcases cut_index c t with ⟨h, hc⟩ | ⟨i, h, hi, hc, ht, hd⟩
      · left
        rw [h1, h]
        exact ⟨by simp, by rw [List.contains_cons, h3, hc]; rfl⟩
      · right
        refine ⟨i + 1, ?_, by simp; omega, by rw [List.contains_cons, hc]; simp, ?_, ?_⟩
        · rw [h1, h]
          have : ((i : Int) == -1) = false := by rw [beq_eq_false_iff_ne]; omega
          rw [this]; simp
        · rw [List.take_succ_cons, List.takeWhile_cons, h2, if_pos rfl, ht]
        · rw [List.drop_succ_cons, List.dropWhile_cons, h2, if_pos rfl, hd]

def lineOk (l : Bs) : Bool := (cutL 58 l).2.2 && okF (cutL 58 l).1 (trimL (cutL 58 l).2.1)
def lineN (l : Bs) : Bs := (cutL 58 l).1
def lineV (l : Bs) : Bs := trimL (cutL 58 l).2.1

def bytesF (f : Bs × Bs) : Bs := f.1 ++ [58, 32] ++ f.2 ++ [13, 10]
def okFs (l : List (Bs × Bs)) : Bool := l.all fun f => okF f.1 f.2

theorem trim_blank (l : Bs) : trimL (32 :: l) = trimL l := by rw [trimL_eq, trimL_eq]; exact tr_cons l
theorem allL_mem (k : Int) (l : Bs) (h : allL k l = true) (c : UInt8) (hc : c ∈ l) : k ≤ kindOf c.toNat := by
  unfold allL at h
  rw [List.all_eq_true] at h
  simpa using h c hc
theorem no_colon (n : Bs) (h : allL 2 n = true) : ∀ c ∈ n, (c != 58) = true := by
  intro c hc
  have := allL_mem 2 n h c hc
  by_cases e : c = 58
  · subst e; exact absurd this (by decide)
  · simp [e]
theorem cut_colon (n r : Bs) (h : allL 2 n = true) : cutL 58 (n ++ 58 :: r) = (n, r, true) := by
  have hn := no_colon n h
  unfold cutL
  rw [if_pos (by simp)]
  have h1 : (n ++ 58 :: r).takeWhile (· != 58) = n := by
    rw [List.takeWhile_append_of_pos hn, List.takeWhile_cons]; simp
  have h2 : (n ++ 58 :: r).dropWhile (· != 58) = 58 :: r := by
    rw [List.dropWhile_append_of_pos hn, List.dropWhile_cons]; simp
  rw [h1, h2]; rfl
theorem okF_parts (n v : Bs) (h : okF n v = true) : n ≠ [] ∧ allL 2 n = true ∧ allL 1 v = true ∧ trimL v = v := by
  unfold okF at h
  simp only [Bool.and_eq_true, decide_eq_true_eq, Bool.not_eq_true', List.isEmpty_eq_false_iff] at h
  exact ⟨h.1.1, h.1.2, h.2.1, h.2.2⟩
/-- a line of a field is read as the field -/
theorem line_bytes (n v : Bs) (h : okF n v = true) : lineOk (n ++ [58, 32] ++ v) = true ∧ lineN (n ++ [58, 32] ++ v) = n ∧ lineV (n ++ [58, 32] ++ v) = v := by
  obtain ⟨h1, h2, h3, h4⟩ := okF_parts n v h
  have e : n ++ [58, 32] ++ v = n ++ 58 :: (32 :: v) := by simp
  unfold lineOk lineN lineV
  rw [e, cut_colon n _ h2]
  simp only [trim_blank, h4, h, Bool.and_true, and_self]
theorem line_ok (l : Bs) (h : lineOk l = true) : okF (lineN l) (lineV l) = true := by
  unfold lineOk at h
  rw [Bool.and_eq_true] at h
  exact h.2
end Tk
end Go.Proofs.YthooghgiokgdhaaDoor
namespace Go.Proofs.YthooghgiokgdhaaDoor
open Go.RowKit
namespace Tk

def CutPost (c : UInt8) (l : Bs) (w : World) (e : Ending) (w' : World) : Prop := e = .returned (.tuple #[.string (mkS (cutL c l).1), .string (mkS (cutL c l).2.1), .bool (cutL c l).2.2]) ∧ ∃ n, w' = w.drewN n

end Tk
end Go.Proofs.YthooghgiokgdhaaDoor
namespace Go.Proofs.YthooghgiokgdhaaDoor
open Go.RowKit
namespace Tk

end Tk
end Go.Proofs.YthooghgiokgdhaaDoor
namespace Go.Proofs.YthooghgiokgdhaaDoor
open Go.RowKit
namespace Tk

end Tk
end Go.Proofs.YthooghgiokgdhaaDoor
namespace Go.Proofs.YthooghgiokgdhaaDoor
open Go.RowKit
namespace Tk

theorem asciiZero : (Tryd.prog.info? 119).map (fun i => (i.zero, i.size)) = some (some (.agg (Array.replicate 256 (.bool false))), 256) := by kernel_rfl

set_option maxHeartbeats 400000 in
theorem trim_any (s : ByteArray) (w : World) (h : s.size ≤ 1099511627776) :
    Calls Tryd.prog 78 #[.string s] w (StrPost (trimL (bs s)) w) := by
  have h1 := Any.strings_Trim_laid Tryd.lays160 asciiZero s ⟨#[32, 9]⟩ w (by omega) (by decide) (ascii_of_all (by decide))
  have H := Lib.hid (show Calls Tryd.prog 91 #[.string s, .string ⟨#[32, 9]⟩] w fun e w' => e = .returned (.string (mkS (trimL (bs s)))) ∧ Below w.heap.size w w' from h1)
  have hl := trim_sublist (bs s)
  rw [length_bs] at hl
  clear h1
  go_enter Tryd.func78, Tryd.ntmps78
  go_wp2_with fail
  refine H.out.mono ?_
  rintro e w' ⟨rfl, hb⟩
  have HB := Lib.hid hb
  clear hb
  go_wp2_with fail
  refine (clone_any (mkS (trimL (bs s))) _ (by rw [size_mkS]; omega)).mono ?_
  rintro e w2 ⟨rfl, hb⟩
  have HB2 := Lib.hid hb
  clear hb
  go_wp2_with fail
  go_ret
  exact ⟨rfl, HB.out.trans (HB2.out.mono HB.out.size)⟩
end Tk
end Go.Proofs.YthooghgiokgdhaaDoor
namespace Go.Proofs.YthooghgiokgdhaaDoor
open Go.RowKit
namespace Tk

def okE (n v : Bs) : Int := if okF n v then 0 else 4
theorem okE_ok (n v : Bs) (h : okF n v = true) : okE n v = 0 := by unfold okE; rw [h]; rfl
theorem okE_no (n v : Bs) (h : okF n v = false) : okE n v = 4 := by unfold okE; rw [h]; rfl
theorem beq_bs (a : Bs) (s : ByteArray) : ((mkS a).toList == s.toList) = decide (a = bs s) := by
  rw [toList_bs, toList_bs, bs_mkS]
  by_cases h : a = bs s <;> simp [h]

/-- what a call keeps: all below B, one cell, and that the cell's block is there -/
theorem keep_cell {P : Program} {f : FuncId} {args : Array Value} {W w0 : World} {r : Ending} {B : Nat} (h : Calls P f args W fun e w' => e = r ∧ Below W.heap.size W w') (p : Addr) (u : Value) (hB : Below B w0 W) (hs : B ≤ W.heap.size) (hc : W.cell? p = some u) (hp : p.block < W.heap.size) :
    Calls P f args W fun e w' => e = r ∧ Below B w0 w' ∧ B ≤ w'.heap.size ∧ w'.cell? p = some u ∧ p.block < w'.heap.size :=
  h.mono fun _ _ h => ⟨h.1, hB.trans (h.2.mono hs), Nat.le_trans hs h.2.size, (h.2.cell hp).trans hc, Nat.lt_of_lt_of_le hp h.2.size⟩

theorem cell_new (w : World) (a b : Value) (T : TypeId) : (w.alloc (.cells #[a, b] T)).cell? ⟨w.heap.size, 0, none⟩ = some a ∧ (w.alloc (.cells #[a, b] T)).cell? ⟨w.heap.size, 1, none⟩ = some b := by
  constructor <;> (rw [Lib.cell_of_heap (heap_alloc_last w _)]; rfl)

end Tk
end Go.Proofs.YthooghgiokgdhaaDoor
namespace Go.Proofs.YthooghgiokgdhaaDoor
open Go.RowKit
namespace Tk

def lnN (l : Bs) : Bs := if lineOk l then lineN l else []
def lnV (l : Bs) : Bs := if lineOk l then lineV l else []
def lnE (l : Bs) : Int := if lineOk l then 0 else 4
def LinePost (l : Bs) (w : World) (e : Ending) (w' : World) : Prop := e = .returned (.tuple #[.agg #[.string (mkS (lnN l)), .string (mkS (lnV l))], .int .i64 (lnE l)]) ∧ Below w.heap.size w w'
theorem ln_ok (l : Bs) (h : lineOk l = true) : lnN l = lineN l ∧ lnV l = lineV l ∧ lnE l = 0 := by unfold lnN lnV lnE; rw [h]; exact ⟨rfl, rfl, rfl⟩
theorem ln_no (l : Bs) (h : lineOk l = false) : lnN l = [] ∧ lnV l = [] ∧ lnE l = 4 := by unfold lnN lnV lnE; rw [h]; exact ⟨rfl, rfl, rfl⟩

theorem cut_len1 (c : UInt8) (l : Bs) : (cutL c l).1.length ≤ l.length := by
  unfold cutL
  split
  · exact (List.takeWhile_sublist (· != c) (l := l)).length_le
  · exact Nat.le_refl _
theorem cut_len2 (c : UInt8) (l : Bs) : (cutL c l).2.1.length ≤ l.length := by
  unfold cutL
  split
  · refine Nat.le_trans (by simp) ((List.dropWhile_sublist (· != c) (l := l)).length_le)
  · simp

/-- a block of two cells of the call's own, and what becomes of it -/
def Two (w : World) (g : Nat) (T : TypeId) (a b : Value) : Prop := w.heap[g]? = some (.cells #[a, b] T (0, 0))
theorem Two.new (w : World) (T : TypeId) (a b : Value) : Two (w.alloc (.cells #[a, b] T)) w.heap.size T a b := heap_alloc_last w _
theorem Two.later {w w' : World} {g : Nat} {T : TypeId} {a b : Value} (h : Two w g T a b) (hb : Below w.heap.size w w') : Two w' g T a b := by
  unfold Two at *
  have hlt : g < w.heap.size := (Array.getElem?_eq_some_iff.1 h).1
  rw [hb.block g hlt]; exact h
theorem Two.draws {w : World} {g : Nat} {T : TypeId} {a b : Value} (h : Two w g T a b) (n : Nat) : Two (w.drewN n) g T a b := h
theorem Two.lt {w : World} {g : Nat} {T : TypeId} {a b : Value} (h : Two w g T a b) : g < w.heap.size := (Array.getElem?_eq_some_iff.1 h).1
theorem Two.c0 {w : World} {g : Nat} {T : TypeId} {a b : Value} (h : Two w g T a b) : w.cell? ⟨g, 0, none⟩ = some a := by rw [Lib.cell_of_heap h]; rfl
theorem Two.c1 {w : World} {g : Nat} {T : TypeId} {a b : Value} (h : Two w g T a b) : w.cell? ⟨g, 1, none⟩ = some b := by rw [Lib.cell_of_heap h]; rfl
theorem Two.f0 {w : World} {g : Nat} {T : TypeId} {a b : Value} (h : Two w g T a b) : w.frozen? ⟨g, 0, none⟩ = false := Lib.frozen_of_heap h 0
theorem Two.f1 {w : World} {g : Nat} {T : TypeId} {a b : Value} (h : Two w g T a b) : w.frozen? ⟨g, 1, none⟩ = false := Lib.frozen_of_heap h 1

theorem Two.set {w : World} {g : Nat} {T : TypeId} {a b : Value} (h : Two w g T a b) (a' b' : Value) (o : Obj) :
    (((w.setCell ⟨g, 0, none⟩ a').setCell ⟨g, 1, none⟩ b').alloc o).cell? ⟨g, 0, none⟩ = some a' ∧ (((w.setCell ⟨g, 0, none⟩ a').setCell ⟨g, 1, none⟩ b').alloc o).cell? ⟨g, 1, none⟩ = some b' := by
  have hlt : g < ((w.setCell ⟨g, 0, none⟩ a').setCell ⟨g, 1, none⟩ b').heap.size := by simpa using h.lt
  have h1 : (w.setCell ⟨g, 0, none⟩ a').cell? ⟨g, 1, none⟩ = some b := by
    rw [World.cell?_setCell_other (w := w) (a := ⟨g, 0, none⟩) (b := ⟨g, 1, none⟩) (h := by intro e; injection e with _ e2; cases e2)]; exact h.c1
  constructor
  · rw [World.cell?_alloc_lt _ _ _ hlt, World.cell?_setCell_other (w := w.setCell ⟨g, 0, none⟩ a') (a := ⟨g, 1, none⟩) (b := ⟨g, 0, none⟩) (h := by intro e; injection e with _ e2; cases e2)]
    exact World.cell?_setCell_same _ _ _ h.c0
  · rw [World.cell?_alloc_lt _ _ _ hlt]
    exact World.cell?_setCell_same _ _ _ h1
theorem Two.put {w : World} {g : Nat} {T : TypeId} {a b : Value} (h : Two w g T a b) (a' b' : Value) :
    ((w.setCell ⟨g, 0, none⟩ a').setCell ⟨g, 1, none⟩ b').cell? ⟨g, 0, none⟩ = some a' ∧ ((w.setCell ⟨g, 0, none⟩ a').setCell ⟨g, 1, none⟩ b').cell? ⟨g, 1, none⟩ = some b' := by
  have h1 : (w.setCell ⟨g, 0, none⟩ a').cell? ⟨g, 1, none⟩ = some b := by
    rw [World.cell?_setCell_other (w := w) (a := ⟨g, 0, none⟩) (b := ⟨g, 1, none⟩) (h := by intro e; injection e with _ e2; cases e2)]; exact h.c1
  constructor
  · rw [World.cell?_setCell_other (w := w.setCell ⟨g, 0, none⟩ a') (a := ⟨g, 1, none⟩) (b := ⟨g, 0, none⟩) (h := by intro e; injection e with _ e2; cases e2)]
    exact World.cell?_setCell_same _ _ _ h.c0
  · exact World.cell?_setCell_same _ _ _ h1
theorem Two.below {w0 w : World} {B g : Nat} {T : TypeId} {a b : Value} (hb : Below B w0 w) (h : Two w g T a b) (hg : B ≤ g) (a' b' : Value) (o : Obj) : Below B w0 (((w.setCell ⟨g, 0, none⟩ a').setCell ⟨g, 1, none⟩ b').alloc o) :=
  ((hb.setCell (p := ⟨g, 0, none⟩) hg _).setCell (p := ⟨g, 1, none⟩) hg _).alloc (by have := h.lt; simp; omega) _

end Tk
end Go.Proofs.YthooghgiokgdhaaDoor
namespace Go.Proofs.YthooghgiokgdhaaDoor
open Go.RowKit
namespace Tk

theorem bldInfo : (Tryd.prog.info? 51).map (·.size) = some 2 := by kernel_rfl
theorem bldLies : liesAt Tryd.prog Tryd.prog.depth 51 (2 / Tryd.prog.cellsOf 51) 0 51 1 = true := by kernel_rfl

abbrev IsB (B b : Nat) (l : Bs) (w : World) : Prop := Lib.IsBuilder 51 5 B b (Lib.byteCells l) w

set_option maxHeartbeats 1000000 in
set_option maxRecDepth 100000 in
theorem check_used (b : Nat) (w : World) (h0 : w.cell? ⟨b, 0, none⟩ = some (.pointer (some ⟨b, 0, none⟩))) :
    Calls Tryd.prog 51 #[.pointer (some ⟨b, 0, none⟩)] w fun e w' => e = .returned (.tuple #[]) ∧ w' = w := by
  obtain ⟨j, hj, _⟩ := Option.map_eq_some_iff.1 bldInfo
  go_enter Tryd.func51, Tryd.ntmps51
  go_wp2_with fail
  rw [Lib.run_neq_ptr_same w _ Tryd.underlying49 hj]
  go_wp2_with fail
  go_end0
  exact ⟨rfl, rfl⟩

set_option maxHeartbeats 1000000 in
set_option maxRecDepth 100000 in
theorem check_fresh (b : Nat) (w : World) (h0 : w.cell? ⟨b, 0, none⟩ = some (.pointer none)) (hsh : w.shape? b = some (51, 2)) (hfz : w.frozen? ⟨b, 0, none⟩ = false) :
    Calls Tryd.prog 51 #[.pointer (some ⟨b, 0, none⟩)] w fun e w' => e = .returned (.tuple #[]) ∧ w' = w.setCell ⟨b, 0, none⟩ (.pointer (some ⟨b, 0, none⟩)) := by
  obtain ⟨j, hj, hjs⟩ := Option.map_eq_some_iff.1 bldInfo
  go_enter Tryd.func51, Tryd.ntmps51
  go_wp2_with fail
  rw [Lib.run_to_unsafe w ⟨b, 0, none⟩ Tryd.underlying49 Tryd.underlying91 hj (by rw [hjs]; decide) hsh (Nat.zero_lt_succ 1)]
  simp only [Result.andThen]
  rw [Oper.upon_value]
  go_wp2_with fail
  rw [run_callFunc_extern Tryd.func75 (by kernel_rfl) (by kernel_rfl) (by kernel_rfl) (e := Extern.AbiNoEscape.same) (by kernel_rfl)]
  rw [Lib.run_noEscape]
  simp only [Result.andThen]
  rw [Oper.upon_value]
  go_wp2_with fail
  rw [Lib.run_from_unsafe w ⟨b, 0, none⟩ Tryd.underlying91 Tryd.underlying49 hj hsh bldLies]
  simp only [Result.andThen]
  rw [Oper.upon_value]
  go_wp2_with fail
  go_end0
  exact ⟨rfl, rfl⟩

theorem check_any (B b : Nat) (l : Bs) (w : World) (h : IsB B b l w) :
    Calls Tryd.prog 51 #[.pointer (some ⟨b, 0, none⟩)] w fun e w' => e = .returned (.tuple #[]) ∧ (Lib.BuilderAt 51 5 B b (.pointer (some ⟨b, 0, none⟩)) (Lib.byteCells l) w' ∧ Below B w w') := by
  rcases h with h | h
  · refine (check_fresh b w h.cell0 h.shape h.frozen0).mono ?_
    rintro e w' ⟨rfl, rfl⟩
    exact ⟨rfl, h.used _, (Below.refl B w).setCell (p := ⟨b, 0, none⟩) h.1 _⟩
  · refine (check_used b w h.cell0).mono ?_
    rintro e w' ⟨rfl, rfl⟩
    exact ⟨rfl, h, Below.refl B _⟩

theorem byteInf : (Tryd.prog.info? 5).map (fun i => (i.zero, i.size, i.bytes)) = some (some (.int .u8 0), 1, 1) := by kernel_rfl

end Tk
end Go.Proofs.YthooghgiokgdhaaDoor
namespace Go.Proofs.YthooghgiokgdhaaDoor
open Go.RowKit
namespace Tk

theorem cells_str (l : Bs) (s : ByteArray) : Lib.byteCells (l ++ bs s) = Lib.byteCells l ++ Lib.strCells s := by
  simp [Lib.byteCells, Lib.strCells, bs]

/-- blocks other than b that hold no bytes stay -/
def Others (b : Nat) (w w' : World) : Prop := ∀ (k : Nat) (cs : Array Value) (T : TypeId) (fr : Nat × Nat), w.heap[k]? = some (.cells cs T fr) → T ≠ 5 → k ≠ b → w'.heap[k]? = some (.cells cs T fr)

theorem check_oth (B b : Nat) (l : Bs) (w : World) (h : IsB B b l w) :
    Calls Tryd.prog 51 #[.pointer (some ⟨b, 0, none⟩)] w fun e w' => e = .returned (.tuple #[]) ∧ Lib.BuilderAt 51 5 B b (.pointer (some ⟨b, 0, none⟩)) (Lib.byteCells l) w' ∧ Below B w w' ∧ ∀ k, k ≠ b → w'.heap[k]? = w.heap[k]? := by
  rcases h with h | h
  · refine (check_fresh b w h.cell0 h.shape h.frozen0).mono ?_
    rintro e w' ⟨rfl, rfl⟩
    exact ⟨rfl, h.used _, (Below.refl B w).setCell (p := ⟨b, 0, none⟩) h.1 _, fun k hk => Below.heap_setCell _ _ _ _ hk⟩
  · refine (check_used b w h.cell0).mono ?_
    rintro e w' ⟨rfl, rfl⟩
    exact ⟨rfl, h, Below.refl B _, fun _ _ => rfl⟩

set_option maxHeartbeats 2000000 in
set_option maxRecDepth 100000 in
theorem writeString (B b : Nat) (l : Bs) (s : ByteArray) (w : World) (h : IsB B b l w) (hlen : l.length + s.size ≤ 1099511627776) (hBw : B ≤ w.heap.size) :
    Calls Tryd.prog 32 #[.pointer (some ⟨b, 0, none⟩), .string s] w fun e w' => e = .returned (.tuple #[.int .i64 s.size, .nilIface]) ∧ IsB B b (l ++ bs s) w' ∧ Below B w w' ∧ Others b w w' := by
  obtain ⟨i0, hi, hz0, hz1, hz2⟩ := info_parts byteInf
  have hl : (Lib.byteCells l).length = l.length := by simp [Lib.byteCells]
  go_enter Tryd.func32, Tryd.ntmps32
  go_wp2_with fail
  refine (check_oth B b l _ h).mono ?_
  rintro e w1 ⟨rfl, h1, hb1, hk1⟩
  have HK1 := Lib.hid hk1
  clear hk1
  obtain ⟨hB, v, hbk, hown, hne⟩ := h1
  have c0 : w1.cell? ⟨b, 0, none⟩ = some (.pointer (some ⟨b, 0, none⟩)) := by rw [Lib.cell_of_heap hbk]; rfl
  have c1 : w1.cell? ⟨b, 1, none⟩ = some v := by rw [Lib.cell_of_heap hbk]; rfl
  go_wp2_with (at_builtin; refine Lib.wpList_append_own_string _ rfl _ _ 42 9 rfl B 5 i0 Tryd.underlying42 Tryd.underlying9 hi hz0 hz1 hz2 _ _ _ rfl hown s rfl ?c3 ?c4 ?c5 ?_)
  case c3 => unfold maxLen; omega
  case c4 => omega
  case c5 => have := hb1.size; omega
  intro v' w2 hown' hgrow _
  have hlt : b < w1.heap.size := by
    rcases Nat.lt_or_ge b w1.heap.size with h' | h'
    · exact h'
    · simp [Array.getElem?_eq_none h'] at hbk
  have hb2 : w2.heap[b]? = some (.cells #[.pointer (some ⟨b, 0, none⟩), v] 51 (0, 0)) := by
    rw [hgrow.block b hlt (fun e => hne e.symm)]
    exact hbk
  have d0 : w2.cell? ⟨b, 0, none⟩ = some (.pointer (some ⟨b, 0, none⟩)) := by rw [Lib.cell_of_heap hb2]; rfl
  have d1 : w2.cell? ⟨b, 1, none⟩ = some v := by rw [Lib.cell_of_heap hb2]; rfl
  have f1 : w2.frozen? ⟨b, 1, none⟩ = false := Lib.frozen_of_heap hb2 1
  obtain ⟨ao, n', cap, rfl⟩ : ∃ ao n' cap, v' = .slice ao n' cap := by
    rcases hown'.2 with ⟨hv, _⟩ | ⟨g, cap, cur, hv, _⟩
    · exact ⟨_, _, _, hv⟩
    · exact ⟨_, _, _, hv⟩
  go_wp2_with fail
  go_ret2
  refine ⟨rfl, .inr ?_, ?_, ?_⟩
  · rw [cells_str]
    exact Lib.BuilderAt.put (T := 51) (e := 5) hB hb2 (bs' := Lib.byteCells l ++ Lib.strCells s) (by simpa [hl, Lib.strCells_length] using hown') (by decide)
  · exact (hb1.grown hgrow (by have := hb1.size; omega) (fun k hk => (hown.lt k hk).1)).setCell (p := ⟨b, 1, none⟩) hB _
  · intro k cs T fr hk hT hne'
    have h1 : w1.heap[k]? = some (.cells cs T fr) := by rw [HK1.out k hne']; exact hk
    have hlt1 : k < w1.heap.size := (Array.getElem?_eq_some_iff.1 h1).1
    rw [Below.heap_setCell _ _ _ _ hne', hgrow.block k hlt1 (fun e => Lib.ownBlock_ne hown h1 hT e.symm)]
    exact h1
end Tk
end Go.Proofs.YthooghgiokgdhaaDoor
namespace Go.Proofs.YthooghgiokgdhaaDoor
open Go.RowKit
namespace Tk

/-- a slice that holds these fields -/
def IsFlds (w : World) (v : Value) (l : List (Bs × Bs)) : Prop :=
  ∃ (a : Option Addr) (c : Nat), v = .slice a l.length c ∧ l.length ≤ c ∧ ∀ j f, l[j]? = some f → ∃ b o, a = some ⟨b, o, none⟩ ∧ w.cell? ⟨b, o + j * 2, none⟩ = some (.string (mkS f.1)) ∧ w.cell? ⟨b, o + j * 2 + 1, none⟩ = some (.string (mkS f.2))
theorem cell_lt {w : World} {p : Addr} {v : Value} (h : w.cell? p = some v) : p.block < w.heap.size := by
  refine Nat.lt_of_not_le fun hle => ?_
  simp only [World.cell?, Array.getElem?_eq_none hle] at h
  cases h
theorem isFlds_below {w w' : World} {v : Value} {l : List (Bs × Bs)} (h : IsFlds w v l) (hb : Below w.heap.size w w') : IsFlds w' v l := by
  obtain ⟨a, c, rfl, hl, hc⟩ := h
  refine ⟨a, c, rfl, hl, fun j t hj => ?_⟩
  obtain ⟨b, o, rfl, h1, h2⟩ := hc j t hj
  exact ⟨b, o, rfl, (hb.cell (p := ⟨b, o + j * 2, none⟩) (cell_lt (p := ⟨b, o + j * 2, none⟩) h1)).trans h1, (hb.cell (p := ⟨b, o + j * 2 + 1, none⟩) (cell_lt (p := ⟨b, o + j * 2 + 1, none⟩) h2)).trans h2⟩

def sumF : List (Bs × Bs) → Nat
  | [] => 0
  | f :: t => f.1.length + f.2.length + 4 + sumF t
def linesF (l : List (Bs × Bs)) : Bs := l.flatMap bytesF
theorem bytesF_len (f : Bs × Bs) : (bytesF f).length = f.1.length + f.2.length + 4 := by
  unfold bytesF; simp only [List.length_append, List.length_cons, List.length_nil]; omega
theorem lines_len : ∀ l, (linesF l).length = sumF l
  | [] => rfl
  | f :: t => by
    have := lines_len t
    unfold linesF at *
    rw [List.flatMap_cons, List.length_append, this, bytesF_len, sumF]
theorem sumF_mem : ∀ (l : List (Bs × Bs)) (f : Bs × Bs), f ∈ l → f.1.length + f.2.length + 4 ≤ sumF l
  | g :: t, f, h => by
    unfold sumF
    rcases List.mem_cons.1 h with rfl | h
    · omega
    · have := sumF_mem t f h; omega
theorem sumF_take : ∀ (l : List (Bs × Bs)) (i : Nat), sumF (l.take i) ≤ sumF l
  | [], i => by simp
  | f :: t, 0 => by simp [sumF]
  | f :: t, i + 1 => by have := sumF_take t i; simp only [List.take_succ_cons, sumF]; omega

def byN (l : List (Bs × Bs)) : Bs := if okFs l then linesF l else []
def byE (l : List (Bs × Bs)) : Int := if okFs l then 0 else 4
def BytesPost (l : List (Bs × Bs)) (w : World) (e : Ending) (w' : World) : Prop := e = .returned (.tuple #[.string (mkS (byN l)), .int .i64 (byE l)]) ∧ Below w.heap.size w w'

theorem okFs_take_no (l : List (Bs × Bs)) (f : Bs × Bs) (h : f ∈ l) (hk : okF f.1 f.2 = false) : okFs l = false := by
  cases hh : okFs l
  · rfl
  · unfold okFs at hh
    rw [List.all_eq_true] at hh
    rw [hh f h] at hk; cases hk
theorem okFs_snoc (l : List (Bs × Bs)) (f : Bs × Bs) (h : okFs l = true) (hk : okF f.1 f.2 = true) : okFs (l ++ [f]) = true := by
  unfold okFs at *
  rw [List.all_append, h]; simp [hk]
theorem lines_snoc (l : List (Bs × Bs)) (f : Bs × Bs) : linesF (l ++ [f]) = linesF l ++ f.1 ++ [58, 32] ++ f.2 ++ [13, 10] := by
  unfold linesF bytesF; simp

theorem own_keep {w w' : World} {B : Nat} {v : Value} {n : Nat} {xs : List Value} {e : TypeId} (h : w.ownsRow B e 1 v n xs) (hb : Below w.heap.size w w') : w'.ownsRow B e 1 v n xs :=
  World.ownsRow.kept h (row := none) ⟨hb.os, hb.tape, hb.output, hb.size, fun k hk _ => hb.block k hk⟩ (by cases h : v.ownBlock <;> simp)
theorem at_below {w w' : World} {B b : Nat} {p : Value} {xs : List Value} (h : Lib.BuilderAt 51 5 B b p xs w) (hb : Below w.heap.size w w') : Lib.BuilderAt 51 5 B b p xs w' := by
  have hlt := h.lt
  obtain ⟨hB, v, h1, h2, h3⟩ := h
  exact ⟨hB, v, by rw [hb.block b hlt]; exact h1, own_keep h2 hb, h3⟩
theorem isB_below {w w' : World} {B b : Nat} {l : Bs} (h : IsB B b l w) (hb : Below w.heap.size w w') : IsB B b l w' := by
  rcases h with h | h
  · exact .inl (at_below h hb)
  · exact .inr (at_below h hb)
theorem isB_lt {w : World} {B b : Nat} {l : Bs} (h : IsB B b l w) : b < w.heap.size := by
  rcases h with h | h <;> exact h.lt
theorem Two.others {w w' : World} {g b : Nat} {T : TypeId} {x y : Value} (h : Two w g T x y) (ho : Others b w w') (hT : T ≠ 5) (hg : g ≠ b) : Two w' g T x y := ho g _ _ _ h hT hg

end Tk
end Go.Proofs.YthooghgiokgdhaaDoor
namespace Go.Proofs.YthooghgiokgdhaaDoor
open Go.RowKit
namespace Tk

set_option maxHeartbeats 400000 in
theorem lower_any (c : UInt8) (w : World) :
    Calls Tryd.prog 41 #[.int .u8 (c.toNat : Int)] w fun r w' => r = .returned (.int .u8 ((lowB c).toNat : Int)) ∧ w = w' := by
  have hlt := c.toNat_lt
  by_cases h0 : 65 ≤ c.toNat
  · by_cases h1 : c.toNat ≤ 90
    · have HU := Lib.hid (lowB_up c h0 h1)
      generalize c.toNat = n at *
      go_enter Tryd.func41, Tryd.ntmps41
      go_wp2_with fail
      go_ret
      exact ⟨by rw [HU.out]; rfl, rfl⟩
    · have HU := Lib.hid (lowB_same c (by omega))
      go_enter Tryd.func41, Tryd.ntmps41
      go_wp2_with fail
      go_ret
      exact ⟨by rw [HU.out]; rfl, rfl⟩
  · have HU := Lib.hid (lowB_same c (by omega))
    go_enter Tryd.func41, Tryd.ntmps41
    go_wp2_with fail
    go_ret
    exact ⟨by rw [HU.out]; rfl, rfl⟩

set_option maxRecDepth 100000 in
set_option maxHeartbeats 1000000 in
theorem tsame_any (s t : ByteArray) (w : World) (hs : s.size ≤ 1099511627776) (_ht : t.size ≤ 1099511627776) :
    Calls Tryd.prog 44 #[.string s, .string t] w fun r w' => r = .returned (.bool (decide (lowL (bs s) = lowL (bs t)))) ∧ ∃ n, w' = w.drewN n := by
  have HL := Lib.hid (length_bs s)
  have HM := Lib.hid (length_bs t)
  by_cases hne : s.size = t.size
  · have hb : ((s.size : Int) != (t.size : Int)) = false := by rw [hne]; simp
    have HN := Lib.hid hne
    clear hne
    go_enter Tryd.func44, Tryd.ntmps44
    go_wp2_with fail
    go_loopw [13, 5] (fun v _ wr => ∃ (j : Nat), j ≤ s.size ∧ v = .int .i64 j ∧ Hid (∃ n, wr = w.drewN n) ∧ Hid (decide (lowL (bs s) = lowL (bs t)) = decide (lowL ((bs s).drop j) = lowL ((bs t).drop j)))) (fun v _ _ => s.size - (RowKit.intOf v).toNat)
    case atStart => exact ⟨0, Nat.zero_le _, rfl, ⟨0, rfl⟩, rfl⟩
    case round =>
      obtain ⟨j, hj, rfl, HW, hd⟩ := hrel
      rename World => W
      by_cases hlt : j < s.size
      · have hlt2 : j < t.size := by have := HN.out; omega
        have hdr := drop_cons (bs s) j (by rw [HL.out]; exact hlt)
        rw [getD_bs s j hlt] at hdr
        have hdr2 := drop_cons (bs t) j (by rw [HM.out]; exact hlt2)
        rw [getD_bs t j hlt2] at hdr2
        have HD := Lib.hid hdr
        have HD2 := Lib.hid hdr2
        clear hdr hdr2
        have hI : (j : Int) < (s.size : Int) := by omega
        have hI2 : (j : Int) < (t.size : Int) := by omega
        go_wp2_with fail
        go_quiet ((go_at_call 41; exact Calls.quiet_of_same ((lower_any _ _).mono fun _ _ h => ⟨h.1, h.2.symm⟩)))
        obtain ⟨n, hW⟩ := HW.out
        have HW2 : Hid (∃ m, W.drewN nq = w.drewN m) := ⟨n + nq, by rw [hW, World.drewN_drewN]⟩
        clear hW
        go_wp2_with fail
        · have hx : (((lowB s[j]).toNat : Int) != ((lowB t[j]).toNat : Int)) = true := by assumption
          have hne : lowB s[j] ≠ lowB t[j] := fun e => by rw [e] at hx; simp at hx
          have fin : decide (lowL (bs s) = lowL (bs t)) = false := by
            rw [hd.out, HD.out, HD2.out]; simp [lowL, hne]
          go_ret
          exact ⟨by rw [fin]; rfl, HW2.out⟩
        · have hx : (((lowB s[j]).toNat : Int) != ((lowB t[j]).toNat : Int)) = false := by assumption
          have he : lowB s[j] = lowB t[j] := UInt8.toNat_inj.1 (by rw [bne_eq_false_iff_eq] at hx; omega)
          refine ⟨⟨j + 1, by omega, by go_num, HW2, ?_⟩, by simp [RowKit.intOf]; omega⟩
          show _ = _
          rw [hd.out, HD.out, HD2.out]; simp [lowL, he]
      · have fin : decide (lowL (bs s) = lowL (bs t)) = true := by
          have := HN.out
          rw [hd.out, List.drop_eq_nil_of_le (by rw [HL.out]; omega), List.drop_eq_nil_of_le (by rw [HM.out]; omega)]; simp
        have HF := Lib.hid fin
        clear fin
        go_wp2_with fail
        go_ret
        exact ⟨by rw [HF.out]; rfl, HW.out⟩
  · have hb : ((s.size : Int) != (t.size : Int)) = true := by simp; omega
    have hf : decide (lowL (bs s) = lowL (bs t)) = false := by
      simp only [decide_eq_false_iff_not]
      intro e
      have := congrArg List.length e
      rw [length_lowL, length_lowL, length_bs, length_bs] at this
      exact hne this
    have HF := Lib.hid hf
    clear hf hne
    go_enter Tryd.func44, Tryd.ntmps44
    go_wp2_with fail
    go_ret
    exact ⟨by rw [HF.out]; rfl, 0, rfl⟩
end Tk
end Go.Proofs.YthooghgiokgdhaaDoor
namespace Go.Proofs.YthooghgiokgdhaaDoor
open Go.RowKit
namespace Tk

def eqF (f g : Bs × Bs) : Bool := decide (lowL f.1 = lowL g.1) && decide (f.2 = g.2)
def sameFs : List (Bs × Bs) → List (Bs × Bs) → Bool
  | [], [] => true
  | f :: t, g :: u => eqF f g && sameFs t u
  | _, _ => false

theorem below_some_draws {w w1 : World} (h : Below w.heap.size w w1) (n : Nat) : Below w.heap.size w (w1.drewN n) := h.trans ⟨rfl, rfl, rfl, Nat.le_refl _, fun _ _ => rfl⟩
theorem beq_mkS' (a b : Bs) : ((mkS a).toList == (mkS b).toList) = decide (a = b) := by
  rw [toList_bs, toList_bs, bs_mkS, bs_mkS]
  by_cases h : a = b <;> simp [h]

theorem sameFs_drop (l m : List (Bs × Bs)) (i : Nat) (hi : i < l.length) (hm : i < m.length) : sameFs (l.drop i) (m.drop i) = (eqF (l.getD i ([], [])) (m.getD i ([], [])) && sameFs (l.drop (i + 1)) (m.drop (i + 1))) := by
  rw [List.drop_eq_getElem_cons hi, List.drop_eq_getElem_cons hm, sameFs]
  simp [List.getD, hi, hm]
theorem sameFs_len : ∀ (l m : List (Bs × Bs)), sameFs l m = true → l.length = m.length
  | [], [], _ => rfl
  | f :: t, g :: u, h => by
    simp only [sameFs, Bool.and_eq_true] at h
    have := sameFs_len t u h.2
    simp [this]
  | [], _ :: _, h => by simp [sameFs] at h
  | _ :: _, [], h => by simp [sameFs] at h

end Tk
end Go.Proofs.YthooghgiokgdhaaDoor
namespace Go.Proofs.YthooghgiokgdhaaDoor
open Go.RowKit
namespace Tk

def strs (P : List Bs) : List Value := P.map fun t => .string (mkS t)
theorem strs_append (P Q : List Bs) : strs (P ++ Q) = strs P ++ strs Q := by simp [strs]
theorem strInfo : (Tryd.prog.info? 9).map (fun i => (i.zero, i.size, i.bytes)) = some (some (.string .empty), 1, 16) := by kernel_rfl

def ListPost (base : Nat) (Q : List Bs) (w : World) (r : Ending) (w' : World) : Prop :=
  ∃ v, r = .returned v ∧ w'.ownsRow base 9 1 v Q.length (strs Q) ∧ Below base w w'

theorem below_of_grown {a b : World} {B : Nat} {v : Value} {n : Nat} {xs : List Value} {e : TypeId} (h : a.grownBy b v.ownBlock) (ho : a.ownsRow B e 1 v n xs) (hB : B ≤ a.heap.size) : Below B a b :=
  (Below.refl B a).grown h hB fun k hk => (ho.lt k hk).1
end Tk
end Go.Proofs.YthooghgiokgdhaaDoor
namespace Go.Proofs.YthooghgiokgdhaaDoor
open Go.RowKit
namespace Tk

def isN (name : Bs) (f : Bs × Bs) : Bool := decide (lowL f.1 = lowL name)
def allF (l : List (Bs × Bs)) (name : Bs) : List Bs := (l.filter (isN name)).map (·.2)
theorem allF_snoc (l : List (Bs × Bs)) (f : Bs × Bs) (name : Bs) : allF (l ++ [f]) name = allF l name ++ (if isN name f then [f.2] else []) := by
  unfold allF
  cases h : isN name f <;> simp [h]
theorem allF_len (l : List (Bs × Bs)) (name : Bs) : (allF l name).length ≤ l.length := by
  unfold allF; rw [List.length_map]; exact List.length_filter_le _ _

set_option maxHeartbeats 8000000 in
set_option maxRecDepth 100000 in
theorem fall_any (v : Value) (l : List (Bs × Bs)) (name : Bs) (w : World) (hs : IsFlds w v l) (hz : ∀ f ∈ l, f.1.length ≤ 1099511627776 ∧ f.2.length ≤ 1099511627776) (hn : name.length ≤ 1099511627776) (hl : l.length ≤ 1048576) :
    Calls Tryd.prog 27 #[v, .string (mkS name)] w (ListPost w.heap.size (allF l name) w) := by
  have HS := Lib.hid hs
  have HZ := Lib.hid hz
  obtain ⟨i0, hi0, hz0, hz1, hz2⟩ := info_parts strInfo
  have HNZ := Lib.hid (size_mkS name)
  obtain ⟨a, cap, rfl⟩ : ∃ a cap, v = .slice a l.length cap := by obtain ⟨a, c, h, -⟩ := hs; exact ⟨a, c, h⟩
  clear hs hz
  go_enter Tryd.func27, Tryd.ntmps27
  go_wp2_with fail
  go_loopw [5, 10] (fun v5 vi wr => ∃ i : Nat, i ≤ l.length ∧ vi = .int .i64 i ∧ Hid (wr.ownsRow w.heap.size 9 1 v5 (allF (l.take i) name).length (strs (allF (l.take i) name))) ∧ Hid (Below w.heap.size w wr)) (fun _ vi _ => l.length - (RowKit.intOf vi).toNat)
  case atStart => exact ⟨0, Nat.zero_le _, rfl, World.ownsRow_nil _ _ _ _, Below.refl _ _⟩
  case round =>
    obtain ⟨i, hi, rfl, HO, HB⟩ := hrel
    rename World => W
    by_cases hlt : i < l.length
    · obtain ⟨a', c', e', hcap, hc⟩ := isFlds_below HS.out HB.out
      injection e' with e1 _ e2
      subst e1 e2
      obtain ⟨b, o, rfl, hc0, hc1⟩ := hc i (l.getD i ([], [])) (by simp [List.getD, hlt])
      have hm := HZ.out (l.getD i ([], [])) (by simp [List.getD, hlt])
      have htk : l.take (i + 1) = l.take i ++ [l.getD i ([], [])] := by
        rw [List.take_succ_eq_append_getElem hlt]; simp [List.getD, hlt]
      have hnx := allF_snoc (l.take i) (l.getD i ([], [])) name
      rw [← htk] at hnx
      have HNX := Lib.hid hnx
      have hal := allF_len (l.take i) name
      have htl : (l.take i).length ≤ i := by simp; omega
      have hal2 : (allF (l.take i) name).length ≤ 1048576 := by omega
      clear hc htk hnx hal htl
      generalize l.getD i ([], []) = f at *
      obtain ⟨n, x⟩ := f
      have hnz := size_mkS n
      have hxz := size_mkS x
      simp only at hm hc0 hc1
      have HC := fun W : World => tsame_any (mkS n) (mkS name) W (by omega) (by rw [HNZ.out]; exact hn)
      rw [bs_mkS, bs_mkS] at HC
      have HCl := Lib.hid (fun W : World => clone_any (mkS x) W (by omega))
      rw [bs_mkS] at HCl
      have HF0 := Lib.hid (Two.new W 27 (.string (mkS n)) (.string (mkS x)))
      have hb0 : Below W.heap.size W (W.alloc (Obj.cells #[.string (mkS n), .string (mkS x)] 27)) := (Below.refl _ _).alloc (Nat.le_refl _) _
      have HO0 := Lib.hid (own_keep HO.out hb0)
      have HB0 := Lib.hid (HB.out.trans (hb0.mono HB.out.size))
      have hq0 := HF0.out.c0
      have hq1 := HF0.out.c1
      have g0 : (0 : Int) ≤ (i : Int) := by omega
      have g1 : (i : Int) < (l.length : Int) := by omega
      have hbsz := HB.out.size
      have hs0 : w.heap.size ≤ (W.alloc (Obj.cells #[.string (mkS n), .string (mkS x)] 27)).heap.size := by simp; omega
      clear hb0 hnz hxz hbsz
      have hkk : isN name (n, x) = decide (lowL n = lowL name) := rfl
      rw [← hkk] at HC
      clear hkk
      generalize allF (l.take i) name = P at *
      cases hk : isN name (n, x)
      · rw [hk] at HC HNX
        have hx2 : allF (l.take (i + 1)) name = P := by rw [HNX.out]; simp
        have HX := Lib.hid hx2
        have HC2 := Lib.hid HC
        clear HC hk hx2
        go_wp2_with fail
        generalize W.alloc (Obj.cells #[.string (mkS n), .string (mkS x)] 27) = W4 at *
        generalize W.heap.size = g at *
        refine (HC2.out _).mono ?_
        rintro e w5 ⟨rfl, k, rfl⟩
        go_wp2_with fail
        refine ⟨⟨i + 1, hlt, by go_num, ?_, below_some_draws HB0.out k⟩, by simp [RowKit.intOf]; omega⟩
        show World.ownsRow _ _ _ _ _ _ _
        rw [HX.out]
        exact HO0.out
      · rw [hk] at HC HNX
        have hx2 : allF (l.take (i + 1)) name = P ++ [x] := by rw [HNX.out]; simp
        have HX := Lib.hid hx2
        have HC2 := Lib.hid HC
        clear HC hk hx2
        go_wp2_with fail
        generalize W.alloc (Obj.cells #[.string (mkS n), .string (mkS x)] 27) = W4 at *
        generalize W.heap.size = g at *
        refine (HC2.out _).mono ?_
        rintro e w5 ⟨rfl, k, rfl⟩
        have hF5 := HF0.out.draws k
        have p1 := hF5.c1
        have HB5 := Lib.hid (below_some_draws HB0.out k)
        have HO5 := Lib.hid (show (W4.drewN k).ownsRow w.heap.size 9 1 u5 P.length (strs P) from HO0.out)
        have hs5 : w.heap.size ≤ (W4.drewN k).heap.size := hs0
        clear hF5
        go_wp2_with fail
        refine (HCl.out _).mono ?_
        rintro e w6 ⟨rfl, hb⟩
        have hown' := own_keep HO5.out hb
        have hB' : w.heap.size ≤ w6.heap.size := Nat.le_trans hs5 hb.size
        have HB6 := Lib.hid (HB5.out.trans (hb.mono hs5))
        clear hb p1
        go_wp2_with (at_builtin; refine wpList_append_own _ rfl _ _ 23 rfl w.heap.size 9 i0 (.string .empty) 1 16 Tryd.underlying23 hi0 hz0 hz1 hz2 rfl (by decide) _ _ _ rfl (hown'.alloc _) ⟨w6.heap.size, 0, none⟩ 1 1 [.string (mkS x)] rfl rfl ?c1 ?c2 ?c3 ?c4 ?c5 ?_)
        case c1 => exact cell_one_new _ _ _
        case c2 => simp [Value.oneCell']
        case c3 => unfold maxLen; omega
        case c4 => omega
        case c5 => simp; omega
        intro v' w1 hown1 hg1 _
        have hb1 : Below w.heap.size w w1 := HB6.out.trans (((Below.refl w.heap.size w6).alloc hB' _).trans (below_of_grown hg1 (hown'.alloc _) (by simp; omega)))
        have HB7 := Lib.hid hb1
        have HO7 := Lib.hid hown1
        clear hb1 hown1 hg1 hown'
        go_wp2_with fail
        refine ⟨⟨i + 1, hlt, by go_num, ?_, HB7⟩, by simp [RowKit.intOf]; omega⟩
        show World.ownsRow _ _ _ _ _ _ _
        rw [HX.out, List.length_append, strs_append]
        exact HO7.out
    · have hil : l.take i = l := List.take_of_length_le (by omega)
      rw [hil] at HO
      go_wp2_with fail
      go_ret
      exact ⟨u5, rfl, HO.out, HB.out⟩
end Tk
end Go.Proofs.YthooghgiokgdhaaDoor
namespace Go.Proofs.YthooghgiokgdhaaDoor
open Go.RowKit
namespace Tk

set_option maxHeartbeats 400000 in
theorem closing_any (s : ByteArray) (i : Nat) (w : World) (h : s.size ≤ 1099511627776) (hi : i < s.size) :
    Calls Tryd.prog 58 #[.string s, .int .i64 i] w fun r w' => r = .returned (.int .i64 (closing (bs s) i)) ∧ w = w' := by
  have hlen := length_bs s
  have HL := Lib.hid hlen
  clear hlen
  go_enter Tryd.func58, Tryd.ntmps58
  go_wp2_with fail
  go_step3
  go_wp2_with fail
  go_step3
  go_wp2_with fail
  go_loop [5] (fun v => ∃ k : Nat, k ≤ s.size + 1 ∧ v = .int .i64 k ∧ Hid (closing (bs s) i = k + closeLen ((bs s).drop k))) (fun v => (s.size + 2 - (RowKit.intOf v).toNat))
  case atStart => exact ⟨i + 1, by omega, by go_num, rfl⟩
  case round =>
    obtain ⟨k, hk, rfl, hR⟩ := hrel
    by_cases hlt : k < s.size
    · have hdr := drop_cons (bs s) k (by rw [HL.out]; exact hlt)
      rw [getD_bs s k hlt] at hdr
      have HD := Lib.hid hdr
      clear hdr
      go_wp2_with fail
      · have h92 : ((s[k].toNat : Int) == 92) = true := by assumption
        have e := u8_is s[k] 92 (by omega) h92
        refine ⟨⟨k + 2, by omega, by go_num, ?_⟩, by simp [RowKit.intOf]; omega⟩
        show _ = _
        rw [hR.out, closeLen_bs _ (by rw [HD.out, e]; rfl), List.drop_drop]
        omega
      · have h34 : ((s[k].toNat : Int) == 34) = true := by assumption
        have e := u8_is s[k] 34 (by omega) h34
        have fin : closing (bs s) i = k := by
          rw [hR.out, HD.out, e]
          exact (congrArg (k + ·) (closeLen_q _))
        go_ret
        exact ⟨by rw [fin]; rfl, rfl⟩
      · have h92 : ((s[k].toNat : Int) == 92) = false := by assumption
        have h34 : ((s[k].toNat : Int) == 34) = false := by assumption
        refine ⟨⟨k + 1, by omega, by go_num, ?_⟩, by simp [RowKit.intOf]; omega⟩
        show _ = _
        rw [hR.out, HD.out, closeLen_o _ _ (u8_not _ 92 h92 (by omega)) (u8_not _ 34 h34 (by omega))]
        omega
    · have hdr : (bs s).drop k = [] := List.drop_eq_nil_of_le (by rw [HL.out]; omega)
      have fin : closing (bs s) i = k := by rw [hR.out, hdr]; rfl
      have HF := Lib.hid fin
      clear fin hdr
      go_wp2_with fail
      go_ret
      exact ⟨by rw [HF.out]; rfl, rfl⟩
end Tk
end Go.Proofs.YthooghgiokgdhaaDoor
namespace Go.Proofs.YthooghgiokgdhaaDoor
open Go.RowKit
namespace Tk

set_option maxHeartbeats 400000 in
theorem appendPart_any (base : Nat) (v : Value) (P : List Bs) (s : ByteArray) (w : World) (hown : w.ownsRow base 9 1 v P.length (strs P)) (hB : base ≤ w.heap.size) (hs : s.size ≤ 1099511627776) (hP : P.length ≤ 4398046511104) :
    Calls Tryd.prog 59 #[v, .string s] w (ListPost base (P ++ addP (trimL (bs s))) w) := by
  obtain ⟨i0, hi, hz0, hz1, hz2⟩ := info_parts strInfo
  have HT := Lib.hid (trim_any s w hs)
  have HO := Lib.hid hown
  have hl := trim_sublist (bs s)
  rw [length_bs] at hl
  clear hown
  generalize trimL (bs s) = t at *
  by_cases he : t = []
  · subst he
    have hne : (mkS []).toList.isEmpty = true := by rw [toList_bs]; rfl
    go_enter Tryd.func59, Tryd.ntmps59
    go_wp2_with fail
    refine HT.out.mono ?_
    rintro e w' ⟨rfl, hb⟩
    have HB := Lib.hid hb
    clear hb
    go_wp2_with fail
    go_ret
    refine ⟨v, rfl, ?_, HB.out.mono hB⟩
    have e : P ++ addP [] = P := by simp [addP]
    rw [e]
    exact World.ownsRow.kept HO.out (row := none) ⟨HB.out.os, HB.out.tape, HB.out.output, HB.out.size, fun k hk _ => HB.out.block k hk⟩ (by cases h : v.ownBlock <;> simp)
  · have hne : (mkS t).toList.isEmpty = false := by rw [toList_bs, bs_mkS]; simpa using he
    have hadd : addP t = [t] := by unfold addP; rw [if_neg he]
    go_enter Tryd.func59, Tryd.ntmps59
    go_wp2_with fail
    refine HT.out.mono ?_
    rintro e w' ⟨rfl, hb⟩
    have hown' : w'.ownsRow base 9 1 v P.length (strs P) := World.ownsRow.kept HO.out (row := none) ⟨hb.os, hb.tape, hb.output, hb.size, fun k hk _ => hb.block k hk⟩ (by cases h : v.ownBlock <;> simp)
    have hB' : base ≤ w'.heap.size := Nat.le_trans hB hb.size
    have HB := Lib.hid (hb.mono hB)
    clear hb
    go_wp2_with (at_builtin; refine wpList_append_own _ rfl _ _ 23 rfl base 9 i0 (.string .empty) 1 16 Tryd.underlying23 hi hz0 hz1 hz2 rfl (by decide) _ _ _ rfl (hown'.alloc _) ⟨w'.heap.size, 0, none⟩ 1 1 [.string (mkS t)] rfl rfl ?c1 ?c2 ?c3 ?c4 ?c5 ?_)
    case c1 => exact cell_one_new _ _ _
    case c2 => simp [Value.oneCell']
    case c3 => unfold maxLen; omega
    case c4 => omega
    case c5 => simp; omega
    intro v' w1 hown1 hg1 _
    have hb1 : Below base w w1 := HB.out.trans (((Below.refl base w').alloc hB' _).trans (below_of_grown hg1 (hown'.alloc _) (by simp; omega)))
    have HB1 := Lib.hid hb1
    have HO1 := Lib.hid hown1
    clear hb1 hown1 hg1
    go_wp2_with fail
    go_ret
    refine ⟨v', rfl, ?_, HB1.out⟩
    rw [hadd, List.length_append, strs_append]
    exact HO1.out
end Tk
end Go.Proofs.YthooghgiokgdhaaDoor
namespace Go.Proofs.YthooghgiokgdhaaDoor
open Go.RowKit
namespace Tk

set_option maxHeartbeats 1000000 in
theorem split_any (s : ByteArray) (w : World) (hs : s.size ≤ 1099511627776) :
    Calls Tryd.prog 40 #[.string s] w (ListPost w.heap.size (splitL (bs s)) w) := by
  have HL := Lib.hid (length_bs s)
  go_enter Tryd.func40, Tryd.ntmps40
  go_wp2_with fail
  go_loopw [3, 4, 5] (fun v vb vi wr => ∃ (i b : Nat) (P : List Bs), i ≤ s.size + 2 ∧ b ≤ s.size ∧ b ≤ i ∧ P.length ≤ i ∧ vi = .int .i64 i ∧ vb = .int .i64 b ∧ Hid (wr.ownsRow w.heap.size 9 1 v P.length (strs P)) ∧ Hid (Below w.heap.size w wr) ∧ Hid (splitL (bs s) = P ++ splAt (bs s) b i)) (fun _ _ vi _ => s.size + 2 - (RowKit.intOf vi).toNat)
  case atStart => exact ⟨0, 0, [], by omega, by omega, by omega, by simp, rfl, rfl, World.ownsRow_nil _ _ _ _, Below.refl _ _, splAt_start _⟩
  case round =>
    obtain ⟨i, b, P, hi, hb, hbi, hP, rfl, rfl, HO, HB, HS⟩ := hrel
    rename World => W
    rename Value => v
    by_cases hlt : i < s.size
    · have hgd := getD_bs s i hlt
      have HG := Lib.hid hgd
      clear hgd
      have hll : i < (bs s).length := by rw [HL.out]; exact hlt
      have HLL := Lib.hid hll
      clear hll
      go_wp2_with fail
      · have h34 : ((s[i].toNat : Int) == 34) = true := by assumption
        have e := HG.out.trans (u8_is s[i] 34 (by omega) h34)
        have hcl := closeLen_le ((bs s).drop (i + 1))
        rw [List.length_drop, HL.out] at hcl
        have H2 : Hid (splitL (bs s) = P ++ splAt (bs s) b (closing (bs s) i + 1)) := by
          show _ = _
          rw [HS.out, splAt_quote (bs s) b i HLL.out hbi e]; rfl
        have hc0 : i + 1 ≤ closing (bs s) i := by unfold closing; omega
        have hc1 : closing (bs s) i ≤ s.size + 1 := by unfold closing; omega
        clear hcl
        refine (closing_any s i _ hs hlt).mono ?_
        rintro e w' ⟨rfl, rfl⟩
        generalize closing (bs s) i = j at *
        go_wp2_with fail
        go_roundw
        case rel => exact ⟨j + 1, b, P, by omega, by omega, by omega, by omega, by go_num, rfl, HO, HB, H2⟩
        case measure => simp [RowKit.intOf]; omega
      · have h44 : ((s[i].toNat : Int) == 44) = true := by assumption
        have e := HG.out.trans (u8_is s[i] 44 (by omega) h44)
        refine (appendPart_any w.heap.size _ P (s.extract b i) _ HO.out HB.out.size (by rw [← length_bs, bs_extract, List.length_take]; omega) (by omega)).mono ?_
        rintro e w' ⟨v', rfl, ho', hb'⟩
        have H2 : Hid (splitL (bs s) = (P ++ addP (trimL (bs (s.extract b i)))) ++ splAt (bs s) (i + 1) (i + 1)) := by
          show _ = _
          rw [HS.out, splAt_comma (bs s) b i HLL.out e, bs_extract, List.append_assoc]
        have HB2 := Lib.hid (HB.out.trans hb')
        have HO2 := Lib.hid ho'
        clear hb' ho'
        have hlen : (P ++ addP (trimL (bs (s.extract b i)))).length ≤ i + 1 := by
          rw [List.length_append]; unfold addP; split <;> simp <;> omega
        generalize P ++ addP (trimL (bs (s.extract b i))) = P2 at *
        go_wp2_with fail
        go_roundw
        case rel => exact ⟨i + 1, i + 1, P2, by omega, by omega, by omega, by omega, by go_num, by go_num, HO2, HB2, H2⟩
        case measure => simp [RowKit.intOf]; omega
      · have h34 : ((s[i].toNat : Int) == 34) = false := by assumption
        have h44 : ((s[i].toNat : Int) == 44) = false := by assumption
        have n34 : (bs s).getD i 0 ≠ 34 := fun h => u8_not s[i] 34 h34 (by omega) (HG.out.symm.trans h)
        have n44 : (bs s).getD i 0 ≠ 44 := fun h => u8_not s[i] 44 h44 (by omega) (HG.out.symm.trans h)
        refine ⟨⟨i + 1, b, P, by omega, by omega, by omega, by omega, by go_num, rfl, HO, HB, ?_⟩, by simp [RowKit.intOf]; omega⟩
        show _ = _
        rw [HS.out, splAt_other (bs s) b i HLL.out hbi n44 n34]
    · go_wp2_with fail
      refine (appendPart_any w.heap.size _ P (s.extract b s.size) _ HO.out HB.out.size (by rw [← length_bs, bs_extract, List.length_take]; omega) (by omega)).mono ?_
      rintro e w' ⟨v', rfl, ho', hb'⟩
      have H2 : Hid (splitL (bs s) = P ++ addP (trimL (bs (s.extract b s.size)))) := by
        show _ = _
        rw [HS.out, splAt_end (bs s) b i (by rw [HL.out]; omega), bs_extract, List.take_of_length_le (by rw [List.length_drop, HL.out]; exact Nat.le_refl _)]
      have HB2 := Lib.hid (HB.out.trans hb')
      have HO2 := Lib.hid ho'
      clear hb' ho'
      go_wp2_with fail
      go_ret
      refine ⟨v', rfl, ?_, HB2.out⟩
      rw [H2.out]
      exact HO2.out
end Tk
end Go.Proofs.YthooghgiokgdhaaDoor
namespace Go.Proofs.YthooghgiokgdhaaDoor
open Go.RowKit
namespace Tk

/-- a slice that holds these texts -/
def IsStrs (w : World) (v : Value) (l : List Bs) : Prop :=
  ∃ (a : Option Addr) (c : Nat), v = .slice a l.length c ∧ ∀ j t, l[j]? = some t → ∃ b o, a = some ⟨b, o, none⟩ ∧ w.cell? ⟨b, o + j, none⟩ = some (.string (mkS t))

theorem isStrs_own {w : World} {base : Nat} {v : Value} {l : List Bs} (h : w.ownsRow base 9 1 v l.length (strs l)) : IsStrs w v l := by
  rcases h.2 with ⟨hv, hn⟩ | ⟨g, cap, cur, hv, hb, hg, -⟩
  · exact ⟨none, 0, by rw [hv, hn], fun j t hj => by simp [List.eq_nil_of_length_eq_zero hn] at hj⟩
  · refine ⟨some ⟨g, 0, none⟩, cap, hv, fun j t hj => ⟨g, 0, rfl, ?_⟩⟩
    have := h.cells (g := g) (by rw [hv]; rfl) j (.string (mkS t)) (by simp [strs, hj])
    rw [Nat.zero_add]
    by_cases hj0 : j = 0
    · subst hj0; simpa [Addr.add] using this
    · simpa [Addr.add, hj0] using this

theorem isStrs_later {w w' : World} {v : Value} {l : List Bs} {B : Nat} (h : IsStrs w v l) (hb : Below B w w') (hv : ∀ k, v.ownBlock = some k → k < B) : IsStrs w' v l := by
  obtain ⟨a, c, rfl, hc⟩ := h
  refine ⟨a, c, rfl, fun j t hj => ?_⟩
  obtain ⟨b, o, rfl, h2⟩ := hc j t hj
  exact ⟨b, o, rfl, (hb.cell (p := ⟨b, o + j, none⟩) (hv b rfl)).trans h2⟩

theorem isStrs_lit (w : World) (l : List Bs) (cs : Array Value) (t : TypeId) (c : Nat) (h : cs = (strs l).toArray) : IsStrs (w.alloc (.cells cs t)) (.slice (some ⟨w.heap.size, 0, none⟩) l.length c) l := by
  refine ⟨_, c, rfl, fun j x hj => ⟨w.heap.size, 0, rfl, ?_⟩⟩
  rw [Nat.zero_add, World.cell?_alloc_new, h]
  simp [strs, hj]

theorem isStrs_alloc {w : World} {base : Nat} {v : Value} {l : List Bs} (h : w.ownsRow base 9 1 v l.length (strs l)) (o : Obj) : IsStrs (w.alloc o) v l :=
  isStrs_own (h.alloc o)

set_option maxHeartbeats 1000000 in
theorem same_any (v1 v2 : Value) (l m : List Bs) (w : World) (h1 : IsStrs w v1 l) (h2 : IsStrs w v2 m) (hl : l.length ≤ 1099511627776) (_hm : m.length ≤ 1099511627776) :
    Calls Tryd.prog 20 #[v1, v2] w fun r w' => r = .returned (.bool (decide (l = m))) ∧ ∃ n, w' = w.drewN n := by
  obtain ⟨a1, c1, rfl, k1⟩ := h1
  obtain ⟨a2, c2, rfl, k2⟩ := h2
  have K1 := Lib.hid k1
  have K2 := Lib.hid k2
  clear k1 k2
  by_cases hne : l.length = m.length
  · have hb : ((l.length : Int) != (m.length : Int)) = false := by rw [hne]; simp
    have HN := Lib.hid hne
    clear hne
    go_enter Tryd.func20, Tryd.ntmps20
    go_wp2_with fail
    go_loopw [5] (fun v wr => ∃ (j n : Nat), j ≤ l.length ∧ v = .int .i64 j ∧ wr = w.drewN n ∧ Hid (decide (l = m) = decide (l.drop j = m.drop j))) (fun v _ => l.length - (RowKit.intOf v).toNat)
    case atStart => exact ⟨0, 0, Nat.zero_le _, rfl, rfl, rfl⟩
    case round =>
      obtain ⟨j, n, hj, rfl, rfl, hd⟩ := hrel
      by_cases hlt : j < l.length
      · obtain ⟨b1, o1, rfl, e1⟩ := K1.out j (l.getD j []) (by simp [List.getD, hlt])
        obtain ⟨b2, o2, rfl, e2⟩ := K2.out j (m.getD j []) (by have := HN.out; simp [List.getD, show j < m.length by omega])
        have hjm : j < m.length := by have := HN.out; omega
        have s1 : l.drop j = l.getD j [] :: l.drop (j + 1) := by rw [List.drop_eq_getElem_cons hlt]; simp [List.getD, hlt]
        have s2 : m.drop j = m.getD j [] :: m.drop (j + 1) := by rw [List.drop_eq_getElem_cons hjm]; simp [List.getD, hjm]
        have S1 := Lib.hid s1
        have S2 := Lib.hid s2
        clear s1 s2
        generalize l.getD j [] = x at *
        generalize m.getD j [] = y at *
        go_wp2_with fail
        go_quiet (fail)
        go_wp2_with fail
        · have hx : (!(mkS x).toList == (mkS y).toList) = true := by assumption
          have hxy : x ≠ y := by intro e; subst e; simp at hx
          have fin : decide (l = m) = false := by
            rw [hd.out, S1.out, S2.out]; simp [hxy]
          go_ret
          exact ⟨by rw [fin]; rfl, _, World.drewN_drewN _ _ _⟩
        · have hx : (!(mkS x).toList == (mkS y).toList) = false := by assumption
          have hxy : x = y := by
            rw [toList_bs, toList_bs, bs_mkS, bs_mkS] at hx
            simpa using hx
          refine ⟨⟨j + 1, _, by omega, by go_num, rfl, ?_⟩, by simp [RowKit.intOf]; omega⟩
          show _ = _
          rw [hd.out, S1.out, S2.out, hxy]; simp
      · have fin : decide (l = m) = true := by
          have := HN.out
          rw [hd.out, List.drop_eq_nil_of_le (by omega), List.drop_eq_nil_of_le (by omega)]; simp
        have HF := Lib.hid fin
        clear fin
        go_wp2_with fail
        go_ret
        exact ⟨by rw [HF.out]; rfl, _, rfl⟩
  · have hb : ((l.length : Int) != (m.length : Int)) = true := by simp; omega
    have hf : decide (l = m) = false := by simp; exact fun e => hne (congrArg _ e)
    have HF := Lib.hid hf
    clear hf hne
    go_enter Tryd.func20, Tryd.ntmps20
    go_wp2_with fail
    go_ret
    exact ⟨by rw [HF.out]; rfl, 0, rfl⟩
end Tk
end Go.Proofs.YthooghgiokgdhaaDoor
namespace Go.Proofs.YthooghgiokgdhaaDoor
open Go.RowKit
namespace Tk

/-- an owned row in a later world -/
theorem own_later {w w' : World} {B : Nat} {v : Value} {n : Nat} {xs : List Value} {e : TypeId} (h : w.ownsRow B e 1 v n xs) (hb : Below w.heap.size w w') : w'.ownsRow B e 1 v n xs :=
  World.ownsRow.kept h (row := none) ⟨hb.os, hb.tape, hb.output, hb.size, fun k hk _ => hb.block k hk⟩ (by cases h : v.ownBlock <;> simp)

theorem join_run (w : World) (o : Oper) (a : Act) (K : Act → World → Prop) (Q : Exit → Act → World → Prop) (s x : Operand)
    (ho : o.op = .call { callee := .builtin .append, args := #[s, x], argTypes := #[23, 23] })
    (base base2 : Nat) (v v2 : Value) (P R : List Bs) (hs : a.eval s = v) (hx : a.eval x = v2) (h1 : w.ownsRow base 9 1 v P.length (strs P)) (h2 : w.ownsRow base2 9 1 v2 R.length (strs R))
    (hB : base ≤ w.heap.size) (hP : P.length ≤ 1048576) (hR : R.length ≤ 1048576)
    (h : ∀ v' w', w'.ownsRow base 9 1 v' (P ++ R).length (strs (P ++ R)) → Below base w w' → K (a.put o.dst v') w') : o.wp Tryd.prog a w K Q := by
  obtain ⟨i0, hi, hz0, hz1, hz2⟩ := info_parts strInfo
  rcases h2.2 with ⟨hv, hn⟩ | ⟨g, cap, cur, hv, hb, hg, hc⟩
  · have hrun := run_append_owned_none (P := Tryd.prog) (w := w) base 23 o.type 9 i0 1 Tryd.underlying23 hi v P.length (strs P) h1
    have hR0 : R = [] := List.eq_nil_of_length_eq_zero hn
    subst hR0
    unfold Oper.wp
    simp [execOp, ho, resolve, invoke, builtin, hs, hx, hv, hrun, Result.andThen]
    exact h v w (by simpa using h1) (Below.refl _ _)
  · refine wp_append_own (P := Tryd.prog) w s x 23 ho base 9 i0 (.string .empty) 1 16 Tryd.underlying23 hi hz0 hz1 hz2 rfl (by decide) v P.length (strs P) hs h1 ⟨g, 0, none⟩ R.length cap (strs R) (by rw [hx, hv]) (by simp [strs])
      (h2.cells (g := g) (by rw [hv]; rfl)) (fun u hu => by
        simp only [strs, List.mem_map] at hu
        obtain ⟨t, -, rfl⟩ := hu
        rfl) (by unfold maxLen; omega) (by omega) hB ?_
    intro v' w' ho' hg' _
    refine h v' w' ?_ (below_of_grown hg' h1 hB)
    rw [List.length_append, strs_append]
    exact ho'

theorem join_guarded {ops : Array Oper} {rest : List Oper} {w : World} {o : Oper} {a : Act} {Q : Exit → Act → World → Prop} (hw : Region.wanted o (yielded ops a.tmps) = true) (s x : Operand)
    (ho : o.op = .call { callee := .builtin .append, args := #[s, x], argTypes := #[23, 23] })
    (base base2 : Nat) (v v2 : Value) (P R : List Bs) (hs : a.eval s = v) (hx : a.eval x = v2) (h1 : w.ownsRow base 9 1 v P.length (strs P)) (h2 : w.ownsRow base2 9 1 v2 R.length (strs R))
    (hB : base ≤ w.heap.size) (hP : P.length ≤ 1048576) (hR : R.length ≤ 1048576)
    (h : ∀ v' w', w'.ownsRow base 9 1 v' (P ++ R).length (strs (P ++ R)) → Below base w w' → wpList Tryd.prog ops Q rest (a.put o.dst v') w') : wpList Tryd.prog ops Q (o :: rest) a w :=
  BigFrame.wpList_want hw fun K hK => join_run w o a K Q s x ho base base2 v v2 P R hs hx h1 h2 hB hP hR fun v' w' a b => hK _ _ (h v' w' a b)
end Tk
end Go.Proofs.YthooghgiokgdhaaDoor
namespace Go.Proofs.YthooghgiokgdhaaDoor
open Go.RowKit
namespace Tk

def joinB (P : List Bs) : Bs := Lib.join P [44, 32]
theorem joinB_nil : joinB [] = [] := rfl
theorem map_mkS : ∀ (P : List Bs), (P.map mkS).map (·.data.toList) = P
  | [] => rfl
  | x :: t => by rw [List.map_cons, List.map_cons, map_mkS t]; rfl
theorem sum_all (name : Bs) : ∀ l : List (Bs × Bs), Lib.lens (allF l name) + 2 * (allF l name).length ≤ sumF l
  | [] => by simp [allF, Lib.lens, sumF]
  | f :: t => by
    have ih := sum_all name t
    have e : allF (f :: t) name = (if isN name f then [f.2] else []) ++ allF t name := by unfold allF; cases h : isN name f <;> simp [h]
    rw [e]
    unfold sumF
    cases isN name f
    · simp; omega
    · simp [Lib.lens] at *; omega
theorem joinB_le (name : Bs) (l : List (Bs × Bs)) : (joinB (allF l name)).length ≤ sumF l := by
  have h := sum_all name l
  unfold joinB
  cases hh : allF l name with
  | nil => simp [Lib.join_nil]
  | cons x r => rw [Lib.join_length]; rw [hh] at h; simp only [List.length_cons, List.length_nil] at *; omega
/-- what List tells -/
def listF (l : List (Bs × Bs)) (name : Bs) : List Bs := (allF l name).flatMap splitL
theorem flat_len : ∀ P : List Bs, (P.flatMap splitL).length ≤ Lib.lens P + P.length
  | [] => by simp
  | x :: t => by
    have := flat_len t
    have h2 := split_len x
    simp [Lib.lens] at *; omega
theorem listF_len (name : Bs) (l : List (Bs × Bs)) : (listF l name).length ≤ sumF l := by
  have := flat_len (allF l name)
  have h := sum_all name l
  unfold listF; omega
theorem flat_piece : ∀ (P : List Bs) (p : Bs), p ∈ P.flatMap splitL → p.length ≤ Lib.lens P
  | [], p, h => by simp at h
  | x :: t, p, h => by
    rw [List.flatMap_cons, List.mem_append] at h
    rcases h with h | h
    · have := split_piece x p h; simp [Lib.lens] at *; omega
    · have := flat_piece t p h; simp [Lib.lens] at *; omega
theorem listF_piece (name : Bs) (l : List (Bs × Bs)) (p : Bs) (h : p ∈ listF l name) : p.length ≤ sumF l := by
  have := flat_piece _ p h
  have h := sum_all name l
  omega
theorem all_piece (name : Bs) (l : List (Bs × Bs)) (p : Bs) (h : p ∈ allF l name) : p.length ≤ sumF l := by
  have h2 := sum_all name l
  have : ∀ (P : List Bs), p ∈ P → p.length ≤ Lib.lens P := by
    intro P
    induction P with
    | nil => intro h; simp at h
    | cons x t ih =>
      intro h
      rcases List.mem_cons.1 h with rfl | h
      · simp [Lib.lens]
      · have := ih h; simp [Lib.lens] at *; omega
  have := this _ h
  omega
theorem take_flat (P : List Bs) (i : Nat) (h : i < P.length) : (P.take (i + 1)).flatMap splitL = (P.take i).flatMap splitL ++ splitL (P.getD i []) := by
  rw [List.take_succ_eq_append_getElem h, List.flatMap_append]; simp [List.getD, h]
theorem flat_sub (P : List Bs) (i : Nat) : ((P.take i).flatMap splitL).length ≤ (P.flatMap splitL).length := by
  have e : P.flatMap splitL = (P.take i).flatMap splitL ++ (P.drop i).flatMap splitL := by rw [← List.flatMap_append, List.take_append_drop]
  rw [e, List.length_append]; omega

theorem sum_each (l : List (Bs × Bs)) (hz : sumF l ≤ 1099511627) : ∀ f ∈ l, f.1.length ≤ 1099511627776 ∧ f.2.length ≤ 1099511627776 := fun f hf => by
  have := sumF_mem l f hf; omega

set_option maxHeartbeats 4000000 in
set_option maxRecDepth 100000 in
theorem jnone_any (c : Nat) (a : Option Addr) (w : World) :
    Calls Tryd.prog 29 #[.slice a 0 c, .string ⟨#[44, 32]⟩] w fun e w' => e = .returned (.string ⟨#[]⟩) ∧ Below w.heap.size w w' := by
  go_enter Tryd.func29, Tryd.ntmps29
  go_wp2_with fail
  go_ret
  exact ⟨rfl, Below.refl _ _⟩
theorem joinP_any (v : Value) (P : List Bs) (base : Nat) (w : World) (ho : w.ownsRow base 9 1 v P.length (strs P)) (hP : P.length ≤ 1048576) (hj : (joinB P).length ≤ 1099511627776) :
    Calls Tryd.prog 29 #[v, .string ⟨#[44, 32]⟩] w fun e w' => e = .returned (.string (mkS (joinB P))) ∧ Below w.heap.size w w' := by
  rcases ho.2 with ⟨hv, hn⟩ | ⟨g, cap, cur, hv, hb, hg, hcap, -⟩
  · have hP0 : P = [] := List.eq_nil_of_length_eq_zero hn
    subst hP0
    rw [hv]
    exact jnone_any 0 none w
  · have hcells : ∀ (j : Nat) (x : ByteArray), (P.map mkS)[j]? = some x → w.cell? ⟨g, 0 + j, none⟩ = some (.string x) := by
      intro j x hx
      rw [List.getElem?_map] at hx
      obtain ⟨t, ht, rfl⟩ := Option.map_eq_some_iff.1 hx
      obtain ⟨a, c, e, hc⟩ := isStrs_own ho
      rw [hv] at e
      injection e with e1 _ _
      obtain ⟨b, o, e3, hc⟩ := hc j t ht
      rw [← e1] at e3
      injection e3 with e3
      injection e3 with e4 e5
      subst e4 e5
      exact hc
    have hlt := (ho.lt g (by rw [hv]; rfl)).2
    have h := Tryd.strings_Join g 0 cap (P.map mkS) ⟨#[44, 32]⟩ w hcells hlt (by rw [List.length_map]; omega) (by rw [List.length_map]; exact hcap) (by rw [map_mkS]; exact Nat.le_trans hj (by omega))
    rw [map_mkS, List.length_map] at h
    rw [hv]
    exact h

end Tk
end Go.Proofs.YthooghgiokgdhaaDoor
