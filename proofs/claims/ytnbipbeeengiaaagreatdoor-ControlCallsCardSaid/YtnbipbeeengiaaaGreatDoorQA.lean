/- Tok0 Small0 Num0 Base Cln Kin All Bld BldB Quo Unq0, put together. -/
import Derived.Lib.SlTrimSet
import Derived.Lib.Strings
import Derived.Test.YtnbipbeeengiaaaGreatDoorRows
import Derived.WalkKit
import Derived.WalkSpells
import Derived.WalkLawsBesides
import Derived.Lib.Hide
import Derived.Test.YtnbipbeeengiaaaGreatDoorShelf
import Derived.BigQuiet
import Derived.Deep.QuietTactic
import Derived.IntWalk
import Derived.OwnWalk
import Derived.Handy
import Derived.Great.BuildSlice
import Derived.Deep.WholeRow
import Derived.Shelf.Strings.Builder1
namespace Go.Proofs.YtnbipbeeengiaaaGreatDoor
namespace Tk

abbrev Bs := List UInt8
def mkS (l : Bs) : ByteArray := ⟨l.toArray⟩
def bs (s : ByteArray) : Bs := s.data.toList
@[simp] theorem bs_mkS (l : Bs) : bs (mkS l) = l := rfl
@[simp] theorem mkS_bs (s : ByteArray) : mkS (bs s) = s := by cases s; rfl
theorem size_mkS (l : Bs) : (mkS l).size = l.length := by show l.toArray.size = _; simp
theorem length_bs (s : ByteArray) : (bs s).length = s.size := Array.length_toList
theorem mkS_inj {a b : Bs} (h : mkS a = mkS b) : a = b := by have := congrArg bs h; simpa using this

theorem mkS_append (a b : Bs) : mkS a ++ mkS b = mkS (a ++ b) := by
  apply ByteArray.ext
  apply Array.ext'
  rw [ByteArray.data_append]
  simp [mkS]
def trimL (l : Bs) : Bs := Lib.trimS l [32, 9]

theorem getD_bs (s : ByteArray) (k : Nat) (h : k < s.size) : (bs s).getD k 0 = s[k] := by
  have h' : k < (bs s).length := by rw [length_bs]; exact h
  rw [List.getD, List.getElem?_eq_getElem h']
  rfl
theorem u8_is (c : UInt8) (n : Nat) (hn : n < 256) (h : ((c.toNat : Int) == (n : Int)) = true) : c = UInt8.ofNat n := by
  rw [beq_iff_eq] at h
  apply UInt8.toNat_inj.1
  rw [UInt8.toNat_ofNat']; omega
theorem u8_not (c : UInt8) (n : Nat) (h : ((c.toNat : Int) == (n : Int)) = false) (hn : n < 256) : c ≠ UInt8.ofNat n := by
  rw [beq_eq_false_iff_ne] at h
  intro e
  subst e
  rw [UInt8.toNat_ofNat'] at h
  omega

theorem toList_bs (s : ByteArray) : s.toList = bs s := ByteArray.toList_eq s
theorem bs_extract (s : ByteArray) (a b : Nat) : bs (s.extract a b) = ((bs s).drop a).take (b - a) := Lib.extract_data s a b
theorem extract_mkS (s : ByteArray) (a b : Nat) : s.extract a b = mkS (((bs s).drop a).take (b - a)) := by rw [← bs_extract, mkS_bs]

/-- from behind a quote: how far to the one that closes -/
def closeLen : Bs → Nat
  | [] => 0
  | [c] => if c = 92 then 2 else if c = 34 then 0 else 1
  | c :: d :: t => if c = 92 then 2 + closeLen t else if c = 34 then 0 else 1 + closeLen (d :: t)

/-- the pieces between commas; mode 0: outside quotes, 1: inside, 2: behind a backslash -/
def spl : Nat → Bs → Bs → List Bs
  | _, cur, [] => [cur]
  | 0, cur, c :: t => if c = 44 then cur :: spl 0 [] t else if c = 34 then spl 1 (cur ++ [c]) t else spl 0 (cur ++ [c]) t
  | 1, cur, c :: t => if c = 92 then spl 2 (cur ++ [c]) t else if c = 34 then spl 0 (cur ++ [c]) t else spl 1 (cur ++ [c]) t
  | _ + 2, cur, c :: t => spl 1 (cur ++ [c]) t

def addP (t : Bs) : List Bs := if t = [] then [] else [t]
def parts (l : List Bs) : List Bs := l.flatMap fun p => addP (trimL p)
def splitL (l : Bs) : List Bs := parts (spl 0 [] l)

theorem parts_cons (p : Bs) (l : List Bs) : parts (p :: l) = addP (trimL p) ++ parts l := by simp [parts]
theorem parts_one (p : Bs) : parts [p] = addP (trimL p) := by simp [parts]

theorem spl_close : ∀ (r cur : Bs), spl 1 cur r = spl 0 (cur ++ r.take (closeLen r + 1)) (r.drop (closeLen r + 1))
  | [], cur => by simp [spl]
  | [c], cur => by
    by_cases h : c = 92
    · subst h; simp [spl, closeLen]
    · by_cases h2 : c = 34
      · subst h2; simp [spl, closeLen]
      · simp [spl, closeLen, h, h2]
  | c :: d :: t, cur => by
    by_cases h : c = 92
    · subst h
      have ih := spl_close t (cur ++ [92] ++ [d])
      simp only [spl, closeLen, if_true]
      rw [ih]
      simp [Nat.add_comm 2, List.take_succ_cons, List.drop_succ_cons]
    · by_cases h2 : c = 34
      · subst h2; simp [spl, closeLen]
      · have ih := spl_close (d :: t) (cur ++ [c])
        rw [spl, if_neg h, if_neg h2, ih]
        simp only [closeLen, if_neg h, if_neg h2]
        simp [Nat.add_comm 1, List.take_succ_cons, List.drop_succ_cons]

theorem drop_cons (l : Bs) (i : Nat) (h : i < l.length) : l.drop i = l.getD i 0 :: l.drop (i + 1) := by
  rw [List.drop_eq_getElem_cons h]; simp [List.getD, h]
theorem take_snoc (l : Bs) (i : Nat) (h : i < l.length) : l.take (i + 1) = l.take i ++ [l.getD i 0] := by
  rw [List.take_succ_eq_append_getElem h]; simp [List.getD, h]

theorem closeLen_bs (r : Bs) (h : r = 92 :: r.tail) : closeLen r = 2 + closeLen (r.drop 2) := by
  match r, h with
  | [c], h => simp at h; subst h; simp [closeLen]
  | c :: d :: t, h => simp at h; subst h; simp [closeLen]
theorem closeLen_q (t : Bs) : closeLen (34 :: t) = 0 := by cases t <;> simp [closeLen]
theorem closeLen_o (c : UInt8) (t : Bs) (h : c ≠ 92) (h2 : c ≠ 34) : closeLen (c :: t) = 1 + closeLen t := by
  cases t with
  | nil => simp [closeLen, h, h2]
  | cons d t => simp [closeLen, h, h2]

theorem closeLen_le : ∀ r : Bs, closeLen r ≤ r.length + 1
  | [] => by simp [closeLen]
  | [c] => by simp only [closeLen, List.length_singleton]; split; omega; split <;> omega
  | c :: d :: t => by
    have h1 := closeLen_le t
    have h2 := closeLen_le (d :: t)
    simp only [closeLen, List.length_cons] at *
    split; omega; split <;> omega

/-- what the search for pieces holds at place i: the pieces found, and the piece begun at b -/
def splAt (l : Bs) (b i : Nat) : List Bs := parts (spl 0 ((l.take i).drop b) (l.drop i))
theorem splAt_start (l : Bs) : splitL l = splAt l 0 0 := by simp [splAt, splitL]
theorem splAt_end (l : Bs) (b i : Nat) (h : l.length ≤ i) : splAt l b i = addP (trimL (l.drop b)) := by
  unfold splAt
  rw [List.take_of_length_le h, List.drop_eq_nil_of_le h, spl, parts_one]
theorem splAt_comma (l : Bs) (b i : Nat) (hi : i < l.length) (hc : l.getD i 0 = 44) : splAt l b i = addP (trimL ((l.drop b).take (i - b))) ++ splAt l (i + 1) (i + 1) := by
  unfold splAt
  rw [drop_cons l i hi, hc, spl, if_pos rfl, parts_cons, List.drop_take, List.drop_take, Nat.sub_self, List.take_zero]
theorem splAt_other (l : Bs) (b i : Nat) (hi : i < l.length) (hb : b ≤ i) (h1 : l.getD i 0 ≠ 44) (h2 : l.getD i 0 ≠ 34) : splAt l b i = splAt l b (i + 1) := by
  unfold splAt
  rw [drop_cons l i hi, spl, if_neg h1, if_neg h2, take_snoc l i hi, List.drop_append_of_le_length (by rw [List.length_take]; omega)]
theorem splAt_quote (l : Bs) (b i : Nat) (hi : i < l.length) (hb : b ≤ i) (hc : l.getD i 0 = 34) : splAt l b i = splAt l b (i + 1 + closeLen (l.drop (i + 1)) + 1) := by
  unfold splAt
  rw [drop_cons l i hi, hc, spl, if_neg (by decide), if_pos rfl, spl_close, List.drop_drop]
  rw [show i + 1 + closeLen (l.drop (i + 1)) + 1 = i + 1 + (closeLen (l.drop (i + 1)) + 1) by omega]
  generalize closeLen (l.drop (i + 1)) + 1 = K
  rw [List.take_add (i := i + 1), take_snoc l i hi, hc, List.append_assoc (l.take i), List.drop_append_of_le_length (by rw [List.length_take]; omega), List.append_assoc]

def lowB (c : UInt8) : UInt8 := if 65 ≤ c.toNat ∧ c.toNat ≤ 90 then c + 32 else c
def lowL (l : Bs) : Bs := l.map lowB
theorem lowB_up (c : UInt8) (h0 : 65 ≤ c.toNat) (h1 : c.toNat ≤ 90) : ((lowB c).toNat : Int) = (c.toNat : Int) - 65 + 97 := by
  unfold lowB; rw [if_pos ⟨h0, h1⟩, UInt8.toNat_add]
  have : (32 : UInt8).toNat = 32 := rfl
  omega
theorem lowB_same (c : UInt8) (h : ¬ (65 ≤ c.toNat ∧ c.toNat ≤ 90)) : lowB c = c := by unfold lowB; rw [if_neg h]
theorem lowB_lowB (c : UInt8) : lowB (lowB c) = lowB c := by
  by_cases h : 65 ≤ c.toNat ∧ c.toNat ≤ 90
  · have := lowB_up c h.1 h.2
    exact lowB_same _ (by omega)
  · rw [lowB_same c h, lowB_same c h]
theorem lowL_lowL (l : Bs) : lowL (lowL l) = lowL l := by unfold lowL; rw [List.map_map]; exact List.map_congr_left fun c _ => lowB_lowB c
theorem length_lowL (l : Bs) : (lowL l).length = l.length := by simp [lowL]
def hasQ (l : Bs) : Bool := l.contains 34

theorem trim_sublist (l : Bs) : (trimL l).length ≤ l.length := by
  have dw : ∀ (p : UInt8 → Bool) (l : Bs), (l.dropWhile p).length ≤ l.length := fun p l => by
    induction l with
    | nil => simp
    | cons a t ih => rw [List.dropWhile_cons]; split; exact Nat.le_succ_of_le ih; exact Nat.le_refl _
  unfold trimL Lib.trimS Lib.trimLeftS Lib.trimRightS
  refine Nat.le_trans (dw _ _) ?_
  rw [List.length_reverse]
  exact Nat.le_trans (dw _ _) (by rw [List.length_reverse]; exact Nat.le_refl _)

def closing (l : Bs) (i : Nat) : Nat := i + 1 + closeLen (l.drop (i + 1))
theorem bs_head (s : ByteArray) (h : 0 < s.size) : (bs s).head? = some s[0] := by
  rw [List.head?_eq_getElem?, List.getElem?_eq_getElem (by rw [length_bs]; exact h)]; rfl
theorem bs_drop (s : ByteArray) (i : Nat) (h : i < s.size) : (bs s).drop i = s[i] :: (bs s).drop (i + 1) := by
  rw [List.drop_eq_getElem_cons (by rw [length_bs]; exact h)]; rfl
theorem empty_of (s : ByteArray) (h : s.size = 0) : s.toList.isEmpty = true := by
  rw [toList_bs, List.isEmpty_iff, ← List.length_eq_zero_iff, length_bs]; exact h
theorem not_empty_of (s : ByteArray) (h : 0 < s.size) : s.toList.isEmpty = false := by
  rw [toList_bs]
  cases e : bs s with
  | nil => have := length_bs s; rw [e] at this; simp at this; omega
  | cons c t => rfl
end Tk
end Go.Proofs.YtnbipbeeengiaaaGreatDoor
namespace Go.Proofs.YtnbipbeeengiaaaGreatDoor
namespace Tk

def wh (c : UInt8) : Bool := [32, 9].contains c
/-- no white space at either end -/
def Neat (l : Bs) : Prop := (∀ c, l.head? = some c → wh c = false) ∧ (∀ c, l.getLast? = some c → wh c = false)

theorem dropWhile_head (l : Bs) : ∀ c, (l.dropWhile wh).head? = some c → wh c = false := by
  induction l with
  | nil => intro c h; simp at h
  | cons a t ih =>
    intro c h
    rw [List.dropWhile_cons] at h
    cases ha : wh a with
    | true => rw [ha, if_pos rfl] at h; exact ih c h
    | false => rw [ha, if_neg (by decide)] at h; simp at h; rw [← h]; exact ha
theorem dropWhile_last (l : Bs) : ∀ c, (l.dropWhile wh).getLast? = some c → l.getLast? = some c := by
  induction l with
  | nil => intro c h; exact h
  | cons a t ih =>
    intro c h
    rw [List.dropWhile_cons] at h
    cases ha : wh a with
    | true =>
      rw [ha, if_pos rfl] at h
      have h2 := ih c h
      cases t with
      | nil => simp at h2
      | cons b u => rw [List.getLast?_cons_cons]; exact h2
    | false => rw [ha, if_neg (by decide)] at h; exact h
theorem dropWhile_same (l : Bs) (h : ∀ c, l.head? = some c → wh c = false) : l.dropWhile wh = l := by
  cases l with
  | nil => rfl
  | cons a t => rw [List.dropWhile_cons, h a rfl, if_neg (by decide)]

def tr (l : Bs) : Bs := (l.reverse.dropWhile wh).reverse
theorem trimL_eq (l : Bs) : trimL l = (tr l).dropWhile wh := rfl
theorem tr_last (l : Bs) : ∀ c, (tr l).getLast? = some c → wh c = false := by
  intro c h
  unfold tr at h
  rw [List.getLast?_reverse] at h
  exact dropWhile_head _ c h
theorem trim_neat (l : Bs) : Neat (trimL l) := by
  rw [trimL_eq]
  exact ⟨dropWhile_head _, fun c h => tr_last l c (dropWhile_last _ c h)⟩
theorem neat_trim (l : Bs) (h : Neat l) : trimL l = l := by
  have h1 : tr l = l := by
    unfold tr
    rw [dropWhile_same _ (fun c hc => h.2 c (by rw [List.head?_reverse] at hc; exact hc)), List.reverse_reverse]
  rw [trimL_eq, h1, dropWhile_same l h.1]
theorem trim_trim (l : Bs) : trimL (trimL l) = trimL l := neat_trim _ (trim_neat l)

theorem tr_snoc (l : Bs) : tr (l ++ [9]) = tr l := by
  unfold tr
  rw [List.reverse_append]
  show ((9 :: l.reverse).dropWhile wh).reverse = _
  rw [List.dropWhile_cons, show wh 9 = true by decide, if_pos rfl]
theorem dropWhile_append (l m : Bs) : (l ++ m).dropWhile wh = if l.dropWhile wh = [] then m.dropWhile wh else l.dropWhile wh ++ m := by
  induction l with
  | nil => simp
  | cons a t ih =>
    rw [List.cons_append, List.dropWhile_cons, List.dropWhile_cons]
    cases ha : wh a with
    | true => rw [if_pos rfl, if_pos rfl]; exact ih
    | false => simp
theorem tr_cons (l : Bs) : (tr (32 :: l)).dropWhile wh = (tr l).dropWhile wh := by
  unfold tr
  rw [List.reverse_cons, dropWhile_append]
  by_cases h : l.reverse.dropWhile wh = []
  · rw [if_pos h, h]; decide
  · rw [if_neg h, List.reverse_append]
    show (32 :: (l.reverse.dropWhile wh).reverse).dropWhile wh = _
    rw [List.dropWhile_cons, show wh 32 = true by decide, if_pos rfl]
theorem trim_around (l : Bs) : trimL ([32] ++ l ++ [9]) = trimL l := by
  rw [trimL_eq, trimL_eq, tr_snoc]
  exact tr_cons l

theorem split_neat (l : Bs) : ∀ p ∈ splitL l, p ≠ [] ∧ trimL p = p := by
  intro p hp
  unfold splitL parts at hp
  rw [List.mem_flatMap] at hp
  obtain ⟨x, -, hx⟩ := hp
  unfold addP at hx
  split at hx
  · simp at hx
  · rename_i hne
    rw [List.mem_singleton] at hx
    subst hx
    exact ⟨hne, trim_trim x⟩

theorem spl_app : ∀ (s cur t : Bs), hasQ s = false → spl 0 cur (s ++ 44 :: t) = spl 0 cur s ++ spl 0 [] t
  | [], cur, t, _ => by simp [spl]
  | c :: s, cur, t, h => by
    have hc : c ≠ 34 := fun e => by subst e; simp [hasQ] at h
    have hs : hasQ s = false := by
      unfold hasQ at *
      rw [List.contains_cons, Bool.or_eq_false_iff] at h
      exact h.2
    rw [List.cons_append]
    by_cases h44 : c = 44
    · subst h44
      rw [spl, if_pos rfl, spl, if_pos rfl, spl_app s [] t hs]; rfl
    · rw [spl, if_neg h44, if_neg hc, spl_app s _ t hs]
      rw [show spl 0 cur (c :: s) = spl 0 (cur ++ [c]) s by rw [spl, if_neg h44, if_neg hc]]
theorem split_app (s t : Bs) (h : hasQ s = false) : splitL (s ++ [44] ++ t) = splitL s ++ splitL t := by
  unfold splitL
  rw [List.append_assoc]
  show parts (spl 0 [] (s ++ 44 :: t)) = _
  rw [spl_app s [] t h]
  simp [parts]
theorem spl_len : ∀ (l : Bs) (m : Nat) (cur : Bs), (spl m cur l).length ≤ l.length + 1
  | [], m, cur => by cases m <;> simp [spl]
  | c :: t, 0, cur => by
    rw [spl]
    split
    · have := spl_len t 0 []; simp; omega
    · split
      · have := spl_len t 1 (cur ++ [c]); simp; omega
      · have := spl_len t 0 (cur ++ [c]); simp; omega
  | c :: t, 1, cur => by
    rw [spl]
    split
    · have := spl_len t 2 (cur ++ [c]); simp; omega
    · split
      · have := spl_len t 0 (cur ++ [c]); simp; omega
      · have := spl_len t 1 (cur ++ [c]); simp; omega
  | c :: t, m + 2, cur => by
    rw [spl]
    have := spl_len t 1 (cur ++ [c]); simp; omega
theorem parts_len (l : List Bs) : (parts l).length ≤ l.length := by
  induction l with
  | nil => simp [parts]
  | cons a t ih =>
    rw [parts_cons, List.length_append]
    have : (addP (trimL a)).length ≤ 1 := by unfold addP; split <;> simp
    simp; omega
theorem split_len (l : Bs) : (splitL l).length ≤ l.length + 1 := Nat.le_trans (parts_len _) (spl_len l 0 [])
theorem spl_piece : ∀ (l : Bs) (m : Nat) (cur : Bs), ∀ p ∈ spl m cur l, p.length ≤ cur.length + l.length
  | [], m, cur => by cases m <;> simp [spl]
  | c :: t, 0, cur => by
    rw [spl]
    split
    · intro p hp
      rcases List.mem_cons.1 hp with rfl | hp
      · simp
      · have := spl_piece t 0 [] p hp; simp at *; omega
    · split
      · intro p hp; have := spl_piece t 1 (cur ++ [c]) p hp; simp at *; omega
      · intro p hp; have := spl_piece t 0 (cur ++ [c]) p hp; simp at *; omega
  | c :: t, 1, cur => by
    rw [spl]
    split
    · intro p hp; have := spl_piece t 2 (cur ++ [c]) p hp; simp at *; omega
    · split
      · intro p hp; have := spl_piece t 0 (cur ++ [c]) p hp; simp at *; omega
      · intro p hp; have := spl_piece t 1 (cur ++ [c]) p hp; simp at *; omega
  | c :: t, m + 2, cur => by
    rw [spl]
    intro p hp; have := spl_piece t 1 (cur ++ [c]) p hp; simp at *; omega
theorem split_piece (l p : Bs) (h : p ∈ splitL l) : p.length ≤ l.length := by
  unfold splitL parts at h
  rw [List.mem_flatMap] at h
  obtain ⟨x, hx, hp⟩ := h
  have h1 := spl_piece l 0 [] x hx
  have h2 := trim_sublist x
  unfold addP at hp
  split at hp
  · simp at hp
  · rw [List.mem_singleton] at hp; subst hp; simp at h1; omega
end Tk
end Go.Proofs.YtnbipbeeengiaaaGreatDoor
namespace Go.Proofs.YtnbipbeeengiaaaGreatDoor
namespace Tk

def maxN : Nat := 9007199254740991
def isDig (c : UInt8) : Bool := decide (48 ≤ c.toNat) && decide (c.toNat ≤ 57)
def numGo : Nat → Bs → Nat × Nat
  | n, [] => if maxN < n then (0, 3) else (n, 0)
  | n, c :: t => if isDig c = true then numGo (if n ≤ maxN then n * 10 + (c.toNat - 48) else n) t else (0, 4)
def numL (l : Bs) : Nat × Nat := if l = [] then (0, 4) else numGo 0 l

def digL (n : Nat) : Bs := if h : n < 10 then [UInt8.ofNat (48 + n)] else digL (n / 10) ++ [UInt8.ofNat (48 + n % 10)]
def valFrom (a : Nat) (l : Bs) : Nat := l.foldl (fun a c => a * 10 + (c.toNat - 48)) a

theorem valFrom_ge : ∀ (l : Bs) (a : Nat), a ≤ valFrom a l
  | [], a => Nat.le_refl _
  | c :: t, a => by
    have := valFrom_ge t (a * 10 + (c.toNat - 48))
    show a ≤ valFrom (a * 10 + (c.toNat - 48)) t
    omega
theorem numGo_val : ∀ (l : Bs) (n : Nat), (∀ c ∈ l, isDig c = true) → numGo n l = if maxN < valFrom n l then (0, 3) else (valFrom n l, 0)
  | [], n, _ => rfl
  | c :: t, n, h => by
    have hc : isDig c = true := h c (by simp)
    have ht : ∀ x ∈ t, isDig x = true := fun x hx => h x (by simp [hx])
    rw [numGo, if_pos hc]
    by_cases hn : n ≤ maxN
    · rw [if_pos hn, numGo_val t _ ht]; rfl
    · rw [if_neg hn, numGo_val t n ht]
      have h1 := valFrom_ge t n
      have h2 : n ≤ valFrom n (c :: t) := valFrom_ge (c :: t) n
      rw [if_pos (by omega), if_pos (by omega)]
theorem numGo_bad : ∀ (l : Bs) (n : Nat), (∃ c ∈ l, isDig c = false) → numGo n l = (0, 4)
  | [], n, h => by simp at h
  | c :: t, n, h => by
    by_cases hc : isDig c = true
    · rw [numGo, if_pos hc]
      refine numGo_bad t _ ?_
      obtain ⟨x, hx, hb⟩ := h
      rcases List.mem_cons.1 hx with rfl | hx
      · rw [hc] at hb; cases hb
      · exact ⟨x, hx, hb⟩
    · rw [numGo, if_neg hc]

theorem dig_toNat (d : Nat) (h : d < 10) : (UInt8.ofNat (48 + d)).toNat = 48 + d := by rw [UInt8.toNat_ofNat']; omega
theorem isDig_ofNat (d : Nat) (h : d < 10) : isDig (UInt8.ofNat (48 + d)) = true := by
  unfold isDig; rw [dig_toNat d h]; simp; omega
theorem digL_small (n : Nat) (h : n < 10) : digL n = [UInt8.ofNat (48 + n)] := by rw [digL, dif_pos h]
theorem digL_big (n : Nat) (h : ¬ n < 10) : digL n = digL (n / 10) ++ digL (n % 10) := by
  rw [digL, dif_neg h, digL_small (n % 10) (by omega)]
theorem digL_digits : ∀ (k n : Nat), n ≤ k → ∀ c ∈ digL n, isDig c = true
  | 0, n, h => by
    rw [digL_small n (by omega)]
    intro c hc
    rw [List.mem_singleton] at hc
    subst hc
    exact isDig_ofNat n (by omega)
  | k + 1, n, h => by
    by_cases hn : n < 10
    · rw [digL_small n hn]
      intro c hc
      rw [List.mem_singleton] at hc
      subst hc
      exact isDig_ofNat n hn
    · rw [digL_big n hn]
      intro c hc
      rcases List.mem_append.1 hc with hc | hc
      · exact digL_digits k (n / 10) (by omega) c hc
      · exact digL_digits k (n % 10) (by omega) c hc
theorem valFrom_append (a : Nat) (l m : Bs) : valFrom a (l ++ m) = valFrom (valFrom a l) m := by simp [valFrom]
theorem valFrom_dig : ∀ (k n : Nat), n ≤ k → valFrom 0 (digL n) = n
  | 0, n, h => by
    rw [digL_small n (by omega)]
    show 0 * 10 + ((UInt8.ofNat (48 + n)).toNat - 48) = n
    rw [dig_toNat n (by omega)]; omega
  | k + 1, n, h => by
    by_cases hn : n < 10
    · rw [digL_small n hn]
      show 0 * 10 + ((UInt8.ofNat (48 + n)).toNat - 48) = n
      rw [dig_toNat n hn]; omega
    · rw [digL_big n hn, valFrom_append, valFrom_dig k (n / 10) (by omega), digL_small (n % 10) (by omega)]
      show n / 10 * 10 + ((UInt8.ofNat (48 + n % 10)).toNat - 48) = n
      rw [dig_toNat (n % 10) (by omega)]; omega
theorem valFrom_zeros : ∀ k, valFrom 0 (List.replicate k 48) = 0
  | 0 => rfl
  | k + 1 => by
    rw [List.replicate_succ]
    show valFrom 0 (List.replicate k 48) = 0
    exact valFrom_zeros k
theorem digL_ne (n : Nat) : digL n ≠ [] := by
  rw [digL]; split <;> simp

/-- the first half of the law -/
theorem num_zeros (k n : Nat) : numL (List.replicate k 48 ++ digL n) = if maxN < n then (0, 3) else (n, 0) := by
  unfold numL
  rw [if_neg (by simp [digL_ne]), numGo_val _ _ ?_, valFrom_append, valFrom_zeros, valFrom_dig n n (Nat.le_refl _)]
  intro c hc
  rcases List.mem_append.1 hc with hc | hc
  · rw [List.mem_replicate] at hc; rw [hc.2]; rfl
  · exact digL_digits n n (Nat.le_refl _) c hc
/-- the second half -/
theorem num_bad (l m : Bs) (c : UInt8) (h : isDig c = false) : numL (l ++ [c] ++ m) = (0, 4) := by
  unfold numL
  rw [if_neg (by simp), numGo_bad _ _ ⟨c, by simp, h⟩]
theorem digL_len : ∀ (k n : Nat), n < 10 ^ (k + 1) → (digL n).length ≤ k + 1
  | 0, n, h => by rw [digL_small n (by omega)]; simp
  | k + 1, n, h => by
    by_cases hn : n < 10
    · rw [digL_small n hn]; simp
    · rw [digL_big n hn, List.length_append, digL_small (n % 10) (by omega)]
      have := digL_len k (n / 10) (by rw [Nat.pow_succ] at h; omega)
      simp; omega
end Tk
end Go.Proofs.YtnbipbeeengiaaaGreatDoor

namespace Go.Proofs.YtnbipbeeengiaaaGreatDoor
open Go.RowKit
namespace Tk

def StrPost (text : Bs) (w : World) (r : Ending) (w' : World) : Prop := r = .returned (.string (mkS text)) ∧ Below w.heap.size w w'

set_option maxHeartbeats 400000 in
theorem clone_any (s : ByteArray) (w : World) (h : s.size ≤ 1099511627776) :
    Calls Tryz.prog 90 #[.string s] w (StrPost (bs s) w) := by
  have H := Lib.hid (Tryz.stringslite_Clone s w (by omega))
  go_enter Tryz.func90, Tryz.ntmps90
  go_wp2_with fail
  refine H.out.mono ?_
  rintro e w' ⟨rfl, hb⟩
  have HB := Lib.hid hb
  clear hb
  go_wp2_with fail
  go_ret
  exact ⟨by rw [mkS_bs]; rfl, HB.out⟩
end Tk
end Go.Proofs.YtnbipbeeengiaaaGreatDoor
namespace Go.Proofs.YtnbipbeeengiaaaGreatDoor
open Go.RowKit
namespace Tk

/-- the kind of each byte, by ranges -/
def kindOf (c : Nat) : Int :=
  if c = 9 then 1 else if c < 32 then 0 else if 128 ≤ c then 1 else if c = 127 then 0
  else if [32, 34, 40, 41, 44, 47, 58, 59, 60, 61, 62, 63, 64, 91, 92, 93, 123, 125].contains c then 1 else 2
def kindL : List Int := (List.range 256).map kindOf

/-- 256 kinds, none said -/
def zk : Array Value := Array.replicate 256 (.int .u8 0)
theorem kind_zero (w : World) : (zeroValue 201).run Tryz.prog w = .ok (.agg zk) w := by kernel_rfl

set_option maxHeartbeats 1000000 in
set_option maxRecDepth 100000 in
theorem kinds_any (w : World) :
    Calls Tryz.prog 169 #[] w fun e w' => e = .returned (.agg (kindL.map (Value.int .u8)).toArray) ∧ Below w.heap.size w w' := by
  have hzk := kind_zero
  go_enter Tryz.func169, Tryz.ntmps169
  go_wp2_with (refine wpList_buildFlatArrTo rfl 201 179 256 _ rfl .u8 kindL (some 1) rfl (by kernel_rfl) (by kernel_rfl) (by kernel_rfl) (by kernel_rfl) ?_)
  have hld := run_loadVar_new (P := Tryz.prog) w 201 (kindL.map (Value.int .u8)).toArray 256 179 Tryz.underlying201 (by kernel_rfl)
  first
  | simp only [Result.andThen, run_storeCells_new (P := Tryz.prog) w 201 zk (kindL.map (Value.int .u8)).toArray (by kernel_rfl) (by kernel_rfl) (by kernel_rfl)]
  | simp only [Result.andThen, run_storeCells_new (P := Tryz.prog) w 201 Tryz.zeroCells201 (kindL.map (Value.int .u8)).toArray (by kernel_rfl) (by kernel_rfl) (by kernel_rfl)]
  rw [Oper.upon_skip]
  go_wp2_with fail
  refine bodyPost_ret (v := .agg (kindL.map (Value.int .u8)).toArray) ?_ rfl ⟨rfl, (Below.refl _ _).alloc (Nat.le_refl _) _⟩
  exact results_cell_row rfl _ _ w.heap.size 201 _ (0, 0) _ rfl (heap_alloc_last w _) Tryz.underlying201 rfl (by kernel_rfl)
end Tk
end Go.Proofs.YtnbipbeeengiaaaGreatDoor
namespace Go.Proofs.YtnbipbeeengiaaaGreatDoor
open Go.RowKit
namespace Tk

def allL (k : Int) (l : Bs) : Bool := l.all fun c => decide (k ≤ kindOf c.toNat)

theorem allL_cons (k : Int) (c : UInt8) (t : Bs) : allL k (c :: t) = (decide (k ≤ kindOf c.toNat) && allL k t) := rfl
theorem allL_append (k : Int) (a b : Bs) : allL k (a ++ b) = (allL k a && allL k b) := by unfold allL; rw [List.all_append]
theorem k92 : decide (1 ≤ kindOf (92 : UInt8).toNat) = true := by decide
theorem k34 : decide (1 ≤ kindOf (34 : UInt8).toNat) = true := by decide

theorem kindL_size : (kindL.map (Value.int .u8)).toArray.size = 256 := by kernel_rfl
theorem kindL_one : (kindL.map (Value.int .u8)).toArray.all (·.oneCell') = true := by kernel_rfl
theorem kindL_at (c : UInt8) : (kindL.map (Value.int .u8)).toArray[c.toNat]? = some (.int .u8 (kindOf c.toNat)) := by
  have h : c.toNat < 256 := c.toNat_lt
  simp [kindL, h]

set_option maxHeartbeats 1000000 in
set_option maxRecDepth 100000 in
theorem all_any (s : ByteArray) (k : Int) (w : World) (hs : s.size ≤ 1099511627776) :
    Calls Tryz.prog 143 #[.string s, .int .u8 k] w fun e w' => e = .returned (.bool (allL k (bs s))) ∧ Below w.heap.size w w' := by
  have hks := kindL_size
  have hk1 := kindL_one
  have hka := Lib.hid kindL_at
  have HK := Lib.hid (kinds_any w)
  generalize (kindL.map (Value.int .u8)).toArray = ks at *
  have hzk := kind_zero
  go_enter Tryz.func143, Tryz.ntmps143
  go_wp2_with fail
  refine HK.out.mono ?_
  rintro e w1 ⟨rfl, hb⟩
  have HB := Lib.hid hb
  clear hb
  go_wp2_with fail
  first
  | simp only [Result.andThen, run_storeCells_new (P := Tryz.prog) w1 201 zk ks (by rw [hks]; kernel_rfl) (by rw [hks]; kernel_rfl) hk1]
  | simp only [Result.andThen, run_storeCells_new (P := Tryz.prog) w1 201 Tryz.zeroCells201 ks (by rw [hks]; kernel_rfl) (by rw [hks]; kernel_rfl) hk1]
  rw [Oper.upon_skip]
  have hcell : ∀ c : UInt8, (w1.alloc (Obj.cells ks 201)).cell? ⟨w1.heap.size, c.toNat, none⟩ = some (.int .u8 (kindOf c.toNat)) := fun c => by
    rw [Lib.cell_of_heap (heap_alloc_last w1 _)]; exact hka.out c
  have HC := Lib.hid hcell
  have HB2 := Lib.hid ((HB.out).alloc HB.out.size (Obj.cells ks 201))
  clear hcell hka hks hk1 HK hzk
  generalize hW : w1.alloc (Obj.cells ks 201) = W at *
  clear hW
  generalize w1.heap.size = g at *
  go_wp2_with fail
  go_loopw [10] (fun v wr => ∃ i : Nat, i ≤ s.size ∧ v = .int .i64 i ∧ wr = W ∧ Hid (allL k (bs s) = allL k ((bs s).drop i))) (fun v _ => s.size - (RowKit.intOf v).toNat)
  case atStart => exact ⟨0, Nat.zero_le _, rfl, rfl, rfl⟩
  case round =>
    obtain ⟨i, hi, rfl, rfl, hd⟩ := hrel
    by_cases hlt : i < s.size
    · have hc := HC.out s[i]
      have hu := s[i].toNat_lt
      have hdrop : (bs s).drop i = s[i] :: (bs s).drop (i + 1) := by
        rw [List.drop_eq_getElem_cons (by rw [length_bs]; exact hlt)]; rfl
      have HD := Lib.hid hdrop
      clear hdrop
      by_cases hk : kindOf s[i].toNat < k
      · go_wp2_with fail
        have fin : allL k (bs s) = false := by
          rw [hd.out, HD.out]
          have : decide (k ≤ kindOf s[i].toNat) = false := by simp; omega
          unfold allL; rw [List.all_cons, this]; rfl
        go_ret
        exact ⟨by rw [fin]; rfl, HB2.out⟩
      · go_wp2_with fail
        refine ⟨⟨i + 1, by omega, by go_num, trivial, ?_⟩, by simp [RowKit.intOf]; omega⟩
        show _ = _
        rw [hd.out, HD.out]
        have : k ≤ kindOf s[i].toNat := by omega
        simp [allL, this]
    · go_wp2_with fail
      have fin : allL k (bs s) = true := by
        rw [hd.out, List.drop_eq_nil_of_le (by rw [length_bs]; omega)]; rfl
      go_ret
      exact ⟨by rw [fin]; rfl, HB2.out⟩
end Tk
end Go.Proofs.YtnbipbeeengiaaaGreatDoor
namespace Go.Proofs.YtnbipbeeengiaaaGreatDoor
open Go.RowKit
namespace Tk

theorem bldInfo : (Tryz.prog.info? 84).map (·.size) = some 2 := by kernel_rfl
theorem bldLies : liesAt Tryz.prog Tryz.prog.depth 84 (2 / Tryz.prog.cellsOf 84) 0 84 1 = true := by kernel_rfl

abbrev IsB (B b : Nat) (l : Bs) (w : World) : Prop := Lib.IsBuilder 84 5 B b (Lib.byteCells l) w

set_option maxHeartbeats 1000000 in
set_option maxRecDepth 100000 in
theorem check_used (b : Nat) (w : World) (h0 : w.cell? ⟨b, 0, none⟩ = some (.pointer (some ⟨b, 0, none⟩))) :
    Calls Tryz.prog 126 #[.pointer (some ⟨b, 0, none⟩)] w fun e w' => e = .returned (.tuple #[]) ∧ w' = w := by
  obtain ⟨j, hj, _⟩ := Option.map_eq_some_iff.1 bldInfo
  go_enter Tryz.func126, Tryz.ntmps126
  go_wp2_with fail
  rw [Lib.run_neq_ptr_same w _ Tryz.underlying81 hj]
  go_wp2_with fail
  go_end0
  exact ⟨rfl, rfl⟩

set_option maxHeartbeats 1000000 in
set_option maxRecDepth 100000 in
theorem check_fresh (b : Nat) (w : World) (h0 : w.cell? ⟨b, 0, none⟩ = some (.pointer none)) (hsh : w.shape? b = some (84, 2)) (hfz : w.frozen? ⟨b, 0, none⟩ = false) :
    Calls Tryz.prog 126 #[.pointer (some ⟨b, 0, none⟩)] w fun e w' => e = .returned (.tuple #[]) ∧ w' = w.setCell ⟨b, 0, none⟩ (.pointer (some ⟨b, 0, none⟩)) := by
  obtain ⟨j, hj, hjs⟩ := Option.map_eq_some_iff.1 bldInfo
  go_enter Tryz.func126, Tryz.ntmps126
  go_wp2_with fail
  rw [Lib.run_to_unsafe w ⟨b, 0, none⟩ Tryz.underlying81 Tryz.underlying190 hj (by rw [hjs]; decide) hsh (Nat.zero_lt_succ 1)]
  simp only [Result.andThen]
  rw [Oper.upon_value]
  go_wp2_with fail
  rw [run_callFunc_extern Tryz.func160 (by kernel_rfl) (by kernel_rfl) (by kernel_rfl) (e := Extern.AbiNoEscape.same) (by kernel_rfl)]
  rw [Lib.run_noEscape]
  simp only [Result.andThen]
  rw [Oper.upon_value]
  go_wp2_with fail
  rw [Lib.run_from_unsafe w ⟨b, 0, none⟩ Tryz.underlying190 Tryz.underlying81 hj hsh bldLies]
  simp only [Result.andThen]
  rw [Oper.upon_value]
  go_wp2_with fail
  go_end0
  exact ⟨rfl, rfl⟩

theorem check_any (B b : Nat) (l : Bs) (w : World) (h : IsB B b l w) :
    Calls Tryz.prog 126 #[.pointer (some ⟨b, 0, none⟩)] w fun e w' => e = .returned (.tuple #[]) ∧ (Lib.BuilderAt 84 5 B b (.pointer (some ⟨b, 0, none⟩)) (Lib.byteCells l) w' ∧ Below B w w') := by
  rcases h with h | h
  · refine (check_fresh b w h.cell0 h.shape h.frozen0).mono ?_
    rintro e w' ⟨rfl, rfl⟩
    exact ⟨rfl, h.used _, (Below.refl B w).setCell (p := ⟨b, 0, none⟩) h.1 _⟩
  · refine (check_used b w h.cell0).mono ?_
    rintro e w' ⟨rfl, rfl⟩
    exact ⟨rfl, h, Below.refl B _⟩

theorem byteInf : (Tryz.prog.info? 5).map (fun i => (i.zero, i.size, i.bytes)) = some (some (.int .u8 0), 1, 1) := by kernel_rfl

end Tk
end Go.Proofs.YtnbipbeeengiaaaGreatDoor
namespace Go.Proofs.YtnbipbeeengiaaaGreatDoor
open Go.RowKit
namespace Tk

set_option maxHeartbeats 2000000 in
set_option maxRecDepth 100000 in
theorem writeByte (B b : Nat) (l : Bs) (c : UInt8) (w : World) (h : IsB B b l w) (hlen : l.length + 1 ≤ 1099511627776) (hBw : B ≤ w.heap.size) :
    Calls Tryz.prog 144 #[.pointer (some ⟨b, 0, none⟩), .int .u8 c.toNat] w fun e w' => e = .returned .nilIface ∧ IsB B b (l ++ [c]) w' ∧ Below B w w' := by
  obtain ⟨i0, hi, hz0, hz1, hz2⟩ := info_parts byteInf
  have hl : (Lib.byteCells l).length = l.length := by simp [Lib.byteCells]
  have hcat : Lib.byteCells (l ++ [c]) = Lib.byteCells l ++ [.int .u8 c.toNat] := by simp [Lib.byteCells]
  go_enter Tryz.func144, Tryz.ntmps144
  go_wp2_with fail
  refine (check_any B b l _ h).mono ?_
  rintro e w1 ⟨rfl, h1, hb1⟩
  obtain ⟨hB, v, hbk, hown, hne⟩ := h1
  have c0 : w1.cell? ⟨b, 0, none⟩ = some (.pointer (some ⟨b, 0, none⟩)) := by rw [Lib.cell_of_heap hbk]; rfl
  have c1 : w1.cell? ⟨b, 1, none⟩ = some v := by rw [Lib.cell_of_heap hbk]; rfl
  go_wp2_with (at_builtin; refine wpList_append_own _ rfl _ _ 82 rfl B 5 i0 (.int .u8 0) 1 1 Tryz.underlying82 hi hz0 hz1 hz2 rfl (by decide) _ _ _ rfl (hown.alloc _) ⟨w1.heap.size, 0, none⟩ 1 1 [.int .u8 c.toNat] rfl rfl ?c1 ?c2 ?c3 ?c4 ?c5 ?_)
  case c1 =>
    intro j u hj
    match j, hj with
    | 0, hj => simp at hj; subst hj; simp [Addr.add]
  case c2 => intro u hu; simp at hu; subst hu; rfl
  case c3 => unfold maxLen; omega
  case c4 => omega
  case c5 => have := hb1.size; simp; omega
  intro v' w2 hown' hgrow _
  have hlt : b < w1.heap.size := by
    rcases Nat.lt_or_ge b w1.heap.size with h' | h'
    · exact h'
    · simp [Array.getElem?_eq_none h'] at hbk
  have hb2 : w2.heap[b]? = some (.cells #[.pointer (some ⟨b, 0, none⟩), v] 84 (0, 0)) := by
    rw [hgrow.block b (by simp; omega) (fun e => hne e.symm), Lib.alloc_old w1 _ b hlt]
    exact hbk
  have d0 : w2.cell? ⟨b, 0, none⟩ = some (.pointer (some ⟨b, 0, none⟩)) := by rw [Lib.cell_of_heap hb2]; rfl
  have d1 : w2.cell? ⟨b, 1, none⟩ = some v := by rw [Lib.cell_of_heap hb2]; rfl
  have f1 : w2.frozen? ⟨b, 1, none⟩ = false := Lib.frozen_of_heap hb2 1
  obtain ⟨g, cap, rfl⟩ : ∃ g cap, v' = .slice (some ⟨g, 0, none⟩) (l.length + 1) cap := by
    rcases hown'.2 with ⟨_, h0⟩ | ⟨g, cap, cur, hv, _⟩
    · omega
    · exact ⟨g, cap, hv⟩
  go_wp2_with fail
  go_ret
  refine ⟨rfl, .inr ?_, ?_⟩
  · rw [hcat]
    exact Lib.BuilderAt.put (T := 84) (e := 5) hB hb2 (bs' := Lib.byteCells l ++ [.int .u8 c.toNat]) (by simpa [hl] using hown') (by decide)
  · exact ((hb1.alloc (by have := hb1.size; omega) _).grown hgrow (by have := hb1.size; simp; omega) (fun k hk => (hown.lt k hk).1)).setCell (p := ⟨b, 1, none⟩) hB _
end Tk
end Go.Proofs.YtnbipbeeengiaaaGreatDoor
namespace Go.Proofs.YtnbipbeeengiaaaGreatDoor
open Go.RowKit
namespace Tk

def esc (c : UInt8) : Bs := if c = 34 ∨ c = 92 then [92, c] else [c]
theorem esc_len : ∀ l : Bs, (l.flatMap esc).length ≤ 2 * l.length
  | [] => by simp
  | c :: r => by
    have := esc_len r
    have h : (esc c).length ≤ 2 := by unfold esc; split <;> simp
    rw [List.flatMap_cons, List.length_append, List.length_cons]
    omega
theorem esc_take (s : ByteArray) (i : Nat) (h : i < s.size) : ((bs s).take (i + 1)).flatMap esc = ((bs s).take i).flatMap esc ++ esc s[i] := by
  have hd : (bs s).take (i + 1) = (bs s).take i ++ [s[i]] := by
    rw [List.take_add_one, List.getElem?_eq_getElem (by rw [length_bs]; exact h)]; rfl
  rw [hd, List.flatMap_append]; simp
def quoteL (l : Bs) : Bs := 34 :: (l.flatMap esc ++ [34])

end Tk
end Go.Proofs.YtnbipbeeengiaaaGreatDoor
namespace Go.Proofs.YtnbipbeeengiaaaGreatDoor
open Go.RowKit
namespace Tk

/-- what the bytes behind an opening quote say, the last one left out -/
def unq : Bs → Bs
  | [] => []
  | [_] => []
  | c :: d :: t => if c = 92 then d :: unq t else c :: unq (d :: t)

def unqOk (l : Bs) : Bool := decide (l.head? = some 34) && decide (closing l 0 + 1 = l.length) && allL 1 l

theorem unq_bs (d : UInt8) (t : Bs) : unq (92 :: d :: t) = d :: unq t := by simp [unq]
theorem unq_o (c : UInt8) (t : Bs) (h : c ≠ 92) (ht : t ≠ []) : unq (c :: t) = c :: unq t := by
  cases t with
  | nil => exact absurd rfl ht
  | cons d t => simp [unq, h]
theorem closeLen_b (d : UInt8) (t : Bs) : closeLen (92 :: d :: t) = 2 + closeLen t := by simp [closeLen]

def pairs (l : Bs) : Bs := l.flatMap fun c => [92, c]
theorem pairs_len (l : Bs) : (pairs l).length = 2 * l.length := by
  induction l with
  | nil => rfl
  | cons c t ih => unfold pairs at *; rw [List.flatMap_cons, List.length_append, ih]; simp; omega
theorem pairs_cons (c : UInt8) (t : Bs) : pairs (c :: t) = 92 :: c :: pairs t := rfl
theorem pairs_snoc (l : Bs) (c : UInt8) : pairs (l ++ [c]) = pairs l ++ [92, c] := by simp [pairs]
theorem closeLen_pairs (r : Bs) : ∀ l : Bs, closeLen (pairs l ++ 34 :: r) = 2 * l.length
  | [] => closeLen_q r
  | c :: t => by
    have := closeLen_pairs r t
    rw [pairs_cons, List.cons_append, List.cons_append, closeLen_b, this]; simp; omega
theorem unq_pairs : ∀ l : Bs, unq (pairs l ++ [34]) = l
  | [] => rfl
  | c :: t => by
    rw [pairs_cons, List.cons_append, List.cons_append, unq_bs, unq_pairs t]
theorem all_pairs : ∀ l : Bs, allL 1 (pairs l) = allL 1 l
  | [] => rfl
  | c :: t => by rw [pairs_cons, allL_cons, allL_cons, allL_cons, all_pairs t, k92, Bool.true_and]
theorem closing_head (c : UInt8) (t : Bs) : closing (c :: t) 0 = 1 + closeLen t := by unfold closing; simp
theorem unqOk_pairs (l : Bs) : unqOk (34 :: (pairs l ++ [34])) = allL 1 l := by
  unfold unqOk
  rw [closing_head, closeLen_pairs, allL_cons, allL_append, all_pairs, k34]
  have h1 : decide (1 + 2 * l.length + 1 = (34 :: (pairs l ++ [34])).length) = true := by
    simp [pairs_len]; omega
  rw [h1]
  show (true && true && (true && (allL 1 l && true))) = _
  simp

theorem esc_b (c : UInt8) (h : c = 34 ∨ c = 92) : esc c = [92, c] := by unfold esc; rw [if_pos h]
theorem esc_o (c : UInt8) (h : ¬ (c = 34 ∨ c = 92)) : esc c = [c] := by unfold esc; rw [if_neg h]
theorem closeLen_esc (r : Bs) : ∀ l : Bs, closeLen (l.flatMap esc ++ 34 :: r) = (l.flatMap esc).length
  | [] => closeLen_q r
  | c :: t => by
    have ih := closeLen_esc r t
    rw [List.flatMap_cons, List.append_assoc]
    by_cases h : c = 34 ∨ c = 92
    · rw [esc_b c h, List.cons_append, List.cons_append, List.nil_append, closeLen_b, ih]; simp; omega
    · rw [esc_o c h, List.cons_append, List.nil_append, closeLen_o c _ (fun e => h (.inr e)) (fun e => h (.inl e)), ih]; simp; omega
theorem unq_esc : ∀ l : Bs, unq (l.flatMap esc ++ [34]) = l
  | [] => rfl
  | c :: t => by
    have ih := unq_esc t
    rw [List.flatMap_cons, List.append_assoc]
    by_cases h : c = 34 ∨ c = 92
    · rw [esc_b c h, List.cons_append, List.cons_append, List.nil_append, unq_bs, ih]
    · rw [esc_o c h, List.cons_append, List.nil_append, unq_o c _ (fun e => h (.inr e)) (by simp), ih]
theorem all_esc : ∀ l : Bs, allL 1 (l.flatMap esc) = allL 1 l
  | [] => rfl
  | c :: t => by
    have ih := all_esc t
    rw [List.flatMap_cons, allL_append, allL_cons, ih]
    by_cases h : c = 34 ∨ c = 92
    · rw [esc_b c h, allL_cons, allL_cons, k92, Bool.true_and]; simp [allL]
    · rw [esc_o c h, allL_cons]; simp [allL]
theorem unqOk_quote (l : Bs) : unqOk (quoteL l) = allL 1 l := by
  unfold unqOk quoteL
  rw [closing_head, closeLen_esc, allL_cons, allL_append, all_esc, k34]
  have h1 : decide (1 + (l.flatMap esc).length + 1 = (34 :: (l.flatMap esc ++ [34])).length) = true := by
    simp; omega
  rw [h1]
  show (true && true && (true && (allL 1 l && true))) = _
  simp
theorem unq_quote (l : Bs) : unq ((quoteL l).drop 1) = l := unq_esc l
theorem unqOk_more (l m : Bs) : unqOk (quoteL l ++ m ++ [34]) = false := by
  have e : quoteL l ++ m ++ [34] = 34 :: (l.flatMap esc ++ 34 :: (m ++ [34])) := by simp [quoteL]
  unfold unqOk
  rw [e, closing_head, closeLen_esc]
  have h1 : decide (1 + (l.flatMap esc).length + 1 = (34 :: (l.flatMap esc ++ 34 :: (m ++ [34]))).length) = false := by
    simp; omega
  rw [h1]; simp

/-- the document's value character, as the reference asks it -/
theorem kind_char (n : Nat) (hn : n < 256) : decide (1 ≤ kindOf n) = (decide (n = 9) || (decide (32 ≤ n) && decide (n ≤ 126)) || decide (128 ≤ n)) := by
  unfold kindOf
  by_cases h9 : n = 9
  · subst h9; decide
  · rw [if_neg h9]
    by_cases h32 : n < 32
    · rw [if_pos h32]; simp [h9]; omega
    · rw [if_neg h32]
      by_cases h128 : 128 ≤ n
      · rw [if_pos h128]; simp [h128]
      · rw [if_neg h128]
        by_cases h127 : n = 127
        · subst h127; decide
        · rw [if_neg h127]
          have h1 : n ≤ 126 := by omega
          have h2 : 32 ≤ n := by omega
          split <;> simp [h1, h2]
end Tk
end Go.Proofs.YtnbipbeeengiaaaGreatDoor
