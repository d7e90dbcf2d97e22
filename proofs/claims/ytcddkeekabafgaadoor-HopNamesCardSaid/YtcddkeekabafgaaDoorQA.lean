/- Tok0 Base Cln Kin All Small0 Fld0 Cut TkA FldA Trm FldB FldL Bld BldS FldM Sam FldS Str FldG FldH JoinF FldI FldJ, put together. -/
import Derived.Lib.SlTrimSet
import Derived.Lib.Strings
import Derived.Test.YtcddkeekabafgaaDoorRows
import Derived.WalkKit
import Derived.WalkSpells
import Derived.WalkLawsBesides
import Derived.Lib.Hide
import Derived.Test.YtcddkeekabafgaaDoorShelf
import Derived.BigQuiet
import Derived.Deep.QuietTactic
import Derived.IntWalk
import Derived.OwnWalk
import Derived.Handy
import Derived.Great.BuildSlice
import Derived.Deep.WholeRow
import Derived.Lib.Bytealg
import Derived.Shelf.RegionOpenPlain
import Derived.Shelf.Strings.SlTrimAscii
import Derived.Deep.RegionHeld3
import Derived.Deep.RegionWith
import Derived.Shelf.Strings.Builder1
import Derived.Laws.AppendOwnNone
import Derived.Laws.OwnMore
import Derived.BigFrame
import Derived.Laws.IdiomCopy
import Derived.Lib.SliceRun
namespace Go.Proofs.YtcddkeekabafgaaDoor
namespace Tk

abbrev Bs := List UInt8
def mkS (l : Bs) : ByteArray := ⟨l.toArray⟩
def bs (s : ByteArray) : Bs := s.data.toList
@[simp] theorem bs_mkS (l : Bs) : bs (mkS l) = l := rfl
@[simp] theorem mkS_bs (s : ByteArray) : mkS (bs s) = s := by cases s; rfl
theorem size_mkS (l : Bs) : (mkS l).size = l.length := by show l.toArray.size = _; simp
theorem length_bs (s : ByteArray) : (bs s).length = s.size := Array.length_toList
theorem mkS_inj {a b : Bs} (h : mkS a = mkS b) : a = b := by have := congrArg bs h; simpa using this

theorem mkS_append (a b : Bs) : mkS a ++ mkS b = mkS (a ++ b) := by
  apply ByteArray.ext
  apply Array.ext'
  rw [ByteArray.data_append]
  simp [mkS]
def trimL (l : Bs) : Bs := Lib.trimS l [32, 9]

theorem getD_bs (s : ByteArray) (k : Nat) (h : k < s.size) : (bs s).getD k 0 = s[k] := by
  have h' : k < (bs s).length := by rw [length_bs]; exact h
  rw [List.getD, List.getElem?_eq_getElem h']
  rfl
theorem u8_is (c : UInt8) (n : Nat) (hn : n < 256) (h : ((c.toNat : Int) == (n : Int)) = true) : c = UInt8.ofNat n := by
  rw [beq_iff_eq] at h
  apply UInt8.toNat_inj.1
  rw [UInt8.toNat_ofNat']; omega
theorem u8_not (c : UInt8) (n : Nat) (h : ((c.toNat : Int) == (n : Int)) = false) (hn : n < 256) : c ≠ UInt8.ofNat n := by
  rw [beq_eq_false_iff_ne] at h
  intro e
  subst e
  rw [UInt8.toNat_ofNat'] at h
  omega

theorem toList_bs (s : ByteArray) : s.toList = bs s := ByteArray.toList_eq s
theorem bs_extract (s : ByteArray) (a b : Nat) : bs (s.extract a b) = ((bs s).drop a).take (b - a) := Lib.extract_data s a b
theorem extract_mkS (s : ByteArray) (a b : Nat) : s.extract a b = mkS (((bs s).drop a).take (b - a)) := by rw [← bs_extract, mkS_bs]

/-- from behind a quote: how far to the one that closes -/
def closeLen : Bs → Nat
  | [] => 0
  | [c] => if c = 92 then 2 else if c = 34 then 0 else 1
  | c :: d :: t => if c = 92 then 2 + closeLen t else if c = 34 then 0 else 1 + closeLen (d :: t)

/-- the pieces between commas; mode 0: outside quotes, 1: inside, 2: behind a backslash -/
def spl : Nat → Bs → Bs → List Bs
  | _, cur, [] => [cur]
  | 0, cur, c :: t => if c = 44 then cur :: spl 0 [] t else if c = 34 then spl 1 (cur ++ [c]) t else spl 0 (cur ++ [c]) t
  | 1, cur, c :: t => if c = 92 then spl 2 (cur ++ [c]) t else if c = 34 then spl 0 (cur ++ [c]) t else spl 1 (cur ++ [c]) t
  | _ + 2, cur, c :: t => spl 1 (cur ++ [c]) t

def addP (t : Bs) : List Bs := if t = [] then [] else [t]
def parts (l : List Bs) : List Bs := l.flatMap fun p => addP (trimL p)
def splitL (l : Bs) : List Bs := parts (spl 0 [] l)

theorem parts_cons (p : Bs) (l : List Bs) : parts (p :: l) = addP (trimL p) ++ parts l := by simp [parts]
theorem parts_one (p : Bs) : parts [p] = addP (trimL p) := by simp [parts]

theorem spl_close : ∀ (r cur : Bs), spl 1 cur r = spl 0 (cur ++ r.take (closeLen r + 1)) (r.drop (closeLen r + 1))
  | [], cur => by simp [spl]
  | [c], cur => by
    by_cases h : c = 92
    · subst h; simp [spl, closeLen]
    · by_cases h2 : c = 34
      · subst h2; simp [spl, closeLen]
      · simp [spl, closeLen, h, h2]
  | c :: d :: t, cur => by
    by_cases h : c = 92
    · subst h
      have ih := spl_close t (cur ++ [92] ++ [d])
      simp only [spl, closeLen, if_true]
      rw [ih]
      simp [Nat.add_comm 2, List.take_succ_cons, List.drop_succ_cons]
    · by_cases h2 : c = 34
      · subst h2; simp [spl, closeLen]
      · have ih := spl_close (d :: t) (cur ++ [c])
        rw [spl, if_neg h, if_neg h2, ih]
        simp only [closeLen, if_neg h, if_neg h2]
        simp [Nat.add_comm 1, List.take_succ_cons, List.drop_succ_cons]

theorem drop_cons (l : Bs) (i : Nat) (h : i < l.length) : l.drop i = l.getD i 0 :: l.drop (i + 1) := by
  rw [List.drop_eq_getElem_cons h]; simp [List.getD, h]
theorem take_snoc (l : Bs) (i : Nat) (h : i < l.length) : l.take (i + 1) = l.take i ++ [l.getD i 0] := by
  rw [List.take_succ_eq_append_getElem h]; simp [List.getD, h]

theorem closeLen_bs (r : Bs) (h : r = 92 :: r.tail) : closeLen r = 2 + closeLen (r.drop 2) := by
  match r, h with
  | [c], h => simp at h; subst h; simp [closeLen]
  | c :: d :: t, h => simp at h; subst h; simp [closeLen]
theorem closeLen_q (t : Bs) : closeLen (34 :: t) = 0 := by cases t <;> simp [closeLen]
theorem closeLen_o (c : UInt8) (t : Bs) (h : c ≠ 92) (h2 : c ≠ 34) : closeLen (c :: t) = 1 + closeLen t := by
  cases t with
  | nil => simp [closeLen, h, h2]
  | cons d t => simp [closeLen, h, h2]

theorem closeLen_le : ∀ r : Bs, closeLen r ≤ r.length + 1
  | [] => by simp [closeLen]
  | [c] => by simp only [closeLen, List.length_singleton]; split; omega; split <;> omega
  | c :: d :: t => by
    have h1 := closeLen_le t
    have h2 := closeLen_le (d :: t)
    simp only [closeLen, List.length_cons] at *
    split; omega; split <;> omega

/-- what the search for pieces holds at place i: the pieces found, and the piece begun at b -/
def splAt (l : Bs) (b i : Nat) : List Bs := parts (spl 0 ((l.take i).drop b) (l.drop i))
theorem splAt_start (l : Bs) : splitL l = splAt l 0 0 := by simp [splAt, splitL]
theorem splAt_end (l : Bs) (b i : Nat) (h : l.length ≤ i) : splAt l b i = addP (trimL (l.drop b)) := by
  unfold splAt
  rw [List.take_of_length_le h, List.drop_eq_nil_of_le h, spl, parts_one]
theorem splAt_comma (l : Bs) (b i : Nat) (hi : i < l.length) (hc : l.getD i 0 = 44) : splAt l b i = addP (trimL ((l.drop b).take (i - b))) ++ splAt l (i + 1) (i + 1) := by
  unfold splAt
  rw [drop_cons l i hi, hc, spl, if_pos rfl, parts_cons, List.drop_take, List.drop_take, Nat.sub_self, List.take_zero]
theorem splAt_other (l : Bs) (b i : Nat) (hi : i < l.length) (hb : b ≤ i) (h1 : l.getD i 0 ≠ 44) (h2 : l.getD i 0 ≠ 34) : splAt l b i = splAt l b (i + 1) := by
  unfold splAt
  rw [drop_cons l i hi, spl, if_neg h1, if_neg h2, take_snoc l i hi, List.drop_append_of_le_length (by rw [List.length_take]; omega)]
theorem splAt_quote (l : Bs) (b i : Nat) (hi : i < l.length) (hb : b ≤ i) (hc : l.getD i 0 = 34) : splAt l b i = splAt l b (i + 1 + closeLen (l.drop (i + 1)) + 1) := by
  unfold splAt
  rw [drop_cons l i hi, hc, spl, if_neg (by decide), if_pos rfl, spl_close, List.drop_drop]
  rw [show i + 1 + closeLen (l.drop (i + 1)) + 1 = i + 1 + (closeLen (l.drop (i + 1)) + 1) by omega]
  generalize closeLen (l.drop (i + 1)) + 1 = K
  rw [List.take_add (i := i + 1), take_snoc l i hi, hc, List.append_assoc (l.take i), List.drop_append_of_le_length (by rw [List.length_take]; omega), List.append_assoc]

def lowB (c : UInt8) : UInt8 := if 65 ≤ c.toNat ∧ c.toNat ≤ 90 then c + 32 else c
def lowL (l : Bs) : Bs := l.map lowB
theorem lowB_up (c : UInt8) (h0 : 65 ≤ c.toNat) (h1 : c.toNat ≤ 90) : ((lowB c).toNat : Int) = (c.toNat : Int) - 65 + 97 := by
  unfold lowB; rw [if_pos ⟨h0, h1⟩, UInt8.toNat_add]
  have : (32 : UInt8).toNat = 32 := rfl
  omega
theorem lowB_same (c : UInt8) (h : ¬ (65 ≤ c.toNat ∧ c.toNat ≤ 90)) : lowB c = c := by unfold lowB; rw [if_neg h]
theorem lowB_lowB (c : UInt8) : lowB (lowB c) = lowB c := by
  by_cases h : 65 ≤ c.toNat ∧ c.toNat ≤ 90
  · have := lowB_up c h.1 h.2
    exact lowB_same _ (by omega)
  · rw [lowB_same c h, lowB_same c h]
theorem lowL_lowL (l : Bs) : lowL (lowL l) = lowL l := by unfold lowL; rw [List.map_map]; exact List.map_congr_left fun c _ => lowB_lowB c
theorem length_lowL (l : Bs) : (lowL l).length = l.length := by simp [lowL]
def hasQ (l : Bs) : Bool := l.contains 34

theorem trim_sublist (l : Bs) : (trimL l).length ≤ l.length := by
  have dw : ∀ (p : UInt8 → Bool) (l : Bs), (l.dropWhile p).length ≤ l.length := fun p l => by
    induction l with
    | nil => simp
    | cons a t ih => rw [List.dropWhile_cons]; split; exact Nat.le_succ_of_le ih; exact Nat.le_refl _
  unfold trimL Lib.trimS Lib.trimLeftS Lib.trimRightS
  refine Nat.le_trans (dw _ _) ?_
  rw [List.length_reverse]
  exact Nat.le_trans (dw _ _) (by rw [List.length_reverse]; exact Nat.le_refl _)

def closing (l : Bs) (i : Nat) : Nat := i + 1 + closeLen (l.drop (i + 1))
theorem bs_head (s : ByteArray) (h : 0 < s.size) : (bs s).head? = some s[0] := by
  rw [List.head?_eq_getElem?, List.getElem?_eq_getElem (by rw [length_bs]; exact h)]; rfl
theorem bs_drop (s : ByteArray) (i : Nat) (h : i < s.size) : (bs s).drop i = s[i] :: (bs s).drop (i + 1) := by
  rw [List.drop_eq_getElem_cons (by rw [length_bs]; exact h)]; rfl
theorem empty_of (s : ByteArray) (h : s.size = 0) : s.toList.isEmpty = true := by
  rw [toList_bs, List.isEmpty_iff, ← List.length_eq_zero_iff, length_bs]; exact h
theorem not_empty_of (s : ByteArray) (h : 0 < s.size) : s.toList.isEmpty = false := by
  rw [toList_bs]
  cases e : bs s with
  | nil => have := length_bs s; rw [e] at this; simp at this; omega
  | cons c t => rfl
end Tk
end Go.Proofs.YtcddkeekabafgaaDoor

namespace Go.Proofs.YtcddkeekabafgaaDoor
open Go.RowKit
namespace Tk

def StrPost (text : Bs) (w : World) (r : Ending) (w' : World) : Prop := r = .returned (.string (mkS text)) ∧ Below w.heap.size w w'

set_option maxHeartbeats 400000 in
theorem clone_any (s : ByteArray) (w : World) (h : s.size ≤ 1099511627776) :
    Calls Tryd.prog 26 #[.string s] w (StrPost (bs s) w) := by
  have H := Lib.hid (Tryd.stringslite_Clone s w (by omega))
  go_enter Tryd.func26, Tryd.ntmps26
  go_wp2_with fail
  refine H.out.mono ?_
  rintro e w' ⟨rfl, hb⟩
  have HB := Lib.hid hb
  clear hb
  go_wp2_with fail
  go_ret
  exact ⟨by rw [mkS_bs]; rfl, HB.out⟩
end Tk
end Go.Proofs.YtcddkeekabafgaaDoor
namespace Go.Proofs.YtcddkeekabafgaaDoor
open Go.RowKit
namespace Tk

/-- the kind of each byte, by ranges -/
def kindOf (c : Nat) : Int :=
  if c = 9 then 1 else if c < 32 then 0 else if 128 ≤ c then 1 else if c = 127 then 0
  else if [32, 34, 40, 41, 44, 47, 58, 59, 60, 61, 62, 63, 64, 91, 92, 93, 123, 125].contains c then 1 else 2
def kindL : List Int := (List.range 256).map kindOf

/-- 256 kinds, none said -/
def zk : Array Value := Array.replicate 256 (.int .u8 0)
theorem kind_zero (w : World) : (zeroValue 73).run Tryd.prog w = .ok (.agg zk) w := by kernel_rfl

set_option maxHeartbeats 1000000 in
set_option maxRecDepth 100000 in
theorem kinds_any (w : World) :
    Calls Tryd.prog 61 #[] w fun e w' => e = .returned (.agg (kindL.map (Value.int .u8)).toArray) ∧ Below w.heap.size w w' := by
  have hzk := kind_zero
  go_enter Tryd.func61, Tryd.ntmps61
  go_wp2_with (refine wpList_buildFlatArrTo rfl 73 62 256 _ rfl .u8 kindL (some 1) rfl (by kernel_rfl) (by kernel_rfl) (by kernel_rfl) (by kernel_rfl) ?_)
  have hld := run_loadVar_new (P := Tryd.prog) w 73 (kindL.map (Value.int .u8)).toArray 256 62 Tryd.underlying73 (by kernel_rfl)
  first
  | simp only [Result.andThen, run_storeCells_new (P := Tryd.prog) w 73 zk (kindL.map (Value.int .u8)).toArray (by kernel_rfl) (by kernel_rfl) (by kernel_rfl)]
  | simp only [Result.andThen, run_storeCells_new (P := Tryd.prog) w 73 Tryd.zeroCells73 (kindL.map (Value.int .u8)).toArray (by kernel_rfl) (by kernel_rfl) (by kernel_rfl)]
  rw [Oper.upon_skip]
  go_wp2_with fail
  refine bodyPost_ret (v := .agg (kindL.map (Value.int .u8)).toArray) ?_ rfl ⟨rfl, (Below.refl _ _).alloc (Nat.le_refl _) _⟩
  exact results_cell_row rfl _ _ w.heap.size 73 _ (0, 0) _ rfl (heap_alloc_last w _) Tryd.underlying73 rfl (by kernel_rfl)
end Tk
end Go.Proofs.YtcddkeekabafgaaDoor
namespace Go.Proofs.YtcddkeekabafgaaDoor
open Go.RowKit
namespace Tk

def allL (k : Int) (l : Bs) : Bool := l.all fun c => decide (k ≤ kindOf c.toNat)

theorem allL_cons (k : Int) (c : UInt8) (t : Bs) : allL k (c :: t) = (decide (k ≤ kindOf c.toNat) && allL k t) := rfl
theorem allL_append (k : Int) (a b : Bs) : allL k (a ++ b) = (allL k a && allL k b) := by unfold allL; rw [List.all_append]
theorem k92 : decide (1 ≤ kindOf (92 : UInt8).toNat) = true := by decide
theorem k34 : decide (1 ≤ kindOf (34 : UInt8).toNat) = true := by decide

theorem kindL_size : (kindL.map (Value.int .u8)).toArray.size = 256 := by kernel_rfl
theorem kindL_one : (kindL.map (Value.int .u8)).toArray.all (·.oneCell') = true := by kernel_rfl
theorem kindL_at (c : UInt8) : (kindL.map (Value.int .u8)).toArray[c.toNat]? = some (.int .u8 (kindOf c.toNat)) := by
  have h : c.toNat < 256 := c.toNat_lt
  simp [kindL, h]

set_option maxHeartbeats 1000000 in
set_option maxRecDepth 100000 in
theorem all_any (s : ByteArray) (k : Int) (w : World) (hs : s.size ≤ 1099511627776) :
    Calls Tryd.prog 41 #[.string s, .int .u8 k] w fun e w' => e = .returned (.bool (allL k (bs s))) ∧ Below w.heap.size w w' := by
  have hks := kindL_size
  have hk1 := kindL_one
  have hka := Lib.hid kindL_at
  have HK := Lib.hid (kinds_any w)
  generalize (kindL.map (Value.int .u8)).toArray = ks at *
  have hzk := kind_zero
  go_enter Tryd.func41, Tryd.ntmps41
  go_wp2_with fail
  refine HK.out.mono ?_
  rintro e w1 ⟨rfl, hb⟩
  have HB := Lib.hid hb
  clear hb
  go_wp2_with fail
  first
  | simp only [Result.andThen, run_storeCells_new (P := Tryd.prog) w1 73 zk ks (by rw [hks]; kernel_rfl) (by rw [hks]; kernel_rfl) hk1]
  | simp only [Result.andThen, run_storeCells_new (P := Tryd.prog) w1 73 Tryd.zeroCells73 ks (by rw [hks]; kernel_rfl) (by rw [hks]; kernel_rfl) hk1]
  rw [Oper.upon_skip]
  have hcell : ∀ c : UInt8, (w1.alloc (Obj.cells ks 73)).cell? ⟨w1.heap.size, c.toNat, none⟩ = some (.int .u8 (kindOf c.toNat)) := fun c => by
    rw [Lib.cell_of_heap (heap_alloc_last w1 _)]; exact hka.out c
  have HC := Lib.hid hcell
  have HB2 := Lib.hid ((HB.out).alloc HB.out.size (Obj.cells ks 73))
  clear hcell hka hks hk1 HK hzk
  generalize hW : w1.alloc (Obj.cells ks 73) = W at *
  clear hW
  generalize w1.heap.size = g at *
  go_wp2_with fail
  go_loopw [10] (fun v wr => ∃ i : Nat, i ≤ s.size ∧ v = .int .i64 i ∧ wr = W ∧ Hid (allL k (bs s) = allL k ((bs s).drop i))) (fun v _ => s.size - (RowKit.intOf v).toNat)
  case atStart => exact ⟨0, Nat.zero_le _, rfl, rfl, rfl⟩
  case round =>
    obtain ⟨i, hi, rfl, rfl, hd⟩ := hrel
    by_cases hlt : i < s.size
    · have hc := HC.out s[i]
      have hu := s[i].toNat_lt
      have hdrop : (bs s).drop i = s[i] :: (bs s).drop (i + 1) := by
        rw [List.drop_eq_getElem_cons (by rw [length_bs]; exact hlt)]; rfl
      have HD := Lib.hid hdrop
      clear hdrop
      by_cases hk : kindOf s[i].toNat < k
      · go_wp2_with fail
        have fin : allL k (bs s) = false := by
          rw [hd.out, HD.out]
          have : decide (k ≤ kindOf s[i].toNat) = false := by simp; omega
          unfold allL; rw [List.all_cons, this]; rfl
        go_ret
        exact ⟨by rw [fin]; rfl, HB2.out⟩
      · go_wp2_with fail
        refine ⟨⟨i + 1, by omega, by go_num, trivial, ?_⟩, by simp [RowKit.intOf]; omega⟩
        show _ = _
        rw [hd.out, HD.out]
        have : k ≤ kindOf s[i].toNat := by omega
        simp [allL, this]
    · go_wp2_with fail
      have fin : allL k (bs s) = true := by
        rw [hd.out, List.drop_eq_nil_of_le (by rw [length_bs]; omega)]; rfl
      go_ret
      exact ⟨by rw [fin]; rfl, HB2.out⟩
end Tk
end Go.Proofs.YtcddkeekabafgaaDoor
namespace Go.Proofs.YtcddkeekabafgaaDoor
namespace Tk

def wh (c : UInt8) : Bool := [32, 9].contains c
/-- no white space at either end -/
def Neat (l : Bs) : Prop := (∀ c, l.head? = some c → wh c = false) ∧ (∀ c, l.getLast? = some c → wh c = false)

theorem dropWhile_head (l : Bs) : ∀ c, (l.dropWhile wh).head? = some c → wh c = false := by
  induction l with
  | nil => intro c h; simp at h
  | cons a t ih =>
    intro c h
    rw [List.dropWhile_cons] at h
    cases ha : wh a with
    | true => rw [ha, if_pos rfl] at h; exact ih c h
    | false => rw [ha, if_neg (by decide)] at h; simp at h; rw [← h]; exact ha
theorem dropWhile_last (l : Bs) : ∀ c, (l.dropWhile wh).getLast? = some c → l.getLast? = some c := by
  induction l with
  | nil => intro c h; exact h
  | cons a t ih =>
    intro c h
    rw [List.dropWhile_cons] at h
    cases ha : wh a with
    | true =>
      rw [ha, if_pos rfl] at h
      have h2 := ih c h
      cases t with
      | nil => simp at h2
      | cons b u => rw [List.getLast?_cons_cons]; exact h2
    | false => rw [ha, if_neg (by decide)] at h; exact h
theorem dropWhile_same (l : Bs) (h : ∀ c, l.head? = some c → wh c = false) : l.dropWhile wh = l := by
  cases l with
  | nil => rfl
  | cons a t => rw [List.dropWhile_cons, h a rfl, if_neg (by decide)]

def tr (l : Bs) : Bs := (l.reverse.dropWhile wh).reverse
theorem trimL_eq (l : Bs) : trimL l = (tr l).dropWhile wh := rfl
theorem tr_last (l : Bs) : ∀ c, (tr l).getLast? = some c → wh c = false := by
  intro c h
  unfold tr at h
  rw [List.getLast?_reverse] at h
  exact dropWhile_head _ c h
theorem trim_neat (l : Bs) : Neat (trimL l) := by
  rw [trimL_eq]
  exact ⟨dropWhile_head _, fun c h => tr_last l c (dropWhile_last _ c h)⟩
theorem neat_trim (l : Bs) (h : Neat l) : trimL l = l := by
  have h1 : tr l = l := by
    unfold tr
    rw [dropWhile_same _ (fun c hc => h.2 c (by rw [List.head?_reverse] at hc; exact hc)), List.reverse_reverse]
  rw [trimL_eq, h1, dropWhile_same l h.1]
theorem trim_trim (l : Bs) : trimL (trimL l) = trimL l := neat_trim _ (trim_neat l)

theorem tr_snoc (l : Bs) : tr (l ++ [9]) = tr l := by
  unfold tr
  rw [List.reverse_append]
  show ((9 :: l.reverse).dropWhile wh).reverse = _
  rw [List.dropWhile_cons, show wh 9 = true by decide, if_pos rfl]
theorem dropWhile_append (l m : Bs) : (l ++ m).dropWhile wh = if l.dropWhile wh = [] then m.dropWhile wh else l.dropWhile wh ++ m := by
  induction l with
  | nil => simp
  | cons a t ih =>
    rw [List.cons_append, List.dropWhile_cons, List.dropWhile_cons]
    cases ha : wh a with
    | true => rw [if_pos rfl, if_pos rfl]; exact ih
    | false => simp
theorem tr_cons (l : Bs) : (tr (32 :: l)).dropWhile wh = (tr l).dropWhile wh := by
  unfold tr
  rw [List.reverse_cons, dropWhile_append]
  by_cases h : l.reverse.dropWhile wh = []
  · rw [if_pos h, h]; decide
  · rw [if_neg h, List.reverse_append]
    show (32 :: (l.reverse.dropWhile wh).reverse).dropWhile wh = _
    rw [List.dropWhile_cons, show wh 32 = true by decide, if_pos rfl]
theorem trim_around (l : Bs) : trimL ([32] ++ l ++ [9]) = trimL l := by
  rw [trimL_eq, trimL_eq, tr_snoc]
  exact tr_cons l

theorem split_neat (l : Bs) : ∀ p ∈ splitL l, p ≠ [] ∧ trimL p = p := by
  intro p hp
  unfold splitL parts at hp
  rw [List.mem_flatMap] at hp
  obtain ⟨x, -, hx⟩ := hp
  unfold addP at hx
  split at hx
  · simp at hx
  · rename_i hne
    rw [List.mem_singleton] at hx
    subst hx
    exact ⟨hne, trim_trim x⟩

theorem spl_app : ∀ (s cur t : Bs), hasQ s = false → spl 0 cur (s ++ 44 :: t) = spl 0 cur s ++ spl 0 [] t
  | [], cur, t, _ => by simp [spl]
  | c :: s, cur, t, h => by
    have hc : c ≠ 34 := fun e => by subst e; simp [hasQ] at h
    have hs : hasQ s = false := by
      unfold hasQ at *
      rw [List.contains_cons, Bool.or_eq_false_iff] at h
      exact h.2
    rw [List.cons_append]
    by_cases h44 : c = 44
    · subst h44
      rw [spl, if_pos rfl, spl, if_pos rfl, spl_app s [] t hs]; rfl
    · rw [spl, if_neg h44, if_neg hc, spl_app s _ t hs]
      rw [show spl 0 cur (c :: s) = spl 0 (cur ++ [c]) s by rw [spl, if_neg h44, if_neg hc]]
theorem split_app (s t : Bs) (h : hasQ s = false) : splitL (s ++ [44] ++ t) = splitL s ++ splitL t := by
  unfold splitL
  rw [List.append_assoc]
  show parts (spl 0 [] (s ++ 44 :: t)) = _
  rw [spl_app s [] t h]
  simp [parts]
theorem spl_len : ∀ (l : Bs) (m : Nat) (cur : Bs), (spl m cur l).length ≤ l.length + 1
  | [], m, cur => by cases m <;> simp [spl]
  | c :: t, 0, cur => by
    rw [spl]
    split
    · have := spl_len t 0 []; simp; omega
    · split
      · have := spl_len t 1 (cur ++ [c]); simp; omega
      · have := spl_len t 0 (cur ++ [c]); simp; omega
  | c :: t, 1, cur => by
    rw [spl]
    split
    · have := spl_len t 2 (cur ++ [c]); simp; omega
    · split
      · have := spl_len t 0 (cur ++ [c]); simp; omega
      · have := spl_len t 1 (cur ++ [c]); simp; omega
  | c :: t, m + 2, cur => by
    rw [spl]
    have := spl_len t 1 (cur ++ [c]); simp; omega
theorem parts_len (l : List Bs) : (parts l).length ≤ l.length := by
  induction l with
  | nil => simp [parts]
  | cons a t ih =>
    rw [parts_cons, List.length_append]
    have : (addP (trimL a)).length ≤ 1 := by unfold addP; split <;> simp
    simp; omega
theorem split_len (l : Bs) : (splitL l).length ≤ l.length + 1 := Nat.le_trans (parts_len _) (spl_len l 0 [])
theorem spl_piece : ∀ (l : Bs) (m : Nat) (cur : Bs), ∀ p ∈ spl m cur l, p.length ≤ cur.length + l.length
  | [], m, cur => by cases m <;> simp [spl]
  | c :: t, 0, cur => by
    rw [spl]
    split
    · intro p hp
      rcases List.mem_cons.1 hp with rfl | hp
      · simp
      · have := spl_piece t 0 [] p hp; simp at *; omega
    · split
      · intro p hp; have := spl_piece t 1 (cur ++ [c]) p hp; simp at *; omega
      · intro p hp; have := spl_piece t 0 (cur ++ [c]) p hp; simp at *; omega
  | c :: t, 1, cur => by
    rw [spl]
    split
    · intro p hp; have := spl_piece t 2 (cur ++ [c]) p hp; simp at *; omega
    · split
      · intro p hp; have := spl_piece t 0 (cur ++ [c]) p hp; simp at *; omega
      · intro p hp; have := spl_piece t 1 (cur ++ [c]) p hp; simp at *; omega
  | c :: t, m + 2, cur => by
    rw [spl]
    intro p hp; have := spl_piece t 1 (cur ++ [c]) p hp; simp at *; omega
theorem split_piece (l p : Bs) (h : p ∈ splitL l) : p.length ≤ l.length := by
  unfold splitL parts at h
  rw [List.mem_flatMap] at h
  obtain ⟨x, hx, hp⟩ := h
  have h1 := spl_piece l 0 [] x hx
  have h2 := trim_sublist x
  unfold addP at hp
  split at hp
  · simp at hp
  · rw [List.mem_singleton] at hp; subst hp; simp at h1; omega
end Tk
end Go.Proofs.YtcddkeekabafgaaDoor
namespace Go.Proofs.YtcddkeekabafgaaDoor
namespace Tk

/-- is it a field that may be: a name that is a token, a value of value characters without white space at its ends -/
def okF (n v : Bs) : Bool := !n.isEmpty && allL 2 n && (allL 1 v && decide (trimL v = v))

/-- what stands before the first c, what stands behind it, and whether there is one -/
def cutL (c : UInt8) (l : Bs) : Bs × Bs × Bool := if l.contains c then (l.takeWhile (· != c), (l.dropWhile (· != c)).drop 1, true) else (l, [], false)

theorem cut_index (c : UInt8) : ∀ l : Bs, (Lib.indexByte l c = -1 ∧ l.contains c = false) ∨ ∃ i : Nat, Lib.indexByte l c = i ∧ i < l.length ∧ l.contains c = true ∧ l.take i = l.takeWhile (· != c) ∧ l.drop (i + 1) = (l.dropWhile (· != c)).drop 1
  | [] => .inl ⟨rfl, rfl⟩
  | b :: t => by
    unfold Lib.indexByte
    by_cases hb : b = c
    · subst hb
      exact .inr ⟨0, by simp, by simp, by simp, by simp, by simp⟩
    · have h1 : (b == c) = false := beq_eq_false_iff_ne.2 hb
      have h2 : (b != c) = true := by simp [hb]
      have h3 : (c == b) = false := beq_eq_false_iff_ne.2 (fun e => hb e.symm)
      rcases cut_index c t with ⟨h, hc⟩ | ⟨i, h, hi, hc, ht, hd⟩
      · left
        rw [h1, h]
        exact ⟨by simp, by rw [List.contains_cons, h3, hc]; rfl⟩
      · right
        refine ⟨i + 1, ?_, by simp; omega, by rw [List.contains_cons, hc]; simp, ?_, ?_⟩
        · rw [h1, h]
          have : ((i : Int) == -1) = false := by rw [beq_eq_false_iff_ne]; omega
          rw [this]; simp
        · rw [List.take_succ_cons, List.takeWhile_cons, h2, if_pos rfl, ht]
        · rw [List.drop_succ_cons, List.dropWhile_cons, h2, if_pos rfl, hd]

def lineOk (l : Bs) : Bool := (cutL 58 l).2.2 && okF (cutL 58 l).1 (trimL (cutL 58 l).2.1)
def lineN (l : Bs) : Bs := (cutL 58 l).1
def lineV (l : Bs) : Bs := trimL (cutL 58 l).2.1

def bytesF (f : Bs × Bs) : Bs := f.1 ++ [58, 32] ++ f.2 ++ [13, 10]
def okFs (l : List (Bs × Bs)) : Bool := l.all fun f => okF f.1 f.2

theorem trim_blank (l : Bs) : trimL (32 :: l) = trimL l := by rw [trimL_eq, trimL_eq]; exact tr_cons l
theorem allL_mem (k : Int) (l : Bs) (h : allL k l = true) (c : UInt8) (hc : c ∈ l) : k ≤ kindOf c.toNat := by
  unfold allL at h
  rw [List.all_eq_true] at h
  simpa using h c hc
theorem no_colon (n : Bs) (h : allL 2 n = true) : ∀ c ∈ n, (c != 58) = true := by
  intro c hc
  have := allL_mem 2 n h c hc
  by_cases e : c = 58
  · subst e; exact absurd this (by decide)
  · simp [e]
theorem cut_colon (n r : Bs) (h : allL 2 n = true) : cutL 58 (n ++ 58 :: r) = (n, r, true) := by
  have hn := no_colon n h
  unfold cutL
  rw [if_pos (by simp)]
  have h1 : (n ++ 58 :: r).takeWhile (· != 58) = n := by
    rw [List.takeWhile_append_of_pos hn, List.takeWhile_cons]; simp
  have h2 : (n ++ 58 :: r).dropWhile (· != 58) = 58 :: r := by
    rw [List.dropWhile_append_of_pos hn, List.dropWhile_cons]; simp
  rw [h1, h2]; rfl
theorem okF_parts (n v : Bs) (h : okF n v = true) : n ≠ [] ∧ allL 2 n = true ∧ allL 1 v = true ∧ trimL v = v := by
  unfold okF at h
  simp only [Bool.and_eq_true, decide_eq_true_eq, Bool.not_eq_true', List.isEmpty_eq_false_iff] at h
  exact ⟨h.1.1, h.1.2, h.2.1, h.2.2⟩
/-- a line of a field is read as the field -/
theorem line_bytes (n v : Bs) (h : okF n v = true) : lineOk (n ++ [58, 32] ++ v) = true ∧ lineN (n ++ [58, 32] ++ v) = n ∧ lineV (n ++ [58, 32] ++ v) = v := by
  obtain ⟨h1, h2, h3, h4⟩ := okF_parts n v h
  have e : n ++ [58, 32] ++ v = n ++ 58 :: (32 :: v) := by simp
  unfold lineOk lineN lineV
  rw [e, cut_colon n _ h2]
  simp only [trim_blank, h4, h, Bool.and_true, and_self]
theorem line_ok (l : Bs) (h : lineOk l = true) : okF (lineN l) (lineV l) = true := by
  unfold lineOk at h
  rw [Bool.and_eq_true] at h
  exact h.2
end Tk
end Go.Proofs.YtcddkeekabafgaaDoor
namespace Go.Proofs.YtcddkeekabafgaaDoor
open Go.RowKit
namespace Tk

def CutPost (c : UInt8) (l : Bs) (w : World) (e : Ending) (w' : World) : Prop := e = .returned (.tuple #[.string (mkS (cutL c l).1), .string (mkS (cutL c l).2.1), .bool (cutL c l).2.2]) ∧ ∃ n, w' = w.drewN n

end Tk
end Go.Proofs.YtcddkeekabafgaaDoor
namespace Go.Proofs.YtcddkeekabafgaaDoor
open Go.RowKit
namespace Tk

set_option maxHeartbeats 1000000 in
set_option maxRecDepth 100000 in
theorem token_any (s : ByteArray) (w : World) (hs : s.size ≤ 1099511627776) :
    Calls Tryd.prog 25 #[.string s] w fun e w' => e = .returned (.bool (!(bs s).isEmpty && allL 2 (bs s))) ∧ Below w.heap.size w w' := by
  have H := Lib.hid (all_any s 2 w hs)
  cases hb : (bs s).isEmpty
  · have he : s.toList.isEmpty = false := by rw [toList_bs]; exact hb
    clear hb
    go_enter Tryd.func25, Tryd.ntmps25
    go_wp2_with fail
    refine H.out.mono ?_
    rintro e w' ⟨rfl, hb⟩
    have HB := Lib.hid hb
    clear hb
    go_wp2_with fail
    go_ret
    exact ⟨rfl, HB.out⟩
  · have he : s.toList.isEmpty = true := by rw [toList_bs]; exact hb
    clear hb
    go_enter Tryd.func25, Tryd.ntmps25
    go_wp2_with fail
    go_ret
    exact ⟨rfl, Below.refl _ _⟩
end Tk
end Go.Proofs.YtcddkeekabafgaaDoor
namespace Go.Proofs.YtcddkeekabafgaaDoor
open Go.RowKit
namespace Tk

theorem run_kind (w : World) (c : UInt8) (k : Int) (ks : Array Value) (h : ks[c.toNat]? = some (.int .u8 k)) : (Instr.index 73 (.agg ks) (.int .u8 (c.toNat : Int))).run Tryd.prog w = .ok (.int .u8 k) w := by
  have h0 : (0 : Int) ≤ (c.toNat : Int) ∧ (c.toNat : Int) < (256 : Int) := ⟨by omega, by have := c.toNat_lt; omega⟩
  have hlt := c.toNat_lt
  simp [Instr.index, asIntOf, run_underlying Tryd.underlying73, part, Tryd.isAgg62, Tryd.sizeOf62, h, hlt]

end Tk
end Go.Proofs.YtcddkeekabafgaaDoor
namespace Go.Proofs.YtcddkeekabafgaaDoor
open Go.RowKit
namespace Tk

theorem asciiZero : (Tryd.prog.info? 110).map (fun i => (i.zero, i.size)) = some (some (.agg (Array.replicate 256 (.bool false))), 256) := by kernel_rfl

set_option maxHeartbeats 400000 in
theorem trim_any (s : ByteArray) (w : World) (h : s.size ≤ 1099511627776) :
    Calls Tryd.prog 79 #[.string s] w (StrPost (trimL (bs s)) w) := by
  have h1 := Any.strings_Trim_laid Tryd.lays160 asciiZero s ⟨#[32, 9]⟩ w (by omega) (by decide) (ascii_of_all (by decide))
  have H := Lib.hid (show Calls Tryd.prog 87 #[.string s, .string ⟨#[32, 9]⟩] w fun e w' => e = .returned (.string (mkS (trimL (bs s)))) ∧ Below w.heap.size w w' from h1)
  have hl := trim_sublist (bs s)
  rw [length_bs] at hl
  clear h1
  go_enter Tryd.func79, Tryd.ntmps79
  go_wp2_with fail
  refine H.out.mono ?_
  rintro e w' ⟨rfl, hb⟩
  have HB := Lib.hid hb
  clear hb
  go_wp2_with fail
  refine (clone_any (mkS (trimL (bs s))) _ (by rw [size_mkS]; omega)).mono ?_
  rintro e w2 ⟨rfl, hb⟩
  have HB2 := Lib.hid hb
  clear hb
  go_wp2_with fail
  go_ret
  exact ⟨rfl, HB.out.trans (HB2.out.mono HB.out.size)⟩
end Tk
end Go.Proofs.YtcddkeekabafgaaDoor
namespace Go.Proofs.YtcddkeekabafgaaDoor
open Go.RowKit
namespace Tk

def okE (n v : Bs) : Int := if okF n v then 0 else 4
theorem okE_ok (n v : Bs) (h : okF n v = true) : okE n v = 0 := by unfold okE; rw [h]; rfl
theorem okE_no (n v : Bs) (h : okF n v = false) : okE n v = 4 := by unfold okE; rw [h]; rfl
theorem beq_bs (a : Bs) (s : ByteArray) : ((mkS a).toList == s.toList) = decide (a = bs s) := by
  rw [toList_bs, toList_bs, bs_mkS]
  by_cases h : a = bs s <;> simp [h]

/-- what a call keeps: all below B, one cell, and that the cell's block is there -/
theorem keep_cell {P : Program} {f : FuncId} {args : Array Value} {W w0 : World} {r : Ending} {B : Nat} (h : Calls P f args W fun e w' => e = r ∧ Below W.heap.size W w') (p : Addr) (u : Value) (hB : Below B w0 W) (hs : B ≤ W.heap.size) (hc : W.cell? p = some u) (hp : p.block < W.heap.size) :
    Calls P f args W fun e w' => e = r ∧ Below B w0 w' ∧ B ≤ w'.heap.size ∧ w'.cell? p = some u ∧ p.block < w'.heap.size :=
  h.mono fun _ _ h => ⟨h.1, hB.trans (h.2.mono hs), Nat.le_trans hs h.2.size, (h.2.cell hp).trans hc, Nat.lt_of_lt_of_le hp h.2.size⟩

theorem cell_new (w : World) (a b : Value) (T : TypeId) : (w.alloc (.cells #[a, b] T)).cell? ⟨w.heap.size, 0, none⟩ = some a ∧ (w.alloc (.cells #[a, b] T)).cell? ⟨w.heap.size, 1, none⟩ = some b := by
  constructor <;> (rw [Lib.cell_of_heap (heap_alloc_last w _)]; rfl)

end Tk
end Go.Proofs.YtcddkeekabafgaaDoor
namespace Go.Proofs.YtcddkeekabafgaaDoor
open Go.RowKit
namespace Tk

def lnN (l : Bs) : Bs := if lineOk l then lineN l else []
def lnV (l : Bs) : Bs := if lineOk l then lineV l else []
def lnE (l : Bs) : Int := if lineOk l then 0 else 4
def LinePost (l : Bs) (w : World) (e : Ending) (w' : World) : Prop := e = .returned (.tuple #[.agg #[.string (mkS (lnN l)), .string (mkS (lnV l))], .int .i64 (lnE l)]) ∧ Below w.heap.size w w'
theorem ln_ok (l : Bs) (h : lineOk l = true) : lnN l = lineN l ∧ lnV l = lineV l ∧ lnE l = 0 := by unfold lnN lnV lnE; rw [h]; exact ⟨rfl, rfl, rfl⟩
theorem ln_no (l : Bs) (h : lineOk l = false) : lnN l = [] ∧ lnV l = [] ∧ lnE l = 4 := by unfold lnN lnV lnE; rw [h]; exact ⟨rfl, rfl, rfl⟩

theorem cut_len1 (c : UInt8) (l : Bs) : (cutL c l).1.length ≤ l.length := by
  unfold cutL
  split
  · exact (List.takeWhile_sublist (· != c) (l := l)).length_le
  · exact Nat.le_refl _
theorem cut_len2 (c : UInt8) (l : Bs) : (cutL c l).2.1.length ≤ l.length := by
  unfold cutL
  split
  · refine Nat.le_trans (by simp) ((List.dropWhile_sublist (· != c) (l := l)).length_le)
  · simp

/-- a block of two cells of the call's own, and what becomes of it -/
def Two (w : World) (g : Nat) (T : TypeId) (a b : Value) : Prop := w.heap[g]? = some (.cells #[a, b] T (0, 0))
theorem Two.new (w : World) (T : TypeId) (a b : Value) : Two (w.alloc (.cells #[a, b] T)) w.heap.size T a b := heap_alloc_last w _
theorem Two.later {w w' : World} {g : Nat} {T : TypeId} {a b : Value} (h : Two w g T a b) (hb : Below w.heap.size w w') : Two w' g T a b := by
  unfold Two at *
  have hlt : g < w.heap.size := (Array.getElem?_eq_some_iff.1 h).1
  rw [hb.block g hlt]; exact h
theorem Two.draws {w : World} {g : Nat} {T : TypeId} {a b : Value} (h : Two w g T a b) (n : Nat) : Two (w.drewN n) g T a b := h
theorem Two.lt {w : World} {g : Nat} {T : TypeId} {a b : Value} (h : Two w g T a b) : g < w.heap.size := (Array.getElem?_eq_some_iff.1 h).1
theorem Two.c0 {w : World} {g : Nat} {T : TypeId} {a b : Value} (h : Two w g T a b) : w.cell? ⟨g, 0, none⟩ = some a := by rw [Lib.cell_of_heap h]; rfl
theorem Two.c1 {w : World} {g : Nat} {T : TypeId} {a b : Value} (h : Two w g T a b) : w.cell? ⟨g, 1, none⟩ = some b := by rw [Lib.cell_of_heap h]; rfl
theorem Two.f0 {w : World} {g : Nat} {T : TypeId} {a b : Value} (h : Two w g T a b) : w.frozen? ⟨g, 0, none⟩ = false := Lib.frozen_of_heap h 0
theorem Two.f1 {w : World} {g : Nat} {T : TypeId} {a b : Value} (h : Two w g T a b) : w.frozen? ⟨g, 1, none⟩ = false := Lib.frozen_of_heap h 1

theorem Two.set {w : World} {g : Nat} {T : TypeId} {a b : Value} (h : Two w g T a b) (a' b' : Value) (o : Obj) :
    (((w.setCell ⟨g, 0, none⟩ a').setCell ⟨g, 1, none⟩ b').alloc o).cell? ⟨g, 0, none⟩ = some a' ∧ (((w.setCell ⟨g, 0, none⟩ a').setCell ⟨g, 1, none⟩ b').alloc o).cell? ⟨g, 1, none⟩ = some b' := by
  have hlt : g < ((w.setCell ⟨g, 0, none⟩ a').setCell ⟨g, 1, none⟩ b').heap.size := by simpa using h.lt
  have h1 : (w.setCell ⟨g, 0, none⟩ a').cell? ⟨g, 1, none⟩ = some b := by
    rw [World.cell?_setCell_other (w := w) (a := ⟨g, 0, none⟩) (b := ⟨g, 1, none⟩) (h := by intro e; injection e with _ e2; cases e2)]; exact h.c1
  constructor
  · rw [World.cell?_alloc_lt _ _ _ hlt, World.cell?_setCell_other (w := w.setCell ⟨g, 0, none⟩ a') (a := ⟨g, 1, none⟩) (b := ⟨g, 0, none⟩) (h := by intro e; injection e with _ e2; cases e2)]
    exact World.cell?_setCell_same _ _ _ h.c0
  · rw [World.cell?_alloc_lt _ _ _ hlt]
    exact World.cell?_setCell_same _ _ _ h1
theorem Two.put {w : World} {g : Nat} {T : TypeId} {a b : Value} (h : Two w g T a b) (a' b' : Value) :
    ((w.setCell ⟨g, 0, none⟩ a').setCell ⟨g, 1, none⟩ b').cell? ⟨g, 0, none⟩ = some a' ∧ ((w.setCell ⟨g, 0, none⟩ a').setCell ⟨g, 1, none⟩ b').cell? ⟨g, 1, none⟩ = some b' := by
  have h1 : (w.setCell ⟨g, 0, none⟩ a').cell? ⟨g, 1, none⟩ = some b := by
    rw [World.cell?_setCell_other (w := w) (a := ⟨g, 0, none⟩) (b := ⟨g, 1, none⟩) (h := by intro e; injection e with _ e2; cases e2)]; exact h.c1
  constructor
  · rw [World.cell?_setCell_other (w := w.setCell ⟨g, 0, none⟩ a') (a := ⟨g, 1, none⟩) (b := ⟨g, 0, none⟩) (h := by intro e; injection e with _ e2; cases e2)]
    exact World.cell?_setCell_same _ _ _ h.c0
  · exact World.cell?_setCell_same _ _ _ h1
theorem Two.below {w0 w : World} {B g : Nat} {T : TypeId} {a b : Value} (hb : Below B w0 w) (h : Two w g T a b) (hg : B ≤ g) (a' b' : Value) (o : Obj) : Below B w0 (((w.setCell ⟨g, 0, none⟩ a').setCell ⟨g, 1, none⟩ b').alloc o) :=
  ((hb.setCell (p := ⟨g, 0, none⟩) hg _).setCell (p := ⟨g, 1, none⟩) hg _).alloc (by have := h.lt; simp; omega) _

end Tk
end Go.Proofs.YtcddkeekabafgaaDoor
namespace Go.Proofs.YtcddkeekabafgaaDoor
open Go.RowKit
namespace Tk

theorem bldInfo : (Tryd.prog.info? 80).map (·.size) = some 2 := by kernel_rfl
theorem bldLies : liesAt Tryd.prog Tryd.prog.depth 80 (2 / Tryd.prog.cellsOf 80) 0 80 1 = true := by kernel_rfl

abbrev IsB (B b : Nat) (l : Bs) (w : World) : Prop := Lib.IsBuilder 80 5 B b (Lib.byteCells l) w

set_option maxHeartbeats 1000000 in
set_option maxRecDepth 100000 in
theorem check_used (b : Nat) (w : World) (h0 : w.cell? ⟨b, 0, none⟩ = some (.pointer (some ⟨b, 0, none⟩))) :
    Calls Tryd.prog 77 #[.pointer (some ⟨b, 0, none⟩)] w fun e w' => e = .returned (.tuple #[]) ∧ w' = w := by
  obtain ⟨j, hj, _⟩ := Option.map_eq_some_iff.1 bldInfo
  go_enter Tryd.func77, Tryd.ntmps77
  go_wp2_with fail
  rw [Lib.run_neq_ptr_same w _ Tryd.underlying78 hj]
  go_wp2_with fail
  go_end0
  exact ⟨rfl, rfl⟩

set_option maxHeartbeats 1000000 in
set_option maxRecDepth 100000 in
theorem check_fresh (b : Nat) (w : World) (h0 : w.cell? ⟨b, 0, none⟩ = some (.pointer none)) (hsh : w.shape? b = some (80, 2)) (hfz : w.frozen? ⟨b, 0, none⟩ = false) :
    Calls Tryd.prog 77 #[.pointer (some ⟨b, 0, none⟩)] w fun e w' => e = .returned (.tuple #[]) ∧ w' = w.setCell ⟨b, 0, none⟩ (.pointer (some ⟨b, 0, none⟩)) := by
  obtain ⟨j, hj, hjs⟩ := Option.map_eq_some_iff.1 bldInfo
  go_enter Tryd.func77, Tryd.ntmps77
  go_wp2_with fail
  rw [Lib.run_to_unsafe w ⟨b, 0, none⟩ Tryd.underlying78 Tryd.underlying103 hj (by rw [hjs]; decide) hsh (Nat.zero_lt_succ 1)]
  simp only [Result.andThen]
  rw [Oper.upon_value]
  go_wp2_with fail
  rw [run_callFunc_extern Tryd.func85 (by kernel_rfl) (by kernel_rfl) (by kernel_rfl) (e := Extern.AbiNoEscape.same) (by kernel_rfl)]
  rw [Lib.run_noEscape]
  simp only [Result.andThen]
  rw [Oper.upon_value]
  go_wp2_with fail
  rw [Lib.run_from_unsafe w ⟨b, 0, none⟩ Tryd.underlying103 Tryd.underlying78 hj hsh bldLies]
  simp only [Result.andThen]
  rw [Oper.upon_value]
  go_wp2_with fail
  go_end0
  exact ⟨rfl, rfl⟩

theorem check_any (B b : Nat) (l : Bs) (w : World) (h : IsB B b l w) :
    Calls Tryd.prog 77 #[.pointer (some ⟨b, 0, none⟩)] w fun e w' => e = .returned (.tuple #[]) ∧ (Lib.BuilderAt 80 5 B b (.pointer (some ⟨b, 0, none⟩)) (Lib.byteCells l) w' ∧ Below B w w') := by
  rcases h with h | h
  · refine (check_fresh b w h.cell0 h.shape h.frozen0).mono ?_
    rintro e w' ⟨rfl, rfl⟩
    exact ⟨rfl, h.used _, (Below.refl B w).setCell (p := ⟨b, 0, none⟩) h.1 _⟩
  · refine (check_used b w h.cell0).mono ?_
    rintro e w' ⟨rfl, rfl⟩
    exact ⟨rfl, h, Below.refl B _⟩

theorem byteInf : (Tryd.prog.info? 5).map (fun i => (i.zero, i.size, i.bytes)) = some (some (.int .u8 0), 1, 1) := by kernel_rfl

end Tk
end Go.Proofs.YtcddkeekabafgaaDoor
namespace Go.Proofs.YtcddkeekabafgaaDoor
open Go.RowKit
namespace Tk

theorem cells_str (l : Bs) (s : ByteArray) : Lib.byteCells (l ++ bs s) = Lib.byteCells l ++ Lib.strCells s := by
  simp [Lib.byteCells, Lib.strCells, bs]

/-- blocks other than b that hold no bytes stay -/
def Others (b : Nat) (w w' : World) : Prop := ∀ (k : Nat) (cs : Array Value) (T : TypeId) (fr : Nat × Nat), w.heap[k]? = some (.cells cs T fr) → T ≠ 5 → k ≠ b → w'.heap[k]? = some (.cells cs T fr)

theorem check_oth (B b : Nat) (l : Bs) (w : World) (h : IsB B b l w) :
    Calls Tryd.prog 77 #[.pointer (some ⟨b, 0, none⟩)] w fun e w' => e = .returned (.tuple #[]) ∧ Lib.BuilderAt 80 5 B b (.pointer (some ⟨b, 0, none⟩)) (Lib.byteCells l) w' ∧ Below B w w' ∧ ∀ k, k ≠ b → w'.heap[k]? = w.heap[k]? := by
  rcases h with h | h
  · refine (check_fresh b w h.cell0 h.shape h.frozen0).mono ?_
    rintro e w' ⟨rfl, rfl⟩
    exact ⟨rfl, h.used _, (Below.refl B w).setCell (p := ⟨b, 0, none⟩) h.1 _, fun k hk => Below.heap_setCell _ _ _ _ hk⟩
  · refine (check_used b w h.cell0).mono ?_
    rintro e w' ⟨rfl, rfl⟩
    exact ⟨rfl, h, Below.refl B _, fun _ _ => rfl⟩

set_option maxHeartbeats 2000000 in
set_option maxRecDepth 100000 in
theorem writeString (B b : Nat) (l : Bs) (s : ByteArray) (w : World) (h : IsB B b l w) (hlen : l.length + s.size ≤ 1099511627776) (hBw : B ≤ w.heap.size) :
    Calls Tryd.prog 68 #[.pointer (some ⟨b, 0, none⟩), .string s] w fun e w' => e = .returned (.tuple #[.int .i64 s.size, .nilIface]) ∧ IsB B b (l ++ bs s) w' ∧ Below B w w' ∧ Others b w w' := by
  obtain ⟨i0, hi, hz0, hz1, hz2⟩ := info_parts byteInf
  have hl : (Lib.byteCells l).length = l.length := by simp [Lib.byteCells]
  go_enter Tryd.func68, Tryd.ntmps68
  go_wp2_with fail
  refine (check_oth B b l _ h).mono ?_
  rintro e w1 ⟨rfl, h1, hb1, hk1⟩
  have HK1 := Lib.hid hk1
  clear hk1
  obtain ⟨hB, v, hbk, hown, hne⟩ := h1
  have c0 : w1.cell? ⟨b, 0, none⟩ = some (.pointer (some ⟨b, 0, none⟩)) := by rw [Lib.cell_of_heap hbk]; rfl
  have c1 : w1.cell? ⟨b, 1, none⟩ = some v := by rw [Lib.cell_of_heap hbk]; rfl
  go_wp2_with (at_builtin; refine Lib.wpList_append_own_string _ rfl _ _ 68 9 rfl B 5 i0 Tryd.underlying68 Tryd.underlying9 hi hz0 hz1 hz2 _ _ _ rfl hown s rfl ?c3 ?c4 ?c5 ?_)
  case c3 => unfold maxLen; omega
  case c4 => omega
  case c5 => have := hb1.size; omega
  intro v' w2 hown' hgrow _
  have hlt : b < w1.heap.size := by
    rcases Nat.lt_or_ge b w1.heap.size with h' | h'
    · exact h'
    · simp [Array.getElem?_eq_none h'] at hbk
  have hb2 : w2.heap[b]? = some (.cells #[.pointer (some ⟨b, 0, none⟩), v] 80 (0, 0)) := by
    rw [hgrow.block b hlt (fun e => hne e.symm)]
    exact hbk
  have d0 : w2.cell? ⟨b, 0, none⟩ = some (.pointer (some ⟨b, 0, none⟩)) := by rw [Lib.cell_of_heap hb2]; rfl
  have d1 : w2.cell? ⟨b, 1, none⟩ = some v := by rw [Lib.cell_of_heap hb2]; rfl
  have f1 : w2.frozen? ⟨b, 1, none⟩ = false := Lib.frozen_of_heap hb2 1
  obtain ⟨ao, n', cap, rfl⟩ : ∃ ao n' cap, v' = .slice ao n' cap := by
    rcases hown'.2 with ⟨hv, _⟩ | ⟨g, cap, cur, hv, _⟩
    · exact ⟨_, _, _, hv⟩
    · exact ⟨_, _, _, hv⟩
  go_wp2_with fail
  go_ret2
  refine ⟨rfl, .inr ?_, ?_, ?_⟩
  · rw [cells_str]
    exact Lib.BuilderAt.put (T := 80) (e := 5) hB hb2 (bs' := Lib.byteCells l ++ Lib.strCells s) (by simpa [hl, Lib.strCells_length] using hown') (by decide)
  · exact (hb1.grown hgrow (by have := hb1.size; omega) (fun k hk => (hown.lt k hk).1)).setCell (p := ⟨b, 1, none⟩) hB _
  · intro k cs T fr hk hT hne'
    have h1 : w1.heap[k]? = some (.cells cs T fr) := by rw [HK1.out k hne']; exact hk
    have hlt1 : k < w1.heap.size := (Array.getElem?_eq_some_iff.1 h1).1
    rw [Below.heap_setCell _ _ _ _ hne', hgrow.block k hlt1 (fun e => Lib.ownBlock_ne hown h1 hT e.symm)]
    exact h1
end Tk
end Go.Proofs.YtcddkeekabafgaaDoor
namespace Go.Proofs.YtcddkeekabafgaaDoor
open Go.RowKit
namespace Tk

/-- a slice that holds these fields -/
def IsFlds (w : World) (v : Value) (l : List (Bs × Bs)) : Prop :=
  ∃ (a : Option Addr) (c : Nat), v = .slice a l.length c ∧ l.length ≤ c ∧ ∀ j f, l[j]? = some f → ∃ b o, a = some ⟨b, o, none⟩ ∧ w.cell? ⟨b, o + j * 2, none⟩ = some (.string (mkS f.1)) ∧ w.cell? ⟨b, o + j * 2 + 1, none⟩ = some (.string (mkS f.2))
theorem cell_lt {w : World} {p : Addr} {v : Value} (h : w.cell? p = some v) : p.block < w.heap.size := by
  refine Nat.lt_of_not_le fun hle => ?_
  simp only [World.cell?, Array.getElem?_eq_none hle] at h
  cases h
theorem isFlds_below {w w' : World} {v : Value} {l : List (Bs × Bs)} (h : IsFlds w v l) (hb : Below w.heap.size w w') : IsFlds w' v l := by
  obtain ⟨a, c, rfl, hl, hc⟩ := h
  refine ⟨a, c, rfl, hl, fun j t hj => ?_⟩
  obtain ⟨b, o, rfl, h1, h2⟩ := hc j t hj
  exact ⟨b, o, rfl, (hb.cell (p := ⟨b, o + j * 2, none⟩) (cell_lt (p := ⟨b, o + j * 2, none⟩) h1)).trans h1, (hb.cell (p := ⟨b, o + j * 2 + 1, none⟩) (cell_lt (p := ⟨b, o + j * 2 + 1, none⟩) h2)).trans h2⟩

def sumF : List (Bs × Bs) → Nat
  | [] => 0
  | f :: t => f.1.length + f.2.length + 4 + sumF t
def linesF (l : List (Bs × Bs)) : Bs := l.flatMap bytesF
theorem bytesF_len (f : Bs × Bs) : (bytesF f).length = f.1.length + f.2.length + 4 := by
  unfold bytesF; simp only [List.length_append, List.length_cons, List.length_nil]; omega
theorem lines_len : ∀ l, (linesF l).length = sumF l
  | [] => rfl
  | f :: t => by
    have := lines_len t
    unfold linesF at *
    rw [List.flatMap_cons, List.length_append, this, bytesF_len, sumF]
theorem sumF_mem : ∀ (l : List (Bs × Bs)) (f : Bs × Bs), f ∈ l → f.1.length + f.2.length + 4 ≤ sumF l
  | g :: t, f, h => by
    unfold sumF
    rcases List.mem_cons.1 h with rfl | h
    · omega
    · have := sumF_mem t f h; omega
theorem sumF_take : ∀ (l : List (Bs × Bs)) (i : Nat), sumF (l.take i) ≤ sumF l
  | [], i => by simp
  | f :: t, 0 => by simp [sumF]
  | f :: t, i + 1 => by have := sumF_take t i; simp only [List.take_succ_cons, sumF]; omega

def byN (l : List (Bs × Bs)) : Bs := if okFs l then linesF l else []
def byE (l : List (Bs × Bs)) : Int := if okFs l then 0 else 4
def BytesPost (l : List (Bs × Bs)) (w : World) (e : Ending) (w' : World) : Prop := e = .returned (.tuple #[.string (mkS (byN l)), .int .i64 (byE l)]) ∧ Below w.heap.size w w'

theorem okFs_take_no (l : List (Bs × Bs)) (f : Bs × Bs) (h : f ∈ l) (hk : okF f.1 f.2 = false) : okFs l = false := by
  cases hh : okFs l
  · rfl
  · unfold okFs at hh
    rw [List.all_eq_true] at hh
    rw [hh f h] at hk; cases hk
theorem okFs_snoc (l : List (Bs × Bs)) (f : Bs × Bs) (h : okFs l = true) (hk : okF f.1 f.2 = true) : okFs (l ++ [f]) = true := by
  unfold okFs at *
  rw [List.all_append, h]; simp [hk]
theorem lines_snoc (l : List (Bs × Bs)) (f : Bs × Bs) : linesF (l ++ [f]) = linesF l ++ f.1 ++ [58, 32] ++ f.2 ++ [13, 10] := by
  unfold linesF bytesF; simp

theorem own_keep {w w' : World} {B : Nat} {v : Value} {n : Nat} {xs : List Value} {e : TypeId} (h : w.ownsRow B e 1 v n xs) (hb : Below w.heap.size w w') : w'.ownsRow B e 1 v n xs :=
  World.ownsRow.kept h (row := none) ⟨hb.os, hb.tape, hb.output, hb.size, fun k hk _ => hb.block k hk⟩ (by cases h : v.ownBlock <;> simp)
theorem at_below {w w' : World} {B b : Nat} {p : Value} {xs : List Value} (h : Lib.BuilderAt 80 5 B b p xs w) (hb : Below w.heap.size w w') : Lib.BuilderAt 80 5 B b p xs w' := by
  have hlt := h.lt
  obtain ⟨hB, v, h1, h2, h3⟩ := h
  exact ⟨hB, v, by rw [hb.block b hlt]; exact h1, own_keep h2 hb, h3⟩
theorem isB_below {w w' : World} {B b : Nat} {l : Bs} (h : IsB B b l w) (hb : Below w.heap.size w w') : IsB B b l w' := by
  rcases h with h | h
  · exact .inl (at_below h hb)
  · exact .inr (at_below h hb)
theorem isB_lt {w : World} {B b : Nat} {l : Bs} (h : IsB B b l w) : b < w.heap.size := by
  rcases h with h | h <;> exact h.lt
theorem Two.others {w w' : World} {g b : Nat} {T : TypeId} {x y : Value} (h : Two w g T x y) (ho : Others b w w') (hT : T ≠ 5) (hg : g ≠ b) : Two w' g T x y := ho g _ _ _ h hT hg

end Tk
end Go.Proofs.YtcddkeekabafgaaDoor
namespace Go.Proofs.YtcddkeekabafgaaDoor
open Go.RowKit
namespace Tk

set_option maxHeartbeats 400000 in
theorem lower_any (c : UInt8) (w : World) :
    Calls Tryd.prog 62 #[.int .u8 (c.toNat : Int)] w fun r w' => r = .returned (.int .u8 ((lowB c).toNat : Int)) ∧ w = w' := by
  have hlt := c.toNat_lt
  by_cases h0 : 65 ≤ c.toNat
  · by_cases h1 : c.toNat ≤ 90
    · have HU := Lib.hid (lowB_up c h0 h1)
      generalize c.toNat = n at *
      go_enter Tryd.func62, Tryd.ntmps62
      go_wp2_with fail
      go_ret
      exact ⟨by rw [HU.out]; rfl, rfl⟩
    · have HU := Lib.hid (lowB_same c (by omega))
      go_enter Tryd.func62, Tryd.ntmps62
      go_wp2_with fail
      go_ret
      exact ⟨by rw [HU.out]; rfl, rfl⟩
  · have HU := Lib.hid (lowB_same c (by omega))
    go_enter Tryd.func62, Tryd.ntmps62
    go_wp2_with fail
    go_ret
    exact ⟨by rw [HU.out]; rfl, rfl⟩

set_option maxRecDepth 100000 in
set_option maxHeartbeats 1000000 in
theorem tsame_any (s t : ByteArray) (w : World) (hs : s.size ≤ 1099511627776) (_ht : t.size ≤ 1099511627776) :
    Calls Tryd.prog 66 #[.string s, .string t] w fun r w' => r = .returned (.bool (decide (lowL (bs s) = lowL (bs t)))) ∧ ∃ n, w' = w.drewN n := by
  have HL := Lib.hid (length_bs s)
  have HM := Lib.hid (length_bs t)
  by_cases hne : s.size = t.size
  · have hb : ((s.size : Int) != (t.size : Int)) = false := by rw [hne]; simp
    have HN := Lib.hid hne
    clear hne
    go_enter Tryd.func66, Tryd.ntmps66
    go_wp2_with fail
    go_loopw [13, 5] (fun v _ wr => ∃ (j : Nat), j ≤ s.size ∧ v = .int .i64 j ∧ Hid (∃ n, wr = w.drewN n) ∧ Hid (decide (lowL (bs s) = lowL (bs t)) = decide (lowL ((bs s).drop j) = lowL ((bs t).drop j)))) (fun v _ _ => s.size - (RowKit.intOf v).toNat)
    case atStart => exact ⟨0, Nat.zero_le _, rfl, ⟨0, rfl⟩, rfl⟩
    case round =>
      obtain ⟨j, hj, rfl, HW, hd⟩ := hrel
      rename World => W
      by_cases hlt : j < s.size
      · have hlt2 : j < t.size := by have := HN.out; omega
        have hdr := drop_cons (bs s) j (by rw [HL.out]; exact hlt)
        rw [getD_bs s j hlt] at hdr
        have hdr2 := drop_cons (bs t) j (by rw [HM.out]; exact hlt2)
        rw [getD_bs t j hlt2] at hdr2
        have HD := Lib.hid hdr
        have HD2 := Lib.hid hdr2
        clear hdr hdr2
        have hI : (j : Int) < (s.size : Int) := by omega
        have hI2 : (j : Int) < (t.size : Int) := by omega
        go_wp2_with fail
        go_quiet ((go_at_call 62; exact Calls.quiet_of_same ((lower_any _ _).mono fun _ _ h => ⟨h.1, h.2.symm⟩)))
        obtain ⟨n, hW⟩ := HW.out
        have HW2 : Hid (∃ m, W.drewN nq = w.drewN m) := ⟨n + nq, by rw [hW, World.drewN_drewN]⟩
        clear hW
        go_wp2_with fail
        · have hx : (((lowB s[j]).toNat : Int) != ((lowB t[j]).toNat : Int)) = true := by assumption
          have hne : lowB s[j] ≠ lowB t[j] := fun e => by rw [e] at hx; simp at hx
          have fin : decide (lowL (bs s) = lowL (bs t)) = false := by
            rw [hd.out, HD.out, HD2.out]; simp [lowL, hne]
          go_ret
          exact ⟨by rw [fin]; rfl, HW2.out⟩
        · have hx : (((lowB s[j]).toNat : Int) != ((lowB t[j]).toNat : Int)) = false := by assumption
          have he : lowB s[j] = lowB t[j] := UInt8.toNat_inj.1 (by rw [bne_eq_false_iff_eq] at hx; omega)
          refine ⟨⟨j + 1, by omega, by go_num, HW2, ?_⟩, by simp [RowKit.intOf]; omega⟩
          show _ = _
          rw [hd.out, HD.out, HD2.out]; simp [lowL, he]
      · have fin : decide (lowL (bs s) = lowL (bs t)) = true := by
          have := HN.out
          rw [hd.out, List.drop_eq_nil_of_le (by rw [HL.out]; omega), List.drop_eq_nil_of_le (by rw [HM.out]; omega)]; simp
        have HF := Lib.hid fin
        clear fin
        go_wp2_with fail
        go_ret
        exact ⟨by rw [HF.out]; rfl, HW.out⟩
  · have hb : ((s.size : Int) != (t.size : Int)) = true := by simp; omega
    have hf : decide (lowL (bs s) = lowL (bs t)) = false := by
      simp only [decide_eq_false_iff_not]
      intro e
      have := congrArg List.length e
      rw [length_lowL, length_lowL, length_bs, length_bs] at this
      exact hne this
    have HF := Lib.hid hf
    clear hf hne
    go_enter Tryd.func66, Tryd.ntmps66
    go_wp2_with fail
    go_ret
    exact ⟨by rw [HF.out]; rfl, 0, rfl⟩
end Tk
end Go.Proofs.YtcddkeekabafgaaDoor
namespace Go.Proofs.YtcddkeekabafgaaDoor
open Go.RowKit
namespace Tk

def eqF (f g : Bs × Bs) : Bool := decide (lowL f.1 = lowL g.1) && decide (f.2 = g.2)
def sameFs : List (Bs × Bs) → List (Bs × Bs) → Bool
  | [], [] => true
  | f :: t, g :: u => eqF f g && sameFs t u
  | _, _ => false

theorem below_some_draws {w w1 : World} (h : Below w.heap.size w w1) (n : Nat) : Below w.heap.size w (w1.drewN n) := h.trans ⟨rfl, rfl, rfl, Nat.le_refl _, fun _ _ => rfl⟩
theorem beq_mkS' (a b : Bs) : ((mkS a).toList == (mkS b).toList) = decide (a = b) := by
  rw [toList_bs, toList_bs, bs_mkS, bs_mkS]
  by_cases h : a = b <;> simp [h]

theorem sameFs_drop (l m : List (Bs × Bs)) (i : Nat) (hi : i < l.length) (hm : i < m.length) : sameFs (l.drop i) (m.drop i) = (eqF (l.getD i ([], [])) (m.getD i ([], [])) && sameFs (l.drop (i + 1)) (m.drop (i + 1))) := by
  rw [List.drop_eq_getElem_cons hi, List.drop_eq_getElem_cons hm, sameFs]
  simp [List.getD, hi, hm]
theorem sameFs_len : ∀ (l m : List (Bs × Bs)), sameFs l m = true → l.length = m.length
  | [], [], _ => rfl
  | f :: t, g :: u, h => by
    simp only [sameFs, Bool.and_eq_true] at h
    have := sameFs_len t u h.2
    simp [this]
  | [], _ :: _, h => by simp [sameFs] at h
  | _ :: _, [], h => by simp [sameFs] at h

end Tk
end Go.Proofs.YtcddkeekabafgaaDoor
namespace Go.Proofs.YtcddkeekabafgaaDoor
open Go.RowKit
namespace Tk

def strs (P : List Bs) : List Value := P.map fun t => .string (mkS t)
theorem strs_append (P Q : List Bs) : strs (P ++ Q) = strs P ++ strs Q := by simp [strs]
theorem strInfo : (Tryd.prog.info? 9).map (fun i => (i.zero, i.size, i.bytes)) = some (some (.string .empty), 1, 16) := by kernel_rfl

def ListPost (base : Nat) (Q : List Bs) (w : World) (r : Ending) (w' : World) : Prop :=
  ∃ v, r = .returned v ∧ w'.ownsRow base 9 1 v Q.length (strs Q) ∧ Below base w w'

theorem below_of_grown {a b : World} {B : Nat} {v : Value} {n : Nat} {xs : List Value} {e : TypeId} (h : a.grownBy b v.ownBlock) (ho : a.ownsRow B e 1 v n xs) (hB : B ≤ a.heap.size) : Below B a b :=
  (Below.refl B a).grown h hB fun k hk => (ho.lt k hk).1
end Tk
end Go.Proofs.YtcddkeekabafgaaDoor
namespace Go.Proofs.YtcddkeekabafgaaDoor
open Go.RowKit
namespace Tk

def isN (name : Bs) (f : Bs × Bs) : Bool := decide (lowL f.1 = lowL name)
def allF (l : List (Bs × Bs)) (name : Bs) : List Bs := (l.filter (isN name)).map (·.2)
theorem allF_snoc (l : List (Bs × Bs)) (f : Bs × Bs) (name : Bs) : allF (l ++ [f]) name = allF l name ++ (if isN name f then [f.2] else []) := by
  unfold allF
  cases h : isN name f <;> simp [h]
theorem allF_len (l : List (Bs × Bs)) (name : Bs) : (allF l name).length ≤ l.length := by
  unfold allF; rw [List.length_map]; exact List.length_filter_le _ _

set_option maxHeartbeats 4000000 in
set_option maxRecDepth 100000 in
theorem fown_any (n x : Bs) (w : World) (hn : n.length ≤ 1099511627776) (hx : x.length ≤ 1099511627776) :
    Calls Tryd.prog 59 #[.string (mkS n), .string (mkS x)] w fun e w' => e = .returned (.agg #[.string (mkS n), .string (mkS x)]) ∧ Below w.heap.size w w' := by
  have H1 := Lib.hid (fun W : World => clone_any (mkS n) W (by rw [size_mkS]; exact hn))
  have H2 := Lib.hid (fun W : World => clone_any (mkS x) W (by rw [size_mkS]; exact hx))
  rw [bs_mkS] at H1 H2
  have HN := Lib.hid (Two.new w 24 (.string ⟨#[]⟩) (.string ⟨#[]⟩))
  have HB0 := Lib.hid (show Below w.heap.size w (w.alloc (.cells #[.string ⟨#[]⟩, .string ⟨#[]⟩] 24)) from (Below.refl _ _).alloc (Nat.le_refl _) _)
  have hsz : w.heap.size ≤ (w.alloc (.cells #[.string ⟨#[]⟩, .string ⟨#[]⟩] 24)).heap.size := by simp
  go_enter Tryd.func59, Tryd.ntmps59
  go_wp2_with fail
  generalize w.alloc (.cells #[.string ⟨#[]⟩, .string ⟨#[]⟩] 24) = W0 at *
  refine (H1.out _).mono ?_
  rintro e w1 ⟨rfl, hb⟩
  have HN1 := Lib.hid (HN.out.later hb)
  have HB1 := Lib.hid (HB0.out.trans (hb.mono hsz))
  have hsz1 := Nat.le_trans hsz hb.size
  clear hb
  go_wp2_with fail
  refine (H2.out _).mono ?_
  rintro e w2 ⟨rfl, hb⟩
  have HN2 := Lib.hid (HN1.out.later hb)
  have HB2 := Lib.hid (HB1.out.trans (hb.mono hsz1))
  have c0 := HN2.out.c0
  have c1 := HN2.out.c1
  have f0 := HN2.out.f0
  have f1 := HN2.out.f1
  clear hb
  have hput := HN2.out.put (.string (mkS n)) (.string (mkS x))
  have q0 := hput.1
  have q1 := hput.2
  clear hput
  go_wp2_with fail
  refine bodyPost_ret (v := .agg #[.string (mkS n), .string (mkS x)]) ?_ rfl ⟨rfl, ?_⟩
  · simp [results, Tryd.results59, go_sem, q0, q1]
  · exact (HB2.out.setCell (p := ⟨w.heap.size, 0, none⟩) (Nat.le_refl _) _).setCell (p := ⟨w.heap.size, 1, none⟩) (Nat.le_refl _) _

set_option maxHeartbeats 8000000 in
set_option maxRecDepth 100000 in
theorem fall_any (v : Value) (l : List (Bs × Bs)) (name : Bs) (w : World) (hs : IsFlds w v l) (hz : ∀ f ∈ l, f.1.length ≤ 1099511627776 ∧ f.2.length ≤ 1099511627776) (hn : name.length ≤ 1099511627776) (hl : l.length ≤ 1048576) :
    Calls Tryd.prog 54 #[v, .string (mkS name)] w (ListPost w.heap.size (allF l name) w) := by
  have HS := Lib.hid hs
  have HZ := Lib.hid hz
  obtain ⟨i0, hi0, hz0, hz1, hz2⟩ := info_parts strInfo
  have HNZ := Lib.hid (size_mkS name)
  obtain ⟨a, cap, rfl⟩ : ∃ a cap, v = .slice a l.length cap := by obtain ⟨a, c, h, -⟩ := hs; exact ⟨a, c, h⟩
  clear hs hz
  go_enter Tryd.func54, Tryd.ntmps54
  go_wp2_with fail
  go_loopw [5, 10] (fun v5 vi wr => ∃ i : Nat, i ≤ l.length ∧ vi = .int .i64 i ∧ Hid (wr.ownsRow w.heap.size 9 1 v5 (allF (l.take i) name).length (strs (allF (l.take i) name))) ∧ Hid (Below w.heap.size w wr)) (fun _ vi _ => l.length - (RowKit.intOf vi).toNat)
  case atStart => exact ⟨0, Nat.zero_le _, rfl, World.ownsRow_nil _ _ _ _, Below.refl _ _⟩
  case round =>
    obtain ⟨i, hi, rfl, HO, HB⟩ := hrel
    rename World => W
    by_cases hlt : i < l.length
    · obtain ⟨a', c', e', hcap, hc⟩ := isFlds_below HS.out HB.out
      injection e' with e1 _ e2
      subst e1 e2
      obtain ⟨b, o, rfl, hc0, hc1⟩ := hc i (l.getD i ([], [])) (by simp [List.getD, hlt])
      have hm := HZ.out (l.getD i ([], [])) (by simp [List.getD, hlt])
      have htk : l.take (i + 1) = l.take i ++ [l.getD i ([], [])] := by
        rw [List.take_succ_eq_append_getElem hlt]; simp [List.getD, hlt]
      have hnx := allF_snoc (l.take i) (l.getD i ([], [])) name
      rw [← htk] at hnx
      have HNX := Lib.hid hnx
      have hal := allF_len (l.take i) name
      have htl : (l.take i).length ≤ i := by simp; omega
      have hal2 : (allF (l.take i) name).length ≤ 1048576 := by omega
      clear hc htk hnx hal htl
      generalize l.getD i ([], []) = f at *
      obtain ⟨n, x⟩ := f
      have hnz := size_mkS n
      have hxz := size_mkS x
      simp only at hm hc0 hc1
      have HC := fun W : World => tsame_any (mkS n) (mkS name) W (by omega) (by rw [HNZ.out]; exact hn)
      rw [bs_mkS, bs_mkS] at HC
      have HCl := Lib.hid (fun W : World => clone_any (mkS x) W (by omega))
      rw [bs_mkS] at HCl
      have HF0 := Lib.hid (Two.new W 24 (.string (mkS n)) (.string (mkS x)))
      have hb0 : Below W.heap.size W (W.alloc (Obj.cells #[.string (mkS n), .string (mkS x)] 24)) := (Below.refl _ _).alloc (Nat.le_refl _) _
      have HO0 := Lib.hid (own_keep HO.out hb0)
      have HB0 := Lib.hid (HB.out.trans (hb0.mono HB.out.size))
      have hq0 := HF0.out.c0
      have hq1 := HF0.out.c1
      have g0 : (0 : Int) ≤ (i : Int) := by omega
      have g1 : (i : Int) < (l.length : Int) := by omega
      have hbsz := HB.out.size
      have hs0 : w.heap.size ≤ (W.alloc (Obj.cells #[.string (mkS n), .string (mkS x)] 24)).heap.size := by simp; omega
      clear hb0 hnz hxz hbsz
      have hkk : isN name (n, x) = decide (lowL n = lowL name) := rfl
      rw [← hkk] at HC
      clear hkk
      generalize allF (l.take i) name = P at *
      cases hk : isN name (n, x)
      · rw [hk] at HC HNX
        have hx2 : allF (l.take (i + 1)) name = P := by rw [HNX.out]; simp
        have HX := Lib.hid hx2
        have HC2 := Lib.hid HC
        clear HC hk hx2
        go_wp2_with fail
        generalize W.alloc (Obj.cells #[.string (mkS n), .string (mkS x)] 24) = W4 at *
        generalize W.heap.size = g at *
        refine (HC2.out _).mono ?_
        rintro e w5 ⟨rfl, k, rfl⟩
        go_wp2_with fail
        refine ⟨⟨i + 1, hlt, by go_num, ?_, below_some_draws HB0.out k⟩, by simp [RowKit.intOf]; omega⟩
        show World.ownsRow _ _ _ _ _ _ _
        rw [HX.out]
        exact HO0.out
      · rw [hk] at HC HNX
        have hx2 : allF (l.take (i + 1)) name = P ++ [x] := by rw [HNX.out]; simp
        have HX := Lib.hid hx2
        have HC2 := Lib.hid HC
        clear HC hk hx2
        go_wp2_with fail
        generalize W.alloc (Obj.cells #[.string (mkS n), .string (mkS x)] 24) = W4 at *
        generalize W.heap.size = g at *
        refine (HC2.out _).mono ?_
        rintro e w5 ⟨rfl, k, rfl⟩
        have hF5 := HF0.out.draws k
        have p1 := hF5.c1
        have HB5 := Lib.hid (below_some_draws HB0.out k)
        have HO5 := Lib.hid (show (W4.drewN k).ownsRow w.heap.size 9 1 u5 P.length (strs P) from HO0.out)
        have hs5 : w.heap.size ≤ (W4.drewN k).heap.size := hs0
        clear hF5
        go_wp2_with fail
        refine (HCl.out _).mono ?_
        rintro e w6 ⟨rfl, hb⟩
        have hown' := own_keep HO5.out hb
        have hB' : w.heap.size ≤ w6.heap.size := Nat.le_trans hs5 hb.size
        have HB6 := Lib.hid (HB5.out.trans (hb.mono hs5))
        clear hb p1
        go_wp2_with (at_builtin; refine wpList_append_own _ rfl _ _ 36 rfl w.heap.size 9 i0 (.string .empty) 1 16 Tryd.underlying36 hi0 hz0 hz1 hz2 rfl (by decide) _ _ _ rfl (hown'.alloc _) ⟨w6.heap.size, 0, none⟩ 1 1 [.string (mkS x)] rfl rfl ?c1 ?c2 ?c3 ?c4 ?c5 ?_)
        case c1 => exact cell_one_new _ _ _
        case c2 => simp [Value.oneCell']
        case c3 => unfold maxLen; omega
        case c4 => omega
        case c5 => simp; omega
        intro v' w1 hown1 hg1 _
        have hb1 : Below w.heap.size w w1 := HB6.out.trans (((Below.refl w.heap.size w6).alloc hB' _).trans (below_of_grown hg1 (hown'.alloc _) (by simp; omega)))
        have HB7 := Lib.hid hb1
        have HO7 := Lib.hid hown1
        clear hb1 hown1 hg1 hown'
        go_wp2_with fail
        refine ⟨⟨i + 1, hlt, by go_num, ?_, HB7⟩, by simp [RowKit.intOf]; omega⟩
        show World.ownsRow _ _ _ _ _ _ _
        rw [HX.out, List.length_append, strs_append]
        exact HO7.out
    · have hil : l.take i = l := List.take_of_length_le (by omega)
      rw [hil] at HO
      go_wp2_with fail
      go_ret
      exact ⟨u5, rfl, HO.out, HB.out⟩
end Tk
end Go.Proofs.YtcddkeekabafgaaDoor
namespace Go.Proofs.YtcddkeekabafgaaDoor
open Go.RowKit
namespace Tk

/-- the function value that named returns -/
def namedV (g : Nat) : Value := .func (.func 70) #[] #[.pointer (some ⟨g, 0, none⟩)]
def HasN (w : World) (g : Nat) (name : Bs) : Prop := w.cell? ⟨g, 0, none⟩ = some (.string (mkS name))
theorem HasN.lt {w : World} {g : Nat} {name : Bs} (h : HasN w g name) : g < w.heap.size := cell_lt (p := ⟨g, 0, none⟩) h
theorem HasN.later {w w' : World} {g : Nat} {name : Bs} (h : HasN w g name) (hb : Below w.heap.size w w') : HasN w' g name := (hb.cell (p := ⟨g, 0, none⟩) h.lt).trans h

set_option maxHeartbeats 2000000 in
theorem named_any (name : Bs) (w : World) :
    Calls Tryd.prog 57 #[.string (mkS name)] w fun e w' => e = .returned (namedV w.heap.size) ∧ HasN w' w.heap.size name ∧ Below w.heap.size w w' := by
  go_enter Tryd.func57, Tryd.ntmps57
  go_wp2_with fail
  go_ret
  exact ⟨rfl, by unfold HasN; rw [Lib.cell_of_heap (heap_alloc_last w _)]; rfl, (Below.refl _ _).alloc (Nat.le_refl _) _⟩

set_option maxHeartbeats 2000000 in
set_option maxRecDepth 100000 in
theorem named1_any (g : Nat) (name n x : Bs) (w : World) (hc : HasN w g name) (hn : n.length ≤ 1099511627776) (hm : name.length ≤ 1099511627776) :
    Calls Tryd.prog 70 #[.agg #[.string (mkS n), .string (mkS x)], .pointer (some ⟨g, 0, none⟩)] w fun e w' => e = .returned (.bool (isN name (n, x))) ∧ Below w.heap.size w w' := by
  have HS := fun W : World => tsame_any (mkS n) (mkS name) W (by rw [size_mkS]; exact hn) (by rw [size_mkS]; exact hm)
  rw [bs_mkS, bs_mkS] at HS
  have hv : isN name (n, x) = decide (lowL n = lowL name) := rfl
  have HV := Lib.hid hv
  have HS2 := Lib.hid HS
  have hc0 : (w.alloc (Obj.cells #[.string (mkS n), .string (mkS x)] 24)).cell? ⟨g, 0, none⟩ = some (.string (mkS name)) := (World.cell?_alloc_lt w _ _ hc.lt).trans hc
  have hc1 : w.cell? ⟨g, 0, none⟩ = some (.string (mkS name)) := hc
  clear hv HS
  go_enter Tryd.func70, Tryd.ntmps70
  go_wp2_with fail
  refine (HS2.out _).mono ?_
  rintro e w' ⟨rfl, k, rfl⟩
  go_wp2_with fail
  go_ret
  exact ⟨by rw [HV.out]; rfl, below_some_draws ((Below.refl _ _).alloc (Nat.le_refl _) _) k⟩

/-- where the first field of this name is, or -1 -/
def idxF (name : Bs) (l : List (Bs × Bs)) : Int := if l.findIdx (isN name) < l.length then (l.findIdx (isN name) : Int) else -1
theorem idxF_hit (name : Bs) (l : List (Bs × Bs)) (i : Nat) (hi : i < l.length) (h1 : ∀ f ∈ l.take i, isN name f = false) (h2 : isN name (l.getD i ([], [])) = true) : l.findIdx (isN name) = i := by
  rw [List.findIdx_eq hi]
  refine ⟨by simpa [List.getD, hi] using h2, fun j hj => ?_⟩
  refine h1 _ ?_
  rw [List.mem_take_iff_getElem]
  exact ⟨j, by omega, rfl⟩
theorem idxF_no (name : Bs) (l : List (Bs × Bs)) (h1 : ∀ f ∈ l, isN name f = false) : l.findIdx (isN name) = l.length := by
  rw [List.findIdx_eq_length]; exact h1

set_option maxHeartbeats 4000000 in
set_option maxRecDepth 100000 in
theorem index_any (v : Value) (g : Nat) (name : Bs) (l : List (Bs × Bs)) (w : World) (hs : IsFlds w v l) (hg : HasN w g name) (hz : ∀ f ∈ l, f.1.length ≤ 1099511627776 ∧ f.2.length ≤ 1099511627776) (hn : name.length ≤ 1099511627776) (hl : l.length ≤ 1048576) :
    Calls Tryd.prog 56 #[v, namedV g] w fun e w' => e = .returned (.int .i64 (idxF name l)) ∧ Below w.heap.size w w' := by
  have HS := Lib.hid hs
  have HZ := Lib.hid hz
  have HG := Lib.hid hg
  obtain ⟨a, cap, rfl⟩ : ∃ a cap, v = .slice a l.length cap := by obtain ⟨a, c, h, -⟩ := hs; exact ⟨a, c, h⟩
  clear hs hz hg
  unfold namedV
  go_enter Tryd.func56, Tryd.ntmps56
  go_wp2_with fail
  go_loopw [5, 8] (fun _ vi wr => ∃ i : Nat, i ≤ l.length ∧ vi = .int .i64 i ∧ Hid (∀ f ∈ l.take i, isN name f = false) ∧ Hid (Below w.heap.size w wr)) (fun _ vi _ => l.length - (RowKit.intOf vi).toNat)
  case atStart => exact ⟨0, Nat.zero_le _, rfl, fun f hf => by simp at hf, Below.refl _ _⟩
  case round =>
    obtain ⟨i, hi, rfl, HA, HB⟩ := hrel
    rename World => W
    by_cases hlt : i < l.length
    · obtain ⟨a', c', e', hcap, hc⟩ := isFlds_below HS.out HB.out
      injection e' with e1 _ e2
      subst e1 e2
      obtain ⟨b, o, rfl, hc0, hc1⟩ := hc i (l.getD i ([], [])) (by simp [List.getD, hlt])
      have hm := HZ.out (l.getD i ([], [])) (by simp [List.getD, hlt])
      have hhit := idxF_hit name l i hlt HA.out
      have htk : l.take (i + 1) = l.take i ++ [l.getD i ([], [])] := by
        rw [List.take_succ_eq_append_getElem hlt]; simp [List.getD, hlt]
      have HTK := Lib.hid htk
      have HHit := Lib.hid hhit
      clear hc htk hhit
      generalize l.getD i ([], []) = f at *
      obtain ⟨n, x⟩ := f
      simp only at hm hc0 hc1
      have HC := named1_any g name n x W (HG.out.later HB.out) hm.1 hn
      have g0 : (0 : Int) ≤ (i : Int) := by omega
      have g1 : (i : Int) < (l.length : Int) := by omega
      cases hk : isN name (n, x)
      · rw [hk] at HC
        have HA2 : Hid (∀ f ∈ l.take (i + 1), isN name f = false) := by
          intro f hf
          rw [HTK.out, List.mem_append, List.mem_singleton] at hf
          rcases hf with hf | rfl
          · exact HA.out f hf
          · exact hk
        have HC2 := Lib.hid HC
        clear HC hk
        go_wp2_with fail
        refine HC2.out.mono ?_
        rintro e w' ⟨rfl, hb⟩
        have HB2 := Lib.hid (HB.out.trans (hb.mono HB.out.size))
        clear hb
        go_wp2_with fail
        exact ⟨⟨i + 1, hlt, by go_num, HA2, HB2⟩, by simp [RowKit.intOf]; omega⟩
      · rw [hk] at HC
        have hidx : idxF name l = (i : Int) := by unfold idxF; rw [HHit.out hk, if_pos hlt]
        have HX := Lib.hid hidx
        have HC2 := Lib.hid HC
        clear HC hk hidx
        go_wp2_with fail
        refine HC2.out.mono ?_
        rintro e w' ⟨rfl, hb⟩
        have HB2 := Lib.hid (HB.out.trans (hb.mono HB.out.size))
        clear hb
        go_wp2_with fail
        go_ret
        exact ⟨by rw [HX.out]; rfl, HB2.out⟩
    · have hil : l.take i = l := List.take_of_length_le (by omega)
      rw [hil] at HA
      have hidx : idxF name l = -1 := by unfold idxF; rw [idxF_no name l HA.out, if_neg (by omega)]
      have HX := Lib.hid hidx
      clear hidx hil
      go_wp2_with fail
      go_ret
      exact ⟨by rw [HX.out]; rfl, HB.out⟩
end Tk
end Go.Proofs.YtcddkeekabafgaaDoor
namespace Go.Proofs.YtcddkeekabafgaaDoor
open Go.RowKit
namespace Tk

def fcells (l : List (Bs × Bs)) : List Value := l.flatMap fun f => [.string (mkS f.1), .string (mkS f.2)]
theorem fcells_len : ∀ l, (fcells l).length = l.length * 2
  | [] => rfl
  | f :: t => by
    have := fcells_len t
    unfold fcells at *
    rw [List.flatMap_cons, List.length_append, this]; simp; omega
theorem fcells_app (a b : List (Bs × Bs)) : fcells (a ++ b) = fcells a ++ fcells b := by simp [fcells]
theorem fcells_at : ∀ (l : List (Bs × Bs)) (j : Nat) (u : Value), (fcells l)[j]? = some u → ∃ i f, l[i]? = some f ∧ ((j = i * 2 ∧ u = .string (mkS f.1)) ∨ (j = i * 2 + 1 ∧ u = .string (mkS f.2)))
  | [], j, u, h => by simp [fcells] at h
  | f :: t, 0, u, h => by
    simp [fcells] at h
    exact ⟨0, f, rfl, .inl ⟨rfl, h.symm⟩⟩
  | f :: t, 1, u, h => by
    simp [fcells] at h
    exact ⟨0, f, rfl, .inr ⟨rfl, h.symm⟩⟩
  | f :: t, j + 2, u, h => by
    have h2 : (fcells t)[j]? = some u := by
      unfold fcells at *
      rw [List.flatMap_cons] at h
      simpa using h
    obtain ⟨i, g, hg, hj⟩ := fcells_at t j u h2
    refine ⟨i + 1, g, by simpa using hg, ?_⟩
    rcases hj with ⟨hj, hu⟩ | ⟨hj, hu⟩
    · exact .inl ⟨by omega, hu⟩
    · exact .inr ⟨by omega, hu⟩
theorem fcells_get : ∀ (l : List (Bs × Bs)) (j : Nat) (f : Bs × Bs), l[j]? = some f → (fcells l)[j * 2]? = some (.string (mkS f.1)) ∧ (fcells l)[j * 2 + 1]? = some (.string (mkS f.2))
  | [], j, f, h => by simp at h
  | g :: t, 0, f, h => by
    simp at h; subst h
    exact ⟨by simp [fcells], by simp [fcells]⟩
  | g :: t, j + 1, f, h => by
    have := fcells_get t j f (by simpa using h)
    unfold fcells at *
    rw [List.flatMap_cons, show (j + 1) * 2 = j * 2 + 2 by omega]
    constructor
    · simpa using this.1
    · simpa using this.2
theorem fcells_one (l : List (Bs × Bs)) : ∀ u ∈ fcells l, u.oneCell' = true := by
  intro u hu
  unfold fcells at hu
  rw [List.mem_flatMap] at hu
  obtain ⟨f, -, hf⟩ := hu
  simp at hf
  rcases hf with rfl | rfl <;> rfl

theorem fldInfo : (Tryd.prog.info? 24).map (fun i => (i.zero, i.size, i.bytes)) = some (some (.agg #[.string .empty, .string .empty]), 2, 32) := by kernel_rfl

theorem below_of_grownF {a b : World} {B : Nat} {v : Value} {n : Nat} {xs : List Value} {e : TypeId} (h : a.grownBy b v.ownBlock) (ho : a.ownsRow B e 2 v n xs) (hB : B ≤ a.heap.size) : Below B a b :=
  (Below.refl B a).grown h hB fun k hk => (ho.lt k hk).1

set_option maxRecDepth 100000 in
theorem joinF_run (w : World) (o : Oper) (a : Act) (K : Act → World → Prop) (Q : Exit → Act → World → Prop) (s x : Operand)
    (ho : o.op = .call { callee := .builtin .append, args := #[s, x], argTypes := #[26, 26] })
    (base : Nat) (v v2 : Value) (P R : List (Bs × Bs)) (hs : a.eval s = v) (hx : a.eval x = v2) (h1 : w.ownsRow base 24 2 v P.length (fcells P)) (h2 : IsFlds w v2 R) (hnl : ∀ n c, v2 = .slice none n c → c = 0)
    (hB : base ≤ w.heap.size) (hP : P.length ≤ 1048576) (hR : R.length ≤ 1048576)
    (h : ∀ v' w', w'.ownsRow base 24 2 v' (P ++ R).length (fcells (P ++ R)) → w.grownBy w' v.ownBlock → K (a.put o.dst v') w') : o.wp Tryd.prog a w K Q := by
  obtain ⟨i0, hi, hz0, hz1, hz2⟩ := info_parts fldInfo
  obtain ⟨ad, cap, rfl, hcap, hc⟩ := h2
  rcases ad with _ | ad
  · have hR0 : R = [] := by
      cases R with
      | nil => rfl
      | cons f t => obtain ⟨b, o, e, -⟩ := hc 0 f rfl; cases e
    subst hR0
    have hcap0 := hnl _ _ rfl
    subst hcap0
    have hrun := run_append_owned_none (P := Tryd.prog) (w := w) base 26 o.type 24 i0 2 Tryd.underlying26 hi v P.length (fcells P) h1
    unfold Oper.wp
    simp only [List.length_nil] at hx
    simp [execOp, ho, resolve, invoke, builtin, hs, hx, hrun, Result.andThen]
    exact h v w (by simpa using h1) ⟨rfl, rfl, rfl, Nat.le_refl _, fun _ _ _ => rfl⟩
  · refine wp_append_own (P := Tryd.prog) w s x 26 ho base 24 i0 (.agg #[.string .empty, .string .empty]) 2 32 Tryd.underlying26 hi hz0 hz1 hz2 rfl (by decide) v P.length (fcells P) hs h1 ad R.length cap (fcells R) hx (fcells_len R)
      (fun j u hj => ?_) (fcells_one R) (by unfold maxLen; omega) (by omega) hB ?_
    · obtain ⟨i, f, hf, hju⟩ := fcells_at R j u hj
      obtain ⟨b, o, e, g0, g1⟩ := hc i f hf
      injection e with e
      subst e
      rw [Go.WideShapes.add_plain]
      rcases hju with ⟨rfl, rfl⟩ | ⟨rfl, rfl⟩
      · exact g0
      · rw [← Nat.add_assoc]; exact g1
    · intro v' w' ho' hg' _
      refine h v' w' ?_ hg'
      rw [List.length_append, fcells_app]
      exact ho'

theorem joinF_guarded {ops : Array Oper} {rest : List Oper} {w : World} {o : Oper} {a : Act} {Q : Exit → Act → World → Prop} (hw : Region.wanted o (yielded ops a.tmps) = true) (s x : Operand)
    (ho : o.op = .call { callee := .builtin .append, args := #[s, x], argTypes := #[26, 26] })
    (base : Nat) (v v2 : Value) (P R : List (Bs × Bs)) (hs : a.eval s = v) (hx : a.eval x = v2) (h1 : w.ownsRow base 24 2 v P.length (fcells P)) (h2 : IsFlds w v2 R) (hnl : ∀ n c, v2 = .slice none n c → c = 0)
    (hB : base ≤ w.heap.size) (hP : P.length ≤ 1048576) (hR : R.length ≤ 1048576)
    (h : ∀ v' w', w'.ownsRow base 24 2 v' (P ++ R).length (fcells (P ++ R)) → w.grownBy w' v.ownBlock → wpList Tryd.prog ops Q rest (a.put o.dst v') w') : wpList Tryd.prog ops Q (o :: rest) a w :=
  BigFrame.wpList_want hw fun K hK => joinF_run w o a K Q s x ho base v v2 P R hs hx h1 h2 hnl hB hP hR fun v' w' a b => hK _ _ (h v' w' a b)

theorem isFlds_own {w : World} {base : Nat} {v : Value} {l : List (Bs × Bs)} (h : w.ownsRow base 24 2 v l.length (fcells l)) : IsFlds w v l := by
  rcases h.2 with ⟨hv, hn⟩ | ⟨g, cap, cur, hv, hb, hg, hcap, -⟩
  · exact ⟨none, 0, by rw [hv, hn], by omega, fun j t hj => by simp [List.eq_nil_of_length_eq_zero hn] at hj⟩
  · refine ⟨some ⟨g, 0, none⟩, cap, hv, hcap, fun j f hj => ⟨g, 0, rfl, ?_, ?_⟩⟩
    · have := h.cells (g := g) (by rw [hv]; rfl) (j * 2) (.string (mkS f.1)) (fcells_get l j f hj).1
      rw [Go.WideShapes.add_plain] at this
      exact this
    · have := h.cells (g := g) (by rw [hv]; rfl) (j * 2 + 1) (.string (mkS f.2)) (fcells_get l j f hj).2
      rw [Go.WideShapes.add_plain, ← Nat.add_assoc] at this
      exact this

set_option maxHeartbeats 2000000 in
set_option maxRecDepth 100000 in
theorem own_any (v : Value) (l : List (Bs × Bs)) (w : World) (hs : IsFlds w v l) (hnl : ∀ n c, v = .slice none n c → c = 0) (hl : l.length ≤ 1048576) :
    Calls Tryd.prog 21 #[v] w fun e w' => ∃ v', e = .returned v' ∧ w'.ownsRow w.heap.size 24 2 v' l.length (fcells l) ∧ Below w.heap.size w w' := by
  have HS := Lib.hid hs
  have HNL := Lib.hid hnl
  obtain ⟨a, cap, rfl⟩ : ∃ a cap, v = .slice a l.length cap := by obtain ⟨a, c, h, -⟩ := hs; exact ⟨a, c, h⟩
  clear hs hnl
  go_enter Tryd.func21, Tryd.ntmps21
  have ho := World.ownsRow_lit (base := w.heap.size) (e := 24) (size := 2) w #[] 0 (Nat.le_refl _) (by decide) rfl
  have hb0 : Below w.heap.size w (w.alloc (Obj.cells #[] 24)) := (Below.refl _ _).alloc (Nat.le_refl _) _
  have HF := Lib.hid (isFlds_below HS.out hb0)
  have HB0 := Lib.hid hb0
  have HO := Lib.hid ho
  clear ho hb0
  go_wp2_with (at_builtin; refine joinF_guarded (by rfl) _ _ rfl w.heap.size _ _ [] l rfl rfl HO.out HF.out HNL.out ?c1 ?c2 ?c3 ?_)
  intro v' w' ho' hg'
  have HB1 := Lib.hid (HB0.out.trans (below_of_grownF hg' HO.out (by simp)))
  have HO1 := Lib.hid ho'
  clear ho' hg'
  go_wp2_with fail
  go_ret
  exact ⟨v', rfl, HO1.out, HB1.out⟩
end Tk
end Go.Proofs.YtcddkeekabafgaaDoor
namespace Go.Proofs.YtcddkeekabafgaaDoor
open Go.RowKit
namespace Tk

theorem fcells_put : ∀ (a : List (Bs × Bs)) (f : Bs × Bs) (b : List (Bs × Bs)) (n x : Bs), ((fcells (a ++ f :: b)).set (a.length * 2) (.string (mkS n))).set (a.length * 2 + 1) (.string (mkS x)) = fcells (a ++ (n, x) :: b)
  | [], f, b, n, x => by simp [fcells]
  | g :: a, f, b, n, x => by
    have := fcells_put a f b n x
    unfold fcells at *
    rw [List.cons_append, List.cons_append, List.flatMap_cons, List.flatMap_cons, List.length_cons, show (a.length + 1) * 2 = a.length * 2 + 2 by omega]
    simpa using this
theorem fcells_mid (a : List (Bs × Bs)) (f : Bs × Bs) (b : List (Bs × Bs)) : (fcells (a ++ f :: b))[a.length * 2]? = some (.string (mkS f.1)) ∧ (fcells (a ++ f :: b))[a.length * 2 + 1]? = some (.string (mkS f.2)) :=
  fcells_get _ _ _ (by simp)
theorem made_fcells (n : Nat) : (madeCells #[Value.string .empty, Value.string .empty] (n * 2)).toList = fcells (List.replicate n ([], [])) := by
  apply List.ext_getElem?
  intro j
  by_cases hj : j < n * 2
  · have hl : (madeCells #[Value.string .empty, Value.string .empty] (n * 2)).toList[j]? = some (.string (mkS [])) := by
      rcases Nat.mod_two_eq_zero_or_one j with h | h <;> simp [madeCells, hj, h] <;> rfl
    rw [hl]
    rcases Nat.mod_two_eq_zero_or_one j with h | h
    · obtain ⟨t, rfl⟩ : ∃ t, j = t * 2 := ⟨j / 2, by omega⟩
      exact (fcells_get (List.replicate n ([], [])) t ([], []) (by rw [List.getElem?_replicate, if_pos (by omega)])).1.symm
    · obtain ⟨t, rfl⟩ : ∃ t, j = t * 2 + 1 := ⟨j / 2, by omega⟩
      exact (fcells_get (List.replicate n ([], [])) t ([], []) (by rw [List.getElem?_replicate, if_pos (by omega)])).2.symm
  · rw [List.getElem?_eq_none (by simp [madeCells]; omega), List.getElem?_eq_none (by rw [fcells_len]; simp; omega)]

theorem own_keep2f {w w' : World} {B : Nat} {v : Value} {n : Nat} {xs : List Value} {e : TypeId} (h : w.ownsRow B e 2 v n xs) (hb : Below w.heap.size w w') : w'.ownsRow B e 2 v n xs :=
  World.ownsRow.kept h (row := none) ⟨hb.os, hb.tape, hb.output, hb.size, fun k hk _ => hb.block k hk⟩ (by cases h : v.ownBlock <;> simp)
theorem own_put2 {w : World} {B g cap n : Nat} {a b : List (Bs × Bs)} {f : Bs × Bs} (h : w.ownsRow B 24 2 (.slice (some ⟨g, 0, none⟩) n cap) n (fcells (a ++ f :: b))) (s x : Bs) :
    ((w.setCell ⟨g, a.length * 2, none⟩ (.string (mkS s))).setCell ⟨g, a.length * 2 + 1, none⟩ (.string (mkS x))).ownsRow B 24 2 (.slice (some ⟨g, 0, none⟩) n cap) n (fcells (a ++ (s, x) :: b)) := by
  have h1 := (h.stored (a.length * 2) (.string (mkS s))).1
  have h2 := (h1.stored (a.length * 2 + 1) (.string (mkS x))).1
  rw [fcells_put] at h2
  exact h2

def OwnPost (l : List (Bs × Bs)) (w : World) (e : Ending) (w' : World) : Prop :=
  ∃ v', e = .returned v' ∧ w'.ownsRow w.heap.size 24 2 v' l.length (fcells l) ∧ Below w.heap.size w w'

set_option maxHeartbeats 8000000 in
set_option maxRecDepth 100000 in
theorem copied_any (v : Value) (l : List (Bs × Bs)) (w : World) (hs : IsFlds w v l) (hz : ∀ f ∈ l, f.1.length ≤ 1099511627776 ∧ f.2.length ≤ 1099511627776) (hl : l.length ≤ 1048576) :
    Calls Tryd.prog 58 #[v] w (OwnPost l w) := by
  obtain ⟨i0, hi0, hz0, hz1, hz2⟩ := info_parts fldInfo
  have HS := Lib.hid hs
  have HZ := Lib.hid hz
  obtain ⟨a, cap, rfl⟩ : ∃ a cap, v = .slice a l.length cap := by obtain ⟨a, c, h, -⟩ := hs; exact ⟨a, c, h⟩
  clear hs hz
  go_enter Tryd.func58, Tryd.ntmps58
  go_wp2_with (refine wpList_make_full w rfl _ _ 26 rfl w.heap.size 24 i0 (.agg #[.string .empty, .string .empty]) 2 Tryd.underlying26 hi0 hz0 hz1 .i64 .i64 _ _ l.length rfl rfl rfl rfl ?c1 ?c2 (Nat.le_refl _) ?_)
  case c1 => rw [hz2]; omega
  case c2 => unfold maxLen; omega
  intro w1 ho hg
  rw [made_fcells] at ho
  have HO0 := Lib.hid ho
  have HB0 := Lib.hid (show Below w.heap.size w w1 from ⟨hg.os, hg.tape, hg.output, hg.size, fun k hk => hg.block k hk (by simp)⟩)
  clear ho hg
  go_wp2_with fail
  go_loopw [11] (fun vi wr => ∃ i : Nat, i ≤ l.length ∧ vi = .int .i64 i ∧ Hid (wr.ownsRow w.heap.size 24 2 (.slice (some ⟨w.heap.size, 0, none⟩) l.length l.length) l.length (fcells (l.take i ++ List.replicate (l.length - i) ([], [])))) ∧ Hid (Below w.heap.size w wr)) (fun vi _ => l.length - (RowKit.intOf vi).toNat)
  case atStart => exact ⟨0, Nat.zero_le _, rfl, HO0, HB0⟩
  case round =>
    obtain ⟨i, hi, rfl, HO, HB⟩ := hrel
    rename World => W
    by_cases hlt : i < l.length
    · obtain ⟨a', c', e', hcap, hc⟩ := isFlds_below HS.out HB.out
      injection e' with e1 _ e2
      subst e1 e2
      obtain ⟨b, o, rfl, hc0, hc1⟩ := hc i (l.getD i ([], [])) (by simp [List.getD, hlt])
      have hm := HZ.out (l.getD i ([], [])) (by simp [List.getD, hlt])
      have htk : l.take (i + 1) = l.take i ++ [l.getD i ([], [])] := by
        rw [List.take_succ_eq_append_getElem hlt]; simp [List.getD, hlt]
      have hlen : (l.take i).length = i := by simp; omega
      have hrep : List.replicate (l.length - i) (([], []) : Bs × Bs) = ([], []) :: List.replicate (l.length - (i + 1)) ([], []) := by
        rw [show l.length - i = (l.length - (i + 1)) + 1 by omega]; rfl
      rw [hrep] at HO
      have HTK := Lib.hid htk
      have HLen := Lib.hid hlen
      clear hc htk hlen hrep
      generalize l.getD i ([], []) = f at *
      obtain ⟨n, x⟩ := f
      simp only at hm hc0 hc1
      have HC := Lib.hid (fun W : World => fown_any n x W hm.1 hm.2)
      have HF0 := Lib.hid (Two.new W 24 (.string (mkS n)) (.string (mkS x)))
      have hb0 : Below W.heap.size W (W.alloc (Obj.cells #[.string (mkS n), .string (mkS x)] 24)) := (Below.refl _ _).alloc (Nat.le_refl _) _
      have HO1 := Lib.hid (own_keep2f HO.out hb0)
      have HB1 := Lib.hid (HB.out.trans (hb0.mono HB.out.size))
      have hq0 := HF0.out.c0
      have hq1 := HF0.out.c1
      have g0 : (0 : Int) ≤ (i : Int) := by omega
      have g1 : (i : Int) < (l.length : Int) := by omega
      have hbsz := HB.out.size
      have hs0 : w.heap.size ≤ (W.alloc (Obj.cells #[.string (mkS n), .string (mkS x)] 24)).heap.size := by simp; omega
      clear hb0 hbsz
      go_wp2_with fail
      generalize W.alloc (Obj.cells #[.string (mkS n), .string (mkS x)] 24) = W4 at *
      generalize W.heap.size = g at *
      refine (HC.out _).mono ?_
      rintro e w5 ⟨rfl, hb⟩
      have ho5 := own_keep2f HO1.out hb
      have HB5 := Lib.hid (HB1.out.trans (hb.mono hs0))
      have k0 := ho5.cellAt (i * 2) (by omega)
      have k1 := ho5.cellAt (i * 2 + 1) (by omega)
      have hmid := fcells_mid (l.take i) ([], []) (List.replicate (l.length - (i + 1)) ([], []))
      rw [HLen.out] at hmid
      rw [hmid.1] at k0
      rw [hmid.2] at k1
      have f0 := ho5.frozenAt (i * 2)
      have f1 := ho5.frozenAt (i * 2 + 1)
      have HO5 := Lib.hid ho5
      have k2 : (w5.setCell ⟨w.heap.size, i * 2, none⟩ (.string (mkS n))).cell? ⟨w.heap.size, i * 2 + 1, none⟩ = some (.string (mkS [])) := by
        rw [World.cell?_setCell_other (w := w5) (a := ⟨w.heap.size, i * 2, none⟩) (b := ⟨w.heap.size, i * 2 + 1, none⟩) (h := by intro e; injection e with _ e2; omega)]; exact k1
      clear hb ho5 hmid
      go_wp2_with fail
      have hst := own_put2 (a := l.take i) HO5.out n x
      rw [HLen.out] at hst
      refine ⟨⟨i + 1, hlt, by go_num, ?_, ?_⟩, by simp [RowKit.intOf]; omega⟩
      · show World.ownsRow _ _ _ _ _ _ _
        rw [HTK.out, List.append_assoc]
        exact hst
      · exact (HB5.out.setCell (p := ⟨w.heap.size, i * 2, none⟩) (Nat.le_refl _) _).setCell (p := ⟨w.heap.size, i * 2 + 1, none⟩) (Nat.le_refl _) _
    · obtain rfl : i = l.length := by omega
      have hfin := HO.out
      rw [Nat.sub_self, List.take_length, List.replicate_zero, List.append_nil] at hfin
      have HF := Lib.hid hfin
      clear hfin
      go_wp2_with fail
      go_ret
      exact ⟨_, rfl, HF.out, HB.out⟩
end Tk
end Go.Proofs.YtcddkeekabafgaaDoor
namespace Go.Proofs.YtcddkeekabafgaaDoor
open Go.RowKit
namespace Tk

theorem isFlds_nil_cap {w : World} {v : Value} {B n : Nat} {xs : List Value} {e : TypeId} (h : w.ownsRow B e 2 v n xs) : ∀ m c, v = .slice none m c → c = 0 := by
  rintro m c rfl
  rcases h.2 with ⟨hv, -⟩ | ⟨g, cap, cur, hv, _⟩
  · injection hv
  · injection hv with e1; cases e1

set_option maxHeartbeats 2000000 in
set_option maxRecDepth 100000 in
theorem sclone_any (v : Value) (l : List (Bs × Bs)) (w : World) (hs : IsFlds w v l) (hnl : ∀ n c, v = .slice none n c → c = 0) (hl : l.length ≤ 1048576) :
    Calls Tryd.prog 47 #[v] w (OwnPost l w) := by
  have HS := Lib.hid hs
  have HNL := Lib.hid hnl
  obtain ⟨a, cap, rfl⟩ : ∃ a cap, v = .slice a l.length cap := by obtain ⟨a, c, h, -⟩ := hs; exact ⟨a, c, h⟩
  rcases a with _ | ad
  · have hl0 : l = [] := by
      obtain ⟨a', c', e, -, hc⟩ := hs
      injection e with e1 _ _
      subst e1
      cases l with
      | nil => rfl
      | cons f t => obtain ⟨b, o, e, -⟩ := hc 0 f rfl; cases e
    subst hl0
    have hq : ∀ W : World, (binOp .eql 26 (.slice none 0 cap) (.slice none 0 0)).run Tryd.prog W = .ok (.bool true) W := fun W => Lib.run_eql_slice_nil W _ _ _ _ _ _ _ Tryd.underlying26
    clear hs hnl
    go_enter Tryd.func47, Tryd.ntmps47
    go_wp2_with fail
    go_ret
    exact ⟨_, rfl, World.ownsRow_nil _ _ _ _, Below.refl _ _⟩
  · have hq : ∀ W : World, (binOp .eql 26 (.slice (some ad) l.length cap) (.slice none 0 0)).run Tryd.prog W = .ok (.bool false) W := fun W => Lib.run_eql_slice_nil W _ _ _ _ _ _ _ Tryd.underlying26
    clear hs hnl
    go_enter Tryd.func47, Tryd.ntmps47
    have ho := World.ownsRow_lit (base := w.heap.size) (e := 24) (size := 2) w #[] 0 (Nat.le_refl _) (by decide) rfl
    have hb0 : Below w.heap.size w (w.alloc (Obj.cells #[] 24)) := (Below.refl _ _).alloc (Nat.le_refl _) _
    have HF := Lib.hid (isFlds_below HS.out hb0)
    have HB0 := Lib.hid hb0
    have HO := Lib.hid ho
    clear ho hb0
    go_wp2_with (at_builtin; refine joinF_guarded (by rfl) _ _ rfl w.heap.size _ _ [] l rfl rfl HO.out HF.out HNL.out ?c1 ?c2 ?c3 ?_)
    intro v' w' ho' hg'
    have HB1 := Lib.hid (HB0.out.trans (below_of_grownF hg' HO.out (by simp)))
    have HO1 := Lib.hid ho'
    clear ho' hg'
    go_wp2_with fail
    go_ret
    exact ⟨v', rfl, HO1.out, HB1.out⟩

/-- the cells that clear writes into n fields -/
def zeros2 (n : Nat) : List Value := (Builtin.zeroCells #[.string .empty, .string .empty] n).toList
theorem zeros2_len (n : Nat) : (zeros2 n).length = n * 2 := by simp [zeros2, Builtin.zeroCells]
theorem zeros2_one (n : Nat) : ∀ u ∈ zeros2 n, u.oneCell' = true := by
  intro u hu
  simp [zeros2, Builtin.zeroCells] at hu
  obtain ⟨j, -, rfl⟩ := hu
  rcases Nat.mod_two_eq_zero_or_one j with h | h <;> simp [h] <;> rfl
theorem run_clear2 (w : World) (ty : TypeId) (b o n c : Nat) (hn : 0 < n) (hc : ∀ j, j < n * 2 → (w.cell? ⟨b, o + j, none⟩).isSome = true) (hf : ∀ j, j < n * 2 → w.frozen? ⟨b, o + j, none⟩ = false) :
    (Builtin.clear_ #[26] ty #[.slice (some ⟨b, o, none⟩) n c]).run Tryd.prog w = .ok (.tuple #[]) (w.setCells b o (zeros2 n)) := by
  have hst := run_storeCells_cells (P := Tryd.prog) b o (zeros2 n) 0 w (by rw [zeros2_len]; simpa using hc) (by rw [zeros2_len]; simpa using hf) (zeros2_one n)
  simp only [Nat.add_zero] at hst
  obtain ⟨m, rfl⟩ : ∃ m, n = m + 1 := ⟨n - 1, by omega⟩
  have hst2 : (storeCells ⟨b, o, none⟩ (Builtin.zeroCells (Value.agg #[Value.string ⟨#[]⟩, Value.string ⟨#[]⟩]).cells (m + 1)).toList).run Tryd.prog w = .ok () (w.setCells b o (zeros2 (m + 1))) := hst
  simp [Builtin.clear_, run_underlying Tryd.underlying26]
  rw [hst2]
  rfl
theorem below_setC {B b : Nat} {a : World} (hb : B ≤ b) : ∀ (vs : List Value) (o : Nat) (w : World), Below B a w → Below B a (w.setCells b o vs)
  | [], _, _, h => h
  | v :: vs, o, _, h => below_setC hb vs (o + 1) _ (h.setCell (p := ⟨b, o, none⟩) hb v)
end Tk
end Go.Proofs.YtcddkeekabafgaaDoor
