/- Tok0 Base Cln Kin All Small0 Fld0 ChkP Ap2 Cut TkA FldA Trm FldB FldL Bld BldS FldM JoinF, put together. -/
import Derived.Lib.SlTrimSet
import Derived.Lib.Strings
import Derived.Test.YtpcdaaijlgilkaaGreatDoorRows
import Derived.WalkKit
import Derived.WalkSpells
import Derived.WalkLawsBesides
import Derived.Lib.Hide
import Derived.Test.YtpcdaaijlgilkaaGreatDoorShelf
import Derived.BigQuiet
import Derived.Deep.QuietTactic
import Derived.IntWalk
import Derived.OwnWalk
import Derived.Handy
import Derived.Great.BuildSlice
import Derived.Deep.WholeRow
import Derived.Lib.Bytealg
import Derived.Shelf.RegionOpenPlain
import Derived.Shelf.Strings.SlTrimAscii
import Derived.Deep.RegionHeld3
import Derived.Deep.RegionWith
import Derived.Shelf.Strings.Builder1
import Derived.Laws.AppendOwnNone
import Derived.Laws.OwnMore
import Derived.BigFrame
namespace Go.Proofs.YtpcdaaijlgilkaaGreatDoor
namespace Tk

abbrev Bs := List UInt8
def mkS (l : Bs) : ByteArray := ⟨l.toArray⟩
def bs (s : ByteArray) : Bs := s.data.toList
@[simp] theorem bs_mkS (l : Bs) : bs (mkS l) = l := rfl
@[simp] theorem mkS_bs (s : ByteArray) : mkS (bs s) = s := by cases s; rfl
theorem size_mkS (l : Bs) : (mkS l).size = l.length := by show l.toArray.size = _; simp
theorem length_bs (s : ByteArray) : (bs s).length = s.size := Array.length_toList
theorem mkS_inj {a b : Bs} (h : mkS a = mkS b) : a = b := by have := congrArg bs h; simpa using this

theorem mkS_append (a b : Bs) : mkS a ++ mkS b = mkS (a ++ b) := by
  apply ByteArray.ext
  apply Array.ext'
  rw [ByteArray.data_append]
  simp [mkS]
def trimL (l : Bs) : Bs := Lib.trimS l [32, 9]

theorem getD_bs (s : ByteArray) (k : Nat) (h : k < s.size) : (bs s).getD k 0 = s[k] := by
  have h' : k < (bs s).length := by rw [length_bs]; exact h
  rw [List.getD, List.getElem?_eq_getElem h']
  rfl
theorem u8_is (c : UInt8) (n : Nat) (hn : n < 256) (h : ((c.toNat : Int) == (n : Int)) = true) : c = UInt8.ofNat n := by
  rw [beq_iff_eq] at h
  apply UInt8.toNat_inj.1
  rw [UInt8.toNat_ofNat']; omega
theorem u8_not (c : UInt8) (n : Nat) (h : ((c.toNat : Int) == (n : Int)) = false) (hn : n < 256) : c ≠ UInt8.ofNat n := by
  rw [beq_eq_false_iff_ne] at h
  intro e
  subst e
  rw [UInt8.toNat_ofNat'] at h
  omega

theorem toList_bs (s : ByteArray) : s.toList = bs s := ByteArray.toList_eq s
theorem bs_extract (s : ByteArray) (a b : Nat) : bs (s.extract a b) = ((bs s).drop a).take (b - a) := Lib.extract_data s a b
theorem extract_mkS (s : ByteArray) (a b : Nat) : s.extract a b = mkS (((bs s).drop a).take (b - a)) := by rw [← bs_extract, mkS_bs]

/-- from behind a quote: how far to the one that closes -/
def closeLen : Bs → Nat
  | [] => 0
  | [c] => if c = 92 then 2 else if c = 34 then 0 else 1
  | c :: d :: t => if c = 92 then 2 + closeLen t else if c = 34 then 0 else 1 + closeLen (d :: t)

/-- the pieces between commas; mode 0: outside quotes, 1: inside, 2: behind a backslash -/
def spl : Nat → Bs → Bs → List Bs
  | _, cur, [] => [cur]
  | 0, cur, c :: t => if c = 44 then cur :: spl 0 [] t else if c = 34 then spl 1 (cur ++ [c]) t else spl 0 (cur ++ [c]) t
  | 1, cur, c :: t => if c = 92 then spl 2 (cur ++ [c]) t else if c = 34 then spl 0 (cur ++ [c]) t else spl 1 (cur ++ [c]) t
  | _ + 2, cur, c :: t => spl 1 (cur ++ [c]) t

def addP (t : Bs) : List Bs := if t = [] then [] else [t]
def parts (l : List Bs) : List Bs := l.flatMap fun p => addP (trimL p)
def splitL (l : Bs) : List Bs := parts (spl 0 [] l)

theorem parts_cons (p : Bs) (l : List Bs) : parts (p :: l) = addP (trimL p) ++ parts l := by simp [parts]
theorem parts_one (p : Bs) : parts [p] = addP (trimL p) := by simp [parts]

theorem spl_close : ∀ (r cur : Bs), spl 1 cur r = spl 0 (cur ++ r.take (closeLen r + 1)) (r.drop (closeLen r + 1))
  | [], cur => by simp [spl]
  | [c], cur => by
    by_cases h : c = 92
    · subst h; simp [spl, closeLen]
    · by_cases h2 : c = 34
      · subst h2; simp [spl, closeLen]
      · simp [spl, closeLen, h, h2]
  | c :: d :: t, cur => by
    by_cases h : c = 92
    · subst h
      have ih := spl_close t (cur ++ [92] ++ [d])
      simp only [spl, closeLen, if_true]
      rw [ih]
      simp [Nat.add_comm 2, List.take_succ_cons, List.drop_succ_cons]
    · by_cases h2 : c = 34
      · subst h2; simp [spl, closeLen]
      · have ih := spl_close (d :: t) (cur ++ [c])
        rw [spl, if_neg h, if_neg h2, ih]
        simp only [closeLen, if_neg h, if_neg h2]
        simp [Nat.add_comm 1, List.take_succ_cons, List.drop_succ_cons]

theorem drop_cons (l : Bs) (i : Nat) (h : i < l.length) : l.drop i = l.getD i 0 :: l.drop (i + 1) := by
  rw [List.drop_eq_getElem_cons h]; simp [List.getD, h]
theorem take_snoc (l : Bs) (i : Nat) (h : i < l.length) : l.take (i + 1) = l.take i ++ [l.getD i 0] := by
  rw [List.take_succ_eq_append_getElem h]; simp [List.getD, h]

theorem closeLen_bs (r : Bs) (h : r = 92 :: r.tail) : closeLen r = 2 + closeLen (r.drop 2) := by
  match r, h with
  | [c], h => simp at h; subst h; simp [closeLen]
  | c :: d :: t, h => simp at h; subst h; simp [closeLen]
theorem closeLen_q (t : Bs) : closeLen (34 :: t) = 0 := by cases t <;> simp [closeLen]
theorem closeLen_o (c : UInt8) (t : Bs) (h : c ≠ 92) (h2 : c ≠ 34) : closeLen (c :: t) = 1 + closeLen t := by
  cases t with
  | nil => simp [closeLen, h, h2]
  | cons d t => simp [closeLen, h, h2]

theorem closeLen_le : ∀ r : Bs, closeLen r ≤ r.length + 1
  | [] => by simp [closeLen]
  | [c] => by simp only [closeLen, List.length_singleton]; split; omega; split <;> omega
  | c :: d :: t => by
    have h1 := closeLen_le t
    have h2 := closeLen_le (d :: t)
    simp only [closeLen, List.length_cons] at *
    split; omega; split <;> omega

/-- what the search for pieces holds at place i: the pieces found, and the piece begun at b -/
def splAt (l : Bs) (b i : Nat) : List Bs := parts (spl 0 ((l.take i).drop b) (l.drop i))
theorem splAt_start (l : Bs) : splitL l = splAt l 0 0 := by simp [splAt, splitL]
theorem splAt_end (l : Bs) (b i : Nat) (h : l.length ≤ i) : splAt l b i = addP (trimL (l.drop b)) := by
  unfold splAt
  rw [List.take_of_length_le h, List.drop_eq_nil_of_le h, spl, parts_one]
theorem splAt_comma (l : Bs) (b i : Nat) (hi : i < l.length) (hc : l.getD i 0 = 44) : splAt l b i = addP (trimL ((l.drop b).take (i - b))) ++ splAt l (i + 1) (i + 1) := by
  unfold splAt
  rw [drop_cons l i hi, hc, spl, if_pos rfl, parts_cons, List.drop_take, List.drop_take, Nat.sub_self, List.take_zero]
theorem splAt_other (l : Bs) (b i : Nat) (hi : i < l.length) (hb : b ≤ i) (h1 : l.getD i 0 ≠ 44) (h2 : l.getD i 0 ≠ 34) : splAt l b i = splAt l b (i + 1) := by
  unfold splAt
  rw [drop_cons l i hi, spl, if_neg h1, if_neg h2, take_snoc l i hi, List.drop_append_of_le_length (by rw [List.length_take]; omega)]
theorem splAt_quote (l : Bs) (b i : Nat) (hi : i < l.length) (hb : b ≤ i) (hc : l.getD i 0 = 34) : splAt l b i = splAt l b (i + 1 + closeLen (l.drop (i + 1)) + 1) := by
  unfold splAt
  rw [drop_cons l i hi, hc, spl, if_neg (by decide), if_pos rfl, spl_close, List.drop_drop]
  rw [show i + 1 + closeLen (l.drop (i + 1)) + 1 = i + 1 + (closeLen (l.drop (i + 1)) + 1) by omega]
  generalize closeLen (l.drop (i + 1)) + 1 = K
  rw [List.take_add (i := i + 1), take_snoc l i hi, hc, List.append_assoc (l.take i), List.drop_append_of_le_length (by rw [List.length_take]; omega), List.append_assoc]

def lowB (c : UInt8) : UInt8 := if 65 ≤ c.toNat ∧ c.toNat ≤ 90 then c + 32 else c
def lowL (l : Bs) : Bs := l.map lowB
theorem lowB_up (c : UInt8) (h0 : 65 ≤ c.toNat) (h1 : c.toNat ≤ 90) : ((lowB c).toNat : Int) = (c.toNat : Int) - 65 + 97 := by
  unfold lowB; rw [if_pos ⟨h0, h1⟩, UInt8.toNat_add]
  have : (32 : UInt8).toNat = 32 := rfl
  omega
theorem lowB_same (c : UInt8) (h : ¬ (65 ≤ c.toNat ∧ c.toNat ≤ 90)) : lowB c = c := by unfold lowB; rw [if_neg h]
theorem lowB_lowB (c : UInt8) : lowB (lowB c) = lowB c := by
  by_cases h : 65 ≤ c.toNat ∧ c.toNat ≤ 90
  · have := lowB_up c h.1 h.2
    exact lowB_same _ (by omega)
  · rw [lowB_same c h, lowB_same c h]
theorem lowL_lowL (l : Bs) : lowL (lowL l) = lowL l := by unfold lowL; rw [List.map_map]; exact List.map_congr_left fun c _ => lowB_lowB c
theorem length_lowL (l : Bs) : (lowL l).length = l.length := by simp [lowL]
def hasQ (l : Bs) : Bool := l.contains 34

theorem trim_sublist (l : Bs) : (trimL l).length ≤ l.length := by
  have dw : ∀ (p : UInt8 → Bool) (l : Bs), (l.dropWhile p).length ≤ l.length := fun p l => by
    induction l with
    | nil => simp
    | cons a t ih => rw [List.dropWhile_cons]; split; exact Nat.le_succ_of_le ih; exact Nat.le_refl _
  unfold trimL Lib.trimS Lib.trimLeftS Lib.trimRightS
  refine Nat.le_trans (dw _ _) ?_
  rw [List.length_reverse]
  exact Nat.le_trans (dw _ _) (by rw [List.length_reverse]; exact Nat.le_refl _)

def closing (l : Bs) (i : Nat) : Nat := i + 1 + closeLen (l.drop (i + 1))
theorem bs_head (s : ByteArray) (h : 0 < s.size) : (bs s).head? = some s[0] := by
  rw [List.head?_eq_getElem?, List.getElem?_eq_getElem (by rw [length_bs]; exact h)]; rfl
theorem bs_drop (s : ByteArray) (i : Nat) (h : i < s.size) : (bs s).drop i = s[i] :: (bs s).drop (i + 1) := by
  rw [List.drop_eq_getElem_cons (by rw [length_bs]; exact h)]; rfl
theorem empty_of (s : ByteArray) (h : s.size = 0) : s.toList.isEmpty = true := by
  rw [toList_bs, List.isEmpty_iff, ← List.length_eq_zero_iff, length_bs]; exact h
theorem not_empty_of (s : ByteArray) (h : 0 < s.size) : s.toList.isEmpty = false := by
  rw [toList_bs]
  cases e : bs s with
  | nil => have := length_bs s; rw [e] at this; simp at this; omega
  | cons c t => rfl
end Tk
end Go.Proofs.YtpcdaaijlgilkaaGreatDoor

namespace Go.Proofs.YtpcdaaijlgilkaaGreatDoor
open Go.RowKit
namespace Tk

def StrPost (text : Bs) (w : World) (r : Ending) (w' : World) : Prop := r = .returned (.string (mkS text)) ∧ Below w.heap.size w w'

set_option maxHeartbeats 400000 in
theorem clone_any (s : ByteArray) (w : World) (h : s.size ≤ 1099511627776) :
    Calls Tryz.prog 32 #[.string s] w (StrPost (bs s) w) := by
  have H := Lib.hid (Tryz.stringslite_Clone s w (by omega))
  go_enter Tryz.func32, Tryz.ntmps32
  go_wp2_with fail
  refine H.out.mono ?_
  rintro e w' ⟨rfl, hb⟩
  have HB := Lib.hid hb
  clear hb
  go_wp2_with fail
  go_ret
  exact ⟨by rw [mkS_bs]; rfl, HB.out⟩
end Tk
end Go.Proofs.YtpcdaaijlgilkaaGreatDoor
namespace Go.Proofs.YtpcdaaijlgilkaaGreatDoor
open Go.RowKit
namespace Tk

/-- the kind of each byte, by ranges -/
def kindOf (c : Nat) : Int :=
  if c = 9 then 1 else if c < 32 then 0 else if 128 ≤ c then 1 else if c = 127 then 0
  else if [32, 34, 40, 41, 44, 47, 58, 59, 60, 61, 62, 63, 64, 91, 92, 93, 123, 125].contains c then 1 else 2
def kindL : List Int := (List.range 256).map kindOf

/-- 256 kinds, none said -/
def zk : Array Value := Array.replicate 256 (.int .u8 0)
theorem kind_zero (w : World) : (zeroValue 121).run Tryz.prog w = .ok (.agg zk) w := by kernel_rfl

set_option maxHeartbeats 1000000 in
set_option maxRecDepth 100000 in
theorem kinds_any (w : World) :
    Calls Tryz.prog 83 #[] w fun e w' => e = .returned (.agg (kindL.map (Value.int .u8)).toArray) ∧ Below w.heap.size w w' := by
  have hzk := kind_zero
  go_enter Tryz.func83, Tryz.ntmps83
  go_wp2_with (refine wpList_buildFlatArrTo rfl 121 113 256 _ rfl .u8 kindL (some 1) rfl (by kernel_rfl) (by kernel_rfl) (by kernel_rfl) (by kernel_rfl) ?_)
  have hld := run_loadVar_new (P := Tryz.prog) w 121 (kindL.map (Value.int .u8)).toArray 256 113 Tryz.underlying121 (by kernel_rfl)
  first
  | simp only [Result.andThen, run_storeCells_new (P := Tryz.prog) w 121 zk (kindL.map (Value.int .u8)).toArray (by kernel_rfl) (by kernel_rfl) (by kernel_rfl)]
  | simp only [Result.andThen, run_storeCells_new (P := Tryz.prog) w 121 Tryz.zeroCells121 (kindL.map (Value.int .u8)).toArray (by kernel_rfl) (by kernel_rfl) (by kernel_rfl)]
  rw [Oper.upon_skip]
  go_wp2_with fail
  refine bodyPost_ret (v := .agg (kindL.map (Value.int .u8)).toArray) ?_ rfl ⟨rfl, (Below.refl _ _).alloc (Nat.le_refl _) _⟩
  exact results_cell_row rfl _ _ w.heap.size 121 _ (0, 0) _ rfl (heap_alloc_last w _) Tryz.underlying121 rfl (by kernel_rfl)
end Tk
end Go.Proofs.YtpcdaaijlgilkaaGreatDoor
namespace Go.Proofs.YtpcdaaijlgilkaaGreatDoor
open Go.RowKit
namespace Tk

def allL (k : Int) (l : Bs) : Bool := l.all fun c => decide (k ≤ kindOf c.toNat)

theorem allL_cons (k : Int) (c : UInt8) (t : Bs) : allL k (c :: t) = (decide (k ≤ kindOf c.toNat) && allL k t) := rfl
theorem allL_append (k : Int) (a b : Bs) : allL k (a ++ b) = (allL k a && allL k b) := by unfold allL; rw [List.all_append]
theorem k92 : decide (1 ≤ kindOf (92 : UInt8).toNat) = true := by decide
theorem k34 : decide (1 ≤ kindOf (34 : UInt8).toNat) = true := by decide

theorem kindL_size : (kindL.map (Value.int .u8)).toArray.size = 256 := by kernel_rfl
theorem kindL_one : (kindL.map (Value.int .u8)).toArray.all (·.oneCell') = true := by kernel_rfl
theorem kindL_at (c : UInt8) : (kindL.map (Value.int .u8)).toArray[c.toNat]? = some (.int .u8 (kindOf c.toNat)) := by
  have h : c.toNat < 256 := c.toNat_lt
  simp [kindL, h]

set_option maxHeartbeats 1000000 in
set_option maxRecDepth 100000 in
theorem all_any (s : ByteArray) (k : Int) (w : World) (hs : s.size ≤ 1099511627776) :
    Calls Tryz.prog 68 #[.string s, .int .u8 k] w fun e w' => e = .returned (.bool (allL k (bs s))) ∧ Below w.heap.size w w' := by
  have hks := kindL_size
  have hk1 := kindL_one
  have hka := Lib.hid kindL_at
  have HK := Lib.hid (kinds_any w)
  generalize (kindL.map (Value.int .u8)).toArray = ks at *
  have hzk := kind_zero
  go_enter Tryz.func68, Tryz.ntmps68
  go_wp2_with fail
  refine HK.out.mono ?_
  rintro e w1 ⟨rfl, hb⟩
  have HB := Lib.hid hb
  clear hb
  go_wp2_with fail
  first
  | simp only [Result.andThen, run_storeCells_new (P := Tryz.prog) w1 121 zk ks (by rw [hks]; kernel_rfl) (by rw [hks]; kernel_rfl) hk1]
  | simp only [Result.andThen, run_storeCells_new (P := Tryz.prog) w1 121 Tryz.zeroCells121 ks (by rw [hks]; kernel_rfl) (by rw [hks]; kernel_rfl) hk1]
  rw [Oper.upon_skip]
  have hcell : ∀ c : UInt8, (w1.alloc (Obj.cells ks 121)).cell? ⟨w1.heap.size, c.toNat, none⟩ = some (.int .u8 (kindOf c.toNat)) := fun c => by
    rw [Lib.cell_of_heap (heap_alloc_last w1 _)]; exact hka.out c
  have HC := Lib.hid hcell
  have HB2 := Lib.hid ((HB.out).alloc HB.out.size (Obj.cells ks 121))
  clear hcell hka hks hk1 HK hzk
  generalize hW : w1.alloc (Obj.cells ks 121) = W at *
  clear hW
  generalize w1.heap.size = g at *
  go_wp2_with fail
  go_loopw [10] (fun v wr => ∃ i : Nat, i ≤ s.size ∧ v = .int .i64 i ∧ wr = W ∧ Hid (allL k (bs s) = allL k ((bs s).drop i))) (fun v _ => s.size - (RowKit.intOf v).toNat)
  case atStart => exact ⟨0, Nat.zero_le _, rfl, rfl, rfl⟩
  case round =>
    obtain ⟨i, hi, rfl, rfl, hd⟩ := hrel
    by_cases hlt : i < s.size
    · have hc := HC.out s[i]
      have hu := s[i].toNat_lt
      have hdrop : (bs s).drop i = s[i] :: (bs s).drop (i + 1) := by
        rw [List.drop_eq_getElem_cons (by rw [length_bs]; exact hlt)]; rfl
      have HD := Lib.hid hdrop
      clear hdrop
      by_cases hk : kindOf s[i].toNat < k
      · go_wp2_with fail
        have fin : allL k (bs s) = false := by
          rw [hd.out, HD.out]
          have : decide (k ≤ kindOf s[i].toNat) = false := by simp; omega
          unfold allL; rw [List.all_cons, this]; rfl
        go_ret
        exact ⟨by rw [fin]; rfl, HB2.out⟩
      · go_wp2_with fail
        refine ⟨⟨i + 1, by omega, by go_num, trivial, ?_⟩, by simp [RowKit.intOf]; omega⟩
        show _ = _
        rw [hd.out, HD.out]
        have : k ≤ kindOf s[i].toNat := by omega
        simp [allL, this]
    · go_wp2_with fail
      have fin : allL k (bs s) = true := by
        rw [hd.out, List.drop_eq_nil_of_le (by rw [length_bs]; omega)]; rfl
      go_ret
      exact ⟨by rw [fin]; rfl, HB2.out⟩
end Tk
end Go.Proofs.YtpcdaaijlgilkaaGreatDoor
namespace Go.Proofs.YtpcdaaijlgilkaaGreatDoor
namespace Tk

def wh (c : UInt8) : Bool := [32, 9].contains c
/-- no white space at either end -/
def Neat (l : Bs) : Prop := (∀ c, l.head? = some c → wh c = false) ∧ (∀ c, l.getLast? = some c → wh c = false)

theorem dropWhile_head (l : Bs) : ∀ c, (l.dropWhile wh).head? = some c → wh c = false := by
  induction l with
  | nil => intro c h; simp at h
  | cons a t ih =>
    intro c h
    rw [List.dropWhile_cons] at h
    cases ha : wh a with
    | true => rw [ha, if_pos rfl] at h; exact ih c h
    | false => rw [ha, if_neg (by decide)] at h; simp at h; rw [← h]; exact ha
theorem dropWhile_last (l : Bs) : ∀ c, (l.dropWhile wh).getLast? = some c → l.getLast? = some c := by
  induction l with
  | nil => intro c h; exact h
  | cons a t ih =>
    intro c h
    rw [List.dropWhile_cons] at h
    cases ha : wh a with
    | true =>
      rw [ha, if_pos rfl] at h
      have h2 := ih c h
      cases t with
      | nil => simp at h2
      | cons b u => rw [List.getLast?_cons_cons]; exact h2
    | false => rw [ha, if_neg (by decide)] at h; exact h
theorem dropWhile_same (l : Bs) (h : ∀ c, l.head? = some c → wh c = false) : l.dropWhile wh = l := by
  cases l with
  | nil => rfl
  | cons a t => rw [List.dropWhile_cons, h a rfl, if_neg (by decide)]

def tr (l : Bs) : Bs := (l.reverse.dropWhile wh).reverse
theorem trimL_eq (l : Bs) : trimL l = (tr l).dropWhile wh := rfl
theorem tr_last (l : Bs) : ∀ c, (tr l).getLast? = some c → wh c = false := by
  intro c h
  unfold tr at h
  rw [List.getLast?_reverse] at h
  exact dropWhile_head _ c h
theorem trim_neat (l : Bs) : Neat (trimL l) := by
  rw [trimL_eq]
  exact ⟨dropWhile_head _, fun c h => tr_last l c (dropWhile_last _ c h)⟩
theorem neat_trim (l : Bs) (h : Neat l) : trimL l = l := by
  have h1 : tr l = l := by
    unfold tr
    rw [dropWhile_same _ (fun c hc => h.2 c (by rw [List.head?_reverse] at hc; exact hc)), List.reverse_reverse]
  rw [trimL_eq, h1, dropWhile_same l h.1]
theorem trim_trim (l : Bs) : trimL (trimL l) = trimL l := neat_trim _ (trim_neat l)

theorem tr_snoc (l : Bs) : tr (l ++ [9]) = tr l := by
  unfold tr
  rw [List.reverse_append]
  show ((9 :: l.reverse).dropWhile wh).reverse = _
  rw [List.dropWhile_cons, show wh 9 = true by decide, if_pos rfl]
theorem dropWhile_append (l m : Bs) : (l ++ m).dropWhile wh = if l.dropWhile wh = [] then m.dropWhile wh else l.dropWhile wh ++ m := by
  induction l with
  | nil => simp
  | cons a t ih =>
    rw [List.cons_append, List.dropWhile_cons, List.dropWhile_cons]
    cases ha : wh a with
    | true => rw [if_pos rfl, if_pos rfl]; exact ih
    | false => simp
theorem tr_cons (l : Bs) : (tr (32 :: l)).dropWhile wh = (tr l).dropWhile wh := by
  unfold tr
  rw [List.reverse_cons, dropWhile_append]
  by_cases h : l.reverse.dropWhile wh = []
  · rw [if_pos h, h]; decide
  · rw [if_neg h, List.reverse_append]
    show (32 :: (l.reverse.dropWhile wh).reverse).dropWhile wh = _
    rw [List.dropWhile_cons, show wh 32 = true by decide, if_pos rfl]
theorem trim_around (l : Bs) : trimL ([32] ++ l ++ [9]) = trimL l := by
  rw [trimL_eq, trimL_eq, tr_snoc]
  exact tr_cons l

theorem split_neat (l : Bs) : ∀ p ∈ splitL l, p ≠ [] ∧ trimL p = p := by
  intro p hp
  unfold splitL parts at hp
  rw [List.mem_flatMap] at hp
  obtain ⟨x, -, hx⟩ := hp
  unfold addP at hx
  split at hx
  · simp at hx
  · rename_i hne
    rw [List.mem_singleton] at hx
    subst hx
    exact ⟨hne, trim_trim x⟩

theorem spl_app : ∀ (s cur t : Bs), hasQ s = false → spl 0 cur (s ++ 44 :: t) = spl 0 cur s ++ spl 0 [] t
  | [], cur, t, _ => by simp [spl]
  | c :: s, cur, t, h => by
    have hc : c ≠ 34 := fun e => by subst e; simp [hasQ] at h
    have hs : hasQ s = false := by
      unfold hasQ at *
      rw [List.contains_cons, Bool.or_eq_false_iff] at h
      exact h.2
    rw [List.cons_append]
    by_cases h44 : c = 44
    · subst h44
      rw [spl, if_pos rfl, spl, if_pos rfl, spl_app s [] t hs]; rfl
    · rw [spl, if_neg h44, if_neg hc, spl_app s _ t hs]
      rw [show spl 0 cur (c :: s) = spl 0 (cur ++ [c]) s by rw [spl, if_neg h44, if_neg hc]]
theorem split_app (s t : Bs) (h : hasQ s = false) : splitL (s ++ [44] ++ t) = splitL s ++ splitL t := by
  unfold splitL
  rw [List.append_assoc]
  show parts (spl 0 [] (s ++ 44 :: t)) = _
  rw [spl_app s [] t h]
  simp [parts]
theorem spl_len : ∀ (l : Bs) (m : Nat) (cur : Bs), (spl m cur l).length ≤ l.length + 1
  | [], m, cur => by cases m <;> simp [spl]
  | c :: t, 0, cur => by
    rw [spl]
    split
    · have := spl_len t 0 []; simp; omega
    · split
      · have := spl_len t 1 (cur ++ [c]); simp; omega
      · have := spl_len t 0 (cur ++ [c]); simp; omega
  | c :: t, 1, cur => by
    rw [spl]
    split
    · have := spl_len t 2 (cur ++ [c]); simp; omega
    · split
      · have := spl_len t 0 (cur ++ [c]); simp; omega
      · have := spl_len t 1 (cur ++ [c]); simp; omega
  | c :: t, m + 2, cur => by
    rw [spl]
    have := spl_len t 1 (cur ++ [c]); simp; omega
theorem parts_len (l : List Bs) : (parts l).length ≤ l.length := by
  induction l with
  | nil => simp [parts]
  | cons a t ih =>
    rw [parts_cons, List.length_append]
    have : (addP (trimL a)).length ≤ 1 := by unfold addP; split <;> simp
    simp; omega
theorem split_len (l : Bs) : (splitL l).length ≤ l.length + 1 := Nat.le_trans (parts_len _) (spl_len l 0 [])
theorem spl_piece : ∀ (l : Bs) (m : Nat) (cur : Bs), ∀ p ∈ spl m cur l, p.length ≤ cur.length + l.length
  | [], m, cur => by cases m <;> simp [spl]
  | c :: t, 0, cur => by
    rw [spl]
    split
    · intro p hp
      rcases List.mem_cons.1 hp with rfl | hp
      · simp
      · have := spl_piece t 0 [] p hp; simp at *; omega
    · split
      · intro p hp; have := spl_piece t 1 (cur ++ [c]) p hp; simp at *; omega
      · intro p hp; have := spl_piece t 0 (cur ++ [c]) p hp; simp at *; omega
  | c :: t, 1, cur => by
    rw [spl]
    split
    · intro p hp; have := spl_piece t 2 (cur ++ [c]) p hp; simp at *; omega
    · split
      · intro p hp; have := spl_piece t 0 (cur ++ [c]) p hp; simp at *; omega
      · intro p hp; have := spl_piece t 1 (cur ++ [c]) p hp; simp at *; omega
  | c :: t, m + 2, cur => by
    rw [spl]
    intro p hp; have := spl_piece t 1 (cur ++ [c]) p hp; simp at *; omega
theorem split_piece (l p : Bs) (h : p ∈ splitL l) : p.length ≤ l.length := by
  unfold splitL parts at h
  rw [List.mem_flatMap] at h
  obtain ⟨x, hx, hp⟩ := h
  have h1 := spl_piece l 0 [] x hx
  have h2 := trim_sublist x
  unfold addP at hp
  split at hp
  · simp at hp
  · rw [List.mem_singleton] at hp; subst hp; simp at h1; omega
end Tk
end Go.Proofs.YtpcdaaijlgilkaaGreatDoor
namespace Go.Proofs.YtpcdaaijlgilkaaGreatDoor
namespace Tk

/-- is it a field that may be: a name that is a token, a value of value characters without white space at its ends -/
def okF (n v : Bs) : Bool := !n.isEmpty && allL 2 n && (allL 1 v && decide (trimL v = v))

/-- what stands before the first c, what stands behind it, and whether there is one -/
def cutL (c : UInt8) (l : Bs) : Bs × Bs × Bool := if l.contains c then (l.takeWhile (· != c), (l.dropWhile (· != c)).drop 1, true) else (l, [], false)

theorem cut_index (c : UInt8) : ∀ l : Bs, (Lib.indexByte l c = -1 ∧ l.contains c = false) ∨ ∃ i : Nat, Lib.indexByte l c = i ∧ i < l.length ∧ l.contains c = true ∧ l.take i = l.takeWhile (· != c) ∧ l.drop (i + 1) = (l.dropWhile (· != c)).drop 1
  | [] => .inl ⟨rfl, rfl⟩
  | b :: t => by
    unfold Lib.indexByte
    by_cases hb : b = c
    · subst hb
      exact .inr ⟨0, by simp, by simp, by simp, by simp, by simp⟩
    · have h1 : (b == c) = false := beq_eq_false_iff_ne.2 hb
      have h2 : (b != c) = true := by simp [hb]
      have h3 : (c == b) = false := beq_eq_false_iff_ne.2 (fun e => hb e.symm)
      rcases cut_index c t with ⟨h, hc⟩ | ⟨i, h, hi, hc, ht, hd⟩
      · left
        rw [h1, h]
        exact ⟨by simp, by rw [List.contains_cons, h3, hc]; rfl⟩
      · right
        refine ⟨i + 1, ?_, by simp; omega, by rw [List.contains_cons, hc]; simp, ?_, ?_⟩
        · rw [h1, h]
          have : ((i : Int) == -1) = false := by rw [beq_eq_false_iff_ne]; omega
          rw [this]; simp
        · rw [List.take_succ_cons, List.takeWhile_cons, h2, if_pos rfl, ht]
        · rw [List.drop_succ_cons, List.dropWhile_cons, h2, if_pos rfl, hd]

def lineOk (l : Bs) : Bool := (cutL 58 l).2.2 && okF (cutL 58 l).1 (trimL (cutL 58 l).2.1)
def lineN (l : Bs) : Bs := (cutL 58 l).1
def lineV (l : Bs) : Bs := trimL (cutL 58 l).2.1

def bytesF (f : Bs × Bs) : Bs := f.1 ++ [58, 32] ++ f.2 ++ [13, 10]
def okFs (l : List (Bs × Bs)) : Bool := l.all fun f => okF f.1 f.2

theorem trim_blank (l : Bs) : trimL (32 :: l) = trimL l := by rw [trimL_eq, trimL_eq]; exact tr_cons l
theorem allL_mem (k : Int) (l : Bs) (h : allL k l = true) (c : UInt8) (hc : c ∈ l) : k ≤ kindOf c.toNat := by
  unfold allL at h
  rw [List.all_eq_true] at h
  simpa using h c hc
theorem no_colon (n : Bs) (h : allL 2 n = true) : ∀ c ∈ n, (c != 58) = true := by
  intro c hc
  have := allL_mem 2 n h c hc
  by_cases e : c = 58
  · subst e; exact absurd this (by decide)
  · simp [e]
theorem cut_colon (n r : Bs) (h : allL 2 n = true) : cutL 58 (n ++ 58 :: r) = (n, r, true) := by
  have hn := no_colon n h
  unfold cutL
  rw [if_pos (by simp)]
  have h1 : (n ++ 58 :: r).takeWhile (· != 58) = n := by
    rw [List.takeWhile_append_of_pos hn, List.takeWhile_cons]; simp
  have h2 : (n ++ 58 :: r).dropWhile (· != 58) = 58 :: r := by
    rw [List.dropWhile_append_of_pos hn, List.dropWhile_cons]; simp
  rw [h1, h2]; rfl
theorem okF_parts (n v : Bs) (h : okF n v = true) : n ≠ [] ∧ allL 2 n = true ∧ allL 1 v = true ∧ trimL v = v := by
  unfold okF at h
  simp only [Bool.and_eq_true, decide_eq_true_eq, Bool.not_eq_true', List.isEmpty_eq_false_iff] at h
  exact ⟨h.1.1, h.1.2, h.2.1, h.2.2⟩
/-- a line of a field is read as the field -/
theorem line_bytes (n v : Bs) (h : okF n v = true) : lineOk (n ++ [58, 32] ++ v) = true ∧ lineN (n ++ [58, 32] ++ v) = n ∧ lineV (n ++ [58, 32] ++ v) = v := by
  obtain ⟨h1, h2, h3, h4⟩ := okF_parts n v h
  have e : n ++ [58, 32] ++ v = n ++ 58 :: (32 :: v) := by simp
  unfold lineOk lineN lineV
  rw [e, cut_colon n _ h2]
  simp only [trim_blank, h4, h, Bool.and_true, and_self]
theorem line_ok (l : Bs) (h : lineOk l = true) : okF (lineN l) (lineV l) = true := by
  unfold lineOk at h
  rw [Bool.and_eq_true] at h
  exact h.2
end Tk
end Go.Proofs.YtpcdaaijlgilkaaGreatDoor
namespace Go.Proofs.YtpcdaaijlgilkaaGreatDoor
namespace Tk

/-- a hexadecimal digit's value -/
def hexD (c : UInt8) : Option Nat :=
  if 48 ≤ c.toNat ∧ c.toNat ≤ 57 then some (c.toNat - 48)
  else if 97 ≤ c.toNat ∧ c.toNat ≤ 102 then some (c.toNat - 87)
  else if 65 ≤ c.toNat ∧ c.toNat ≤ 70 then some (c.toNat - 55)
  else none
/-- a number by sixteen, read on from n -/
def hexGo : Nat → Bs → Option Nat
  | n, [] => some n
  | n, c :: t => match hexD c with
    | some d => hexGo (n * 16 + d) t
    | none => none
def hexN (l : Bs) : Option Nat := if l = [] then none else hexGo 0 l
/-- the size that a size line names, and the status -/
def sizeL (t : Bs) : Nat × Nat :=
  if 16 < (cutL 59 t).1.length then (0, 400)
  else if allL 1 (cutL 59 t).2.1 then
    match hexN (cutL 59 t).1 with
    | none => (0, 400)
    | some n => if 9007199254740991 < n then (0, 413) else (n, 0)
  else (0, 400)

/-- a decoder: its limits; its state (0 a size line, 1 a chunk's bytes, 2 CR, 3 LF behind them, 4 trailers, 5 the end); its flaw -/
structure Dc where
  L : Nat
  H : Nat
  C : Nat
  M : Nat
  mode : Nat := 0
  bad : Nat := 0
  line : Bs := []
  left : Nat := 0
  head : Nat := 0
  body : Bs := []
  trl : List (Bs × Bs) := []

def cr (l : Bs) : Bool := decide (l.getLast? = some 13)

/-- one byte more of a line: 0 more must come, 1 the line has ended, 2 a flaw -/
def addK (s : Dc) (c : UInt8) : Nat :=
  if cr s.line = decide (c = 10) then
    if cr s.line then 1 else if s.L ≤ s.line.length + 1 then 2 else 0
  else 2
/-- .. the line behind it -/
def addD (s : Dc) (c : UInt8) : Dc := { s with line := s.line ++ [c] }
/-- the text of the line that has ended by c -/
def txt (s : Dc) : Bs := s.line.dropLast

/-- behind a size line -/
def sizedD (s : Dc) (t : Bs) : Dc :=
  if (sizeL t).2 = 0 then
    if s.M - s.body.length < (sizeL t).1 then { s with bad := 413 }
    else if (sizeL t).1 = 0 then { s with mode := 4 }
    else { s with mode := 1, left := (sizeL t).1 }
  else { s with bad := (sizeL t).2 }
/-- behind a line of the trailers -/
def trailD (s : Dc) (t : Bs) : Dc :=
  if t = [] then { s with mode := 5 }
  else if lineOk t then
    if s.C ≤ s.trl.length then { s with bad := 431 } else { s with trl := s.trl ++ [(lineN t, lineV t)] }
  else { s with bad := 400 }

def stepD (s : Dc) (c : UInt8) : Dc :=
  match s.mode with
  | 0 => match addK s c with
    | 0 => addD s c
    | 1 => sizedD { s with line := [] } (txt s)
    | _ => { addD s c with bad := 400 }
  | 1 => if 1 < s.left then { s with body := s.body ++ [c], left := s.left - 1 } else { s with body := s.body ++ [c], left := s.left - 1, mode := 2 }
  | 2 => if c = 13 then { s with mode := 3 } else { s with bad := 400 }
  | 3 => if c = 10 then { s with mode := 0 } else { s with bad := 400 }
  | 4 => match addK s c with
    | 0 => if s.H < s.head + 1 then { addD s c with head := s.head + 1, bad := 431 } else { addD s c with head := s.head + 1 }
    | 1 => if s.H < s.head + 1 then { addD s c with head := s.head + 1, bad := 431 } else trailD { s with head := s.head + 1, line := [] } (txt s)
    | _ => { addD s c with head := s.head + 1, bad := 400 }
  | _ => s

def stopD (s : Dc) : Bool := decide (s.mode = 5) || decide (s.bad ≠ 0)
def feedD : Dc → Bs → Nat × Dc
  | s, [] => (0, s)
  | s, c :: t => if stopD s then (0, s) else ((feedD (stepD s c) t).1 + 1, (feedD (stepD s c) t).2)

theorem feedD_stop (s : Dc) (l : Bs) (h : stopD s = true) : feedD s l = (0, s) := by
  cases l with
  | nil => rfl
  | cons c t => unfold feedD; rw [if_pos h]
theorem feedD_cons (s : Dc) (c : UInt8) (t : Bs) (h : stopD s = false) : feedD s (c :: t) = ((feedD (stepD s c) t).1 + 1, (feedD (stepD s c) t).2) := by
  rw [feedD, if_neg (by simp [h])]
theorem feedD_append : ∀ (a : Bs) (s : Dc) (b : Bs), feedD s (a ++ b) = ((feedD s a).1 + (feedD (feedD s a).2 b).1, (feedD (feedD s a).2 b).2)
  | [], s, b => by simp [feedD]
  | c :: a, s, b => by
    cases h : stopD s
    · rw [List.cons_append, feedD_cons s c _ h, feedD_cons s c a h, feedD_append a (stepD s c) b]
      simp only [Prod.mk.injEq, and_true]; omega
    · rw [feedD_stop s _ h, feedD_stop s _ h, feedD_stop s _ h]; simp
theorem feedD_le : ∀ (l : Bs) (s : Dc), (feedD s l).1 ≤ l.length
  | [], s => by simp [feedD]
  | c :: t, s => by
    cases h : stopD s
    · rw [feedD_cons s c t h]; have := feedD_le t (stepD s c); simp; omega
    · rw [feedD_stop s _ h]; simp
theorem feedD_all : ∀ (l : Bs) (s : Dc), stopD (feedD s l).2 = false → (feedD s l).1 = l.length
  | [], s, _ => by simp [feedD]
  | c :: t, s, h => by
    cases hs : stopD s
    · rw [feedD_cons s c t hs] at h ⊢; have := feedD_all t (stepD s c) h; simp at this ⊢; omega
    · rw [feedD_stop s _ hs] at h; rw [hs] at h; cases h
/-- what was eaten is all that counts -/
theorem feedD_take (l : Bs) (s : Dc) : feedD s (l.take (feedD s l).1) = feedD s l := by
  induction l generalizing s with
  | nil => simp [feedD]
  | cons c t ih =>
    cases h : stopD s
    · rw [feedD_cons s c t h]
      show feedD s ((c :: t).take ((feedD (stepD s c) t).1 + 1)) = _
      rw [List.take_succ_cons, feedD_cons s c _ h, ih (stepD s c)]
    · rw [feedD_stop s _ h, feedD_stop s _ h]

/-- what is true of a decoder at all times; n: how many bytes it may have eaten -/
structure Dc.Fit (s : Dc) (n : Nat) : Prop where
  line : s.line.length ≤ n
  head : s.head ≤ n
  body : s.body.length ≤ n
  trl : s.trl.length ≤ n
  each : ∀ f ∈ s.trl, f.1.length ≤ n ∧ f.2.length ≤ n
  mode : s.mode ≤ 5
  bad : s.bad = 0 ∨ s.bad = 400 ∨ s.bad = 413 ∨ s.bad = 431
  room : s.body.length + (if s.mode = 1 then s.left else 0) ≤ s.M
  one : s.mode = 1 → 1 ≤ s.left
  few : s.left ≤ 9007199254740991

theorem sizeL_le (t : Bs) : (sizeL t).1 ≤ 9007199254740991 ∧ ((sizeL t).2 = 0 ∨ (sizeL t).2 = 400 ∨ (sizeL t).2 = 413) := by
  unfold sizeL
  split
  · simp
  · split
    · split
      · simp
      · split <;> simp; omega
    · simp
theorem trimL_le (l : Bs) : (trimL l).length ≤ l.length := trim_sublist l
theorem cutL_le (c : UInt8) (l : Bs) : (cutL c l).1.length ≤ l.length ∧ (cutL c l).2.1.length ≤ l.length := by
  unfold cutL
  split
  · refine ⟨(List.takeWhile_sublist _).length_le, ?_⟩
    simp only [List.length_drop]
    have := (List.dropWhile_sublist (l := l) (· != c)).length_le
    omega
  · simp
theorem lineNV_le (t : Bs) : (lineN t).length ≤ t.length ∧ (lineV t).length ≤ t.length :=
  ⟨(cutL_le 58 t).1, Nat.le_trans (trimL_le _) (cutL_le 58 t).2⟩

theorem Dc.Fit.mono {s : Dc} {n m : Nat} (h : s.Fit n) (hm : n ≤ m) : s.Fit m :=
  ⟨Nat.le_trans h.line hm, Nat.le_trans h.head hm, Nat.le_trans h.body hm, Nat.le_trans h.trl hm, fun f hf => ⟨Nat.le_trans (h.each f hf).1 hm, Nat.le_trans (h.each f hf).2 hm⟩, h.mode, h.bad, h.room, h.one, h.few⟩

theorem stepD_fit (s : Dc) (c : UInt8) (n : Nat) (h : s.Fit n) : (stepD s c).Fit (n + 1) := by
  obtain ⟨h1, h2, h3, h4, h5, h6, h7, h8, h9, h10⟩ := h
  have h5' : ∀ f ∈ s.trl, f.1.length ≤ n + 1 ∧ f.2.length ≤ n + 1 := fun f hf => ⟨Nat.le_succ_of_le (h5 f hf).1, Nat.le_succ_of_le (h5 f hf).2⟩
  have hl : (s.line ++ [c]).length ≤ n + 1 := by simp; omega
  have ht : (txt s).length ≤ n := by unfold txt; simp; omega
  have h58 : s.body.length ≤ s.M := by have := h8; omega
  unfold stepD
  split
  · rename_i hm
    rw [hm] at h8 h9
    split
    · exact ⟨hl, by simp only [addD]; omega, by simp only [addD]; omega, by simp only [addD]; omega, h5', by simp only [addD]; omega, h7, by simp only [addD, hm]; simpa using h58, by simp only [addD, hm]; simp, h10⟩
    · unfold sizedD
      obtain ⟨k1, k2⟩ := sizeL_le (txt s)
      split
      · split
        · exact ⟨by simp, by simp only; omega, by simp only; omega, by simp only; omega, h5', by simp only; omega, by simp, by simp only [hm]; simpa using h58, by simp only [hm]; simp, h10⟩
        · split
          · exact ⟨by simp, by simp only; omega, by simp only; omega, by simp only; omega, h5', by simp, h7, by simpa using h58, by simp, h10⟩
          · exact ⟨by simp, by simp only; omega, by simp only; omega, by simp only; omega, h5', by simp, h7, by simp only [if_true]; simp only at *; omega, fun _ => by simp only; omega, k1⟩
      · exact ⟨by simp, by simp only; omega, by simp only; omega, by simp only; omega, h5', by simp only; omega, by simp only; omega, by simp only [hm]; simpa using h58, by simp only [hm]; simp, h10⟩
    · exact ⟨hl, by simp only [addD]; omega, by simp only [addD]; omega, by simp only [addD]; omega, h5', by simp only [addD]; omega, by simp, by simp only [addD, hm]; simpa using h58, by simp only [addD, hm]; simp, h10⟩
  · rename_i hm
    rw [hm] at h8 h9
    have h9' := h9 rfl
    simp only [if_true] at h8
    split
    · exact ⟨by simp only; omega, by simp only; omega, by simp; omega, by simp only; omega, h5', by simp only; omega, h7, by simp only [hm, if_true]; simp; omega, fun _ => by simp only; omega, by simp only; omega⟩
    · exact ⟨by simp only; omega, by simp only; omega, by simp; omega, by simp only; omega, h5', by simp, h7, by simp; omega, by simp, by simp only; omega⟩
  · rename_i hm
    rw [hm] at h8 h9
    split
    · exact ⟨by simp only; omega, by simp only; omega, by simp only; omega, by simp only; omega, h5', by simp, h7, by simpa using h58, by simp, h10⟩
    · exact ⟨by simp only; omega, by simp only; omega, by simp only; omega, by simp only; omega, h5', by simp only; omega, by simp, by simp only [hm]; simpa using h58, by simp only [hm]; simp, h10⟩
  · rename_i hm
    rw [hm] at h8 h9
    split
    · exact ⟨by simp only; omega, by simp only; omega, by simp only; omega, by simp only; omega, h5', by simp, h7, by simpa using h58, by simp, h10⟩
    · exact ⟨by simp only; omega, by simp only; omega, by simp only; omega, by simp only; omega, h5', by simp only; omega, by simp, by simp only [hm]; simpa using h58, by simp only [hm]; simp, h10⟩
  · rename_i hm
    rw [hm] at h8 h9
    split
    · split
      · exact ⟨hl, by simp only; omega, by simp only [addD]; omega, by simp only [addD]; omega, h5', by simp only [addD]; omega, by simp, by simp only [addD, hm]; simpa using h58, by simp only [addD, hm]; simp, h10⟩
      · exact ⟨hl, by simp only; omega, by simp only [addD]; omega, by simp only [addD]; omega, h5', by simp only [addD]; omega, h7, by simp only [addD, hm]; simpa using h58, by simp only [addD, hm]; simp, h10⟩
    · split
      · exact ⟨hl, by simp only; omega, by simp only [addD]; omega, by simp only [addD]; omega, h5', by simp only [addD]; omega, by simp, by simp only [addD, hm]; simpa using h58, by simp only [addD, hm]; simp, h10⟩
      · unfold trailD
        split
        · exact ⟨by simp, by simp only; omega, by simp only; omega, by simp only; omega, h5', by simp, h7, by simpa using h58, by simp, h10⟩
        · split
          · split
            · exact ⟨by simp, by simp only; omega, by simp only; omega, by simp only; omega, h5', by simp only; omega, by simp, by simp only [hm]; simpa using h58, by simp only [hm]; simp, h10⟩
            · refine ⟨by simp, by simp only; omega, by simp only; omega, by simp; omega, fun f hf => ?_, by simp only; omega, h7, by simp only [hm]; simpa using h58, by simp only [hm]; simp, h10⟩
              rcases List.mem_append.1 hf with hf | hf
              · exact h5' f hf
              · simp at hf; subst hf
                have := lineNV_le (txt s)
                simp only; omega
          · exact ⟨by simp, by simp only; omega, by simp only; omega, by simp only; omega, h5', by simp only; omega, by simp, by simp only [hm]; simpa using h58, by simp only [hm]; simp, h10⟩
    · exact ⟨hl, by simp only; omega, by simp only [addD]; omega, by simp only [addD]; omega, h5', by simp only [addD]; omega, by simp, by simp only [addD, hm]; simpa using h58, by simp only [addD, hm]; simp, h10⟩
  · exact ⟨by omega, by omega, by omega, by omega, h5', h6, h7, h8, h9, h10⟩

theorem stepD_lim (s : Dc) (c : UInt8) : (stepD s c).L = s.L ∧ (stepD s c).H = s.H ∧ (stepD s c).C = s.C ∧ (stepD s c).M = s.M := by
  unfold stepD sizedD trailD addD
  repeat' split
  all_goals exact ⟨rfl, rfl, rfl, rfl⟩
theorem feedD_fit : ∀ (l : Bs) (s : Dc) (n : Nat), s.Fit n → (feedD s l).2.Fit (n + l.length)
  | [], s, n, h => by simpa [feedD] using h
  | c :: t, s, n, h => by
    cases hs : stopD s
    · rw [feedD_cons s c t hs]
      have := feedD_fit t _ _ (stepD_fit s c n h)
      exact this.mono (by simp; omega)
    · rw [feedD_stop s _ hs]; exact Dc.Fit.mono h (by simp)
theorem feedD_lim : ∀ (l : Bs) (s : Dc), (feedD s l).2.L = s.L ∧ (feedD s l).2.H = s.H ∧ (feedD s l).2.C = s.C ∧ (feedD s l).2.M = s.M
  | [], s => ⟨rfl, rfl, rfl, rfl⟩
  | c :: t, s => by
    cases hs : stopD s
    · rw [feedD_cons s c t hs]
      obtain ⟨a1, a2, a3, a4⟩ := feedD_lim t (stepD s c)
      obtain ⟨b1, b2, b3, b4⟩ := stepD_lim s c
      exact ⟨a1.trans b1, a2.trans b2, a3.trans b3, a4.trans b4⟩
    · rw [feedD_stop s _ hs]; exact ⟨rfl, rfl, rfl, rfl⟩
/-- a flaw leaves the state as it was -/
theorem stepD_bad (s : Dc) (c : UInt8) (h : s.bad = 0) (hb : (stepD s c).bad ≠ 0) : (stepD s c).mode = s.mode := by
  revert hb
  unfold stepD sizedD trailD addD
  repeat' split
  all_goals simp_all
def newD (l h c m : Nat) : Dc := { L := l, H := h, C := c, M := m }
theorem newD_fit (l h c m : Nat) : (newD l h c m).Fit 0 := ⟨by simp [newD], by simp [newD], by simp [newD], by simp [newD], by simp [newD], by simp [newD], by simp [newD], by simp [newD], by simp [newD], by simp [newD]⟩
end Tk
end Go.Proofs.YtpcdaaijlgilkaaGreatDoor
namespace Go.Proofs.YtpcdaaijlgilkaaGreatDoor
open Go.RowKit
namespace Tk

/-- the row behind is the row that was, or a new one -/
def Stay (w : World) (v v' : Value) : Prop := ∀ k, v'.ownBlock = some k → v.ownBlock = some k ∨ w.heap.size ≤ k

theorem run_append_stay {P : Program} (w : World) (base : Nat) (t ty e : TypeId) (i : TypeInfo) (z : Value) (size bytes : Nat) (ht : P.underlying t = some (.slice e)) (hi : P.info? e = some i) (hz : i.zero = some z)
    (hsize : i.size = size) (hby : i.bytes = bytes) (hzs : z.cells.size = size) (hsz : 0 < size) (v : Value) (n : Nat) (xs : List Value) (hown : w.ownsRow base e size v n xs)
    (a : Addr) (m c : Nat) (news : List Value) (hl : news.length = m * size) (hnews : ∀ j u, news[j]? = some u → w.cell? (a.add j) = some u) (h1 : ∀ u ∈ news, u.oneCell' = true)
    (h63 : n + m ≤ maxLen) (hbytes : (n + m) * bytes ≤ 140737488355328) (hbase : base ≤ w.heap.size) :
    ∃ v' w', (Builtin.append_ #[t, t] ty #[v, .slice (some a) m c]).run P w = .ok v' w' ∧ w'.ownsRow base e size v' (n + m) (xs ++ news) ∧ w.grownBy w' v.ownBlock ∧ Stay w v v' := by
  obtain ⟨v', w', hr, h2, h3, h4⟩ := run_append_own (P := P) w base t ty e i z size bytes ht hi hz hsize hby hzs hsz v n xs hown a m c news hl hnews h1 h63 hbytes hbase
  refine ⟨v', w', hr, h2, h3, ?_⟩
  have h63' : n + m ≤ 9223372036854775807 := by simp only [maxLen] at h63; omega
  subst hsize hby
  rcases hown.2 with ⟨rfl, rfl⟩ | ⟨g, cap, cur, rfl, hbg, hg, hnc, hcm, hcs, htake⟩
  · by_cases hm : m = 0
    · rw [h4.2 ⟨rfl, hm⟩]; intro k hk; cases hk
    · have hr2 := run_append_nil (P := P) w t ty e i z ht hi hz a m c news hl hnews (by omega) (by omega) (by have hb := hbytes; simp only [Nat.zero_add] at hb; omega)
      have hq := hr.symm.trans hr2
      injection hq with e1 e2
      subst e1
      intro k hk
      simp only [Value.ownBlock, Option.some.injEq] at hk
      exact .inr (by omega)
  · by_cases hroom : n + m ≤ cap
    · have hfit : n * i.size + news.length ≤ cur.size := by rw [hl, hcs, ← Nat.add_mul]; exact Nat.mul_le_mul_right _ hroom
      have hr2 := run_append_room (P := P) w t ty e i ht hi g n cap cur hg a m c news hl hnews h1 hroom hfit
      have hq := hr.symm.trans hr2
      injection hq with e1 e2
      subst e1
      exact fun k hk => .inl hk
    · have hr2 := run_append_grow (P := P) w t ty e i z ht hi hz ⟨g, 0, none⟩ n cap xs hown.1 (hown.cells (g := g) rfl) a m c news hl hnews (by omega) (by omega) (growslice_fits (by omega) hbytes)
      have hq := hr.symm.trans hr2
      injection hq with e1 e2
      subst e1
      intro k hk
      simp only [Value.ownBlock, Option.some.injEq] at hk
      exact .inr (by omega)

theorem wp_append_stay {P : Program} {w : World} {o : Oper} {a : Act} {K : Act → World → Prop} {Q : Exit → Act → World → Prop} (s x : Operand) (t : TypeId)
    (ho : o.op = .call { callee := .builtin .append, args := #[s, x], argTypes := #[t, t] })
    (base : Nat) (e : TypeId) (i : TypeInfo) (z : Value) (size bytes : Nat) (ht : P.underlying t = some (.slice e)) (hi : P.info? e = some i) (hz : i.zero = some z)
    (hsize : i.size = size) (hby : i.bytes = bytes) (hzs : z.cells.size = size) (hsz : 0 < size) (v : Value) (n : Nat) (xs : List Value) (hs : a.eval s = v) (hown : w.ownsRow base e size v n xs)
    (ad : Addr) (m c : Nat) (news : List Value) (hx : a.eval x = .slice (some ad) m c) (hl : news.length = m * size) (hnews : ∀ j u, news[j]? = some u → w.cell? (ad.add j) = some u) (h1 : ∀ u ∈ news, u.oneCell' = true)
    (h63 : n + m ≤ maxLen) (hbytes : (n + m) * bytes ≤ 140737488355328) (hbase : base ≤ w.heap.size)
    (h : ∀ v' w', w'.ownsRow base e size v' (n + m) (xs ++ news) → w.grownBy w' v.ownBlock → Stay w v v' → K (a.put o.dst v') w') : o.wp P a w K Q := by
  obtain ⟨v', w', hr, h2, h3, h4⟩ := run_append_stay (P := P) w base t o.type e i z size bytes ht hi hz hsize hby hzs hsz v n xs hown ad m c news hl hnews h1 h63 hbytes hbase
  unfold Oper.wp execOp
  simp only [ho, resolve, invoke, builtin, Sem.run_bind, Sem.run_pure, Result.andThen_ok, List.map_toArray, List.map_cons, List.map_nil, hs, hx, hr]
  exact h v' w' h2 h3 h4

theorem append_stay {P : Program} {w : World} {ops : Array Oper} {rest : List Oper} {o : Oper} {a : Act} {Q : Exit → Act → World → Prop} (hw : Region.wanted o (yielded ops a.tmps) = true) (s x : Operand) (t : TypeId)
    (ho : o.op = .call { callee := .builtin .append, args := #[s, x], argTypes := #[t, t] })
    (base : Nat) (e : TypeId) (i : TypeInfo) (z : Value) (size bytes : Nat) (ht : P.underlying t = some (.slice e)) (hi : P.info? e = some i) (hz : i.zero = some z)
    (hsize : i.size = size) (hby : i.bytes = bytes) (hzs : z.cells.size = size) (hsz : 0 < size) (v : Value) (n : Nat) (xs : List Value) (hs : a.eval s = v) (hown : w.ownsRow base e size v n xs)
    (ad : Addr) (m c : Nat) (news : List Value) (hx : a.eval x = .slice (some ad) m c) (hl : news.length = m * size) (hnews : ∀ j u, news[j]? = some u → w.cell? (ad.add j) = some u) (h1 : ∀ u ∈ news, u.oneCell' = true)
    (h63 : n + m ≤ maxLen) (hbytes : (n + m) * bytes ≤ 140737488355328) (hbase : base ≤ w.heap.size)
    (h : ∀ v' w', w'.ownsRow base e size v' (n + m) (xs ++ news) → w.grownBy w' v.ownBlock → Stay w v v' → wpList P ops Q rest (a.put o.dst v') w') : wpList P ops Q (o :: rest) a w :=
  BigFrame.wpList_want hw fun _ hK => wp_append_stay s x t ho base e i z size bytes ht hi hz hsize hby hzs hsz v n xs hs hown ad m c news hx hl hnews h1 h63 hbytes hbase fun v' w' h2 h3 h4 => hK _ _ (h v' w' h2 h3 h4)
end Tk
end Go.Proofs.YtpcdaaijlgilkaaGreatDoor
namespace Go.Proofs.YtpcdaaijlgilkaaGreatDoor
open Go.RowKit
namespace Tk

def CutPost (c : UInt8) (l : Bs) (w : World) (e : Ending) (w' : World) : Prop := e = .returned (.tuple #[.string (mkS (cutL c l).1), .string (mkS (cutL c l).2.1), .bool (cutL c l).2.2]) ∧ ∃ n, w' = w.drewN n

set_option maxHeartbeats 2000000 in
set_option maxRecDepth 100000 in
theorem slcut_any (s : ByteArray) (c : UInt8) (w : World) (hs : s.size ≤ 1099511627776) :
    Calls Tryz.prog 71 #[.string s, .string ⟨#[c]⟩] w (CutPost c (bs s) w) := by
  have H := Lib.hid (fun W : World => Tryz.stringslite_Index_one s c W)
  have hz : (⟨#[c]⟩ : ByteArray).size = 1 := rfl
  rcases cut_index c (bs s) with ⟨h1, h2⟩ | ⟨i, h1, hi, h2, h3, h4⟩
  · have e1 : cutL c (bs s) = (bs s, [], false) := by unfold cutL; rw [h2]; rfl
    have E1 := Lib.hid e1
    have H1 := Lib.hid h1
    clear h1 h2 e1
    go_enter Tryz.func71, Tryz.ntmps71
    go_wp2_with fail
    refine (H.out _).mono ?_
    rintro e w' ⟨rfl, rfl⟩
    rw [show Lib.indexByte s.data.toList c = -1 from H1.out]
    go_wp2_with fail
    go_ret3
    exact ⟨by rw [E1.out, mkS_bs]; rfl, 0, rfl⟩
  · have e1 : cutL c (bs s) = ((bs s).take i, (bs s).drop (i + 1), true) := by unfold cutL; rw [h2, if_pos rfl, h3, h4]
    rw [length_bs] at hi
    have E1 := Lib.hid e1
    have H1 := Lib.hid h1
    clear h1 h2 h3 h4 e1
    have c1 : (0 : Int) ≤ ↑i := by omega
    have c2 : (↑i : Int) ≤ ↑s.size := by omega
    have c3 : (0 : Int) ≤ ↑i + 1 := by omega
    have c4 : (↑i + 1 : Int) ≤ ↑s.size := by omega
    go_enter Tryz.func71, Tryz.ntmps71
    go_wp2_with fail
    refine (H.out _).mono ?_
    rintro e w' ⟨rfl, rfl⟩
    rw [show Lib.indexByte s.data.toList c = (i : Int) from H1.out]
    go_wp2_with fail
    go_quiet (fail)
    go_wp2
    go_ret3
    refine ⟨?_, _, rfl⟩
    rw [E1.out]
    have a1 : s.extract 0 i = mkS ((bs s).take i) := by rw [extract_mkS]; simp
    have a2 : s.extract (i + 1) s.size = mkS ((bs s).drop (i + 1)) := by
      rw [extract_mkS, List.take_of_length_le (by rw [List.length_drop, length_bs]; exact Nat.le_refl _)]
    simp only [← a1, ← a2]
    rfl

set_option maxHeartbeats 1000000 in
theorem cut_any (s : ByteArray) (c : UInt8) (w : World) (hs : s.size ≤ 1099511627776) :
    Calls Tryz.prog 62 #[.string s, .string ⟨#[c]⟩] w (CutPost c (bs s) w) := by
  have H := Lib.hid (slcut_any s c w hs)
  go_enter Tryz.func62, Tryz.ntmps62
  go_wp2_with fail
  refine H.out.mono ?_
  rintro e w' ⟨rfl, hn⟩
  have HN := Lib.hid hn
  clear hn
  go_wp2_with fail
  go_ret3
  exact ⟨rfl, HN.out⟩
end Tk
end Go.Proofs.YtpcdaaijlgilkaaGreatDoor
namespace Go.Proofs.YtpcdaaijlgilkaaGreatDoor
open Go.RowKit
namespace Tk

set_option maxHeartbeats 1000000 in
set_option maxRecDepth 100000 in
theorem token_any (s : ByteArray) (w : World) (hs : s.size ≤ 1099511627776) :
    Calls Tryz.prog 55 #[.string s] w fun e w' => e = .returned (.bool (!(bs s).isEmpty && allL 2 (bs s))) ∧ Below w.heap.size w w' := by
  have H := Lib.hid (all_any s 2 w hs)
  cases hb : (bs s).isEmpty
  · have he : s.toList.isEmpty = false := by rw [toList_bs]; exact hb
    clear hb
    go_enter Tryz.func55, Tryz.ntmps55
    go_wp2_with fail
    refine H.out.mono ?_
    rintro e w' ⟨rfl, hb⟩
    have HB := Lib.hid hb
    clear hb
    go_wp2_with fail
    go_ret
    exact ⟨rfl, HB.out⟩
  · have he : s.toList.isEmpty = true := by rw [toList_bs]; exact hb
    clear hb
    go_enter Tryz.func55, Tryz.ntmps55
    go_wp2_with fail
    go_ret
    exact ⟨rfl, Below.refl _ _⟩
end Tk
end Go.Proofs.YtpcdaaijlgilkaaGreatDoor
namespace Go.Proofs.YtpcdaaijlgilkaaGreatDoor
open Go.RowKit
namespace Tk

theorem run_kind (w : World) (c : UInt8) (k : Int) (ks : Array Value) (h : ks[c.toNat]? = some (.int .u8 k)) : (Instr.index 121 (.agg ks) (.int .u8 (c.toNat : Int))).run Tryz.prog w = .ok (.int .u8 k) w := by
  have h0 : (0 : Int) ≤ (c.toNat : Int) ∧ (c.toNat : Int) < (256 : Int) := ⟨by omega, by have := c.toNat_lt; omega⟩
  have hlt := c.toNat_lt
  simp [Instr.index, asIntOf, run_underlying Tryz.underlying121, part, Tryz.isAgg113, Tryz.sizeOf113, h, hlt]

set_option maxHeartbeats 1000000 in
set_option maxRecDepth 100000 in
theorem char_any (c : UInt8) (w : World) :
    Calls Tryz.prog 74 #[.int .u8 (c.toNat : Int)] w fun e w' => e = .returned (.bool (decide (1 ≤ kindOf c.toNat))) ∧ Below w.heap.size w w' := by
  have HK := Lib.hid (kinds_any w)
  have hr := fun W => run_kind W c _ _ (kindL_at c)
  generalize (kindL.map (Value.int .u8)).toArray = ks at *
  generalize kindOf c.toNat = k at *
  by_cases hk : 1 ≤ k
  · go_enter Tryz.func74, Tryz.ntmps74
    go_wp2_with fail
    refine HK.out.mono ?_
    rintro e w' ⟨rfl, hb⟩
    have HB := Lib.hid hb
    clear hb
    go_wp2_with fail
    go_ret
    exact ⟨by simp [hk], HB.out⟩
  · go_enter Tryz.func74, Tryz.ntmps74
    go_wp2_with fail
    refine HK.out.mono ?_
    rintro e w' ⟨rfl, hb⟩
    have HB := Lib.hid hb
    clear hb
    go_wp2_with fail
    go_ret
    exact ⟨by simp, HB.out⟩
end Tk
end Go.Proofs.YtpcdaaijlgilkaaGreatDoor
namespace Go.Proofs.YtpcdaaijlgilkaaGreatDoor
open Go.RowKit
namespace Tk

theorem asciiZero : (Tryz.prog.info? 153).map (fun i => (i.zero, i.size)) = some (some (.agg (Array.replicate 256 (.bool false))), 256) := by kernel_rfl

set_option maxHeartbeats 400000 in
theorem trim_any (s : ByteArray) (w : World) (h : s.size ≤ 1099511627776) :
    Calls Tryz.prog 81 #[.string s] w (StrPost (trimL (bs s)) w) := by
  have h1 := Any.strings_Trim_laid Tryz.lays160 asciiZero s ⟨#[32, 9]⟩ w (by omega) (by decide) (ascii_of_all (by decide))
  have H := Lib.hid (show Calls Tryz.prog 97 #[.string s, .string ⟨#[32, 9]⟩] w fun e w' => e = .returned (.string (mkS (trimL (bs s)))) ∧ Below w.heap.size w w' from h1)
  have hl := trim_sublist (bs s)
  rw [length_bs] at hl
  clear h1
  go_enter Tryz.func81, Tryz.ntmps81
  go_wp2_with fail
  refine H.out.mono ?_
  rintro e w' ⟨rfl, hb⟩
  have HB := Lib.hid hb
  clear hb
  go_wp2_with fail
  refine (clone_any (mkS (trimL (bs s))) _ (by rw [size_mkS]; omega)).mono ?_
  rintro e w2 ⟨rfl, hb⟩
  have HB2 := Lib.hid hb
  clear hb
  go_wp2_with fail
  go_ret
  exact ⟨rfl, HB.out.trans (HB2.out.mono HB.out.size)⟩
end Tk
end Go.Proofs.YtpcdaaijlgilkaaGreatDoor
namespace Go.Proofs.YtpcdaaijlgilkaaGreatDoor
open Go.RowKit
namespace Tk

set_option maxHeartbeats 1000000 in
set_option maxRecDepth 100000 in
theorem chars_any (s : ByteArray) (w : World) (hs : s.size ≤ 1099511627776) :
    Calls Tryz.prog 98 #[.string s] w fun e w' => e = .returned (.bool (allL 1 (bs s))) ∧ Below w.heap.size w w' := by
  go_enter Tryz.func98, Tryz.ntmps98
  go_wp2_with fail
  go_loopw [6, 3] (fun v _ wr => ∃ i : Nat, i ≤ s.size ∧ v = .int .i64 i ∧ Hid (Below w.heap.size w wr) ∧ Hid (allL 1 (bs s) = allL 1 ((bs s).drop i))) (fun v _ _ => s.size - (RowKit.intOf v).toNat)
  case atStart => exact ⟨0, Nat.zero_le _, rfl, Below.refl _ _, rfl⟩
  case round =>
    obtain ⟨i, hi, rfl, HB, hd⟩ := hrel
    rename World => W
    by_cases hlt : i < s.size
    · have D := Lib.hid (bs_drop s i hlt)
      have HC := char_any s[i] W
      cases hk : decide (1 ≤ kindOf s[i].toNat)
      · rw [hk] at HC
        have fin : allL 1 (bs s) = false := by rw [hd.out, D.out, allL_cons, hk]; rfl
        have HF := Lib.hid fin
        have HC2 := Lib.hid HC
        clear fin HC hk
        go_wp2_with fail
        refine HC2.out.mono ?_
        rintro e w' ⟨rfl, hb⟩
        have HB2 := Lib.hid (HB.out.trans (hb.mono HB.out.size))
        clear hb
        go_wp2_with fail
        go_ret
        exact ⟨by rw [HF.out]; rfl, HB2.out⟩
      · rw [hk] at HC
        have nx : allL 1 (bs s) = allL 1 ((bs s).drop (i + 1)) := by rw [hd.out, D.out, allL_cons, hk, Bool.true_and]
        have HX := Lib.hid nx
        have HC2 := Lib.hid HC
        clear nx HC hk
        go_wp2_with fail
        refine HC2.out.mono ?_
        rintro e w' ⟨rfl, hb⟩
        have HB2 := Lib.hid (HB.out.trans (hb.mono HB.out.size))
        clear hb
        go_wp2_with fail
        exact ⟨⟨i + 1, by omega, by go_num, HB2, HX⟩, by simp [RowKit.intOf]; omega⟩
    · have fin : allL 1 (bs s) = true := by rw [hd.out, List.drop_eq_nil_of_le (by rw [length_bs]; omega)]; rfl
      have HF := Lib.hid fin
      clear fin
      go_wp2_with fail
      go_ret
      exact ⟨by rw [HF.out]; rfl, HB.out⟩

def okE (n v : Bs) : Int := if okF n v then 0 else 4
theorem okE_ok (n v : Bs) (h : okF n v = true) : okE n v = 0 := by unfold okE; rw [h]; rfl
theorem okE_no (n v : Bs) (h : okF n v = false) : okE n v = 4 := by unfold okE; rw [h]; rfl
theorem beq_bs (a : Bs) (s : ByteArray) : ((mkS a).toList == s.toList) = decide (a = bs s) := by
  rw [toList_bs, toList_bs, bs_mkS]
  by_cases h : a = bs s <;> simp [h]

/-- what a call keeps: all below B, one cell, and that the cell's block is there -/
theorem keep_cell {P : Program} {f : FuncId} {args : Array Value} {W w0 : World} {r : Ending} {B : Nat} (h : Calls P f args W fun e w' => e = r ∧ Below W.heap.size W w') (p : Addr) (u : Value) (hB : Below B w0 W) (hs : B ≤ W.heap.size) (hc : W.cell? p = some u) (hp : p.block < W.heap.size) :
    Calls P f args W fun e w' => e = r ∧ Below B w0 w' ∧ B ≤ w'.heap.size ∧ w'.cell? p = some u ∧ p.block < w'.heap.size :=
  h.mono fun _ _ h => ⟨h.1, hB.trans (h.2.mono hs), Nat.le_trans hs h.2.size, (h.2.cell hp).trans hc, Nat.lt_of_lt_of_le hp h.2.size⟩

theorem cell_new (w : World) (a b : Value) (T : TypeId) : (w.alloc (.cells #[a, b] T)).cell? ⟨w.heap.size, 0, none⟩ = some a ∧ (w.alloc (.cells #[a, b] T)).cell? ⟨w.heap.size, 1, none⟩ = some b := by
  constructor <;> (rw [Lib.cell_of_heap (heap_alloc_last w _)]; rfl)

set_option maxHeartbeats 2000000 in
set_option maxRecDepth 100000 in
theorem check_any' (n v : ByteArray) (w : World) (hn : n.size ≤ 1099511627776) (hv : v.size ≤ 1099511627776) :
    Calls Tryz.prog 82 #[.agg #[.string n, .string v]] w fun e w' => e = .returned (.int .i64 (okE (bs n) (bs v))) ∧ Below w.heap.size w w' := by
  have HT := Lib.hid (fun W : World => token_any n W hn)
  have HC := Lib.hid (fun W : World => chars_any v W hv)
  have HR := Lib.hid (fun W : World => show Calls Tryz.prog 81 #[.string v] W (fun e w' => e = .returned (.string (mkS (trimL (bs v)))) ∧ Below W.heap.size W w') from trim_any v W hv)
  obtain ⟨hN0, hN1⟩ := cell_new w (.string n) (.string v) 84
  have hB0 : Below w.heap.size w (w.alloc (.cells #[.string n, .string v] 84)).drew := ((Below.refl _ _).alloc (Nat.le_refl _) _).drew
  have hg : w.heap.size < (w.alloc (.cells #[.string n, .string v] 84)).heap.size := by simp
  have hgl := Nat.le_of_lt hg
  cases ht : (!(bs n).isEmpty && allL 2 (bs n))
  · have fin : okE (bs n) (bs v) = 4 := okE_no _ _ (by unfold okF; rw [ht]; rfl)
    rw [ht] at HT
    have HF := Lib.hid fin
    clear fin ht
    go_enter Tryz.func82, Tryz.ntmps82
    go_wp2_with fail
    generalize w.alloc (.cells #[.string n, .string v] 84) = W0 at *
    generalize hgw : w.heap.size = g at *
    have HGW := Lib.hid hgw
    clear hgw
    first
    | go_region_with (first | (go_at_call 55; refine (keep_cell (HT.out _) ⟨g, 1, none⟩ _ (by assumption) (by assumption) (by assumption) (by assumption)).mono ?_; rintro e w' ⟨rfl, hb, hs, hc', hg'⟩))
    | fail
    all_goals
      go_wp2_with fail
      go_ret
      exact ⟨by rw [HF.out]; rfl, by rw [HGW.out]; assumption⟩
  · rw [ht] at HT
    cases hc : allL 1 (bs v)
    · have fin : okE (bs n) (bs v) = 4 := okE_no _ _ (by unfold okF; rw [ht, hc]; rfl)
      rw [hc] at HC
      have HF := Lib.hid fin
      clear fin ht hc
      go_enter Tryz.func82, Tryz.ntmps82
      go_wp2_with fail
      generalize w.alloc (.cells #[.string n, .string v] 84) = W0 at *
      generalize hgw : w.heap.size = g at *
      have HGW := Lib.hid hgw
      clear hgw
      first
      | go_region_with (first | (go_at_call 55; refine (keep_cell (HT.out _) ⟨g, 1, none⟩ _ (by assumption) (by assumption) (by assumption) (by assumption)).mono ?_; rintro e w' ⟨rfl, hb, hs, hc', hg'⟩) | (go_at_call 98; refine (keep_cell (HC.out _) ⟨g, 1, none⟩ _ (by assumption) (by assumption) (by assumption) (by assumption)).mono ?_; rintro e w' ⟨rfl, hb, hs, hc', hg'⟩))
      | fail
      all_goals
        go_wp2_with fail
        go_ret
        exact ⟨by rw [HF.out]; rfl, by rw [HGW.out]; assumption⟩
    · have hne := beq_bs (trimL (bs v)) v
      rw [hc] at HC
      cases htr : decide (trimL (bs v) = bs v)
      all_goals
        have hfin : okE (bs n) (bs v) = if decide (trimL (bs v) = bs v) then 0 else 4 := by unfold okE okF; rw [ht, hc]; simp
        rw [htr] at hne hfin
        have HF := Lib.hid hfin
        clear hfin ht hc htr
        generalize trimL (bs v) = t at *
        go_enter Tryz.func82, Tryz.ntmps82
        go_wp2_with fail
        generalize w.alloc (.cells #[.string n, .string v] 84) = W0 at *
        generalize hgw : w.heap.size = g at *
        have HGW := Lib.hid hgw
        clear hgw
        first
        | go_region_with (first | (go_at_call 55; refine (keep_cell (HT.out _) ⟨g, 1, none⟩ _ (by assumption) (by assumption) (by assumption) (by assumption)).mono ?_; rintro e w' ⟨rfl, hb, hs, hc', hg'⟩) | (go_at_call 98; refine (keep_cell (HC.out _) ⟨g, 1, none⟩ _ (by assumption) (by assumption) (by assumption) (by assumption)).mono ?_; rintro e w' ⟨rfl, hb, hs, hc', hg'⟩) | (go_at_call 81; refine (keep_cell (HR.out _) ⟨g, 1, none⟩ _ (by assumption) (by assumption) (by assumption) (by assumption)).mono ?_; rintro e w' ⟨rfl, hb, hs, hc', hg'⟩))
        | fail
        all_goals
          go_wp2_with fail
          go_ret
          exact ⟨by rw [HF.out]; rfl, by rw [HGW.out]; assumption⟩
end Tk
end Go.Proofs.YtpcdaaijlgilkaaGreatDoor
namespace Go.Proofs.YtpcdaaijlgilkaaGreatDoor
open Go.RowKit
namespace Tk

def lnN (l : Bs) : Bs := if lineOk l then lineN l else []
def lnV (l : Bs) : Bs := if lineOk l then lineV l else []
def lnE (l : Bs) : Int := if lineOk l then 0 else 4
def LinePost (l : Bs) (w : World) (e : Ending) (w' : World) : Prop := e = .returned (.tuple #[.agg #[.string (mkS (lnN l)), .string (mkS (lnV l))], .int .i64 (lnE l)]) ∧ Below w.heap.size w w'
theorem ln_ok (l : Bs) (h : lineOk l = true) : lnN l = lineN l ∧ lnV l = lineV l ∧ lnE l = 0 := by unfold lnN lnV lnE; rw [h]; exact ⟨rfl, rfl, rfl⟩
theorem ln_no (l : Bs) (h : lineOk l = false) : lnN l = [] ∧ lnV l = [] ∧ lnE l = 4 := by unfold lnN lnV lnE; rw [h]; exact ⟨rfl, rfl, rfl⟩

theorem cut_len1 (c : UInt8) (l : Bs) : (cutL c l).1.length ≤ l.length := by
  unfold cutL
  split
  · exact (List.takeWhile_sublist (· != c) (l := l)).length_le
  · exact Nat.le_refl _
theorem cut_len2 (c : UInt8) (l : Bs) : (cutL c l).2.1.length ≤ l.length := by
  unfold cutL
  split
  · refine Nat.le_trans (by simp) ((List.dropWhile_sublist (· != c) (l := l)).length_le)
  · simp

/-- a block of two cells of the call's own, and what becomes of it -/
def Two (w : World) (g : Nat) (T : TypeId) (a b : Value) : Prop := w.heap[g]? = some (.cells #[a, b] T (0, 0))
theorem Two.new (w : World) (T : TypeId) (a b : Value) : Two (w.alloc (.cells #[a, b] T)) w.heap.size T a b := heap_alloc_last w _
theorem Two.later {w w' : World} {g : Nat} {T : TypeId} {a b : Value} (h : Two w g T a b) (hb : Below w.heap.size w w') : Two w' g T a b := by
  unfold Two at *
  have hlt : g < w.heap.size := (Array.getElem?_eq_some_iff.1 h).1
  rw [hb.block g hlt]; exact h
theorem Two.draws {w : World} {g : Nat} {T : TypeId} {a b : Value} (h : Two w g T a b) (n : Nat) : Two (w.drewN n) g T a b := h
theorem Two.lt {w : World} {g : Nat} {T : TypeId} {a b : Value} (h : Two w g T a b) : g < w.heap.size := (Array.getElem?_eq_some_iff.1 h).1
theorem Two.c0 {w : World} {g : Nat} {T : TypeId} {a b : Value} (h : Two w g T a b) : w.cell? ⟨g, 0, none⟩ = some a := by rw [Lib.cell_of_heap h]; rfl
theorem Two.c1 {w : World} {g : Nat} {T : TypeId} {a b : Value} (h : Two w g T a b) : w.cell? ⟨g, 1, none⟩ = some b := by rw [Lib.cell_of_heap h]; rfl
theorem Two.f0 {w : World} {g : Nat} {T : TypeId} {a b : Value} (h : Two w g T a b) : w.frozen? ⟨g, 0, none⟩ = false := Lib.frozen_of_heap h 0
theorem Two.f1 {w : World} {g : Nat} {T : TypeId} {a b : Value} (h : Two w g T a b) : w.frozen? ⟨g, 1, none⟩ = false := Lib.frozen_of_heap h 1

theorem Two.set {w : World} {g : Nat} {T : TypeId} {a b : Value} (h : Two w g T a b) (a' b' : Value) (o : Obj) :
    (((w.setCell ⟨g, 0, none⟩ a').setCell ⟨g, 1, none⟩ b').alloc o).cell? ⟨g, 0, none⟩ = some a' ∧ (((w.setCell ⟨g, 0, none⟩ a').setCell ⟨g, 1, none⟩ b').alloc o).cell? ⟨g, 1, none⟩ = some b' := by
  have hlt : g < ((w.setCell ⟨g, 0, none⟩ a').setCell ⟨g, 1, none⟩ b').heap.size := by simpa using h.lt
  have h1 : (w.setCell ⟨g, 0, none⟩ a').cell? ⟨g, 1, none⟩ = some b := by
    rw [World.cell?_setCell_other (w := w) (a := ⟨g, 0, none⟩) (b := ⟨g, 1, none⟩) (h := by intro e; injection e with _ e2; cases e2)]; exact h.c1
  constructor
  · rw [World.cell?_alloc_lt _ _ _ hlt, World.cell?_setCell_other (w := w.setCell ⟨g, 0, none⟩ a') (a := ⟨g, 1, none⟩) (b := ⟨g, 0, none⟩) (h := by intro e; injection e with _ e2; cases e2)]
    exact World.cell?_setCell_same _ _ _ h.c0
  · rw [World.cell?_alloc_lt _ _ _ hlt]
    exact World.cell?_setCell_same _ _ _ h1
theorem Two.put {w : World} {g : Nat} {T : TypeId} {a b : Value} (h : Two w g T a b) (a' b' : Value) :
    ((w.setCell ⟨g, 0, none⟩ a').setCell ⟨g, 1, none⟩ b').cell? ⟨g, 0, none⟩ = some a' ∧ ((w.setCell ⟨g, 0, none⟩ a').setCell ⟨g, 1, none⟩ b').cell? ⟨g, 1, none⟩ = some b' := by
  have h1 : (w.setCell ⟨g, 0, none⟩ a').cell? ⟨g, 1, none⟩ = some b := by
    rw [World.cell?_setCell_other (w := w) (a := ⟨g, 0, none⟩) (b := ⟨g, 1, none⟩) (h := by intro e; injection e with _ e2; cases e2)]; exact h.c1
  constructor
  · rw [World.cell?_setCell_other (w := w.setCell ⟨g, 0, none⟩ a') (a := ⟨g, 1, none⟩) (b := ⟨g, 0, none⟩) (h := by intro e; injection e with _ e2; cases e2)]
    exact World.cell?_setCell_same _ _ _ h.c0
  · exact World.cell?_setCell_same _ _ _ h1
theorem Two.below {w0 w : World} {B g : Nat} {T : TypeId} {a b : Value} (hb : Below B w0 w) (h : Two w g T a b) (hg : B ≤ g) (a' b' : Value) (o : Obj) : Below B w0 (((w.setCell ⟨g, 0, none⟩ a').setCell ⟨g, 1, none⟩ b').alloc o) :=
  ((hb.setCell (p := ⟨g, 0, none⟩) hg _).setCell (p := ⟨g, 1, none⟩) hg _).alloc (by have := h.lt; simp; omega) _

set_option maxHeartbeats 4000000 in
set_option maxRecDepth 100000 in
theorem line_no (s : ByteArray) (w : World) (hs : s.size ≤ 1099511627) (hc : (cutL 58 (bs s)).2.2 = false) :
    Calls Tryz.prog 67 #[.string s] w (LinePost (bs s) w) := by
  have HC := Lib.hid (fun W : World => cut_any s 58 W (by omega))
  unfold CutPost at HC
  rw [hc] at HC
  have hno : lineOk (bs s) = false := by unfold lineOk; rw [hc]; rfl
  obtain ⟨e1, e2, e3⟩ := ln_no _ hno
  have E1 := Lib.hid e1
  have E2 := Lib.hid e2
  have E3 := Lib.hid e3
  have l1 := cut_len1 58 (bs s)
  have l2 := cut_len2 58 (bs s)
  rw [length_bs] at l1 l2
  have HCl := Lib.hid (fun W : World => clone_any (mkS (cutL 58 (bs s)).1) W (by rw [size_mkS]; omega))
  have HTr := Lib.hid (fun W : World => trim_any (mkS (cutL 58 (bs s)).2.1) W (by rw [size_mkS]; omega))
  rw [bs_mkS] at HCl HTr
  have HN := Lib.hid (Two.new w 84 (.string ⟨#[]⟩) (.string ⟨#[]⟩))
  have HB0 := Lib.hid (show Below w.heap.size w (w.alloc (.cells #[.string ⟨#[]⟩, .string ⟨#[]⟩] 84)) from (Below.refl _ _).alloc (Nat.le_refl _) _)
  clear hc hno e1 e2 e3
  go_enter Tryz.func67, Tryz.ntmps67
  go_wp2_with fail
  generalize w.alloc (.cells #[.string ⟨#[]⟩, .string ⟨#[]⟩] 84) = W0 at *
  refine (HC.out _).mono ?_
  rintro e w' ⟨rfl, n, rfl⟩
  have HN1 := Lib.hid (HN.out.draws n)
  have HB1 := Lib.hid (HB0.out.trans (⟨rfl, rfl, rfl, Nat.le_refl _, fun _ _ => rfl⟩ : Below w.heap.size W0 (W0.drewN n)))
  go_wp2_with fail
  refine (HCl.out _).mono ?_
  rintro e w2 ⟨rfl, hb⟩
  have HN2 := Lib.hid (HN1.out.later hb)
  have HB2 := Lib.hid (HB1.out.trans (hb.mono HB1.out.size))
  clear hb
  go_wp2_with fail
  refine (HTr.out _).mono ?_
  rintro e w3 ⟨rfl, hb⟩
  have HN3 := HN2.out.later hb
  have HB3 := Lib.hid (HB2.out.trans (hb.mono HB2.out.size))
  have q0 := HN3.c0
  have q1 := HN3.c1
  have r0 := HN3.f0
  have r1 := HN3.f1
  have hlt := HN3.lt
  have HH := Lib.hid HN3
  clear hb HN3
  go_wp2_with fail
  obtain ⟨z0, z1⟩ := HH.out.set (.string ⟨#[]⟩) (.string ⟨#[]⟩) (Obj.cells #[.string (mkS (cutL 58 (bs s)).1), .string (mkS (trimL (cutL 58 (bs s)).2.1))] 84)
  refine bodyPost_ret (v := .tuple #[.agg #[.string ⟨#[]⟩, .string ⟨#[]⟩], .int .i64 4]) ?_ rfl ⟨?_, ?_⟩
  · simp [results, Tryz.results67, go_sem, z0, z1]
  · rw [E1.out, E2.out, E3.out]; rfl
  · exact Two.below HB3.out HH.out (Nat.le_refl _) _ _ _
set_option maxHeartbeats 4000000 in
set_option maxRecDepth 100000 in
theorem line_bad (s : ByteArray) (w : World) (hs : s.size ≤ 1099511627) (hc : (cutL 58 (bs s)).2.2 = true) (hk : okF (cutL 58 (bs s)).1 (trimL (cutL 58 (bs s)).2.1) = false) :
    Calls Tryz.prog 67 #[.string s] w (LinePost (bs s) w) := by
  have HC := Lib.hid (fun W : World => cut_any s 58 W (by omega))
  unfold CutPost at HC
  rw [hc] at HC
  have hlo : lineOk (bs s) = okF (cutL 58 (bs s)).1 (trimL (cutL 58 (bs s)).2.1) := by unfold lineOk; rw [hc]; rfl
  have l1 := cut_len1 58 (bs s)
  have l2 := cut_len2 58 (bs s)
  have l3 := trim_sublist (cutL 58 (bs s)).2.1
  rw [length_bs] at l1 l2
  have HCl := Lib.hid (fun W : World => clone_any (mkS (cutL 58 (bs s)).1) W (by rw [size_mkS]; omega))
  have HTr := Lib.hid (fun W : World => trim_any (mkS (cutL 58 (bs s)).2.1) W (by rw [size_mkS]; omega))
  have HCk := Lib.hid (fun W : World => check_any' (mkS (cutL 58 (bs s)).1) (mkS (trimL (cutL 58 (bs s)).2.1)) W (by rw [size_mkS]; omega) (by rw [size_mkS]; omega))
  rw [bs_mkS] at HCl HTr
  rw [bs_mkS, bs_mkS] at HCk
  have HN := Lib.hid (Two.new w 84 (.string ⟨#[]⟩) (.string ⟨#[]⟩))
  have HB0 := Lib.hid (show Below w.heap.size w (w.alloc (.cells #[.string ⟨#[]⟩, .string ⟨#[]⟩] 84)) from (Below.refl _ _).alloc (Nat.le_refl _) _)
  rw [okE_no _ _ hk] at HCk
  obtain ⟨e1, e2, e3⟩ := ln_no _ (hlo.trans hk)
  have E1 := Lib.hid e1
  have E2 := Lib.hid e2
  have E3 := Lib.hid e3
  clear hc hk hlo e1 e2 e3
  generalize trimL (cutL 58 (bs s)).2.1 = V at *
  generalize (cutL 58 (bs s)).1 = N at *
  go_enter Tryz.func67, Tryz.ntmps67
  go_wp2_with fail
  generalize w.alloc (.cells #[.string ⟨#[]⟩, .string ⟨#[]⟩] 84) = W0 at *
  refine (HC.out _).mono ?_
  rintro e w' ⟨rfl, n, rfl⟩
  have HN1 := Lib.hid (HN.out.draws n)
  have HB1 := Lib.hid (HB0.out.trans (⟨rfl, rfl, rfl, Nat.le_refl _, fun _ _ => rfl⟩ : Below w.heap.size W0 (W0.drewN n)))
  go_wp2_with fail
  refine (HCl.out _).mono ?_
  rintro e w2 ⟨rfl, hb⟩
  have HN2 := Lib.hid (HN1.out.later hb)
  have HB2 := Lib.hid (HB1.out.trans (hb.mono HB1.out.size))
  clear hb
  go_wp2_with fail
  refine (HTr.out _).mono ?_
  rintro e w3 ⟨rfl, hb⟩
  have HN3 := Lib.hid (HN2.out.later hb)
  have HB3 := Lib.hid (HB2.out.trans (hb.mono HB2.out.size))
  have hlt := HN3.out.lt
  clear hb
  have HF3 := Lib.hid (Two.new w3 84 (.string (mkS N)) (.string (mkS V)))
  have HN4 := Lib.hid (HN3.out.later ((Below.refl _ _).alloc (Nat.le_refl _) (Obj.cells #[.string (mkS N), .string (mkS V)] 84)))
  have HB4 := Lib.hid (HB3.out.alloc HB3.out.size (Obj.cells #[.string (mkS N), .string (mkS V)] 84))
  go_wp2_with fail
  generalize w3.alloc (Obj.cells #[.string (mkS N), .string (mkS V)] 84) = w4 at *
  generalize w3.heap.size = f at *
  refine (HCk.out _).mono ?_
  rintro e w5 ⟨rfl, hb⟩
  have HF5 := HF3.out.later hb
  have HN5 := HN4.out.later hb
  have HB5 := Lib.hid (HB4.out.trans (hb.mono HB4.out.size))
  have q0 := HN5.c0
  have q1 := HN5.c1
  have r0 := HN5.f0
  have r1 := HN5.f1
  have s0 := HF5.c0
  have s1 := HF5.c1
  have HH := Lib.hid HN5
  clear hb HN5 HF5
  go_wp2_with fail
  obtain ⟨z0, z1⟩ := HH.out.put (.string ⟨#[]⟩) (.string ⟨#[]⟩)
  refine bodyPost_ret (v := .tuple #[.agg #[.string ⟨#[]⟩, .string ⟨#[]⟩], .int .i64 4]) ?_ rfl ⟨?_, ?_⟩
  · simp [results, Tryz.results67, go_sem, z0, z1]
  · rw [E1.out, E2.out, E3.out]; rfl
  · exact (HB5.out.setCell (p := ⟨w.heap.size, 0, none⟩) (Nat.le_refl _) _).setCell (p := ⟨w.heap.size, 1, none⟩) (Nat.le_refl _) _

set_option maxHeartbeats 4000000 in
set_option maxRecDepth 100000 in
theorem line_yes (s : ByteArray) (w : World) (hs : s.size ≤ 1099511627) (hc : (cutL 58 (bs s)).2.2 = true) (hk : okF (cutL 58 (bs s)).1 (trimL (cutL 58 (bs s)).2.1) = true) :
    Calls Tryz.prog 67 #[.string s] w (LinePost (bs s) w) := by
  have HC := Lib.hid (fun W : World => cut_any s 58 W (by omega))
  unfold CutPost at HC
  rw [hc] at HC
  have hlo : lineOk (bs s) = okF (cutL 58 (bs s)).1 (trimL (cutL 58 (bs s)).2.1) := by unfold lineOk; rw [hc]; rfl
  have l1 := cut_len1 58 (bs s)
  have l2 := cut_len2 58 (bs s)
  have l3 := trim_sublist (cutL 58 (bs s)).2.1
  rw [length_bs] at l1 l2
  have HCl := Lib.hid (fun W : World => clone_any (mkS (cutL 58 (bs s)).1) W (by rw [size_mkS]; omega))
  have HTr := Lib.hid (fun W : World => trim_any (mkS (cutL 58 (bs s)).2.1) W (by rw [size_mkS]; omega))
  have HCk := Lib.hid (fun W : World => check_any' (mkS (cutL 58 (bs s)).1) (mkS (trimL (cutL 58 (bs s)).2.1)) W (by rw [size_mkS]; omega) (by rw [size_mkS]; omega))
  rw [bs_mkS] at HCl HTr
  rw [bs_mkS, bs_mkS] at HCk
  have HN := Lib.hid (Two.new w 84 (.string ⟨#[]⟩) (.string ⟨#[]⟩))
  have HB0 := Lib.hid (show Below w.heap.size w (w.alloc (.cells #[.string ⟨#[]⟩, .string ⟨#[]⟩] 84)) from (Below.refl _ _).alloc (Nat.le_refl _) _)
  rw [okE_ok _ _ hk] at HCk
  obtain ⟨e1, e2, e3⟩ := ln_ok _ (hlo.trans hk)
  have E1 := Lib.hid (show lnN (bs s) = (cutL 58 (bs s)).1 from e1)
  have E2 := Lib.hid (show lnV (bs s) = trimL (cutL 58 (bs s)).2.1 from e2)
  have E3 := Lib.hid e3
  clear hc hk hlo e1 e2 e3
  generalize trimL (cutL 58 (bs s)).2.1 = V at *
  generalize (cutL 58 (bs s)).1 = N at *
  go_enter Tryz.func67, Tryz.ntmps67
  go_wp2_with fail
  generalize w.alloc (.cells #[.string ⟨#[]⟩, .string ⟨#[]⟩] 84) = W0 at *
  refine (HC.out _).mono ?_
  rintro e w' ⟨rfl, n, rfl⟩
  have HN1 := Lib.hid (HN.out.draws n)
  have HB1 := Lib.hid (HB0.out.trans (⟨rfl, rfl, rfl, Nat.le_refl _, fun _ _ => rfl⟩ : Below w.heap.size W0 (W0.drewN n)))
  go_wp2_with fail
  refine (HCl.out _).mono ?_
  rintro e w2 ⟨rfl, hb⟩
  have HN2 := Lib.hid (HN1.out.later hb)
  have HB2 := Lib.hid (HB1.out.trans (hb.mono HB1.out.size))
  clear hb
  go_wp2_with fail
  refine (HTr.out _).mono ?_
  rintro e w3 ⟨rfl, hb⟩
  have HN3 := Lib.hid (HN2.out.later hb)
  have HB3 := Lib.hid (HB2.out.trans (hb.mono HB2.out.size))
  have hlt := HN3.out.lt
  clear hb
  have HF3 := Lib.hid (Two.new w3 84 (.string (mkS N)) (.string (mkS V)))
  have HN4 := Lib.hid (HN3.out.later ((Below.refl _ _).alloc (Nat.le_refl _) (Obj.cells #[.string (mkS N), .string (mkS V)] 84)))
  have HB4 := Lib.hid (HB3.out.alloc HB3.out.size (Obj.cells #[.string (mkS N), .string (mkS V)] 84))
  go_wp2_with fail
  generalize w3.alloc (Obj.cells #[.string (mkS N), .string (mkS V)] 84) = w4 at *
  generalize w3.heap.size = f at *
  refine (HCk.out _).mono ?_
  rintro e w5 ⟨rfl, hb⟩
  have HF5 := HF3.out.later hb
  have HN5 := HN4.out.later hb
  have HB5 := Lib.hid (HB4.out.trans (hb.mono HB4.out.size))
  have q0 := HN5.c0
  have q1 := HN5.c1
  have r0 := HN5.f0
  have r1 := HN5.f1
  have s0 := HF5.c0
  have s1 := HF5.c1
  have HH := Lib.hid HN5
  clear hb HN5 HF5
  go_wp2_with fail
  obtain ⟨z0, z1⟩ := HH.out.put (.string (mkS N)) (.string (mkS V))
  refine bodyPost_ret (v := .tuple #[.agg #[.string (mkS N), .string (mkS V)], .int .i64 0]) ?_ rfl ⟨?_, ?_⟩
  · simp [results, Tryz.results67, go_sem, z0, z1]
  · rw [E1.out, E2.out, E3.out]
  · exact (HB5.out.setCell (p := ⟨w.heap.size, 0, none⟩) (Nat.le_refl _) _).setCell (p := ⟨w.heap.size, 1, none⟩) (Nat.le_refl _) _

theorem line_any (s : ByteArray) (w : World) (hs : s.size ≤ 1099511627) :
    Calls Tryz.prog 67 #[.string s] w (LinePost (bs s) w) := by
  cases hc : (cutL 58 (bs s)).2.2
  · exact line_no s w hs hc
  · cases hk : okF (cutL 58 (bs s)).1 (trimL (cutL 58 (bs s)).2.1)
    · exact line_bad s w hs hc hk
    · exact line_yes s w hs hc hk
end Tk
end Go.Proofs.YtpcdaaijlgilkaaGreatDoor
namespace Go.Proofs.YtpcdaaijlgilkaaGreatDoor
open Go.RowKit
namespace Tk

theorem bldInfo : (Tryz.prog.info? 200).map (·.size) = some 2 := by kernel_rfl
theorem bldLies : liesAt Tryz.prog Tryz.prog.depth 200 (2 / Tryz.prog.cellsOf 200) 0 200 1 = true := by kernel_rfl

abbrev IsB (B b : Nat) (l : Bs) (w : World) : Prop := Lib.IsBuilder 200 5 B b (Lib.byteCells l) w

set_option maxHeartbeats 1000000 in
set_option maxRecDepth 100000 in
theorem check_used (b : Nat) (w : World) (h0 : w.cell? ⟨b, 0, none⟩ = some (.pointer (some ⟨b, 0, none⟩))) :
    Calls Tryz.prog 175 #[.pointer (some ⟨b, 0, none⟩)] w fun e w' => e = .returned (.tuple #[]) ∧ w' = w := by
  obtain ⟨j, hj, _⟩ := Option.map_eq_some_iff.1 bldInfo
  go_enter Tryz.func175, Tryz.ntmps175
  go_wp2_with fail
  rw [Lib.run_neq_ptr_same w _ Tryz.underlying198 hj]
  go_wp2_with fail
  go_end0
  exact ⟨rfl, rfl⟩

set_option maxHeartbeats 1000000 in
set_option maxRecDepth 100000 in
theorem check_fresh (b : Nat) (w : World) (h0 : w.cell? ⟨b, 0, none⟩ = some (.pointer none)) (hsh : w.shape? b = some (200, 2)) (hfz : w.frozen? ⟨b, 0, none⟩ = false) :
    Calls Tryz.prog 175 #[.pointer (some ⟨b, 0, none⟩)] w fun e w' => e = .returned (.tuple #[]) ∧ w' = w.setCell ⟨b, 0, none⟩ (.pointer (some ⟨b, 0, none⟩)) := by
  obtain ⟨j, hj, hjs⟩ := Option.map_eq_some_iff.1 bldInfo
  go_enter Tryz.func175, Tryz.ntmps175
  go_wp2_with fail
  rw [Lib.run_to_unsafe w ⟨b, 0, none⟩ Tryz.underlying198 Tryz.underlying207 hj (by rw [hjs]; decide) hsh (Nat.zero_lt_succ 1)]
  simp only [Result.andThen]
  rw [Oper.upon_value]
  go_wp2_with fail
  rw [run_callFunc_extern Tryz.func177 (by kernel_rfl) (by kernel_rfl) (by kernel_rfl) (e := Extern.AbiNoEscape.same) (by kernel_rfl)]
  rw [Lib.run_noEscape]
  simp only [Result.andThen]
  rw [Oper.upon_value]
  go_wp2_with fail
  rw [Lib.run_from_unsafe w ⟨b, 0, none⟩ Tryz.underlying207 Tryz.underlying198 hj hsh bldLies]
  simp only [Result.andThen]
  rw [Oper.upon_value]
  go_wp2_with fail
  go_end0
  exact ⟨rfl, rfl⟩

theorem check_any (B b : Nat) (l : Bs) (w : World) (h : IsB B b l w) :
    Calls Tryz.prog 175 #[.pointer (some ⟨b, 0, none⟩)] w fun e w' => e = .returned (.tuple #[]) ∧ (Lib.BuilderAt 200 5 B b (.pointer (some ⟨b, 0, none⟩)) (Lib.byteCells l) w' ∧ Below B w w') := by
  rcases h with h | h
  · refine (check_fresh b w h.cell0 h.shape h.frozen0).mono ?_
    rintro e w' ⟨rfl, rfl⟩
    exact ⟨rfl, h.used _, (Below.refl B w).setCell (p := ⟨b, 0, none⟩) h.1 _⟩
  · refine (check_used b w h.cell0).mono ?_
    rintro e w' ⟨rfl, rfl⟩
    exact ⟨rfl, h, Below.refl B _⟩

theorem byteInf : (Tryz.prog.info? 5).map (fun i => (i.zero, i.size, i.bytes)) = some (some (.int .u8 0), 1, 1) := by kernel_rfl

end Tk
end Go.Proofs.YtpcdaaijlgilkaaGreatDoor
namespace Go.Proofs.YtpcdaaijlgilkaaGreatDoor
open Go.RowKit
namespace Tk

theorem cells_str (l : Bs) (s : ByteArray) : Lib.byteCells (l ++ bs s) = Lib.byteCells l ++ Lib.strCells s := by
  simp [Lib.byteCells, Lib.strCells, bs]

/-- blocks other than b that hold no bytes stay -/
def Others (b : Nat) (w w' : World) : Prop := ∀ (k : Nat) (cs : Array Value) (T : TypeId) (fr : Nat × Nat), w.heap[k]? = some (.cells cs T fr) → T ≠ 5 → k ≠ b → w'.heap[k]? = some (.cells cs T fr)

theorem check_oth (B b : Nat) (l : Bs) (w : World) (h : IsB B b l w) :
    Calls Tryz.prog 175 #[.pointer (some ⟨b, 0, none⟩)] w fun e w' => e = .returned (.tuple #[]) ∧ Lib.BuilderAt 200 5 B b (.pointer (some ⟨b, 0, none⟩)) (Lib.byteCells l) w' ∧ Below B w w' ∧ ∀ k, k ≠ b → w'.heap[k]? = w.heap[k]? := by
  rcases h with h | h
  · refine (check_fresh b w h.cell0 h.shape h.frozen0).mono ?_
    rintro e w' ⟨rfl, rfl⟩
    exact ⟨rfl, h.used _, (Below.refl B w).setCell (p := ⟨b, 0, none⟩) h.1 _, fun k hk => Below.heap_setCell _ _ _ _ hk⟩
  · refine (check_used b w h.cell0).mono ?_
    rintro e w' ⟨rfl, rfl⟩
    exact ⟨rfl, h, Below.refl B _, fun _ _ => rfl⟩

set_option maxHeartbeats 2000000 in
set_option maxRecDepth 100000 in
theorem writeString (B b : Nat) (l : Bs) (s : ByteArray) (w : World) (h : IsB B b l w) (hlen : l.length + s.size ≤ 1099511627776) (hBw : B ≤ w.heap.size) :
    Calls Tryz.prog 173 #[.pointer (some ⟨b, 0, none⟩), .string s] w fun e w' => e = .returned (.tuple #[.int .i64 s.size, .nilIface]) ∧ IsB B b (l ++ bs s) w' ∧ Below B w w' ∧ Others b w w' := by
  obtain ⟨i0, hi, hz0, hz1, hz2⟩ := info_parts byteInf
  have hl : (Lib.byteCells l).length = l.length := by simp [Lib.byteCells]
  go_enter Tryz.func173, Tryz.ntmps173
  go_wp2_with fail
  refine (check_oth B b l _ h).mono ?_
  rintro e w1 ⟨rfl, h1, hb1, hk1⟩
  have HK1 := Lib.hid hk1
  clear hk1
  obtain ⟨hB, v, hbk, hown, hne⟩ := h1
  have c0 : w1.cell? ⟨b, 0, none⟩ = some (.pointer (some ⟨b, 0, none⟩)) := by rw [Lib.cell_of_heap hbk]; rfl
  have c1 : w1.cell? ⟨b, 1, none⟩ = some v := by rw [Lib.cell_of_heap hbk]; rfl
  go_wp2_with (at_builtin; refine Lib.wpList_append_own_string _ rfl _ _ 65 9 rfl B 5 i0 Tryz.underlying65 Tryz.underlying9 hi hz0 hz1 hz2 _ _ _ rfl hown s rfl ?c3 ?c4 ?c5 ?_)
  case c3 => unfold maxLen; omega
  case c4 => omega
  case c5 => have := hb1.size; omega
  intro v' w2 hown' hgrow _
  have hlt : b < w1.heap.size := by
    rcases Nat.lt_or_ge b w1.heap.size with h' | h'
    · exact h'
    · simp [Array.getElem?_eq_none h'] at hbk
  have hb2 : w2.heap[b]? = some (.cells #[.pointer (some ⟨b, 0, none⟩), v] 200 (0, 0)) := by
    rw [hgrow.block b hlt (fun e => hne e.symm)]
    exact hbk
  have d0 : w2.cell? ⟨b, 0, none⟩ = some (.pointer (some ⟨b, 0, none⟩)) := by rw [Lib.cell_of_heap hb2]; rfl
  have d1 : w2.cell? ⟨b, 1, none⟩ = some v := by rw [Lib.cell_of_heap hb2]; rfl
  have f1 : w2.frozen? ⟨b, 1, none⟩ = false := Lib.frozen_of_heap hb2 1
  obtain ⟨ao, n', cap, rfl⟩ : ∃ ao n' cap, v' = .slice ao n' cap := by
    rcases hown'.2 with ⟨hv, _⟩ | ⟨g, cap, cur, hv, _⟩
    · exact ⟨_, _, _, hv⟩
    · exact ⟨_, _, _, hv⟩
  go_wp2_with fail
  go_ret2
  refine ⟨rfl, .inr ?_, ?_, ?_⟩
  · rw [cells_str]
    exact Lib.BuilderAt.put (T := 200) (e := 5) hB hb2 (bs' := Lib.byteCells l ++ Lib.strCells s) (by simpa [hl, Lib.strCells_length] using hown') (by decide)
  · exact (hb1.grown hgrow (by have := hb1.size; omega) (fun k hk => (hown.lt k hk).1)).setCell (p := ⟨b, 1, none⟩) hB _
  · intro k cs T fr hk hT hne'
    have h1 : w1.heap[k]? = some (.cells cs T fr) := by rw [HK1.out k hne']; exact hk
    have hlt1 : k < w1.heap.size := (Array.getElem?_eq_some_iff.1 h1).1
    rw [Below.heap_setCell _ _ _ _ hne', hgrow.block k hlt1 (fun e => Lib.ownBlock_ne hown h1 hT e.symm)]
    exact h1
end Tk
end Go.Proofs.YtpcdaaijlgilkaaGreatDoor
namespace Go.Proofs.YtpcdaaijlgilkaaGreatDoor
open Go.RowKit
namespace Tk

/-- a slice that holds these fields -/
def IsFlds (w : World) (v : Value) (l : List (Bs × Bs)) : Prop :=
  ∃ (a : Option Addr) (c : Nat), v = .slice a l.length c ∧ l.length ≤ c ∧ ∀ j f, l[j]? = some f → ∃ b o, a = some ⟨b, o, none⟩ ∧ w.cell? ⟨b, o + j * 2, none⟩ = some (.string (mkS f.1)) ∧ w.cell? ⟨b, o + j * 2 + 1, none⟩ = some (.string (mkS f.2))
theorem cell_lt {w : World} {p : Addr} {v : Value} (h : w.cell? p = some v) : p.block < w.heap.size := by
  refine Nat.lt_of_not_le fun hle => ?_
  simp only [World.cell?, Array.getElem?_eq_none hle] at h
  cases h
theorem isFlds_below {w w' : World} {v : Value} {l : List (Bs × Bs)} (h : IsFlds w v l) (hb : Below w.heap.size w w') : IsFlds w' v l := by
  obtain ⟨a, c, rfl, hl, hc⟩ := h
  refine ⟨a, c, rfl, hl, fun j t hj => ?_⟩
  obtain ⟨b, o, rfl, h1, h2⟩ := hc j t hj
  exact ⟨b, o, rfl, (hb.cell (p := ⟨b, o + j * 2, none⟩) (cell_lt (p := ⟨b, o + j * 2, none⟩) h1)).trans h1, (hb.cell (p := ⟨b, o + j * 2 + 1, none⟩) (cell_lt (p := ⟨b, o + j * 2 + 1, none⟩) h2)).trans h2⟩

def sumF : List (Bs × Bs) → Nat
  | [] => 0
  | f :: t => f.1.length + f.2.length + 4 + sumF t
def linesF (l : List (Bs × Bs)) : Bs := l.flatMap bytesF
theorem bytesF_len (f : Bs × Bs) : (bytesF f).length = f.1.length + f.2.length + 4 := by
  unfold bytesF; simp only [List.length_append, List.length_cons, List.length_nil]; omega
theorem lines_len : ∀ l, (linesF l).length = sumF l
  | [] => rfl
  | f :: t => by
    have := lines_len t
    unfold linesF at *
    rw [List.flatMap_cons, List.length_append, this, bytesF_len, sumF]
theorem sumF_mem : ∀ (l : List (Bs × Bs)) (f : Bs × Bs), f ∈ l → f.1.length + f.2.length + 4 ≤ sumF l
  | g :: t, f, h => by
    unfold sumF
    rcases List.mem_cons.1 h with rfl | h
    · omega
    · have := sumF_mem t f h; omega
theorem sumF_take : ∀ (l : List (Bs × Bs)) (i : Nat), sumF (l.take i) ≤ sumF l
  | [], i => by simp
  | f :: t, 0 => by simp [sumF]
  | f :: t, i + 1 => by have := sumF_take t i; simp only [List.take_succ_cons, sumF]; omega

def byN (l : List (Bs × Bs)) : Bs := if okFs l then linesF l else []
def byE (l : List (Bs × Bs)) : Int := if okFs l then 0 else 4
def BytesPost (l : List (Bs × Bs)) (w : World) (e : Ending) (w' : World) : Prop := e = .returned (.tuple #[.string (mkS (byN l)), .int .i64 (byE l)]) ∧ Below w.heap.size w w'

theorem okFs_take_no (l : List (Bs × Bs)) (f : Bs × Bs) (h : f ∈ l) (hk : okF f.1 f.2 = false) : okFs l = false := by
  cases hh : okFs l
  · rfl
  · unfold okFs at hh
    rw [List.all_eq_true] at hh
    rw [hh f h] at hk; cases hk
theorem okFs_snoc (l : List (Bs × Bs)) (f : Bs × Bs) (h : okFs l = true) (hk : okF f.1 f.2 = true) : okFs (l ++ [f]) = true := by
  unfold okFs at *
  rw [List.all_append, h]; simp [hk]
theorem lines_snoc (l : List (Bs × Bs)) (f : Bs × Bs) : linesF (l ++ [f]) = linesF l ++ f.1 ++ [58, 32] ++ f.2 ++ [13, 10] := by
  unfold linesF bytesF; simp

theorem own_keep {w w' : World} {B : Nat} {v : Value} {n : Nat} {xs : List Value} {e : TypeId} (h : w.ownsRow B e 1 v n xs) (hb : Below w.heap.size w w') : w'.ownsRow B e 1 v n xs :=
  World.ownsRow.kept h (row := none) ⟨hb.os, hb.tape, hb.output, hb.size, fun k hk _ => hb.block k hk⟩ (by cases h : v.ownBlock <;> simp)
theorem at_below {w w' : World} {B b : Nat} {p : Value} {xs : List Value} (h : Lib.BuilderAt 200 5 B b p xs w) (hb : Below w.heap.size w w') : Lib.BuilderAt 200 5 B b p xs w' := by
  have hlt := h.lt
  obtain ⟨hB, v, h1, h2, h3⟩ := h
  exact ⟨hB, v, by rw [hb.block b hlt]; exact h1, own_keep h2 hb, h3⟩
theorem isB_below {w w' : World} {B b : Nat} {l : Bs} (h : IsB B b l w) (hb : Below w.heap.size w w') : IsB B b l w' := by
  rcases h with h | h
  · exact .inl (at_below h hb)
  · exact .inr (at_below h hb)
theorem isB_lt {w : World} {B b : Nat} {l : Bs} (h : IsB B b l w) : b < w.heap.size := by
  rcases h with h | h <;> exact h.lt
theorem Two.others {w w' : World} {g b : Nat} {T : TypeId} {x y : Value} (h : Two w g T x y) (ho : Others b w w') (hT : T ≠ 5) (hg : g ≠ b) : Two w' g T x y := ho g _ _ _ h hT hg

end Tk
end Go.Proofs.YtpcdaaijlgilkaaGreatDoor
namespace Go.Proofs.YtpcdaaijlgilkaaGreatDoor
open Go.RowKit
namespace Tk

def fcells (l : List (Bs × Bs)) : List Value := l.flatMap fun f => [.string (mkS f.1), .string (mkS f.2)]
theorem fcells_len : ∀ l, (fcells l).length = l.length * 2
  | [] => rfl
  | f :: t => by
    have := fcells_len t
    unfold fcells at *
    rw [List.flatMap_cons, List.length_append, this]; simp; omega
theorem fcells_app (a b : List (Bs × Bs)) : fcells (a ++ b) = fcells a ++ fcells b := by simp [fcells]
theorem fcells_at : ∀ (l : List (Bs × Bs)) (j : Nat) (u : Value), (fcells l)[j]? = some u → ∃ i f, l[i]? = some f ∧ ((j = i * 2 ∧ u = .string (mkS f.1)) ∨ (j = i * 2 + 1 ∧ u = .string (mkS f.2)))
  | [], j, u, h => by simp [fcells] at h
  | f :: t, 0, u, h => by
    simp [fcells] at h
    exact ⟨0, f, rfl, .inl ⟨rfl, h.symm⟩⟩
  | f :: t, 1, u, h => by
    simp [fcells] at h
    exact ⟨0, f, rfl, .inr ⟨rfl, h.symm⟩⟩
  | f :: t, j + 2, u, h => by
    have h2 : (fcells t)[j]? = some u := by
      unfold fcells at *
      rw [List.flatMap_cons] at h
      simpa using h
    obtain ⟨i, g, hg, hj⟩ := fcells_at t j u h2
    refine ⟨i + 1, g, by simpa using hg, ?_⟩
    rcases hj with ⟨hj, hu⟩ | ⟨hj, hu⟩
    · exact .inl ⟨by omega, hu⟩
    · exact .inr ⟨by omega, hu⟩
theorem fcells_get : ∀ (l : List (Bs × Bs)) (j : Nat) (f : Bs × Bs), l[j]? = some f → (fcells l)[j * 2]? = some (.string (mkS f.1)) ∧ (fcells l)[j * 2 + 1]? = some (.string (mkS f.2))
  | [], j, f, h => by simp at h
  | g :: t, 0, f, h => by
    simp at h; subst h
    exact ⟨by simp [fcells], by simp [fcells]⟩
  | g :: t, j + 1, f, h => by
    have := fcells_get t j f (by simpa using h)
    unfold fcells at *
    rw [List.flatMap_cons, show (j + 1) * 2 = j * 2 + 2 by omega]
    constructor
    · simpa using this.1
    · simpa using this.2
theorem fcells_one (l : List (Bs × Bs)) : ∀ u ∈ fcells l, u.oneCell' = true := by
  intro u hu
  unfold fcells at hu
  rw [List.mem_flatMap] at hu
  obtain ⟨f, -, hf⟩ := hu
  simp at hf
  rcases hf with rfl | rfl <;> rfl

theorem fldInfo : (Tryz.prog.info? 84).map (fun i => (i.zero, i.size, i.bytes)) = some (some (.agg #[.string .empty, .string .empty]), 2, 32) := by kernel_rfl

theorem below_of_grownF {a b : World} {B : Nat} {v : Value} {n : Nat} {xs : List Value} {e : TypeId} (h : a.grownBy b v.ownBlock) (ho : a.ownsRow B e 2 v n xs) (hB : B ≤ a.heap.size) : Below B a b :=
  (Below.refl B a).grown h hB fun k hk => (ho.lt k hk).1

set_option maxRecDepth 100000 in
theorem joinF_run (w : World) (o : Oper) (a : Act) (K : Act → World → Prop) (Q : Exit → Act → World → Prop) (s x : Operand)
    (ho : o.op = .call { callee := .builtin .append, args := #[s, x], argTypes := #[30, 30] })
    (base : Nat) (v v2 : Value) (P R : List (Bs × Bs)) (hs : a.eval s = v) (hx : a.eval x = v2) (h1 : w.ownsRow base 84 2 v P.length (fcells P)) (h2 : IsFlds w v2 R) (hnl : ∀ n c, v2 = .slice none n c → c = 0)
    (hB : base ≤ w.heap.size) (hP : P.length ≤ 1048576) (hR : R.length ≤ 1048576)
    (h : ∀ v' w', w'.ownsRow base 84 2 v' (P ++ R).length (fcells (P ++ R)) → w.grownBy w' v.ownBlock → K (a.put o.dst v') w') : o.wp Tryz.prog a w K Q := by
  obtain ⟨i0, hi, hz0, hz1, hz2⟩ := info_parts fldInfo
  obtain ⟨ad, cap, rfl, hcap, hc⟩ := h2
  rcases ad with _ | ad
  · have hR0 : R = [] := by
      cases R with
      | nil => rfl
      | cons f t => obtain ⟨b, o, e, -⟩ := hc 0 f rfl; cases e
    subst hR0
    have hcap0 := hnl _ _ rfl
    subst hcap0
    have hrun := run_append_owned_none (P := Tryz.prog) (w := w) base 30 o.type 84 i0 2 Tryz.underlying30 hi v P.length (fcells P) h1
    unfold Oper.wp
    simp only [List.length_nil] at hx
    simp [execOp, ho, resolve, invoke, builtin, hs, hx, hrun, Result.andThen]
    exact h v w (by simpa using h1) ⟨rfl, rfl, rfl, Nat.le_refl _, fun _ _ _ => rfl⟩
  · refine wp_append_own (P := Tryz.prog) w s x 30 ho base 84 i0 (.agg #[.string .empty, .string .empty]) 2 32 Tryz.underlying30 hi hz0 hz1 hz2 rfl (by decide) v P.length (fcells P) hs h1 ad R.length cap (fcells R) hx (fcells_len R)
      (fun j u hj => ?_) (fcells_one R) (by unfold maxLen; omega) (by omega) hB ?_
    · obtain ⟨i, f, hf, hju⟩ := fcells_at R j u hj
      obtain ⟨b, o, e, g0, g1⟩ := hc i f hf
      injection e with e
      subst e
      rw [Go.WideShapes.add_plain]
      rcases hju with ⟨rfl, rfl⟩ | ⟨rfl, rfl⟩
      · exact g0
      · rw [← Nat.add_assoc]; exact g1
    · intro v' w' ho' hg' _
      refine h v' w' ?_ hg'
      rw [List.length_append, fcells_app]
      exact ho'

theorem joinF_guarded {ops : Array Oper} {rest : List Oper} {w : World} {o : Oper} {a : Act} {Q : Exit → Act → World → Prop} (hw : Region.wanted o (yielded ops a.tmps) = true) (s x : Operand)
    (ho : o.op = .call { callee := .builtin .append, args := #[s, x], argTypes := #[30, 30] })
    (base : Nat) (v v2 : Value) (P R : List (Bs × Bs)) (hs : a.eval s = v) (hx : a.eval x = v2) (h1 : w.ownsRow base 84 2 v P.length (fcells P)) (h2 : IsFlds w v2 R) (hnl : ∀ n c, v2 = .slice none n c → c = 0)
    (hB : base ≤ w.heap.size) (hP : P.length ≤ 1048576) (hR : R.length ≤ 1048576)
    (h : ∀ v' w', w'.ownsRow base 84 2 v' (P ++ R).length (fcells (P ++ R)) → w.grownBy w' v.ownBlock → wpList Tryz.prog ops Q rest (a.put o.dst v') w') : wpList Tryz.prog ops Q (o :: rest) a w :=
  BigFrame.wpList_want hw fun K hK => joinF_run w o a K Q s x ho base v v2 P R hs hx h1 h2 hnl hB hP hR fun v' w' a b => hK _ _ (h v' w' a b)

theorem isFlds_own {w : World} {base : Nat} {v : Value} {l : List (Bs × Bs)} (h : w.ownsRow base 84 2 v l.length (fcells l)) : IsFlds w v l := by
  rcases h.2 with ⟨hv, hn⟩ | ⟨g, cap, cur, hv, hb, hg, hcap, -⟩
  · exact ⟨none, 0, by rw [hv, hn], by omega, fun j t hj => by simp [List.eq_nil_of_length_eq_zero hn] at hj⟩
  · refine ⟨some ⟨g, 0, none⟩, cap, hv, hcap, fun j f hj => ⟨g, 0, rfl, ?_, ?_⟩⟩
    · have := h.cells (g := g) (by rw [hv]; rfl) (j * 2) (.string (mkS f.1)) (fcells_get l j f hj).1
      rw [Go.WideShapes.add_plain] at this
      exact this
    · have := h.cells (g := g) (by rw [hv]; rfl) (j * 2 + 1) (.string (mkS f.2)) (fcells_get l j f hj).2
      rw [Go.WideShapes.add_plain, ← Nat.add_assoc] at this
      exact this

end Tk
end Go.Proofs.YtpcdaaijlgilkaaGreatDoor
