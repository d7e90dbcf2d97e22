/- Tok0 Base Cln Kin All Small0 Fld0 Num0 Sta0 Sta1 TkA StaA StaB Cut StaC StaD StaE FldA Trm TokA Num, put together. -/
import Derived.Lib.SlTrimSet
import Derived.Lib.Strings
import Derived.Test.YtdlbmfgajgefdaaGreatDoorRows
import Derived.WalkKit
import Derived.WalkSpells
import Derived.WalkLawsBesides
import Derived.Lib.Hide
import Derived.Test.YtdlbmfgajgefdaaGreatDoorShelf
import Derived.BigQuiet
import Derived.Deep.QuietTactic
import Derived.IntWalk
import Derived.OwnWalk
import Derived.Handy
import Derived.Great.BuildSlice
import Derived.Deep.WholeRow
import Derived.Lib.Bytealg
import Derived.Shelf.RegionOpenPlain
import Derived.Shelf.Strings.SlTrimAscii
namespace Go.Proofs.YtdlbmfgajgefdaaGreatDoor
namespace Tk

abbrev Bs := List UInt8
def mkS (l : Bs) : ByteArray := ⟨l.toArray⟩
def bs (s : ByteArray) : Bs := s.data.toList
@[simp] theorem bs_mkS (l : Bs) : bs (mkS l) = l := rfl
@[simp] theorem mkS_bs (s : ByteArray) : mkS (bs s) = s := by cases s; rfl
theorem size_mkS (l : Bs) : (mkS l).size = l.length := by show l.toArray.size = _; simp
theorem length_bs (s : ByteArray) : (bs s).length = s.size := Array.length_toList
theorem mkS_inj {a b : Bs} (h : mkS a = mkS b) : a = b := by have := congrArg bs h; simpa using this

theorem mkS_append (a b : Bs) : mkS a ++ mkS b = mkS (a ++ b) := by
  apply ByteArray.ext
  apply Array.ext'
  rw [ByteArray.data_append]
  simp [mkS]
def trimL (l : Bs) : Bs := Lib.trimS l [32, 9]

theorem getD_bs (s : ByteArray) (k : Nat) (h : k < s.size) : (bs s).getD k 0 = s[k] := by
  have h' : k < (bs s).length := by rw [length_bs]; exact h
  rw [List.getD, List.getElem?_eq_getElem h']
  rfl
theorem u8_is (c : UInt8) (n : Nat) (hn : n < 256) (h : ((c.toNat : Int) == (n : Int)) = true) : c = UInt8.ofNat n := by
  rw [beq_iff_eq] at h
  apply UInt8.toNat_inj.1
  rw [UInt8.toNat_ofNat']; omega
theorem u8_not (c : UInt8) (n : Nat) (h : ((c.toNat : Int) == (n : Int)) = false) (hn : n < 256) : c ≠ UInt8.ofNat n := by
  rw [beq_eq_false_iff_ne] at h
  intro e
  subst e
  rw [UInt8.toNat_ofNat'] at h
  omega

theorem toList_bs (s : ByteArray) : s.toList = bs s := ByteArray.toList_eq s
theorem bs_extract (s : ByteArray) (a b : Nat) : bs (s.extract a b) = ((bs s).drop a).take (b - a) := Lib.extract_data s a b
theorem extract_mkS (s : ByteArray) (a b : Nat) : s.extract a b = mkS (((bs s).drop a).take (b - a)) := by rw [← bs_extract, mkS_bs]

/-- from behind a quote: how far to the one that closes -/
def closeLen : Bs → Nat
  | [] => 0
  | [c] => if c = 92 then 2 else if c = 34 then 0 else 1
  | c :: d :: t => if c = 92 then 2 + closeLen t else if c = 34 then 0 else 1 + closeLen (d :: t)

/-- the pieces between commas; mode 0: outside quotes, 1: inside, 2: behind a backslash -/
def spl : Nat → Bs → Bs → List Bs
  | _, cur, [] => [cur]
  | 0, cur, c :: t => if c = 44 then cur :: spl 0 [] t else if c = 34 then spl 1 (cur ++ [c]) t else spl 0 (cur ++ [c]) t
  | 1, cur, c :: t => if c = 92 then spl 2 (cur ++ [c]) t else if c = 34 then spl 0 (cur ++ [c]) t else spl 1 (cur ++ [c]) t
  | _ + 2, cur, c :: t => spl 1 (cur ++ [c]) t

def addP (t : Bs) : List Bs := if t = [] then [] else [t]
def parts (l : List Bs) : List Bs := l.flatMap fun p => addP (trimL p)
def splitL (l : Bs) : List Bs := parts (spl 0 [] l)

theorem parts_cons (p : Bs) (l : List Bs) : parts (p :: l) = addP (trimL p) ++ parts l := by simp [parts]
theorem parts_one (p : Bs) : parts [p] = addP (trimL p) := by simp [parts]

theorem spl_close : ∀ (r cur : Bs), spl 1 cur r = spl 0 (cur ++ r.take (closeLen r + 1)) (r.drop (closeLen r + 1))
  | [], cur => by simp [spl]
  | [c], cur => by
    by_cases h : c = 92
    · subst h; simp [spl, closeLen]
    · by_cases h2 : c = 34
      · subst h2; simp [spl, closeLen]
      · simp [spl, closeLen, h, h2]
  | c :: d :: t, cur => by
    by_cases h : c = 92
    · subst h
      have ih := spl_close t (cur ++ [92] ++ [d])
      simp only [spl, closeLen, if_true]
      rw [ih]
      simp [Nat.add_comm 2, List.take_succ_cons, List.drop_succ_cons]
    · by_cases h2 : c = 34
      · subst h2; simp [spl, closeLen]
      · have ih := spl_close (d :: t) (cur ++ [c])
        rw [spl, if_neg h, if_neg h2, ih]
        simp only [closeLen, if_neg h, if_neg h2]
        simp [Nat.add_comm 1, List.take_succ_cons, List.drop_succ_cons]

theorem drop_cons (l : Bs) (i : Nat) (h : i < l.length) : l.drop i = l.getD i 0 :: l.drop (i + 1) := by
  rw [List.drop_eq_getElem_cons h]; simp [List.getD, h]
theorem take_snoc (l : Bs) (i : Nat) (h : i < l.length) : l.take (i + 1) = l.take i ++ [l.getD i 0] := by
  rw [List.take_succ_eq_append_getElem h]; simp [List.getD, h]

theorem closeLen_bs (r : Bs) (h : r = 92 :: r.tail) : closeLen r = 2 + closeLen (r.drop 2) := by
  match r, h with
  | [c], h => simp at h; subst h; simp [closeLen]
  | c :: d :: t, h => simp at h; subst h; simp [closeLen]
theorem closeLen_q (t : Bs) : closeLen (34 :: t) = 0 := by cases t <;> simp [closeLen]
theorem closeLen_o (c : UInt8) (t : Bs) (h : c ≠ 92) (h2 : c ≠ 34) : closeLen (c :: t) = 1 + closeLen t := by
  cases t with
  | nil => simp [closeLen, h, h2]
  | cons d t => simp [closeLen, h, h2]

theorem closeLen_le : ∀ r : Bs, closeLen r ≤ r.length + 1
  | [] => by simp [closeLen]
  | [c] => by simp only [closeLen, List.length_singleton]; split; omega; split <;> omega
  | c :: d :: t => by
    have h1 := closeLen_le t
    have h2 := closeLen_le (d :: t)
    simp only [closeLen, List.length_cons] at *
    split; omega; split <;> omega

/-- what the search for pieces holds at place i: the pieces found, and the piece begun at b -/
def splAt (l : Bs) (b i : Nat) : List Bs := parts (spl 0 ((l.take i).drop b) (l.drop i))
theorem splAt_start (l : Bs) : splitL l = splAt l 0 0 := by simp [splAt, splitL]
theorem splAt_end (l : Bs) (b i : Nat) (h : l.length ≤ i) : splAt l b i = addP (trimL (l.drop b)) := by
  unfold splAt
  rw [List.take_of_length_le h, List.drop_eq_nil_of_le h, spl, parts_one]
theorem splAt_comma (l : Bs) (b i : Nat) (hi : i < l.length) (hc : l.getD i 0 = 44) : splAt l b i = addP (trimL ((l.drop b).take (i - b))) ++ splAt l (i + 1) (i + 1) := by
  unfold splAt
  rw [drop_cons l i hi, hc, spl, if_pos rfl, parts_cons, List.drop_take, List.drop_take, Nat.sub_self, List.take_zero]
theorem splAt_other (l : Bs) (b i : Nat) (hi : i < l.length) (hb : b ≤ i) (h1 : l.getD i 0 ≠ 44) (h2 : l.getD i 0 ≠ 34) : splAt l b i = splAt l b (i + 1) := by
  unfold splAt
  rw [drop_cons l i hi, spl, if_neg h1, if_neg h2, take_snoc l i hi, List.drop_append_of_le_length (by rw [List.length_take]; omega)]
theorem splAt_quote (l : Bs) (b i : Nat) (hi : i < l.length) (hb : b ≤ i) (hc : l.getD i 0 = 34) : splAt l b i = splAt l b (i + 1 + closeLen (l.drop (i + 1)) + 1) := by
  unfold splAt
  rw [drop_cons l i hi, hc, spl, if_neg (by decide), if_pos rfl, spl_close, List.drop_drop]
  rw [show i + 1 + closeLen (l.drop (i + 1)) + 1 = i + 1 + (closeLen (l.drop (i + 1)) + 1) by omega]
  generalize closeLen (l.drop (i + 1)) + 1 = K
  rw [List.take_add (i := i + 1), take_snoc l i hi, hc, List.append_assoc (l.take i), List.drop_append_of_le_length (by rw [List.length_take]; omega), List.append_assoc]

def lowB (c : UInt8) : UInt8 := if 65 ≤ c.toNat ∧ c.toNat ≤ 90 then c + 32 else c
def lowL (l : Bs) : Bs := l.map lowB
theorem lowB_up (c : UInt8) (h0 : 65 ≤ c.toNat) (h1 : c.toNat ≤ 90) : ((lowB c).toNat : Int) = (c.toNat : Int) - 65 + 97 := by
  unfold lowB; rw [if_pos ⟨h0, h1⟩, UInt8.toNat_add]
  have : (32 : UInt8).toNat = 32 := rfl
  omega
theorem lowB_same (c : UInt8) (h : ¬ (65 ≤ c.toNat ∧ c.toNat ≤ 90)) : lowB c = c := by unfold lowB; rw [if_neg h]
theorem lowB_lowB (c : UInt8) : lowB (lowB c) = lowB c := by
  by_cases h : 65 ≤ c.toNat ∧ c.toNat ≤ 90
  · have := lowB_up c h.1 h.2
    exact lowB_same _ (by omega)
  · rw [lowB_same c h, lowB_same c h]
theorem lowL_lowL (l : Bs) : lowL (lowL l) = lowL l := by unfold lowL; rw [List.map_map]; exact List.map_congr_left fun c _ => lowB_lowB c
theorem length_lowL (l : Bs) : (lowL l).length = l.length := by simp [lowL]
def hasQ (l : Bs) : Bool := l.contains 34

theorem trim_sublist (l : Bs) : (trimL l).length ≤ l.length := by
  have dw : ∀ (p : UInt8 → Bool) (l : Bs), (l.dropWhile p).length ≤ l.length := fun p l => by
    induction l with
    | nil => simp
    | cons a t ih => rw [List.dropWhile_cons]; split; exact Nat.le_succ_of_le ih; exact Nat.le_refl _
  unfold trimL Lib.trimS Lib.trimLeftS Lib.trimRightS
  refine Nat.le_trans (dw _ _) ?_
  rw [List.length_reverse]
  exact Nat.le_trans (dw _ _) (by rw [List.length_reverse]; exact Nat.le_refl _)

def closing (l : Bs) (i : Nat) : Nat := i + 1 + closeLen (l.drop (i + 1))
theorem bs_head (s : ByteArray) (h : 0 < s.size) : (bs s).head? = some s[0] := by
  rw [List.head?_eq_getElem?, List.getElem?_eq_getElem (by rw [length_bs]; exact h)]; rfl
theorem bs_drop (s : ByteArray) (i : Nat) (h : i < s.size) : (bs s).drop i = s[i] :: (bs s).drop (i + 1) := by
  rw [List.drop_eq_getElem_cons (by rw [length_bs]; exact h)]; rfl
theorem empty_of (s : ByteArray) (h : s.size = 0) : s.toList.isEmpty = true := by
  rw [toList_bs, List.isEmpty_iff, ← List.length_eq_zero_iff, length_bs]; exact h
theorem not_empty_of (s : ByteArray) (h : 0 < s.size) : s.toList.isEmpty = false := by
  rw [toList_bs]
  cases e : bs s with
  | nil => have := length_bs s; rw [e] at this; simp at this; omega
  | cons c t => rfl
end Tk
end Go.Proofs.YtdlbmfgajgefdaaGreatDoor

namespace Go.Proofs.YtdlbmfgajgefdaaGreatDoor
open Go.RowKit
namespace Tk

def StrPost (text : Bs) (w : World) (r : Ending) (w' : World) : Prop := r = .returned (.string (mkS text)) ∧ Below w.heap.size w w'

set_option maxHeartbeats 400000 in
theorem clone_any (s : ByteArray) (w : World) (h : s.size ≤ 1099511627776) :
    Calls Tryz.prog 52 #[.string s] w (StrPost (bs s) w) := by
  have H := Lib.hid (Tryz.stringslite_Clone s w (by omega))
  go_enter Tryz.func52, Tryz.ntmps52
  go_wp2_with fail
  refine H.out.mono ?_
  rintro e w' ⟨rfl, hb⟩
  have HB := Lib.hid hb
  clear hb
  go_wp2_with fail
  go_ret
  exact ⟨by rw [mkS_bs]; rfl, HB.out⟩
end Tk
end Go.Proofs.YtdlbmfgajgefdaaGreatDoor
namespace Go.Proofs.YtdlbmfgajgefdaaGreatDoor
open Go.RowKit
namespace Tk

/-- the kind of each byte, by ranges -/
def kindOf (c : Nat) : Int :=
  if c = 9 then 1 else if c < 32 then 0 else if 128 ≤ c then 1 else if c = 127 then 0
  else if [32, 34, 40, 41, 44, 47, 58, 59, 60, 61, 62, 63, 64, 91, 92, 93, 123, 125].contains c then 1 else 2
def kindL : List Int := (List.range 256).map kindOf

/-- 256 kinds, none said -/
def zk : Array Value := Array.replicate 256 (.int .u8 0)
theorem kind_zero (w : World) : (zeroValue 134).run Tryz.prog w = .ok (.agg zk) w := by kernel_rfl

set_option maxHeartbeats 1000000 in
set_option maxRecDepth 100000 in
theorem kinds_any (w : World) :
    Calls Tryz.prog 124 #[] w fun e w' => e = .returned (.agg (kindL.map (Value.int .u8)).toArray) ∧ Below w.heap.size w w' := by
  have hzk := kind_zero
  go_enter Tryz.func124, Tryz.ntmps124
  go_wp2_with (refine wpList_buildFlatArrTo rfl 134 105 256 _ rfl .u8 kindL (some 1) rfl (by kernel_rfl) (by kernel_rfl) (by kernel_rfl) (by kernel_rfl) ?_)
  have hld := run_loadVar_new (P := Tryz.prog) w 134 (kindL.map (Value.int .u8)).toArray 256 105 Tryz.underlying134 (by kernel_rfl)
  first
  | simp only [Result.andThen, run_storeCells_new (P := Tryz.prog) w 134 zk (kindL.map (Value.int .u8)).toArray (by kernel_rfl) (by kernel_rfl) (by kernel_rfl)]
  | simp only [Result.andThen, run_storeCells_new (P := Tryz.prog) w 134 Tryz.zeroCells134 (kindL.map (Value.int .u8)).toArray (by kernel_rfl) (by kernel_rfl) (by kernel_rfl)]
  rw [Oper.upon_skip]
  go_wp2_with fail
  refine bodyPost_ret (v := .agg (kindL.map (Value.int .u8)).toArray) ?_ rfl ⟨rfl, (Below.refl _ _).alloc (Nat.le_refl _) _⟩
  exact results_cell_row rfl _ _ w.heap.size 134 _ (0, 0) _ rfl (heap_alloc_last w _) Tryz.underlying134 rfl (by kernel_rfl)
end Tk
end Go.Proofs.YtdlbmfgajgefdaaGreatDoor
namespace Go.Proofs.YtdlbmfgajgefdaaGreatDoor
open Go.RowKit
namespace Tk

def allL (k : Int) (l : Bs) : Bool := l.all fun c => decide (k ≤ kindOf c.toNat)

theorem allL_cons (k : Int) (c : UInt8) (t : Bs) : allL k (c :: t) = (decide (k ≤ kindOf c.toNat) && allL k t) := rfl
theorem allL_append (k : Int) (a b : Bs) : allL k (a ++ b) = (allL k a && allL k b) := by unfold allL; rw [List.all_append]
theorem k92 : decide (1 ≤ kindOf (92 : UInt8).toNat) = true := by decide
theorem k34 : decide (1 ≤ kindOf (34 : UInt8).toNat) = true := by decide

theorem kindL_size : (kindL.map (Value.int .u8)).toArray.size = 256 := by kernel_rfl
theorem kindL_one : (kindL.map (Value.int .u8)).toArray.all (·.oneCell') = true := by kernel_rfl
theorem kindL_at (c : UInt8) : (kindL.map (Value.int .u8)).toArray[c.toNat]? = some (.int .u8 (kindOf c.toNat)) := by
  have h : c.toNat < 256 := c.toNat_lt
  simp [kindL, h]

set_option maxHeartbeats 1000000 in
set_option maxRecDepth 100000 in
theorem all_any (s : ByteArray) (k : Int) (w : World) (hs : s.size ≤ 1099511627776) :
    Calls Tryz.prog 89 #[.string s, .int .u8 k] w fun e w' => e = .returned (.bool (allL k (bs s))) ∧ Below w.heap.size w w' := by
  have hks := kindL_size
  have hk1 := kindL_one
  have hka := Lib.hid kindL_at
  have HK := Lib.hid (kinds_any w)
  generalize (kindL.map (Value.int .u8)).toArray = ks at *
  have hzk := kind_zero
  go_enter Tryz.func89, Tryz.ntmps89
  go_wp2_with fail
  refine HK.out.mono ?_
  rintro e w1 ⟨rfl, hb⟩
  have HB := Lib.hid hb
  clear hb
  go_wp2_with fail
  first
  | simp only [Result.andThen, run_storeCells_new (P := Tryz.prog) w1 134 zk ks (by rw [hks]; kernel_rfl) (by rw [hks]; kernel_rfl) hk1]
  | simp only [Result.andThen, run_storeCells_new (P := Tryz.prog) w1 134 Tryz.zeroCells134 ks (by rw [hks]; kernel_rfl) (by rw [hks]; kernel_rfl) hk1]
  rw [Oper.upon_skip]
  have hcell : ∀ c : UInt8, (w1.alloc (Obj.cells ks 134)).cell? ⟨w1.heap.size, c.toNat, none⟩ = some (.int .u8 (kindOf c.toNat)) := fun c => by
    rw [Lib.cell_of_heap (heap_alloc_last w1 _)]; exact hka.out c
  have HC := Lib.hid hcell
  have HB2 := Lib.hid ((HB.out).alloc HB.out.size (Obj.cells ks 134))
  clear hcell hka hks hk1 HK hzk
  generalize hW : w1.alloc (Obj.cells ks 134) = W at *
  clear hW
  generalize w1.heap.size = g at *
  go_wp2_with fail
  go_loopw [10] (fun v wr => ∃ i : Nat, i ≤ s.size ∧ v = .int .i64 i ∧ wr = W ∧ Hid (allL k (bs s) = allL k ((bs s).drop i))) (fun v _ => s.size - (RowKit.intOf v).toNat)
  case atStart => exact ⟨0, Nat.zero_le _, rfl, rfl, rfl⟩
  case round =>
    obtain ⟨i, hi, rfl, rfl, hd⟩ := hrel
    by_cases hlt : i < s.size
    · have hc := HC.out s[i]
      have hu := s[i].toNat_lt
      have hdrop : (bs s).drop i = s[i] :: (bs s).drop (i + 1) := by
        rw [List.drop_eq_getElem_cons (by rw [length_bs]; exact hlt)]; rfl
      have HD := Lib.hid hdrop
      clear hdrop
      by_cases hk : kindOf s[i].toNat < k
      · go_wp2_with fail
        have fin : allL k (bs s) = false := by
          rw [hd.out, HD.out]
          have : decide (k ≤ kindOf s[i].toNat) = false := by simp; omega
          unfold allL; rw [List.all_cons, this]; rfl
        go_ret
        exact ⟨by rw [fin]; rfl, HB2.out⟩
      · go_wp2_with fail
        refine ⟨⟨i + 1, by omega, by go_num, trivial, ?_⟩, by simp [RowKit.intOf]; omega⟩
        show _ = _
        rw [hd.out, HD.out]
        have : k ≤ kindOf s[i].toNat := by omega
        simp [allL, this]
    · go_wp2_with fail
      have fin : allL k (bs s) = true := by
        rw [hd.out, List.drop_eq_nil_of_le (by rw [length_bs]; omega)]; rfl
      go_ret
      exact ⟨by rw [fin]; rfl, HB2.out⟩
end Tk
end Go.Proofs.YtdlbmfgajgefdaaGreatDoor
namespace Go.Proofs.YtdlbmfgajgefdaaGreatDoor
namespace Tk

def wh (c : UInt8) : Bool := [32, 9].contains c
/-- no white space at either end -/
def Neat (l : Bs) : Prop := (∀ c, l.head? = some c → wh c = false) ∧ (∀ c, l.getLast? = some c → wh c = false)

theorem dropWhile_head (l : Bs) : ∀ c, (l.dropWhile wh).head? = some c → wh c = false := by
  induction l with
  | nil => intro c h; simp at h
  | cons a t ih =>
    intro c h
    rw [List.dropWhile_cons] at h
    cases ha : wh a with
    | true => rw [ha, if_pos rfl] at h; exact ih c h
    | false => rw [ha, if_neg (by decide)] at h; simp at h; rw [← h]; exact ha
theorem dropWhile_last (l : Bs) : ∀ c, (l.dropWhile wh).getLast? = some c → l.getLast? = some c := by
  induction l with
  | nil => intro c h; exact h
  | cons a t ih =>
    intro c h
    rw [List.dropWhile_cons] at h
    cases ha : wh a with
    | true =>
      rw [ha, if_pos rfl] at h
      have h2 := ih c h
      cases t with
      | nil => simp at h2
      | cons b u => rw [List.getLast?_cons_cons]; exact h2
    | false => rw [ha, if_neg (by decide)] at h; exact h
theorem dropWhile_same (l : Bs) (h : ∀ c, l.head? = some c → wh c = false) : l.dropWhile wh = l := by
  cases l with
  | nil => rfl
  | cons a t => rw [List.dropWhile_cons, h a rfl, if_neg (by decide)]

def tr (l : Bs) : Bs := (l.reverse.dropWhile wh).reverse
theorem trimL_eq (l : Bs) : trimL l = (tr l).dropWhile wh := rfl
theorem tr_last (l : Bs) : ∀ c, (tr l).getLast? = some c → wh c = false := by
  intro c h
  unfold tr at h
  rw [List.getLast?_reverse] at h
  exact dropWhile_head _ c h
theorem trim_neat (l : Bs) : Neat (trimL l) := by
  rw [trimL_eq]
  exact ⟨dropWhile_head _, fun c h => tr_last l c (dropWhile_last _ c h)⟩
theorem neat_trim (l : Bs) (h : Neat l) : trimL l = l := by
  have h1 : tr l = l := by
    unfold tr
    rw [dropWhile_same _ (fun c hc => h.2 c (by rw [List.head?_reverse] at hc; exact hc)), List.reverse_reverse]
  rw [trimL_eq, h1, dropWhile_same l h.1]
theorem trim_trim (l : Bs) : trimL (trimL l) = trimL l := neat_trim _ (trim_neat l)

theorem tr_snoc (l : Bs) : tr (l ++ [9]) = tr l := by
  unfold tr
  rw [List.reverse_append]
  show ((9 :: l.reverse).dropWhile wh).reverse = _
  rw [List.dropWhile_cons, show wh 9 = true by decide, if_pos rfl]
theorem dropWhile_append (l m : Bs) : (l ++ m).dropWhile wh = if l.dropWhile wh = [] then m.dropWhile wh else l.dropWhile wh ++ m := by
  induction l with
  | nil => simp
  | cons a t ih =>
    rw [List.cons_append, List.dropWhile_cons, List.dropWhile_cons]
    cases ha : wh a with
    | true => rw [if_pos rfl, if_pos rfl]; exact ih
    | false => simp
theorem tr_cons (l : Bs) : (tr (32 :: l)).dropWhile wh = (tr l).dropWhile wh := by
  unfold tr
  rw [List.reverse_cons, dropWhile_append]
  by_cases h : l.reverse.dropWhile wh = []
  · rw [if_pos h, h]; decide
  · rw [if_neg h, List.reverse_append]
    show (32 :: (l.reverse.dropWhile wh).reverse).dropWhile wh = _
    rw [List.dropWhile_cons, show wh 32 = true by decide, if_pos rfl]
theorem trim_around (l : Bs) : trimL ([32] ++ l ++ [9]) = trimL l := by
  rw [trimL_eq, trimL_eq, tr_snoc]
  exact tr_cons l

theorem split_neat (l : Bs) : ∀ p ∈ splitL l, p ≠ [] ∧ trimL p = p := by
  intro p hp
  unfold splitL parts at hp
  rw [List.mem_flatMap] at hp
  obtain ⟨x, -, hx⟩ := hp
  unfold addP at hx
  split at hx
  · simp at hx
  · rename_i hne
    rw [List.mem_singleton] at hx
    subst hx
    exact ⟨hne, trim_trim x⟩

theorem spl_app : ∀ (s cur t : Bs), hasQ s = false → spl 0 cur (s ++ 44 :: t) = spl 0 cur s ++ spl 0 [] t
  | [], cur, t, _ => by simp [spl]
  | c :: s, cur, t, h => by
    have hc : c ≠ 34 := fun e => by subst e; simp [hasQ] at h
    have hs : hasQ s = false := by
      unfold hasQ at *
      rw [List.contains_cons, Bool.or_eq_false_iff] at h
      exact h.2
    rw [List.cons_append]
    by_cases h44 : c = 44
    · subst h44
      rw [spl, if_pos rfl, spl, if_pos rfl, spl_app s [] t hs]; rfl
    · rw [spl, if_neg h44, if_neg hc, spl_app s _ t hs]
      rw [show spl 0 cur (c :: s) = spl 0 (cur ++ [c]) s by rw [spl, if_neg h44, if_neg hc]]
theorem split_app (s t : Bs) (h : hasQ s = false) : splitL (s ++ [44] ++ t) = splitL s ++ splitL t := by
  unfold splitL
  rw [List.append_assoc]
  show parts (spl 0 [] (s ++ 44 :: t)) = _
  rw [spl_app s [] t h]
  simp [parts]
theorem spl_len : ∀ (l : Bs) (m : Nat) (cur : Bs), (spl m cur l).length ≤ l.length + 1
  | [], m, cur => by cases m <;> simp [spl]
  | c :: t, 0, cur => by
    rw [spl]
    split
    · have := spl_len t 0 []; simp; omega
    · split
      · have := spl_len t 1 (cur ++ [c]); simp; omega
      · have := spl_len t 0 (cur ++ [c]); simp; omega
  | c :: t, 1, cur => by
    rw [spl]
    split
    · have := spl_len t 2 (cur ++ [c]); simp; omega
    · split
      · have := spl_len t 0 (cur ++ [c]); simp; omega
      · have := spl_len t 1 (cur ++ [c]); simp; omega
  | c :: t, m + 2, cur => by
    rw [spl]
    have := spl_len t 1 (cur ++ [c]); simp; omega
theorem parts_len (l : List Bs) : (parts l).length ≤ l.length := by
  induction l with
  | nil => simp [parts]
  | cons a t ih =>
    rw [parts_cons, List.length_append]
    have : (addP (trimL a)).length ≤ 1 := by unfold addP; split <;> simp
    simp; omega
theorem split_len (l : Bs) : (splitL l).length ≤ l.length + 1 := Nat.le_trans (parts_len _) (spl_len l 0 [])
theorem spl_piece : ∀ (l : Bs) (m : Nat) (cur : Bs), ∀ p ∈ spl m cur l, p.length ≤ cur.length + l.length
  | [], m, cur => by cases m <;> simp [spl]
  | c :: t, 0, cur => by
    rw [spl]
    split
    · intro p hp
      rcases List.mem_cons.1 hp with rfl | hp
      · simp
      · have := spl_piece t 0 [] p hp; simp at *; omega
    · split
      · intro p hp; have := spl_piece t 1 (cur ++ [c]) p hp; simp at *; omega
      · intro p hp; have := spl_piece t 0 (cur ++ [c]) p hp; simp at *; omega
  | c :: t, 1, cur => by
    rw [spl]
    split
    · intro p hp; have := spl_piece t 2 (cur ++ [c]) p hp; simp at *; omega
    · split
      · intro p hp; have := spl_piece t 0 (cur ++ [c]) p hp; simp at *; omega
      · intro p hp; have := spl_piece t 1 (cur ++ [c]) p hp; simp at *; omega
  | c :: t, m + 2, cur => by
    rw [spl]
    intro p hp; have := spl_piece t 1 (cur ++ [c]) p hp; simp at *; omega
theorem split_piece (l p : Bs) (h : p ∈ splitL l) : p.length ≤ l.length := by
  unfold splitL parts at h
  rw [List.mem_flatMap] at h
  obtain ⟨x, hx, hp⟩ := h
  have h1 := spl_piece l 0 [] x hx
  have h2 := trim_sublist x
  unfold addP at hp
  split at hp
  · simp at hp
  · rw [List.mem_singleton] at hp; subst hp; simp at h1; omega
end Tk
end Go.Proofs.YtdlbmfgajgefdaaGreatDoor
namespace Go.Proofs.YtdlbmfgajgefdaaGreatDoor
namespace Tk

/-- is it a field that may be: a name that is a token, a value of value characters without white space at its ends -/
def okF (n v : Bs) : Bool := !n.isEmpty && allL 2 n && (allL 1 v && decide (trimL v = v))

/-- what stands before the first c, what stands behind it, and whether there is one -/
def cutL (c : UInt8) (l : Bs) : Bs × Bs × Bool := if l.contains c then (l.takeWhile (· != c), (l.dropWhile (· != c)).drop 1, true) else (l, [], false)

theorem cut_index (c : UInt8) : ∀ l : Bs, (Lib.indexByte l c = -1 ∧ l.contains c = false) ∨ ∃ i : Nat, Lib.indexByte l c = i ∧ i < l.length ∧ l.contains c = true ∧ l.take i = l.takeWhile (· != c) ∧ l.drop (i + 1) = (l.dropWhile (· != c)).drop 1
  | [] => .inl ⟨rfl, rfl⟩
  | b :: t => by
    unfold Lib.indexByte
    by_cases hb : b = c
    · subst hb
      exact .inr ⟨0, by simp, by simp, by simp, by simp, by simp⟩
    · have h1 : (b == c) = false := beq_eq_false_iff_ne.2 hb
      have h2 : (b != c) = true := by simp [hb]
      have h3 : (c == b) = false := beq_eq_false_iff_ne.2 (fun e => hb e.symm)
      rcases cut_index c t with ⟨h, hc⟩ | ⟨i, h, hi, hc, ht, hd⟩
      · left
        rw [h1, h]
        exact ⟨by simp, by rw [List.contains_cons, h3, hc]; rfl⟩
      · right
        refine ⟨i + 1, ?_, by simp; omega, by rw [List.contains_cons, hc]; simp, ?_, ?_⟩
        · rw [h1, h]
          have : ((i : Int) == -1) = false := by rw [beq_eq_false_iff_ne]; omega
          rw [this]; simp
        · rw [List.take_succ_cons, List.takeWhile_cons, h2, if_pos rfl, ht]
        · rw [List.drop_succ_cons, List.dropWhile_cons, h2, if_pos rfl, hd]

def lineOk (l : Bs) : Bool := (cutL 58 l).2.2 && okF (cutL 58 l).1 (trimL (cutL 58 l).2.1)
def lineN (l : Bs) : Bs := (cutL 58 l).1
def lineV (l : Bs) : Bs := trimL (cutL 58 l).2.1

def bytesF (f : Bs × Bs) : Bs := f.1 ++ [58, 32] ++ f.2 ++ [13, 10]
def okFs (l : List (Bs × Bs)) : Bool := l.all fun f => okF f.1 f.2

theorem trim_blank (l : Bs) : trimL (32 :: l) = trimL l := by rw [trimL_eq, trimL_eq]; exact tr_cons l
theorem allL_mem (k : Int) (l : Bs) (h : allL k l = true) (c : UInt8) (hc : c ∈ l) : k ≤ kindOf c.toNat := by
  unfold allL at h
  rw [List.all_eq_true] at h
  simpa using h c hc
theorem no_colon (n : Bs) (h : allL 2 n = true) : ∀ c ∈ n, (c != 58) = true := by
  intro c hc
  have := allL_mem 2 n h c hc
  by_cases e : c = 58
  · subst e; exact absurd this (by decide)
  · simp [e]
theorem cut_colon (n r : Bs) (h : allL 2 n = true) : cutL 58 (n ++ 58 :: r) = (n, r, true) := by
  have hn := no_colon n h
  unfold cutL
  rw [if_pos (by simp)]
  have h1 : (n ++ 58 :: r).takeWhile (· != 58) = n := by
    rw [List.takeWhile_append_of_pos hn, List.takeWhile_cons]; simp
  have h2 : (n ++ 58 :: r).dropWhile (· != 58) = 58 :: r := by
    rw [List.dropWhile_append_of_pos hn, List.dropWhile_cons]; simp
  rw [h1, h2]; rfl
theorem okF_parts (n v : Bs) (h : okF n v = true) : n ≠ [] ∧ allL 2 n = true ∧ allL 1 v = true ∧ trimL v = v := by
  unfold okF at h
  simp only [Bool.and_eq_true, decide_eq_true_eq, Bool.not_eq_true', List.isEmpty_eq_false_iff] at h
  exact ⟨h.1.1, h.1.2, h.2.1, h.2.2⟩
/-- a line of a field is read as the field -/
theorem line_bytes (n v : Bs) (h : okF n v = true) : lineOk (n ++ [58, 32] ++ v) = true ∧ lineN (n ++ [58, 32] ++ v) = n ∧ lineV (n ++ [58, 32] ++ v) = v := by
  obtain ⟨h1, h2, h3, h4⟩ := okF_parts n v h
  have e : n ++ [58, 32] ++ v = n ++ 58 :: (32 :: v) := by simp
  unfold lineOk lineN lineV
  rw [e, cut_colon n _ h2]
  simp only [trim_blank, h4, h, Bool.and_true, and_self]
theorem line_ok (l : Bs) (h : lineOk l = true) : okF (lineN l) (lineV l) = true := by
  unfold lineOk at h
  rw [Bool.and_eq_true] at h
  exact h.2
end Tk
end Go.Proofs.YtdlbmfgajgefdaaGreatDoor
namespace Go.Proofs.YtdlbmfgajgefdaaGreatDoor
namespace Tk

def maxN : Nat := 9007199254740991
def isDig (c : UInt8) : Bool := decide (48 ≤ c.toNat) && decide (c.toNat ≤ 57)
def numGo : Nat → Bs → Nat × Nat
  | n, [] => if maxN < n then (0, 3) else (n, 0)
  | n, c :: t => if isDig c = true then numGo (if n ≤ maxN then n * 10 + (c.toNat - 48) else n) t else (0, 4)
def numL (l : Bs) : Nat × Nat := if l = [] then (0, 4) else numGo 0 l

def digL (n : Nat) : Bs := if h : n < 10 then [UInt8.ofNat (48 + n)] else digL (n / 10) ++ [UInt8.ofNat (48 + n % 10)]
def valFrom (a : Nat) (l : Bs) : Nat := l.foldl (fun a c => a * 10 + (c.toNat - 48)) a

theorem valFrom_ge : ∀ (l : Bs) (a : Nat), a ≤ valFrom a l
  | [], a => Nat.le_refl _
  | c :: t, a => by
    have := valFrom_ge t (a * 10 + (c.toNat - 48))
    show a ≤ valFrom (a * 10 + (c.toNat - 48)) t
    omega
theorem numGo_val : ∀ (l : Bs) (n : Nat), (∀ c ∈ l, isDig c = true) → numGo n l = if maxN < valFrom n l then (0, 3) else (valFrom n l, 0)
  | [], n, _ => rfl
  | c :: t, n, h => by
    have hc : isDig c = true := h c (by simp)
    have ht : ∀ x ∈ t, isDig x = true := fun x hx => h x (by simp [hx])
    rw [numGo, if_pos hc]
    by_cases hn : n ≤ maxN
    · rw [if_pos hn, numGo_val t _ ht]; rfl
    · rw [if_neg hn, numGo_val t n ht]
      have h1 := valFrom_ge t n
      have h2 : n ≤ valFrom n (c :: t) := valFrom_ge (c :: t) n
      rw [if_pos (by omega), if_pos (by omega)]
theorem numGo_bad : ∀ (l : Bs) (n : Nat), (∃ c ∈ l, isDig c = false) → numGo n l = (0, 4)
  | [], n, h => by simp at h
  | c :: t, n, h => by
    by_cases hc : isDig c = true
    · rw [numGo, if_pos hc]
      refine numGo_bad t _ ?_
      obtain ⟨x, hx, hb⟩ := h
      rcases List.mem_cons.1 hx with rfl | hx
      · rw [hc] at hb; cases hb
      · exact ⟨x, hx, hb⟩
    · rw [numGo, if_neg hc]

theorem dig_toNat (d : Nat) (h : d < 10) : (UInt8.ofNat (48 + d)).toNat = 48 + d := by rw [UInt8.toNat_ofNat']; omega
theorem isDig_ofNat (d : Nat) (h : d < 10) : isDig (UInt8.ofNat (48 + d)) = true := by
  unfold isDig; rw [dig_toNat d h]; simp; omega
theorem digL_small (n : Nat) (h : n < 10) : digL n = [UInt8.ofNat (48 + n)] := by rw [digL, dif_pos h]
theorem digL_big (n : Nat) (h : ¬ n < 10) : digL n = digL (n / 10) ++ digL (n % 10) := by
  rw [digL, dif_neg h, digL_small (n % 10) (by omega)]
theorem digL_digits : ∀ (k n : Nat), n ≤ k → ∀ c ∈ digL n, isDig c = true
  | 0, n, h => by
    rw [digL_small n (by omega)]
    intro c hc
    rw [List.mem_singleton] at hc
    subst hc
    exact isDig_ofNat n (by omega)
  | k + 1, n, h => by
    by_cases hn : n < 10
    · rw [digL_small n hn]
      intro c hc
      rw [List.mem_singleton] at hc
      subst hc
      exact isDig_ofNat n hn
    · rw [digL_big n hn]
      intro c hc
      rcases List.mem_append.1 hc with hc | hc
      · exact digL_digits k (n / 10) (by omega) c hc
      · exact digL_digits k (n % 10) (by omega) c hc
theorem valFrom_append (a : Nat) (l m : Bs) : valFrom a (l ++ m) = valFrom (valFrom a l) m := by simp [valFrom]
theorem valFrom_dig : ∀ (k n : Nat), n ≤ k → valFrom 0 (digL n) = n
  | 0, n, h => by
    rw [digL_small n (by omega)]
    show 0 * 10 + ((UInt8.ofNat (48 + n)).toNat - 48) = n
    rw [dig_toNat n (by omega)]; omega
  | k + 1, n, h => by
    by_cases hn : n < 10
    · rw [digL_small n hn]
      show 0 * 10 + ((UInt8.ofNat (48 + n)).toNat - 48) = n
      rw [dig_toNat n hn]; omega
    · rw [digL_big n hn, valFrom_append, valFrom_dig k (n / 10) (by omega), digL_small (n % 10) (by omega)]
      show n / 10 * 10 + ((UInt8.ofNat (48 + n % 10)).toNat - 48) = n
      rw [dig_toNat (n % 10) (by omega)]; omega
theorem valFrom_zeros : ∀ k, valFrom 0 (List.replicate k 48) = 0
  | 0 => rfl
  | k + 1 => by
    rw [List.replicate_succ]
    show valFrom 0 (List.replicate k 48) = 0
    exact valFrom_zeros k
theorem digL_ne (n : Nat) : digL n ≠ [] := by
  rw [digL]; split <;> simp

/-- the first half of the law -/
theorem num_zeros (k n : Nat) : numL (List.replicate k 48 ++ digL n) = if maxN < n then (0, 3) else (n, 0) := by
  unfold numL
  rw [if_neg (by simp [digL_ne]), numGo_val _ _ ?_, valFrom_append, valFrom_zeros, valFrom_dig n n (Nat.le_refl _)]
  intro c hc
  rcases List.mem_append.1 hc with hc | hc
  · rw [List.mem_replicate] at hc; rw [hc.2]; rfl
  · exact digL_digits n n (Nat.le_refl _) c hc
/-- the second half -/
theorem num_bad (l m : Bs) (c : UInt8) (h : isDig c = false) : numL (l ++ [c] ++ m) = (0, 4) := by
  unfold numL
  rw [if_neg (by simp), numGo_bad _ _ ⟨c, by simp, h⟩]
theorem digL_len : ∀ (k n : Nat), n < 10 ^ (k + 1) → (digL n).length ≤ k + 1
  | 0, n, h => by rw [digL_small n (by omega)]; simp
  | k + 1, n, h => by
    by_cases hn : n < 10
    · rw [digL_small n hn]; simp
    · rw [digL_big n hn, List.length_append, digL_small (n % 10) (by omega)]
      have := digL_len k (n / 10) (by rw [Nat.pow_succ] at h; omega)
      simp; omega
end Tk
end Go.Proofs.YtdlbmfgajgefdaaGreatDoor
namespace Go.Proofs.YtdlbmfgajgefdaaGreatDoor
namespace Tk

def vis (c : UInt8) : Bool := decide (33 ≤ c.toNat) && decide (c.toNat ≤ 126)
def someL (p : UInt8 → Bool) (l : Bs) : Bool := !l.isEmpty && l.all p
def tokL (l : Bs) : Bool := !l.isEmpty && allL 2 l
def oneDig (l : Bs) : Bool := decide (l.length = 1) && l.all isDig
def httpL : Bs := [72, 84, 84, 80, 47]

def vN (l : Bs) : Bs := if httpL.isPrefixOf l then l.drop 5 else l
def vA (l : Bs) : Bs := (cutL 46 (vN l)).1
def vB (l : Bs) : Bs := (cutL 46 (vN l)).2.1
def vForm (l : Bs) : Bool := httpL.isPrefixOf l && (oneDig (vA l) && oneDig (vB l))
def vKnown (l : Bs) : Bool := decide (vA l = [49]) && (decide (vB l = [48]) || decide (vB l = [49]))
def vSt (l : Bs) : Nat := if vForm l then (if vKnown l then 0 else 505) else 400
def vMi (l : Bs) : Nat := if vSt l = 0 then ((vB l).getD 0 0).toNat - 48 else 0

theorem mem_takeWhile_of (p : UInt8 → Bool) : ∀ (l : Bs) (x : UInt8), x ∈ l.takeWhile p → p x = true
  | [], x, h => by simp at h
  | a :: t, x, h => by
    rw [List.takeWhile_cons] at h
    split at h
    · next ha =>
      rcases List.mem_cons.1 h with rfl | h
      · exact ha
      · exact mem_takeWhile_of p t x h
    · simp at h
theorem dropWhile_ne (c : UInt8) : ∀ l : Bs, c ∈ l → l.dropWhile (· != c) = c :: (l.dropWhile (· != c)).drop 1
  | [], h => by simp at h
  | a :: t, h => by
    by_cases e : a = c
    · subst e; rw [List.dropWhile_cons]; simp
    · have e' : (a != c) = true := by simpa using e
      rw [List.dropWhile_cons, if_pos e']
      rcases List.mem_cons.1 h with rfl | h
      · exact absurd rfl e
      · exact dropWhile_ne c t h
theorem cut_split (c : UInt8) (l : Bs) : l = (cutL c l).1 ++ (if (cutL c l).2.2 then c :: (cutL c l).2.1 else []) := by
  unfold cutL
  by_cases h : l.contains c
  · rw [if_pos h]
    simp only [if_true]
    have hd := dropWhile_ne c l (by simpa using h)
    have := List.takeWhile_append_dropWhile (p := (· != c)) (l := l)
    rw [hd] at this
    exact this.symm
  · rw [if_neg h]; simp
theorem cut_first (c : UInt8) (l : Bs) : ∀ x ∈ (cutL c l).1, x ≠ c := by
  unfold cutL
  by_cases h : l.contains c
  · rw [if_pos h]
    intro x hx
    have := mem_takeWhile_of _ _ _ hx
    simpa using this
  · rw [if_neg h]
    intro x hx e
    subst e
    exact h (by simpa using hx)
theorem cut_none (c : UInt8) (l : Bs) (h : ∀ x ∈ l, x ≠ c) : cutL c l = (l, [], false) := by
  unfold cutL
  rw [if_neg]
  intro hc
  exact h c (by simpa using hc) rfl
theorem cutL_at (c : UInt8) (a b : Bs) (h : ∀ x ∈ a, x ≠ c) : cutL c (a ++ c :: b) = (a, b, true) := by
  have hn : ∀ x ∈ a, (x != c) = true := fun x hx => by simpa using h x hx
  unfold cutL
  rw [if_pos (by simp)]
  rw [List.takeWhile_append_of_pos hn, List.dropWhile_append_of_pos hn, List.takeWhile_cons, List.dropWhile_cons]
  simp
theorem cut_empty (c : UInt8) : cutL c [] = ([], [], false) := rfl

theorem oneDig_of (l : Bs) (h : oneDig l = true) : ∃ c, l = [c] ∧ isDig c = true := by
  unfold oneDig at h
  match l, h with
  | [c], h => exact ⟨c, rfl, by simpa using h⟩
theorem oneDig_one (c : UInt8) (h : isDig c = true) : oneDig [c] = true := by unfold oneDig; simp [h]
theorem dig_bd (c : UInt8) (h : isDig c = true) : 48 ≤ c.toNat ∧ c.toNat ≤ 57 := by
  unfold isDig at h; simpa using h

/-- a version that is well formed: its eight bytes -/
theorem vForm_of (l : Bs) (h : vForm l = true) : ∃ a b, isDig a = true ∧ isDig b = true ∧ l = httpL ++ [a, 46, b] ∧ vA l = [a] ∧ vB l = [b] := by
  unfold vForm at h
  simp only [Bool.and_eq_true] at h
  obtain ⟨hp, ha, hb⟩ := h
  obtain ⟨a, ea, da⟩ := oneDig_of _ ha
  obtain ⟨b, eb, db⟩ := oneDig_of _ hb
  refine ⟨a, b, da, db, ?_, ea, eb⟩
  obtain ⟨t, ht⟩ := List.isPrefixOf_iff_prefix.1 hp
  have hn : vN l = t := by
    unfold vN; rw [if_pos hp, ← ht]; rfl
  have hs := cut_split 46 t
  unfold vA at ea
  unfold vB at eb
  rw [hn] at ea eb
  rw [ea, eb] at hs
  by_cases hf : (cutL 46 t).2.2
  · rw [if_pos hf] at hs
    rw [← ht, hs]; rfl
  · have : (cutL 46 t).2.1 = [] := by
      unfold cutL at hf ⊢
      by_cases hc : t.contains 46
      · rw [if_pos hc] at hf; exact absurd rfl hf
      · rw [if_neg hc]
    rw [this] at eb; cases eb
theorem vN_http (t : Bs) : vN (httpL ++ t) = t := by
  unfold vN
  rw [if_pos (List.isPrefixOf_iff_prefix.2 ⟨t, rfl⟩)]; rfl
theorem v_digits (a b : UInt8) (ha : isDig a = true) (hb : isDig b = true) : vForm (httpL ++ [a, 46, b]) = true ∧ vA (httpL ++ [a, 46, b]) = [a] ∧ vB (httpL ++ [a, 46, b]) = [b] := by
  have hne : ∀ x ∈ [a], x ≠ (46 : UInt8) := fun x hx e => by
    rw [List.mem_singleton] at hx
    subst hx; subst e
    exact absurd ha (by decide)
  have hc : cutL 46 (vN (httpL ++ [a, 46, b])) = ([a], [b], true) := by
    rw [vN_http]; exact cutL_at 46 [a] [b] hne
  have h1 : vA (httpL ++ [a, 46, b]) = [a] := by unfold vA; rw [hc]
  have h2 : vB (httpL ++ [a, 46, b]) = [b] := by unfold vB; rw [hc]
  refine ⟨?_, h1, h2⟩
  unfold vForm
  rw [h1, h2, oneDig_one a ha, oneDig_one b hb, List.isPrefixOf_iff_prefix.2 ⟨_, rfl⟩]; rfl

/-- the text of a version that is supported -/
def vText (m : Nat) : Bs := [72, 84, 84, 80, 47, 49, 46, UInt8.ofNat (48 + m)]
theorem vText_ok (m : Nat) (h : m = 0 ∨ m = 1) : vSt (vText m) = 0 ∧ vMi (vText m) = m := by
  rcases h with rfl | rfl <;> decide
theorem vSt_zero (l : Bs) (h : vSt l = 0) : (vMi l = 0 ∨ vMi l = 1) ∧ l = vText (vMi l) := by
  have hm : vMi l = ((vB l).getD 0 0).toNat - 48 := by unfold vMi; rw [if_pos h]
  unfold vSt at h
  split at h
  · next hf =>
    split at h
    · next hk =>
      obtain ⟨a, b, da, db, el, ea, eb⟩ := vForm_of l hf
      unfold vKnown at hk
      rw [ea, eb] at hk
      rw [eb] at hm
      simp at hk
      obtain ⟨rfl, hk⟩ := hk
      rcases hk with rfl | rfl
      · have : vMi l = 0 := hm
        rw [this]; exact ⟨.inl rfl, el⟩
      · have : vMi l = 1 := hm
        rw [this]; exact ⟨.inr rfl, el⟩
    · cases h
  · cases h
theorem vSt_three (l : Bs) : vSt l = 0 ∨ vSt l = 400 ∨ vSt l = 505 := by
  unfold vSt; split
  · split <;> simp
  · simp

/-- the parts of a request line, or why it is none -/
def rM (l : Bs) : Bs := (cutL 32 l).1
def rT (l : Bs) : Bs := (cutL 32 (cutL 32 l).2.1).1
def rV (l : Bs) : Bs := (cutL 32 (cutL 32 l).2.1).2.1
def rIn (m t : Bs) : Bool := tokL m && someL vis t
def rSt (l : Bs) : Nat := if rIn (rM l) (rT l) then vSt (rV l) else 400
def reqM (l : Bs) : Bs := if rSt l = 0 then rM l else []
def reqT (l : Bs) : Bs := if rSt l = 0 then rT l else []
def reqN (l : Bs) : Nat := if rSt l = 0 then vMi (rV l) else 0

theorem all_ne (p : UInt8 → Bool) (l : Bs) (h : l.all p = true) (c : UInt8) (hc : p c = false) : ∀ x ∈ l, x ≠ c := by
  intro x hx e
  subst e
  rw [List.all_eq_true] at h
  rw [h x hx] at hc
  cases hc
theorem tok_ne (l : Bs) (h : tokL l = true) (c : UInt8) (hc : kindOf c.toNat < 2) : ∀ x ∈ l, x ≠ c := by
  unfold tokL at h
  rw [Bool.and_eq_true] at h
  intro x hx e
  subst e
  have := allL_mem 2 l h.2 x hx
  omega

def reqLine (m t : Bs) (n : Nat) : Bs := m ++ 32 :: (t ++ 32 :: vText n)
theorem req_cuts (m t v : Bs) (hm : tokL m = true) (ht : someL vis t = true) : rM (m ++ 32 :: (t ++ 32 :: v)) = m ∧ rT (m ++ 32 :: (t ++ 32 :: v)) = t ∧ rV (m ++ 32 :: (t ++ 32 :: v)) = v := by
  have h1 : cutL 32 (m ++ 32 :: (t ++ 32 :: v)) = (m, t ++ 32 :: v, true) := cutL_at 32 m _ (tok_ne m hm 32 (by decide))
  unfold someL at ht
  rw [Bool.and_eq_true] at ht
  have h2 : cutL 32 (t ++ 32 :: v) = (t, v, true) := cutL_at 32 t v (all_ne vis t ht.2 32 (by decide))
  unfold rM rT rV
  rw [h1]
  simp only [h2, and_self]
theorem req_line (m t : Bs) (n : Nat) (hm : tokL m = true) (ht : someL vis t = true) (hn : n = 0 ∨ n = 1) :
    rSt (reqLine m t n) = 0 ∧ reqM (reqLine m t n) = m ∧ reqT (reqLine m t n) = t ∧ reqN (reqLine m t n) = n := by
  obtain ⟨h1, h2, h3⟩ := req_cuts m t (vText n) hm ht
  obtain ⟨v1, v2⟩ := vText_ok n hn
  have hs : rSt (reqLine m t n) = 0 := by
    unfold rSt reqLine rIn
    rw [h1, h2, h3, hm, ht]
    exact v1
  refine ⟨hs, ?_, ?_, ?_⟩
  · unfold reqM; rw [if_pos hs]; exact h1
  · unfold reqT; rw [if_pos hs]; exact h2
  · unfold reqN; rw [if_pos hs]; unfold reqLine; rw [h3]; exact v2
theorem cut_nil_of (c : UInt8) (l : Bs) (h : (cutL c l).2.2 = false) : (cutL c l).2.1 = [] := by
  unfold cutL at h ⊢
  by_cases hc : l.contains c
  · rw [if_pos hc] at h; cases h
  · rw [if_neg hc]
/-- a line that is a request line is the one that says its parts -/
theorem req_is (l : Bs) (h : rSt l = 0) : l = reqLine (reqM l) (reqT l) (reqN l) ∧ tokL (reqM l) = true ∧ someL vis (reqT l) = true ∧ (reqN l = 0 ∨ reqN l = 1) := by
  have e1 : reqM l = rM l := by unfold reqM; rw [if_pos h]
  have e2 : reqT l = rT l := by unfold reqT; rw [if_pos h]
  have e3 : reqN l = vMi (rV l) := by unfold reqN; rw [if_pos h]
  rw [e1, e2, e3]
  unfold rSt at h
  split at h
  · next hin =>
    unfold rIn at hin
    rw [Bool.and_eq_true] at hin
    obtain ⟨hm, ht⟩ := hin
    obtain ⟨hv, hvt⟩ := vSt_zero _ h
    refine ⟨?_, hm, ht, hv⟩
    have s1 := cut_split 32 l
    have s2 := cut_split 32 (cutL 32 l).2.1
    have f1 : (cutL 32 l).2.2 = true := by
      cases hf : (cutL 32 l).2.2 with
      | true => rfl
      | false =>
        have := cut_nil_of 32 l hf
        unfold rT at ht
        rw [this, cut_empty] at ht
        cases ht
    have f2 : (cutL 32 (cutL 32 l).2.1).2.2 = true := by
      cases hf : (cutL 32 (cutL 32 l).2.1).2.2 with
      | true => rfl
      | false =>
        have := cut_nil_of 32 _ hf
        have hr : rV l = [] := this
        rw [hr] at h
        exact absurd h (by decide)
    rw [if_pos f1] at s1
    rw [if_pos f2] at s2
    rw [s2] at s1
    have hvt' : (cutL 32 (cutL 32 l).2.1).2.1 = vText (vMi (rV l)) := hvt
    rw [hvt'] at s1
    exact s1
  · cases h
theorem rSt_three (l : Bs) : rSt l = 0 ∨ rSt l = 400 ∨ rSt l = 505 := by
  unfold rSt; split
  · exact vSt_three _
  · simp

/-- the parts of a status line, or that it is none -/
def sV (l : Bs) : Bs := (cutL 32 l).1
def sD (l : Bs) : Bs := (cutL 32 (cutL 32 l).2.1).1
def sR (l : Bs) : Bs := (cutL 32 (cutL 32 l).2.1).2.1
def sB (l : Bs) : Bool := (cutL 32 (cutL 32 l).2.1).2.2
def sIn (n : Nat) (r : Bs) : Bool := decide (100 ≤ n) && decide (n ≤ 599) && r.all fun c => decide (1 ≤ kindOf c.toNat)
def sOk (l : Bs) : Bool := decide (vSt (sV l) = 0) && decide ((numL (sD l)).2 = 0) && decide ((sD l).length = 3) && sB l && sIn (numL (sD l)).1 (sR l)
def staM (l : Bs) : Nat := if sOk l then vMi (sV l) else 0
def staN (l : Bs) : Nat := if sOk l then (numL (sD l)).1 else 0
def staR (l : Bs) : Bs := if sOk l then sR l else []
def staE (l : Bs) : Nat := if sOk l then 0 else 4

def staLine (m n : Nat) (r : Bs) : Bs := vText m ++ 32 :: (digL n ++ 32 :: r)

theorem digL_three (n : Nat) (h0 : 100 ≤ n) (h1 : n ≤ 599) : digL n = [UInt8.ofNat (48 + n / 100), UInt8.ofNat (48 + n / 10 % 10), UInt8.ofNat (48 + n % 10)] := by
  rw [digL, dif_neg (by omega), digL, dif_neg (by omega), digL, dif_pos (by omega), Nat.div_div_eq_div_mul]; rfl
theorem digs_all (n : Nat) : (digL n).all isDig = true := by
  rw [List.all_eq_true]; exact digL_digits n n (Nat.le_refl _)
theorem num_digL (n : Nat) (h : n ≤ maxN) : numL (digL n) = (n, 0) := by
  have := num_zeros 0 n
  rw [List.replicate_zero, List.nil_append] at this
  rw [this, if_neg (by omega)]
theorem num_three_dig (l : Bs) (hl : l.length = 3) (h : (numL l).2 = 0) (h0 : 100 ≤ (numL l).1) (h1 : (numL l).1 ≤ 599) : l = digL (numL l).1 := by
  match l, hl with
  | [a, b, c], _ =>
    have hd : ∀ x ∈ [a, b, c], isDig x = true := by
      intro x hx
      cases hx' : isDig x with
      | true => rfl
      | false =>
        have : numL [a, b, c] = (0, 4) := by
          unfold numL
          rw [if_neg (by simp), numGo_bad _ _ ⟨x, hx, hx'⟩]
        rw [this] at h; cases h
    have da := dig_bd a (hd a (by simp))
    have db := dig_bd b (hd b (by simp))
    have dc := dig_bd c (hd c (by simp))
    have hv : (numL [a, b, c]).1 = (a.toNat - 48) * 100 + (b.toNat - 48) * 10 + (c.toNat - 48) := by
      unfold numL
      rw [if_neg (by simp), numGo_val _ _ hd]
      have e : valFrom 0 [a, b, c] = ((0 * 10 + (a.toNat - 48)) * 10 + (b.toNat - 48)) * 10 + (c.toNat - 48) := rfl
      rw [e, if_neg (by unfold maxN; omega)]
      show _ = _
      omega
    rw [hv] at h0 h1 ⊢
    rw [digL_three _ h0 h1]
    have e1 : ((a.toNat - 48) * 100 + (b.toNat - 48) * 10 + (c.toNat - 48)) / 100 = a.toNat - 48 := by omega
    have e2 : ((a.toNat - 48) * 100 + (b.toNat - 48) * 10 + (c.toNat - 48)) / 10 % 10 = b.toNat - 48 := by omega
    have e3 : ((a.toNat - 48) * 100 + (b.toNat - 48) * 10 + (c.toNat - 48)) % 10 = c.toNat - 48 := by omega
    rw [e1, e2, e3]
    have f : ∀ x : UInt8, 48 ≤ x.toNat → UInt8.ofNat (48 + (x.toNat - 48)) = x := fun x hx => by
      rw [show 48 + (x.toNat - 48) = x.toNat by omega]; exact UInt8.ofNat_toNat
    rw [f a da.1, f b db.1, f c dc.1]
theorem dig_ne (l : Bs) (h : l.all isDig = true) (c : UInt8) (hc : isDig c = false) : ∀ x ∈ l, x ≠ c := all_ne isDig l h c hc

theorem vText_ne (m : Nat) (h : m = 0 ∨ m = 1) : ∀ x ∈ vText m, x ≠ (32 : UInt8) := by
  rcases h with rfl | rfl <;> decide
theorem sta_line (m n : Nat) (r : Bs) (hm : m = 0 ∨ m = 1) (hr : sIn n r = true) :
    sOk (staLine m n r) = true ∧ staM (staLine m n r) = m ∧ staN (staLine m n r) = n ∧ staR (staLine m n r) = r ∧ staE (staLine m n r) = 0 := by
  have hr' := hr
  unfold sIn at hr'
  simp only [Bool.and_eq_true, decide_eq_true_eq] at hr'
  obtain ⟨⟨h0, h1⟩, hr2⟩ := hr'
  have c1 : cutL 32 (staLine m n r) = (vText m, digL n ++ 32 :: r, true) := cutL_at 32 _ _ (vText_ne m hm)
  have c2 : cutL 32 (digL n ++ 32 :: r) = (digL n, r, true) := cutL_at 32 _ _ (dig_ne _ (digs_all n) 32 (by decide))
  obtain ⟨v1, v2⟩ := vText_ok m hm
  have hnum := num_digL n (by unfold maxN; omega)
  have hlen : (digL n).length = 3 := by rw [digL_three n h0 h1]; rfl
  have e1 : sV (staLine m n r) = vText m := by unfold sV; rw [c1]
  have e2 : sD (staLine m n r) = digL n := by unfold sD; rw [c1]; simp only [c2]
  have e3 : sR (staLine m n r) = r := by unfold sR; rw [c1]; simp only [c2]
  have e4 : sB (staLine m n r) = true := by unfold sB; rw [c1]; simp only [c2]
  have hs : sOk (staLine m n r) = true := by
    unfold sOk
    rw [e1, e2, e3, e4, v1, hnum, hlen, hr]; rfl
  refine ⟨hs, ?_, ?_, ?_, ?_⟩
  · unfold staM; rw [if_pos hs, e1]; exact v2
  · unfold staN; rw [if_pos hs, e2, hnum]
  · unfold staR; rw [if_pos hs]; exact e3
  · unfold staE; rw [if_pos hs]
theorem sta_is (l : Bs) (h : sOk l = true) : l = staLine (staM l) (staN l) (staR l) ∧ (staM l = 0 ∨ staM l = 1) ∧ sIn (staN l) (staR l) = true := by
  have e1 : staM l = vMi (sV l) := by unfold staM; rw [if_pos h]
  have e2 : staN l = (numL (sD l)).1 := by unfold staN; rw [if_pos h]
  have e3 : staR l = sR l := by unfold staR; rw [if_pos h]
  rw [e1, e2, e3]
  have h' := h
  unfold sOk at h'
  simp only [Bool.and_eq_true, decide_eq_true_eq] at h'
  obtain ⟨⟨⟨⟨hv, hn⟩, hl⟩, hb⟩, hin⟩ := h'
  obtain ⟨hm, hvt⟩ := vSt_zero _ hv
  refine ⟨?_, hm, hin⟩
  have hin' := hin
  unfold sIn at hin'
  simp only [Bool.and_eq_true, decide_eq_true_eq] at hin'
  have hd := num_three_dig (sD l) hl hn hin'.1.1 hin'.1.2
  have s1 := cut_split 32 l
  have s2 := cut_split 32 (cutL 32 l).2.1
  have f1 : (cutL 32 l).2.2 = true := by
    cases hf : (cutL 32 l).2.2 with
    | true => rfl
    | false =>
      have := cut_nil_of 32 l hf
      unfold sB at hb
      rw [this, cut_empty] at hb
      cases hb
  unfold sB at hb
  rw [if_pos f1] at s1
  rw [if_pos hb] at s2
  rw [s2] at s1
  have hd' : (cutL 32 (cutL 32 l).2.1).1 = digL (numL (sD l)).1 := hd
  have hv' : (cutL 32 l).1 = vText (vMi (sV l)) := hvt
  rw [hd', hv'] at s1
  exact s1
/-- no text is both -/
theorem not_both (l : Bs) (h : rSt l = 0) : sOk l = false := by
  cases hs : sOk l with
  | false => rfl
  | true =>
    obtain ⟨e, hm, -⟩ := sta_is l hs
    have c1 : cutL 32 l = (vText (staM l), digL (staN l) ++ 32 :: staR l, true) := by
      conv => lhs; rw [e]
      exact cutL_at 32 _ _ (vText_ne _ hm)
    obtain ⟨-, ht, -, -⟩ := req_is l h
    unfold reqM at ht
    rw [if_pos h] at ht
    unfold rM at ht
    rw [c1] at ht
    have ht' : tokL (vText (staM l)) = true := ht
    rcases hm with hm | hm <;> rw [hm] at ht' <;> exact absurd ht' (by decide)
end Tk
end Go.Proofs.YtdlbmfgajgefdaaGreatDoor
namespace Go.Proofs.YtdlbmfgajgefdaaGreatDoor
namespace Tk

def isLet (c : UInt8) : Bool := decide (65 ≤ c.toNat ∧ c.toNat ≤ 90) || decide (97 ≤ c.toNat ∧ c.toNat ≤ 122)
def marksL : Bs := [45, 46, 95, 126, 33, 36, 38, 39, 40, 41, 42, 43, 44, 59, 61, 37]
def inName (c : UInt8) : Bool := isLet c || isDig c || marksL.contains c
def inAddr (c : UInt8) : Bool := isDig c || decide (65 ≤ c.toNat ∧ c.toNat ≤ 70) || decide (97 ≤ c.toNat ∧ c.toNat ≤ 102) || decide (c.toNat = 58) || decide (c.toNat = 46)

/-- where the brackets of an address end; nought without brackets -/
def cIn (l : Bs) : Nat := (Lib.indexByte l 93 + 1).toNat
def hostN (l : Bs) : Bs := l.take (cIn l + (cutL 58 (l.drop (cIn l))).1.length)
def hostP (l : Bs) : Bs := (cutL 58 (l.drop (cIn l))).2.1
def brOk (n : Bs) : Bool := Lib.hasSuffix (n.drop 1) [93] && someL inAddr ((n.drop 1).take ((n.drop 1).length - 1))
def nameOk (n : Bs) : Bool := if Lib.hasPrefix n [91] then brOk n else someL inName n
def portOk (q : Bs) : Bool := decide (q.length ≤ 5) && q.all isDig
def hostL (l : Bs) : Bool := portOk (hostP l) && nameOk (hostN l)

theorem ix_none (c : UInt8) : ∀ l : Bs, (∀ x ∈ l, x ≠ c) → Lib.indexByte l c = -1
  | [], _ => rfl
  | a :: t, h => by
    have h1 : (a == c) = false := beq_eq_false_iff_ne.2 (h a (by simp))
    unfold Lib.indexByte
    rw [h1, ix_none c t fun x hx => h x (by simp [hx])]
    simp
theorem ix_at (c : UInt8) (r : Bs) : ∀ a : Bs, (∀ x ∈ a, x ≠ c) → Lib.indexByte (a ++ c :: r) c = a.length
  | [], _ => by unfold Lib.indexByte; simp
  | b :: t, h => by
    have h1 : (b == c) = false := beq_eq_false_iff_ne.2 (h b (by simp))
    rw [List.cons_append]
    unfold Lib.indexByte
    rw [h1, ix_at c r t fun x hx => h x (by simp [hx])]
    have h2 : ((t.length : Int) == -1) = false := by rw [beq_eq_false_iff_ne]; omega
    rw [h2]; simp
theorem ix_le (c : UInt8) : ∀ l : Bs, Lib.indexByte l c + 1 ≤ l.length
  | [] => by simp [Lib.indexByte]
  | a :: t => by
    have := ix_le c t
    unfold Lib.indexByte
    split
    · simp only [List.length_cons]; omega
    · split <;> simp <;> omega
theorem cIn_le (l : Bs) : cIn l ≤ l.length := by
  have := ix_le 93 l
  unfold cIn; omega

/-- a name of a host: its bytes, or an address in brackets -/
theorem name_form (n : Bs) (h : nameOk n = true) : (n.head? ≠ some 91 ∧ someL inName n = true) ∨ ∃ a, n = 91 :: (a ++ [93]) ∧ someL inAddr a = true := by
  unfold nameOk at h
  match n, h with
  | [], h => exact absurd h (by decide)
  | c :: t, h =>
    by_cases e : c = 91
    · subst e
      right
      have hp : Lib.hasPrefix (91 :: t) [91] = true := by unfold Lib.hasPrefix; simp
      rw [if_pos hp] at h
      unfold brOk at h
      rw [Bool.and_eq_true] at h
      obtain ⟨hs, ha⟩ := h
      rw [List.drop_one, List.tail_cons] at hs ha
      unfold Lib.hasSuffix at hs
      obtain ⟨a, rfl⟩ := List.isSuffixOf_iff_suffix.1 hs
      refine ⟨a, rfl, ?_⟩
      rw [List.length_append, List.length_singleton, Nat.add_sub_cancel, List.take_left] at ha
      exact ha
    · left
      have hp : Lib.hasPrefix (c :: t) [91] = false := by unfold Lib.hasPrefix; simp [List.isPrefixOf]; exact fun h => e h.symm
      rw [if_neg (by rw [hp]; simp)] at h
      exact ⟨by simpa using e, h⟩
theorem name_plain (n : Bs) (h : n.head? ≠ some 91) : nameOk n = someL inName n := by
  unfold nameOk
  rw [if_neg]
  match n, h with
  | [], _ => decide
  | c :: t, h =>
    have e : c ≠ 91 := by simpa using h
    unfold Lib.hasPrefix; simp [List.isPrefixOf]; exact fun h => e h.symm
theorem name_br (a : Bs) : nameOk (91 :: (a ++ [93])) = someL inAddr a := by
  unfold nameOk
  rw [if_pos (by unfold Lib.hasPrefix; simp)]
  unfold brOk
  rw [List.drop_one, List.tail_cons, List.length_append, List.length_singleton, Nat.add_sub_cancel, List.take_left]
  have : Lib.hasSuffix (a ++ [93]) [93] = true := by
    unfold Lib.hasSuffix; exact List.isSuffixOf_iff_suffix.2 ⟨a, rfl⟩
  rw [this, Bool.true_and]

theorem someL_all {p : UInt8 → Bool} {l : Bs} (h : someL p l = true) : l.all p = true := by
  unfold someL at h; rw [Bool.and_eq_true] at h; exact h.2
theorem port_dig {q : Bs} (h : portOk q = true) : q.all isDig = true := by
  unfold portOk at h; rw [Bool.and_eq_true] at h; exact h.2

/-- a host: a name, and perhaps a colon and a port -/
def HostG (l : Bs) (n q : Bs) (f : Bool) : Prop := l = n ++ (if f then 58 :: q else []) ∧ (f = false → q = []) ∧ nameOk n = true ∧ portOk q = true

theorem tail_no93 (q : Bs) (f : Bool) (hq : portOk q = true) : ∀ x ∈ (if f then 58 :: q else [] : Bs), x ≠ (93 : UInt8) := by
  intro x hx
  cases f
  · simp at hx
  · rcases List.mem_cons.1 hx with rfl | hx
    · decide
    · exact all_ne isDig q (port_dig hq) 93 (by decide) x hx

theorem host_cut {l n q : Bs} {f : Bool} (h : HostG l n q f) : hostN l = n ∧ hostP l = q := by
  obtain ⟨rfl, hf, hn, hq⟩ := h
  have ht := tail_no93 q f hq
  rcases name_form n hn with ⟨-, hi⟩ | ⟨a, rfl, ha⟩
  · have hi2 := someL_all hi
    have h0 : cIn (n ++ (if f then 58 :: q else [])) = 0 := by
      unfold cIn
      rw [ix_none]
      · rfl
      · intro x hx
        rcases List.mem_append.1 hx with hx | hx
        · exact all_ne inName n hi2 93 (by decide) x hx
        · exact ht x hx
    unfold hostN hostP
    rw [h0, List.drop_zero, Nat.zero_add]
    have hc : cutL 58 (n ++ (if f then 58 :: q else [])) = (n, q, f) := by
      cases f
      · simp only [Bool.false_eq_true, if_false, List.append_nil]
        rw [cut_none 58 n (all_ne inName n hi2 58 (by decide)), hf rfl]
      · simp only [if_true]
        exact cutL_at 58 n q (all_ne inName n hi2 58 (by decide))
    rw [hc]
    simp
  · have ha2 := someL_all ha
    have h0 : cIn (91 :: (a ++ [93]) ++ (if f then 58 :: q else [])) = a.length + 2 := by
      have e : 91 :: (a ++ [93]) ++ (if f then 58 :: q else [] : Bs) = (91 :: a) ++ 93 :: (if f then 58 :: q else []) := by simp
      unfold cIn
      rw [e, ix_at]
      · simp only [List.length_cons]; omega
      · intro x hx
        rcases List.mem_cons.1 hx with rfl | hx
        · decide
        · exact all_ne inAddr a ha2 93 (by decide) x hx
    have hlen : (91 :: (a ++ [93])).length = a.length + 2 := by simp
    have hd : (91 :: (a ++ [93]) ++ (if f then 58 :: q else [] : Bs)).drop (a.length + 2) = (if f then 58 :: q else []) := by
      rw [← hlen, List.drop_left]
    unfold hostN hostP
    rw [h0, hd]
    have hc : cutL 58 (if f then 58 :: q else []) = ([], q, f) := by
      cases f
      · rw [hf rfl]; rfl
      · exact cutL_at 58 [] q (by simp)
    rw [hc]
    refine ⟨?_, rfl⟩
    simp only [List.length_nil, Nat.add_zero]
    rw [← hlen, List.take_left]

theorem host_of {l n q : Bs} {f : Bool} (h : HostG l n q f) : hostL l = true := by
  obtain ⟨h1, h2⟩ := host_cut h
  obtain ⟨-, -, hn, hq⟩ := h
  unfold hostL
  rw [h1, h2, hn, hq]; rfl
theorem host_is (l : Bs) (h : hostL l = true) : ∃ f, HostG l (hostN l) (hostP l) f := by
  have hh := h
  unfold hostL at hh
  rw [Bool.and_eq_true] at hh
  refine ⟨(cutL 58 (l.drop (cIn l))).2.2, ?_, ?_, hh.2, hh.1⟩
  · have hs := cut_split 58 (l.drop (cIn l))
    unfold hostN hostP
    have e : l.take (cIn l + (cutL 58 (l.drop (cIn l))).1.length) = l.take (cIn l) ++ (cutL 58 (l.drop (cIn l))).1 := by
      rw [List.take_add]
      congr 1
      generalize hA : (cutL 58 (l.drop (cIn l))) = A at *
      rw [hs]
      exact List.take_left' rfl
    rw [e, List.append_assoc, ← hs, List.take_append_drop]
  · intro hf
    exact cut_nil_of 58 _ hf

theorem host_iff (l : Bs) : hostL l = true ↔ ∃ n q f, HostG l n q f :=
  ⟨fun h => by obtain ⟨f, hf⟩ := host_is l h; exact ⟨_, _, _, hf⟩, fun ⟨_, _, _, h⟩ => host_of h⟩

theorem split_first {a b r s : Bs} {c : UInt8} (ha : ∀ x ∈ a, x ≠ c) (hb : ∀ x ∈ b, x ≠ c) (h : a ++ c :: r = b ++ c :: s) : a = b ∧ r = s := by
  have h1 := cutL_at c a r ha
  rw [h, cutL_at c b s hb] at h1
  injection h1 with e1 e2
  injection e2 with e3 e4
  exact ⟨e1.symm, e3.symm⟩

/-- with a port -/
theorem host_port (m q : Bs) (h1 : (∀ x ∈ m, x ≠ (58 : UInt8)) ∨ m.head? = some 91) (h2 : m.head? = some 91 → m.getLast? = some 93) :
    hostL (m ++ 58 :: q) = (hostL m && portOk q) := by
  rw [Bool.eq_iff_iff, Bool.and_eq_true, host_iff, host_iff]
  constructor
  · rintro ⟨n, p, f, he, hf, hn, hp⟩
    have hm : m = n ∧ q = p ∧ f = true := by
      cases f
      · exfalso
        rw [if_neg (by simp), List.append_nil] at he
        rcases name_form n hn with ⟨h91, hi⟩ | ⟨a, rfl, ha⟩
        · exact all_ne inName n (someL_all hi) 58 (by decide) 58 (by rw [← he]; simp) rfl
        · match m, he with
          | [], he => injection he with e _; exact absurd e (by decide)
          | c :: t, he =>
            have hc : c = 91 := by injection he
            subst hc
            have hl := h2 rfl
            obtain ⟨t2, ht2⟩ := List.getLast?_eq_some_iff.1 hl
            have hmem : (93 : UInt8) ∈ a := by
              have ht : t ++ 58 :: q = a ++ [93] := by injection he
              match t2, ht2 with
              | [], ht2 => injection ht2 with e _; exact absurd e (by decide)
              | d :: t3, ht2 =>
                have ht3 : t = t3 ++ [93] := by injection ht2
                rw [ht3, List.append_assoc] at ht
                rcases List.eq_nil_or_concat q with hq | ⟨q', z, hq⟩
                · subst hq
                  have := congrArg List.getLast? ht
                  simp at this
                · rw [List.concat_eq_append] at hq
                  subst hq
                  have e2 : t3 ++ ([93] ++ 58 :: (q' ++ [z])) = (t3 ++ 93 :: 58 :: q') ++ [z] := by simp
                  rw [e2] at ht
                  have := List.append_inj' ht rfl
                  rw [← this.1]; simp
            exact all_ne inAddr a (someL_all ha) 93 (by decide) 93 hmem rfl
      · rw [if_pos rfl] at he
        rcases name_form n hn with ⟨h91, hi⟩ | ⟨a, rfl, ha⟩
        · have hn58 := all_ne inName n (someL_all hi) 58 (by decide)
          rcases h1 with h1 | h1
          · obtain ⟨e1, e2⟩ := split_first h1 hn58 he
            exact ⟨e1, e2, rfl⟩
          · exfalso
            match m, h1 with
            | c :: t, h1 =>
              have hc : c = 91 := by simpa using h1
              subst hc
              match n, hi with
              | d :: n', hi =>
                have hd : (91 : UInt8) = d := by injection he
                subst hd
                exact h91 rfl
        · match m, he with
          | [], he => injection he with e _; exact absurd e (by decide)
          | c :: t, he =>
            have hc : c = 91 := by injection he
            subst hc
            obtain ⟨t2, ht2⟩ := List.getLast?_eq_some_iff.1 (h2 rfl)
            have ht : t ++ 58 :: q = a ++ 93 :: 58 :: p := by
              have : t ++ 58 :: q = (a ++ [93]) ++ 58 :: p := by injection he
              rw [this]; simp
            match t2, ht2 with
            | [], ht2 => injection ht2 with e _; exact absurd e (by decide)
            | d :: t3, ht2 =>
              have ht3 : t = t3 ++ [93] := by injection ht2
              have ha93 := all_ne inAddr a (someL_all ha) 93 (by decide)
              by_cases hin : ∀ x ∈ t3, x ≠ (93 : UInt8)
              · rw [ht3, List.append_assoc] at ht
                obtain ⟨e1, e2⟩ := split_first hin ha93 ht
                injection e2 with _ e3
                subst e1 e3 ht3
                exact ⟨by simp, rfl, rfl⟩
              · exfalso
                have hin : (93 : UInt8) ∈ t3 := by
                  apply Classical.byContradiction
                  intro hno
                  exact hin fun x hx e => hno (e ▸ hx)
                obtain ⟨u, v, huv, hu⟩ : ∃ u v, t3 = u ++ 93 :: v ∧ ∀ x ∈ u, x ≠ (93 : UInt8) := by
                  have hs := cut_split 93 t3
                  have hf : (cutL 93 t3).2.2 = true := by unfold cutL; rw [if_pos (by simpa using hin)]
                  rw [if_pos hf] at hs
                  exact ⟨_, _, hs, cut_first 93 t3⟩
                rw [ht3, huv] at ht
                have e4 : u ++ 93 :: v ++ [93] ++ 58 :: q = u ++ 93 :: (v ++ [93] ++ 58 :: q) := by simp
                rw [e4] at ht
                obtain ⟨-, e2⟩ := split_first hu ha93 ht
                have hp93 : ∀ x ∈ (58 :: p : Bs), x ≠ (93 : UInt8) := by
                  have := tail_no93 p true hp
                  rw [if_pos rfl] at this
                  exact this
                exact hp93 93 (by rw [← e2]; simp) rfl
    obtain ⟨rfl, rfl, rfl⟩ := hm
    exact ⟨⟨m, [], false, by simp, fun _ => rfl, hn, rfl⟩, hp⟩
  · rintro ⟨⟨n, p, f, he, hf, hn, hp⟩, hq⟩
    cases f
    · rw [if_neg (by simp), List.append_nil] at he
      subst he
      exact ⟨m, q, true, by simp, by simp, hn, hq⟩
    · exfalso
      rw [if_pos rfl] at he
      subst he
      rcases h1 with h1 | h1
      · exact h1 58 (by simp) rfl
      · have hl := h2 h1
        have hp' : (n ++ 58 :: p).getLast? = (58 :: p).getLast? := by
          rw [List.getLast?_append]
          simp [List.getLast?_cons]
        rw [hp'] at hl
        have hm : (93 : UInt8) ∈ (58 :: p : Bs) := List.mem_of_getLast? hl
        have := tail_no93 p true hp
        rw [if_pos rfl] at this
        exact this 93 hm rfl

theorem lowB_cases (c : UInt8) : (lowB c = c ∧ ¬ (65 ≤ c.toNat ∧ c.toNat ≤ 90)) ∨ (65 ≤ c.toNat ∧ c.toNat ≤ 90 ∧ (lowB c).toNat = c.toNat + 32) := by
  by_cases h : 65 ≤ c.toNat ∧ c.toNat ≤ 90
  · right
    have := lowB_up c h.1 h.2
    exact ⟨h.1, h.2, by omega⟩
  · exact .inl ⟨lowB_same c h, h⟩
theorem low_all (p : UInt8 → Bool) (hp : ∀ c, p (lowB c) = p c) (l : Bs) : (lowL l).all p = l.all p := by
  unfold lowL; rw [List.all_map]; congr 1; funext c; exact hp c
theorem u8_all (p : UInt8 → Bool) (h : ((List.range 256).all fun n => p (UInt8.ofNat n)) = true) (c : UInt8) : p c = true := by
  have := List.all_eq_true.1 h c.toNat (by simp; exact c.toNat_lt)
  rwa [UInt8.ofNat_toNat] at this
theorem inName_low (c : UInt8) : inName (lowB c) = inName c := by
  have := u8_all (fun c => inName (lowB c) == inName c) (by decide +kernel) c
  simpa using this
theorem inAddr_low (c : UInt8) : inAddr (lowB c) = inAddr c := by
  have := u8_all (fun c => inAddr (lowB c) == inAddr c) (by decide +kernel) c
  simpa using this
theorem isDig_low (c : UInt8) : isDig (lowB c) = isDig c := by
  have := u8_all (fun c => isDig (lowB c) == isDig c) (by decide +kernel) c
  simpa using this
theorem low_is (d : UInt8) (hd : d = 58 ∨ d = 91 ∨ d = 93) (c : UInt8) : lowB c = d ↔ c = d := by
  have h : (decide (lowB c = d) == decide (c = d)) = true := by
    rcases hd with rfl | rfl | rfl
    · exact u8_all (fun c => decide (lowB c = 58) == decide (c = 58)) (by decide +kernel) c
    · exact u8_all (fun c => decide (lowB c = 91) == decide (c = 91)) (by decide +kernel) c
    · exact u8_all (fun c => decide (lowB c = 93) == decide (c = 93)) (by decide +kernel) c
  simpa using h
theorem some_low (p : UInt8 → Bool) (hp : ∀ c, p (lowB c) = p c) (l : Bs) : someL p (lowL l) = someL p l := by
  unfold someL
  rw [low_all p hp]
  congr 1
  cases l <;> rfl
theorem name_low (n : Bs) (h : nameOk n = true) : nameOk (lowL n) = true := by
  rcases name_form n h with ⟨h91, hi⟩ | ⟨a, rfl, ha⟩
  · rw [name_plain]
    · rw [some_low inName inName_low]; exact hi
    · intro e
      match n, e with
      | c :: t, e =>
        have : lowB c = 91 := by simpa [lowL] using e
        exact h91 (by simpa using (low_is 91 (by decide) c).1 this)
  · have e : lowL (91 :: (a ++ [93])) = 91 :: (lowL a ++ [93]) := by simp [lowL]; decide
    rw [e, name_br, some_low inAddr inAddr_low]; exact ha
theorem name_unlow (n : Bs) (h : nameOk (lowL n) = true) : nameOk n = true := by
  by_cases h91 : n.head? = some 91
  · match n, h91 with
    | c :: t, h91 =>
      have hc : c = 91 := by simpa using h91
      subst hc
      rcases name_form _ h with ⟨h', -⟩ | ⟨a, he, ha⟩
      · exact absurd rfl h'
      · have ht : lowL t = a ++ [93] := by
          have : lowL (91 :: t) = 91 :: lowL t := rfl
          rw [this] at he
          injection he
        obtain ⟨t1, t2, rfl, e1, e2⟩ := List.map_eq_append_iff.1 ht
        have ht2 : t2 = [93] := by
          have hl : t2.length = 1 := by have := congrArg List.length e2; simpa using this
          obtain ⟨x, rfl⟩ := List.length_eq_one_iff.1 hl
          have : lowB x = 93 := by simpa using e2
          rw [(low_is 93 (by decide) x).1 this]
        subst ht2
        rw [name_br, ← some_low inAddr inAddr_low]
        have e1' : lowL t1 = a := e1
        rw [e1']; exact ha
  · rw [name_plain n h91, ← some_low inName inName_low]
    rw [name_plain] at h
    · exact h
    · intro e
      match n, e with
      | c :: t, e =>
        have : lowB c = 91 := by simpa [lowL] using e
        exact h91 (by simpa using (low_is 91 (by decide) c).1 this)
theorem port_low (q : Bs) : portOk (lowL q) = portOk q := by
  unfold portOk; rw [low_all isDig isDig_low, length_lowL]
theorem host_low (l : Bs) : hostL (lowL l) = hostL l := by
  rw [Bool.eq_iff_iff, host_iff, host_iff]
  constructor
  · rintro ⟨n, q, f, he, hf, hn, hq⟩
    obtain ⟨n', r, rfl, e1, e2⟩ := List.map_eq_append_iff.1 he
    have e1' : lowL n' = n := e1
    subst e1'
    cases f
    · rw [if_neg (by simp)] at e2
      have : r = [] := by simpa using e2
      subst this
      exact ⟨n', [], false, by simp, fun _ => rfl, name_unlow _ hn, rfl⟩
    · rw [if_pos rfl] at e2
      match r, e2 with
      | c :: q', e2 =>
        rw [List.map_cons] at e2
        injection e2 with ec eq
        have eq' : lowL q' = q := eq
        subst eq'
        rw [(low_is 58 (by decide) c).1 ec]
        exact ⟨n', q', true, by simp, by simp, name_unlow _ hn, by rw [← port_low]; exact hq⟩
  · rintro ⟨n, q, f, rfl, hf, hn, hq⟩
    refine ⟨lowL n, lowL q, f, ?_, fun h => by rw [hf h]; rfl, name_low n hn, by rw [port_low]; exact hq⟩
    cases f
    · simp
    · simp [lowL]; decide

/-- which bytes a host has -/
theorem name_bytes (n : Bs) (h : nameOk n = true) (p : UInt8 → Bool) (hp : ∀ c, (inName c || inAddr c || decide (c = 91) || decide (c = 93)) = true → p c = true) : n.all p = true := by
  rw [List.all_eq_true]
  intro x hx
  apply hp
  rcases name_form n h with ⟨-, hi⟩ | ⟨a, rfl, ha⟩
  · have := List.all_eq_true.1 (someL_all hi) x hx
    rw [this]; simp
  · have := List.all_eq_true.1 (someL_all ha)
    simp at hx
    rcases hx with rfl | hx | rfl
    · decide
    · rw [this x hx]; simp
    · decide
theorem host_bytes (l : Bs) (h : hostL l = true) (p : UInt8 → Bool) (hp : ∀ c, (inName c || inAddr c || decide (c = 91) || decide (c = 93)) = true → p c = true) : l.all p = true := by
  obtain ⟨n, q, f, rfl, hf, hn, hq⟩ := (host_iff l).1 h
  rw [List.all_append, name_bytes n hn p hp, Bool.true_and]
  cases f
  · rfl
  · rw [if_pos rfl, List.all_cons, hp 58 (by decide), Bool.true_and, List.all_eq_true]
    intro x hx
    apply hp
    have := List.all_eq_true.1 (port_dig hq) x hx
    unfold inName
    rw [this]; simp

theorem hb_of (p : UInt8 → Bool) (h : ((List.range 256).all fun n => !(inName (UInt8.ofNat n) || inAddr (UInt8.ofNat n) || decide (UInt8.ofNat n = 91) || decide (UInt8.ofNat n = 93)) || p (UInt8.ofNat n)) = true) (c : UInt8) (hc : (inName c || inAddr c || decide (c = 91) || decide (c = 93)) = true) : p c = true := by
  have := u8_all (fun c => !(inName c || inAddr c || decide (c = 91) || decide (c = 93)) || p c) h c
  simp only [hc] at this
  simpa using this
/-- targets -/
def connectL : Bs := [67, 79, 78, 78, 69, 67, 84]
def optionsL : Bs := [79, 80, 84, 73, 79, 78, 83]
def schemeL : Bs := [104, 116, 116, 112, 58, 47, 47]
def noEnd (c : UInt8) : Bool := !(c == 47 || c == 63)
def tHost (s : Bs) : Bs := (s.drop 7).takeWhile noEnd
def tRest (s : Bs) : Bs := (s.drop 7).dropWhile noEnd
def tPath (s : Bs) : Bs := if Lib.hasPrefix (tRest s) [47] then tRest s else 47 :: tRest s
def absOk (s : Bs) : Bool := decide (lowL (s.take 7) = schemeL) && hostL (tHost s)
def tgtOk (s : Bs) : Bool := someL vis s && !s.contains 35

/-- the form of a target, its host and its path; nought, and none, if it is refused -/
def tgt (m s : Bs) : Nat × Bs × Bs :=
  if tgtOk s = false then (0, [], [])
  else if m = connectL then (if hostP s ≠ [] ∧ hostL s = true then (3, lowL s, []) else (0, [], []))
  else if m = optionsL ∧ s = [42] then (4, [], [])
  else if s.head? = some 47 then (1, [], s)
  else if absOk s = true then (2, lowL (tHost s), tPath s) else (0, [], [])
def tgtSt (m s : Bs) : Nat := if (tgt m s).1 = 0 then 400 else 0

theorem tgt_shape (m s : Bs) : ((tgt m s).1 = 0 ∧ (tgt m s).2 = ([], [])) ∨ ((tgt m s).1 = 1 ∧ (tgt m s).2 = ([], s) ∧ s.head? = some 47 ∧ tgtOk s = true ∧ m ≠ connectL) ∨ ((tgt m s).1 = 2 ∧ (tgt m s).2.2 ≠ []) ∨ ((tgt m s).1 = 3 ∧ (tgt m s).2.2 = []) ∨ ((tgt m s).1 = 4 ∧ (tgt m s).2.2 = []) := by
  unfold tgt
  by_cases h1 : tgtOk s = false
  · rw [if_pos h1]; simp
  · rw [if_neg h1]
    by_cases h2 : m = connectL
    · rw [if_pos h2]
      split <;> simp
    · rw [if_neg h2]
      by_cases h3 : m = optionsL ∧ s = [42]
      · rw [if_pos h3]; simp
      · rw [if_neg h3]
        by_cases h4 : s.head? = some 47
        · rw [if_pos h4]
          right; left
          exact ⟨rfl, rfl, h4, by simpa using h1, h2⟩
        · rw [if_neg h4]
          by_cases h5 : absOk s = true
          · rw [if_pos h5]
            right; right; left
            refine ⟨rfl, ?_⟩
            show tPath s ≠ []
            unfold tPath
            split
            · next h =>
              intro e
              rw [e] at h
              exact absurd h (by decide)
            · simp
          · rw [if_neg h5]; simp

theorem takeWhile_app (p : UInt8 → Bool) (a b : Bs) (h : a.all p = true) : (a ++ b).takeWhile p = a ++ b.takeWhile p ∧ (a ++ b).dropWhile p = b.dropWhile p := by
  have h' : ∀ x ∈ a, p x = true := fun x hx => List.all_eq_true.1 h x hx
  exact ⟨List.takeWhile_append_of_pos h', List.dropWhile_append_of_pos h'⟩

/-- a path after a host -/
theorem tgt_abs (m pre h p : Bs) (hm : m ≠ connectL) (hpre : pre.length = 7) (hlow : lowL pre = schemeL) (hvis : pre.all vis = true) (hsh : pre.contains 35 = false) (hh : hostL h = true) (hp0 : p.head? = some 47) (hp : tgtOk p = true) :
    tgt m (pre ++ h ++ p) = (2, lowL h, p) := by
  have hv : tgtOk (pre ++ h ++ p) = true := by
    unfold tgtOk someL at hp ⊢
    simp only [Bool.and_eq_true, Bool.not_eq_true'] at hp
    have h1 := host_bytes h hh vis (hb_of vis (by decide +kernel))
    have h2 : h.contains 35 = false := by
      have := host_bytes h hh (fun c => c != 35) (hb_of _ (by decide +kernel))
      rw [List.contains_eq_any_beq]
      rw [List.any_eq_false]
      intro x hx
      have := List.all_eq_true.1 this x hx
      simp at this ⊢
      exact fun e => this e.symm
    have e : (pre ++ h ++ p).contains 35 = false := by
      rw [List.contains_eq_any_beq] at hsh h2 ⊢
      have hp2 := hp.2
      rw [List.contains_eq_any_beq] at hp2
      rw [List.any_append, List.any_append, hsh, h2, hp2]; rfl
    rw [e, List.all_append, List.all_append, hvis, h1, hp.1.2]
    match pre, hpre with
    | c :: t, _ => rfl
  have hd : (pre ++ h ++ p).drop 7 = h ++ p := by
    rw [List.append_assoc, ← hpre, List.drop_left]
  have ht : (pre ++ h ++ p).take 7 = pre := by
    rw [List.append_assoc, ← hpre, List.take_left]
  obtain ⟨p', rfl⟩ : ∃ p', p = 47 :: p' := by
    match p, hp0 with
    | c :: t, h0 => exact ⟨t, by rw [show c = 47 by simpa using h0]⟩
  have hno := host_bytes h hh noEnd (hb_of noEnd (by decide +kernel))
  obtain ⟨w1, w2⟩ := takeWhile_app noEnd h (47 :: p') hno
  have w3 : (47 :: p' : Bs).takeWhile noEnd = [] := by rw [List.takeWhile_cons]; rfl
  have w4 : (47 :: p' : Bs).dropWhile noEnd = 47 :: p' := by rw [List.dropWhile_cons]; rfl
  have e1 : tHost (pre ++ h ++ 47 :: p') = h := by unfold tHost; rw [hd, w1, w3, List.append_nil]
  have e2 : tRest (pre ++ h ++ 47 :: p') = 47 :: p' := by unfold tRest; rw [hd, w2, w4]
  have e3 : tPath (pre ++ h ++ 47 :: p') = 47 :: p' := by
    unfold tPath
    rw [e2, if_pos (by unfold Lib.hasPrefix; simp)]
  have hhead : lowL (pre ++ h ++ 47 :: p') = schemeL ++ lowL h ++ lowL (47 :: p') := by
    rw [← hlow]; simp [lowL]
  have n1 : ¬ (m = optionsL ∧ pre ++ h ++ 47 :: p' = [42]) := by
    rintro ⟨-, e⟩
    have := congrArg List.length e
    simp only [List.length_append, List.length_cons, List.length_nil] at this
    omega
  have n2 : (pre ++ h ++ 47 :: p').head? ≠ some 47 := by
    intro e
    match pre, hpre, hlow with
    | c :: t, _, hl =>
      have hc : c = 47 := by simpa using e
      subst hc
      have h1 : (lowL (47 :: t)).head? = some 47 := by simp [lowL]; decide
      rw [hl] at h1
      exact absurd h1 (by decide)
  unfold tgt
  rw [if_neg (by rw [hv]; simp), if_neg hm, if_neg n1, if_neg n2, if_pos (by unfold absOk; rw [ht, hlow, e1, hh]; rfl), e1, e3]
end Tk
end Go.Proofs.YtdlbmfgajgefdaaGreatDoor
namespace Go.Proofs.YtdlbmfgajgefdaaGreatDoor
open Go.RowKit
namespace Tk

set_option maxHeartbeats 1000000 in
set_option maxRecDepth 100000 in
theorem token_any (s : ByteArray) (w : World) (hs : s.size ≤ 1099511627776) :
    Calls Tryz.prog 51 #[.string s] w fun e w' => e = .returned (.bool (!(bs s).isEmpty && allL 2 (bs s))) ∧ Below w.heap.size w w' := by
  have H := Lib.hid (all_any s 2 w hs)
  cases hb : (bs s).isEmpty
  · have he : s.toList.isEmpty = false := by rw [toList_bs]; exact hb
    clear hb
    go_enter Tryz.func51, Tryz.ntmps51
    go_wp2_with fail
    refine H.out.mono ?_
    rintro e w' ⟨rfl, hb⟩
    have HB := Lib.hid hb
    clear hb
    go_wp2_with fail
    go_ret
    exact ⟨rfl, HB.out⟩
  · have he : s.toList.isEmpty = true := by rw [toList_bs]; exact hb
    clear hb
    go_enter Tryz.func51, Tryz.ntmps51
    go_wp2_with fail
    go_ret
    exact ⟨rfl, Below.refl _ _⟩
end Tk
end Go.Proofs.YtdlbmfgajgefdaaGreatDoor
namespace Go.Proofs.YtdlbmfgajgefdaaGreatDoor
open Go.RowKit
namespace Tk

theorem retB {a b : Bool} (h : a = b) : Ending.returned (.bool a) = .returned (.bool b) := by rw [h]

set_option maxHeartbeats 400000 in
theorem visible_any (c : UInt8) (w : World) :
    Calls Tryz.prog 180 #[.int .u8 (c.toNat : Int)] w fun e w' => e = .returned (.bool (vis c)) ∧ w = w' := by
  have hlt := c.toNat_lt
  have HD := Lib.hid (show vis c = (decide (33 ≤ c.toNat) && decide (c.toNat ≤ 126)) from rfl)
  generalize c.toNat = n at *
  by_cases h0 : 32 < n <;> by_cases h1 : n ≤ 126
  all_goals
    first
    | omega
    | (go_enter Tryz.func180, Tryz.ntmps180
       go_wp2_with fail
       go_ret
       exact ⟨retB (by rw [HD.out, Bool.eq_iff_iff]; simp; omega), rfl⟩)

theorem ix_cons (a c : UInt8) (t : Bs) : Lib.indexByte (a :: t) c = if a == c then 0 else if Lib.indexByte t c == -1 then -1 else Lib.indexByte t c + 1 := rfl
theorem ix_contains (c : UInt8) : ∀ l : Bs, decide (0 ≤ Lib.indexByte l c) = l.contains c
  | [] => by simp [Lib.indexByte]
  | a :: t => by
    have ih := ix_contains c t
    have hg := Lib.indexByte_ge t c
    rw [List.contains_cons, ← ih, ix_cons]
    by_cases h : a = c
    · subst h; simp
    · have h1 : (a == c) = false := beq_eq_false_iff_ne.2 h
      have h2 : (c == a) = false := beq_eq_false_iff_ne.2 (fun e => h e.symm)
      rw [h1, h2, Bool.false_or]
      generalize Lib.indexByte t c = k at *
      by_cases hm : k = -1
      · subst hm; rfl
      · have h3 : (k == -1) = false := by rw [beq_eq_false_iff_ne]; exact hm
        rw [h3, Bool.eq_iff_iff]; simp; omega

end Tk
end Go.Proofs.YtdlbmfgajgefdaaGreatDoor
namespace Go.Proofs.YtdlbmfgajgefdaaGreatDoor
open Go.RowKit
namespace Tk

theorem bdraws (w : World) (n : Nat) : Below w.heap.size w (w.drewN n) := ⟨rfl, rfl, rfl, Nat.le_refl _, fun _ _ => rfl⟩

/-- a function of a byte that answers p -/
def PredF (F : FuncId) (p : UInt8 → Bool) : Prop :=
  (∀ args w, (callFunc F args).run Tryz.prog w = .ok (.enter F args) w) ∧ ∀ (c : UInt8) (W : World), Calls Tryz.prog F #[.int .u8 (c.toNat : Int)] W fun e w' => e = .returned (.bool (p c)) ∧ Below W.heap.size W w'
theorem predF_same {F : FuncId} {p : UInt8 → Bool} (h1 : ∀ args w, (callFunc F args).run Tryz.prog w = .ok (.enter F args) w) (h2 : ∀ (c : UInt8) (W : World), Calls Tryz.prog F #[.int .u8 (c.toNat : Int)] W fun e w' => e = .returned (.bool (p c)) ∧ W = w') : PredF F p :=
  ⟨h1, fun c W => (h2 c W).mono fun _ _ ⟨a, b⟩ => ⟨a, b ▸ Below.refl _ _⟩⟩

theorem all_cons2 (p : UInt8 → Bool) (c : UInt8) (t : Bs) : (c :: t).all p = (p c && t.all p) := rfl

set_option maxHeartbeats 1000000 in
set_option maxRecDepth 100000 in
theorem sall_any (F : FuncId) (p : UInt8 → Bool) (hp : PredF F p) (s : ByteArray) (w : World) (hs : s.size ≤ 1099511627776) :
    Calls Tryz.prog 181 #[.string s, .func (.func F) #[] #[]] w fun e w' => e = .returned (.bool ((bs s).all p)) ∧ Below w.heap.size w w' := by
  obtain ⟨eg, hp⟩ := hp
  have HPp := Lib.hid hp
  clear hp
  go_enter Tryz.func181, Tryz.ntmps181
  go_wp2_with fail
  go_loopw [8, 5] (fun v _ wr => ∃ i : Nat, i ≤ s.size ∧ v = .int .i64 i ∧ Hid (Below w.heap.size w wr) ∧ Hid ((bs s).all p = ((bs s).drop i).all p)) (fun v _ _ => s.size - (RowKit.intOf v).toNat)
  case atStart => exact ⟨0, Nat.zero_le _, rfl, Below.refl _ _, rfl⟩
  case round =>
    obtain ⟨i, hi, rfl, HB, hd⟩ := hrel
    rename World => W
    by_cases hlt : i < s.size
    · have D := Lib.hid (bs_drop s i hlt)
      have HC := HPp.out s[i] W
      cases hk : p s[i]
      · rw [hk] at HC
        have fin : (bs s).all p = false := by rw [hd.out, D.out, all_cons2, hk]; rfl
        have HF := Lib.hid fin
        have HC2 := Lib.hid HC
        clear fin HC hk
        go_wp2_with fail
        refine HC2.out.mono ?_
        rintro e w' ⟨rfl, hb⟩
        have HB2 := Lib.hid (HB.out.trans (hb.mono HB.out.size))
        clear hb
        go_wp2_with fail
        go_ret
        exact ⟨by rw [HF.out]; rfl, HB2.out⟩
      · rw [hk] at HC
        have nx : (bs s).all p = ((bs s).drop (i + 1)).all p := by rw [hd.out, D.out, all_cons2, hk, Bool.true_and]
        have HX := Lib.hid nx
        have HC2 := Lib.hid HC
        clear nx HC hk
        go_wp2_with fail
        refine HC2.out.mono ?_
        rintro e w' ⟨rfl, hb⟩
        have HB2 := Lib.hid (HB.out.trans (hb.mono HB.out.size))
        clear hb
        go_wp2_with fail
        exact ⟨⟨i + 1, by omega, by go_num, HB2, HX⟩, by simp [RowKit.intOf]; omega⟩
    · have fin : (bs s).all p = true := by rw [hd.out, List.drop_eq_nil_of_le (by rw [length_bs]; omega)]; rfl
      have HF := Lib.hid fin
      clear fin
      go_wp2_with fail
      go_ret
      exact ⟨by rw [HF.out]; rfl, HB.out⟩

set_option maxHeartbeats 1000000 in
set_option maxRecDepth 100000 in
theorem ssome_any (F : FuncId) (p : UInt8 → Bool) (hp : PredF F p) (s : ByteArray) (w : World) (hs : s.size ≤ 1099511627776) :
    Calls Tryz.prog 179 #[.string s, .func (.func F) #[] #[]] w fun e w' => e = .returned (.bool (someL p (bs s))) ∧ Below w.heap.size w w' := by
  have H := Lib.hid (sall_any F p hp s w hs)
  clear hp
  have hV : someL p (bs s) = (!(bs s).isEmpty && (bs s).all p) := rfl
  cases hb : (bs s).isEmpty
  · have HV := Lib.hid (show someL p (bs s) = (bs s).all p by rw [hV, hb]; rfl)
    have he : s.toList.isEmpty = false := by rw [toList_bs]; exact hb
    clear hb hV
    go_enter Tryz.func179, Tryz.ntmps179
    go_wp2_with fail
    refine H.out.mono ?_
    rintro e w' ⟨rfl, hb⟩
    have HB := Lib.hid hb
    clear hb
    go_wp2_with fail
    go_ret
    exact ⟨retB (by rw [HV.out]), HB.out⟩
  · have HV := Lib.hid (show someL p (bs s) = false by rw [hV, hb]; rfl)
    have he : s.toList.isEmpty = true := by rw [toList_bs]; exact hb
    clear hb hV
    go_enter Tryz.func179, Tryz.ntmps179
    go_wp2_with fail
    go_ret
    exact ⟨retB (by rw [HV.out]), Below.refl _ _⟩

theorem predVis : PredF 180 vis := predF_same (enters_of Tryz.func180 (by kernel_rfl) rfl) visible_any
theorem someVis_any (s : ByteArray) (w : World) (hs : s.size ≤ 1099511627776) :
    Calls Tryz.prog 179 #[.string s, .func (.func 180) #[] #[]] w fun e w' => e = .returned (.bool (someL vis (bs s))) ∧ Below w.heap.size w w' := ssome_any _ _ predVis s w hs
end Tk
end Go.Proofs.YtdlbmfgajgefdaaGreatDoor
namespace Go.Proofs.YtdlbmfgajgefdaaGreatDoor
open Go.RowKit
namespace Tk

def CutPost (c : UInt8) (l : Bs) (w : World) (e : Ending) (w' : World) : Prop := e = .returned (.tuple #[.string (mkS (cutL c l).1), .string (mkS (cutL c l).2.1), .bool (cutL c l).2.2]) ∧ ∃ n, w' = w.drewN n

end Tk
end Go.Proofs.YtdlbmfgajgefdaaGreatDoor
namespace Go.Proofs.YtdlbmfgajgefdaaGreatDoor
open Go.RowKit
namespace Tk

set_option maxHeartbeats 400000 in
theorem supported_any (n : Int) (w : World) :
    Calls Tryz.prog 158 #[.int .i64 n] w fun e w' => e = .returned (.bool (decide (n = 0 ∨ n = 1))) ∧ w = w' := by
  by_cases h0 : n = 0
  · subst h0
    go_enter Tryz.func158, Tryz.ntmps158
    go_wp2_with fail
    go_ret
    exact ⟨rfl, rfl⟩
  · have e0 : (n == 0) = false := beq_eq_false_iff_ne.2 h0
    have HV := Lib.hid (show decide (n = 0 ∨ n = 1) = decide (n = 1) by simp [h0])
    clear h0
    go_enter Tryz.func158, Tryz.ntmps158
    go_wp2_with fail
    go_ret
    exact ⟨retB (by rw [HV.out]; rfl), rfl⟩

def VerPost (l : Bs) (w : World) (e : Ending) (w' : World) : Prop := e = .returned (.tuple #[.int .i64 (vMi l), .int .i64 (vSt l)]) ∧ Below w.heap.size w w'

theorem vN_len (l : Bs) : (vN l).length ≤ l.length := by
  unfold vN; split
  · rw [List.length_drop]; omega
  · exact Nat.le_refl _

theorem ne_str (A : Bs) (l : Bs) (h : A ≠ l) : ((mkS A).toList == l) = false := by
  rw [toList_bs, bs_mkS]; exact beq_eq_false_iff_ne.2 h
theorem eq_str (A : Bs) (l : Bs) (h : A = l) : ((mkS A).toList == l) = true := by
  rw [toList_bs, bs_mkS, h]; exact beq_self_eq_true l

theorem v_none (l : Bs) (h : vForm l = false) : vSt l = 400 ∧ vMi l = 0 := by
  have h1 : vSt l = 400 := by unfold vSt; rw [h]; rfl
  exact ⟨h1, by unfold vMi; rw [h1]; rfl⟩
theorem v_other (l : Bs) (h : vForm l = true) (hk : vKnown l = false) : vSt l = 505 ∧ vMi l = 0 := by
  have h1 : vSt l = 505 := by unfold vSt; rw [h, hk]; rfl
  exact ⟨h1, by unfold vMi; rw [h1]; rfl⟩
theorem v_known (l : Bs) (h : vForm l = true) (hk : vKnown l = true) : vSt l = 0 ∧ vMi l = ((vB l).getD 0 0).toNat - 48 := by
  have h1 : vSt l = 0 := by unfold vSt; rw [h, hk]; rfl
  exact ⟨h1, by unfold vMi; rw [h1]; rfl⟩

end Tk
end Go.Proofs.YtdlbmfgajgefdaaGreatDoor
namespace Go.Proofs.YtdlbmfgajgefdaaGreatDoor
open Go.RowKit
namespace Tk

theorem cutl1 (c : UInt8) (l : Bs) : (cutL c l).1.length ≤ l.length := by
  unfold cutL
  split
  · exact (List.takeWhile_sublist (· != c) (l := l)).length_le
  · exact Nat.le_refl _
theorem cutl2 (c : UInt8) (l : Bs) : (cutL c l).2.1.length ≤ l.length := by
  unfold cutL
  split
  · refine Nat.le_trans (by simp) ((List.dropWhile_sublist (· != c) (l := l)).length_le)
  · simp

def CutPPost (l : Bs) (w : World) (e : Ending) (w' : World) : Prop := e = .returned (.tuple #[.string (mkS (hostN l)), .string (mkS (hostP l))]) ∧ Below w.heap.size w w'

theorem hostN_len (l : Bs) : (hostN l).length ≤ l.length := by
  unfold hostN; rw [List.length_take]; omega
theorem hostP_len (l : Bs) : (hostP l).length ≤ l.length := by
  unfold hostP
  have := cutl2 58 (l.drop (cIn l))
  rw [List.length_drop] at this
  omega

theorem trim_pre (n : Bs) : Lib.trimPrefix n [91] = if Lib.hasPrefix n [91] then n.drop 1 else n := rfl
theorem trim_suf (n : Bs) : Lib.trimSuffix n [93] = if Lib.hasSuffix n [93] then n.take (n.length - 1) else n := rfl

end Tk
end Go.Proofs.YtdlbmfgajgefdaaGreatDoor
namespace Go.Proofs.YtdlbmfgajgefdaaGreatDoor
open Go.RowKit
namespace Tk

theorem results_tmp4 {fn : Func} {t u v x : Tmp} (h : fn.results = #[.tmp t, .tmp u, .tmp v, .tmp x]) (tmps : Array Value) (P : Program) (w : World) :
    (results fn tmps).run P w = .ok (.tuple #[tmps.getD t undef, tmps.getD u undef, tmps.getD v undef, tmps.getD x undef]) w := by
  simp [results, h]

set_option maxHeartbeats 1000000 in
set_option maxRecDepth 100000 in
theorem inRequest_any (m t : ByteArray) (w : World) (hm : m.size ≤ 1099511627776) (ht : t.size ≤ 1099511627776) :
    Calls Tryz.prog 157 #[.string m, .string t] w fun e w' => e = .returned (.bool (rIn (bs m) (bs t))) ∧ Below w.heap.size w w' := by
  have HT := token_any m w hm
  have HS := Lib.hid (fun W => someVis_any t W ht)
  have hV : rIn (bs m) (bs t) = (tokL (bs m) && someL vis (bs t)) := rfl
  have hT : tokL (bs m) = (!(bs m).isEmpty && allL 2 (bs m)) := rfl
  rw [← hT] at HT
  cases hk : tokL (bs m)
  · rw [hk] at HT
    have HV := Lib.hid (show rIn (bs m) (bs t) = false by rw [hV, hk]; rfl)
    have HT2 := Lib.hid HT
    clear hV hT hk HT HS
    go_enter Tryz.func157, Tryz.ntmps157
    go_wp2_with fail
    refine HT2.out.mono ?_
    rintro e w' ⟨rfl, hb⟩
    have HB := Lib.hid hb
    clear hb
    go_wp2_with fail
    go_ret
    exact ⟨retB (by rw [HV.out]), HB.out⟩
  · rw [hk] at HT
    have HV := Lib.hid (show rIn (bs m) (bs t) = someL vis (bs t) by rw [hV, hk]; rfl)
    have HT2 := Lib.hid HT
    clear hV hT hk HT
    go_enter Tryz.func157, Tryz.ntmps157
    go_wp2_with fail
    refine HT2.out.mono ?_
    rintro e w' ⟨rfl, hb⟩
    have HB := Lib.hid hb
    clear hb
    go_wp2_with fail
    refine (HS.out _).mono ?_
    rintro e w2 ⟨rfl, hb⟩
    have HB2 := Lib.hid (HB.out.trans (hb.mono HB.out.size))
    clear hb
    go_wp2_with fail
    go_ret
    exact ⟨retB (by rw [HV.out]), HB2.out⟩

def ReqPost (l : Bs) (w : World) (e : Ending) (w' : World) : Prop := e = .returned (.tuple #[.string (mkS (reqM l)), .string (mkS (reqT l)), .int .i64 (reqN l), .int .i64 (rSt l)]) ∧ Below w.heap.size w w'

theorem req_bad (l : Bs) (n : Nat) (h : rSt l = n) (hn : n ≠ 0) : reqM l = [] ∧ reqT l = [] ∧ reqN l = 0 := by
  unfold reqM reqT reqN
  rw [if_neg (by omega), if_neg (by omega), if_neg (by omega)]
  exact ⟨rfl, rfl, rfl⟩

end Tk
end Go.Proofs.YtdlbmfgajgefdaaGreatDoor
namespace Go.Proofs.YtdlbmfgajgefdaaGreatDoor
open Go.RowKit
namespace Tk

theorem run_kind (w : World) (c : UInt8) (k : Int) (ks : Array Value) (h : ks[c.toNat]? = some (.int .u8 k)) : (Instr.index 134 (.agg ks) (.int .u8 (c.toNat : Int))).run Tryz.prog w = .ok (.int .u8 k) w := by
  have h0 : (0 : Int) ≤ (c.toNat : Int) ∧ (c.toNat : Int) < (256 : Int) := ⟨by omega, by have := c.toNat_lt; omega⟩
  have hlt := c.toNat_lt
  simp [Instr.index, asIntOf, run_underlying Tryz.underlying134, part, Tryz.isAgg105, Tryz.sizeOf105, h, hlt]

set_option maxHeartbeats 1000000 in
set_option maxRecDepth 100000 in
theorem char_any (c : UInt8) (w : World) :
    Calls Tryz.prog 182 #[.int .u8 (c.toNat : Int)] w fun e w' => e = .returned (.bool (decide (1 ≤ kindOf c.toNat))) ∧ Below w.heap.size w w' := by
  have HK := Lib.hid (kinds_any w)
  have hr := fun W => run_kind W c _ _ (kindL_at c)
  generalize (kindL.map (Value.int .u8)).toArray = ks at *
  generalize kindOf c.toNat = k at *
  by_cases hk : 1 ≤ k
  · go_enter Tryz.func182, Tryz.ntmps182
    go_wp2_with fail
    refine HK.out.mono ?_
    rintro e w' ⟨rfl, hb⟩
    have HB := Lib.hid hb
    clear hb
    go_wp2_with fail
    go_ret
    exact ⟨by simp [hk], HB.out⟩
  · go_enter Tryz.func182, Tryz.ntmps182
    go_wp2_with fail
    refine HK.out.mono ?_
    rintro e w' ⟨rfl, hb⟩
    have HB := Lib.hid hb
    clear hb
    go_wp2_with fail
    go_ret
    exact ⟨by simp, HB.out⟩
end Tk
end Go.Proofs.YtdlbmfgajgefdaaGreatDoor
namespace Go.Proofs.YtdlbmfgajgefdaaGreatDoor
open Go.RowKit
namespace Tk

theorem asciiZero : (Tryz.prog.info? 191).map (fun i => (i.zero, i.size)) = some (some (.agg (Array.replicate 256 (.bool false))), 256) := by kernel_rfl

set_option maxHeartbeats 400000 in
theorem trim_any (s : ByteArray) (w : World) (h : s.size ≤ 1099511627776) :
    Calls Tryz.prog 162 #[.string s] w (StrPost (trimL (bs s)) w) := by
  have h1 := Any.strings_Trim_laid Tryz.lays160 asciiZero s ⟨#[32, 9]⟩ w (by omega) (by decide) (ascii_of_all (by decide))
  have H := Lib.hid (show Calls Tryz.prog 183 #[.string s, .string ⟨#[32, 9]⟩] w fun e w' => e = .returned (.string (mkS (trimL (bs s)))) ∧ Below w.heap.size w w' from h1)
  have hl := trim_sublist (bs s)
  rw [length_bs] at hl
  clear h1
  go_enter Tryz.func162, Tryz.ntmps162
  go_wp2_with fail
  refine H.out.mono ?_
  rintro e w' ⟨rfl, hb⟩
  have HB := Lib.hid hb
  clear hb
  go_wp2_with fail
  refine (clone_any (mkS (trimL (bs s))) _ (by rw [size_mkS]; omega)).mono ?_
  rintro e w2 ⟨rfl, hb⟩
  have HB2 := Lib.hid hb
  clear hb
  go_wp2_with fail
  go_ret
  exact ⟨rfl, HB.out.trans (HB2.out.mono HB.out.size)⟩
end Tk
end Go.Proofs.YtdlbmfgajgefdaaGreatDoor
namespace Go.Proofs.YtdlbmfgajgefdaaGreatDoor
open Go.RowKit
namespace Tk

set_option maxHeartbeats 400000 in
theorem closing_any (s : ByteArray) (i : Nat) (w : World) (h : s.size ≤ 1099511627776) (hi : i < s.size) :
    Calls Tryz.prog 155 #[.string s, .int .i64 i] w fun r w' => r = .returned (.int .i64 (closing (bs s) i)) ∧ w = w' := by
  have hlen := length_bs s
  have HL := Lib.hid hlen
  clear hlen
  go_enter Tryz.func155, Tryz.ntmps155
  go_wp2_with fail
  go_step3
  go_wp2_with fail
  go_step3
  go_wp2_with fail
  go_loop [5] (fun v => ∃ k : Nat, k ≤ s.size + 1 ∧ v = .int .i64 k ∧ Hid (closing (bs s) i = k + closeLen ((bs s).drop k))) (fun v => (s.size + 2 - (RowKit.intOf v).toNat))
  case atStart => exact ⟨i + 1, by omega, by go_num, rfl⟩
  case round =>
    obtain ⟨k, hk, rfl, hR⟩ := hrel
    by_cases hlt : k < s.size
    · have hdr := drop_cons (bs s) k (by rw [HL.out]; exact hlt)
      rw [getD_bs s k hlt] at hdr
      have HD := Lib.hid hdr
      clear hdr
      go_wp2_with fail
      · have h92 : ((s[k].toNat : Int) == 92) = true := by assumption
        have e := u8_is s[k] 92 (by omega) h92
        refine ⟨⟨k + 2, by omega, by go_num, ?_⟩, by simp [RowKit.intOf]; omega⟩
        show _ = _
        rw [hR.out, closeLen_bs _ (by rw [HD.out, e]; rfl), List.drop_drop]
        omega
      · have h34 : ((s[k].toNat : Int) == 34) = true := by assumption
        have e := u8_is s[k] 34 (by omega) h34
        have fin : closing (bs s) i = k := by
          rw [hR.out, HD.out, e]
          exact (congrArg (k + ·) (closeLen_q _))
        go_ret
        exact ⟨by rw [fin]; rfl, rfl⟩
      · have h92 : ((s[k].toNat : Int) == 92) = false := by assumption
        have h34 : ((s[k].toNat : Int) == 34) = false := by assumption
        refine ⟨⟨k + 1, by omega, by go_num, ?_⟩, by simp [RowKit.intOf]; omega⟩
        show _ = _
        rw [hR.out, HD.out, closeLen_o _ _ (u8_not _ 92 h92 (by omega)) (u8_not _ 34 h34 (by omega))]
        omega
    · have hdr : (bs s).drop k = [] := List.drop_eq_nil_of_le (by rw [HL.out]; omega)
      have fin : closing (bs s) i = k := by rw [hR.out, hdr]; rfl
      have HF := Lib.hid fin
      clear fin hdr
      go_wp2_with fail
      go_ret
      exact ⟨by rw [HF.out]; rfl, rfl⟩
end Tk
end Go.Proofs.YtdlbmfgajgefdaaGreatDoor
namespace Go.Proofs.YtdlbmfgajgefdaaGreatDoor
open Go.RowKit
namespace Tk

set_option maxRecDepth 100000 in
set_option maxHeartbeats 1000000 in
theorem number_any (s : ByteArray) (w : World) (hs : s.size ≤ 1099511627776) :
    Calls Tryz.prog 164 #[.string s] w fun r w' => r = .returned (.tuple #[.int .i64 (numL (bs s)).1, .int .i64 (numL (bs s)).2]) ∧ w = w' := by
  by_cases h0 : s.size = 0
  · have hb : bs s = [] := List.eq_nil_of_length_eq_zero (by rw [length_bs]; exact h0)
    have he : s.toList.isEmpty = true := by rw [toList_bs, hb]; rfl
    have HB := Lib.hid hb
    clear hb h0
    go_enter Tryz.func164, Tryz.ntmps164
    go_wp2_with fail
    go_ret2
    exact ⟨by rw [HB.out]; rfl, rfl⟩
  · have hb : bs s ≠ [] := fun e => h0 (by rw [← length_bs, e]; rfl)
    have he : s.toList.isEmpty = false := by rw [toList_bs]; simpa using hb
    have hnum : numL (bs s) = numGo 0 ((bs s).drop 0) := by unfold numL; rw [if_neg hb]; rfl
    have HN := Lib.hid hnum
    have HL := Lib.hid (length_bs s)
    clear hnum hb h0
    go_enter Tryz.func164, Tryz.ntmps164
    go_wp2_with fail
    go_loop [4, 10, 5] (fun vn vi _ => ∃ (n i : Nat), n ≤ 90071992547409919 ∧ i ≤ s.size ∧ vn = .int .i64 n ∧ vi = .int .i64 i ∧ Hid (numL (bs s) = numGo n ((bs s).drop i))) (fun _ vi _ => s.size - (RowKit.intOf vi).toNat)
    case atStart => exact ⟨0, 0, by omega, by omega, rfl, rfl, HN.out⟩
    case round =>
      obtain ⟨n, i, hn, hi, rfl, rfl, hd⟩ := hrel
      by_cases hlt : i < s.size
      · have hdr := drop_cons (bs s) i (by rw [HL.out]; exact hlt)
        rw [getD_bs s i hlt] at hdr
        have HD := Lib.hid hdr
        have hc0 : 0 ≤ (s[i].toNat : Int) := by omega
        have hc1 : (s[i].toNat : Int) < 256 := by have := s[i].toNat_lt; omega
        clear hdr
        by_cases hlo : (s[i].toNat : Int) < 48
        · have fin : numL (bs s) = (0, 4) := by
            rw [hd.out, HD.out, numGo, if_neg]
            unfold isDig; simp; omega
          have HF := Lib.hid fin
          clear fin
          go_wp2_with fail
          go_ret2
          exact ⟨by rw [HF.out]; rfl, rfl⟩
        · by_cases hhi : (57 : Int) < (s[i].toNat : Int)
          · have fin : numL (bs s) = (0, 4) := by
              rw [hd.out, HD.out, numGo, if_neg]
              unfold isDig; simp; omega
            have HF := Lib.hid fin
            clear fin
            go_wp2_with fail
            go_ret2
            exact ⟨by rw [HF.out]; rfl, rfl⟩
          · have hdig : isDig s[i] = true := by unfold isDig; simp; omega
            have hgo : numL (bs s) = numGo (if n ≤ maxN then n * 10 + (s[i].toNat - 48) else n) ((bs s).drop (i + 1)) := by
              rw [hd.out, HD.out, numGo, if_pos hdig]
            by_cases hmx : n ≤ 9007199254740991
            · rw [if_pos (show n ≤ maxN from hmx)] at hgo
              have HG := Lib.hid hgo
              clear hgo hdig
              go_wp2_with fail
              refine ⟨⟨n * 10 + (s[i].toNat - 48), i + 1, by omega, by omega, ?_, by go_num, HG⟩, by simp [RowKit.intOf]; omega⟩
              congr 1
              omega
            · rw [if_neg (show ¬ n ≤ maxN from hmx)] at hgo
              have HG := Lib.hid hgo
              clear hgo hdig
              go_wp2_with fail
              exact ⟨⟨n, i + 1, by omega, by omega, rfl, by go_num, HG⟩, by simp [RowKit.intOf]; omega⟩
      · have hnil : (bs s).drop i = [] := List.drop_eq_nil_of_le (by rw [HL.out]; omega)
        have fin := hd.out
        rw [hnil, numGo] at fin
        have HF := Lib.hid fin
        clear fin hnil
        go_wp2_with fail
        · have hmx : (9007199254740991 : Int) < n := by assumption
          go_ret2
          exact ⟨by rw [HF.out, if_pos (show maxN < n by unfold maxN; omega)]; rfl, rfl⟩
        · have hmx : (n : Int) ≤ 9007199254740991 := by assumption
          go_ret2
          exact ⟨by rw [HF.out, if_neg (show ¬ maxN < n by unfold maxN; omega)]; rfl, rfl⟩
end Tk
end Go.Proofs.YtdlbmfgajgefdaaGreatDoor
