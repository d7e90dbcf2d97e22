/- FldW TokE VaP RngM Bx0 VaA AppW VaB VaC VaO, put together. -/
import Derived.Test.YthooghgiokgdhaaDoorQA
import Derived.Lib.DecodeN
import Derived.RangeFuncFrom
import Derived.RangeFuncWrites
import Derived.RangeFuncIn
import Derived.Lib.OwnBridge
import Derived.RangeFuncNested
import Derived.RangeFuncBound
import Derived.RangeFuncCalls
import Derived.RangeFuncLeaves
import Derived.RangeFuncBox
import Derived.OwnWalkIn
import Derived.TacticsInMore
import Derived.LoopNIn
import Derived.LoopIn
import Derived.WalkKit
import Derived.Lib.AppendStr
import Derived.Maps.AppendAt
import Derived.Shelf.Slices.In.SortNone
import Derived.Shelf.Slices.CompactS
import Derived.Sort.OwnSorted
import Derived.Sort.Grow
import Derived.Sort.EveryDepth
namespace Go.Proofs.YthooghgiokgdhaaDoor
open Go.RowKit
namespace Tk

set_option maxHeartbeats 8000000 in
set_option maxRecDepth 100000 in
theorem flist_any (v : Value) (l : List (Bs × Bs)) (name : Bs) (w : World) (hs : IsFlds w v l) (hz : sumF l ≤ 1000000) (hn : name.length ≤ 1099511627776) (hl : l.length ≤ 1048576) :
    Calls Tryd.prog 23 #[v, .string (mkS name)] w (ListPost w.heap.size (listF l name) w) := by
  have HA := Lib.hid (fall_any v l name w hs (sum_each l (by omega)) hn hl)
  unfold ListPost at HA
  have hlist : listF l name = (allF l name).flatMap splitL := rfl
  have HLI := Lib.hid hlist
  have hpc := Lib.hid (fun p hp => Nat.le_trans (all_piece name l p hp) hz)
  have hfl := Lib.hid (fun i => flat_sub (allF l name) i)
  have hal := allF_len l name
  have hPl : (allF l name).length ≤ 1048576 := by omega
  have hln := listF_len name l
  rw [hlist] at hln
  have hln2 : ((allF l name).flatMap splitL).length ≤ 1000000 := by omega
  obtain ⟨a, cap, rfl⟩ : ∃ a cap, v = .slice a l.length cap := by obtain ⟨a, c, h, -⟩ := hs; exact ⟨a, c, h⟩
  clear hs hz hlist hln hal
  generalize listF l name = Q at *
  generalize allF l name = P at *
  go_enter Tryd.func23, Tryd.ntmps23
  go_wp2_with fail
  refine HA.out.mono ?_
  rintro e w1 ⟨v1, rfl, ho, hb⟩
  have HB1 := Lib.hid hb
  have HS := Lib.hid (isStrs_own ho)
  have HLt := Lib.hid (fun k e => (ho.lt k e).2)
  obtain ⟨a1, c1, rfl⟩ : ∃ a c, v1 = .slice a P.length c := by obtain ⟨a, c, h, -⟩ := isStrs_own ho; exact ⟨a, c, h⟩
  clear ho hb
  go_wp2_with fail
  go_loopw [5, 12] (fun v5 vi wr => ∃ i : Nat, i ≤ P.length ∧ vi = .int .i64 i ∧ Hid (wr.ownsRow w1.heap.size 9 1 v5 ((P.take i).flatMap splitL).length (strs ((P.take i).flatMap splitL))) ∧ Hid (Below w1.heap.size w1 wr)) (fun _ vi _ => P.length - (RowKit.intOf vi).toNat)
  case atStart => exact ⟨0, Nat.zero_le _, rfl, World.ownsRow_nil _ _ _ _, Below.refl _ _⟩
  case round =>
    obtain ⟨i, hi, rfl, HO, HB⟩ := hrel
    rename World => W
    by_cases hlt : i < P.length
    · obtain ⟨a', c', e', hc⟩ := isStrs_later HS.out HB.out HLt.out
      injection e' with e1 _ e2
      subst e1 e2
      obtain ⟨b, o, rfl, hc⟩ := hc i (P.getD i []) (by simp [List.getD, hlt])
      have hm := hpc.out (P.getD i []) (by simp [List.getD, hlt])
      have htk := take_flat P i hlt
      have HTK := Lib.hid htk
      have hf1 := hfl.out i
      have hsl := split_len (P.getD i [])
      clear htk
      generalize P.getD i [] = x at *
      have hxz := size_mkS x
      have hsp := fun W : World => split_any (mkS x) W (by omega)
      rw [bs_mkS] at hsp
      have HSP := Lib.hid hsp
      have g0 : (0 : Int) ≤ (i : Int) := by omega
      have g1 : (i : Int) < (P.length : Int) := by omega
      clear hsp hxz
      have hk1 : ((P.take i).flatMap splitL).length ≤ 1048576 := by omega
      have hk2 : (splitL x).length ≤ 1048576 := by omega
      generalize (P.take i).flatMap splitL = R at *
      generalize splitL x = S at *
      go_wp2_with fail
      refine (HSP.out _).mono ?_
      rintro e w3 ⟨v3, rfl, ho3, hb3⟩
      have HO3 := Lib.hid (own_keep HO.out hb3)
      have HB3 := Lib.hid (HB.out.trans (hb3.mono HB.out.size))
      have HS3 := Lib.hid ho3
      clear ho3 hb3
      go_wp2_with (at_builtin; refine join_guarded (by rfl) _ _ rfl w1.heap.size _ _ _ R S rfl rfl HO3.out HS3.out HB3.out.size hk1 hk2 ?_)
      intro v4 w4 ho4 hb4
      have HB4 := Lib.hid (HB3.out.trans hb4)
      have HO4 : Hid (w4.ownsRow w1.heap.size 9 1 v4 ((P.take (i + 1)).flatMap splitL).length (strs ((P.take (i + 1)).flatMap splitL))) := by
        show World.ownsRow _ _ _ _ _ _ _
        rw [HTK.out, List.length_append]; exact ho4
      clear ho4 hb4
      go_wp2_with fail
      exact ⟨⟨i + 1, hlt, by go_num, HO4, HB4⟩, by simp [RowKit.intOf]; omega⟩
    · have hil : P.take i = P := List.take_of_length_le (by omega)
      rw [hil, ← HLI.out] at HO
      have HBF := Lib.hid (HB1.out.trans (HB.out.mono HB1.out.size))
      have HOF := Lib.hid (World.ownsRow.mono HO.out HB1.out.size)
      go_wp2_with fail
      go_ret
      exact ⟨_, rfl, HOF.out, HBF.out⟩
end Tk
end Go.Proofs.YthooghgiokgdhaaDoor
namespace Go.Proofs.YthooghgiokgdhaaDoor
open Go.RowKit
namespace Tk

/-- the byte at place t when the first i are in small letters -/
def mixAt (l : Bs) (i t : Nat) : UInt8 := if t < i then lowB (l.getD t 0) else l.getD t 0

theorem bytesRow_at (s : ByteArray) (cap t : Nat) (h : t < s.size) : (bytesRow s cap)[t]? = some (.int .u8 (((bs s).getD t 0).toNat : Int)) := by
  unfold bytesRow
  rw [Array.getElem?_append_left (by simpa using h), Array.getElem?_map]
  have e : (bs s).getD t 0 = s.data[t]'h := by rw [getD_bs s t h]; rfl
  rw [e, Array.getElem?_eq_getElem h]; rfl

set_option maxRecDepth 100000 in
set_option maxHeartbeats 1000000 in
theorem tlower_any (s : ByteArray) (w : World) (hs : s.size ≤ 1099511627776) :
    Calls Tryd.prog 24 #[.string s] w (StrPost (lowL (bs s)) w) := by
  have HL := Lib.hid (length_bs s)
  have hconv := run_bytes_of_string (P := Tryd.prog) w 9 42 5 s Tryd.underlying9 Tryd.underlying42 Tryd.underlying5
  have hC : ∀ t, t < s.size → (bytesRow s (grownCap w s.size 0 5))[t]? = some (.int .u8 (((bs s).getD t 0).toNat : Int)) := fun t h => bytesRow_at s _ t h
  generalize bytesRow s (grownCap w s.size 0 5) = C at *
  generalize grownCap w s.size 0 5 = cap at *
  have HC := Lib.hid hC
  clear hC
  go_enter Tryd.func24, Tryd.ntmps24
  go_wp2_with fail
  go_loopw [10, 4, 5] (fun vi _ _ wr => ∃ i : Nat, i ≤ s.size ∧ vi = .int .i64 i ∧ Hid (∀ t, t < s.size → wr.cell? ⟨w.heap.size, t, none⟩ = some (.int .u8 ((mixAt (bs s) i t).toNat : Int)) ∧ wr.frozen? ⟨w.heap.size, t, none⟩ = false) ∧ Hid (Below w.heap.size w wr)) (fun vi _ _ _ => s.size - (RowKit.intOf vi).toNat)
  case atStart =>
    refine ⟨0, Nat.zero_le _, rfl, ?_, ?_⟩
    · intro t ht
      have h1 : ((w.alloc (.cells C 5 (C.size, C.size + 1))).drew).cell? ⟨w.heap.size, t, none⟩ = C[t]? := World.cell?_alloc_mark w C 5 _ t
      have hlt : t < C.size := by
        refine Nat.lt_of_not_le fun hle => ?_
        have := HC.out t ht
        rw [Array.getElem?_eq_none hle] at this
        cases this
      have h2 : ((w.alloc (.cells C 5 (C.size, C.size + 1))).drew).frozen? ⟨w.heap.size, t, none⟩ = _ := World.frozen?_alloc_mark w C 5 _ _ t
      refine ⟨by rw [h1, HC.out t ht]; rfl, ?_⟩
      rw [h2]
      simp; omega
    · exact ((Below.refl _ _).alloc (Nat.le_refl _) _).drew
  case round =>
    obtain ⟨i, hi, rfl, HM, HB⟩ := hrel
    rename World => W
    by_cases hlt : i < s.size
    · obtain ⟨hc, hf⟩ := HM.out i hlt
      have e : mixAt (bs s) i i = (bs s).getD i 0 := by unfold mixAt; rw [if_neg (by omega)]
      rw [e] at hc
      have HM2 : Hid (∀ t, t < s.size → (W.setCell ⟨w.heap.size, i, none⟩ (.int .u8 ((lowB ((bs s).getD i 0)).toNat : Int))).cell? ⟨w.heap.size, t, none⟩ = some (.int .u8 ((mixAt (bs s) (i + 1) t).toNat : Int)) ∧ (W.setCell ⟨w.heap.size, i, none⟩ (.int .u8 ((lowB ((bs s).getD i 0)).toNat : Int))).frozen? ⟨w.heap.size, t, none⟩ = false) := by
        intro t ht
        obtain ⟨h1, h2⟩ := HM.out t ht
        refine ⟨?_, by rw [World.frozen?_setCell]; exact h2⟩
        by_cases hti : t = i
        · subst hti
          rw [World.cell?_setCell_same _ _ _ hc]
          unfold mixAt; rw [if_pos (by omega)]
        · rw [World.cell?_setCell_other (w := W) (a := ⟨w.heap.size, i, none⟩) (b := ⟨w.heap.size, t, none⟩) (h := by intro e; injection e with _ e2; exact hti e2.symm), h1]
          have : mixAt (bs s) i t = mixAt (bs s) (i + 1) t := by
            unfold mixAt
            by_cases h3 : t < i
            · rw [if_pos h3, if_pos (by omega)]
            · rw [if_neg h3, if_neg (by omega)]
          rw [this]
      have HB2 := Lib.hid (HB.out.setCell (p := ⟨w.heap.size, i, none⟩) (Nat.le_refl _) (.int .u8 ((lowB ((bs s).getD i 0)).toNat : Int)))
      generalize (bs s).getD i 0 = c at *
      go_wp2_with fail
      refine (lower_any c W).mono ?_
      rintro e w' ⟨rfl, rfl⟩
      go_wp2_with fail
      go_roundw
      case rel => exact ⟨i + 1, by omega, by go_num, HM2, HB2⟩
      case measure => simp [RowKit.intOf]; omega
    · have hlen : (lowL (bs s)).length = s.size := by rw [length_lowL, HL.out]
      have hback := run_convert_bytes_back (P := Tryd.prog) W 42 9 5 ⟨w.heap.size, 0, none⟩ cap (lowL (bs s)) Tryd.underlying42 Tryd.underlying5 Tryd.underlying9 (fun j hj => by
        have hj' : j < s.size := by rw [hlen] at hj; exact hj
        have h1 := (HM.out j hj').1
        have e : mixAt (bs s) i j = (lowL (bs s))[j] := by
          have hjl : j < (bs s).length := by rw [HL.out]; exact hj'
          have e2 : (lowL (bs s))[j] = lowB ((bs s)[j]'hjl) := by simp [lowL]
          unfold mixAt
          rw [if_pos (by omega), e2]
          simp [List.getD, hjl]
        rw [e] at h1
        by_cases hj0 : j = 0
        · subst hj0; simpa [Addr.add] using h1
        · simpa [Addr.add, hj0] using h1)
      rw [hlen] at hback
      go_wp2_with fail
      go_ret
      exact ⟨rfl, HB.out⟩
end Tk
end Go.Proofs.YthooghgiokgdhaaDoor
namespace Go.Proofs.YthooghgiokgdhaaDoor
namespace Tk

/-- white space -/
def whV (c : UInt8) : Bool := c == 32 || c == 9
/-- each run of white space is one blank; p: there was one just before -/
def narG : Bool → Bs → Bs
  | _, [] => []
  | p, c :: t => if whV c then (if p then narG true t else 32 :: narG true t) else c :: narG false t
def narL (s : Bs) : Bs := narG false s
/-- the pieces between white space; cur: what lies of one already -/
def fldG : Bs → Bs → List Bs
  | cur, [] => if cur = [] then [] else [cur]
  | cur, c :: t => if whV c then (if cur = [] then fldG [] t else cur :: fldG [] t) else fldG (cur ++ [c]) t
def fldL (s : Bs) : List Bs := fldG [] s
def addW (acc p : Bs) : Bs := if acc = [] then p else acc ++ 32 :: p
def bldW (L : List Bs) : Bs := L.foldl addW []

theorem bldW_snoc (L : List Bs) (p : Bs) : bldW (L ++ [p]) = addW (bldW L) p := by simp [bldW]

theorem addW_snoc (acc cur : Bs) (c : UInt8) : addW acc (cur ++ [c]) = addW acc cur ++ [c] := by
  unfold addW; split <;> simp
theorem addW_ne (acc cur : Bs) (h : cur ≠ []) : addW acc cur ≠ [] := by
  unfold addW; split <;> simp [h]

theorem fold_both : ∀ (s : Bs), (∀ acc cur, cur ≠ [] → (fldG cur (s ++ [46])).foldl addW acc = addW acc cur ++ narG false s ++ [46]) ∧
    (∀ acc, acc ≠ [] → (fldG [] (s ++ [46])).foldl addW acc = acc ++ 32 :: narG true s ++ [46])
  | [] => by
    have h46 : whV 46 = false := by decide
    refine ⟨fun acc cur h => ?_, fun acc h => ?_⟩
    · simp [fldG, h46, narG, addW_snoc]
    · simp [fldG, h46, narG, addW, h]
  | c :: t => by
    obtain ⟨ih1, ih2⟩ := fold_both t
    refine ⟨fun acc cur h => ?_, fun acc h => ?_⟩
    · rw [List.cons_append, fldG]
      by_cases hw : whV c = true
      · rw [if_pos hw, if_neg h, List.foldl_cons, ih2 _ (addW_ne _ _ h), narG, if_pos hw]
        simp
      · rw [if_neg hw, ih1 _ _ (by simp), narG, if_neg hw, addW_snoc]
        simp
    · rw [List.cons_append, fldG]
      by_cases hw : whV c = true
      · rw [if_pos hw, if_pos rfl, ih2 _ h, narG, if_pos hw, if_pos rfl]
      · rw [if_neg hw, ih1 _ _ (by simp), narG, if_neg hw]
        simp [addW, h]

theorem bld_fld (s : Bs) : bldW (fldL (46 :: (s ++ [46]))) = 46 :: (narL s ++ [46]) := by
  have h46 : whV 46 = false := by decide
  have h := (fold_both s).1 [] [46] (by simp)
  unfold bldW fldL
  rw [fldG, if_neg (by rw [h46]; decide), List.nil_append, h]
  simp [addW, narL]

theorem narG_len : ∀ (s : Bs) (p : Bool), (narG p s).length ≤ s.length
  | [], _ => by simp [narG]
  | c :: t, p => by
    rw [narG]
    have h1 := narG_len t true
    have h2 := narG_len t false
    split
    · split
      · simp; omega
      · simp; omega
    · simp; omega
theorem narL_len (s : Bs) : (narL s).length ≤ s.length := narG_len s false

/-- where the pieces lie: pre and what is still to come -/
def Fl (s : Bs) (i : Nat) (pre : List Bs) (cur : Bs) : Prop := fldL s = pre ++ fldG cur (s.drop i)
theorem Fl.start (s : Bs) : Fl s 0 [] [] := rfl
theorem drop_get (s : Bs) (i : Nat) (h : i < s.length) : s.drop i = s.getD i 0 :: s.drop (i + 1) := by
  rw [List.drop_eq_getElem_cons h]; simp [List.getD, h]
theorem Fl.white0 {s : Bs} {i : Nat} {pre : List Bs} (h : Fl s i pre []) (hi : i < s.length) (hw : whV (s.getD i 0) = true) : Fl s (i + 1) pre [] := by
  unfold Fl at *
  rw [h, drop_get s i hi, fldG, if_pos hw, if_pos rfl]
theorem Fl.white1 {s : Bs} {i : Nat} {pre : List Bs} {cur : Bs} (h : Fl s i pre cur) (hc : cur ≠ []) (hi : i < s.length) (hw : whV (s.getD i 0) = true) : Fl s (i + 1) (pre ++ [cur]) [] := by
  unfold Fl at *
  rw [h, drop_get s i hi, fldG, if_pos hw, if_neg hc]
  simp
theorem Fl.pre {s : Bs} {i : Nat} {p : List Bs} {c : Bs} (h : Fl s i p c) : p <+: fldL s := ⟨_, h.symm⟩
theorem Fl.plain {s : Bs} {pre : List Bs} : ∀ (k : Nat) {i : Nat} {cur : Bs}, Fl s i pre cur → i + k ≤ s.length → (∀ j, j < k → whV (s.getD (i + j) 0) = false) → Fl s (i + k) pre (cur ++ (s.drop i).take k)
  | 0, i, cur, h, _, _ => by simpa using h
  | k + 1, i, cur, h, hk, hw => by
    have hi : i < s.length := by omega
    have h0 := hw 0 (by omega)
    rw [Nat.add_zero] at h0
    have h1 : Fl s (i + 1) pre (cur ++ [s.getD i 0]) := by
      unfold Fl at *
      rw [h, drop_get s i hi, fldG, if_neg (by rw [h0]; decide)]
    have h2 := Fl.plain k h1 (by omega) (fun j hj => by rw [show i + 1 + j = i + (j + 1) by omega]; exact hw (j + 1) (by omega))
    rw [show i + (k + 1) = i + 1 + k by omega, drop_get s i hi, List.take_succ_cons]
    simpa using h2
theorem Fl.last {s : Bs} {pre : List Bs} {cur : Bs} (h : Fl s s.length pre cur) : fldL s = pre ++ (if cur = [] then [] else [cur]) := by
  unfold Fl at h
  rw [h, List.drop_length, fldG]

/-- what decoding says of white space -/
theorem decN (n b0 b1 b2 b3 : Nat) (hn : 1 ≤ n) (h0 : 128 ≤ b0) : 128 ≤ (Lib.decodeN n b0 b1 b2 b3).1 ∧ 1 ≤ (Lib.decodeN n b0 b1 b2 b3).2 ∧ (Lib.decodeN n b0 b1 b2 b3).2 ≤ n ∧ (Lib.decodeN n b0 b1 b2 b3).2 ≤ 4 ∧
    (2 ≤ (Lib.decodeN n b0 b1 b2 b3).2 → 128 ≤ b1) ∧ (3 ≤ (Lib.decodeN n b0 b1 b2 b3).2 → 128 ≤ b2) ∧ (4 ≤ (Lib.decodeN n b0 b1 b2 b3).2 → 128 ≤ b3) := by
  unfold Lib.decodeN
  rw [if_neg (by omega)]
  repeat' split
  all_goals (simp only; omega)
theorem get_mkS (l : Bs) (j : Nat) : (mkS l).get! j = l.getD j 0 := by
  show (l.toArray)[j]! = _
  rw [Array.getElem!_eq_getD, List.getD]
  simp [Array.getD]
  split <;> rename_i h
  · simp [h]
  · rw [List.getElem?_eq_none (by omega)]; rfl
theorem getD_drop (l : Bs) (i j : Nat) : (l.drop i).getD j 0 = l.getD (i + j) 0 := by
  rw [List.getD, List.getD, List.getElem?_drop]
theorem dec_white (l : Bs) (i : Nat) (hw : whV (l.getD i 0) = true) : Utf8.decode (mkS (l.drop i)) 0 = ((l.getD i 0).toNat, 1) := by
  rw [Lib.decode_at, get_mkS, getD_drop, Nat.add_zero]
  have h : (l.getD i 0).toNat < 128 := by
    unfold whV at hw
    rw [Bool.or_eq_true, beq_iff_eq, beq_iff_eq] at hw
    rcases hw with h | h <;> rw [h] <;> decide
  unfold Lib.decodeN
  rw [if_pos h]
theorem whV_toNat (c : UInt8) : whV c = (decide (c.toNat = 32) || decide (c.toNat = 9)) := by
  unfold whV
  have h1 : (c == 32) = decide (c.toNat = 32) := by
    rw [Bool.eq_iff_iff, beq_iff_eq, decide_eq_true_eq]
    exact ⟨fun h => by rw [h]; rfl, fun h => UInt8.toNat_inj.1 (by rw [h]; rfl)⟩
  have h2 : (c == 9) = decide (c.toNat = 9) := by
    rw [Bool.eq_iff_iff, beq_iff_eq, decide_eq_true_eq]
    exact ⟨fun h => by rw [h]; rfl, fun h => UInt8.toNat_inj.1 (by rw [h]; rfl)⟩
  rw [h1, h2]
theorem whV_big (c : UInt8) (h : 128 ≤ c.toNat) : whV c = false := by
  rw [whV_toNat, decide_eq_false (by omega), decide_eq_false (by omega)]; rfl
theorem dec_plain (l : Bs) (i : Nat) (hi : i < l.length) (hw : whV (l.getD i 0) = false) :
    (Utf8.decode (mkS (l.drop i)) 0).1 ≠ 32 ∧ (Utf8.decode (mkS (l.drop i)) 0).1 ≠ 9 ∧ 1 ≤ (Utf8.decode (mkS (l.drop i)) 0).2 ∧ i + (Utf8.decode (mkS (l.drop i)) 0).2 ≤ l.length ∧ ∀ j, j < (Utf8.decode (mkS (l.drop i)) 0).2 → whV (l.getD (i + j) 0) = false := by
  rw [Lib.decode_at]
  simp only [get_mkS, getD_drop, Nat.add_zero, Nat.sub_zero, size_mkS, List.length_drop, Nat.zero_add]
  by_cases h : (l.getD i 0).toNat < 128
  · have e : Lib.decodeN (l.length - i) (l.getD i 0).toNat (l.getD (i + 1) 0).toNat (l.getD (i + 2) 0).toNat (l.getD (i + 3) 0).toNat = ((l.getD i 0).toNat, 1) := by unfold Lib.decodeN; rw [if_pos h]
    rw [e]
    have h3 := whV_toNat (l.getD i 0)
    rw [hw] at h3
    have h4 := h3.symm
    rw [Bool.or_eq_false_iff, decide_eq_false_iff_not, decide_eq_false_iff_not] at h4
    refine ⟨h4.1, h4.2, Nat.le_refl _, by simp only; omega, fun j hj => ?_⟩
    simp only at hj
    obtain rfl : j = 0 := by omega
    exact hw
  · obtain ⟨d1, d2, d3, d4, d5, d6, d7⟩ := decN (l.length - i) (l.getD i 0).toNat (l.getD (i + 1) 0).toNat (l.getD (i + 2) 0).toNat (l.getD (i + 3) 0).toNat (by omega) (by omega)
    refine ⟨by omega, by omega, d2, by omega, fun j hj => ?_⟩
    have hj4 : j = 0 ∨ j = 1 ∨ j = 2 ∨ j = 3 := by omega
    rcases hj4 with rfl | rfl | rfl | rfl
    · exact hw
    · exact whV_big _ (d5 (by omega))
    · exact whV_big _ (d6 (by omega))
    · exact whV_big _ (d7 (by omega))
end Tk
end Go.Proofs.YthooghgiokgdhaaDoor
namespace Go.Proofs.YthooghgiokgdhaaDoor
open Go.RowKit
namespace Tk

/-- what lies below B0, and what is in M, lies as it lay -/
structure Mine (B0 : Nat) (M : Nat → Prop) (W W' : World) : Prop where
  os : W'.os = W.os
  tape : W'.tape = W.tape
  output : W'.output = W.output
  size : W.heap.size ≤ W'.heap.size
  same : ∀ k, k < W.heap.size → (k < B0 ∨ M k) → W'.heap[k]? = W.heap[k]?

/-- what a round may do: it turns blocks in M, and lays new ones -/
structure Turns (M M' : Nat → Prop) (W W' : World) : Prop where
  size : W.heap.size ≤ W'.heap.size
  same : ∀ k, k < W.heap.size → ¬ M k → W'.heap[k]? = W.heap[k]?
  more : ∀ k, M' k → M k ∨ W.heap.size ≤ k

def AbidesM {α : Type} (B : Nat) (I : List α → (Nat → Prop) → World → Prop) : Prop :=
  ∀ s M W W', I s M W → Mine B M W W' → I s M W'
def KnownM {α : Type} (I : List α → (Nat → Prop) → World → Prop) : Prop := ∀ s M W, I s M W → ∀ k, M k → k < W.heap.size

theorem Mine.refl (B : Nat) (M : Nat → Prop) (W : World) : Mine B M W W := ⟨rfl, rfl, rfl, Nat.le_refl _, fun _ _ _ => rfl⟩
theorem Mine.trans {B : Nat} {M : Nat → Prop} {a b c : World} (h : Mine B M a b) (k : Mine B M b c) : Mine B M a c :=
  ⟨k.os.trans h.os, k.tape.trans h.tape, k.output.trans h.output, Nat.le_trans h.size k.size, fun i hi hm => (k.same i (Nat.lt_of_lt_of_le hi h.size) hm).trans (h.same i hi hm)⟩
theorem Mine.below {B : Nat} {M : Nat → Prop} {W W' : World} (h : Below W.heap.size W W') : Mine B M W W' := ⟨h.os, h.tape, h.output, h.size, fun k hk _ => h.block k hk⟩
theorem Mine.mono {B C : Nat} {M N : Nat → Prop} {W W' : World} (h : Mine B M W W') (hB : C ≤ B) (hM : ∀ k, N k → M k) : Mine C N W W' :=
  ⟨h.os, h.tape, h.output, h.size, fun k hk hc => h.same k hk (hc.elim (fun x => .inl (by omega)) (fun x => .inr (hM k x)))⟩
theorem Mine.alloc (B : Nat) (M : Nat → Prop) (W : World) (o : Obj) : Mine B M W (W.alloc o) := Mine.below ((Below.refl _ _).alloc (Nat.le_refl _) _)
theorem Mine.putObj {B : Nat} {M : Nat → Prop} {W : World} {l : Nat} (o' : Obj) (hB : B ≤ l) (hM : ¬ M l) : Mine B M W (W.putObj l o') :=
  ⟨rfl, rfl, rfl, by simp, fun k _ hc => World.putObj_heap_other (by rintro rfl; exact hc.elim (by omega) hM)⟩
theorem Turns.refl (M : Nat → Prop) (W : World) : Turns M M W W := ⟨Nat.le_refl _, fun _ _ _ => rfl, fun _ h => .inl h⟩
theorem Turns.below {M : Nat → Prop} {W W' : World} (h : Below W.heap.size W W') : Turns M M W W' := ⟨h.size, fun k hk _ => h.block k hk, fun _ h => .inl h⟩
theorem Turns.trans {M N O : Nat → Prop} {a b c : World} (h : Turns M N a b) (k : Turns N O b c) : Turns M O a c :=
  ⟨Nat.le_trans h.size k.size, fun i hi hm => (k.same i (Nat.lt_of_lt_of_le hi h.size) (fun hn => (h.more i hn).elim hm (by omega))).trans (h.same i hi hm), fun i hi => (k.more i hi).elim (fun x => h.more i x) (fun x => .inr (Nat.le_trans h.size x))⟩

/-- a call of yield, in the widest fence -/
def YieldW (P : Program) (l : Nat) (args : Array Value) (W : World) (R : Ending → World → Prop) : Prop := YieldAt Fence.wide 0 P l args W R
theorem roundW {m : Nat} {P : Program} {l : Nat} {f : FuncId} {tmps : Array Value} {assign body : Code} {W : World} {R : Ending → World → Prop} (h : RoundIn Fence.wide 0 P l f tmps assign body W R) : RoundIn Fence.wide m P l f tmps assign body W R :=
  ⟨h.1, fun c cs _ => h.2 c cs (room_wide _)⟩
theorem YieldW.at {m : Nat} {P : Program} {l : Nat} {args : Array Value} {W : World} {R : Ending → World → Prop} (h : YieldW P l args W R) : YieldAt Fence.wide m P l args W R := by
  obtain ⟨fn, tmps, assign, body, h1, h2⟩ := h
  exact ⟨fn, tmps, assign, body, h1, roundW h2⟩
theorem YieldW.inRound {m l' : Nat} {P : Program} {l : Nat} {args : Array Value} {W : World} {R : Ending → World → Prop} (h : YieldW P l args W R) : YieldAt (Fence.wide.inRound l') m P l args W R := h.at (m := m)

/-- the iterator hands over xs, where S holds in every world of the rounds -/
def HandsM {α : Type} (P : Program) (gf : Nat) (lb : Array Value) (encs : α → Array Value) (xs : List α) (S : World → Prop) : Prop :=
  ∀ (l : Nat) (J : List α → (Nat → Prop) → World → Prop) (M : Nat → Prop) (W : World), KnownM J → AbidesM W.heap.size J → (∀ s M W, J s M W → S W) →
    (∀ pre x M W1, J pre M W1 → pre ++ [x] <+: xs → YieldW P l (encs x) W1 fun e W' => e = .returned (.bool true) ∧ ∃ M', J (pre ++ [x]) M' W' ∧ Turns M M' W1 W') →
    J [] M W → Calls P gf (#[.func (.yield l) #[] #[]] ++ lb) W fun e W' => (∃ v, e = .returned v) ∧ ∃ M', J xs M' W'

/-- what a round leaves behind: the body has run to its end -/
def BodyM {α : Type} (I : List α → (Nat → Prop) → World → Prop) (s : List α) (M : Nat → Prop) (W : World) : Exit → Act → World → Prop
  | .normal, _, W' => ∃ M', I s M' W' ∧ Turns M M' W W'
  | _, _, _ => False

theorem range_mx {α : Type} {encs : α → Array Value} {n : Nat} {P : Program} {g : Operand} {ps : Array Tmp} {assign body : Code} {Q : Exit → Act → World → Prop} {a : Act} {w : World}
    {gf : Nat} {lb : Array Value} (hg : a.eval g = .func (.func gf) #[] lb) (eg : ∀ args w, (callFunc gf args).run P w = .ok (.enter gf args) w)
    {xs : List α} {S : World → Prop} (hps : ∀ x, (encs x).size = ps.size) (hseq : HandsM P gf lb encs xs S) (I : List α → (Nat → Prop) → World → Prop) (hK : KnownM I) (hI : AbidesM w.heap.size I) (hS : ∀ s M W, I s M W → S W)
    (M0 : Nat → Prop) (h0 : I [] M0 w) (Ax : α → Act → Nat → World → Prop) (hAx : ∀ x a' z W W', Ax x a' z W → (∀ k, z ≤ k → k < W.heap.size → W'.heap[k]? = W.heap[k]?) → Ax x a' z W')
    (hassign : ∀ (l m : Nat) (x : α) (W : World) (K : Act → World → Prop), (∀ a' W', Below W.heap.size W W' → Ax x a' W.heap.size W' → K a' W') → assign.wpIn (Fence.wide.inRound l) m P (Exit.then K (fun _ _ _ => False)) { tmps := (ps.zip (encs x)).foldl (fun t (p, v) => t.setIfInBounds p v) a.tmps, defers := [] } W)
    (hbody : ∀ (l m : Nat) (pre : List α) (x : α) (M : Nat → Prop) (a' : Act) (z : Nat) (W : World), I pre M W → (∀ k, M k → k < z) → z ≤ W.heap.size → Ax x a' z W → pre ++ [x] <+: xs → body.wpIn (Fence.wide.inRound l) m P (BodyM I (pre ++ [x]) M W) a' W)
    (hdone : ∀ (D : Nat) (M : Nat → Prop) (W : World), w.heap.size ≤ D → ¬ M D → I xs M W → W.heap[D]? = some (.deferred (some [])) → Q .normal { a with defers := { target := .collected D, args := #[] } :: a.defers } W) :
    (Code.rangeFunc g ps assign body).wpIn Fence.wide n P Q a w := by
  refine wpIn_rangeFunc fun fn hfn => ?_
  generalize hB : w.heap.size = B at *
  let rc : LoopState → Loop := fun st => { state := st, pending := none, fn, tmps := a.tmps, params := ps, assign, body, defers := B }
  let W1 : World := (w.alloc (.deferred (some []))).alloc (.loop (rc .ready))
  have hs1 : W1.heap.size = B + 2 := by show ((w.alloc _).alloc _).heap.size = _; simp [hB]
  have hl1 : W1.heap[B + 1]? = some (.loop (rc .ready)) := by
    have := World.alloc_heap_new (w.alloc (.deferred (some []))) (.loop (rc .ready))
    rw [World.size_alloc, hB] at this
    exact this
  have hd1 : W1.heap[B]? = some (.deferred (some [])) := by
    have h2 := World.alloc_heap_new w (.deferred (some []))
    rw [hB] at h2
    exact (Below.heap_alloc _ _ _ (by simp [hB])).trans h2
  have hi1 : I [] M0 W1 := hI _ _ _ _ (hI _ _ _ _ h0 (Mine.alloc _ _ _ _)) (Mine.alloc _ _ _ _)
  have hM0 : ∀ k, M0 k → k < B := fun k hk => hB ▸ hK _ _ _ h0 k hk
  refine ⟨B + 1, [{ target := .collected B, args := #[] }], W1, { target := .fn (.func gf) lb, args := #[.func (.yield (B + 1)) #[] #[]] }, W1, gf, #[.func (.yield (B + 1)) #[] #[]] ++ lb, W1, ?_, ?_, ?_, ?_, fun h => absurd h (by decide), ?_⟩
  · have := run_enterLoop_outer (P := P) (w := w) fn a.tmps ps assign body
    rw [hB] at this
    exact this
  · simp only [resolve, hg]
    simp [go_sem]
  · intro f' _
    trivial
  · simp [invoke, go_sem, eg]
  · let J : List α → (Nat → Prop) → World → Prop := fun pre M W => ∃ N, I pre N W ∧ (∀ k, M k ↔ (N k ∨ k = B + 1)) ∧ ¬ N B ∧ ¬ N (B + 1) ∧ W.heap[B + 1]? = some (.loop (rc .ready)) ∧ W.heap[B]? = some (.deferred (some []))
    have hJK : KnownM J := by
      rintro s M W ⟨N, i, hm, -, -, hl, -⟩ k hk
      rcases (hm k).1 hk with h | rfl
      · exact hK _ _ _ i k h
      · exact (Array.getElem?_eq_some_iff.1 hl).1
    have hJ : AbidesM W1.heap.size J := by
      rintro s M W W' ⟨N, i, hm, n0, n1, hl, hd⟩ hM
      refine ⟨N, hI _ _ _ _ i (hM.mono (by omega) (fun k hk => (hm k).2 (.inl hk))), hm, n0, n1, ?_, ?_⟩
      · exact (hM.same _ (Array.getElem?_eq_some_iff.1 hl).1 (.inl (by omega))).trans hl
      · exact (hM.same _ (Array.getElem?_eq_some_iff.1 hd).1 (.inl (by omega))).trans hd
    have hcall := hseq (B + 1) J (fun k => M0 k ∨ k = B + 1) W1 hJK hJ (fun s M W ⟨N, i, _⟩ => hS _ _ _ i) ?_ ⟨M0, hi1, fun _ => Iff.rfl, fun h => absurd (hM0 _ h) (by omega), fun h => absurd (hM0 _ h) (by omega), hl1, hd1⟩
    · refine callsIn_wide.2 (hcall.mono ?_)
      rintro e W2 ⟨⟨v, rfl⟩, M, N, i, hm, n0, n1, hl, hd⟩
      refine ⟨none, _, run_endLoop (P := P) hl (by simp [rc]), ?_⟩
      exact hdone B N _ (Nat.le_refl _) n0 (hI _ _ _ _ i (Mine.putObj _ (by omega) n1)) ((World.putObj_heap_other (by omega)).trans hd)
    · rintro pre x M W ⟨N, i, hm, n0, n1, hl, hd⟩ hpre
      have hlt : B + 1 < W.heap.size := (Array.getElem?_eq_some_iff.1 hl).1
      refine ⟨fn, _, assign, body, run_yield (P := P) (args := encs x) hl (hps x), roundIn_of_wpIn hfn (hassign _ _ x W _ ?_)⟩
      intro a' Wa hba hax
      have hla : Wa.heap[B + 1]? = some (.loop (rc .ready)) := (hba.block _ hlt).trans hl
      have hda : Wa.heap[B]? = some (.deferred (some [])) := (hba.block _ (Array.getElem?_eq_some_iff.1 hd).1).trans hd
      have hza := hba.size
      have hNz : ∀ k, N k → k < W.heap.size := hK _ _ _ i
      have ia : I pre N Wa := hI _ _ _ _ i (Mine.below hba)
      refine ⟨_, run_beginRound hla rfl, ?_⟩
      generalize hW2 : Wa.putObj (B + 1) (.loop { rc .ready with state := .busy }) = W2
      have j2 : W2.heap[B + 1]? = some (.loop { rc .ready with state := .busy }) := by rw [← hW2]; exact World.putObj_heap_same (Nat.lt_of_lt_of_le hlt hza)
      have jo : ∀ k, k ≠ B + 1 → W2.heap[k]? = Wa.heap[k]? := fun k hk => by rw [← hW2]; exact World.putObj_heap_other hk
      have jz : W2.heap.size = Wa.heap.size := by rw [← hW2]; simp
      have jI : I pre N W2 := by rw [← hW2]; exact hI _ _ _ _ ia (Mine.putObj _ (by omega) n1)
      have jA : Ax x a' W.heap.size W2 := hAx _ _ _ _ _ hax (fun k hk _ => jo k (by omega))
      refine wpIn_mono (hbody _ _ pre x N a' W.heap.size W2 jI hNz (by omega) jA hpre) ?_
      rintro e a3 W3 hp
      cases e with
      | normal =>
        obtain ⟨N', i', T⟩ := hp
        have l2 := (T.same (B + 1) (by omega) n1).trans j2
        have hlt3 := (Array.getElem?_eq_some_iff.1 l2).1
        have l3 : W3.heap[B]? = some (.deferred (some [])) := (T.same B (by omega) n0).trans ((jo B (by omega)).trans hda)
        have m0 : ¬ N' B := fun h => (T.more _ h).elim n0 (by omega)
        have m1 : ¬ N' (B + 1) := fun h => (T.more _ h).elim n1 (by omega)
        have hend := run_endRound (P := P) none l2
        refine ⟨_, _, hend, rfl, fun k => N' k ∨ k = B + 1, ⟨N', hI _ _ _ _ i' (Mine.putObj _ (by omega) m1), fun _ => Iff.rfl, m0, m1, World.putObj_heap_same hlt3, (World.putObj_heap_other (by omega)).trans l3⟩, ?_, ?_, ?_⟩
        · have := T.size; simp; omega
        · intro k hk hnk
          have hk1 : k ≠ B + 1 := fun e => hnk ((hm k).2 (.inr e))
          exact (World.putObj_heap_other hk1).trans ((T.same k (by omega) (fun h => hnk ((hm k).2 (.inl h)))).trans ((jo k hk1).trans (hba.block k hk)))
        · rintro k (h | rfl)
          · rcases T.more k h with h | h
            · exact .inl ((hm k).2 (.inl h))
            · exact .inr (by omega)
          · exact .inl ((hm _).2 (.inr rfl))
      | ret => exact hp.elim
      | exit id => exact hp.elim
      | goto t => exact hp.elim
      | panic ch => exact hp.elim
      | outgrown => exact hp.elim

/-- where the loop's own assignments lay nothing -/
theorem range_m {α : Type} {encs : α → Array Value} {n : Nat} {P : Program} {g : Operand} {ps : Array Tmp} {assign body : Code} {Q : Exit → Act → World → Prop} {a : Act} {w : World}
    {gf : Nat} {lb : Array Value} (hg : a.eval g = .func (.func gf) #[] lb) (eg : ∀ args w, (callFunc gf args).run P w = .ok (.enter gf args) w)
    {xs : List α} {S : World → Prop} (hps : ∀ x, (encs x).size = ps.size) (hseq : HandsM P gf lb encs xs S) (I : List α → (Nat → Prop) → World → Prop) (hK : KnownM I) (hI : AbidesM w.heap.size I) (hS : ∀ s M W, I s M W → S W)
    (M0 : Nat → Prop) (h0 : I [] M0 w) (a₁ : α → Act)
    (hassign : ∀ (l m : Nat) (x : α) (W : World) (K : Act → World → Prop), K (a₁ x) W → assign.wpIn (Fence.wide.inRound l) m P (Exit.then K (fun _ _ _ => False)) { tmps := (ps.zip (encs x)).foldl (fun t (p, v) => t.setIfInBounds p v) a.tmps, defers := [] } W)
    (hbody : ∀ (l m : Nat) (pre : List α) (x : α) (M : Nat → Prop) (W : World), I pre M W → pre ++ [x] <+: xs → body.wpIn (Fence.wide.inRound l) m P (BodyM I (pre ++ [x]) M W) (a₁ x) W)
    (hdone : ∀ (D : Nat) (M : Nat → Prop) (W : World), w.heap.size ≤ D → ¬ M D → I xs M W → W.heap[D]? = some (.deferred (some [])) → Q .normal { a with defers := { target := .collected D, args := #[] } :: a.defers } W) :
    (Code.rangeFunc g ps assign body).wpIn Fence.wide n P Q a w :=
  range_mx hg eg hps hseq I hK hI hS M0 h0 (fun x a' _ _ => a' = a₁ x) (fun _ _ _ _ _ h _ => h)
    (fun l m x W K hk => hassign l m x W K (hk _ _ (Below.refl _ _) rfl)) (fun l m pre x M a' _ W i _ _ e hp => by subst e; exact hbody l m pre x M W i hp) hdone
end Tk
end Go.Proofs.YthooghgiokgdhaaDoor
namespace Go.Proofs.YthooghgiokgdhaaDoor
open Go.RowKit
namespace Tk

/-- block g is a variable with these cells -/
def Bx (w : World) (g : Nat) (T : TypeId) (cs : Array Value) : Prop := w.heap[g]? = some (.cells cs T (0, 0))
theorem Bx.new (w : World) (T : TypeId) (cs : Array Value) : Bx (w.alloc (.cells cs T)) w.heap.size T cs := heap_alloc_last w _
theorem Bx.lt {w : World} {g : Nat} {T : TypeId} {cs : Array Value} (h : Bx w g T cs) : g < w.heap.size := (Array.getElem?_eq_some_iff.1 h).1
theorem Bx.later {w w' : World} {g : Nat} {T : TypeId} {cs : Array Value} (h : Bx w g T cs) (hb : Below w.heap.size w w') : Bx w' g T cs := (hb.block g h.lt).trans h
theorem Bx.cell {w : World} {g : Nat} {T : TypeId} {cs : Array Value} (h : Bx w g T cs) (i : Nat) (v : Value) (hv : cs[i]? = some v) : w.cell? ⟨g, i, none⟩ = some v := by rw [Lib.cell_of_heap h]; exact hv
theorem Bx.frozen {w : World} {g : Nat} {T : TypeId} {cs : Array Value} (h : Bx w g T cs) (i : Nat) : w.frozen? ⟨g, i, none⟩ = false := Lib.frozen_of_heap h i
theorem Bx.set {w : World} {g : Nat} {T : TypeId} {cs : Array Value} (h : Bx w g T cs) (i : Nat) (v : Value) : Bx (w.setCell ⟨g, i, none⟩ v) g T (cs.setIfInBounds i v) := heap_setCell_same w g i cs T v h
theorem Bx.grown {w w' : World} {g : Nat} {T : TypeId} {cs : Array Value} {r : Option Nat} (h : Bx w g T cs) (hg : w.grownBy w' r) (hr : some g ≠ r) : Bx w' g T cs := (hg.block g h.lt hr).trans h
theorem grown_setC (w : World) (g i : Nat) (v : Value) : w.grownBy (w.setCell ⟨g, i, none⟩ v) (some g) :=
  ⟨rfl, rfl, rfl, by rw [World.size_setCell]; exact Nat.le_refl _, fun k _ hne => heap_setCell_other w ⟨g, i, none⟩ k v (fun e => hne (by rw [e]))⟩
theorem grownC_trans {a b c : World} {r : Option Nat} (h : a.grownBy b r) (k : b.grownBy c r) : a.grownBy c r :=
  ⟨k.os.trans h.os, k.tape.trans h.tape, k.output.trans h.output, Nat.le_trans h.size k.size, fun i hi hne => (k.block i (Nat.lt_of_lt_of_le hi h.size) hne).trans (h.block i hi hne)⟩
theorem grownC_refl (a : World) (r : Option Nat) : a.grownBy a r := ⟨rfl, rfl, rfl, Nat.le_refl _, fun _ _ _ => rfl⟩
theorem grownC_below {w w' : World} (h : Below w.heap.size w w') (r : Option Nat) : w.grownBy w' r := ⟨h.os, h.tape, h.output, h.size, fun k hk _ => h.block k hk⟩

end Tk
end Go.Proofs.YthooghgiokgdhaaDoor
namespace Go.Proofs.YthooghgiokgdhaaDoor
open Go.RowKit
namespace Tk

attribute [local go_sem] Oper.semAt_some

/-- the tables of unicode/utf8 lie as they are laid -/
def Utf (w : World) : Prop := Lib.Utf8Tabs 0 1 w
theorem Utf.later {w w' : World} (h : Utf w) (hb : Below w.heap.size w w') : Utf w' := Utf8Tabs_below h hb

def whR (r : Nat) : Bool := decide (r = 32) || decide (r = 9)
set_option maxHeartbeats 1000000 in
theorem white_any (r : Nat) (w : World) : Calls Tryd.prog 47 #[.int .i32 r] w fun e w' => e = .returned (.bool (whR r)) ∧ w' = w := by
  unfold whR
  by_cases h1 : r = 32
  · subst h1
    go_enter Tryd.func47, Tryd.ntmps47
    go_wp2_with fail
    go_ret
    exact ⟨rfl, rfl⟩
  · have e1 : ((r : Int) == 32) = false := by rw [beq_eq_false_iff_ne]; omega
    by_cases h2 : r = 9
    · subst h2
      go_enter Tryd.func47, Tryd.ntmps47
      go_wp2_with fail
      go_ret
      exact ⟨rfl, rfl⟩
    · have e2 : ((r : Int) == 9) = false := by rw [beq_eq_false_iff_ne]; omega
      rw [decide_eq_false h1, decide_eq_false h2]
      clear h1 h2
      go_enter Tryd.func47, Tryd.ntmps47
      go_wp2_with fail
      go_ret
      exact ⟨rfl, rfl⟩

theorem tailS (s : Bs) (i : Nat) : (mkS s).extract i (mkS s).size = mkS (s.drop i) := by
  rw [extract_mkS, bs_mkS, size_mkS, List.take_of_length_le (by rw [List.length_drop]; omega)]
theorem dec_any (s : Bs) (i : Nat) (hi : i < s.length) (w : World) (hT : Utf w) :
    Calls Tryd.prog 73 #[.string ((mkS s).extract i (mkS s).size)] w fun e w' => e = .returned (.tuple #[.int .i32 (Utf8.decode (mkS (s.drop i)) 0).1, .int .i64 (Utf8.decode (mkS (s.drop i)) 0).2]) ∧ Below w.heap.size w w' := by
  have h := Tryd.utf8_DecodeRuneInString (mkS (s.drop i)) w hT
  rw [tailS]
  have e : Lib.decodeGo (mkS (s.drop i)) = Utf8.decode (mkS (s.drop i)) 0 := by
    unfold Lib.decodeGo
    rw [if_neg (by rw [size_mkS, List.length_drop]; omega)]
  rw [e] at h
  exact h

/-- what the iterator reads: the text, the test, the tables -/
def FfsS (gs gf : Nat) (s : Bs) (W : World) : Prop := Bx W gs 9 #[.string (mkS s)] ∧ Bx W gf 70 #[.func (.func 47) #[] #[]] ∧ Utf W
def strE (x : Bs) : Array Value := #[.string (mkS x)]

/-- where the walk over a text stands -/
def At (s : Bs) (i : Nat) (st : Int) (pre : List Bs) : Prop := (st = -1 ∧ Fl s i pre []) ∨ ∃ k : Nat, st = (k : Int) ∧ k < i ∧ Fl s i pre ((s.drop k).take (i - k))
theorem cur_ne {s : Bs} {i k : Nat} (hk : k < i) (hi : i ≤ s.length) : (s.drop k).take (i - k) ≠ [] := by
  intro e
  have := congrArg List.length e
  rw [List.length_take, List.length_drop, List.length_nil] at this
  omega
theorem cur_step (s : Bs) (k i n : Nat) (hk : k ≤ i) : (s.drop k).take (i - k) ++ (s.drop i).take n = (s.drop k).take (i + n - k) := by
  rw [show i + n - k = (i - k) + n by omega, List.take_add, List.drop_drop, show k + (i - k) = i by omega]

set_option maxHeartbeats 8000000 in
set_option maxRecDepth 100000 in
theorem ffs1_hands (gs gf : Nat) (s : Bs) (hs : s.length ≤ 1099511627776) :
    HandsM Tryd.prog 72 #[.pointer (some ⟨gs, 0, none⟩), .pointer (some ⟨gf, 0, none⟩)] strE (fldL s) (FfsS gs gf s) := by
  intro l J M W hK hJ hS hY h0
  have hc := hS _ _ _ h0
  have HK := Lib.hid hK
  have HJ := Lib.hid hJ
  have HS := Lib.hid hS
  have HY := Lib.hid hY
  have H0 := Lib.hid h0
  have hz := size_mkS s
  have HZ := Lib.hid hz
  clear hK hJ hS hY h0 hc
  refine (callsIn_wide (n := 5)).1 ?_
  refine callsIn_of_wp Tryd.func72 rfl trivial ?_ rfl
  simp only [Tryd.ntmps72, List.size_toArray, List.length_cons, List.length_nil, Nat.reduceAdd, Nat.reduceSub, Array.replicate_succ, Array.replicate_zero, List.push_toArray, List.append_toArray, List.nil_append, List.cons_append]
  clear hz
  gi_wp2
  gi_loopw [4, 5] (fun vs vi wr => ∃ (i : Nat) (st : Int) (pre : List Bs), i ≤ s.length ∧ vi = .int .i64 i ∧ vs = .int .i64 st ∧ Hid (At s i st pre) ∧ Hid (∃ N, J pre N wr)) (fun _ vi _ => s.length - (RowKit.intOf vi).toNat)
  case atStart => exact ⟨0, -1, [], Nat.zero_le _, rfl, rfl, .inl ⟨rfl, Fl.start s⟩, ⟨M, H0.out⟩⟩
  case round =>
    obtain ⟨i, st, pre, hi, rfl, rfl, HA, HJi⟩ := hrel
    by_cases hlt : i < s.length
    · obtain ⟨N, hJi⟩ := HJi.out
      obtain ⟨hx, hf, hu⟩ := HS.out _ _ _ hJi
      have c0 := hx.cell 0 _ rfl
      have HD := dec_any s i hlt wr hu
      have HJ0 := Lib.hid hJi
      have HJB := Lib.hid (fun (w3 : World) (N2 : Nat → Prop) (s2 : List Bs) (w4 : World) (h1 : J s2 N2 w3) (h2 : Below w3.heap.size w3 w4) => HJ.out s2 N2 w3 w4 h1 (Mine.below h2))
      have g0 : (0 : Int) ≤ (i : Int) := by omega
      have g1 : (i : Int) < ((mkS s).size : Int) := by rw [HZ.out]; omega
      have HLt : Hid (i < s.length) := hlt
      clear hx hf hu hJi HJi hi hlt
      by_cases hw : whV (s.getD i 0) = true
      · rw [dec_white s i hw] at HD
        have hr : whR (s.getD i 0).toNat = true := by unfold whR; rw [← whV_toNat]; exact hw
        have HW := fun W1 : World => white_any (s.getD i 0).toNat W1
        rw [hr] at HW
        have HDc : Hid (CallsIn Fence.wide 4 Tryd.prog _ _ wr _) := callsIn_wide.2 HD
        have HWc : Hid (∀ W1 : World, CallsIn Fence.wide 4 Tryd.prog _ _ W1 _) := fun W1 => callsIn_wide.2 (HW W1)
        have HWV := Lib.hid hw
        clear HD HW hr hw
        generalize (s.getD i 0).toNat = r at *
        have hwA : IntKind.i64.wrap ((i : Int) + 1) = ((i + 1 : Nat) : Int) := by rw [IntWalk.i64_in _ (by have := HLt.out; omega)]; omega
        rcases HA.out with ⟨rfl, hfl⟩ | ⟨k, rfl, hki, hfl⟩
        · have HF2 := Lib.hid (hfl.white0 HLt.out HWV.out)
          clear HA hfl
          gi_wp2_with fail
          refine ⟨trivial, HDc.out.mono ?_⟩
          rintro e w1 ⟨rfl, hb1⟩
          have hJ1 := HJB.out _ _ _ _ HJ0.out hb1
          obtain ⟨hx1, hf1, -⟩ := HS.out _ _ _ hJ1
          have c1 := hf1.cell 0 _ rfl
          have HJ1 := Lib.hid hJ1
          clear hb1 hJ1 hx1 hf1
          gi_wp2_with fail
          refine ⟨trivial, (HWc.out _).mono ?_⟩
          rintro e w2 ⟨rfl, rfl⟩
          gi_wp2_with fail
          refine ⟨⟨i + 1, -1, pre, by have := HLt.out; omega, by go_num, rfl, .inl ⟨rfl, HF2.out⟩, ⟨N, HJ1.out⟩⟩, ?_⟩
          simp [RowKit.intOf]; have := HLt.out; omega
        · have hne := cur_ne hki (Nat.le_of_lt HLt.out)
          have hf2 := hfl.white1 hne HLt.out HWV.out
          have HF2 := Lib.hid hf2
          have HPr := Lib.hid hf2.pre
          have hcut : (mkS s).extract k i = mkS ((s.drop k).take (i - k)) := by rw [extract_mkS, bs_mkS]
          have HCut := Lib.hid hcut
          have k0 : (0 : Int) ≤ (k : Int) := by omega
          have k1 : (k : Int) ≤ (i : Int) := by omega
          have g2 : (i : Int) ≤ ((mkS s).size : Int) := by omega
          clear HA hfl hf2 hcut hne hki
          generalize (s.drop k).take (i - k) = cur at *
          gi_wp2_with fail
          refine ⟨trivial, HDc.out.mono ?_⟩
          rintro e w1 ⟨rfl, hb1⟩
          have hJ1 := HJB.out _ _ _ _ HJ0.out hb1
          obtain ⟨hx1, hf1, -⟩ := HS.out _ _ _ hJ1
          have c1 := hf1.cell 0 _ rfl
          have c2 := hx1.cell 0 _ rfl
          have HJ1 := Lib.hid hJ1
          clear hb1 hJ1 hx1 hf1
          gi_wp2_with fail
          refine ⟨trivial, (HWc.out _).mono ?_⟩
          rintro e w2 ⟨rfl, rfl⟩
          obtain ⟨fn, tm, asg, bd, hy, hR⟩ := (HY.out _ _ N w2 HJ1.out HPr.out).at (m := 4)
          unfold strE at hy
          rw [← HCut.out] at hy
          gi_wp2_with fail
          refine hR.mono ?_
          rintro e w7 ⟨rfl, N7, hJ7, hT7⟩
          have HJ7 := Lib.hid hJ7
          clear hJ7 hT7 hy hR
          gi_wp2_with fail
          refine ⟨⟨i + 1, -1, pre ++ [cur], by have := HLt.out; omega, by go_num, rfl, .inl ⟨rfl, HF2.out⟩, ⟨N7, HJ7.out⟩⟩, ?_⟩
          simp [RowKit.intOf]; have := HLt.out; omega
      · rw [Bool.not_eq_true] at hw
        obtain ⟨d1, d2, d3, d4, d5⟩ := dec_plain s i HLt.out hw
        generalize (Utf8.decode (mkS (s.drop i)) 0).1 = r at *
        generalize (Utf8.decode (mkS (s.drop i)) 0).2 = n at *
        have hr : whR r = false := by unfold whR; rw [decide_eq_false d1, decide_eq_false d2]; rfl
        have HW := fun W1 : World => white_any r W1
        rw [hr] at HW
        have HDc : Hid (CallsIn Fence.wide 4 Tryd.prog _ _ wr _) := callsIn_wide.2 HD
        have HWc : Hid (∀ W1 : World, CallsIn Fence.wide 4 Tryd.prog _ _ W1 _) := fun W1 => callsIn_wide.2 (HW W1)
        have hwA : IntKind.i64.wrap ((i : Int) + (n : Int)) = ((i + n : Nat) : Int) := by rw [IntWalk.i64_in _ (by omega)]; omega
        have HIN : Hid (i + n ≤ s.length ∧ i < i + n) := ⟨d4, by omega⟩
        have hfin : Hid (∃ k : Nat, (st = -1 → k = i) ∧ (∀ m : Nat, st = (m : Int) → k = m) ∧ k < i + n ∧ Fl s (i + n) pre ((s.drop k).take (i + n - k))) := by
          rcases HA.out with ⟨rfl, hfl⟩ | ⟨k, rfl, hki, hfl⟩
          · refine ⟨i, fun _ => rfl, fun m hm => by omega, by omega, ?_⟩
            have h2 := hfl.plain n d4 d5
            rw [List.nil_append] at h2
            rw [show i + n - i = n by omega]
            exact h2
          · refine ⟨k, fun h => by omega, fun m hm => by omega, by omega, ?_⟩
            have h2 := hfl.plain n d4 d5
            rw [cur_step s k i n (by omega)] at h2
            exact h2
        generalize hKe : i + n = K at *
        clear hKe HD HW hr hw d1 d2 d3 d4 d5
        rcases HA.out with ⟨rfl, -⟩ | ⟨k, rfl, hki, -⟩
        · obtain ⟨k, hk1, -, hk2, hk3⟩ := hfin.out
          obtain rfl := hk1 rfl
          have HE := Lib.hid (And.intro hk2 hk3)
          clear HA hk1 hk2 hk3 hfin
          gi_wp2_with fail
          refine ⟨trivial, HDc.out.mono ?_⟩
          rintro e w1 ⟨rfl, hb1⟩
          have hJ1 := HJB.out _ _ _ _ HJ0.out hb1
          obtain ⟨hx1, hf1, -⟩ := HS.out _ _ _ hJ1
          have c1 := hf1.cell 0 _ rfl
          have HJ1 := Lib.hid hJ1
          clear hb1 hJ1 hx1 hf1
          gi_wp2_with fail
          refine ⟨trivial, (HWc.out _).mono ?_⟩
          rintro e w2 ⟨rfl, rfl⟩
          gi_wp2_with fail
          refine ⟨⟨K, (k : Int), pre, HIN.out.1, rfl, rfl, .inr ⟨k, rfl, HE.out.1, HE.out.2⟩, ⟨N, HJ1.out⟩⟩, ?_⟩
          simp [RowKit.intOf]; have := HLt.out; have := HIN.out.2; omega
        · obtain ⟨k', -, hk1, hk2, hk3⟩ := hfin.out
          obtain rfl := hk1 k rfl
          have HE := Lib.hid (And.intro hk2 hk3)
          have HKI := Lib.hid hki
          have k0 : (0 : Int) ≤ (k' : Int) := by omega
          clear HA hk1 hk2 hk3 hfin hki
          gi_wp2_with fail
          refine ⟨trivial, HDc.out.mono ?_⟩
          rintro e w1 ⟨rfl, hb1⟩
          have hJ1 := HJB.out _ _ _ _ HJ0.out hb1
          obtain ⟨hx1, hf1, -⟩ := HS.out _ _ _ hJ1
          have c1 := hf1.cell 0 _ rfl
          have HJ1 := Lib.hid hJ1
          clear hb1 hJ1 hx1 hf1
          gi_wp2_with fail
          refine ⟨trivial, (HWc.out _).mono ?_⟩
          rintro e w2 ⟨rfl, rfl⟩
          gi_wp2_with fail
          refine ⟨⟨K, (k' : Int), pre, HIN.out.1, rfl, rfl, .inr ⟨k', rfl, HE.out.1, HE.out.2⟩, ⟨N, HJ1.out⟩⟩, ?_⟩
          simp [RowKit.intOf]; have := HLt.out; have := HIN.out.2; omega
    · obtain ⟨N, hJi⟩ := HJi.out
      obtain ⟨hx, -, -⟩ := HS.out _ _ _ hJi
      have c0 := hx.cell 0 _ rfl
      obtain rfl : i = s.length := by omega
      have HJ0 := Lib.hid hJi
      have g1 : ¬ ((s.length : Int) < ((mkS s).size : Int)) := by rw [HZ.out]; omega
      clear hx hJi HJi hi hlt
      rcases HA.out with ⟨rfl, hfl⟩ | ⟨k, rfl, hki, hfl⟩
      · have hl := hfl.last
        rw [if_pos rfl, List.append_nil] at hl
        have HJ1 : Hid (J (fldL s) N wr) := by show J (fldL s) N wr; rw [hl]; exact HJ0.out
        clear HA hfl hl
        gi_wp2_with fail
        go_end0
        exact ⟨⟨_, rfl⟩, N, HJ1.out⟩
      · have hne := cur_ne hki (Nat.le_refl _)
        have hl := hfl.last
        rw [if_neg hne] at hl
        have hcut : (mkS s).extract k (mkS s).size = mkS ((s.drop k).take (s.length - k)) := by rw [extract_mkS, bs_mkS, HZ.out]
        have HL := Lib.hid hl
        have k0 : (0 : Int) ≤ (k : Int) := by omega
        have k1 : (k : Int) ≤ ((mkS s).size : Int) := by rw [HZ.out]; omega
        clear HA hfl hl hne hki
        generalize (s.drop k).take (s.length - k) = cur at *
        obtain ⟨fn, tm, asg, bd, hy, hR⟩ := (HY.out _ _ N wr HJ0.out (by rw [HL.out]; exact List.prefix_refl _)).at (m := 4)
        unfold strE at hy
        rw [← hcut] at hy
        clear hcut
        gi_wp2_with fail
        refine hR.mono ?_
        rintro e w7 ⟨rfl, N7, hJ7, hT7⟩
        have HJ7 : Hid (J (fldL s) N7 w7) := by show J (fldL s) N7 w7; rw [HL.out]; exact hJ7
        clear hJ7 hT7 hy hR
        gi_wp2_with fail
        go_end0
        exact ⟨⟨_, rfl⟩, N7, HJ7.out⟩
end Tk
end Go.Proofs.YthooghgiokgdhaaDoor
namespace Go.Proofs.YthooghgiokgdhaaDoor
open Go.RowKit
namespace Tk

theorem app_where {P : Program} (w : World) (base : Nat) (t u ty e : TypeId) (i : TypeInfo) (ht : P.underlying t = some (.slice e)) (hu : P.underlying u = some .string) (hi : P.info? e = some i) (hz : i.zero = some (.int .u8 0))
    (hsize : i.size = 1) (hby : i.bytes = 1) (v : Value) (n : Nat) (xs : List Value) (hown : w.ownsRow base e 1 v n xs) (s : ByteArray)
    (h63 : n + s.size ≤ maxLen) (hbytes : n + s.size ≤ 140737488355328) (v' : Value) (w' : World) (hr : (Builtin.append_ #[t, u] ty #[v, .string s]).run P w = .ok v' w') :
    v'.ownBlock = v.ownBlock ∨ v'.ownBlock = some w.heap.size := by
  have hsmall : n + s.size ≤ 9223372036854775807 := by simp only [maxLen] at h63; omega
  have hxl : xs.length = n := by simpa using hown.1
  rcases hown.2 with ⟨rfl, rfl⟩ | ⟨g, cap, cur, rfl, hbg, hg, hnc, hcm, hcs, htake⟩
  · by_cases hm : s.size = 0
    · left
      have hf := Lib.run_firstCells_string (P := P) w 1 s
      rw [hm] at hf
      simp [Builtin.append_, run_underlying ht, run_underlying hu, sizeOf, typeInfo, hi, hsize, Builtin.lenOf, hm, hf] at hr
      rw [← hr.1]
    · right
      have h := run_append_nil_string (P := P) w t u ty e i (.int .u8 0) ht hu hi hz s (by omega) (by omega) (by rw [hby]; omega)
      rw [h] at hr
      injection hr with h1 h2
      rw [← h1]; rfl
  · by_cases hroom : n + s.size ≤ cap
    · left
      have hcs' : cur.size = cap := by simpa using hcs
      have h := Lib.run_append_room_string (P := P) (w := w) t u ty e i ht hu hi hsize g n cap cur hg s hroom (by omega)
      rw [h] at hr
      injection hr with h1 h2
      rw [← h1]; rfl
    · right
      have holds : ∀ j u, xs[j]? = some u → w.cell? ((⟨g, 0, none⟩ : Addr).add j) = some u := hown.cells (g := g) rfl
      have h := Lib.run_append_grow_string (P := P) (w := w) t u ty e i (.int .u8 0) ht hu hi hz ⟨g, 0, none⟩ n cap xs (by rw [hsize]; simpa using hxl) holds s (by omega) (by omega) (by rw [hby]; exact growslice_fits (by omega) (by omega))
      rw [h] at hr
      injection hr with h1 h2
      rw [← h1]; rfl

theorem wpList_append_atS {P : Program} (w : World) {ops : Array Oper} {rest : List Oper} {o : Oper} {a : Act} {Q : Exit → Act → World → Prop} (hgd : o.guard = none) (sl x : Operand) (t u : TypeId)
    (ho : o.op = .call { callee := .builtin .append, args := #[sl, x], argTypes := #[t, u] })
    (base : Nat) (e : TypeId) (i : TypeInfo) (ht : P.underlying t = some (.slice e)) (hu : P.underlying u = some .string) (hi : P.info? e = some i) (hz : i.zero = some (.int .u8 0))
    (hsize : i.size = 1) (hby : i.bytes = 1)
    (v : Value) (n : Nat) (xs : List Value) (hs : a.eval sl = v) (hown : w.ownsRow base e 1 v n xs) (s : ByteArray) (hx : a.eval x = .string s)
    (h63 : n + s.size ≤ maxLen) (hbytes : n + s.size ≤ 140737488355328) (hbase : base ≤ w.heap.size)
    (h : ∀ v' w', w'.ownsRow base e 1 v' (n + s.size) (xs ++ Lib.strCells s) → w.grownBy w' v.ownBlock → (v'.ownBlock = v.ownBlock ∨ v'.ownBlock = some w.heap.size) → wpList P ops Q rest (a.put o.dst v') w') : wpList P ops Q (o :: rest) a w := by
  refine wpList_plain hgd fun K hK => ?_
  obtain ⟨v', w', hr, h2, h3, h4⟩ := Lib.run_append_own_string (P := P) w base t u o.type e i ht hu hi hz hsize hby v n xs hown s h63 hbytes hbase
  have h5 := app_where w base t u o.type e i ht hu hi hz hsize hby v n xs hown s h63 hbytes v' w' hr
  unfold Oper.wp execOp
  simp only [ho, resolve, invoke, builtin, Sem.run_bind, Sem.run_pure, Result.andThen_ok, List.map_toArray, List.map_cons, List.map_nil, hs, hx, hr]
  exact hK _ _ (h v' w' h2 h3 h5)
end Tk
end Go.Proofs.YthooghgiokgdhaaDoor
namespace Go.Proofs.YthooghgiokgdhaaDoor
open Go.RowKit
namespace Tk

/-- block b is a builder that holds l; it and its bytes lie in M -/
structure BM (b : Nat) (l : Bs) (M : Nat → Prop) (W : World) : Prop where
  isb : IsB 0 b l W
  mb : M b
  own : ∀ (p v : Value), W.heap[b]? = some (.cells #[p, v] 51 (0, 0)) → ∀ k, v.ownBlock = some k → M k

theorem isB_row {B b : Nat} {l : Bs} {w : World} (h : IsB B b l w) : ∃ p v, w.heap[b]? = some (.cells #[p, v] 51 (0, 0)) ∧ w.ownsRow B 5 1 v (Lib.byteCells l).length (Lib.byteCells l) := by
  rcases h with h | h
  · obtain ⟨-, v, hb, ho, -⟩ := h; exact ⟨_, v, hb, ho⟩
  · obtain ⟨-, v, hb, ho, -⟩ := h; exact ⟨_, v, hb, ho⟩
theorem BM.lt {b : Nat} {l : Bs} {M : Nat → Prop} {W : World} (h : BM b l M W) : b < W.heap.size := by
  obtain ⟨p, v, hb, -⟩ := isB_row h.isb
  exact (Array.getElem?_eq_some_iff.1 hb).1
theorem BM.mine {b B : Nat} {l : Bs} {M : Nat → Prop} {W W' : World} (h : BM b l M W) (hm : Mine B M W W') : BM b l M W' := by
  obtain ⟨hi, hmb, ho⟩ := h
  have hlt : b < W.heap.size := BM.lt ⟨hi, hmb, ho⟩
  have hbb : W'.heap[b]? = W.heap[b]? := hm.same b hlt (.inr hmb)
  have hrow : ∀ (p v : Value), W.heap[b]? = some (.cells #[p, v] 51 (0, 0)) → ∀ (cs : List Value) (n : Nat), W.ownsRow 0 5 1 v n cs → W'.ownsRow 0 5 1 v n cs := by
    intro p v hb cs n hr
    refine ⟨hr.1, ?_⟩
    rcases hr.2 with hn | ⟨g, cap, cur, hv, hbase, hg, h1, h2, h3, h4⟩
    · exact .inl hn
    · have hgl : g < W.heap.size := (Array.getElem?_eq_some_iff.1 hg).1
      have hmg : M g := ho p v hb g (by rw [hv]; rfl)
      exact .inr ⟨g, cap, cur, hv, hbase, (hm.same g hgl (.inr hmg)).trans hg, h1, h2, h3, h4⟩
  refine ⟨?_, hmb, fun p v hb => ho p v (hbb ▸ hb)⟩
  rcases hi with h | h
  · obtain ⟨h0, v, hb, hr, hne⟩ := h
    exact .inl ⟨h0, v, hbb.trans hb, hrow _ v hb _ _ hr, hne⟩
  · obtain ⟨h0, v, hb, hr, hne⟩ := h
    exact .inr ⟨h0, v, hbb.trans hb, hrow _ v hb _ _ hr, hne⟩
theorem BM.known {b : Nat} {l : Bs} {M : Nat → Prop} {W : World} (h : BM b l M W) : b < W.heap.size := h.lt

theorem two_inj {p v p' v' : Value} {T : TypeId} {fr fr' : Nat × Nat} (h : some (Obj.cells #[p, v] T fr) = some (Obj.cells #[p', v'] T fr')) : v = v' := by
  injection h with h
  injection h with h1
  have h2 := congrArg Array.toList h1
  exact (by simpa using h2 : p = p' ∧ v = v').2

/-- what writing leaves -/
def WrPost (b : Nat) (l : Bs) (M : Nat → Prop) (w w' : World) : Prop := ∃ M', BM b l M' w' ∧ Turns M M' w w' ∧ w'.os = w.os ∧ w'.tape = w.tape ∧ w'.output = w.output ∧ ∀ k, M' k → M k ∨ k < w'.heap.size

theorem wr_end {b : Nat} {l l' : Bs} {M : Nat → Prop} {w w2 : World} {p v p' v' : Value} (hM : BM b l M w) (hlen : w.heap.size ≤ w2.heap.size)
    (hb0 : w.heap[b]? = some (.cells #[p, v] 51 (0, 0))) (h2 : w2.heap[b]? = some (.cells #[p', v'] 51 (0, 0)))
    (hI : IsB 0 b l' w2) (hs : ∀ k, k < w.heap.size → k ≠ b → some k ≠ v.ownBlock → w2.heap[k]? = w.heap[k]?) (hw : v'.ownBlock = v.ownBlock ∨ ∃ z, v'.ownBlock = some z ∧ w.heap.size ≤ z ∧ z < w2.heap.size)
    (he : w2.os = w.os ∧ w2.tape = w.tape ∧ w2.output = w.output) : WrPost b l' M w w2 := by
  refine ⟨fun k => M k ∨ (w.heap.size ≤ k ∧ k < w2.heap.size), ⟨hI, .inl hM.mb, ?_⟩, ⟨hlen, fun k hk hn => hs k hk (fun e => hn (e ▸ hM.mb)) (fun e => hn (hM.own p v hb0 k e.symm)), fun k hk => hk.elim .inl (fun h => .inr h.1)⟩, he.1, he.2.1, he.2.2, fun k hk => hk.elim .inl (fun h => .inr h.2)⟩
  intro p2 v2 hb2 k hk
  have e2 : v2 = v' := two_inj (hb2.symm.trans h2)
  subst e2
  rcases hw with h | ⟨z, h, h3, h4⟩
  · exact .inl (hM.own p v hb0 k (h ▸ hk))
  · rw [h] at hk
    injection hk with hk
    subst hk
    exact .inr ⟨h3, h4⟩

theorem chk_row {b : Nat} {l : Bs} {w w1 : World} {p v : Value} (hb : w.heap[b]? = some (.cells #[p, v] 51 (0, 0))) (h1 : Lib.BuilderAt 51 5 0 b (.pointer (some ⟨b, 0, none⟩)) (Lib.byteCells l) w1)
    (he : w1 = w ∨ w1 = w.setCell ⟨b, 0, none⟩ (.pointer (some ⟨b, 0, none⟩))) : w1.heap[b]? = some (.cells #[.pointer (some ⟨b, 0, none⟩), v] 51 (0, 0)) := by
  obtain ⟨-, v2, hb2, -⟩ := h1
  rcases he with rfl | rfl
  · have e2 : v = v2 := two_inj (hb.symm.trans hb2)
    rw [e2]; exact hb2
  · have h3 := heap_setCell_same w b 0 #[p, v] 51 (.pointer (some ⟨b, 0, none⟩)) hb
    exact h3

theorem check_how (b : Nat) (l : Bs) (w : World) (h : IsB 0 b l w) :
    Calls Tryd.prog 51 #[.pointer (some ⟨b, 0, none⟩)] w fun e w' => e = .returned (.tuple #[]) ∧ Lib.BuilderAt 51 5 0 b (.pointer (some ⟨b, 0, none⟩)) (Lib.byteCells l) w' ∧ (w' = w ∨ w' = w.setCell ⟨b, 0, none⟩ (.pointer (some ⟨b, 0, none⟩))) := by
  rcases h with h | h
  · refine (check_fresh b w h.cell0 h.shape h.frozen0).mono ?_
    rintro e w' ⟨rfl, rfl⟩
    exact ⟨rfl, h.used _, .inr rfl⟩
  · refine (check_used b w h.cell0).mono ?_
    rintro e w' ⟨rfl, rfl⟩
    exact ⟨rfl, h, .inl rfl⟩
theorem set_facts {b : Nat} {w w1 : World} (he : w1 = w ∨ w1 = w.setCell ⟨b, 0, none⟩ (.pointer (some ⟨b, 0, none⟩))) : w1.heap.size = w.heap.size ∧ (∀ k, k ≠ b → w1.heap[k]? = w.heap[k]?) ∧ w1.os = w.os ∧ w1.tape = w.tape ∧ w1.output = w.output := by
  rcases he with rfl | rfl
  · exact ⟨rfl, fun _ _ => rfl, rfl, rfl, rfl⟩
  · exact ⟨World.size_setCell _ _ _, fun k hk => Below.heap_setCell _ _ _ _ hk, rfl, rfl, rfl⟩

set_option maxHeartbeats 2000000 in
set_option maxRecDepth 100000 in
theorem writeStringM (b : Nat) (l : Bs) (M : Nat → Prop) (s : ByteArray) (w : World) (hM : BM b l M w) (hlen : l.length + s.size ≤ 1099511627776) :
    Calls Tryd.prog 32 #[.pointer (some ⟨b, 0, none⟩), .string s] w fun e w' => e = .returned (.tuple #[.int .i64 s.size, .nilIface]) ∧ WrPost b (l ++ bs s) M w w' := by
  obtain ⟨i0, hi, hz0, hz1, hz2⟩ := info_parts byteInf
  have hl : (Lib.byteCells l).length = l.length := by simp [Lib.byteCells]
  obtain ⟨p0, v0, hb0, -⟩ := isB_row hM.isb
  have HM := Lib.hid hM
  have HB0 := Lib.hid hb0
  have hCk := check_how b l w hM.isb
  clear hM hb0
  go_enter Tryd.func32, Tryd.ntmps32
  go_wp2_with fail
  refine hCk.mono ?_
  rintro e w1 ⟨rfl, h1, he1⟩
  have hbk := chk_row HB0.out h1 he1
  obtain ⟨fz, fo, fos, fta, fou⟩ := set_facts he1
  have FO := Lib.hid fo
  have FE := Lib.hid (And.intro fos (And.intro fta fou))
  obtain ⟨hB, v, hbk2, hown, hne⟩ := h1
  have hv : v = v0 := two_inj (hbk2.symm.trans hbk)
  have FZ := Lib.hid fz
  subst hv
  have c0 : w1.cell? ⟨b, 0, none⟩ = some (.pointer (some ⟨b, 0, none⟩)) := by rw [Lib.cell_of_heap hbk]; rfl
  have c1 : w1.cell? ⟨b, 1, none⟩ = some v := by rw [Lib.cell_of_heap hbk]; rfl
  clear he1 fz fo fos fta fou hbk2
  go_wp2_with (at_builtin; refine wpList_append_atS _ rfl _ _ 42 9 rfl 0 5 i0 Tryd.underlying42 Tryd.underlying9 hi hz0 hz1 hz2 _ _ _ rfl hown s rfl ?c3 ?c4 ?c5 ?_)
  case c3 => unfold maxLen; omega
  case c4 => omega
  case c5 => omega
  intro v' w2 hown' hgrow hat
  have hlt : b < w1.heap.size := (Array.getElem?_eq_some_iff.1 hbk).1
  have hb2 : w2.heap[b]? = some (.cells #[.pointer (some ⟨b, 0, none⟩), v] 51 (0, 0)) := by
    rw [hgrow.block b hlt (fun e => hne e.symm)]
    exact hbk
  have d0 : w2.cell? ⟨b, 0, none⟩ = some (.pointer (some ⟨b, 0, none⟩)) := by rw [Lib.cell_of_heap hb2]; rfl
  have d1 : w2.cell? ⟨b, 1, none⟩ = some v := by rw [Lib.cell_of_heap hb2]; rfl
  have f1 : w2.frozen? ⟨b, 1, none⟩ = false := Lib.frozen_of_heap hb2 1
  obtain ⟨ao, n', cap, rfl⟩ : ∃ ao n' cap, v' = .slice ao n' cap := by
    rcases hown'.2 with ⟨hv, _⟩ | ⟨g, cap, cur, hv, _⟩
    · exact ⟨_, _, _, hv⟩
    · exact ⟨_, _, _, hv⟩
  have HG := Lib.hid hgrow
  have HA := Lib.hid hat
  have HO := Lib.hid hown'
  clear hgrow hat hown'
  go_wp2_with fail
  go_ret2
  refine ⟨rfl, ?_⟩
  have hgrow := HG.out
  have fz := FZ.out
  have hsz : w.heap.size ≤ w2.heap.size := by have := hgrow.size; omega
  refine wr_end (p := p0) (v := v) (p' := .pointer (some ⟨b, 0, none⟩)) (v' := .slice ao n' cap) HM.out (by rw [World.size_setCell]; exact hsz) HB0.out (heap_setCell_same w2 b 1 _ 51 _ hb2) (.inr ?_) ?_ ?_ ?_
  · rw [cells_str]
    exact Lib.BuilderAt.put (T := 51) (e := 5) hB hb2 (bs' := Lib.byteCells l ++ Lib.strCells s) (by simpa [hl, Lib.strCells_length] using HO.out) (by decide)
  · intro k hk hkb hkv
    rw [Below.heap_setCell _ _ _ _ hkb, hgrow.block k (by omega) hkv]
    exact FO.out k hkb
  · rcases HA.out with h | h
    · exact .inl h
    · refine .inr ⟨w1.heap.size, h, by omega, ?_⟩
      rw [World.size_setCell]
      exact (HO.out.lt _ h).2
  · exact ⟨hgrow.os.trans FE.out.1, hgrow.tape.trans FE.out.2.1, hgrow.output.trans FE.out.2.2⟩

set_option maxHeartbeats 2000000 in
set_option maxRecDepth 100000 in
theorem writeByteM (b : Nat) (l : Bs) (M : Nat → Prop) (c : UInt8) (w : World) (hM : BM b l M w) (hlen : l.length + 1 ≤ 1099511627776) :
    Calls Tryd.prog 33 #[.pointer (some ⟨b, 0, none⟩), .int .u8 c.toNat] w fun e w' => e = .returned .nilIface ∧ WrPost b (l ++ [c]) M w w' := by
  obtain ⟨i0, hi, hz0, hz1, hz2⟩ := info_parts byteInf
  have hl : (Lib.byteCells l).length = l.length := by simp [Lib.byteCells]
  have hcat : Lib.byteCells (l ++ [c]) = Lib.byteCells l ++ [.int .u8 c.toNat] := by simp [Lib.byteCells]
  obtain ⟨p0, v0, hb0, -⟩ := isB_row hM.isb
  have HM := Lib.hid hM
  have HB0 := Lib.hid hb0
  have hCk := check_how b l w hM.isb
  clear hM hb0
  go_enter Tryd.func33, Tryd.ntmps33
  go_wp2_with fail
  refine hCk.mono ?_
  rintro e w1 ⟨rfl, h1, he1⟩
  have hbk := chk_row HB0.out h1 he1
  obtain ⟨fz, fo, fos, fta, fou⟩ := set_facts he1
  have FO := Lib.hid fo
  have FE := Lib.hid (And.intro fos (And.intro fta fou))
  obtain ⟨hB, v, hbk2, hown, hne⟩ := h1
  have hv : v = v0 := two_inj (hbk2.symm.trans hbk)
  have FZ := Lib.hid fz
  subst hv
  have c0 : w1.cell? ⟨b, 0, none⟩ = some (.pointer (some ⟨b, 0, none⟩)) := by rw [Lib.cell_of_heap hbk]; rfl
  have c1 : w1.cell? ⟨b, 1, none⟩ = some v := by rw [Lib.cell_of_heap hbk]; rfl
  clear he1 fz fo fos fta fou hbk2
  go_wp2_with (at_builtin; refine wpList_append_own_at _ rfl _ _ 42 rfl 0 5 i0 (.int .u8 0) 1 1 Tryd.underlying42 hi hz0 hz1 hz2 rfl (by decide) _ _ _ rfl (hown.alloc _) ⟨w1.heap.size, 0, none⟩ 1 1 [.int .u8 c.toNat] rfl rfl ?c1 ?c2 ?c3 ?c4 ?c5 ?_)
  case c1 =>
    intro j u hj
    match j, hj with
    | 0, hj => simp at hj; subst hj; simp [Addr.add]
  case c2 => intro u hu; simp at hu; subst hu; rfl
  case c3 => unfold maxLen; omega
  case c4 => omega
  case c5 => omega
  intro v' w2 hown' hgrow _ hat
  have hlt : b < w1.heap.size := (Array.getElem?_eq_some_iff.1 hbk).1
  have hb2 : w2.heap[b]? = some (.cells #[.pointer (some ⟨b, 0, none⟩), v] 51 (0, 0)) := by
    rw [hgrow.block b (by simp; omega) (fun e => hne e.symm), Lib.alloc_old w1 _ b hlt]
    exact hbk
  have d0 : w2.cell? ⟨b, 0, none⟩ = some (.pointer (some ⟨b, 0, none⟩)) := by rw [Lib.cell_of_heap hb2]; rfl
  have d1 : w2.cell? ⟨b, 1, none⟩ = some v := by rw [Lib.cell_of_heap hb2]; rfl
  have f1 : w2.frozen? ⟨b, 1, none⟩ = false := Lib.frozen_of_heap hb2 1
  obtain ⟨ao, n', cap, rfl⟩ : ∃ ao n' cap, v' = .slice ao n' cap := by
    rcases hown'.2 with ⟨hv, _⟩ | ⟨g, cap, cur, hv, _⟩
    · exact ⟨_, _, _, hv⟩
    · exact ⟨_, _, _, hv⟩
  have HG := Lib.hid hgrow
  have HA := Lib.hid hat
  have HO := Lib.hid hown'
  clear hgrow hat hown'
  go_wp2_with fail
  go_ret
  refine ⟨rfl, ?_⟩
  have hgrow := HG.out
  have fz := FZ.out
  have hal : (w1.alloc (.cells #[.int .u8 c.toNat] 5)).heap.size = w1.heap.size + 1 := by simp
  have hsz : w1.heap.size + 1 ≤ w2.heap.size := by have := hgrow.size; omega
  refine wr_end (p := p0) (v := v) (p' := .pointer (some ⟨b, 0, none⟩)) (v' := .slice ao n' cap) HM.out (by rw [World.size_setCell]; omega) HB0.out (heap_setCell_same w2 b 1 _ 51 _ hb2) (.inr ?_) ?_ ?_ ?_
  · rw [hcat]
    exact Lib.BuilderAt.put (T := 51) (e := 5) hB hb2 (bs' := Lib.byteCells l ++ [.int .u8 c.toNat]) (by simpa [hl] using HO.out) (by decide)
  · intro k hk hkb hkv
    rw [Below.heap_setCell _ _ _ _ hkb, hgrow.block k (by omega) hkv, Lib.alloc_old w1 _ k (by omega)]
    exact FO.out k hkb
  · rcases HA.out with h | h
    · exact .inl h
    · refine .inr ⟨w1.heap.size + 1, h, by omega, ?_⟩
      rw [World.size_setCell]
      exact (HO.out.lt _ h).2
  · exact ⟨hgrow.os.trans FE.out.1, hgrow.tape.trans FE.out.2.1, hgrow.output.trans FE.out.2.2⟩

theorem lenM (b : Nat) (l : Bs) (M : Nat → Prop) (w : World) (hM : BM b l M w) :
    Calls Tryd.prog 48 #[.pointer (some ⟨b, 0, none⟩)] w fun e w' => e = .returned (.int .i64 l.length) ∧ w' = w := by
  have h := Tryd.Builder_Len 0 b (Lib.byteCells l) w hM.isb
  have hl : (Lib.byteCells l).length = l.length := by simp [Lib.byteCells]
  rw [hl] at h
  exact h
end Tk
end Go.Proofs.YthooghgiokgdhaaDoor
namespace Go.Proofs.YthooghgiokgdhaaDoor
open Go.RowKit
namespace Tk

attribute [local go_sem] Oper.semAt_some

set_option maxHeartbeats 1000000 in
theorem ffs_any (t : ByteArray) (w : World) :
    Calls Tryd.prog 46 #[.string t, .func (.func 47) #[] #[]] w fun e w' => e = .returned (.func (.func 72) #[] #[.pointer (some ⟨w.heap.size, 0, none⟩), .pointer (some ⟨w.heap.size + 1, 0, none⟩)]) ∧
      w' = (w.alloc (.cells #[.string t] 9)).alloc (.cells #[.func (.func 47) #[] #[]] 70) := by
  go_enter Tryd.func46, Tryd.ntmps46
  go_wp2_with fail
  go_ret
  exact ⟨rfl, rfl⟩

theorem BM.base {b B : Nat} {l : Bs} {M : Nat → Prop} {W : World} (h : BM b l M W) (hM : ∀ k, M k → B ≤ k) : IsB B b l W := by
  have hrow : ∀ (p v : Value), W.heap[b]? = some (.cells #[p, v] 51 (0, 0)) → ∀ (cs : List Value) (n : Nat), W.ownsRow 0 5 1 v n cs → W.ownsRow B 5 1 v n cs := by
    intro p v hb cs n hr
    refine ⟨hr.1, ?_⟩
    rcases hr.2 with hn | ⟨g, cap, cur, hv, hbase, hg, h1, h2, h3, h4⟩
    · exact .inl hn
    · exact .inr ⟨g, cap, cur, hv, hM g (h.own p v hb g (by rw [hv]; rfl)), hg, h1, h2, h3, h4⟩
  rcases h.isb with h1 | h1
  · obtain ⟨h0, v, hb, hr, hne⟩ := h1
    exact .inl ⟨hM b h.mb, v, hb, hrow _ v hb _ _ hr, hne⟩
  · obtain ⟨h0, v, hb, hr, hne⟩ := h1
    exact .inr ⟨hM b h.mb, v, hb, hrow _ v hb _ _ hr, hne⟩
theorem BM.fresh (w : World) : BM w.heap.size [] (fun k => k = w.heap.size) (w.alloc (.cells #[.pointer none, .slice none 0 0] 51)) := by
  have hb : (w.alloc (.cells #[.pointer none, .slice none 0 0] 51)).heap[w.heap.size]? = some (.cells #[.pointer none, .slice none 0 0] 51 (0, 0)) := heap_alloc_last w _
  refine ⟨.inl ⟨Nat.zero_le _, .slice none 0 0, hb, World.ownsRow_nil _ _ _ _, by simp [Value.ownBlock]⟩, rfl, ?_⟩
  intro p v hb2 k hk
  have e : v = .slice none 0 0 := two_inj (hb2.symm.trans hb)
  subst e
  simp [Value.ownBlock] at hk

def totW (L : List Bs) : Nat := (L.map fun p => p.length + 1).sum
theorem tot_app (A B : List Bs) : totW (A ++ B) = totW A + totW B := by simp [totW]
theorem addW_len (acc p : Bs) : (addW acc p).length ≤ acc.length + p.length + 1 := by
  unfold addW; split
  · omega
  · simp only [List.length_append, List.length_cons]; omega
theorem bldW_fold : ∀ (L : List Bs) (acc : Bs), (L.foldl addW acc).length ≤ acc.length + totW L
  | [], acc => by simp [totW]
  | p :: t, acc => by
    have h := bldW_fold t (addW acc p)
    have h2 := addW_len acc p
    rw [List.foldl_cons]
    simp only [totW, List.map_cons, List.sum_cons] at h ⊢
    omega
theorem bldW_len (L : List Bs) : (bldW L).length ≤ totW L := by have := bldW_fold L []; simpa [bldW] using this
theorem tot_fld : ∀ (s cur : Bs), totW (fldG cur s) ≤ cur.length + s.length + 1
  | [], cur => by
    rw [fldG]; split <;> simp [totW]
  | c :: t, cur => by
    rw [fldG]
    have h1 := tot_fld t []
    have h2 := tot_fld t (cur ++ [c])
    split
    · split
      · simp only [List.length_nil, List.length_cons] at *; omega
      · simp only [totW, List.map_cons, List.sum_cons, List.length_nil, List.length_cons] at *; omega
    · simp only [List.length_append, List.length_cons, List.length_nil] at *; omega
theorem pre_len {s : Bs} {pre : List Bs} {x : Bs} (h : pre ++ [x] <+: fldL s) : (bldW pre).length + x.length + 1 ≤ s.length + 1 := by
  obtain ⟨r, hr⟩ := h
  have h1 := tot_fld s []
  have h2 := bldW_len pre
  have h3 : totW (pre ++ [x] ++ r) = totW (fldL s) := by rw [hr]
  rw [tot_app, tot_app] at h3
  simp only [totW, List.map_cons, List.map_nil, List.sum_cons, List.sum_nil, List.length_nil] at h1 h2 h3
  unfold fldL at h3
  omega
theorem pieces_ne : ∀ (s cur : Bs), ∀ p ∈ fldG cur s, p ≠ []
  | [], cur, p, hp => by
    rw [fldG] at hp
    split at hp
    · simp at hp
    · rename_i h; rw [List.mem_singleton] at hp; subst hp; exact h
  | c :: t, cur, p, hp => by
    rw [fldG] at hp
    split at hp
    · split at hp
      · exact pieces_ne t [] p hp
      · rename_i h
        rcases List.mem_cons.1 hp with rfl | hp
        · exact h
        · exact pieces_ne t [] p hp
    · exact pieces_ne t _ p hp
theorem WrPost.below {b : Nat} {l : Bs} {M : Nat → Prop} {w0 w w' : World} (h : WrPost b l M w w') (hb : Below w0.heap.size w0 w) (hM : ∀ k, M k → w0.heap.size ≤ k) : Below w0.heap.size w0 w' := by
  obtain ⟨M', -, hT, h1, h2, h3, -⟩ := h
  exact ⟨h1.trans hb.os, h2.trans hb.tape, h3.trans hb.output, Nat.le_trans hb.size hT.size, fun k hk => (hT.same k (Nat.lt_of_lt_of_le hk hb.size) (fun hm => by have := hM k hm; omega)).trans (hb.block k hk)⟩
theorem mine_below {B : Nat} {M : Nat → Prop} {w W W' : World} (hb : Below w.heap.size w W) (h : Mine B M W W') (hB : w.heap.size ≤ B) : Below w.heap.size w W' :=
  ⟨h.os.trans hb.os, h.tape.trans hb.tape, h.output.trans hb.output, Nat.le_trans hb.size h.size, fun k hk => (h.same k (Nat.lt_of_lt_of_le hk hb.size) (.inl (by omega))).trans (hb.block k hk)⟩

theorem WrPost.cons {b : Nat} {l1 l2 : Bs} {M M2 : Nat → Prop} {w w1 w2 : World} (_hb : BM b l1 M2 w1) (hT : Turns M M2 w w1) (h1 : w1.os = w.os) (h2 : w1.tape = w.tape) (h3 : w1.output = w.output) (h4 : ∀ k, M2 k → M k ∨ k < w1.heap.size) (h : WrPost b l2 M2 w1 w2) : WrPost b l2 M w w2 := by
  obtain ⟨M3, k1, k2, k3, k4, k5, k6⟩ := h
  exact ⟨M3, k1, hT.trans k2, k3.trans h1, k4.trans h2, k5.trans h3, fun k hk => (k6 k hk).elim (fun x => (h4 k x).elim .inl (fun y => .inr (Nat.lt_of_lt_of_le y k2.size))) .inr⟩

/-- what stays true through the rounds -/
structure Nar (w : World) (gs : Nat) (t : Bs) (pre : List Bs) (M : Nat → Prop) (W : World) : Prop where
  bm : BM w.heap.size (bldW pre) M W
  bs : Bx W gs 9 #[.string (mkS t)]
  bf : Bx W (gs + 1) 70 #[.func (.func 47) #[] #[]]
  bl : Below w.heap.size w W
  mem : ∀ k, M k → k < W.heap.size ∧ w.heap.size ≤ k ∧ k ≠ gs ∧ k ≠ gs + 1
theorem Nar.mine {w W W' : World} {gs B : Nat} {t : Bs} {pre : List Bs} {M : Nat → Prop} (h : Nar w gs t pre M W) (hB : gs + 2 ≤ B) (hw : w.heap.size ≤ B) (hm : Mine B M W W') : Nar w gs t pre M W' :=
  ⟨h.bm.mine hm, (hm.same gs h.bs.lt (.inl (by omega))).trans h.bs, (hm.same (gs + 1) h.bf.lt (.inl (by omega))).trans h.bf, mine_below h.bl hm hw, fun k hk => ⟨Nat.lt_of_lt_of_le (h.mem k hk).1 hm.size, (h.mem k hk).2⟩⟩
theorem Nar.wrote {w W W' : World} {gs : Nat} {t : Bs} {pre pre' : List Bs} {M : Nat → Prop} {l : Bs} (h : Nar w gs t pre M W) (hp : WrPost w.heap.size l M W W') (hl : l = bldW pre') : ∃ M', Nar w gs t pre' M' W' ∧ Turns M M' W W' := by
  have hb := hp.below h.bl (fun k hk => (h.mem k hk).2.1)
  obtain ⟨M', h1, hT, -, -, -, h4⟩ := hp
  subst hl
  refine ⟨M', ⟨h1, (hT.same gs h.bs.lt (fun hm => (h.mem _ hm).2.2.1 rfl)).trans h.bs, (hT.same (gs + 1) h.bf.lt (fun hm => (h.mem _ hm).2.2.2 rfl)).trans h.bf, hb, fun k hk => ?_⟩, hT⟩
  have hlt1 := h.bs.lt
  have hlt2 := h.bf.lt
  have hsz := h.bl.size
  have hz := hT.size
  rcases hT.more k hk with hm | hm
  · obtain ⟨m1, m2, m3, m4⟩ := h.mem k hm
    exact ⟨by omega, m2, m3, m4⟩
  · refine ⟨(h4 k hk).elim (fun hm2 => Nat.lt_of_lt_of_le (h.mem k hm2).1 hz) id, by omega, by omega, by omega⟩

theorem ext_mid (n : Bs) : (mkS (46 :: (n ++ [46]))).extract 1 (n.length + 1) = mkS n := by
  rw [extract_mkS, bs_mkS]
  simp

set_option maxHeartbeats 8000000 in
set_option maxRecDepth 100000 in
theorem narrow_any (s : Bs) (w : World) (hT : Utf w) (hs : s.length ≤ 1099511627) :
    Calls Tryd.prog 28 #[.string (mkS s)] w fun e w' => e = .returned (.string (mkS (narL s))) ∧ Below w.heap.size w w' := by
  have HT := Lib.hid hT
  have htxt : (⟨#[46]⟩ : ByteArray) ++ mkS s ++ ⟨#[46]⟩ = mkS (46 :: (s ++ [46])) := by
    rw [show (⟨#[46]⟩ : ByteArray) = mkS [46] from rfl, mkS_append, mkS_append]; simp
  have htl : (46 :: (s ++ [46]) : Bs).length ≤ 1099511700 := by simp only [List.length_cons, List.length_append, List.length_nil]; omega
  have hbld := bld_fld s
  have hnl := narL_len s
  have hext := ext_mid (narL s)
  have hTl : (46 :: (narL s ++ [46]) : Bs).length = (narL s).length + 2 := by simp
  have hTs := size_mkS (46 :: (narL s ++ [46]))
  have HNL : Hid ((narL s).length ≤ 1099511627) := by show _ ≤ _; omega
  have HF : Hid (∀ (t : ByteArray) (W : World), CallsIn Fence.wide 4 Tryd.prog _ _ W _) := fun t W => callsIn_wide.2 (ffs_any t W)
  have HH := ffs1_hands
  have hB0 := BM.fresh w
  have hb0 : Below w.heap.size w (w.alloc (.cells #[.pointer none, .slice none 0 0] 51)) := (Below.refl _ _).alloc (Nat.le_refl _) _
  generalize h46 : (46 :: (s ++ [46]) : Bs) = t at *
  have HTX := Lib.hid htxt
  have HTL := Lib.hid htl
  have HBF := Lib.hid hbld
  have HEX := Lib.hid hext
  have HTl := Lib.hid hTl
  have HTs := Lib.hid hTs
  have HH1 := Lib.hid (fun gs gf => ffs1_hands gs gf t (Nat.le_trans htl (by decide)))
  have HB0 := Lib.hid hB0
  have Hb0 := Lib.hid hb0
  have hz0 : (w.alloc (.cells #[.pointer none, .slice none 0 0] 51)).heap.size = w.heap.size + 1 := by simp
  have hsz := size_mkS s
  clear hT htxt htl hbld hnl hext hTl hTs HH hB0 hb0 h46
  generalize hn : narL s = n at *
  generalize hTT : (46 :: (n ++ [46]) : Bs) = T at *
  clear hTT hn
  refine (callsIn_wide (n := 5)).1 ?_
  refine callsIn_of_wp_marks Tryd.func28 rfl trivial ?_ rfl
  simp only [Tryd.ntmps28, List.size_toArray, List.length_cons, List.length_nil, Nat.reduceAdd, Nat.reduceSub, Array.replicate_succ, Array.replicate_zero, List.push_toArray, List.append_toArray, List.nil_append, List.cons_append]
  have HZ0 := Lib.hid hz0
  clear hz0
  gi_wp2_with fail
  generalize w.alloc (.cells #[.pointer none, .slice none 0 0] 51) = W0 at *
  refine ⟨trivial, (HF.out _ _).mono ?_⟩
  rintro e w1 ⟨rfl, rfl⟩
  rw [HTX.out]
  have hbs := (Bx.new W0 9 #[.string (mkS t)]).later ((Below.refl _ _).alloc (Nat.le_refl _) (.cells #[.func (.func 47) #[] #[]] 70))
  have hbf := Bx.new (W0.alloc (.cells #[.string (mkS t)] 9)) 70 #[.func (.func 47) #[] #[]]
  have hb1 : Below W0.heap.size W0 ((W0.alloc (.cells #[.string (mkS t)] 9)).alloc (.cells #[.func (.func 47) #[] #[]] 70)) := ((Below.refl _ _).alloc (Nat.le_refl _) _).alloc (by simp) _
  have hz1 : ((W0.alloc (.cells #[.string (mkS t)] 9)).alloc (.cells #[.func (.func 47) #[] #[]] 70)).heap.size = W0.heap.size + 2 := by simp
  rw [World.size_alloc] at hbf
  have hbl := Hb0.out.trans (hb1.mono Hb0.out.size)
  have hbm := HB0.out.mine (B := 0) (Mine.below hb1)
  generalize (W0.alloc (.cells #[.string (mkS t)] 9)).alloc (.cells #[.func (.func 47) #[] #[]] 70) = W1 at *
  have hg0 := HZ0.out
  generalize W0.heap.size = gs at *
  have hN0 : Nar w gs t [] (fun k => k = w.heap.size) W1 := ⟨hbm, hbs, hbf, hbl, fun k hk => by subst hk; omega⟩
  have HN0 := Lib.hid hN0
  have HZ1 := Lib.hid hz1
  have HG0 := Lib.hid hg0
  clear hbs hbf hb1 hz1 hbl hbm hN0 hg0 HB0 Hb0
  gi_wp2_with fail
  have HHx := HH1.out gs (gs + 1)
  clear HH1
  refine range_m (gf := 72) (lb := #[.pointer (some ⟨gs, 0, none⟩), .pointer (some ⟨gs + 1, 0, none⟩)]) rfl (enters_of Tryd.func72 (by kernel_rfl) rfl) (fun _ => rfl) HHx
    (fun pre M W => Nar w gs t pre M W) ?known ?abides ?reads (fun k => k = w.heap.size) HN0.out (fun x => { tmps := #[.string (mkS s), undef, .string ⟨#[]⟩, .pointer (some ⟨w.heap.size, 0, none⟩), .string (mkS x), .string (mkS s), .string (⟨#[46]⟩ ++ mkS s), .string (mkS t), .func (.func 72) #[] #[.pointer (some ⟨gs, 0, none⟩), .pointer (some ⟨gs + 1, 0, none⟩)], .string (mkS x), undef, undef, undef, undef, undef, undef, undef, undef, undef], defers := [] }) ?assign ?body ?done
  case known => exact fun pre M W h k hk => (h.mem k hk).1
  case abides => exact fun pre M W W' h hm => h.mine (by have := HZ1.out; omega) (by have := HZ1.out; have := HG0.out; omega) hm
  case reads => exact fun pre M W h => ⟨h.bs, h.bf, HT.out.later h.bl⟩
  case assign =>
    intro lp m x W K hK
    unfold strE
    gi_wp2
    exact hK
  case body =>
    intro lp m pre x M W hN hpre
    have hlen := pre_len hpre
    have hxn : x ≠ [] := pieces_ne t [] x (hpre.subset (by simp))
    have hsn := bldW_snoc pre x
    have htl := HTL.out
    have HLen : Hid (∀ m : Nat, CallsIn (Fence.wide.inRound lp) m Tryd.prog _ _ W _) := fun m => (callsIn_wide.2 (lenM w.heap.size (bldW pre) M W hN.bm) : CallsIn Fence.wide m _ _ _ _ _)
    have HN := Lib.hid hN
    have hxs := size_mkS x
    by_cases h0 : bldW pre = []
    · have hW1 := fun m : Nat => (callsIn_wide.2 (writeStringM w.heap.size (bldW pre) M (mkS x) W hN.bm (by rw [size_mkS]; omega)) : CallsIn Fence.wide m _ _ _ _ _)
      rw [bs_mkS] at hW1
      have HW1 : Hid (∀ m : Nat, CallsIn (Fence.wide.inRound lp) m Tryd.prog _ _ W _) := fun m => hW1 m
      have hsn2 : bldW pre ++ x = bldW (pre ++ [x]) := by rw [hsn, h0]; unfold addW; rw [if_pos rfl]; rfl
      have HS2 := Lib.hid hsn2
      have hl0 : (bldW pre).length = 0 := by rw [h0]; rfl
      rw [hl0] at HLen
      clear hN hlen hxn hsn hpre hW1 hsn2 hl0 h0 htl
      gi_wp2_with fail
      refine ⟨trivial, fun h => absurd h (by decide), (HLen.out _).mono ?_⟩
      rintro e w2 ⟨rfl, rfl⟩
      gi_wp2_with fail
      refine ⟨trivial, fun h => absurd h (by decide), (HW1.out _).mono ?_⟩
      rintro e w3 ⟨rfl, hw⟩
      have HE := Lib.hid (HN.out.wrote hw HS2.out)
      clear hw
      gi_wp2_with fail
      exact HE.out
    · have hWb := fun m : Nat => (callsIn_wide.2 (writeByteM w.heap.size (bldW pre) M 32 W hN.bm (by omega)) : CallsIn Fence.wide m _ _ _ _ _)
      have HWb : Hid (∀ m : Nat, CallsIn (Fence.wide.inRound lp) m Tryd.prog _ _ W _) := fun m => hWb m
      have HWs : Hid (∀ (M2 : Nat → Prop) (W2 : World), BM w.heap.size (bldW pre ++ [32]) M2 W2 → ∀ m : Nat, CallsIn (Fence.wide.inRound lp) m Tryd.prog 32 #[.pointer (some ⟨w.heap.size, 0, none⟩), .string (mkS x)] W2 (fun e w' => e = .returned (.tuple #[.int .i64 (mkS x).size, .nilIface]) ∧ WrPost w.heap.size (bldW pre ++ [32] ++ x) M2 W2 w')) := fun M2 W2 hM2 m => by
        have h := (callsIn_wide.2 (writeStringM w.heap.size (bldW pre ++ [32]) M2 (mkS x) W2 hM2 (by rw [size_mkS]; simp only [List.length_append, List.length_cons, List.length_nil]; omega)) : CallsIn Fence.wide m _ _ _ _ _)
        rw [bs_mkS] at h
        exact h
      have hsn2 : bldW pre ++ [32] ++ x = bldW (pre ++ [x]) := by rw [hsn]; unfold addW; rw [if_neg h0]; simp
      have HS2 := Lib.hid hsn2
      have hl0 : (0 : Int) < ((bldW pre).length : Int) := by
        have : (bldW pre).length ≠ 0 := fun e => h0 (List.eq_nil_of_length_eq_zero e)
        omega
      clear hN hlen hxn hsn hpre hWb hsn2 h0 htl
      generalize hBl : (bldW pre).length = L at *
      have HBl := Lib.hid hBl
      clear hBl
      gi_wp2_with fail
      refine ⟨trivial, fun h => absurd h (by decide), (HLen.out _).mono ?_⟩
      rintro e w2 ⟨rfl, rfl⟩
      gi_wp2_with fail
      refine ⟨trivial, fun h => absurd h (by decide), (HWb.out _).mono ?_⟩
      rintro e w3 ⟨rfl, hw⟩
      obtain ⟨M2, hbm2, hT2, q1, q2, q3, q4⟩ := hw
      have HW2 := Lib.hid (HWs.out M2 w3 hbm2)
      have HC := Lib.hid (fun w4 h => WrPost.cons (l2 := bldW pre ++ [32] ++ x) (w2 := w4) hbm2 hT2 q1 q2 q3 q4 h)
      clear hbm2 hT2 q1 q2 q3 q4
      gi_wp2_with fail
      refine ⟨trivial, fun h => absurd h (by decide), (HW2.out _).mono ?_⟩
      rintro e w4 ⟨rfl, hw4⟩
      have HE := Lib.hid (HN.out.wrote (HC.out w4 hw4) HS2.out)
      clear hw4
      gi_wp2_with fail
      exact HE.out
  case done =>
    intro D M W hD hMD hN hd
    have hI := (hN.bm.base (B := w.heap.size) (fun k hk => (hN.mem k hk).2.1))
    rw [HBF.out] at hI
    have HStr := callsIn_wide (n := 4) |>.2 (Tryd.Builder_String_any_k w.heap.size w.heap.size T W (.of hI) hN.bl.size)
    have HD := Lib.hid hd
    have HStr2 : Hid (CallsIn Fence.wide 4 Tryd.prog _ _ W (fun e w' => e = .returned (.string (mkS T)) ∧ (Lib.IsBuilderF 51 5 w.heap.size w.heap.size (Lib.byteCells T) w' ∧ Below w.heap.size W w' ∧ Lib.OthersKept 5 (some w.heap.size) W w'))) := HStr
    have HN := Lib.hid hN
    have HLn : Hid (∀ W2 : World, Lib.IsBuilderF 51 5 w.heap.size w.heap.size (Lib.byteCells T) W2 → CallsIn Fence.wide 4 Tryd.prog _ _ W2 _) := fun W2 h => callsIn_wide.2 (Tryd.Builder_Len_f w.heap.size w.heap.size (Lib.byteCells T) W2 h)
    have hbc : (Lib.byteCells T).length = n.length + 2 := by rw [← HTl.out]; simp [Lib.byteCells]
    rw [hbc] at HLn
    obtain ⟨K, hK⟩ : ∃ K, K = n.length + 1 := ⟨_, rfl⟩
    have hex := HEX.out
    have hts : (mkS T).size = n.length + 2 := by rw [HTs.out, HTl.out]
    rw [← hK] at hex
    have hwK : IntKind.i64.wrap (((n.length + 2 : Nat) : Int) - 1) = (K : Int) := by rw [IntWalk.i64_in _ (by have := HNL.out; omega)]; omega
    have k1 : (1 : Int) ≤ (K : Int) := by omega
    have k2 : (K : Int) ≤ ((mkS T).size : Int) := by omega
    generalize n.length + 2 = L at *
    have HEX2 := Lib.hid hex
    clear hI HStr hN hd hbc hex hts hK HEX HTl HTs
    gi_wp2_with fail
    refine ⟨trivial, HStr2.out.mono ?_⟩
    rintro e w2 ⟨rfl, hIF, hb2, ho2⟩
    have HL2 := Lib.hid (HLn.out w2 hIF)
    have HB2 := Lib.hid hb2
    have HO2 := Lib.hid ho2
    clear hIF hb2 ho2
    gi_wp2_with fail
    refine ⟨trivial, HL2.out.mono ?_⟩
    rintro e w3 ⟨rfl, rfl⟩
    gi_wp2_with fail
    have hDs : w.heap.size < D := by have := HZ1.out; have := HG0.out; omega
    have hD2 : w3.heap[D]? = some (.deferred (some [])) := HO2.out D _ HD.out (by intro h; injection h with h; omega) (by intro c fz h; cases h)
    have hB3 : Below w.heap.size w w3 := HN.out.bl.trans HB2.out
    refine ⟨by simp, .inl ⟨_, _, rfl, run_takeDeferred hD2, ?_⟩⟩
    refine ⟨.string ((mkS T).extract 1 K), by simp [results, Tryd.results28, go_sem], by rw [HEX2.out], hB3.os, hB3.tape, hB3.output, by simp; exact hB3.size, fun k hk => (World.putObj_heap_other (by omega)).trans (hB3.block k hk)⟩
end Tk
end Go.Proofs.YthooghgiokgdhaaDoor
namespace Go.Proofs.YthooghgiokgdhaaDoor
open Go.RowKit Go.Sort
namespace Tk

/-- Vary -/
def nVary : Bs := [86, 97, 114, 121]
theorem sortS_any (g cap : Nat) (zs : List Bs) (w : World) (hH : Holds encStr w g 0 zs.toArray) (hlt : g < w.heap.size) (hz : zs.length < 4611686018427387904) :
    Calls Tryd.prog 25 #[.slice (some ⟨g, 0, none⟩) zs.length cap] w fun e w' => e = .returned (.tuple #[]) ∧ ∃ n os, w' = grow (putRow encStr (Sort.ahead w n) g 0 (ordL zs).toArray) os :=
  calls_of_every_depth fun D => AnyS.slices_Sort_string_alone Tryd.lays190 D g 0 cap zs w hH hlt hz
theorem strs_enc (P : List Bs) : P.map encStr = strs P := rfl

/-- the row, sorted and without neighbours that are alike -/
theorem left12 {w w1 : World} {g cap n nn q : Nat} {os : Array Obj} {ss : List Bs} (hown : w1.ownsRow w.heap.size 9 1 (.slice (some ⟨g, 0, none⟩) n cap) n (strs ss)) (hbel : Below w.heap.size w w1) (hbg : w.heap.size ≤ g) (hlen : ss.length = n) :
    (putRow encStr (Sort.ahead (grow (putRow encStr (Sort.ahead w1 nn) g 0 (ordL ss).toArray) os) q) g 0 (setL12 ss ++ List.replicate ((ordL ss).length - (setL12 ss).length) []).toArray).ownsRow w.heap.size 9 1 (.slice (some ⟨g, 0, none⟩) (setL12 ss).length cap) (setL12 ss).length (strs (setL12 ss)) ∧
      Below w.heap.size w (putRow encStr (Sort.ahead (grow (putRow encStr (Sort.ahead w1 nn) g 0 (ordL ss).toArray) os) q) g 0 (setL12 ss ++ List.replicate ((ordL ss).length - (setL12 ss).length) []).toArray) := by
  have hl2 := ord_len ss
  have hle := set_len ss
  subst hlen
  rw [hl2]
  rcases hown.2 with ⟨h0, _⟩ | ⟨g', cap', cur, hv, hbase, hb, h1, h2, h3, h4⟩
  · cases h0
  cases hv
  have hs := ownsRow_sorted (n := nn) (os := os) (ts := ordL ss) hl2 hbase hb h1 h2 h3
  have hc := Lib.ownsRow_putRow (q := q) (k := (setL12 ss).length) (ys := setL12 ss ++ List.replicate (ss.length - (setL12 ss).length) []) hs (by simp; omega) (by omega)
  rw [List.take_left] at hc
  exact ⟨hc, Lib.below_putRow (hbel.grown (grownBy_sorted _) hbel.size (fun j hj => by cases hj; exact hbase)) hbg⟩

theorem star_take (Q : List Bs) (i : Nat) (h : i < Q.length) (h1 : [42] ∉ Q.take i) (h2 : Q.getD i [] ≠ [42]) : [42] ∉ Q.take (i + 1) := by
  rw [List.take_succ_eq_append_getElem h]
  have : Q.getD i [] = Q[i] := by simp [List.getD, h]
  rw [this] at h2
  intro hm
  rw [List.mem_append, List.mem_singleton] at hm
  exact hm.elim h1 (fun e => h2 e.symm)
theorem low_take (Q : List Bs) (i : Nat) (h : i < Q.length) : (Q.take (i + 1)).map lowL = (Q.take i).map lowL ++ [lowL (Q.getD i [])] := by
  rw [List.take_succ_eq_append_getElem h, List.map_append]
  simp [List.getD, h]

/-- what Names leaves: Q the parts -/
def NamPost (Q : List Bs) (w : World) (e : Ending) (w' : World) : Prop :=
  ∃ v, e = .returned (.tuple #[v, .bool (decide ([42] ∈ Q))]) ∧ w'.ownsRow w.heap.size 9 1 v (nmsV Q).length (strs (nmsV Q)) ∧ Below w.heap.size w w'

set_option maxHeartbeats 8000000 in
set_option maxRecDepth 100000 in
theorem names_any (v : Value) (l : List (Bs × Bs)) (w : World) (hs : IsFlds w v l) (hz : sumF l ≤ 1000000) (hl : l.length ≤ 1048576) :
    Calls Tryd.prog 8 #[v] w (NamPost (listF l nVary) w) := by
  obtain ⟨i0, hi0, hz0, hz1, hz2⟩ := info_parts strInfo
  have HA := Lib.hid (flist_any v l nVary w hs hz (by decide) hl)
  unfold ListPost at HA
  have hln := listF_len nVary l
  have hpc := Lib.hid (fun p hp => Nat.le_trans (listF_piece nVary l p hp) hz)
  have hQl : (listF l nVary).length ≤ 1000000 := by omega
  obtain ⟨a, cap, rfl⟩ : ∃ a cap, v = .slice a l.length cap := by obtain ⟨a, c, h, -⟩ := hs; exact ⟨a, c, h⟩
  clear hs hz hln
  generalize listF l nVary = Q at *
  unfold nVary at HA
  unfold NamPost
  go_enter Tryd.func8, Tryd.ntmps8
  go_wp2_with fail
  refine HA.out.mono ?_
  rintro e w1 ⟨v1, rfl, ho, hb⟩
  have HB1 := Lib.hid hb
  have HS := Lib.hid (isStrs_own ho)
  have HLt := Lib.hid (fun k e => (ho.lt k e).2)
  obtain ⟨a1, c1, rfl⟩ : ∃ a c, v1 = .slice a Q.length c := by obtain ⟨a, c, h, -⟩ := isStrs_own ho; exact ⟨a, c, h⟩
  clear ho hb
  go_wp2_with fail
  go_loopw [2, 9] (fun v2 vi wr => ∃ i : Nat, i ≤ Q.length ∧ vi = .int .i64 i ∧ Hid ([42] ∉ Q.take i) ∧ Hid (wr.ownsRow w1.heap.size 9 1 v2 ((Q.take i).map lowL).length (strs ((Q.take i).map lowL))) ∧ Hid (Below w1.heap.size w1 wr)) (fun _ vi _ => Q.length - (RowKit.intOf vi).toNat)
  case atStart => exact ⟨0, Nat.zero_le _, rfl, by show _ ∉ _; simp, World.ownsRow_nil _ _ _ _, Below.refl _ _⟩
  case round =>
    obtain ⟨i, hi, rfl, HSt, HO, HB⟩ := hrel
    rename World => W
    by_cases hlt : i < Q.length
    · obtain ⟨a', c', e', hc⟩ := isStrs_later HS.out HB.out HLt.out
      injection e' with e1 _ e2
      subst e1 e2
      obtain ⟨b, o, rfl, hc⟩ := hc i (Q.getD i []) (by simp [List.getD, hlt])
      have hm := hpc.out (Q.getD i []) (by simp [List.getD, hlt])
      have hlt2 := low_take Q i hlt
      have HLT := Lib.hid hlt2
      have HST := Lib.hid (fun h2 => star_take Q i hlt HSt.out h2)
      have hmem : Q.getD i [] ∈ Q := by simp [List.getD, hlt]
      have HMm := Lib.hid hmem
      have hrl : ((Q.take i).map lowL).length ≤ 1000000 := by rw [List.length_map, List.length_take]; omega
      have g0 : (0 : Int) ≤ (i : Int) := by omega
      have g1 : (i : Int) < (Q.length : Int) := by omega
      clear hlt2 hmem
      generalize Q.getD i [] = x at *
      have hbq : ((mkS x).toList == ([42] : List UInt8)) = decide (x = [42]) := by rw [toList_bs, bs_mkS, Bool.eq_iff_iff, beq_iff_eq, decide_eq_true_eq]
      by_cases hx : x = [42]
      · rw [decide_eq_true hx] at hbq
        have hmm : [42] ∈ Q := hx ▸ HMm.out
        have hd : decide ([42] ∈ Q) = true := decide_eq_true hmm
        have hnm : nmsV Q = [] := by unfold nmsV; rw [if_pos hmm]
        have HD := Lib.hid hd
        have HNM := Lib.hid hnm
        have HBF := Lib.hid (HB1.out.trans (HB.out.mono HB1.out.size))
        clear hd hnm hx hmm
        go_wp2_with fail
        go_ret2
        refine ⟨.slice none 0 0, by rw [HD.out]; rfl, ?_, HBF.out⟩
        rw [HNM.out]
        exact World.ownsRow_nil _ _ _ _
      · rw [decide_eq_false hx] at hbq
        have HST2 := Lib.hid (HST.out hx)
        have HLo := Lib.hid (fun W : World => tlower_any (mkS x) W (by rw [size_mkS]; omega))
        rw [bs_mkS] at HLo
        clear hx
        generalize (Q.take i).map lowL = R at *
        generalize lowL x = u at *
        go_wp2_with fail
        refine (HLo.out _).mono ?_
        rintro e w6 ⟨rfl, hb⟩
        have hown' := own_keep HO.out hb
        have hB' : w1.heap.size ≤ w6.heap.size := Nat.le_trans HB.out.size hb.size
        have HB6 := Lib.hid (HB.out.trans (hb.mono HB.out.size))
        clear hb
        go_wp2_with (at_builtin; refine wpList_append_own _ rfl _ _ 23 rfl w1.heap.size 9 i0 (.string .empty) 1 16 Tryd.underlying23 hi0 hz0 hz1 hz2 rfl (by decide) _ _ _ rfl (hown'.alloc _) ⟨w6.heap.size, 0, none⟩ 1 1 [.string (mkS u)] rfl rfl ?c1 ?c2 ?c3 ?c4 ?c5 ?_)
        case c1 => exact cell_one_new _ _ _
        case c2 => simp [Value.oneCell']
        case c3 => unfold maxLen; omega
        case c4 => omega
        case c5 => simp; omega
        intro v' w7 hown1 hg1 _
        have hb1 : Below w1.heap.size w1 w7 := HB6.out.trans (((Below.refl w1.heap.size w6).alloc hB' _).trans (below_of_grown hg1 (hown'.alloc _) (by simp; omega)))
        have HB7 := Lib.hid hb1
        have HO7 := Lib.hid hown1
        clear hb1 hown1 hg1 hown'
        go_wp2_with fail
        refine ⟨⟨i + 1, hlt, by go_num, HST2, ?_, HB7⟩, by simp [RowKit.intOf]; omega⟩
        show World.ownsRow _ _ _ _ _ _ _
        rw [HLT.out, List.length_append, strs_append]
        exact HO7.out
    · have hil : Q.take i = Q := List.take_of_length_le (by omega)
      rw [hil] at HO HSt
      have hd : decide ([42] ∈ Q) = false := decide_eq_false HSt.out
      have hnm : nmsV Q = setL12 (Q.map lowL) := by unfold nmsV; rw [if_neg HSt.out]
      have HD := Lib.hid hd
      have HNM := Lib.hid hnm
      have HBF := Lib.hid (HB1.out.trans (HB.out.mono HB1.out.size))
      have HOF := Lib.hid (World.ownsRow.mono HO.out HB1.out.size)
      have hRl : (Q.map lowL).length ≤ 1000000 := by rw [List.length_map]; exact hQl
      clear hil hd hnm
      generalize Q.map lowL = R at *
      rcases HOF.out.2 with ⟨hv, hn⟩ | ⟨g, cap2, cur, hv, hbase, hg, hc1, hc2, -⟩
      · obtain rfl : R = [] := List.eq_nil_of_length_eq_zero hn
        subst hv
        have HSo := Lib.hid (Tryd.slices_Sort_string_none none 0 W)
        have HCo := Lib.hid (fun W2 => Tryd.slices_Compact_string_empty none 0 W2)
        have hse : setL12 [] = [] := by
          have := set_len []
          exact List.eq_nil_of_length_eq_zero (by simpa using this)
        rw [hse] at HNM
        clear hse hn
        go_wp2_with fail
        refine HSo.out.mono ?_
        rintro e w2 ⟨rfl, rfl⟩
        go_wp2_with fail
        refine (HCo.out _).mono ?_
        rintro e w3 ⟨rfl, rfl⟩
        go_wp2_with fail
        go_ret2
        refine ⟨.slice none 0 0, by rw [HD.out]; rfl, ?_, HBF.out⟩
        rw [HNM.out]
        exact World.ownsRow_nil _ _ _ _
      · subst hv
        have hgl : g < W.heap.size := (Array.getElem?_eq_some_iff.1 hg).1
        obtain ⟨g', cap', hv', -, -, hcap, hcm, hlen, hH⟩ := Lib.holds_of_ownsRow (enc := encStr) (zs := R) HOF.out (by intro h; cases h)
        injection hv' with e1 _ e2
        injection e1 with e1
        injection e1 with e1
        subst e1 e2
        have HSo := Lib.hid (sortS_any g cap2 R W hH hgl (by omega))
        have HCo : Hid (∀ n os, Calls Tryd.prog 26 #[.slice (some ⟨g, 0, none⟩) R.length cap2] (grow (putRow encStr (Sort.ahead W n) g 0 (ordL R).toArray) os) fun e w' => e = .returned (.slice (some ⟨g, 0, none⟩) (setL12 R).length cap2) ∧ ∃ q, w' = putRow encStr (Sort.ahead (grow (putRow encStr (Sort.ahead W n) g 0 (ordL R).toArray) os) q) g 0 (setL12 R ++ List.replicate ((ordL R).length - (setL12 R).length) []).toArray) := fun n os => by
          have hH2 : Holds encStr (grow (putRow encStr (Sort.ahead W n) g 0 (ordL R).toArray) os) g 0 (ordL R).toArray :=
            holds_grow encStr _ os g 0 _ (by simpa [putRow, mapBlock, Sort.ahead] using hgl) (holds_putRow encStr _ g 0 _ _ (holds_ahead encStr W n g 0 _ hH) (by simp [ord_len]))
          have h := Tryd.slices_Compact_string g 0 cap2 (ordL R) _ hH2 (by rw [ord_len]; omega) (by rw [ord_len]; omega)
          rw [ord_len] at h
          rw [ord_len]
          exact h
        have HLe := Lib.hid (fun nn os q => left12 (nn := nn) (os := os) (q := q) HOF.out HBF.out hbase rfl)
        clear hH hgl hcap hcm hlen hg hc1 hc2 hbase HO HOF
        go_wp2_with fail
        refine HSo.out.mono ?_
        rintro e w2 ⟨rfl, nn, os, hw2⟩
        have HW2 := Lib.hid hw2
        have HC2 := HCo.out nn os
        rw [← hw2] at HC2
        have HC3 := Lib.hid HC2
        clear hw2 HC2
        go_wp2_with fail
        refine HC3.out.mono ?_
        rintro e w3 ⟨rfl, q, hw3⟩
        rw [HW2.out] at hw3
        have HL3 := HLe.out nn os q
        rw [← hw3] at HL3
        have HL4 := Lib.hid HL3
        clear hw3 HL3
        go_wp2_with fail
        go_ret2
        refine ⟨_, by rw [HD.out]; rfl, ?_, HL4.out.2⟩
        rw [HNM.out]
        exact HL4.out.1
end Tk
end Go.Proofs.YthooghgiokgdhaaDoor
