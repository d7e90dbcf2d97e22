/- FldW TokE VaP RngM Bx0, put together. -/
import Derived.Test.YthooghgiokgdhaaGreatDoorQC
import Derived.Test.YthooghgiokgdhaaGreatDoorQA
import Derived.Lib.DecodeN
import Derived.RangeFuncFrom
import Derived.RangeFuncWrites
import Derived.RangeFuncIn
import Derived.Lib.OwnBridge
namespace Go.Proofs.YthooghgiokgdhaaGreatDoor
open Go.RowKit
namespace Tk

set_option maxHeartbeats 8000000 in
set_option maxRecDepth 100000 in
theorem flist_any (v : Value) (l : List (Bs × Bs)) (name : Bs) (w : World) (hs : IsFlds w v l) (hz : sumF l ≤ 1000000) (hn : name.length ≤ 1099511627776) (hl : l.length ≤ 1048576) :
    Calls Tryz.prog 114 #[v, .string (mkS name)] w (ListPost w.heap.size (listF l name) w) := by
  have HA := Lib.hid (fall_any v l name w hs (sum_each l (by omega)) hn hl)
  unfold ListPost at HA
  have hlist : listF l name = (allF l name).flatMap splitL := rfl
  have HLI := Lib.hid hlist
  have hpc := Lib.hid (fun p hp => Nat.le_trans (all_piece name l p hp) hz)
  have hfl := Lib.hid (fun i => flat_sub (allF l name) i)
  have hal := allF_len l name
  have hPl : (allF l name).length ≤ 1048576 := by omega
  have hln := listF_len name l
  rw [hlist] at hln
  have hln2 : ((allF l name).flatMap splitL).length ≤ 1000000 := by omega
  obtain ⟨a, cap, rfl⟩ : ∃ a cap, v = .slice a l.length cap := by obtain ⟨a, c, h, -⟩ := hs; exact ⟨a, c, h⟩
  clear hs hz hlist hln hal
  generalize listF l name = Q at *
  generalize allF l name = P at *
  go_enter Tryz.func114, Tryz.ntmps114
  go_wp2_with fail
  refine HA.out.mono ?_
  rintro e w1 ⟨v1, rfl, ho, hb⟩
  have HB1 := Lib.hid hb
  have HS := Lib.hid (isStrs_own ho)
  have HLt := Lib.hid (fun k e => (ho.lt k e).2)
  obtain ⟨a1, c1, rfl⟩ : ∃ a c, v1 = .slice a P.length c := by obtain ⟨a, c, h, -⟩ := isStrs_own ho; exact ⟨a, c, h⟩
  clear ho hb
  go_wp2_with fail
  go_loopw [5, 12] (fun v5 vi wr => ∃ i : Nat, i ≤ P.length ∧ vi = .int .i64 i ∧ Hid (wr.ownsRow w1.heap.size 9 1 v5 ((P.take i).flatMap splitL).length (strs ((P.take i).flatMap splitL))) ∧ Hid (Below w1.heap.size w1 wr)) (fun _ vi _ => P.length - (RowKit.intOf vi).toNat)
  case atStart => exact ⟨0, Nat.zero_le _, rfl, World.ownsRow_nil _ _ _ _, Below.refl _ _⟩
  case round =>
    obtain ⟨i, hi, rfl, HO, HB⟩ := hrel
    rename World => W
    by_cases hlt : i < P.length
    · obtain ⟨a', c', e', hc⟩ := isStrs_later HS.out HB.out HLt.out
      injection e' with e1 _ e2
      subst e1 e2
      obtain ⟨b, o, rfl, hc⟩ := hc i (P.getD i []) (by simp [List.getD, hlt])
      have hm := hpc.out (P.getD i []) (by simp [List.getD, hlt])
      have htk := take_flat P i hlt
      have HTK := Lib.hid htk
      have hf1 := hfl.out i
      have hsl := split_len (P.getD i [])
      clear htk
      generalize P.getD i [] = x at *
      have hxz := size_mkS x
      have hsp := fun W : World => split_any (mkS x) W (by omega)
      rw [bs_mkS] at hsp
      have HSP := Lib.hid hsp
      have g0 : (0 : Int) ≤ (i : Int) := by omega
      have g1 : (i : Int) < (P.length : Int) := by omega
      clear hsp hxz
      have hk1 : ((P.take i).flatMap splitL).length ≤ 1048576 := by omega
      have hk2 : (splitL x).length ≤ 1048576 := by omega
      generalize (P.take i).flatMap splitL = R at *
      generalize splitL x = S at *
      go_wp2_with fail
      refine (HSP.out _).mono ?_
      rintro e w3 ⟨v3, rfl, ho3, hb3⟩
      have HO3 := Lib.hid (own_keep HO.out hb3)
      have HB3 := Lib.hid (HB.out.trans (hb3.mono HB.out.size))
      have HS3 := Lib.hid ho3
      clear ho3 hb3
      go_wp2_with (at_builtin; refine join_guarded (by rfl) _ _ rfl w1.heap.size _ _ _ R S rfl rfl HO3.out HS3.out HB3.out.size hk1 hk2 ?_)
      intro v4 w4 ho4 hb4
      have HB4 := Lib.hid (HB3.out.trans hb4)
      have HO4 : Hid (w4.ownsRow w1.heap.size 9 1 v4 ((P.take (i + 1)).flatMap splitL).length (strs ((P.take (i + 1)).flatMap splitL))) := by
        show World.ownsRow _ _ _ _ _ _ _
        rw [HTK.out, List.length_append]; exact ho4
      clear ho4 hb4
      go_wp2_with fail
      exact ⟨⟨i + 1, hlt, by go_num, HO4, HB4⟩, by simp [RowKit.intOf]; omega⟩
    · have hil : P.take i = P := List.take_of_length_le (by omega)
      rw [hil, ← HLI.out] at HO
      have HBF := Lib.hid (HB1.out.trans (HB.out.mono HB1.out.size))
      have HOF := Lib.hid (World.ownsRow.mono HO.out HB1.out.size)
      go_wp2_with fail
      go_ret
      exact ⟨_, rfl, HOF.out, HBF.out⟩
end Tk
end Go.Proofs.YthooghgiokgdhaaGreatDoor
namespace Go.Proofs.YthooghgiokgdhaaGreatDoor
open Go.RowKit
namespace Tk

/-- the byte at place t when the first i are in small letters -/
def mixAt (l : Bs) (i t : Nat) : UInt8 := if t < i then lowB (l.getD t 0) else l.getD t 0

theorem bytesRow_at (s : ByteArray) (cap t : Nat) (h : t < s.size) : (bytesRow s cap)[t]? = some (.int .u8 (((bs s).getD t 0).toNat : Int)) := by
  unfold bytesRow
  rw [Array.getElem?_append_left (by simpa using h), Array.getElem?_map]
  have e : (bs s).getD t 0 = s.data[t]'h := by rw [getD_bs s t h]; rfl
  rw [e, Array.getElem?_eq_getElem h]; rfl

set_option maxRecDepth 100000 in
set_option maxHeartbeats 1000000 in
theorem tlower_any (s : ByteArray) (w : World) (hs : s.size ≤ 1099511627776) :
    Calls Tryz.prog 115 #[.string s] w (StrPost (lowL (bs s)) w) := by
  have HL := Lib.hid (length_bs s)
  have hconv := run_bytes_of_string (P := Tryz.prog) w 9 108 5 s Tryz.underlying9 Tryz.underlying108 Tryz.underlying5
  have hC : ∀ t, t < s.size → (bytesRow s (grownCap w s.size 0 5))[t]? = some (.int .u8 (((bs s).getD t 0).toNat : Int)) := fun t h => bytesRow_at s _ t h
  generalize bytesRow s (grownCap w s.size 0 5) = C at *
  generalize grownCap w s.size 0 5 = cap at *
  have HC := Lib.hid hC
  clear hC
  go_enter Tryz.func115, Tryz.ntmps115
  go_wp2_with fail
  go_loopw [10, 4, 5] (fun vi _ _ wr => ∃ i : Nat, i ≤ s.size ∧ vi = .int .i64 i ∧ Hid (∀ t, t < s.size → wr.cell? ⟨w.heap.size, t, none⟩ = some (.int .u8 ((mixAt (bs s) i t).toNat : Int)) ∧ wr.frozen? ⟨w.heap.size, t, none⟩ = false) ∧ Hid (Below w.heap.size w wr)) (fun vi _ _ _ => s.size - (RowKit.intOf vi).toNat)
  case atStart =>
    refine ⟨0, Nat.zero_le _, rfl, ?_, ?_⟩
    · intro t ht
      have h1 : ((w.alloc (.cells C 5 (C.size, C.size + 1))).drew).cell? ⟨w.heap.size, t, none⟩ = C[t]? := World.cell?_alloc_mark w C 5 _ t
      have hlt : t < C.size := by
        refine Nat.lt_of_not_le fun hle => ?_
        have := HC.out t ht
        rw [Array.getElem?_eq_none hle] at this
        cases this
      have h2 : ((w.alloc (.cells C 5 (C.size, C.size + 1))).drew).frozen? ⟨w.heap.size, t, none⟩ = _ := World.frozen?_alloc_mark w C 5 _ _ t
      refine ⟨by rw [h1, HC.out t ht]; rfl, ?_⟩
      rw [h2]
      simp; omega
    · exact ((Below.refl _ _).alloc (Nat.le_refl _) _).drew
  case round =>
    obtain ⟨i, hi, rfl, HM, HB⟩ := hrel
    rename World => W
    by_cases hlt : i < s.size
    · obtain ⟨hc, hf⟩ := HM.out i hlt
      have e : mixAt (bs s) i i = (bs s).getD i 0 := by unfold mixAt; rw [if_neg (by omega)]
      rw [e] at hc
      have HM2 : Hid (∀ t, t < s.size → (W.setCell ⟨w.heap.size, i, none⟩ (.int .u8 ((lowB ((bs s).getD i 0)).toNat : Int))).cell? ⟨w.heap.size, t, none⟩ = some (.int .u8 ((mixAt (bs s) (i + 1) t).toNat : Int)) ∧ (W.setCell ⟨w.heap.size, i, none⟩ (.int .u8 ((lowB ((bs s).getD i 0)).toNat : Int))).frozen? ⟨w.heap.size, t, none⟩ = false) := by
        intro t ht
        obtain ⟨h1, h2⟩ := HM.out t ht
        refine ⟨?_, by rw [World.frozen?_setCell]; exact h2⟩
        by_cases hti : t = i
        · subst hti
          rw [World.cell?_setCell_same _ _ _ hc]
          unfold mixAt; rw [if_pos (by omega)]
        · rw [World.cell?_setCell_other (w := W) (a := ⟨w.heap.size, i, none⟩) (b := ⟨w.heap.size, t, none⟩) (h := by intro e; injection e with _ e2; exact hti e2.symm), h1]
          have : mixAt (bs s) i t = mixAt (bs s) (i + 1) t := by
            unfold mixAt
            by_cases h3 : t < i
            · rw [if_pos h3, if_pos (by omega)]
            · rw [if_neg h3, if_neg (by omega)]
          rw [this]
      have HB2 := Lib.hid (HB.out.setCell (p := ⟨w.heap.size, i, none⟩) (Nat.le_refl _) (.int .u8 ((lowB ((bs s).getD i 0)).toNat : Int)))
      generalize (bs s).getD i 0 = c at *
      go_wp2_with fail
      refine (lower_any c W).mono ?_
      rintro e w' ⟨rfl, rfl⟩
      go_wp2_with fail
      go_roundw
      case rel => exact ⟨i + 1, by omega, by go_num, HM2, HB2⟩
      case measure => simp [RowKit.intOf]; omega
    · have hlen : (lowL (bs s)).length = s.size := by rw [length_lowL, HL.out]
      have hback := run_convert_bytes_back (P := Tryz.prog) W 108 9 5 ⟨w.heap.size, 0, none⟩ cap (lowL (bs s)) Tryz.underlying108 Tryz.underlying5 Tryz.underlying9 (fun j hj => by
        have hj' : j < s.size := by rw [hlen] at hj; exact hj
        have h1 := (HM.out j hj').1
        have e : mixAt (bs s) i j = (lowL (bs s))[j] := by
          have hjl : j < (bs s).length := by rw [HL.out]; exact hj'
          have e2 : (lowL (bs s))[j] = lowB ((bs s)[j]'hjl) := by simp [lowL]
          unfold mixAt
          rw [if_pos (by omega), e2]
          simp [List.getD, hjl]
        rw [e] at h1
        by_cases hj0 : j = 0
        · subst hj0; simpa [Addr.add] using h1
        · simpa [Addr.add, hj0] using h1)
      rw [hlen] at hback
      go_wp2_with fail
      go_ret
      exact ⟨rfl, HB.out⟩
end Tk
end Go.Proofs.YthooghgiokgdhaaGreatDoor
namespace Go.Proofs.YthooghgiokgdhaaGreatDoor
namespace Tk

/-- white space -/
def whV (c : UInt8) : Bool := c == 32 || c == 9
/-- each run of white space is one blank; p: there was one just before -/
def narG : Bool → Bs → Bs
  | _, [] => []
  | p, c :: t => if whV c then (if p then narG true t else 32 :: narG true t) else c :: narG false t
def narL (s : Bs) : Bs := narG false s
/-- the pieces between white space; cur: what lies of one already -/
def fldG : Bs → Bs → List Bs
  | cur, [] => if cur = [] then [] else [cur]
  | cur, c :: t => if whV c then (if cur = [] then fldG [] t else cur :: fldG [] t) else fldG (cur ++ [c]) t
def fldL (s : Bs) : List Bs := fldG [] s
def addW (acc p : Bs) : Bs := if acc = [] then p else acc ++ 32 :: p
def bldW (L : List Bs) : Bs := L.foldl addW []

theorem bldW_snoc (L : List Bs) (p : Bs) : bldW (L ++ [p]) = addW (bldW L) p := by simp [bldW]

theorem addW_snoc (acc cur : Bs) (c : UInt8) : addW acc (cur ++ [c]) = addW acc cur ++ [c] := by
  unfold addW; split <;> simp
theorem addW_ne (acc cur : Bs) (h : cur ≠ []) : addW acc cur ≠ [] := by
  unfold addW; split <;> simp [h]

theorem fold_both : ∀ (s : Bs), (∀ acc cur, cur ≠ [] → (fldG cur (s ++ [46])).foldl addW acc = addW acc cur ++ narG false s ++ [46]) ∧
    (∀ acc, acc ≠ [] → (fldG [] (s ++ [46])).foldl addW acc = acc ++ 32 :: narG true s ++ [46])
  | [] => by
    have h46 : whV 46 = false := by decide
    refine ⟨fun acc cur h => ?_, fun acc h => ?_⟩
    · simp [fldG, h46, narG, addW_snoc]
    · simp [fldG, h46, narG, addW, h]
  | c :: t => by
    obtain ⟨ih1, ih2⟩ := fold_both t
    refine ⟨fun acc cur h => ?_, fun acc h => ?_⟩
    · rw [List.cons_append, fldG]
      by_cases hw : whV c = true
      · rw [if_pos hw, if_neg h, List.foldl_cons, ih2 _ (addW_ne _ _ h), narG, if_pos hw]
        simp
      · rw [if_neg hw, ih1 _ _ (by simp), narG, if_neg hw, addW_snoc]
        simp
    · rw [List.cons_append, fldG]
      by_cases hw : whV c = true
      · rw [if_pos hw, if_pos rfl, ih2 _ h, narG, if_pos hw, if_pos rfl]
      · rw [if_neg hw, ih1 _ _ (by simp), narG, if_neg hw]
        simp [addW, h]

theorem bld_fld (s : Bs) : bldW (fldL (46 :: (s ++ [46]))) = 46 :: (narL s ++ [46]) := by
  have h46 : whV 46 = false := by decide
  have h := (fold_both s).1 [] [46] (by simp)
  unfold bldW fldL
  rw [fldG, if_neg (by rw [h46]; decide), List.nil_append, h]
  simp [addW, narL]

theorem narG_len : ∀ (s : Bs) (p : Bool), (narG p s).length ≤ s.length
  | [], _ => by simp [narG]
  | c :: t, p => by
    rw [narG]
    have h1 := narG_len t true
    have h2 := narG_len t false
    split
    · split
      · simp; omega
      · simp; omega
    · simp; omega
theorem narL_len (s : Bs) : (narL s).length ≤ s.length := narG_len s false

/-- where the pieces lie: pre and what is still to come -/
def Fl (s : Bs) (i : Nat) (pre : List Bs) (cur : Bs) : Prop := fldL s = pre ++ fldG cur (s.drop i)
theorem Fl.start (s : Bs) : Fl s 0 [] [] := rfl
theorem drop_get (s : Bs) (i : Nat) (h : i < s.length) : s.drop i = s.getD i 0 :: s.drop (i + 1) := by
  rw [List.drop_eq_getElem_cons h]; simp [List.getD, h]
theorem Fl.white0 {s : Bs} {i : Nat} {pre : List Bs} (h : Fl s i pre []) (hi : i < s.length) (hw : whV (s.getD i 0) = true) : Fl s (i + 1) pre [] := by
  unfold Fl at *
  rw [h, drop_get s i hi, fldG, if_pos hw, if_pos rfl]
theorem Fl.white1 {s : Bs} {i : Nat} {pre : List Bs} {cur : Bs} (h : Fl s i pre cur) (hc : cur ≠ []) (hi : i < s.length) (hw : whV (s.getD i 0) = true) : Fl s (i + 1) (pre ++ [cur]) [] := by
  unfold Fl at *
  rw [h, drop_get s i hi, fldG, if_pos hw, if_neg hc]
  simp
theorem Fl.pre {s : Bs} {i : Nat} {p : List Bs} {c : Bs} (h : Fl s i p c) : p <+: fldL s := ⟨_, h.symm⟩
theorem Fl.plain {s : Bs} {pre : List Bs} : ∀ (k : Nat) {i : Nat} {cur : Bs}, Fl s i pre cur → i + k ≤ s.length → (∀ j, j < k → whV (s.getD (i + j) 0) = false) → Fl s (i + k) pre (cur ++ (s.drop i).take k)
  | 0, i, cur, h, _, _ => by simpa using h
  | k + 1, i, cur, h, hk, hw => by
    have hi : i < s.length := by omega
    have h0 := hw 0 (by omega)
    rw [Nat.add_zero] at h0
    have h1 : Fl s (i + 1) pre (cur ++ [s.getD i 0]) := by
      unfold Fl at *
      rw [h, drop_get s i hi, fldG, if_neg (by rw [h0]; decide)]
    have h2 := Fl.plain k h1 (by omega) (fun j hj => by rw [show i + 1 + j = i + (j + 1) by omega]; exact hw (j + 1) (by omega))
    rw [show i + (k + 1) = i + 1 + k by omega, drop_get s i hi, List.take_succ_cons]
    simpa using h2
theorem Fl.last {s : Bs} {pre : List Bs} {cur : Bs} (h : Fl s s.length pre cur) : fldL s = pre ++ (if cur = [] then [] else [cur]) := by
  unfold Fl at h
  rw [h, List.drop_length, fldG]

/-- what decoding says of white space -/
theorem decN (n b0 b1 b2 b3 : Nat) (hn : 1 ≤ n) (h0 : 128 ≤ b0) : 128 ≤ (Lib.decodeN n b0 b1 b2 b3).1 ∧ 1 ≤ (Lib.decodeN n b0 b1 b2 b3).2 ∧ (Lib.decodeN n b0 b1 b2 b3).2 ≤ n ∧ (Lib.decodeN n b0 b1 b2 b3).2 ≤ 4 ∧
    (2 ≤ (Lib.decodeN n b0 b1 b2 b3).2 → 128 ≤ b1) ∧ (3 ≤ (Lib.decodeN n b0 b1 b2 b3).2 → 128 ≤ b2) ∧ (4 ≤ (Lib.decodeN n b0 b1 b2 b3).2 → 128 ≤ b3) := by
  unfold Lib.decodeN
  rw [if_neg (by omega)]
  repeat' split
  all_goals (simp only; omega)
theorem get_mkS (l : Bs) (j : Nat) : (mkS l).get! j = l.getD j 0 := by
  show (l.toArray)[j]! = _
  rw [Array.getElem!_eq_getD, List.getD]
  simp [Array.getD]
  split <;> rename_i h
  · simp [h]
  · rw [List.getElem?_eq_none (by omega)]; rfl
theorem getD_drop (l : Bs) (i j : Nat) : (l.drop i).getD j 0 = l.getD (i + j) 0 := by
  rw [List.getD, List.getD, List.getElem?_drop]
theorem dec_white (l : Bs) (i : Nat) (hw : whV (l.getD i 0) = true) : Utf8.decode (mkS (l.drop i)) 0 = ((l.getD i 0).toNat, 1) := by
  rw [Lib.decode_at, get_mkS, getD_drop, Nat.add_zero]
  have h : (l.getD i 0).toNat < 128 := by
    unfold whV at hw
    rw [Bool.or_eq_true, beq_iff_eq, beq_iff_eq] at hw
    rcases hw with h | h <;> rw [h] <;> decide
  unfold Lib.decodeN
  rw [if_pos h]
theorem whV_toNat (c : UInt8) : whV c = (decide (c.toNat = 32) || decide (c.toNat = 9)) := by
  unfold whV
  have h1 : (c == 32) = decide (c.toNat = 32) := by
    rw [Bool.eq_iff_iff, beq_iff_eq, decide_eq_true_eq]
    exact ⟨fun h => by rw [h]; rfl, fun h => UInt8.toNat_inj.1 (by rw [h]; rfl)⟩
  have h2 : (c == 9) = decide (c.toNat = 9) := by
    rw [Bool.eq_iff_iff, beq_iff_eq, decide_eq_true_eq]
    exact ⟨fun h => by rw [h]; rfl, fun h => UInt8.toNat_inj.1 (by rw [h]; rfl)⟩
  rw [h1, h2]
theorem whV_big (c : UInt8) (h : 128 ≤ c.toNat) : whV c = false := by
  rw [whV_toNat, decide_eq_false (by omega), decide_eq_false (by omega)]; rfl
theorem dec_plain (l : Bs) (i : Nat) (hi : i < l.length) (hw : whV (l.getD i 0) = false) :
    (Utf8.decode (mkS (l.drop i)) 0).1 ≠ 32 ∧ (Utf8.decode (mkS (l.drop i)) 0).1 ≠ 9 ∧ 1 ≤ (Utf8.decode (mkS (l.drop i)) 0).2 ∧ i + (Utf8.decode (mkS (l.drop i)) 0).2 ≤ l.length ∧ ∀ j, j < (Utf8.decode (mkS (l.drop i)) 0).2 → whV (l.getD (i + j) 0) = false := by
  rw [Lib.decode_at]
  simp only [get_mkS, getD_drop, Nat.add_zero, Nat.sub_zero, size_mkS, List.length_drop, Nat.zero_add]
  by_cases h : (l.getD i 0).toNat < 128
  · have e : Lib.decodeN (l.length - i) (l.getD i 0).toNat (l.getD (i + 1) 0).toNat (l.getD (i + 2) 0).toNat (l.getD (i + 3) 0).toNat = ((l.getD i 0).toNat, 1) := by unfold Lib.decodeN; rw [if_pos h]
    rw [e]
    have h3 := whV_toNat (l.getD i 0)
    rw [hw] at h3
    have h4 := h3.symm
    rw [Bool.or_eq_false_iff, decide_eq_false_iff_not, decide_eq_false_iff_not] at h4
    refine ⟨h4.1, h4.2, Nat.le_refl _, by simp only; omega, fun j hj => ?_⟩
    simp only at hj
    obtain rfl : j = 0 := by omega
    exact hw
  · obtain ⟨d1, d2, d3, d4, d5, d6, d7⟩ := decN (l.length - i) (l.getD i 0).toNat (l.getD (i + 1) 0).toNat (l.getD (i + 2) 0).toNat (l.getD (i + 3) 0).toNat (by omega) (by omega)
    refine ⟨by omega, by omega, d2, by omega, fun j hj => ?_⟩
    have hj4 : j = 0 ∨ j = 1 ∨ j = 2 ∨ j = 3 := by omega
    rcases hj4 with rfl | rfl | rfl | rfl
    · exact hw
    · exact whV_big _ (d5 (by omega))
    · exact whV_big _ (d6 (by omega))
    · exact whV_big _ (d7 (by omega))
end Tk
end Go.Proofs.YthooghgiokgdhaaGreatDoor
namespace Go.Proofs.YthooghgiokgdhaaGreatDoor
open Go.RowKit
namespace Tk

/-- what lies below B0, and what is in M, lies as it lay -/
structure Mine (B0 : Nat) (M : Nat → Prop) (W W' : World) : Prop where
  os : W'.os = W.os
  tape : W'.tape = W.tape
  output : W'.output = W.output
  size : W.heap.size ≤ W'.heap.size
  same : ∀ k, k < W.heap.size → (k < B0 ∨ M k) → W'.heap[k]? = W.heap[k]?

/-- what a round may do: it turns blocks in M, and lays new ones -/
structure Turns (M M' : Nat → Prop) (W W' : World) : Prop where
  size : W.heap.size ≤ W'.heap.size
  same : ∀ k, k < W.heap.size → ¬ M k → W'.heap[k]? = W.heap[k]?
  more : ∀ k, M' k → M k ∨ W.heap.size ≤ k

def AbidesM {α : Type} (B : Nat) (I : List α → (Nat → Prop) → World → Prop) : Prop :=
  ∀ s M W W', I s M W → Mine B M W W' → I s M W'
def KnownM {α : Type} (I : List α → (Nat → Prop) → World → Prop) : Prop := ∀ s M W, I s M W → ∀ k, M k → k < W.heap.size

theorem Mine.refl (B : Nat) (M : Nat → Prop) (W : World) : Mine B M W W := ⟨rfl, rfl, rfl, Nat.le_refl _, fun _ _ _ => rfl⟩
theorem Mine.trans {B : Nat} {M : Nat → Prop} {a b c : World} (h : Mine B M a b) (k : Mine B M b c) : Mine B M a c :=
  ⟨k.os.trans h.os, k.tape.trans h.tape, k.output.trans h.output, Nat.le_trans h.size k.size, fun i hi hm => (k.same i (Nat.lt_of_lt_of_le hi h.size) hm).trans (h.same i hi hm)⟩
theorem Mine.below {B : Nat} {M : Nat → Prop} {W W' : World} (h : Below W.heap.size W W') : Mine B M W W' := ⟨h.os, h.tape, h.output, h.size, fun k hk _ => h.block k hk⟩
theorem Mine.mono {B C : Nat} {M N : Nat → Prop} {W W' : World} (h : Mine B M W W') (hB : C ≤ B) (hM : ∀ k, N k → M k) : Mine C N W W' :=
  ⟨h.os, h.tape, h.output, h.size, fun k hk hc => h.same k hk (hc.elim (fun x => .inl (by omega)) (fun x => .inr (hM k x)))⟩
theorem Mine.alloc (B : Nat) (M : Nat → Prop) (W : World) (o : Obj) : Mine B M W (W.alloc o) := Mine.below ((Below.refl _ _).alloc (Nat.le_refl _) _)
theorem Mine.putObj {B : Nat} {M : Nat → Prop} {W : World} {l : Nat} (o' : Obj) (hB : B ≤ l) (hM : ¬ M l) : Mine B M W (W.putObj l o') :=
  ⟨rfl, rfl, rfl, by simp, fun k _ hc => World.putObj_heap_other (by rintro rfl; exact hc.elim (by omega) hM)⟩
theorem Turns.refl (M : Nat → Prop) (W : World) : Turns M M W W := ⟨Nat.le_refl _, fun _ _ _ => rfl, fun _ h => .inl h⟩
theorem Turns.below {M : Nat → Prop} {W W' : World} (h : Below W.heap.size W W') : Turns M M W W' := ⟨h.size, fun k hk _ => h.block k hk, fun _ h => .inl h⟩
theorem Turns.trans {M N O : Nat → Prop} {a b c : World} (h : Turns M N a b) (k : Turns N O b c) : Turns M O a c :=
  ⟨Nat.le_trans h.size k.size, fun i hi hm => (k.same i (Nat.lt_of_lt_of_le hi h.size) (fun hn => (h.more i hn).elim hm (by omega))).trans (h.same i hi hm), fun i hi => (k.more i hi).elim (fun x => h.more i x) (fun x => .inr (Nat.le_trans h.size x))⟩

/-- a call of yield, in the widest fence -/
def YieldW (P : Program) (l : Nat) (args : Array Value) (W : World) (R : Ending → World → Prop) : Prop := YieldAt Fence.wide 0 P l args W R
theorem roundW {m : Nat} {P : Program} {l : Nat} {f : FuncId} {tmps : Array Value} {assign body : Code} {W : World} {R : Ending → World → Prop} (h : RoundIn Fence.wide 0 P l f tmps assign body W R) : RoundIn Fence.wide m P l f tmps assign body W R :=
  ⟨h.1, fun c cs _ => h.2 c cs (room_wide _)⟩
theorem YieldW.at {m : Nat} {P : Program} {l : Nat} {args : Array Value} {W : World} {R : Ending → World → Prop} (h : YieldW P l args W R) : YieldAt Fence.wide m P l args W R := by
  obtain ⟨fn, tmps, assign, body, h1, h2⟩ := h
  exact ⟨fn, tmps, assign, body, h1, roundW h2⟩
theorem YieldW.inRound {m l' : Nat} {P : Program} {l : Nat} {args : Array Value} {W : World} {R : Ending → World → Prop} (h : YieldW P l args W R) : YieldAt (Fence.wide.inRound l') m P l args W R := h.at (m := m)

/-- the iterator hands over xs, where S holds in every world of the rounds -/
def HandsM {α : Type} (P : Program) (gf : Nat) (lb : Array Value) (encs : α → Array Value) (xs : List α) (S : World → Prop) : Prop :=
  ∀ (l : Nat) (J : List α → (Nat → Prop) → World → Prop) (M : Nat → Prop) (W : World), KnownM J → AbidesM W.heap.size J → (∀ s M W, J s M W → S W) →
    (∀ pre x M W1, J pre M W1 → pre ++ [x] <+: xs → YieldW P l (encs x) W1 fun e W' => e = .returned (.bool true) ∧ ∃ M', J (pre ++ [x]) M' W' ∧ Turns M M' W1 W') →
    J [] M W → Calls P gf (#[.func (.yield l) #[] #[]] ++ lb) W fun e W' => (∃ v, e = .returned v) ∧ ∃ M', J xs M' W'

/-- what a round leaves behind: the body has run to its end -/
def BodyM {α : Type} (I : List α → (Nat → Prop) → World → Prop) (s : List α) (M : Nat → Prop) (W : World) : Exit → Act → World → Prop
  | .normal, _, W' => ∃ M', I s M' W' ∧ Turns M M' W W'
  | _, _, _ => False

theorem range_mx {α : Type} {encs : α → Array Value} {n : Nat} {P : Program} {g : Operand} {ps : Array Tmp} {assign body : Code} {Q : Exit → Act → World → Prop} {a : Act} {w : World}
    {gf : Nat} {lb : Array Value} (hg : a.eval g = .func (.func gf) #[] lb) (eg : ∀ args w, (callFunc gf args).run P w = .ok (.enter gf args) w)
    {xs : List α} {S : World → Prop} (hps : ∀ x, (encs x).size = ps.size) (hseq : HandsM P gf lb encs xs S) (I : List α → (Nat → Prop) → World → Prop) (hK : KnownM I) (hI : AbidesM w.heap.size I) (hS : ∀ s M W, I s M W → S W)
    (M0 : Nat → Prop) (h0 : I [] M0 w) (Ax : α → Act → Nat → World → Prop) (hAx : ∀ x a' z W W', Ax x a' z W → (∀ k, z ≤ k → k < W.heap.size → W'.heap[k]? = W.heap[k]?) → Ax x a' z W')
    (hassign : ∀ (l m : Nat) (x : α) (W : World) (K : Act → World → Prop), (∀ a' W', Below W.heap.size W W' → Ax x a' W.heap.size W' → K a' W') → assign.wpIn (Fence.wide.inRound l) m P (Exit.then K (fun _ _ _ => False)) { tmps := (ps.zip (encs x)).foldl (fun t (p, v) => t.setIfInBounds p v) a.tmps, defers := [] } W)
    (hbody : ∀ (l m : Nat) (pre : List α) (x : α) (M : Nat → Prop) (a' : Act) (z : Nat) (W : World), I pre M W → (∀ k, M k → k < z) → z ≤ W.heap.size → Ax x a' z W → pre ++ [x] <+: xs → body.wpIn (Fence.wide.inRound l) m P (BodyM I (pre ++ [x]) M W) a' W)
    (hdone : ∀ (D : Nat) (M : Nat → Prop) (W : World), w.heap.size ≤ D → ¬ M D → I xs M W → W.heap[D]? = some (.deferred (some [])) → Q .normal { a with defers := { target := .collected D, args := #[] } :: a.defers } W) :
    (Code.rangeFunc g ps assign body).wpIn Fence.wide n P Q a w := by
  refine wpIn_rangeFunc fun fn hfn => ?_
  generalize hB : w.heap.size = B at *
  let rc : LoopState → Loop := fun st => { state := st, pending := none, fn, tmps := a.tmps, params := ps, assign, body, defers := B }
  let W1 : World := (w.alloc (.deferred (some []))).alloc (.loop (rc .ready))
  have hs1 : W1.heap.size = B + 2 := by show ((w.alloc _).alloc _).heap.size = _; simp [hB]
  have hl1 : W1.heap[B + 1]? = some (.loop (rc .ready)) := by
    have := World.alloc_heap_new (w.alloc (.deferred (some []))) (.loop (rc .ready))
    rw [World.size_alloc, hB] at this
    exact this
  have hd1 : W1.heap[B]? = some (.deferred (some [])) := by
    have h2 := World.alloc_heap_new w (.deferred (some []))
    rw [hB] at h2
    exact (Below.heap_alloc _ _ _ (by simp [hB])).trans h2
  have hi1 : I [] M0 W1 := hI _ _ _ _ (hI _ _ _ _ h0 (Mine.alloc _ _ _ _)) (Mine.alloc _ _ _ _)
  have hM0 : ∀ k, M0 k → k < B := fun k hk => hB ▸ hK _ _ _ h0 k hk
  refine ⟨B + 1, [{ target := .collected B, args := #[] }], W1, { target := .fn (.func gf) lb, args := #[.func (.yield (B + 1)) #[] #[]] }, W1, gf, #[.func (.yield (B + 1)) #[] #[]] ++ lb, W1, ?_, ?_, ?_, ?_, fun h => absurd h (by decide), ?_⟩
  · have := run_enterLoop_outer (P := P) (w := w) fn a.tmps ps assign body
    rw [hB] at this
    exact this
  · simp only [resolve, hg]
    simp [go_sem]
  · intro f' _
    trivial
  · simp [invoke, go_sem, eg]
  · let J : List α → (Nat → Prop) → World → Prop := fun pre M W => ∃ N, I pre N W ∧ (∀ k, M k ↔ (N k ∨ k = B + 1)) ∧ ¬ N B ∧ ¬ N (B + 1) ∧ W.heap[B + 1]? = some (.loop (rc .ready)) ∧ W.heap[B]? = some (.deferred (some []))
    have hJK : KnownM J := by
      rintro s M W ⟨N, i, hm, -, -, hl, -⟩ k hk
      rcases (hm k).1 hk with h | rfl
      · exact hK _ _ _ i k h
      · exact (Array.getElem?_eq_some_iff.1 hl).1
    have hJ : AbidesM W1.heap.size J := by
      rintro s M W W' ⟨N, i, hm, n0, n1, hl, hd⟩ hM
      refine ⟨N, hI _ _ _ _ i (hM.mono (by omega) (fun k hk => (hm k).2 (.inl hk))), hm, n0, n1, ?_, ?_⟩
      · exact (hM.same _ (Array.getElem?_eq_some_iff.1 hl).1 (.inl (by omega))).trans hl
      · exact (hM.same _ (Array.getElem?_eq_some_iff.1 hd).1 (.inl (by omega))).trans hd
    have hcall := hseq (B + 1) J (fun k => M0 k ∨ k = B + 1) W1 hJK hJ (fun s M W ⟨N, i, _⟩ => hS _ _ _ i) ?_ ⟨M0, hi1, fun _ => Iff.rfl, fun h => absurd (hM0 _ h) (by omega), fun h => absurd (hM0 _ h) (by omega), hl1, hd1⟩
    · refine callsIn_wide.2 (hcall.mono ?_)
      rintro e W2 ⟨⟨v, rfl⟩, M, N, i, hm, n0, n1, hl, hd⟩
      refine ⟨none, _, run_endLoop (P := P) hl (by simp [rc]), ?_⟩
      exact hdone B N _ (Nat.le_refl _) n0 (hI _ _ _ _ i (Mine.putObj _ (by omega) n1)) ((World.putObj_heap_other (by omega)).trans hd)
    · rintro pre x M W ⟨N, i, hm, n0, n1, hl, hd⟩ hpre
      have hlt : B + 1 < W.heap.size := (Array.getElem?_eq_some_iff.1 hl).1
      refine ⟨fn, _, assign, body, run_yield (P := P) (args := encs x) hl (hps x), roundIn_of_wpIn hfn (hassign _ _ x W _ ?_)⟩
      intro a' Wa hba hax
      have hla : Wa.heap[B + 1]? = some (.loop (rc .ready)) := (hba.block _ hlt).trans hl
      have hda : Wa.heap[B]? = some (.deferred (some [])) := (hba.block _ (Array.getElem?_eq_some_iff.1 hd).1).trans hd
      have hza := hba.size
      have hNz : ∀ k, N k → k < W.heap.size := hK _ _ _ i
      have ia : I pre N Wa := hI _ _ _ _ i (Mine.below hba)
      refine ⟨_, run_beginRound hla rfl, ?_⟩
      generalize hW2 : Wa.putObj (B + 1) (.loop { rc .ready with state := .busy }) = W2
      have j2 : W2.heap[B + 1]? = some (.loop { rc .ready with state := .busy }) := by rw [← hW2]; exact World.putObj_heap_same (Nat.lt_of_lt_of_le hlt hza)
      have jo : ∀ k, k ≠ B + 1 → W2.heap[k]? = Wa.heap[k]? := fun k hk => by rw [← hW2]; exact World.putObj_heap_other hk
      have jz : W2.heap.size = Wa.heap.size := by rw [← hW2]; simp
      have jI : I pre N W2 := by rw [← hW2]; exact hI _ _ _ _ ia (Mine.putObj _ (by omega) n1)
      have jA : Ax x a' W.heap.size W2 := hAx _ _ _ _ _ hax (fun k hk _ => jo k (by omega))
      refine wpIn_mono (hbody _ _ pre x N a' W.heap.size W2 jI hNz (by omega) jA hpre) ?_
      rintro e a3 W3 hp
      cases e with
      | normal =>
        obtain ⟨N', i', T⟩ := hp
        have l2 := (T.same (B + 1) (by omega) n1).trans j2
        have hlt3 := (Array.getElem?_eq_some_iff.1 l2).1
        have l3 : W3.heap[B]? = some (.deferred (some [])) := (T.same B (by omega) n0).trans ((jo B (by omega)).trans hda)
        have m0 : ¬ N' B := fun h => (T.more _ h).elim n0 (by omega)
        have m1 : ¬ N' (B + 1) := fun h => (T.more _ h).elim n1 (by omega)
        have hend := run_endRound (P := P) none l2
        refine ⟨_, _, hend, rfl, fun k => N' k ∨ k = B + 1, ⟨N', hI _ _ _ _ i' (Mine.putObj _ (by omega) m1), fun _ => Iff.rfl, m0, m1, World.putObj_heap_same hlt3, (World.putObj_heap_other (by omega)).trans l3⟩, ?_, ?_, ?_⟩
        · have := T.size; simp; omega
        · intro k hk hnk
          have hk1 : k ≠ B + 1 := fun e => hnk ((hm k).2 (.inr e))
          exact (World.putObj_heap_other hk1).trans ((T.same k (by omega) (fun h => hnk ((hm k).2 (.inl h)))).trans ((jo k hk1).trans (hba.block k hk)))
        · rintro k (h | rfl)
          · rcases T.more k h with h | h
            · exact .inl ((hm k).2 (.inl h))
            · exact .inr (by omega)
          · exact .inl ((hm _).2 (.inr rfl))
      | ret => exact hp.elim
      | exit id => exact hp.elim
      | goto t => exact hp.elim
      | panic ch => exact hp.elim
      | outgrown => exact hp.elim

/-- where the loop's own assignments lay nothing -/
theorem range_m {α : Type} {encs : α → Array Value} {n : Nat} {P : Program} {g : Operand} {ps : Array Tmp} {assign body : Code} {Q : Exit → Act → World → Prop} {a : Act} {w : World}
    {gf : Nat} {lb : Array Value} (hg : a.eval g = .func (.func gf) #[] lb) (eg : ∀ args w, (callFunc gf args).run P w = .ok (.enter gf args) w)
    {xs : List α} {S : World → Prop} (hps : ∀ x, (encs x).size = ps.size) (hseq : HandsM P gf lb encs xs S) (I : List α → (Nat → Prop) → World → Prop) (hK : KnownM I) (hI : AbidesM w.heap.size I) (hS : ∀ s M W, I s M W → S W)
    (M0 : Nat → Prop) (h0 : I [] M0 w) (a₁ : α → Act)
    (hassign : ∀ (l m : Nat) (x : α) (W : World) (K : Act → World → Prop), K (a₁ x) W → assign.wpIn (Fence.wide.inRound l) m P (Exit.then K (fun _ _ _ => False)) { tmps := (ps.zip (encs x)).foldl (fun t (p, v) => t.setIfInBounds p v) a.tmps, defers := [] } W)
    (hbody : ∀ (l m : Nat) (pre : List α) (x : α) (M : Nat → Prop) (W : World), I pre M W → pre ++ [x] <+: xs → body.wpIn (Fence.wide.inRound l) m P (BodyM I (pre ++ [x]) M W) (a₁ x) W)
    (hdone : ∀ (D : Nat) (M : Nat → Prop) (W : World), w.heap.size ≤ D → ¬ M D → I xs M W → W.heap[D]? = some (.deferred (some [])) → Q .normal { a with defers := { target := .collected D, args := #[] } :: a.defers } W) :
    (Code.rangeFunc g ps assign body).wpIn Fence.wide n P Q a w :=
  range_mx hg eg hps hseq I hK hI hS M0 h0 (fun x a' _ _ => a' = a₁ x) (fun _ _ _ _ _ h _ => h)
    (fun l m x W K hk => hassign l m x W K (hk _ _ (Below.refl _ _) rfl)) (fun l m pre x M a' _ W i _ _ e hp => by subst e; exact hbody l m pre x M W i hp) hdone
end Tk
end Go.Proofs.YthooghgiokgdhaaGreatDoor
namespace Go.Proofs.YthooghgiokgdhaaGreatDoor
open Go.RowKit
namespace Tk

/-- block g is a variable with these cells -/
def Bx (w : World) (g : Nat) (T : TypeId) (cs : Array Value) : Prop := w.heap[g]? = some (.cells cs T (0, 0))
theorem Bx.new (w : World) (T : TypeId) (cs : Array Value) : Bx (w.alloc (.cells cs T)) w.heap.size T cs := heap_alloc_last w _
theorem Bx.lt {w : World} {g : Nat} {T : TypeId} {cs : Array Value} (h : Bx w g T cs) : g < w.heap.size := (Array.getElem?_eq_some_iff.1 h).1
theorem Bx.later {w w' : World} {g : Nat} {T : TypeId} {cs : Array Value} (h : Bx w g T cs) (hb : Below w.heap.size w w') : Bx w' g T cs := (hb.block g h.lt).trans h
theorem Bx.cell {w : World} {g : Nat} {T : TypeId} {cs : Array Value} (h : Bx w g T cs) (i : Nat) (v : Value) (hv : cs[i]? = some v) : w.cell? ⟨g, i, none⟩ = some v := by rw [Lib.cell_of_heap h]; exact hv
theorem Bx.frozen {w : World} {g : Nat} {T : TypeId} {cs : Array Value} (h : Bx w g T cs) (i : Nat) : w.frozen? ⟨g, i, none⟩ = false := Lib.frozen_of_heap h i
theorem Bx.set {w : World} {g : Nat} {T : TypeId} {cs : Array Value} (h : Bx w g T cs) (i : Nat) (v : Value) : Bx (w.setCell ⟨g, i, none⟩ v) g T (cs.setIfInBounds i v) := heap_setCell_same w g i cs T v h
theorem Bx.grown {w w' : World} {g : Nat} {T : TypeId} {cs : Array Value} {r : Option Nat} (h : Bx w g T cs) (hg : w.grownBy w' r) (hr : some g ≠ r) : Bx w' g T cs := (hg.block g h.lt hr).trans h
theorem grown_setC (w : World) (g i : Nat) (v : Value) : w.grownBy (w.setCell ⟨g, i, none⟩ v) (some g) :=
  ⟨rfl, rfl, rfl, by rw [World.size_setCell]; exact Nat.le_refl _, fun k _ hne => heap_setCell_other w ⟨g, i, none⟩ k v (fun e => hne (by rw [e]))⟩
theorem grownC_trans {a b c : World} {r : Option Nat} (h : a.grownBy b r) (k : b.grownBy c r) : a.grownBy c r :=
  ⟨k.os.trans h.os, k.tape.trans h.tape, k.output.trans h.output, Nat.le_trans h.size k.size, fun i hi hne => (k.block i (Nat.lt_of_lt_of_le hi h.size) hne).trans (h.block i hi hne)⟩
theorem grownC_refl (a : World) (r : Option Nat) : a.grownBy a r := ⟨rfl, rfl, rfl, Nat.le_refl _, fun _ _ _ => rfl⟩
theorem grownC_below {w w' : World} (h : Below w.heap.size w w') (r : Option Nat) : w.grownBy w' r := ⟨h.os, h.tape, h.output, h.size, fun k hk _ => h.block k hk⟩

end Tk
end Go.Proofs.YthooghgiokgdhaaGreatDoor
