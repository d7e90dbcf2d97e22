/- VaQ FldH JoinF FldI FldJ, put together. -/
import Derived.Test.YthooghgiokgdhaaGreatDoorQG
import Derived.Test.YthooghgiokgdhaaGreatDoorQB
import Derived.Test.YthooghgiokgdhaaGreatDoorQK
import Derived.Lib.AppendIntMem
import Derived.Lib.ItoaMem
import Derived.Test.YthooghgiokgdhaaGreatDoorQC
import Derived.Laws.AppendOwnNone
import Derived.Laws.OwnMore
import Derived.BigFrame
import Derived.Laws.IdiomCopy
import Derived.Lib.SliceRun
namespace Go.Proofs.YthooghgiokgdhaaGreatDoor
open Go.RowKit
namespace Tk

theorem decV : ∀ (k u : Nat), u ≤ k → Lib.decDigits u = digL u
  | 0, u, h => by
    rw [Lib.decDigits, digL, dif_pos (by omega), dif_pos (by omega)]
  | k + 1, u, h => by
    by_cases hu : u < 10
    · rw [Lib.decDigits, digL, dif_pos hu, dif_pos hu]
    · rw [Lib.decDigits, digL, dif_neg hu, dif_neg hu, decV k (u / 10) (by omega)]
/-- the table of powers of ten -/
structure TenV (w : World) : Prop where
  big : 2 < w.heap.size
  tab : Lib.TabIs Tryz.prog w "internal/strconv.uint64pow10" .u64 Lib.pow10Tab
theorem gTenV : Tryz.prog.globalNamed "internal/strconv.uint64pow10" = some 2 := by kernel_rfl
theorem TenV.later {w w' : World} (h : TenV w) (hb : Below w.heap.size w w') : TenV w' := ⟨Nat.lt_of_lt_of_le h.big hb.size, var?_below hb gTenV h.big h.tab⟩
theorem itoaV_any (n : Nat) (w : World) (hT : TenV w) (hn : n ≤ 9223372036854775807) :
    Calls Tryz.prog 87 #[.int .i64 (n : Int)] w fun e w' => e = .returned (.string (mkS (digL n))) ∧ Below w.heap.size w w' :=
  (Tryz.strconv_Itoa (n : Int) (by omega) (by omega) w hT.tab).mono fun _ _ ⟨h1, k, os, h2⟩ => ⟨by rw [h1, Lib.itoa_nonneg, decV n n (Nat.le_refl _)]; rfl, h2 ▸ Lib.below_grow _ _ (Nat.le_refl _) _ _⟩

theorem keyV_len (f : Bs → Bs) : ∀ L : List Bs, (∀ n ∈ L, n.length ≤ 1000000 ∧ (f n).length ≤ 4000000) → (keyV f L).length ≤ L.length * 5000030
  | [], _ => by simp [keyV]
  | n :: t, h => by
    have ih := keyV_len f t (fun x hx => h x (by simp [hx]))
    have h1 := h n (by simp)
    have h2 := digL_len 19 (f n).length (by omega)
    have h3 : (lowL n).length = n.length := by simp [lowL]
    have e : keyV f (n :: t) = entV n (f n) ++ keyV f t := by simp [keyV]
    have e2 : (entV n (f n)).length = n.length + (digL (f n).length).length + (f n).length + 3 := by
      unfold entV
      simp only [List.length_append, List.length_cons, List.length_nil]
      omega
    rw [e, List.length_append, List.length_cons, Nat.succ_mul, e2]
    omega
/-- what a request with these fields has for a name -/
def vlV (l : List (Bs × Bs)) (n : Bs) : Bs := valV (allF l n)
theorem vlV_len (l : List (Bs × Bs)) (n : Bs) (h : sumF l ≤ 1000000) : (vlV l n).length ≤ 4000000 := by
  have h1 := val_len (allF l n)
  have h2 := sum_all n l
  have h3 := allF_len l n
  unfold vlV; omega
theorem take_nextV (l : List Bs) (i : Nat) (h : i < l.length) : l.take (i + 1) = l.take i ++ [l.getD i []] := by
  rw [List.take_succ_eq_append_getElem h]; simp [List.getD, h]

set_option maxHeartbeats 8000000 in
set_option maxRecDepth 100000 in
theorem key_any (v vl : Value) (l : List (Bs × Bs)) (names : List Bs) (w : World) (hs : IsStrs w v names) (hT : Utf w) (hN : TenV w) (hf : IsFlds w vl l) (zl : sumF l ≤ 1000000) (nl : l.length ≤ 1048576) (hz : ∀ x ∈ names, x.length ≤ 1000000) (hl : names.length ≤ 1000) :
    Calls Tryz.prog 67 #[v, vl] w fun e w' => e = .returned (.string (mkS (keyV (vlV l) names))) ∧ Below w.heap.size w w' := by
  have HS := Lib.hid hs
  have HF := Lib.hid hf
  have HT := Lib.hid hT
  have HTn := Lib.hid hN
  have HZ := Lib.hid hz
  have HVl := Lib.hid (fun n => vlV_len l n zl)
  have HV := Lib.hid (fun (W : World) (n : Bs) (hs : IsFlds W vl l) (hT : Utf W) (hn : n.length ≤ 1000000) => vval_any vl l n W hT hs zl (by omega) nl)
  have HKl := Lib.hid (fun (i : Nat) => keyV_len (vlV l) (names.take i) (fun n hn => ⟨hz n (List.mem_of_mem_take hn), vlV_len l n zl⟩))
  obtain ⟨a, cap, rfl⟩ : ∃ a cap, v = .slice a names.length cap := by obtain ⟨a, c, h, -⟩ := hs; exact ⟨a, c, h⟩
  obtain ⟨al, cl, rfl⟩ : ∃ a cap, vl = .slice a l.length cap := by obtain ⟨a, c, h, -⟩ := hf; exact ⟨a, c, h⟩
  have hB0 := Lib.hid (Lib.fresh_isBuilder 110 5 w)
  have HB1 := Lib.hid (show Below w.heap.size w (w.alloc (Obj.cells #[Value.pointer none, Value.slice none 0 0] 110)) from (Below.refl _ _).alloc (Nat.le_refl _) _)
  have hsz : w.heap.size ≤ (w.alloc (Obj.cells #[Value.pointer none, Value.slice none 0 0] 110)).heap.size := by simp
  clear hs hf hT hN hz zl nl
  go_enter Tryz.func67, Tryz.ntmps67
  go_wp2_with fail
  generalize w.alloc (Obj.cells #[Value.pointer none, Value.slice none 0 0] 110) = W at *
  generalize hgw : w.heap.size = B at *
  have HGW := Lib.hid hgw
  clear hgw
  have HTB := Lib.hid (fun (W' : World) (h : Below B w W') => HTn.out.later (show Below w.heap.size w W' by rw [HGW.out]; exact h))
  go_loopw [11] (fun vi wr => ∃ i : Nat, i ≤ names.length ∧ vi = .int .i64 i ∧ Hid (IsB B B (keyV (vlV l) (names.take i)) wr) ∧ Hid (Below B w wr) ∧ B ≤ wr.heap.size) (fun vi _ => names.length - (RowKit.intOf vi).toNat)
  case atStart => exact ⟨0, Nat.zero_le _, rfl, hB0.out, HB1.out, hsz⟩
  case round =>
    obtain ⟨i, hi, rfl, hI, hB3, hBw⟩ := hrel
    rename World => W3
    by_cases hlt : i < names.length
    · have hbw : Below w.heap.size w W3 := by rw [HGW.out]; exact hB3.out
      obtain ⟨a', c', e', hc⟩ := isStrsV_below HS.out hbw
      injection e' with e1 _ e2
      subst e1 e2
      obtain ⟨b, o, rfl, hc0⟩ := hc i (names.getD i []) (by simp [List.getD, hlt])
      have hm := HZ.out (names.getD i []) (by simp [List.getD, hlt])
      have htk := take_nextV names i hlt
      have hks := key_snoc (vlV l) (names.take i) (names.getD i [])
      rw [← htk] at hks
      have hkl := HKl.out i
      have hkm : (names.take i).length ≤ 1000 := by rw [List.length_take]; omega
      have hP : (keyV (vlV l) (names.take i)).length ≤ 5000030000 := by omega
      have HVal := Lib.hid (HV.out W3 (names.getD i []) (isFlds_below HF.out hbw) (HT.out.later hbw) hm)
      have hvl := HVl.out (names.getD i [])
      have hent : entV (names.getD i []) (vlV l (names.getD i [])) = lowL (names.getD i []) ++ (58 :: (digL (vlV l (names.getD i [])).length ++ (58 :: (vlV l (names.getD i []) ++ [10])))) := rfl
      have HKS := Lib.hid (hks.trans (by rw [hent]))
      have hdl := digL_len 19 (vlV l (names.getD i [])).length (by omega)
      have hvv : vlV l (names.getD i []) = valV (allF l (names.getD i [])) := rfl
      rw [← hvv] at HVal
      clear hc htk hbw hks hkl hkm hent hvv
      generalize names.getD i [] = n at *
      generalize vlV l n = x at *
      generalize keyV (vlV l) (names.take i) = P at *
      have hlw := tlower_any (mkS n)
      have HLw := Lib.hid (fun W : World => tlower_any (mkS n) W (by rw [size_mkS]; omega))
      rw [bs_mkS] at HLw
      have hll : (lowL n).length = n.length := by simp [lowL]
      have HII := Lib.hid (fun (W : World) (h : TenV W) => itoaV_any x.length W h (by omega))
      have hxz := size_mkS x
      have HWS := Lib.hid (fun (W : World) (Q : Bs) (t : Bs) (h : IsB B B Q W) (hq : Q.length + t.length ≤ 1099511627776) (hw : B ≤ W.heap.size) => by
        have h1 := writeString B B Q (mkS t) W h (by rw [size_mkS]; exact hq) hw
        rw [bs_mkS] at h1
        exact h1)
      have HWB := Lib.hid (fun (W : World) (Q : Bs) (c : UInt8) (h : IsB B B Q W) (hq : Q.length + 1 ≤ 1099511627776) (hw : B ≤ W.heap.size) => writeByte B B Q c W h hq hw)
      generalize lowL n = u at *
      generalize digL x.length = d at *
      have HLn : Hid (P.length ≤ 5000030000 ∧ n.length ≤ 1000000 ∧ u.length = n.length ∧ d.length ≤ 20 ∧ x.length ≤ 4000000) := ⟨hP, hm, hll, hdl, hvl⟩
      have hkx : IntKind.i64.wrap (x.length : Int) = (x.length : Int) := IntWalk.i64_in _ (by omega)
      have g0 : (0 : Int) ≤ (i : Int) := by omega
      have g1 : (i : Int) < (names.length : Int) := by omega
      clear hP hm hll hdl hvl hlw hkx
      go_wp2_with fail
      refine HVal.out.mono ?_
      rintro e w1 ⟨rfl, hb⟩
      have HI1 := Lib.hid (isB_below hI.out hb)
      have HB1 := Lib.hid (hB3.out.trans (hb.mono hBw))
      have hs1 := Nat.le_trans hBw hb.size
      clear hb
      go_wp2_with fail
      refine (HLw.out _).mono ?_
      rintro e w2 ⟨rfl, hb⟩
      have HI2 := Lib.hid (isB_below HI1.out hb)
      have HB2 := Lib.hid (HB1.out.trans (hb.mono hs1))
      have hs2 := Nat.le_trans hs1 hb.size
      clear hb
      have H3 := Lib.hid (HWS.out w2 P u HI2.out (by have := HLn.out; omega) hs2)
      go_wp2_with fail
      refine H3.out.mono ?_
      rintro e w3 ⟨rfl, hi, hb, -⟩
      have HI3 := Lib.hid hi
      have HB3 := Lib.hid (HB2.out.trans hb)
      have hs3 := Nat.le_trans hs2 hb.size
      clear hi hb
      have H4 := Lib.hid (HWB.out w3 (P ++ u) 58 HI3.out (by simp only [List.length_append]; have := HLn.out; omega) hs3)
      go_wp2_with fail
      refine H4.out.mono ?_
      rintro e w4 ⟨rfl, hi, hb⟩
      have HI4 := Lib.hid hi
      have HB4 := Lib.hid (HB3.out.trans hb)
      have hs4 := Nat.le_trans hs3 hb.size
      clear hi hb
      have H5 := Lib.hid (HII.out w4 (HTB.out w4 HB4.out))
      go_wp2_with fail
      refine H5.out.mono ?_
      rintro e w5 ⟨rfl, hb⟩
      have HI5 := Lib.hid (isB_below HI4.out hb)
      have HB5 := Lib.hid (HB4.out.trans (hb.mono hs4))
      have hs5 := Nat.le_trans hs4 hb.size
      clear hb
      have H6 := Lib.hid (HWS.out w5 (P ++ u ++ [58]) d HI5.out (by simp only [List.length_append, List.length_cons, List.length_nil]; have := HLn.out; omega) hs5)
      go_wp2_with fail
      refine H6.out.mono ?_
      rintro e w6 ⟨rfl, hi, hb, -⟩
      have HI6 := Lib.hid hi
      have HB6 := Lib.hid (HB5.out.trans hb)
      have hs6 := Nat.le_trans hs5 hb.size
      clear hi hb
      have H7 := Lib.hid (HWB.out w6 (P ++ u ++ [58] ++ d) 58 HI6.out (by simp only [List.length_append, List.length_cons, List.length_nil]; have := HLn.out; omega) hs6)
      go_wp2_with fail
      refine H7.out.mono ?_
      rintro e w7 ⟨rfl, hi, hb⟩
      have HI7 := Lib.hid hi
      have HB7 := Lib.hid (HB6.out.trans hb)
      have hs7 := Nat.le_trans hs6 hb.size
      clear hi hb
      have H8 := Lib.hid (HWS.out w7 (P ++ u ++ [58] ++ d ++ [58]) x HI7.out (by simp only [List.length_append, List.length_cons, List.length_nil]; have := HLn.out; omega) hs7)
      go_wp2_with fail
      refine H8.out.mono ?_
      rintro e w8 ⟨rfl, hi, hb, -⟩
      have HI8 := Lib.hid hi
      have HB8 := Lib.hid (HB7.out.trans hb)
      have hs8 := Nat.le_trans hs7 hb.size
      clear hi hb
      have H9 := Lib.hid (HWB.out w8 (P ++ u ++ [58] ++ d ++ [58] ++ x) 10 HI8.out (by simp only [List.length_append, List.length_cons, List.length_nil]; have := HLn.out; omega) hs8)
      go_wp2_with fail
      refine H9.out.mono ?_
      rintro e w9 ⟨rfl, hi, hb⟩
      have HI9 := Lib.hid hi
      have HB9 := Lib.hid (HB8.out.trans hb)
      have hs9 := Nat.le_trans hs8 hb.size
      clear hi hb
      have HIF : Hid (IsB B B (keyV (vlV l) (names.take (i + 1))) w9) := by
        show IsB B B (keyV (vlV l) (names.take (i + 1))) w9
        rw [HKS.out]
        have h := HI9.out
        simpa using h
      go_wp2_with fail
      exact ⟨⟨i + 1, by omega, by go_num, HIF, HB9, hs9⟩, by simp [RowKit.intOf]; omega⟩
    · have hil : names.take i = names := List.take_of_length_le (by omega)
      rw [hil] at hI
      have H3 := Lib.hid (Tryz.Builder_String_any B B (keyV (vlV l) names) W3 hI.out hBw)
      clear hil
      go_wp2_with fail
      refine H3.out.mono ?_
      rintro e w5 ⟨rfl, hb5⟩
      have HB5 := Lib.hid (hB3.out.trans hb5)
      clear hb5
      go_wp2_with fail
      go_ret
      exact ⟨rfl, by rw [HGW.out]; exact HB5.out⟩
end Tk
end Go.Proofs.YthooghgiokgdhaaGreatDoor
namespace Go.Proofs.YthooghgiokgdhaaGreatDoor
open Go.RowKit
namespace Tk

/-- the function value that named returns -/
def namedV (g : Nat) : Value := .func (.func 223) #[] #[.pointer (some ⟨g, 0, none⟩)]
def HasN (w : World) (g : Nat) (name : Bs) : Prop := w.cell? ⟨g, 0, none⟩ = some (.string (mkS name))
theorem HasN.lt {w : World} {g : Nat} {name : Bs} (h : HasN w g name) : g < w.heap.size := cell_lt (p := ⟨g, 0, none⟩) h
theorem HasN.later {w w' : World} {g : Nat} {name : Bs} (h : HasN w g name) (hb : Below w.heap.size w w') : HasN w' g name := (hb.cell (p := ⟨g, 0, none⟩) h.lt).trans h

set_option maxHeartbeats 2000000 in
theorem named_any (name : Bs) (w : World) :
    Calls Tryz.prog 177 #[.string (mkS name)] w fun e w' => e = .returned (namedV w.heap.size) ∧ HasN w' w.heap.size name ∧ Below w.heap.size w w' := by
  go_enter Tryz.func177, Tryz.ntmps177
  go_wp2_with fail
  go_ret
  exact ⟨rfl, by unfold HasN; rw [Lib.cell_of_heap (heap_alloc_last w _)]; rfl, (Below.refl _ _).alloc (Nat.le_refl _) _⟩

set_option maxHeartbeats 2000000 in
set_option maxRecDepth 100000 in
theorem named1_any (g : Nat) (name n x : Bs) (w : World) (hc : HasN w g name) (hn : n.length ≤ 1099511627776) (hm : name.length ≤ 1099511627776) :
    Calls Tryz.prog 223 #[.agg #[.string (mkS n), .string (mkS x)], .pointer (some ⟨g, 0, none⟩)] w fun e w' => e = .returned (.bool (isN name (n, x))) ∧ Below w.heap.size w w' := by
  have HS := fun W : World => tsame_any (mkS n) (mkS name) W (by rw [size_mkS]; exact hn) (by rw [size_mkS]; exact hm)
  rw [bs_mkS, bs_mkS] at HS
  have hv : isN name (n, x) = decide (lowL n = lowL name) := rfl
  have HV := Lib.hid hv
  have HS2 := Lib.hid HS
  have hc0 : (w.alloc (Obj.cells #[.string (mkS n), .string (mkS x)] 31)).cell? ⟨g, 0, none⟩ = some (.string (mkS name)) := (World.cell?_alloc_lt w _ _ hc.lt).trans hc
  have hc1 : w.cell? ⟨g, 0, none⟩ = some (.string (mkS name)) := hc
  clear hv HS
  go_enter Tryz.func223, Tryz.ntmps223
  go_wp2_with fail
  refine (HS2.out _).mono ?_
  rintro e w' ⟨rfl, k, rfl⟩
  go_wp2_with fail
  go_ret
  exact ⟨by rw [HV.out]; rfl, below_some_draws ((Below.refl _ _).alloc (Nat.le_refl _) _) k⟩

/-- where the first field of this name is, or -1 -/
def idxF (name : Bs) (l : List (Bs × Bs)) : Int := if l.findIdx (isN name) < l.length then (l.findIdx (isN name) : Int) else -1
theorem idxF_hit (name : Bs) (l : List (Bs × Bs)) (i : Nat) (hi : i < l.length) (h1 : ∀ f ∈ l.take i, isN name f = false) (h2 : isN name (l.getD i ([], [])) = true) : l.findIdx (isN name) = i := by
  rw [List.findIdx_eq hi]
  refine ⟨by simpa [List.getD, hi] using h2, fun j hj => ?_⟩
  refine h1 _ ?_
  rw [List.mem_take_iff_getElem]
  exact ⟨j, by omega, rfl⟩
theorem idxF_no (name : Bs) (l : List (Bs × Bs)) (h1 : ∀ f ∈ l, isN name f = false) : l.findIdx (isN name) = l.length := by
  rw [List.findIdx_eq_length]; exact h1

set_option maxHeartbeats 4000000 in
set_option maxRecDepth 100000 in
theorem index_any (v : Value) (g : Nat) (name : Bs) (l : List (Bs × Bs)) (w : World) (hs : IsFlds w v l) (hg : HasN w g name) (hz : ∀ f ∈ l, f.1.length ≤ 1099511627776 ∧ f.2.length ≤ 1099511627776) (hn : name.length ≤ 1099511627776) (hl : l.length ≤ 1048576) :
    Calls Tryz.prog 222 #[v, namedV g] w fun e w' => e = .returned (.int .i64 (idxF name l)) ∧ Below w.heap.size w w' := by
  have HS := Lib.hid hs
  have HZ := Lib.hid hz
  have HG := Lib.hid hg
  obtain ⟨a, cap, rfl⟩ : ∃ a cap, v = .slice a l.length cap := by obtain ⟨a, c, h, -⟩ := hs; exact ⟨a, c, h⟩
  clear hs hz hg
  unfold namedV
  go_enter Tryz.func222, Tryz.ntmps222
  go_wp2_with fail
  go_loopw [5, 8] (fun _ vi wr => ∃ i : Nat, i ≤ l.length ∧ vi = .int .i64 i ∧ Hid (∀ f ∈ l.take i, isN name f = false) ∧ Hid (Below w.heap.size w wr)) (fun _ vi _ => l.length - (RowKit.intOf vi).toNat)
  case atStart => exact ⟨0, Nat.zero_le _, rfl, fun f hf => by simp at hf, Below.refl _ _⟩
  case round =>
    obtain ⟨i, hi, rfl, HA, HB⟩ := hrel
    rename World => W
    by_cases hlt : i < l.length
    · obtain ⟨a', c', e', hcap, hc⟩ := isFlds_below HS.out HB.out
      injection e' with e1 _ e2
      subst e1 e2
      obtain ⟨b, o, rfl, hc0, hc1⟩ := hc i (l.getD i ([], [])) (by simp [List.getD, hlt])
      have hm := HZ.out (l.getD i ([], [])) (by simp [List.getD, hlt])
      have hhit := idxF_hit name l i hlt HA.out
      have htk : l.take (i + 1) = l.take i ++ [l.getD i ([], [])] := by
        rw [List.take_succ_eq_append_getElem hlt]; simp [List.getD, hlt]
      have HTK := Lib.hid htk
      have HHit := Lib.hid hhit
      clear hc htk hhit
      generalize l.getD i ([], []) = f at *
      obtain ⟨n, x⟩ := f
      simp only at hm hc0 hc1
      have HC := named1_any g name n x W (HG.out.later HB.out) hm.1 hn
      have g0 : (0 : Int) ≤ (i : Int) := by omega
      have g1 : (i : Int) < (l.length : Int) := by omega
      cases hk : isN name (n, x)
      · rw [hk] at HC
        have HA2 : Hid (∀ f ∈ l.take (i + 1), isN name f = false) := by
          intro f hf
          rw [HTK.out, List.mem_append, List.mem_singleton] at hf
          rcases hf with hf | rfl
          · exact HA.out f hf
          · exact hk
        have HC2 := Lib.hid HC
        clear HC hk
        go_wp2_with fail
        refine HC2.out.mono ?_
        rintro e w' ⟨rfl, hb⟩
        have HB2 := Lib.hid (HB.out.trans (hb.mono HB.out.size))
        clear hb
        go_wp2_with fail
        exact ⟨⟨i + 1, hlt, by go_num, HA2, HB2⟩, by simp [RowKit.intOf]; omega⟩
      · rw [hk] at HC
        have hidx : idxF name l = (i : Int) := by unfold idxF; rw [HHit.out hk, if_pos hlt]
        have HX := Lib.hid hidx
        have HC2 := Lib.hid HC
        clear HC hk hidx
        go_wp2_with fail
        refine HC2.out.mono ?_
        rintro e w' ⟨rfl, hb⟩
        have HB2 := Lib.hid (HB.out.trans (hb.mono HB.out.size))
        clear hb
        go_wp2_with fail
        go_ret
        exact ⟨by rw [HX.out]; rfl, HB2.out⟩
    · have hil : l.take i = l := List.take_of_length_le (by omega)
      rw [hil] at HA
      have hidx : idxF name l = -1 := by unfold idxF; rw [idxF_no name l HA.out, if_neg (by omega)]
      have HX := Lib.hid hidx
      clear hidx hil
      go_wp2_with fail
      go_ret
      exact ⟨by rw [HX.out]; rfl, HB.out⟩
end Tk
end Go.Proofs.YthooghgiokgdhaaGreatDoor
namespace Go.Proofs.YthooghgiokgdhaaGreatDoor
open Go.RowKit
namespace Tk

def fcells (l : List (Bs × Bs)) : List Value := l.flatMap fun f => [.string (mkS f.1), .string (mkS f.2)]
theorem fcells_len : ∀ l, (fcells l).length = l.length * 2
  | [] => rfl
  | f :: t => by
    have := fcells_len t
    unfold fcells at *
    rw [List.flatMap_cons, List.length_append, this]; simp; omega
theorem fcells_app (a b : List (Bs × Bs)) : fcells (a ++ b) = fcells a ++ fcells b := by simp [fcells]
theorem fcells_at : ∀ (l : List (Bs × Bs)) (j : Nat) (u : Value), (fcells l)[j]? = some u → ∃ i f, l[i]? = some f ∧ ((j = i * 2 ∧ u = .string (mkS f.1)) ∨ (j = i * 2 + 1 ∧ u = .string (mkS f.2)))
  | [], j, u, h => by simp [fcells] at h
  | f :: t, 0, u, h => by
    simp [fcells] at h
    exact ⟨0, f, rfl, .inl ⟨rfl, h.symm⟩⟩
  | f :: t, 1, u, h => by
    simp [fcells] at h
    exact ⟨0, f, rfl, .inr ⟨rfl, h.symm⟩⟩
  | f :: t, j + 2, u, h => by
    have h2 : (fcells t)[j]? = some u := by
      unfold fcells at *
      rw [List.flatMap_cons] at h
      simpa using h
    obtain ⟨i, g, hg, hj⟩ := fcells_at t j u h2
    refine ⟨i + 1, g, by simpa using hg, ?_⟩
    rcases hj with ⟨hj, hu⟩ | ⟨hj, hu⟩
    · exact .inl ⟨by omega, hu⟩
    · exact .inr ⟨by omega, hu⟩
theorem fcells_get : ∀ (l : List (Bs × Bs)) (j : Nat) (f : Bs × Bs), l[j]? = some f → (fcells l)[j * 2]? = some (.string (mkS f.1)) ∧ (fcells l)[j * 2 + 1]? = some (.string (mkS f.2))
  | [], j, f, h => by simp at h
  | g :: t, 0, f, h => by
    simp at h; subst h
    exact ⟨by simp [fcells], by simp [fcells]⟩
  | g :: t, j + 1, f, h => by
    have := fcells_get t j f (by simpa using h)
    unfold fcells at *
    rw [List.flatMap_cons, show (j + 1) * 2 = j * 2 + 2 by omega]
    constructor
    · simpa using this.1
    · simpa using this.2
theorem fcells_one (l : List (Bs × Bs)) : ∀ u ∈ fcells l, u.oneCell' = true := by
  intro u hu
  unfold fcells at hu
  rw [List.mem_flatMap] at hu
  obtain ⟨f, -, hf⟩ := hu
  simp at hf
  rcases hf with rfl | rfl <;> rfl

theorem fldInfo : (Tryz.prog.info? 31).map (fun i => (i.zero, i.size, i.bytes)) = some (some (.agg #[.string .empty, .string .empty]), 2, 32) := by kernel_rfl

theorem below_of_grownF {a b : World} {B : Nat} {v : Value} {n : Nat} {xs : List Value} {e : TypeId} (h : a.grownBy b v.ownBlock) (ho : a.ownsRow B e 2 v n xs) (hB : B ≤ a.heap.size) : Below B a b :=
  (Below.refl B a).grown h hB fun k hk => (ho.lt k hk).1

set_option maxRecDepth 100000 in
theorem joinF_run (w : World) (o : Oper) (a : Act) (K : Act → World → Prop) (Q : Exit → Act → World → Prop) (s x : Operand)
    (ho : o.op = .call { callee := .builtin .append, args := #[s, x], argTypes := #[22, 22] })
    (base : Nat) (v v2 : Value) (P R : List (Bs × Bs)) (hs : a.eval s = v) (hx : a.eval x = v2) (h1 : w.ownsRow base 31 2 v P.length (fcells P)) (h2 : IsFlds w v2 R) (hnl : ∀ n c, v2 = .slice none n c → c = 0)
    (hB : base ≤ w.heap.size) (hP : P.length ≤ 1048576) (hR : R.length ≤ 1048576)
    (h : ∀ v' w', w'.ownsRow base 31 2 v' (P ++ R).length (fcells (P ++ R)) → w.grownBy w' v.ownBlock → K (a.put o.dst v') w') : o.wp Tryz.prog a w K Q := by
  obtain ⟨i0, hi, hz0, hz1, hz2⟩ := info_parts fldInfo
  obtain ⟨ad, cap, rfl, hcap, hc⟩ := h2
  rcases ad with _ | ad
  · have hR0 : R = [] := by
      cases R with
      | nil => rfl
      | cons f t => obtain ⟨b, o, e, -⟩ := hc 0 f rfl; cases e
    subst hR0
    have hcap0 := hnl _ _ rfl
    subst hcap0
    have hrun := run_append_owned_none (P := Tryz.prog) (w := w) base 22 o.type 31 i0 2 Tryz.underlying22 hi v P.length (fcells P) h1
    unfold Oper.wp
    simp only [List.length_nil] at hx
    simp [execOp, ho, resolve, invoke, builtin, hs, hx, hrun, Result.andThen]
    exact h v w (by simpa using h1) ⟨rfl, rfl, rfl, Nat.le_refl _, fun _ _ _ => rfl⟩
  · refine wp_append_own (P := Tryz.prog) w s x 22 ho base 31 i0 (.agg #[.string .empty, .string .empty]) 2 32 Tryz.underlying22 hi hz0 hz1 hz2 rfl (by decide) v P.length (fcells P) hs h1 ad R.length cap (fcells R) hx (fcells_len R)
      (fun j u hj => ?_) (fcells_one R) (by unfold maxLen; omega) (by omega) hB ?_
    · obtain ⟨i, f, hf, hju⟩ := fcells_at R j u hj
      obtain ⟨b, o, e, g0, g1⟩ := hc i f hf
      injection e with e
      subst e
      rw [Go.WideShapes.add_plain]
      rcases hju with ⟨rfl, rfl⟩ | ⟨rfl, rfl⟩
      · exact g0
      · rw [← Nat.add_assoc]; exact g1
    · intro v' w' ho' hg' _
      refine h v' w' ?_ hg'
      rw [List.length_append, fcells_app]
      exact ho'

theorem joinF_guarded {ops : Array Oper} {rest : List Oper} {w : World} {o : Oper} {a : Act} {Q : Exit → Act → World → Prop} (hw : Region.wanted o (yielded ops a.tmps) = true) (s x : Operand)
    (ho : o.op = .call { callee := .builtin .append, args := #[s, x], argTypes := #[22, 22] })
    (base : Nat) (v v2 : Value) (P R : List (Bs × Bs)) (hs : a.eval s = v) (hx : a.eval x = v2) (h1 : w.ownsRow base 31 2 v P.length (fcells P)) (h2 : IsFlds w v2 R) (hnl : ∀ n c, v2 = .slice none n c → c = 0)
    (hB : base ≤ w.heap.size) (hP : P.length ≤ 1048576) (hR : R.length ≤ 1048576)
    (h : ∀ v' w', w'.ownsRow base 31 2 v' (P ++ R).length (fcells (P ++ R)) → w.grownBy w' v.ownBlock → wpList Tryz.prog ops Q rest (a.put o.dst v') w') : wpList Tryz.prog ops Q (o :: rest) a w :=
  BigFrame.wpList_want hw fun K hK => joinF_run w o a K Q s x ho base v v2 P R hs hx h1 h2 hnl hB hP hR fun v' w' a b => hK _ _ (h v' w' a b)

theorem isFlds_own {w : World} {base : Nat} {v : Value} {l : List (Bs × Bs)} (h : w.ownsRow base 31 2 v l.length (fcells l)) : IsFlds w v l := by
  rcases h.2 with ⟨hv, hn⟩ | ⟨g, cap, cur, hv, hb, hg, hcap, -⟩
  · exact ⟨none, 0, by rw [hv, hn], by omega, fun j t hj => by simp [List.eq_nil_of_length_eq_zero hn] at hj⟩
  · refine ⟨some ⟨g, 0, none⟩, cap, hv, hcap, fun j f hj => ⟨g, 0, rfl, ?_, ?_⟩⟩
    · have := h.cells (g := g) (by rw [hv]; rfl) (j * 2) (.string (mkS f.1)) (fcells_get l j f hj).1
      rw [Go.WideShapes.add_plain] at this
      exact this
    · have := h.cells (g := g) (by rw [hv]; rfl) (j * 2 + 1) (.string (mkS f.2)) (fcells_get l j f hj).2
      rw [Go.WideShapes.add_plain, ← Nat.add_assoc] at this
      exact this

set_option maxHeartbeats 2000000 in
set_option maxRecDepth 100000 in
theorem own_any (v : Value) (l : List (Bs × Bs)) (w : World) (hs : IsFlds w v l) (hnl : ∀ n c, v = .slice none n c → c = 0) (hl : l.length ≤ 1048576) :
    Calls Tryz.prog 12 #[v] w fun e w' => ∃ v', e = .returned v' ∧ w'.ownsRow w.heap.size 31 2 v' l.length (fcells l) ∧ Below w.heap.size w w' := by
  have HS := Lib.hid hs
  have HNL := Lib.hid hnl
  obtain ⟨a, cap, rfl⟩ : ∃ a cap, v = .slice a l.length cap := by obtain ⟨a, c, h, -⟩ := hs; exact ⟨a, c, h⟩
  clear hs hnl
  go_enter Tryz.func12, Tryz.ntmps12
  have ho := World.ownsRow_lit (base := w.heap.size) (e := 31) (size := 2) w #[] 0 (Nat.le_refl _) (by decide) rfl
  have hb0 : Below w.heap.size w (w.alloc (Obj.cells #[] 31)) := (Below.refl _ _).alloc (Nat.le_refl _) _
  have HF := Lib.hid (isFlds_below HS.out hb0)
  have HB0 := Lib.hid hb0
  have HO := Lib.hid ho
  clear ho hb0
  go_wp2_with (at_builtin; refine joinF_guarded (by rfl) _ _ rfl w.heap.size _ _ [] l rfl rfl HO.out HF.out HNL.out ?c1 ?c2 ?c3 ?_)
  intro v' w' ho' hg'
  have HB1 := Lib.hid (HB0.out.trans (below_of_grownF hg' HO.out (by simp)))
  have HO1 := Lib.hid ho'
  clear ho' hg'
  go_wp2_with fail
  go_ret
  exact ⟨v', rfl, HO1.out, HB1.out⟩
end Tk
end Go.Proofs.YthooghgiokgdhaaGreatDoor
namespace Go.Proofs.YthooghgiokgdhaaGreatDoor
open Go.RowKit
namespace Tk

theorem fcells_put : ∀ (a : List (Bs × Bs)) (f : Bs × Bs) (b : List (Bs × Bs)) (n x : Bs), ((fcells (a ++ f :: b)).set (a.length * 2) (.string (mkS n))).set (a.length * 2 + 1) (.string (mkS x)) = fcells (a ++ (n, x) :: b)
  | [], f, b, n, x => by simp [fcells]
  | g :: a, f, b, n, x => by
    have := fcells_put a f b n x
    unfold fcells at *
    rw [List.cons_append, List.cons_append, List.flatMap_cons, List.flatMap_cons, List.length_cons, show (a.length + 1) * 2 = a.length * 2 + 2 by omega]
    simpa using this
theorem fcells_mid (a : List (Bs × Bs)) (f : Bs × Bs) (b : List (Bs × Bs)) : (fcells (a ++ f :: b))[a.length * 2]? = some (.string (mkS f.1)) ∧ (fcells (a ++ f :: b))[a.length * 2 + 1]? = some (.string (mkS f.2)) :=
  fcells_get _ _ _ (by simp)
theorem made_fcells (n : Nat) : (madeCells #[Value.string .empty, Value.string .empty] (n * 2)).toList = fcells (List.replicate n ([], [])) := by
  apply List.ext_getElem?
  intro j
  by_cases hj : j < n * 2
  · have hl : (madeCells #[Value.string .empty, Value.string .empty] (n * 2)).toList[j]? = some (.string (mkS [])) := by
      rcases Nat.mod_two_eq_zero_or_one j with h | h <;> simp [madeCells, hj, h] <;> rfl
    rw [hl]
    rcases Nat.mod_two_eq_zero_or_one j with h | h
    · obtain ⟨t, rfl⟩ : ∃ t, j = t * 2 := ⟨j / 2, by omega⟩
      exact (fcells_get (List.replicate n ([], [])) t ([], []) (by rw [List.getElem?_replicate, if_pos (by omega)])).1.symm
    · obtain ⟨t, rfl⟩ : ∃ t, j = t * 2 + 1 := ⟨j / 2, by omega⟩
      exact (fcells_get (List.replicate n ([], [])) t ([], []) (by rw [List.getElem?_replicate, if_pos (by omega)])).2.symm
  · rw [List.getElem?_eq_none (by simp [madeCells]; omega), List.getElem?_eq_none (by rw [fcells_len]; simp; omega)]

theorem own_keep2f {w w' : World} {B : Nat} {v : Value} {n : Nat} {xs : List Value} {e : TypeId} (h : w.ownsRow B e 2 v n xs) (hb : Below w.heap.size w w') : w'.ownsRow B e 2 v n xs :=
  World.ownsRow.kept h (row := none) ⟨hb.os, hb.tape, hb.output, hb.size, fun k hk _ => hb.block k hk⟩ (by cases h : v.ownBlock <;> simp)
theorem own_put2 {w : World} {B g cap n : Nat} {a b : List (Bs × Bs)} {f : Bs × Bs} (h : w.ownsRow B 31 2 (.slice (some ⟨g, 0, none⟩) n cap) n (fcells (a ++ f :: b))) (s x : Bs) :
    ((w.setCell ⟨g, a.length * 2, none⟩ (.string (mkS s))).setCell ⟨g, a.length * 2 + 1, none⟩ (.string (mkS x))).ownsRow B 31 2 (.slice (some ⟨g, 0, none⟩) n cap) n (fcells (a ++ (s, x) :: b)) := by
  have h1 := (h.stored (a.length * 2) (.string (mkS s))).1
  have h2 := (h1.stored (a.length * 2 + 1) (.string (mkS x))).1
  rw [fcells_put] at h2
  exact h2

def OwnPost (l : List (Bs × Bs)) (w : World) (e : Ending) (w' : World) : Prop :=
  ∃ v', e = .returned v' ∧ w'.ownsRow w.heap.size 31 2 v' l.length (fcells l) ∧ Below w.heap.size w w'

set_option maxHeartbeats 8000000 in
set_option maxRecDepth 100000 in
theorem copied_any (v : Value) (l : List (Bs × Bs)) (w : World) (hs : IsFlds w v l) (hz : ∀ f ∈ l, f.1.length ≤ 1099511627776 ∧ f.2.length ≤ 1099511627776) (hl : l.length ≤ 1048576) :
    Calls Tryz.prog 174 #[v] w (OwnPost l w) := by
  obtain ⟨i0, hi0, hz0, hz1, hz2⟩ := info_parts fldInfo
  have HS := Lib.hid hs
  have HZ := Lib.hid hz
  obtain ⟨a, cap, rfl⟩ : ∃ a cap, v = .slice a l.length cap := by obtain ⟨a, c, h, -⟩ := hs; exact ⟨a, c, h⟩
  clear hs hz
  go_enter Tryz.func174, Tryz.ntmps174
  go_wp2_with (refine wpList_make_full w rfl _ _ 22 rfl w.heap.size 31 i0 (.agg #[.string .empty, .string .empty]) 2 Tryz.underlying22 hi0 hz0 hz1 .i64 .i64 _ _ l.length rfl rfl rfl rfl ?c1 ?c2 (Nat.le_refl _) ?_)
  case c1 => rw [hz2]; omega
  case c2 => unfold maxLen; omega
  intro w1 ho hg
  rw [made_fcells] at ho
  have HO0 := Lib.hid ho
  have HB0 := Lib.hid (show Below w.heap.size w w1 from ⟨hg.os, hg.tape, hg.output, hg.size, fun k hk => hg.block k hk (by simp)⟩)
  clear ho hg
  go_wp2_with fail
  go_loopw [11] (fun vi wr => ∃ i : Nat, i ≤ l.length ∧ vi = .int .i64 i ∧ Hid (wr.ownsRow w.heap.size 31 2 (.slice (some ⟨w.heap.size, 0, none⟩) l.length l.length) l.length (fcells (l.take i ++ List.replicate (l.length - i) ([], [])))) ∧ Hid (Below w.heap.size w wr)) (fun vi _ => l.length - (RowKit.intOf vi).toNat)
  case atStart => exact ⟨0, Nat.zero_le _, rfl, HO0, HB0⟩
  case round =>
    obtain ⟨i, hi, rfl, HO, HB⟩ := hrel
    rename World => W
    by_cases hlt : i < l.length
    · obtain ⟨a', c', e', hcap, hc⟩ := isFlds_below HS.out HB.out
      injection e' with e1 _ e2
      subst e1 e2
      obtain ⟨b, o, rfl, hc0, hc1⟩ := hc i (l.getD i ([], [])) (by simp [List.getD, hlt])
      have hm := HZ.out (l.getD i ([], [])) (by simp [List.getD, hlt])
      have htk : l.take (i + 1) = l.take i ++ [l.getD i ([], [])] := by
        rw [List.take_succ_eq_append_getElem hlt]; simp [List.getD, hlt]
      have hlen : (l.take i).length = i := by simp; omega
      have hrep : List.replicate (l.length - i) (([], []) : Bs × Bs) = ([], []) :: List.replicate (l.length - (i + 1)) ([], []) := by
        rw [show l.length - i = (l.length - (i + 1)) + 1 by omega]; rfl
      rw [hrep] at HO
      have HTK := Lib.hid htk
      have HLen := Lib.hid hlen
      clear hc htk hlen hrep
      generalize l.getD i ([], []) = f at *
      obtain ⟨n, x⟩ := f
      simp only at hm hc0 hc1
      have HC := Lib.hid (fun W : World => fown_any n x W hm.1 hm.2)
      have HF0 := Lib.hid (Two.new W 31 (.string (mkS n)) (.string (mkS x)))
      have hb0 : Below W.heap.size W (W.alloc (Obj.cells #[.string (mkS n), .string (mkS x)] 31)) := (Below.refl _ _).alloc (Nat.le_refl _) _
      have HO1 := Lib.hid (own_keep2f HO.out hb0)
      have HB1 := Lib.hid (HB.out.trans (hb0.mono HB.out.size))
      have hq0 := HF0.out.c0
      have hq1 := HF0.out.c1
      have g0 : (0 : Int) ≤ (i : Int) := by omega
      have g1 : (i : Int) < (l.length : Int) := by omega
      have hbsz := HB.out.size
      have hs0 : w.heap.size ≤ (W.alloc (Obj.cells #[.string (mkS n), .string (mkS x)] 31)).heap.size := by simp; omega
      clear hb0 hbsz
      go_wp2_with fail
      generalize W.alloc (Obj.cells #[.string (mkS n), .string (mkS x)] 31) = W4 at *
      generalize W.heap.size = g at *
      refine (HC.out _).mono ?_
      rintro e w5 ⟨rfl, hb⟩
      have ho5 := own_keep2f HO1.out hb
      have HB5 := Lib.hid (HB1.out.trans (hb.mono hs0))
      have k0 := ho5.cellAt (i * 2) (by omega)
      have k1 := ho5.cellAt (i * 2 + 1) (by omega)
      have hmid := fcells_mid (l.take i) ([], []) (List.replicate (l.length - (i + 1)) ([], []))
      rw [HLen.out] at hmid
      rw [hmid.1] at k0
      rw [hmid.2] at k1
      have f0 := ho5.frozenAt (i * 2)
      have f1 := ho5.frozenAt (i * 2 + 1)
      have HO5 := Lib.hid ho5
      have k2 : (w5.setCell ⟨w.heap.size, i * 2, none⟩ (.string (mkS n))).cell? ⟨w.heap.size, i * 2 + 1, none⟩ = some (.string (mkS [])) := by
        rw [World.cell?_setCell_other (w := w5) (a := ⟨w.heap.size, i * 2, none⟩) (b := ⟨w.heap.size, i * 2 + 1, none⟩) (h := by intro e; injection e with _ e2; omega)]; exact k1
      clear hb ho5 hmid
      go_wp2_with fail
      have hst := own_put2 (a := l.take i) HO5.out n x
      rw [HLen.out] at hst
      refine ⟨⟨i + 1, hlt, by go_num, ?_, ?_⟩, by simp [RowKit.intOf]; omega⟩
      · show World.ownsRow _ _ _ _ _ _ _
        rw [HTK.out, List.append_assoc]
        exact hst
      · exact (HB5.out.setCell (p := ⟨w.heap.size, i * 2, none⟩) (Nat.le_refl _) _).setCell (p := ⟨w.heap.size, i * 2 + 1, none⟩) (Nat.le_refl _) _
    · obtain rfl : i = l.length := by omega
      have hfin := HO.out
      rw [Nat.sub_self, List.take_length, List.replicate_zero, List.append_nil] at hfin
      have HF := Lib.hid hfin
      clear hfin
      go_wp2_with fail
      go_ret
      exact ⟨_, rfl, HF.out, HB.out⟩
end Tk
end Go.Proofs.YthooghgiokgdhaaGreatDoor
namespace Go.Proofs.YthooghgiokgdhaaGreatDoor
open Go.RowKit
namespace Tk

theorem isFlds_nil_cap {w : World} {v : Value} {B n : Nat} {xs : List Value} {e : TypeId} (h : w.ownsRow B e 2 v n xs) : ∀ m c, v = .slice none m c → c = 0 := by
  rintro m c rfl
  rcases h.2 with ⟨hv, -⟩ | ⟨g, cap, cur, hv, _⟩
  · injection hv
  · injection hv with e1; cases e1

set_option maxHeartbeats 2000000 in
set_option maxRecDepth 100000 in
theorem sclone_any (v : Value) (l : List (Bs × Bs)) (w : World) (hs : IsFlds w v l) (hnl : ∀ n c, v = .slice none n c → c = 0) (hl : l.length ≤ 1048576) :
    Calls Tryz.prog 176 #[v] w (OwnPost l w) := by
  have HS := Lib.hid hs
  have HNL := Lib.hid hnl
  obtain ⟨a, cap, rfl⟩ : ∃ a cap, v = .slice a l.length cap := by obtain ⟨a, c, h, -⟩ := hs; exact ⟨a, c, h⟩
  rcases a with _ | ad
  · have hl0 : l = [] := by
      obtain ⟨a', c', e, -, hc⟩ := hs
      injection e with e1 _ _
      subst e1
      cases l with
      | nil => rfl
      | cons f t => obtain ⟨b, o, e, -⟩ := hc 0 f rfl; cases e
    subst hl0
    have hq : ∀ W : World, (binOp .eql 22 (.slice none 0 cap) (.slice none 0 0)).run Tryz.prog W = .ok (.bool true) W := fun W => Lib.run_eql_slice_nil W _ _ _ _ _ _ _ Tryz.underlying22
    clear hs hnl
    go_enter Tryz.func176, Tryz.ntmps176
    go_wp2_with fail
    go_ret
    exact ⟨_, rfl, World.ownsRow_nil _ _ _ _, Below.refl _ _⟩
  · have hq : ∀ W : World, (binOp .eql 22 (.slice (some ad) l.length cap) (.slice none 0 0)).run Tryz.prog W = .ok (.bool false) W := fun W => Lib.run_eql_slice_nil W _ _ _ _ _ _ _ Tryz.underlying22
    clear hs hnl
    go_enter Tryz.func176, Tryz.ntmps176
    have ho := World.ownsRow_lit (base := w.heap.size) (e := 31) (size := 2) w #[] 0 (Nat.le_refl _) (by decide) rfl
    have hb0 : Below w.heap.size w (w.alloc (Obj.cells #[] 31)) := (Below.refl _ _).alloc (Nat.le_refl _) _
    have HF := Lib.hid (isFlds_below HS.out hb0)
    have HB0 := Lib.hid hb0
    have HO := Lib.hid ho
    clear ho hb0
    go_wp2_with (at_builtin; refine joinF_guarded (by rfl) _ _ rfl w.heap.size _ _ [] l rfl rfl HO.out HF.out HNL.out ?c1 ?c2 ?c3 ?_)
    intro v' w' ho' hg'
    have HB1 := Lib.hid (HB0.out.trans (below_of_grownF hg' HO.out (by simp)))
    have HO1 := Lib.hid ho'
    clear ho' hg'
    go_wp2_with fail
    go_ret
    exact ⟨v', rfl, HO1.out, HB1.out⟩

/-- the cells that clear writes into n fields -/
def zeros2 (n : Nat) : List Value := (Builtin.zeroCells #[.string .empty, .string .empty] n).toList
theorem zeros2_len (n : Nat) : (zeros2 n).length = n * 2 := by simp [zeros2, Builtin.zeroCells]
theorem zeros2_one (n : Nat) : ∀ u ∈ zeros2 n, u.oneCell' = true := by
  intro u hu
  simp [zeros2, Builtin.zeroCells] at hu
  obtain ⟨j, -, rfl⟩ := hu
  rcases Nat.mod_two_eq_zero_or_one j with h | h <;> simp [h] <;> rfl
theorem run_clear2 (w : World) (ty : TypeId) (b o n c : Nat) (hn : 0 < n) (hc : ∀ j, j < n * 2 → (w.cell? ⟨b, o + j, none⟩).isSome = true) (hf : ∀ j, j < n * 2 → w.frozen? ⟨b, o + j, none⟩ = false) :
    (Builtin.clear_ #[22] ty #[.slice (some ⟨b, o, none⟩) n c]).run Tryz.prog w = .ok (.tuple #[]) (w.setCells b o (zeros2 n)) := by
  have hst := run_storeCells_cells (P := Tryz.prog) b o (zeros2 n) 0 w (by rw [zeros2_len]; simpa using hc) (by rw [zeros2_len]; simpa using hf) (zeros2_one n)
  simp only [Nat.add_zero] at hst
  obtain ⟨m, rfl⟩ : ∃ m, n = m + 1 := ⟨n - 1, by omega⟩
  have hst2 : (storeCells ⟨b, o, none⟩ (Builtin.zeroCells (Value.agg #[Value.string ⟨#[]⟩, Value.string ⟨#[]⟩]).cells (m + 1)).toList).run Tryz.prog w = .ok () (w.setCells b o (zeros2 (m + 1))) := hst
  simp [Builtin.clear_, run_underlying Tryz.underlying22]
  rw [hst2]
  rfl
theorem below_setC {B b : Nat} {a : World} (hb : B ≤ b) : ∀ (vs : List Value) (o : Nat) (w : World), Below B a w → Below B a (w.setCells b o vs)
  | [], _, _, h => h
  | v :: vs, o, _, h => below_setC hb vs (o + 1) _ (h.setCell (p := ⟨b, o, none⟩) hb v)
end Tk
end Go.Proofs.YthooghgiokgdhaaGreatDoor
