/- chunk.Size: what a size line without its line end names. -/
import Derived.Test.YtanilbckakoogaaGreatDoorChkT
import Derived.Test.YtanilbckakoogaaGreatDoorFldL
namespace Go.Proofs.YtanilbckakoogaaGreatDoor
open Go.RowKit
namespace Tk

set_option maxHeartbeats 1000000 in
set_option maxRecDepth 100000 in
theorem spu16_ok (t : ByteArray) (n B : Nat) (w : World) (hz : t.size ≤ 16) (hB : B ≤ w.heap.size) (hn : hexN (bs t) = some n) :
    Calls Tryz.prog 23 #[.string t, .int .i64 16, .int .i64 64] w fun e w' => e = .returned (.tuple #[.int .u64 n, .nilIface]) ∧ Below B w w' := by
  have h1 := pu16_any t w hz
  have hp : pu16 (bs t) = .tuple #[.int .u64 n, .nilIface] := by unfold pu16; rw [hn]
  rw [hp] at h1
  have H := Lib.hid h1
  clear h1 hp hn
  go_enter Tryz.func23, Tryz.ntmps23
  go_wp2_with fail
  refine H.out.mono ?_
  rintro e w' ⟨rfl, hb⟩
  have HB := Lib.hid (hb.mono hB)
  clear hb
  go_wp2_with fail
  go_ret2
  exact ⟨rfl, HB.out⟩
set_option maxHeartbeats 1000000 in
set_option maxRecDepth 100000 in
theorem spu16_no (t : ByteArray) (B : Nat) (w : World) (hz : t.size ≤ 16) (hv : ErrV B w) (hn : hexN (bs t) = none) :
    Calls Tryz.prog 23 #[.string t, .int .i64 16, .int .i64 64] w fun e w' => ∃ N, e = .returned (.tuple #[.int .u64 0, .iface 83 (.pointer (some ⟨N, 0, none⟩))]) ∧ Below B w w' := by
  have h1 := pu16_any t w hz
  have hp : pu16 (bs t) = .tuple #[.int .u64 0, .iface 81 (.int .i64 2)] := by unfold pu16; rw [hn]
  rw [hp] at h1
  have H := Lib.hid h1
  have HT := Lib.hid (fun (W : World) (h : ErrV B W) => toError_any ⟨#[80, 97, 114, 115, 101, 85, 105, 110, 116]⟩ t 16 64 B W (by omega) h)
  have HV := Lib.hid hv
  clear h1 hp hn hv
  go_enter Tryz.func23, Tryz.ntmps23
  go_wp2_with fail
  refine H.out.mono ?_
  rintro e w' ⟨rfl, hb⟩
  have HB := Lib.hid (hb.mono HV.out.2.1)
  have HV2 := Lib.hid (HV.out.later HB.out)
  clear hb
  go_wp2_with fail
  refine (HT.out _ HV2.out).mono ?_
  rintro e w2 ⟨N, rfl, hb⟩
  have HB2 := Lib.hid (HB.out.trans hb)
  clear hb
  go_wp2_with fail
  go_ret2
  exact ⟨N, rfl, HB2.out⟩

def SizePost (l : Bs) (B : Nat) (w : World) (e : Ending) (w' : World) : Prop := e = .returned (.tuple #[.int .i64 (sizeL l).1, .int .i64 (sizeL l).2]) ∧ Below B w w'

set_option maxHeartbeats 2000000 in
set_option maxRecDepth 100000 in
theorem size_any (s : ByteArray) (B : Nat) (w : World) (hs : s.size ≤ 1099511627776) (hv : ErrV B w) :
    Calls Tryz.prog 8 #[.string s] w (SizePost (bs s) B w) := by
  have HC := Lib.hid (cut_any s 59 w hs)
  unfold CutPost at HC
  have l1 := cut_len1 59 (bs s)
  have l2 := cut_len2 59 (bs s)
  rw [length_bs] at l1 l2
  have hS : sizeL (bs s) = if 16 < (cutL 59 (bs s)).1.length then (0, 400) else if allL 1 (cutL 59 (bs s)).2.1 then match hexN (cutL 59 (bs s)).1 with
    | none => (0, 400)
    | some n => if 9007199254740991 < n then (0, 413) else (n, 0) else (0, 400) := rfl
  have HV := Lib.hid hv
  generalize (cutL 59 (bs s)).1 = X at *
  generalize (cutL 59 (bs s)).2.1 = Y at *
  generalize (cutL 59 (bs s)).2.2 = Z at *
  have hzx := size_mkS X
  have hzy := size_mkS Y
  have HCh := Lib.hid (fun W : World => cchars_any (mkS Y) W (by omega))
  rw [bs_mkS] at HCh
  have HX := Lib.hid (bs_mkS X)
  clear hv
  by_cases h16 : 16 < X.length
  · rw [if_pos h16] at hS
    have HS := Lib.hid hS
    have i16 : (16 : Int) < ((mkS X).size : Int) := by omega
    clear hS h16 HCh
    go_enter Tryz.func8, Tryz.ntmps8
    go_wp2_with fail
    refine HC.out.mono ?_
    rintro e w' ⟨rfl, k, rfl⟩
    go_wp2_with fail
    go_ret2
    exact ⟨by rw [HS.out]; rfl, below_drawsB _ _ _⟩
  · rw [if_neg h16] at hS
    have i16 : ¬ (16 : Int) < ((mkS X).size : Int) := by omega
    have z16 : (mkS X).size ≤ 16 := by omega
    cases hc : allL 1 Y
    · rw [hc] at hS HCh
      have HS := Lib.hid (show sizeL (bs s) = (0, 400) from hS)
      clear hS h16 hc
      go_enter Tryz.func8, Tryz.ntmps8
      go_wp2_with fail
      refine HC.out.mono ?_
      rintro e w' ⟨rfl, k, rfl⟩
      go_wp2_with fail
      refine (HCh.out _).mono ?_
      rintro e w' ⟨rfl, hb⟩
      have HB := Lib.hid ((below_drawsB B w k).trans (hb.mono HV.out.2.1))
      clear hb
      go_wp2_with fail
      go_ret2
      exact ⟨by rw [HS.out]; rfl, HB.out⟩
    · rw [hc] at hS HCh
      cases hx : hexN X with
      | none =>
        rw [hx] at hS
        have HS := Lib.hid (show sizeL (bs s) = (0, 400) from hS)
        have HP := Lib.hid (fun (W : World) (h : ErrV B W) => spu16_no (mkS X) B W z16 h (by rw [bs_mkS]; exact hx))
        clear hS h16 hc hx z16
        go_enter Tryz.func8, Tryz.ntmps8
        go_wp2_with fail
        refine HC.out.mono ?_
        rintro e w' ⟨rfl, k, rfl⟩
        go_wp2_with fail
        refine (HCh.out _).mono ?_
        rintro e w' ⟨rfl, hb⟩
        have HB := Lib.hid ((below_drawsB B w k).trans (hb.mono HV.out.2.1))
        have HV2 := Lib.hid (HV.out.later HB.out)
        clear hb
        go_wp2_with fail
        refine (HP.out _ HV2.out).mono ?_
        rintro e w2 ⟨N, rfl, hb⟩
        have HB2 := Lib.hid (HB.out.trans hb)
        clear hb
        go_wp2_with fail
        go_ret2
        exact ⟨by rw [HS.out]; rfl, HB2.out⟩
      | some n =>
        rw [hx] at hS
        have HP := Lib.hid (fun (W : World) (h : ErrV B W) => spu16_ok (mkS X) n B W z16 h.2.1 (by rw [bs_mkS]; exact hx))
        have hS2 : sizeL (bs s) = if 9007199254740991 < n then (0, 413) else (n, 0) := hS
        by_cases hm : 9007199254740991 < n
        · rw [if_pos hm] at hS2
          have HS := Lib.hid hS2
          have im : (9007199254740991 : Int) < (n : Int) := by omega
          clear hS hS2 h16 hc hx z16 hm
          go_enter Tryz.func8, Tryz.ntmps8
          go_wp2_with fail
          refine HC.out.mono ?_
          rintro e w' ⟨rfl, k, rfl⟩
          go_wp2_with fail
          refine (HCh.out _).mono ?_
          rintro e w' ⟨rfl, hb⟩
          have HB := Lib.hid ((below_drawsB B w k).trans (hb.mono HV.out.2.1))
          have HV2 := Lib.hid (HV.out.later HB.out)
          clear hb
          go_wp2_with fail
          refine (HP.out _ HV2.out).mono ?_
          rintro e w2 ⟨rfl, hb⟩
          have HB2 := Lib.hid (HB.out.trans hb)
          clear hb
          go_wp2_with fail
          go_ret2
          exact ⟨by rw [HS.out]; rfl, HB2.out⟩
        · rw [if_neg hm] at hS2
          have HS := Lib.hid hS2
          have im : ¬ (9007199254740991 : Int) < (n : Int) := by omega
          have im2 : (n : Int) ≤ 9007199254740991 := by omega
          have im3 : (0 : Int) ≤ (n : Int) := by omega
          clear hS hS2 h16 hc hx z16 hm
          go_enter Tryz.func8, Tryz.ntmps8
          go_wp2_with fail
          refine HC.out.mono ?_
          rintro e w' ⟨rfl, k, rfl⟩
          go_wp2_with fail
          refine (HCh.out _).mono ?_
          rintro e w' ⟨rfl, hb⟩
          have HB := Lib.hid ((below_drawsB B w k).trans (hb.mono HV.out.2.1))
          have HV2 := Lib.hid (HV.out.later HB.out)
          clear hb
          go_wp2_with fail
          refine (HP.out _ HV2.out).mono ?_
          rintro e w2 ⟨rfl, hb⟩
          have HB2 := Lib.hid (HB.out.trans hb)
          clear hb
          go_wp2_with fail
          go_ret2
          exact ⟨by rw [HS.out]; rfl, HB2.out⟩
end Tk
end Go.Proofs.YtanilbckakoogaaGreatDoor
