/- The document's own Via and Hop (layer 7). -/
import Derived.Test.YtdlbmfgajgefdaaGreatDoorQH
namespace Go.Proofs.YtdlbmfgajgefdaaGreatDoor
open Go.RowKit
namespace Tk

theorem rv_no (minor : Int) (name : Bs) : mkS [] ++ ⟨#[49, 46]⟩ ++ mkS (digI minor) ++ ⟨#[32]⟩ ++ mkS name = mkS (viaS minor name) := by
  rw [show (⟨#[49, 46]⟩ : ByteArray) = mkS [49, 46] from rfl, show (⟨#[32]⟩ : ByteArray) = mkS [32] from rfl, mkS_append, mkS_append, mkS_append, mkS_append]; rfl
theorem rv_yes (j : Bs) (minor : Int) (name : Bs) : mkS j ++ ⟨#[44, 32]⟩ ++ ⟨#[49, 46]⟩ ++ mkS (digI minor) ++ ⟨#[32]⟩ ++ mkS name = mkS (j ++ [44, 32] ++ viaS minor name) := by
  rw [show (⟨#[49, 46]⟩ : ByteArray) = mkS [49, 46] from rfl, show (⟨#[32]⟩ : ByteArray) = mkS [32] from rfl, show (⟨#[44, 32]⟩ : ByteArray) = mkS [44, 32] from rfl, mkS_append, mkS_append, mkS_append, mkS_append, mkS_append]
  congr 1
  unfold viaS
  simp

set_option maxHeartbeats 8000000 in
set_option maxRecDepth 100000 in
theorem rvia_any (v : Value) (l : List (Bs × Bs)) (minor : Int) (name : Bs) (w : World) (hs : IsFlds w v l) (hz : sumF l ≤ 100000) (hl : l.length ≤ 1048575) (hn : name.length ≤ 1000000) (h0 : -9223372036854775808 ≤ minor) (h1 : minor ≤ 9223372036854775807) :
    Calls Tryz.prog 18 #[v, .int .i64 minor, .string (mkS name)] w (OwnPost (viaL l minor name) w) := by
  have hd := digI_len minor h0 h1
  have HDg := Lib.hid (fun W : World => rdig_any minor W h0 h1)
  have hsz1 : (mkS (digI minor)).size ≤ 100 := by rw [size_mkS]; exact hd
  have hsz2 : (mkS name).size ≤ 1000000 := by rw [size_mkS]; exact hn
  have hjl := joinB_le viB l
  have hsz3 : (mkS (joinB (allF l viB))).size ≤ 1000000 := by rw [size_mkS]; omega
  have HG : Hid (Calls Tryz.prog 64 #[v, .string ⟨#[86, 105, 97]⟩] w fun e w' => e = .returned (.tuple #[.string (mkS (joinB (allF l viB))), .bool (decide (0 < (allF l viB).length))]) ∧ Below w.heap.size w w') :=
    rget_any v l viB w hs (by omega) (by decide) (by omega)
  have hvs : (viaS minor name).length ≤ 1000103 := by unfold viaS; simp; omega
  have hST : ∀ (W : World) (x : Bs), Below w.heap.size w W → Calls Tryz.prog 65 #[v, .string ⟨#[86, 105, 97]⟩, .string (mkS x)] W (OwnPost (setF viB x l) W) :=
    fun W x hb => rset_any v l viB x W (isFlds_below hs hb) (sum_each l (by omega)) (by decide) (by omega)
  obtain ⟨a, cap, rfl⟩ : ∃ a cap, v = .slice a l.length cap := by obtain ⟨a, c, h, -⟩ := hs; exact ⟨a, c, h⟩
  clear h0 h1
  by_cases hp : 0 < (allF l viB).length
  · skip
    have hv : viaL l minor name = setF viB (joinB (allF l viB) ++ [44, 32] ++ viaS minor name) l := by unfold viaL viaV; rw [if_pos hp]
    have HST : Hid (∀ W : World, Below w.heap.size w W → Calls Tryz.prog 65 #[.slice a l.length cap, .string ⟨#[86, 105, 97]⟩, .string (mkS (joinB (allF l viB)) ++ ⟨#[44, 32]⟩ ++ ⟨#[49, 46]⟩ ++ mkS (digI minor) ++ ⟨#[32]⟩ ++ mkS name)] W (OwnPost (viaL l minor name) W)) := by
      intro W hb
      skip
      rw [rv_yes, hv]
      exact hST W _ hb
    rw [decide_eq_true hp] at HG
    unfold OwnPost at HST ⊢
    clear hs hz hl hn hd hjl hvs hST hv hp
    generalize mkS (joinB (allF l viB)) = J at *
    generalize mkS (digI minor) = DD at *
    generalize mkS name = N at *
    go_enter Tryz.func18, Tryz.ntmps18
    go_wp2_with fail
    refine HG.out.mono ?_
    rintro e w1 ⟨rfl, hb⟩
    have HB1 := Lib.hid hb
    have HS1 := Lib.hid (HST.out w1 hb)
    have HD1 := Lib.hid (HDg.out w1)
    clear hb HST HG
    go_wp2_with fail
    refine HD1.out.mono ?_
    rintro e w2 ⟨rfl, rfl⟩
    go_wp2_with fail
    refine HS1.out.mono ?_
    rintro e w3 ⟨v3, rfl, ho, hb⟩
    have HO3 := Lib.hid (own_base ho HB1.out.size)
    have HB3 := Lib.hid (HB1.out.trans (hb.mono HB1.out.size))
    clear ho hb
    go_wp2_with fail
    go_ret
    exact ⟨v3, rfl, HO3.out, HB3.out⟩
  · have hj0 : joinB (allF l viB) = [] := by rw [List.eq_nil_of_length_eq_zero (show (allF l viB).length = 0 by omega)]; rfl
    have hv : viaL l minor name = setF viB (viaS minor name) l := by unfold viaL viaV; rw [if_neg hp]
    have HST : Hid (∀ W : World, Below w.heap.size w W → Calls Tryz.prog 65 #[.slice a l.length cap, .string ⟨#[86, 105, 97]⟩, .string (mkS (joinB (allF l viB)) ++ ⟨#[49, 46]⟩ ++ mkS (digI minor) ++ ⟨#[32]⟩ ++ mkS name)] W (OwnPost (viaL l minor name) W)) := by
      intro W hb
      rw [hj0]
      rw [rv_no, hv]
      exact hST W _ hb
    rw [decide_eq_false hp] at HG
    unfold OwnPost at HST ⊢
    clear hs hz hl hn hd hjl hvs hST hv hp hj0
    generalize mkS (joinB (allF l viB)) = J at *
    generalize mkS (digI minor) = DD at *
    generalize mkS name = N at *
    go_enter Tryz.func18, Tryz.ntmps18
    go_wp2_with fail
    refine HG.out.mono ?_
    rintro e w1 ⟨rfl, hb⟩
    have HB1 := Lib.hid hb
    have HS1 := Lib.hid (HST.out w1 hb)
    have HD1 := Lib.hid (HDg.out w1)
    clear hb HST HG
    go_wp2_with fail
    refine HD1.out.mono ?_
    rintro e w2 ⟨rfl, rfl⟩
    go_wp2_with fail
    refine HS1.out.mono ?_
    rintro e w3 ⟨v3, rfl, ho, hb⟩
    have HO3 := Lib.hid (own_base ho HB1.out.size)
    have HB3 := Lib.hid (HB1.out.trans (hb.mono HB1.out.size))
    clear ho hb
    go_wp2_with fail
    go_ret
    exact ⟨v3, rfl, HO3.out, HB3.out⟩

theorem beq_lit (x l : Bs) : ((mkS x).toList == l) = decide (x = l) := by
  rw [toList_bs, bs_mkS, Bool.eq_iff_iff]; simp
theorem hop_is : hopL = [[99, 111, 110, 110, 101, 99, 116, 105, 111, 110], [107, 101, 101, 112, 45, 97, 108, 105, 118, 101], [112, 114, 111, 120, 121, 45, 99, 111, 110, 110, 101, 99, 116, 105, 111, 110], [116, 101], [116, 114, 97, 105, 108, 101, 114], [116, 114, 97, 110, 115, 102, 101, 114, 45, 101, 110, 99, 111, 100, 105, 110, 103], [117, 112, 103, 114, 97, 100, 101]] := by decide

set_option maxHeartbeats 8000000 in
set_option maxRecDepth 100000 in
theorem rhop_any (name : Bs) (w : World) (hn : name.length ≤ 1099511627776) :
    Calls Tryz.prog 14 #[.string (mkS name)] w fun e w' => e = .returned (.bool (isHop name)) ∧ Below w.heap.size w w' := by
  have HL := Lib.hid (refLower_any (mkS name) w (by rw [size_mkS]; omega))
  rw [bs_mkS] at HL
  unfold StrPost at HL
  have hh : isHop name = decide (lowL name ∈ hopL) := rfl
  rw [hh, hop_is]
  clear hh hn
  generalize lowL name = x at *
  by_cases e0 : x = [99, 111, 110, 110, 101, 99, 116, 105, 111, 110]
  · skip
    have hf : decide (x ∈ [[99, 111, 110, 110, 101, 99, 116, 105, 111, 110], [107, 101, 101, 112, 45, 97, 108, 105, 118, 101], [112, 114, 111, 120, 121, 45, 99, 111, 110, 110, 101, 99, 116, 105, 111, 110], [116, 101], [116, 114, 97, 105, 108, 101, 114], [116, 114, 97, 110, 115, 102, 101, 114, 45, 101, 110, 99, 111, 100, 105, 110, 103], [117, 112, 103, 114, 97, 100, 101]]) = true := by rw [e0]; decide
    have HF := Lib.hid hf
    have m0 : ((mkS x).toList == [99, 111, 110, 110, 101, 99, 116, 105, 111, 110]) = true := by rw [beq_lit]; exact decide_eq_true e0
    clear hf e0
    generalize mkS x = X at *
    go_enter Tryz.func14, Tryz.ntmps14
    go_wp2_with fail
    refine HL.out.mono ?_
    rintro e w1 ⟨rfl, hb⟩
    have HB := Lib.hid hb
    clear hb
    go_wp2_with fail
    go_ret
    exact ⟨by rw [HF.out]; rfl, HB.out⟩
  by_cases e1 : x = [107, 101, 101, 112, 45, 97, 108, 105, 118, 101]
  · skip
    have hf : decide (x ∈ [[99, 111, 110, 110, 101, 99, 116, 105, 111, 110], [107, 101, 101, 112, 45, 97, 108, 105, 118, 101], [112, 114, 111, 120, 121, 45, 99, 111, 110, 110, 101, 99, 116, 105, 111, 110], [116, 101], [116, 114, 97, 105, 108, 101, 114], [116, 114, 97, 110, 115, 102, 101, 114, 45, 101, 110, 99, 111, 100, 105, 110, 103], [117, 112, 103, 114, 97, 100, 101]]) = true := by rw [e1]; decide
    have HF := Lib.hid hf
    have m0 : ((mkS x).toList == [99, 111, 110, 110, 101, 99, 116, 105, 111, 110]) = false := by rw [beq_lit]; exact decide_eq_false e0
    have m1 : ((mkS x).toList == [107, 101, 101, 112, 45, 97, 108, 105, 118, 101]) = true := by rw [beq_lit]; exact decide_eq_true e1
    clear hf e0 e1
    generalize mkS x = X at *
    go_enter Tryz.func14, Tryz.ntmps14
    go_wp2_with fail
    refine HL.out.mono ?_
    rintro e w1 ⟨rfl, hb⟩
    have HB := Lib.hid hb
    clear hb
    go_wp2_with fail
    go_ret
    exact ⟨by rw [HF.out]; rfl, HB.out⟩
  by_cases e2 : x = [112, 114, 111, 120, 121, 45, 99, 111, 110, 110, 101, 99, 116, 105, 111, 110]
  · skip
    have hf : decide (x ∈ [[99, 111, 110, 110, 101, 99, 116, 105, 111, 110], [107, 101, 101, 112, 45, 97, 108, 105, 118, 101], [112, 114, 111, 120, 121, 45, 99, 111, 110, 110, 101, 99, 116, 105, 111, 110], [116, 101], [116, 114, 97, 105, 108, 101, 114], [116, 114, 97, 110, 115, 102, 101, 114, 45, 101, 110, 99, 111, 100, 105, 110, 103], [117, 112, 103, 114, 97, 100, 101]]) = true := by rw [e2]; decide
    have HF := Lib.hid hf
    have m0 : ((mkS x).toList == [99, 111, 110, 110, 101, 99, 116, 105, 111, 110]) = false := by rw [beq_lit]; exact decide_eq_false e0
    have m1 : ((mkS x).toList == [107, 101, 101, 112, 45, 97, 108, 105, 118, 101]) = false := by rw [beq_lit]; exact decide_eq_false e1
    have m2 : ((mkS x).toList == [112, 114, 111, 120, 121, 45, 99, 111, 110, 110, 101, 99, 116, 105, 111, 110]) = true := by rw [beq_lit]; exact decide_eq_true e2
    clear hf e0 e1 e2
    generalize mkS x = X at *
    go_enter Tryz.func14, Tryz.ntmps14
    go_wp2_with fail
    refine HL.out.mono ?_
    rintro e w1 ⟨rfl, hb⟩
    have HB := Lib.hid hb
    clear hb
    go_wp2_with fail
    go_ret
    exact ⟨by rw [HF.out]; rfl, HB.out⟩
  by_cases e3 : x = [116, 101]
  · skip
    have hf : decide (x ∈ [[99, 111, 110, 110, 101, 99, 116, 105, 111, 110], [107, 101, 101, 112, 45, 97, 108, 105, 118, 101], [112, 114, 111, 120, 121, 45, 99, 111, 110, 110, 101, 99, 116, 105, 111, 110], [116, 101], [116, 114, 97, 105, 108, 101, 114], [116, 114, 97, 110, 115, 102, 101, 114, 45, 101, 110, 99, 111, 100, 105, 110, 103], [117, 112, 103, 114, 97, 100, 101]]) = true := by rw [e3]; decide
    have HF := Lib.hid hf
    have m0 : ((mkS x).toList == [99, 111, 110, 110, 101, 99, 116, 105, 111, 110]) = false := by rw [beq_lit]; exact decide_eq_false e0
    have m1 : ((mkS x).toList == [107, 101, 101, 112, 45, 97, 108, 105, 118, 101]) = false := by rw [beq_lit]; exact decide_eq_false e1
    have m2 : ((mkS x).toList == [112, 114, 111, 120, 121, 45, 99, 111, 110, 110, 101, 99, 116, 105, 111, 110]) = false := by rw [beq_lit]; exact decide_eq_false e2
    have m3 : ((mkS x).toList == [116, 101]) = true := by rw [beq_lit]; exact decide_eq_true e3
    clear hf e0 e1 e2 e3
    generalize mkS x = X at *
    go_enter Tryz.func14, Tryz.ntmps14
    go_wp2_with fail
    refine HL.out.mono ?_
    rintro e w1 ⟨rfl, hb⟩
    have HB := Lib.hid hb
    clear hb
    go_wp2_with fail
    go_ret
    exact ⟨by rw [HF.out]; rfl, HB.out⟩
  by_cases e4 : x = [116, 114, 97, 105, 108, 101, 114]
  · skip
    have hf : decide (x ∈ [[99, 111, 110, 110, 101, 99, 116, 105, 111, 110], [107, 101, 101, 112, 45, 97, 108, 105, 118, 101], [112, 114, 111, 120, 121, 45, 99, 111, 110, 110, 101, 99, 116, 105, 111, 110], [116, 101], [116, 114, 97, 105, 108, 101, 114], [116, 114, 97, 110, 115, 102, 101, 114, 45, 101, 110, 99, 111, 100, 105, 110, 103], [117, 112, 103, 114, 97, 100, 101]]) = true := by rw [e4]; decide
    have HF := Lib.hid hf
    have m0 : ((mkS x).toList == [99, 111, 110, 110, 101, 99, 116, 105, 111, 110]) = false := by rw [beq_lit]; exact decide_eq_false e0
    have m1 : ((mkS x).toList == [107, 101, 101, 112, 45, 97, 108, 105, 118, 101]) = false := by rw [beq_lit]; exact decide_eq_false e1
    have m2 : ((mkS x).toList == [112, 114, 111, 120, 121, 45, 99, 111, 110, 110, 101, 99, 116, 105, 111, 110]) = false := by rw [beq_lit]; exact decide_eq_false e2
    have m3 : ((mkS x).toList == [116, 101]) = false := by rw [beq_lit]; exact decide_eq_false e3
    have m4 : ((mkS x).toList == [116, 114, 97, 105, 108, 101, 114]) = true := by rw [beq_lit]; exact decide_eq_true e4
    clear hf e0 e1 e2 e3 e4
    generalize mkS x = X at *
    go_enter Tryz.func14, Tryz.ntmps14
    go_wp2_with fail
    refine HL.out.mono ?_
    rintro e w1 ⟨rfl, hb⟩
    have HB := Lib.hid hb
    clear hb
    go_wp2_with fail
    go_ret
    exact ⟨by rw [HF.out]; rfl, HB.out⟩
  by_cases e5 : x = [116, 114, 97, 110, 115, 102, 101, 114, 45, 101, 110, 99, 111, 100, 105, 110, 103]
  · skip
    have hf : decide (x ∈ [[99, 111, 110, 110, 101, 99, 116, 105, 111, 110], [107, 101, 101, 112, 45, 97, 108, 105, 118, 101], [112, 114, 111, 120, 121, 45, 99, 111, 110, 110, 101, 99, 116, 105, 111, 110], [116, 101], [116, 114, 97, 105, 108, 101, 114], [116, 114, 97, 110, 115, 102, 101, 114, 45, 101, 110, 99, 111, 100, 105, 110, 103], [117, 112, 103, 114, 97, 100, 101]]) = true := by rw [e5]; decide
    have HF := Lib.hid hf
    have m0 : ((mkS x).toList == [99, 111, 110, 110, 101, 99, 116, 105, 111, 110]) = false := by rw [beq_lit]; exact decide_eq_false e0
    have m1 : ((mkS x).toList == [107, 101, 101, 112, 45, 97, 108, 105, 118, 101]) = false := by rw [beq_lit]; exact decide_eq_false e1
    have m2 : ((mkS x).toList == [112, 114, 111, 120, 121, 45, 99, 111, 110, 110, 101, 99, 116, 105, 111, 110]) = false := by rw [beq_lit]; exact decide_eq_false e2
    have m3 : ((mkS x).toList == [116, 101]) = false := by rw [beq_lit]; exact decide_eq_false e3
    have m4 : ((mkS x).toList == [116, 114, 97, 105, 108, 101, 114]) = false := by rw [beq_lit]; exact decide_eq_false e4
    have m5 : ((mkS x).toList == [116, 114, 97, 110, 115, 102, 101, 114, 45, 101, 110, 99, 111, 100, 105, 110, 103]) = true := by rw [beq_lit]; exact decide_eq_true e5
    clear hf e0 e1 e2 e3 e4 e5
    generalize mkS x = X at *
    go_enter Tryz.func14, Tryz.ntmps14
    go_wp2_with fail
    refine HL.out.mono ?_
    rintro e w1 ⟨rfl, hb⟩
    have HB := Lib.hid hb
    clear hb
    go_wp2_with fail
    go_ret
    exact ⟨by rw [HF.out]; rfl, HB.out⟩
  by_cases e6 : x = [117, 112, 103, 114, 97, 100, 101]
  · skip
    have hf : decide (x ∈ [[99, 111, 110, 110, 101, 99, 116, 105, 111, 110], [107, 101, 101, 112, 45, 97, 108, 105, 118, 101], [112, 114, 111, 120, 121, 45, 99, 111, 110, 110, 101, 99, 116, 105, 111, 110], [116, 101], [116, 114, 97, 105, 108, 101, 114], [116, 114, 97, 110, 115, 102, 101, 114, 45, 101, 110, 99, 111, 100, 105, 110, 103], [117, 112, 103, 114, 97, 100, 101]]) = true := by rw [e6]; decide
    have HF := Lib.hid hf
    have m0 : ((mkS x).toList == [99, 111, 110, 110, 101, 99, 116, 105, 111, 110]) = false := by rw [beq_lit]; exact decide_eq_false e0
    have m1 : ((mkS x).toList == [107, 101, 101, 112, 45, 97, 108, 105, 118, 101]) = false := by rw [beq_lit]; exact decide_eq_false e1
    have m2 : ((mkS x).toList == [112, 114, 111, 120, 121, 45, 99, 111, 110, 110, 101, 99, 116, 105, 111, 110]) = false := by rw [beq_lit]; exact decide_eq_false e2
    have m3 : ((mkS x).toList == [116, 101]) = false := by rw [beq_lit]; exact decide_eq_false e3
    have m4 : ((mkS x).toList == [116, 114, 97, 105, 108, 101, 114]) = false := by rw [beq_lit]; exact decide_eq_false e4
    have m5 : ((mkS x).toList == [116, 114, 97, 110, 115, 102, 101, 114, 45, 101, 110, 99, 111, 100, 105, 110, 103]) = false := by rw [beq_lit]; exact decide_eq_false e5
    have m6 : ((mkS x).toList == [117, 112, 103, 114, 97, 100, 101]) = true := by rw [beq_lit]; exact decide_eq_true e6
    clear hf e0 e1 e2 e3 e4 e5 e6
    generalize mkS x = X at *
    go_enter Tryz.func14, Tryz.ntmps14
    go_wp2_with fail
    refine HL.out.mono ?_
    rintro e w1 ⟨rfl, hb⟩
    have HB := Lib.hid hb
    clear hb
    go_wp2_with fail
    go_ret
    exact ⟨by rw [HF.out]; rfl, HB.out⟩
  have hf : decide (x ∈ [[99, 111, 110, 110, 101, 99, 116, 105, 111, 110], [107, 101, 101, 112, 45, 97, 108, 105, 118, 101], [112, 114, 111, 120, 121, 45, 99, 111, 110, 110, 101, 99, 116, 105, 111, 110], [116, 101], [116, 114, 97, 105, 108, 101, 114], [116, 114, 97, 110, 115, 102, 101, 114, 45, 101, 110, 99, 111, 100, 105, 110, 103], [117, 112, 103, 114, 97, 100, 101]]) = false := by simp [e0, e1, e2, e3, e4, e5, e6]
  have HF := Lib.hid hf
  have m0 : ((mkS x).toList == [99, 111, 110, 110, 101, 99, 116, 105, 111, 110]) = false := by rw [beq_lit]; exact decide_eq_false e0
  have m1 : ((mkS x).toList == [107, 101, 101, 112, 45, 97, 108, 105, 118, 101]) = false := by rw [beq_lit]; exact decide_eq_false e1
  have m2 : ((mkS x).toList == [112, 114, 111, 120, 121, 45, 99, 111, 110, 110, 101, 99, 116, 105, 111, 110]) = false := by rw [beq_lit]; exact decide_eq_false e2
  have m3 : ((mkS x).toList == [116, 101]) = false := by rw [beq_lit]; exact decide_eq_false e3
  have m4 : ((mkS x).toList == [116, 114, 97, 105, 108, 101, 114]) = false := by rw [beq_lit]; exact decide_eq_false e4
  have m5 : ((mkS x).toList == [116, 114, 97, 110, 115, 102, 101, 114, 45, 101, 110, 99, 111, 100, 105, 110, 103]) = false := by rw [beq_lit]; exact decide_eq_false e5
  have m6 : ((mkS x).toList == [117, 112, 103, 114, 97, 100, 101]) = false := by rw [beq_lit]; exact decide_eq_false e6
  clear hf e0 e1 e2 e3 e4 e5 e6
  generalize mkS x = X at *
  go_enter Tryz.func14, Tryz.ntmps14
  go_wp2_with fail
  refine HL.out.mono ?_
  rintro e w1 ⟨rfl, hb⟩
  have HB := Lib.hid hb
  clear hb
  go_wp2_with fail
  go_ret
  exact ⟨by rw [HF.out]; rfl, HB.out⟩
end Tk
end Go.Proofs.YtdlbmfgajgefdaaGreatDoor
