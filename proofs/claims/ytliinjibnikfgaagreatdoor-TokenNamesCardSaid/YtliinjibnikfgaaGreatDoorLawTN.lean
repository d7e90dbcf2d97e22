/- The law TokenNames: the chapter's examples, call by call. -/
import Derived.Test.YtliinjibnikfgaaGreatDoorLives
import Derived.Test.YtliinjibnikfgaaGreatDoorUnq
import Derived.Test.YtliinjibnikfgaaGreatDoorWgt
import Derived.Test.YtliinjibnikfgaaGreatDoorTokE
import Derived.Test.YtliinjibnikfgaaGreatDoorFldA
namespace Go.Proofs.YtliinjibnikfgaaGreatDoor
open Go.RowKit
namespace Tk
open Ff

set_option maxHeartbeats 1000000 in
set_option maxRecDepth 100000 in
theorem tchar_yes (c : UInt8) (h : kindOf c.toNat = 2) (w : World) :
    Calls Tryz.prog 14 #[.int .u8 (c.toNat : Int)] w fun e w' => e = .returned (.bool true) ∧ Below w.heap.size w w' := by
  have HK := Lib.hid (kinds_any w)
  have hr := fun W => run_kind W c _ _ (kindL_at c)
  rw [h] at hr
  generalize (kindL.map (Value.int .u8)).toArray = ks at *
  go_enter Tryz.func14, Tryz.ntmps14
  go_wp2_with fail
  refine HK.out.mono ?_
  rintro e w' ⟨rfl, hb⟩
  have HB := Lib.hid hb
  clear hb
  go_wp2_with fail
  go_ret
  exact ⟨rfl, HB.out⟩

set_option maxHeartbeats 1000000 in
set_option maxRecDepth 100000 in
theorem tchar_no (c : UInt8) (h : kindOf c.toNat = 1) (w : World) :
    Calls Tryz.prog 14 #[.int .u8 (c.toNat : Int)] w fun e w' => e = .returned (.bool false) ∧ Below w.heap.size w w' := by
  have HK := Lib.hid (kinds_any w)
  have hr := fun W => run_kind W c _ _ (kindL_at c)
  rw [h] at hr
  generalize (kindL.map (Value.int .u8)).toArray = ks at *
  go_enter Tryz.func14, Tryz.ntmps14
  go_wp2_with fail
  refine HK.out.mono ?_
  rintro e w' ⟨rfl, hb⟩
  have HB := Lib.hid hb
  clear hb
  go_wp2_with fail
  go_ret
  exact ⟨rfl, HB.out⟩

theorem quote_is (s : ByteArray) (hs : s.size ≤ 1000000000) (t : Bs) (h : allL 1 (bs s) = true ∧ quoteL (bs s) = t) (W : World) :
    Calls Tryz.prog 6 #[.string s] W fun r w' => r = .returned (.tuple #[.string (mkS t), .int .i64 0]) ∧ Below W.heap.size W w' := by
  obtain ⟨h1, rfl⟩ := h
  exact quote_ok s W (by omega) h1
theorem unq_is (s : ByteArray) (hs : s.size ≤ 1000000000) (t : Bs) (h : unqOk (bs s) = true ∧ unq ((bs s).drop 1) = t) (W : World) :
    Calls Tryz.prog 7 #[.string s] W fun r w' => r = .returned (.tuple #[.string (mkS t), .int .i64 0]) ∧ Below W.heap.size W w' := by
  obtain ⟨h1, rfl⟩ := h
  exact unquote_yes s W (by omega) h1
theorem num_is (s : ByteArray) (hs : s.size ≤ 1000000000) (n e : Int) (h : (((numL (bs s)).1 : Int), ((numL (bs s)).2 : Int)) = (n, e)) (W : World) :
    Calls Tryz.prog 8 #[.string s] W fun r w' => r = .returned (.tuple #[.int .i64 n, .int .i64 e]) ∧ Below W.heap.size W w' := by
  injection h with h1 h2
  subst h1 h2
  exact (number_any s W (by omega)).mono (by rintro e w1 ⟨rfl, rfl⟩; exact ⟨rfl, Below.refl _ _⟩)
theorem wgt_is (s : ByteArray) (hs : s.size ≤ 1000000000) (f : Nat) (e : Int) (h : wF (wgtL (bs s)) = f ∧ wE (wgtL (bs s)) = e) (W : World) :
    Calls Tryz.prog 9 #[.string s] W fun r w' => r = .returned (.tuple #[.float .f64 f, .int .i64 e]) ∧ Below W.heap.size W w' := by
  obtain ⟨h1, h2⟩ := h
  subst h1 h2
  exact weight_any s W (by omega)
theorem tok_is (s : ByteArray) (hs : s.size ≤ 1000000000) (b : Bool) (h : (!(bs s).isEmpty && allL 2 (bs s)) = b) (W : World) :
    Calls Tryz.prog 10 #[.string s] W fun r w' => r = .returned (.bool b) ∧ Below W.heap.size W w' := by
  subst h
  exact token_any s W (by omega)
theorem low_is (s : ByteArray) (hs : s.size ≤ 1000000000) (t : Bs) (h : lowL (bs s) = t) (W : World) :
    Calls Tryz.prog 11 #[.string s] W fun r w' => r = .returned (.string (mkS t)) ∧ Below W.heap.size W w' := by
  subst h
  exact tlower_any s W (by omega)
theorem trim_is (s : ByteArray) (hs : s.size ≤ 1000000000) (t : Bs) (h : trimL (bs s) = t) (W : World) :
    Calls Tryz.prog 13 #[.string s] W fun r w' => r = .returned (.string (mkS t)) ∧ Below W.heap.size W w' := by
  subst h
  exact trim_any s W (by omega)
theorem same_is (s : ByteArray) (hs : s.size ≤ 1000000000) (t : ByteArray) (ht : t.size ≤ 1000000000) (b : Bool) (h : decide (lowL (bs s) = lowL (bs t)) = b) (W : World) :
    Calls Tryz.prog 12 #[.string s, .string t] W fun r w' => r = .returned (.bool b) ∧ Below W.heap.size W w' := by
  subst h
  exact (tsame_any s t W (by omega) (by omega)).mono (by rintro e w1 ⟨rfl, n, rfl⟩; exact ⟨rfl, below_drewN (Below.refl _ _) n⟩)
theorem char_is (c : UInt8) (n : Int) (hn : (c.toNat : Int) = n) (b : Bool) (h : decide (1 ≤ kindOf c.toNat) = b) (W : World) :
    Calls Tryz.prog 15 #[.int .u8 n] W fun r w' => r = .returned (.bool b) ∧ Below W.heap.size W w' := by
  subst hn h
  exact char_any c W
theorem tchar1_is (c : UInt8) (n : Int) (hn : (c.toNat : Int) = n) (h : kindOf c.toNat = 2) (W : World) :
    Calls Tryz.prog 14 #[.int .u8 n] W fun r w' => r = .returned (.bool true) ∧ Below W.heap.size W w' := by
  subst hn
  exact tchar_yes c h W
theorem tchar0_is (c : UInt8) (n : Int) (hn : (c.toNat : Int) = n) (h : kindOf c.toNat = 1) (W : World) :
    Calls Tryz.prog 14 #[.int .u8 n] W fun r w' => r = .returned (.bool false) ∧ Below W.heap.size W w' := by
  subst hn
  exact tchar_no c h W
theorem wtx_is (q : Nat) (t : Bs) (hq : q ≤ 4607182418800017408) (h : ktext (gk (qn q) 1000) = t) (W : World) (hT : Tabs W) :
    Calls Tryz.prog 16 #[.float .f64 q] W fun r w' => r = .returned (.string (mkS t)) ∧ Below W.heap.size W w' := by
  subst h
  exact weightText_any q W hT (.inr hq)
theorem wtn_is (q : Nat) (h : tst q = false) (W : World) :
    Calls Tryz.prog 16 #[.float .f64 q] W fun r w' => r = .returned (.string (mkS [])) ∧ Below W.heap.size W w' := by
  exact weightText_no q W h
set_option maxRecDepth 100000 in
theorem tn_w1 : ktext (gk (qn 4607182418800017408) 1000) = [49] := by decide +kernel
set_option maxRecDepth 100000 in
theorem tn_w05 : ktext (gk (qn 4602678819172646912) 1000) = [48, 46, 53] := by decide +kernel
set_option maxRecDepth 100000 in
theorem tn_w0009 : ktext (gk (qn 4561440258104740754) 1000) = [48] := by decide +kernel
theorem tn_w15 : tst 4609434218613702656 = false := by decide +kernel
theorem tn_wg : wF (wgtL [48, 46, 50, 53]) = 4598175219545276416 ∧ wE (wgtL [48, 46, 50, 53]) = 0 := by decide +kernel
theorem tn_wv : wF (wgtL [49, 46]) = 4607182418800017408 ∧ wE (wgtL [49, 46]) = 0 := by decide +kernel
theorem tn_s0 : splitL [32, 44, 32, 44] = [] := by decide +kernel
theorem tn_s1 : splitL [34, 97, 44, 98] = [[34, 97, 44, 98]] := by decide +kernel

set_option maxHeartbeats 16000000 in
set_option maxRecDepth 100000 in
theorem tnames_any (w : World) (hT : Tabs w) : Calls Tryz.prog 3 #[] w (Yes w) := by
  have HL := Lib.hid (lives_any w hT)
  have HTT := Lib.hid hT
  have hbig := Lib.hid hT.pows.big
  have H1 := Lib.hid (quote_is ⟨#[97, 34, 98, 92]⟩ (by decide) [34, 97, 92, 34, 98, 92, 92, 34] (by decide +kernel))
  have H2 := Lib.hid (fun W => quote_bad ⟨#[0]⟩ W (by decide) (by decide +kernel))
  have H3 := Lib.hid (unq_is ⟨#[34, 97, 92, 98, 34]⟩ (by decide) [97, 98] (by decide +kernel))
  have H4 := Lib.hid (fun W => unquote_no ⟨#[34, 97, 34, 98, 34]⟩ W (by decide) (by decide +kernel))
  have H5 := Lib.hid (fun W => unquote_no ⟨#[34, 97, 92, 34]⟩ W (by decide) (by decide +kernel))
  have H6 := Lib.hid (num_is ⟨#[57, 48, 48, 55, 49, 57, 57, 50, 53, 52, 55, 52, 48, 57, 57, 49]⟩ (by decide) 9007199254740991 0 (by decide +kernel))
  have H7 := Lib.hid (num_is ⟨#[57, 48, 48, 55, 49, 57, 57, 50, 53, 52, 55, 52, 48, 57, 57, 50]⟩ (by decide) 0 3 (by decide +kernel))
  have H8 := Lib.hid (num_is ⟨#[]⟩ (by decide) 0 4 (by decide +kernel))
  have H9 := Lib.hid (wgt_is ⟨#[48, 46, 50, 53]⟩ (by decide) 4598175219545276416 0 tn_wg)
  have H10 := Lib.hid (wgt_is ⟨#[49, 46, 48, 48, 49]⟩ (by decide) 0 4 (by decide +kernel))
  have H11 := Lib.hid (wgt_is ⟨#[49, 46]⟩ (by decide) 4607182418800017408 0 tn_wv)
  have H12 := Lib.hid (wgt_is ⟨#[48, 46, 49, 50, 51, 52]⟩ (by decide) 0 4 (by decide +kernel))
  have H13 := Lib.hid (tok_is ⟨#[97, 45, 98]⟩ (by decide) true (by decide +kernel))
  have H14 := Lib.hid (tok_is ⟨#[]⟩ (by decide) false (by decide +kernel))
  have H15 := Lib.hid (tok_is ⟨#[97, 32, 98]⟩ (by decide) false (by decide +kernel))
  have H16 := Lib.hid (low_is ⟨#[65, 196]⟩ (by decide) [97, 196] (by decide +kernel))
  have H17 := Lib.hid (same_is ⟨#[97, 66]⟩ (by decide) ⟨#[65, 98]⟩ (by decide) true (by decide +kernel))
  have H18 := Lib.hid (trim_is ⟨#[32, 9, 97, 32, 98, 9]⟩ (by decide) [97, 32, 98] (by decide +kernel))
  have H19 := Lib.hid (tchar1_is 126 126 rfl (by decide +kernel))
  have H20 := Lib.hid (tchar0_is 40 40 rfl (by decide +kernel))
  have H21 := Lib.hid (char_is 9 9 rfl true (by decide +kernel))
  have H22 := Lib.hid (char_is 127 127 rfl false (by decide +kernel))
  have H23 := Lib.hid (wtx_is 4607182418800017408 [49] (by omega) tn_w1)
  have H24 := Lib.hid (wtx_is 4602678819172646912 [48, 46, 53] (by omega) tn_w05)
  have H25 := Lib.hid (wtn_is 4609434218613702656 tn_w15)
  have H26 := Lib.hid (wtx_is 4561440258104740754 [48] (by omega) tn_w0009)
  have fC1 : ((mkS [34, 97, 92, 34, 98, 92, 92, 34]).toList == [34, 97, 92, 34, 98, 92, 92, 34]) = true := by rw [toList_bs]; rfl
  have fC2 : ((mkS [97, 98]).toList == [97, 98]) = true := by rw [toList_bs]; rfl
  have fC3 : ((mkS [97, 196]).toList == [97, 196]) = true := by rw [toList_bs]; rfl
  have fC4 : ((mkS [97, 32, 98]).toList == [97, 32, 98]) = true := by rw [toList_bs]; rfl
  have fC5 : ((mkS [49]).toList == [49]) = true := by rw [toList_bs]; rfl
  have fC6 : ((mkS [48, 46, 53]).toList == [48, 46, 53]) = true := by rw [toList_bs]; rfl
  have fC7 : ((mkS [48]).toList == [48]) = true := by rw [toList_bs]; rfl
  have fC0 : (mkS []).toList.isEmpty = true := by rw [toList_bs]; rfl
  generalize mkS [34, 97, 92, 34, 98, 92, 92, 34] = C1 at *
  generalize mkS [97, 98] = C2 at *
  generalize mkS [97, 196] = C3 at *
  generalize mkS [97, 32, 98] = C4 at *
  generalize mkS [49] = C5 at *
  generalize mkS [48, 46, 53] = C6 at *
  generalize mkS [48] = C7 at *
  generalize mkS [] = C0 at *
  clear hT
  go_enter Tryz.func3, Tryz.ntmps3
  go_wp2_with fail
  refine HL.out.mono ?_
  rintro e w1 ⟨rfl, hb⟩
  have HB1 := Lib.hid hb
  clear hb
  go_wp2_with fail
  refine (H1.out _).mono ?_
  rintro e w2 ⟨rfl, hb⟩
  have HB2 := Lib.hid (HB1.out.trans (hb.mono HB1.out.size))
  clear hb H1
  go_wp2_with fail
  refine (H2.out _).mono ?_
  rintro e w3 ⟨rfl, hb⟩
  have HB3 := Lib.hid (HB2.out.trans (hb.mono HB2.out.size))
  clear hb H2
  go_wp2_with fail
  refine (H3.out _).mono ?_
  rintro e w4 ⟨rfl, hb⟩
  have HB4 := Lib.hid (HB3.out.trans (hb.mono HB3.out.size))
  clear hb H3
  go_wp2_with fail
  refine (H4.out _).mono ?_
  rintro e w5 ⟨rfl, hb⟩
  have HB5 := Lib.hid (HB4.out.trans (hb.mono HB4.out.size))
  clear hb H4
  go_wp2_with fail
  refine (H5.out _).mono ?_
  rintro e w6 ⟨rfl, hb⟩
  have HB6 := Lib.hid (HB5.out.trans (hb.mono HB5.out.size))
  clear hb H5
  go_wp2_with fail
  refine (H6.out _).mono ?_
  rintro e w7 ⟨rfl, hb⟩
  have HB7 := Lib.hid (HB6.out.trans (hb.mono HB6.out.size))
  clear hb H6
  go_wp2_with fail
  refine (H7.out _).mono ?_
  rintro e w8 ⟨rfl, hb⟩
  have HB8 := Lib.hid (HB7.out.trans (hb.mono HB7.out.size))
  clear hb H7
  go_wp2_with fail
  refine (H8.out _).mono ?_
  rintro e w9 ⟨rfl, hb⟩
  have HB9 := Lib.hid (HB8.out.trans (hb.mono HB8.out.size))
  clear hb H8
  go_wp2_with fail
  refine (H9.out _).mono ?_
  rintro e w10 ⟨rfl, hb⟩
  have HB10 := Lib.hid (HB9.out.trans (hb.mono HB9.out.size))
  clear hb H9
  go_wp2_with fail
  refine (H10.out _).mono ?_
  rintro e w11 ⟨rfl, hb⟩
  have HB11 := Lib.hid (HB10.out.trans (hb.mono HB10.out.size))
  clear hb H10
  go_wp2_with fail
  refine (H11.out _).mono ?_
  rintro e w12 ⟨rfl, hb⟩
  have HB12 := Lib.hid (HB11.out.trans (hb.mono HB11.out.size))
  clear hb H11
  go_wp2_with fail
  refine (H12.out _).mono ?_
  rintro e w13 ⟨rfl, hb⟩
  have HB13 := Lib.hid (HB12.out.trans (hb.mono HB12.out.size))
  clear hb H12
  go_wp2_with fail
  refine (H13.out _).mono ?_
  rintro e w14 ⟨rfl, hb⟩
  have HB14 := Lib.hid (HB13.out.trans (hb.mono HB13.out.size))
  clear hb H13
  go_wp2_with fail
  refine (H14.out _).mono ?_
  rintro e w15 ⟨rfl, hb⟩
  have HB15 := Lib.hid (HB14.out.trans (hb.mono HB14.out.size))
  clear hb H14
  go_wp2_with fail
  refine (H15.out _).mono ?_
  rintro e w16 ⟨rfl, hb⟩
  have HB16 := Lib.hid (HB15.out.trans (hb.mono HB15.out.size))
  clear hb H15
  go_wp2_with fail
  refine (H16.out _).mono ?_
  rintro e w17 ⟨rfl, hb⟩
  have HB17 := Lib.hid (HB16.out.trans (hb.mono HB16.out.size))
  clear hb H16
  go_wp2_with fail
  refine (H17.out _).mono ?_
  rintro e w18 ⟨rfl, hb⟩
  have HB18 := Lib.hid (HB17.out.trans (hb.mono HB17.out.size))
  clear hb H17
  go_wp2_with fail
  refine (H18.out _).mono ?_
  rintro e w19 ⟨rfl, hb⟩
  have HB19 := Lib.hid (HB18.out.trans (hb.mono HB18.out.size))
  clear hb H18
  go_wp2_with fail
  refine (H19.out _).mono ?_
  rintro e w20 ⟨rfl, hb⟩
  have HB20 := Lib.hid (HB19.out.trans (hb.mono HB19.out.size))
  clear hb H19
  go_wp2_with fail
  refine (H20.out _).mono ?_
  rintro e w21 ⟨rfl, hb⟩
  have HB21 := Lib.hid (HB20.out.trans (hb.mono HB20.out.size))
  clear hb H20
  go_wp2_with fail
  refine (H21.out _).mono ?_
  rintro e w22 ⟨rfl, hb⟩
  have HB22 := Lib.hid (HB21.out.trans (hb.mono HB21.out.size))
  clear hb H21
  go_wp2_with fail
  refine (H22.out _).mono ?_
  rintro e w23 ⟨rfl, hb⟩
  have HB23 := Lib.hid (HB22.out.trans (hb.mono HB22.out.size))
  clear hb H22
  go_wp2_with fail
  refine (H23.out _ (HTT.out.later HB23.out hbig.out)).mono ?_
  rintro e w24 ⟨rfl, hb⟩
  have HB24 := Lib.hid (HB23.out.trans (hb.mono HB23.out.size))
  clear hb H23
  go_wp2_with fail
  refine (H24.out _ (HTT.out.later HB24.out hbig.out)).mono ?_
  rintro e w25 ⟨rfl, hb⟩
  have HB25 := Lib.hid (HB24.out.trans (hb.mono HB24.out.size))
  clear hb H24
  go_wp2_with fail
  refine (H25.out _).mono ?_
  rintro e w26 ⟨rfl, hb⟩
  have HB26 := Lib.hid (HB25.out.trans (hb.mono HB25.out.size))
  clear hb H25
  go_wp2_with fail
  refine (H26.out _ (HTT.out.later HB26.out hbig.out)).mono ?_
  rintro e w27 ⟨rfl, hb⟩
  have HB27 := Lib.hid (HB26.out.trans (hb.mono HB26.out.size))
  clear hb H26
  have h18 := split_any ⟨#[32, 44, 32, 44]⟩ w27 (by decide)
  rw [show bs ⟨#[32, 44, 32, 44]⟩ = [32, 44, 32, 44] from rfl, tn_s0] at h18
  have H18 := Lib.hid h18
  clear h18
  go_wp2_with fail
  refine H18.out.mono ?_
  rintro e wa ⟨v, rfl, ho, hb⟩
  obtain ⟨sa, sc, rfl, -⟩ := isStrs_own ho
  have HBa := Lib.hid (HB27.out.trans (hb.mono HB27.out.size))
  clear hb ho
  have h19 := split_any ⟨#[34, 97, 44, 98]⟩ wa (by decide)
  rw [show bs ⟨#[34, 97, 44, 98]⟩ = [34, 97, 44, 98] from rfl, tn_s1] at h19
  have H19 := Lib.hid h19
  clear h19
  go_wp2_with fail
  refine H19.out.mono ?_
  rintro e wb ⟨v, rfl, ho, hb⟩
  have HO := Lib.hid ho
  have HB := Lib.hid (HBa.out.trans (hb.mono HBa.out.size))
  have hsz := HB.out.size
  clear ho hb
  go_wp2_with fail
  refine (same_any v _ [[34, 97, 44, 98]] [[34, 97, 44, 98]] _ (isStrs_alloc HO.out _) (isStrs_lit wb [[34, 97, 44, 98]] _ _ 1 rfl) (by decide) (by decide)).mono ?_
  rintro e w2 ⟨rfl, n, rfl⟩
  have hd : decide ([[(34 : UInt8), 97, 44, 98]] = [[34, 97, 44, 98]]) = true := by decide
  go_wp2_with fail
  go_ret
  exact ⟨rfl, below_drewN (HB.out.alloc hsz _) n⟩
end Tk
end Go.Proofs.YtliinjibnikfgaaGreatDoor
