/- RefR RefX RefCk RefBy RfE ChkK RefHx RefEn, put together. -/
import Derived.Test.YtdlbmfgajgefdaaGreatDoorQH
import Derived.Test.YtdlbmfgajgefdaaGreatDoorQA
import Derived.Test.YtdlbmfgajgefdaaGreatDoorQB
import Derived.Test.YtdlbmfgajgefdaaGreatDoorQG
import Derived.Deep.RegionHeld3
import Derived.Test.YtdlbmfgajgefdaaGreatDoorQC
import Derived.Test.YtdlbmfgajgefdaaGreatDoorQF
namespace Go.Proofs.YtdlbmfgajgefdaaGreatDoor
open Go.RowKit
namespace Tk

theorem u8_lt_iff (c : UInt8) (n : Nat) (hn : n < 256) : (c = UInt8.ofNat n) ↔ c.toNat = n := by
  constructor
  · rintro rfl; rw [UInt8.toNat_ofNat']; omega
  · intro h; exact UInt8.toNat_inj.1 (by rw [h, UInt8.toNat_ofNat']; omega)

/-- eight bytes that are a version, and what is not -/
theorem ver_of8 (s : ByteArray) (h8 : s.size = 8) (h5 : bs (s.extract 0 5) = httpL) (h6 : s[6] = 46) : bs s = httpL ++ [s[5], 46, s[7]] := by
  have e0 : bs s = (bs s).take 5 ++ (bs s).drop 5 := (List.take_append_drop 5 _).symm
  rw [bs_extract, List.drop_zero] at h5
  have d5 := bs_drop s 5 (by omega)
  have d6 := bs_drop s 6 (by omega)
  have d7 := bs_drop s 7 (by omega)
  have d8 : (bs s).drop 8 = [] := List.drop_eq_nil_of_le (by rw [length_bs]; omega)
  rw [e0, show (bs s).take 5 = httpL from h5, d5, d6, d7, d8, h6]
theorem ver_bad (s : ByteArray) (h : s.size ≠ 8 ∨ bs (s.extract 0 5) ≠ httpL ∨ (∃ h : 5 < s.size, isDig s[5] = false) ∨ (∃ h : 6 < s.size, s[6] ≠ 46) ∨ (∃ h : 7 < s.size, isDig s[7] = false)) : vForm (bs s) = false := by
  cases hf : vForm (bs s) with
  | false => rfl
  | true =>
    exfalso
    obtain ⟨a, b, da, db, e, -, -⟩ := vForm_of _ hf
    have hz : s.size = 8 := by rw [← length_bs, e]; rfl
    have g : ∀ k (hk : k < s.size), s[k] = (httpL ++ [a, 46, b]).getD k 0 := fun k hk => by rw [← e]; exact (getD_bs s k hk).symm
    rcases h with h | h | ⟨h, h'⟩ | ⟨h, h'⟩ | ⟨h, h'⟩
    · exact h hz
    · exact h (by rw [bs_extract, e]; rfl)
    · rw [g 5 h] at h'; rw [show (httpL ++ [a, 46, b]).getD 5 0 = a from rfl, da] at h'; cases h'
    · rw [g 6 h] at h'; exact h' rfl
    · rw [g 7 h] at h'; rw [show (httpL ++ [a, 46, b]).getD 7 0 = b from rfl, db] at h'; cases h'

def RVer (l : Bs) (w : World) (e : Ending) (w' : World) : Prop := e = .returned (.tuple #[.int .i64 (vMi l), .int .i64 (vSt l)]) ∧ w = w'

set_option maxHeartbeats 4000000 in
set_option maxRecDepth 100000 in
theorem rversion_any (s : ByteArray) (w : World) (_hs : s.size ≤ 1099511627) :
    Calls Tryz.prog 185 #[.string s] w (RVer (bs s) w) := by
  have hbad := fun h => v_none (bs s) (ver_bad s h)
  by_cases h8 : s.size = 8
  · have g5 : 5 < s.size := by omega
    have g6 : 6 < s.size := by omega
    have g7 : 7 < s.size := by omega
    have i5 : (5 : Int) ≤ (s.size : Int) := by omega
    have i5' : (5 : Int) < (s.size : Int) := by omega
    have i6 : (6 : Int) < (s.size : Int) := by omega
    have i7 : (7 : Int) < (s.size : Int) := by omega
    have e8 : ((s.size : Int) != 8) = false := by rw [bne_eq_false_iff_eq]; omega
    have D5 := fun W => rDigit_any s[5] W
    have D7 := fun W => rDigit_any s[7] W
    have H8 := Lib.hid h8
    clear h8
    by_cases h5 : bs (s.extract 0 5) = httpL
    · have e5 : ((s.extract 0 5).toList == [72, 84, 84, 80, 47]) = true := by rw [toList_bs, h5]; rfl
      have e5' : ((s.extract 0 5).toList != [72, 84, 84, 80, 47]) = false := by unfold bne; rw [e5]; rfl
      cases hd5 : isDig s[5]
      · rw [hd5] at D5
        obtain ⟨r1, r2⟩ := hbad (.inr (.inr (.inl ⟨g5, hd5⟩)))
        have R1 := Lib.hid r1
        have R2 := Lib.hid r2
        have HD5 := Lib.hid D5
        clear hbad r1 r2 D5 D7 hd5 h5
        go_enter Tryz.func185, Tryz.ntmps185
        go_wp2_with fail
        refine (HD5.out _).mono ?_
        rintro e w' ⟨rfl, rfl⟩
        go_wp2_with fail
        go_ret2
        exact ⟨by rw [R1.out, R2.out]; rfl, rfl⟩
      · rw [hd5] at D5
        by_cases h6 : s[6] = 46
        · have e6 : ((s[6].toNat : Int) != 46) = false := by rw [h6]; rfl
          cases hd7 : isDig s[7]
          · rw [hd7] at D7
            obtain ⟨r1, r2⟩ := hbad (.inr (.inr (.inr (.inr ⟨g7, hd7⟩))))
            have R1 := Lib.hid r1
            have R2 := Lib.hid r2
            have HD5 := Lib.hid D5
            have HD7 := Lib.hid D7
            clear hbad r1 r2 D5 D7 hd5 hd7 h5 h6
            go_enter Tryz.func185, Tryz.ntmps185
            go_wp2_with fail
            refine (HD5.out _).mono ?_
            rintro e w' ⟨rfl, rfl⟩
            go_wp2_with fail
            refine (HD7.out _).mono ?_
            rintro e w' ⟨rfl, rfl⟩
            go_wp2_with fail
            go_ret2
            exact ⟨by rw [R1.out, R2.out]; rfl, rfl⟩
          · rw [hd7] at D7
            have hb := ver_of8 s H8.out h5 h6
            obtain ⟨f1, f2, f3⟩ := v_digits s[5] s[7] hd5 hd7
            rw [← hb] at f1 f2 f3
            have b5 := dig_bd _ hd5
            have b7 := dig_bd _ hd7
            have hk : vKnown (bs s) = (decide (s[5] = 49) && (decide (s[7] = 48) || decide (s[7] = 49))) := by
              unfold vKnown; rw [f2, f3]; simp
            have hgd : (vB (bs s)).getD 0 0 = s[7] := by rw [f3]; rfl
            have HD5 := Lib.hid D5
            have HD7 := Lib.hid D7
            have k0 : (48 : Int) ≤ (s[7].toNat : Int) := by omega
            have k1 : (s[7].toNat : Int) ≤ 57 := by omega
            by_cases n5 : s[5] = 49
            · have e49 : ((s[5].toNat : Int) != 49) = false := by rw [n5]; rfl
              by_cases n7 : 49 < s[7].toNat
              · have e7 : (49 : Int) < (s[7].toNat : Int) := by omega
                have m1 : s[7] ≠ 48 := fun e => by rw [e] at n7; exact absurd n7 (by decide)
                have m2 : s[7] ≠ 49 := fun e => by rw [e] at n7; exact absurd n7 (by decide)
                obtain ⟨r1, r2⟩ := v_other (bs s) f1 (by rw [hk, decide_eq_false m1, decide_eq_false m2]; simp)
                have R1 := Lib.hid r1
                have R2 := Lib.hid r2
                clear hbad r1 r2 D5 D7 hd5 hd7 h5 h6 hb f1 f2 f3 b5 b7 hk hgd n5 n7 m1 m2
                go_enter Tryz.func185, Tryz.ntmps185
                go_wp2_with fail
                refine (HD5.out _).mono ?_
                rintro e w' ⟨rfl, rfl⟩
                go_wp2_with fail
                refine (HD7.out _).mono ?_
                rintro e w' ⟨rfl, rfl⟩
                go_wp2_with fail
                go_ret2
                exact ⟨by rw [R1.out, R2.out]; rfl, rfl⟩
              · have e7 : ¬ (49 : Int) < (s[7].toNat : Int) := by omega
                have m : (decide (s[7] = 48) || decide (s[7] = 49)) = true := by
                  have : s[7].toNat = 48 ∨ s[7].toNat = 49 := by omega
                  rcases this with h | h
                  · rw [show s[7] = 48 from UInt8.toNat_inj.1 h]; rfl
                  · rw [show s[7] = 49 from UInt8.toNat_inj.1 h]; rfl
                obtain ⟨r1, r2⟩ := v_known (bs s) f1 (by rw [hk, decide_eq_true n5, m]; rfl)
                rw [hgd] at r2
                have r2' : ((vMi (bs s) : Nat) : Int) = (s[7].toNat : Int) - 48 := by omega
                have R1 := Lib.hid r1
                have R2 := Lib.hid r2'
                clear hbad r1 r2 r2' D5 D7 hd5 hd7 h5 h6 hb f1 f2 f3 b5 b7 hk hgd n5 n7 m
                go_enter Tryz.func185, Tryz.ntmps185
                go_wp2_with fail
                refine (HD5.out _).mono ?_
                rintro e w' ⟨rfl, rfl⟩
                go_wp2_with fail
                refine (HD7.out _).mono ?_
                rintro e w' ⟨rfl, rfl⟩
                go_wp2_with fail
                go_ret2
                exact ⟨by rw [R1.out, R2.out]; rfl, rfl⟩
            · have e49 : ((s[5].toNat : Int) != 49) = true := by
                rw [bne_iff_ne]
                intro e
                exact n5 (UInt8.toNat_inj.1 (show s[5].toNat = 49 by omega))
              obtain ⟨r1, r2⟩ := v_other (bs s) f1 (by rw [hk, decide_eq_false n5]; rfl)
              have R1 := Lib.hid r1
              have R2 := Lib.hid r2
              clear hbad r1 r2 D5 D7 hd5 hd7 h5 h6 hb f1 f2 f3 b5 b7 hk hgd n5
              go_enter Tryz.func185, Tryz.ntmps185
              go_wp2_with fail
              refine (HD5.out _).mono ?_
              rintro e w' ⟨rfl, rfl⟩
              go_wp2_with fail
              refine (HD7.out _).mono ?_
              rintro e w' ⟨rfl, rfl⟩
              go_wp2_with fail
              go_ret2
              exact ⟨by rw [R1.out, R2.out]; rfl, rfl⟩
        · have e6 : ((s[6].toNat : Int) != 46) = true := by
            rw [bne_iff_ne]
            intro e
            exact h6 (UInt8.toNat_inj.1 (show s[6].toNat = 46 by omega))
          obtain ⟨r1, r2⟩ := hbad (.inr (.inr (.inr (.inl ⟨g6, h6⟩))))
          have R1 := Lib.hid r1
          have R2 := Lib.hid r2
          have HD5 := Lib.hid D5
          clear hbad r1 r2 D5 D7 hd5 h5 h6
          go_enter Tryz.func185, Tryz.ntmps185
          go_wp2_with fail
          refine (HD5.out _).mono ?_
          rintro e w' ⟨rfl, rfl⟩
          go_wp2_with fail
          go_ret2
          exact ⟨by rw [R1.out, R2.out]; rfl, rfl⟩
    · have e5 : ((s.extract 0 5).toList == [72, 84, 84, 80, 47]) = false := by rw [toList_bs]; exact beq_eq_false_iff_ne.2 h5
      have e5' : ((s.extract 0 5).toList != [72, 84, 84, 80, 47]) = true := by unfold bne; rw [e5]; rfl
      obtain ⟨r1, r2⟩ := hbad (.inr (.inl h5))
      have R1 := Lib.hid r1
      have R2 := Lib.hid r2
      clear hbad r1 r2 D5 D7 h5
      go_enter Tryz.func185, Tryz.ntmps185
      go_wp2_with fail
      go_ret2
      exact ⟨by rw [R1.out, R2.out]; rfl, rfl⟩
  · have e8 : ((s.size : Int) != 8) = true := by rw [bne_iff_ne]; omega
    obtain ⟨r1, r2⟩ := hbad (.inl h8)
    have R1 := Lib.hid r1
    have R2 := Lib.hid r2
    clear hbad r1 r2 h8
    go_enter Tryz.func185, Tryz.ntmps185
    go_wp2_with fail
    go_ret2
    exact ⟨by rw [R1.out, R2.out]; rfl, rfl⟩

theorem rSt_noT (l : Bs) (h : (cutL 32 l).2.2 = false) : rSt l = 400 := by
  unfold rSt
  rw [if_neg]
  intro hin
  unfold rIn at hin
  rw [Bool.and_eq_true] at hin
  have h2 := hin.2
  unfold rT at h2
  rw [cut_nil_of 32 l h, cut_empty] at h2
  exact absurd h2 (by decide)
theorem rSt_noV (l : Bs) (h : (cutL 32 (cutL 32 l).2.1).2.2 = false) : rSt l = 400 := by
  unfold rSt
  split
  · unfold rV
    rw [cut_nil_of 32 _ h]; decide
  · rfl
theorem rSt_notin (l : Bs) (h : rIn (rM l) (rT l) = false) : rSt l = 400 := by unfold rSt; rw [if_neg (by rw [h]; simp)]
theorem rSt_in (l : Bs) (h : rIn (rM l) (rT l) = true) : rSt l = vSt (rV l) := by unfold rSt; rw [if_pos h]
theorem req_ok (l : Bs) (h : rSt l = 0) : reqM l = rM l ∧ reqT l = rT l ∧ reqN l = vMi (rV l) := by
  unfold reqM reqT reqN
  rw [if_pos h, if_pos h, if_pos h]; exact ⟨rfl, rfl, rfl⟩

set_option maxHeartbeats 8000000 in
set_option maxRecDepth 100000 in
theorem rrequest_any (s : ByteArray) (w : World) (hs : s.size ≤ 1099511627) :
    Calls Tryz.prog 168 #[.string s] w (ReqPost (bs s) w) := by
  have l1 := cutl1 32 (bs s)
  have l2 := cutl2 32 (bs s)
  have l3 := cutl1 32 (cutL 32 (bs s)).2.1
  have l4 := cutl2 32 (cutL 32 (bs s)).2.1
  rw [length_bs] at l1 l2
  have hc1 := rcut_any s w (by omega)
  have hc2 := fun W => rcut_any (mkS (cutL 32 (bs s)).2.1) W (by rw [size_mkS]; omega)
  rw [bs_mkS] at hc2
  have hv := fun W => rversion_any (mkS (rV (bs s))) W (by rw [size_mkS]; unfold rV; omega)
  unfold RVer at hv
  have hq := fun W => rToken_any (mkS (rM (bs s))) W (by rw [size_mkS]; unfold rM; omega)
  have ht := fun W => rseen_any (mkS (rT (bs s))) W (by rw [size_mkS]; unfold rT; omega)
  rw [bs_mkS] at hv hq ht
  have hb := req_bad (bs s)
  have hno1 := rSt_noT (bs s)
  have hno2 := rSt_noV (bs s)
  have hni := rSt_notin (bs s)
  have hin := rSt_in (bs s)
  have hok := req_ok (bs s)
  have hI : rIn (rM (bs s)) (rT (bs s)) = (tokL (rM (bs s)) && someL vis (rT (bs s))) := rfl
  have hc1' : Calls Tryz.prog 184 #[.string s] w fun e w' => e = .returned (.tuple #[.string (mkS (rM (bs s))), .string (mkS (cutL 32 (bs s)).2.1), .bool (cutL 32 (bs s)).2.2]) ∧ Below w.heap.size w w' := hc1
  have hc2' : ∀ W, Calls Tryz.prog 184 #[.string (mkS (cutL 32 (bs s)).2.1)] W fun e w' => e = .returned (.tuple #[.string (mkS (rT (bs s))), .string (mkS (rV (bs s))), .bool (cutL 32 (cutL 32 (bs s)).2.1).2.2]) ∧ Below W.heap.size W w' := hc2
  clear l1 l2 l3 l4 hc1 hc2
  generalize hf2 : (cutL 32 (cutL 32 (bs s)).2.1).2.2 = f2 at *
  generalize mkS (cutL 32 (bs s)).2.1 = R at *
  generalize hf1 : (cutL 32 (bs s)).2.2 = f1 at *
  clear hf1 hf2
  rw [hI] at hni hin
  clear hI
  cases f1
  · have h400 := hno1 rfl
    obtain ⟨b1, b2, b3⟩ := hb 400 h400 (by omega)
    have H1 := Lib.hid h400
    have H2 := Lib.hid b1
    have H3 := Lib.hid b2
    have H4 := Lib.hid b3
    have HC1 := Lib.hid hc1'
    have HC2 := Lib.hid hc2'
    have HV := Lib.hid hv
    have HQ := Lib.hid hq
    have HT := Lib.hid ht
    clear hb hno1 hno2 hni hin hok hc1' hc2' hv hq ht h400 b1 b2 b3
    generalize mkS (rM (bs s)) = M at *
    generalize mkS (rT (bs s)) = T at *
    generalize mkS (rV (bs s)) = V at *
    generalize vMi (rV (bs s)) = n at *
    generalize vSt (rV (bs s)) = st at *
    go_enter Tryz.func168, Tryz.ntmps168
    go_wp2_with fail
    refine HC1.out.mono ?_
    rintro e w1 ⟨rfl, hb⟩
    have HB := Lib.hid hb
    clear hb
    go_wp2_with fail
    refine (HC2.out _).mono ?_
    rintro e w2 ⟨rfl, hb⟩
    have HB2 := Lib.hid (HB.out.trans (hb.mono HB.out.size))
    clear hb
    go_wp2_with fail
    try simp only [Exit.inBlock, Exit.then]
    refine bodyPost_ret (results_tmp4 rfl _ _ _) rfl ⟨?_, HB2.out⟩
    rw [H1.out, H2.out, H3.out, H4.out]; rfl
  · cases f2
    · have h400 := hno2 rfl
      obtain ⟨b1, b2, b3⟩ := hb 400 h400 (by omega)
      have H1 := Lib.hid h400
      have H2 := Lib.hid b1
      have H3 := Lib.hid b2
      have H4 := Lib.hid b3
      have HC1 := Lib.hid hc1'
      have HC2 := Lib.hid hc2'
      have HV := Lib.hid hv
      have HQ := Lib.hid hq
      have HT := Lib.hid ht
      clear hb hno1 hno2 hni hin hok hc1' hc2' hv hq ht h400 b1 b2 b3
      generalize mkS (rM (bs s)) = M at *
      generalize mkS (rT (bs s)) = T at *
      generalize mkS (rV (bs s)) = V at *
      generalize vMi (rV (bs s)) = n at *
      generalize vSt (rV (bs s)) = st at *
      go_enter Tryz.func168, Tryz.ntmps168
      go_wp2_with fail
      refine HC1.out.mono ?_
      rintro e w1 ⟨rfl, hb⟩
      have HB := Lib.hid hb
      clear hb
      go_wp2_with fail
      refine (HC2.out _).mono ?_
      rintro e w2 ⟨rfl, hb⟩
      have HB2 := Lib.hid (HB.out.trans (hb.mono HB.out.size))
      clear hb
      go_wp2_with fail
      try simp only [Exit.inBlock, Exit.then]
      refine bodyPost_ret (results_tmp4 rfl _ _ _) rfl ⟨?_, HB2.out⟩
      rw [H1.out, H2.out, H3.out, H4.out]; rfl
    · cases h1 : tokL (rM (bs s))
      · rw [h1] at hq
        have h400 := hni (by rw [h1]; rfl)
        obtain ⟨b1, b2, b3⟩ := hb 400 h400 (by omega)
        have H1 := Lib.hid h400
        have H2 := Lib.hid b1
        have H3 := Lib.hid b2
        have H4 := Lib.hid b3
        have HC1 := Lib.hid hc1'
        have HC2 := Lib.hid hc2'
        have HV := Lib.hid hv
        have HQ := Lib.hid hq
        have HT := Lib.hid ht
        clear hb hno1 hno2 hni hin hok hc1' hc2' hv hq ht h400 b1 b2 b3
        clear h1
        generalize mkS (rM (bs s)) = M at *
        generalize mkS (rT (bs s)) = T at *
        generalize mkS (rV (bs s)) = V at *
        generalize vMi (rV (bs s)) = n at *
        generalize vSt (rV (bs s)) = st at *
        go_enter Tryz.func168, Tryz.ntmps168
        go_wp2_with fail
        refine HC1.out.mono ?_
        rintro e w1 ⟨rfl, hb⟩
        have HB := Lib.hid hb
        clear hb
        go_wp2_with fail
        refine (HC2.out _).mono ?_
        rintro e w2 ⟨rfl, hb⟩
        have HB2 := Lib.hid (HB.out.trans (hb.mono HB.out.size))
        clear hb
        go_wp2_with fail
        refine (HQ.out _).mono ?_
        rintro e w' ⟨rfl, rfl⟩
        go_wp2_with fail
        try simp only [Exit.inBlock, Exit.then]
        refine bodyPost_ret (results_tmp4 rfl _ _ _) rfl ⟨?_, HB2.out⟩
        rw [H1.out, H2.out, H3.out, H4.out]; rfl
      · rw [h1] at hq
        cases h2 : someL vis (rT (bs s))
        · rw [h2] at ht
          have h400 := hni (by rw [h2]; simp)
          obtain ⟨b1, b2, b3⟩ := hb 400 h400 (by omega)
          have H1 := Lib.hid h400
          have H2 := Lib.hid b1
          have H3 := Lib.hid b2
          have H4 := Lib.hid b3
          have HC1 := Lib.hid hc1'
          have HC2 := Lib.hid hc2'
          have HV := Lib.hid hv
          have HQ := Lib.hid hq
          have HT := Lib.hid ht
          clear hb hno1 hno2 hni hin hok hc1' hc2' hv hq ht h400 b1 b2 b3
          clear h1 h2
          generalize mkS (rM (bs s)) = M at *
          generalize mkS (rT (bs s)) = T at *
          generalize mkS (rV (bs s)) = V at *
          generalize vMi (rV (bs s)) = n at *
          generalize vSt (rV (bs s)) = st at *
          go_enter Tryz.func168, Tryz.ntmps168
          go_wp2_with fail
          refine HC1.out.mono ?_
          rintro e w1 ⟨rfl, hb⟩
          have HB := Lib.hid hb
          clear hb
          go_wp2_with fail
          refine (HC2.out _).mono ?_
          rintro e w2 ⟨rfl, hb⟩
          have HB2 := Lib.hid (HB.out.trans (hb.mono HB.out.size))
          clear hb
          go_wp2_with fail
          refine (HQ.out _).mono ?_
          rintro e w' ⟨rfl, rfl⟩
          go_wp2_with fail
          refine (HT.out _).mono ?_
          rintro e w' ⟨rfl, rfl⟩
          go_wp2_with fail
          try simp only [Exit.inBlock, Exit.then]
          refine bodyPost_ret (results_tmp4 rfl _ _ _) rfl ⟨?_, HB2.out⟩
          rw [H1.out, H2.out, H3.out, H4.out]; rfl
        · rw [h2] at ht
          have hS2 := hin (by rw [h1, h2]; rfl)
          by_cases h0 : vSt (rV (bs s)) = 0
          · have e0 : ((vSt (rV (bs s)) : Int) != 0) = false := by rw [bne_eq_false_iff_eq]; omega
            have h00 := hS2.trans h0
            obtain ⟨b1, b2, b3⟩ := hok h00
            have H1 := Lib.hid h00
            have H2 := Lib.hid b1
            have H3 := Lib.hid b2
            have H4 := Lib.hid b3
            have HC1 := Lib.hid hc1'
            have HC2 := Lib.hid hc2'
            have HV := Lib.hid hv
            have HQ := Lib.hid hq
            have HT := Lib.hid ht
            clear hb hno1 hno2 hni hin hok hc1' hc2' hv hq ht h00 h0 h1 h2 hS2 b1 b2 b3
            generalize mkS (rV (bs s)) = V at *
            generalize vMi (rV (bs s)) = n at *
            generalize vSt (rV (bs s)) = st at *
            go_enter Tryz.func168, Tryz.ntmps168
            go_wp2_with fail
            refine HC1.out.mono ?_
            rintro e w1 ⟨rfl, hb⟩
            have HB := Lib.hid hb
            clear hb
            go_wp2_with fail
            refine (HC2.out _).mono ?_
            rintro e w2 ⟨rfl, hb⟩
            have HB2 := Lib.hid (HB.out.trans (hb.mono HB.out.size))
            clear hb
            go_wp2_with fail
            refine (HQ.out _).mono ?_
            rintro e w' ⟨rfl, rfl⟩
            go_wp2_with fail
            refine (HT.out _).mono ?_
            rintro e w' ⟨rfl, rfl⟩
            go_wp2_with fail
            refine (HV.out _).mono ?_
            rintro e w' ⟨rfl, rfl⟩
            go_wp2_with fail
            try simp only [Exit.inBlock, Exit.then]
            refine bodyPost_ret (results_tmp4 rfl _ _ _) rfl ⟨?_, HB2.out⟩
            rw [H1.out, H2.out, H3.out, H4.out]; rfl
          · have e0 : ((vSt (rV (bs s)) : Int) != 0) = true := by rw [bne_iff_ne]; omega
            obtain ⟨b1, b2, b3⟩ := hb _ hS2 h0
            have H1 := Lib.hid hS2
            have H2 := Lib.hid b1
            have H3 := Lib.hid b2
            have H4 := Lib.hid b3
            have HC1 := Lib.hid hc1'
            have HC2 := Lib.hid hc2'
            have HV := Lib.hid hv
            have HQ := Lib.hid hq
            have HT := Lib.hid ht
            clear hb hno1 hno2 hni hin hok hc1' hc2' hv hq ht h0 h1 h2 hS2 b1 b2 b3
            generalize mkS (rM (bs s)) = M at *
            generalize mkS (rT (bs s)) = T at *
            generalize mkS (rV (bs s)) = V at *
            generalize vMi (rV (bs s)) = n at *
            generalize vSt (rV (bs s)) = st at *
            go_enter Tryz.func168, Tryz.ntmps168
            go_wp2_with fail
            refine HC1.out.mono ?_
            rintro e w1 ⟨rfl, hb⟩
            have HB := Lib.hid hb
            clear hb
            go_wp2_with fail
            refine (HC2.out _).mono ?_
            rintro e w2 ⟨rfl, hb⟩
            have HB2 := Lib.hid (HB.out.trans (hb.mono HB.out.size))
            clear hb
            go_wp2_with fail
            refine (HQ.out _).mono ?_
            rintro e w' ⟨rfl, rfl⟩
            go_wp2_with fail
            refine (HT.out _).mono ?_
            rintro e w' ⟨rfl, rfl⟩
            go_wp2_with fail
            refine (HV.out _).mono ?_
            rintro e w' ⟨rfl, rfl⟩
            go_wp2_with fail
            try simp only [Exit.inBlock, Exit.then]
            refine bodyPost_ret (results_tmp4 rfl _ _ _) rfl ⟨?_, HB2.out⟩
            rw [H1.out, H2.out, H3.out, H4.out]; rfl
end Tk
end Go.Proofs.YtdlbmfgajgefdaaGreatDoor
namespace Go.Proofs.YtdlbmfgajgefdaaGreatDoor
open Go.RowKit
namespace Tk

theorem cells_newX (w : World) (cs : Array Value) (T : TypeId) (j : Nat) (u : Value) (h : cs.toList[j]? = some u) : (w.alloc (.cells cs T)).cell? ((⟨w.heap.size, 0, none⟩ : Addr).add j) = some u := by
  have e : (w.alloc (.cells cs T)).cell? ⟨w.heap.size, j, none⟩ = some u := by
    rw [Lib.cell_of_heap (heap_alloc_last w _)]
    rw [Array.getElem?_toList] at h
    exact h
  by_cases hj : j = 0
  · subst hj; simpa [Addr.add] using e
  · simpa [Addr.add, hj] using e

theorem okMinor_no {n : Int} (h : n < 0 ∨ 1 < n) : okMinor n = false := by
  unfold okMinor; rw [decide_eq_false_iff_not]; omega

theorem rline_eq (m t : ByteArray) (d : UInt8) (v : Nat) (hd : d = UInt8.ofNat (48 + v)) : m ++ ⟨#[32]⟩ ++ t ++ ⟨#[32, 72, 84, 84, 80, 47, 49, 46]⟩ ++ ⟨[d].toArray⟩ = mkS (reqLine (bs m) (bs t) v) := by
  have h1 : m = mkS (bs m) := (mkS_bs m).symm
  have h2 : t = mkS (bs t) := (mkS_bs t).symm
  conv => lhs; rw [h1, h2, show (⟨#[32]⟩ : ByteArray) = mkS [32] from rfl, show (⟨#[32, 72, 84, 84, 80, 47, 49, 46]⟩ : ByteArray) = mkS [32, 72, 84, 84, 80, 47, 49, 46] from rfl, show (⟨[d].toArray⟩ : ByteArray) = mkS [d] from rfl]
  rw [mkS_append, mkS_append, mkS_append, mkS_append, hd]
  unfold reqLine vText
  simp

set_option maxHeartbeats 4000000 in
set_option maxRecDepth 100000 in
theorem rrline_any (m t : ByteArray) (n : Int) (w : World) (hm : m.size ≤ 1099511627) (ht : t.size ≤ 1099511627) :
    Calls Tryz.prog 114 #[.string m, .string t, .int .i64 n] w (RlPost (bs m) (bs t) n w) := by
  have hq := rToken_any m w (by omega)
  have hs := fun W => rseen_any t W (by omega)
  have hb : rlB (bs m) (bs t) n = ((tokL (bs m) && someL vis (bs t)) && okMinor n) := rfl
  cases h1 : tokL (bs m)
  · rw [h1] at hq hb
    obtain ⟨r1, r2⟩ := rl_no (show rlB (bs m) (bs t) n = false by rw [hb]; rfl)
    have R1 := Lib.hid r1
    have R2 := Lib.hid r2
    have HQ := Lib.hid hq
    clear r1 r2 hq hs hb h1
    go_enter Tryz.func114, Tryz.ntmps114
    go_wp2_with fail
    refine HQ.out.mono ?_
    rintro e w' ⟨rfl, rfl⟩
    go_wp2_with fail
    go_ret2
    exact ⟨by rw [R1.out, R2.out]; rfl, Below.refl _ _⟩
  · rw [h1] at hq hb
    have HQ := Lib.hid hq
    clear hq
    cases h2 : someL vis (bs t)
    · rw [h2] at hs hb
      obtain ⟨r1, r2⟩ := rl_no (show rlB (bs m) (bs t) n = false by rw [hb]; rfl)
      have R1 := Lib.hid r1
      have R2 := Lib.hid r2
      have HS := Lib.hid hs
      clear r1 r2 hs hb h1 h2
      go_enter Tryz.func114, Tryz.ntmps114
      go_wp2_with fail
      refine HQ.out.mono ?_
      rintro e w' ⟨rfl, rfl⟩
      go_wp2_with fail
      refine (HS.out _).mono ?_
      rintro e w' ⟨rfl, rfl⟩
      go_wp2_with fail
      go_ret2
      exact ⟨by rw [R1.out, R2.out]; rfl, Below.refl _ _⟩
    · rw [h2] at hs hb
      have HS := Lib.hid hs
      clear hs
      by_cases n0 : n < 0
      · obtain ⟨r1, r2⟩ := rl_no (show rlB (bs m) (bs t) n = false by rw [hb, okMinor_no (.inl n0)]; rfl)
        have R1 := Lib.hid r1
        have R2 := Lib.hid r2
        clear r1 r2 hb h1 h2
        go_enter Tryz.func114, Tryz.ntmps114
        go_wp2_with fail
        refine HQ.out.mono ?_
        rintro e w' ⟨rfl, rfl⟩
        go_wp2_with fail
        refine (HS.out _).mono ?_
        rintro e w' ⟨rfl, rfl⟩
        go_wp2_with fail
        go_ret2
        exact ⟨by rw [R1.out, R2.out]; rfl, Below.refl _ _⟩
      · by_cases n1 : 1 < n
        · obtain ⟨r1, r2⟩ := rl_no (show rlB (bs m) (bs t) n = false by rw [hb, okMinor_no (.inr n1)]; rfl)
          have R1 := Lib.hid r1
          have R2 := Lib.hid r2
          clear r1 r2 hb h1 h2
          go_enter Tryz.func114, Tryz.ntmps114
          go_wp2_with fail
          refine HQ.out.mono ?_
          rintro e w' ⟨rfl, rfl⟩
          go_wp2_with fail
          refine (HS.out _).mono ?_
          rintro e w' ⟨rfl, rfl⟩
          go_wp2_with fail
          go_ret2
          exact ⟨by rw [R1.out, R2.out]; rfl, Below.refl _ _⟩
        · have hv : n = 0 ∨ n = 1 := by omega
          have hok : okMinor n = true := by unfold okMinor; rw [decide_eq_true_eq]; exact hv
          obtain ⟨r1, r2⟩ := rl_yes (show rlB (bs m) (bs t) n = true by rw [hb, hok]; rfl)
          have R1 := Lib.hid r1
          have R2 := Lib.hid r2
          have hz1 : (m ++ ⟨#[32]⟩ : ByteArray).size = m.size + 1 := by rw [ByteArray.size_append]; rfl
          have hz2 : (m ++ ⟨#[32]⟩ ++ t : ByteArray).size = m.size + 1 + t.size := by rw [ByteArray.size_append, hz1]
          have hz3 : (m ++ ⟨#[32]⟩ ++ t ++ ⟨#[32, 72, 84, 84, 80, 47, 49, 46]⟩ : ByteArray).size = m.size + 1 + t.size + 8 := by rw [ByteArray.size_append, hz2]; rfl
          have g1 : (m ++ ⟨#[32]⟩ : ByteArray).size ≤ 9223372036854775807 := by omega
          have g2 : (m ++ ⟨#[32]⟩ ++ t : ByteArray).size ≤ 9223372036854775807 := by omega
          have g3 : (m ++ ⟨#[32]⟩ ++ t ++ ⟨#[32, 72, 84, 84, 80, 47, 49, 46]⟩ : ByteArray).size ≤ 3298534883328 := by omega
          clear hz1 hz2 hz3 r1 r2 hb h1 h2 n0 n1 hok
          rcases hv with rfl | rfl
          · have HE := Lib.hid (rline_eq m t 48 0 rfl)
            have hback := run_convert_bytes_back (P := Tryz.prog) (w.alloc (Obj.cells #[.int .u8 48] 5)) 84 9 5 ⟨w.heap.size, 0, none⟩ 1 [48] Tryz.underlying84 Tryz.underlying5 Tryz.underlying9 (fun j hj => cells_newX w _ _ j _ (by
              match j, hj with
              | 0, _ => rfl))
            rw [show [(48 : UInt8)].length = 1 from rfl] at hback
            go_enter Tryz.func114, Tryz.ntmps114
            go_wp2_with fail
            refine HQ.out.mono ?_
            rintro e w' ⟨rfl, rfl⟩
            go_wp2_with fail
            refine (HS.out _).mono ?_
            rintro e w' ⟨rfl, rfl⟩
            go_wp2_with fail
            go_ret2
            exact ⟨by rw [R1.out, R2.out, show (0 : Int).toNat = 0 from rfl, ← HE.out]; rfl, (Below.refl _ _).alloc (Nat.le_refl _) _⟩
          · have HE := Lib.hid (rline_eq m t 49 1 rfl)
            have hback := run_convert_bytes_back (P := Tryz.prog) (w.alloc (Obj.cells #[.int .u8 49] 5)) 84 9 5 ⟨w.heap.size, 0, none⟩ 1 [49] Tryz.underlying84 Tryz.underlying5 Tryz.underlying9 (fun j hj => cells_newX w _ _ j _ (by
              match j, hj with
              | 0, _ => rfl))
            rw [show [(49 : UInt8)].length = 1 from rfl] at hback
            go_enter Tryz.func114, Tryz.ntmps114
            go_wp2_with fail
            refine HQ.out.mono ?_
            rintro e w' ⟨rfl, rfl⟩
            go_wp2_with fail
            refine (HS.out _).mono ?_
            rintro e w' ⟨rfl, rfl⟩
            go_wp2_with fail
            go_ret2
            exact ⟨by rw [R1.out, R2.out, show (1 : Int).toNat = 1 from rfl, ← HE.out]; rfl, (Below.refl _ _).alloc (Nat.le_refl _) _⟩

theorem sline_eq (d : UInt8) (v k : Nat) (a b c : UInt8) (r : ByteArray) (hd : d = UInt8.ofNat (48 + v)) (h0 : 100 ≤ k) (h1 : k ≤ 599) (ha : a = UInt8.ofNat (48 + k / 100)) (hb : b = UInt8.ofNat (48 + k / 10 % 10)) (hc : c = UInt8.ofNat (48 + k % 10)) :
    (⟨#[72, 84, 84, 80, 47, 49, 46]⟩ : ByteArray) ++ ⟨[d].toArray⟩ ++ ⟨#[32]⟩ ++ ⟨[a, b, c].toArray⟩ ++ ⟨#[32]⟩ ++ r = mkS (staLine v k (bs r)) := by
  have h2 : r = mkS (bs r) := (mkS_bs r).symm
  conv => lhs; rw [h2, show (⟨#[32]⟩ : ByteArray) = mkS [32] from rfl, show (⟨#[72, 84, 84, 80, 47, 49, 46]⟩ : ByteArray) = mkS [72, 84, 84, 80, 47, 49, 46] from rfl, show (⟨[d].toArray⟩ : ByteArray) = mkS [d] from rfl, show (⟨[a, b, c].toArray⟩ : ByteArray) = mkS [a, b, c] from rfl]
  rw [mkS_append, mkS_append, mkS_append, mkS_append, mkS_append, hd, ha, hb, hc]
  unfold staLine vText
  rw [digL_three k h0 h1]
  simp

set_option maxHeartbeats 4000000 in
set_option maxRecDepth 100000 in
theorem rsline_any (m n : Int) (r : ByteArray) (w : World) (hr : r.size ≤ 1099511627) :
    Calls Tryz.prog 115 #[.int .i64 m, .int .i64 n, .string r] w (SlPost m n (bs r) w) := by
  have hq := rChars_any r w (by omega)
  have hb : slB m n (bs r) = (okMinor m && (decide (100 ≤ n) && decide (n ≤ 599) && allL 1 (bs r))) := rfl
  have HQ := Lib.hid hq
  clear hq
  by_cases m0 : m < 0
  · obtain ⟨r1, r2⟩ := sl_no (show slB m n (bs r) = false by rw [hb, okMinor_no (.inl m0)]; rfl)
    have R1 := Lib.hid r1
    have R2 := Lib.hid r2
    clear r1 r2 hb HQ
    go_enter Tryz.func115, Tryz.ntmps115
    go_wp2_with fail
    go_ret2
    exact ⟨by rw [R1.out, R2.out]; rfl, Below.refl _ _⟩
  by_cases m1 : 1 < m
  · obtain ⟨r1, r2⟩ := sl_no (show slB m n (bs r) = false by rw [hb, okMinor_no (.inr m1)]; rfl)
    have R1 := Lib.hid r1
    have R2 := Lib.hid r2
    clear r1 r2 hb HQ
    go_enter Tryz.func115, Tryz.ntmps115
    go_wp2_with fail
    go_ret2
    exact ⟨by rw [R1.out, R2.out]; rfl, Below.refl _ _⟩
  by_cases n0 : n < 100
  · obtain ⟨r1, r2⟩ := sl_no (show slB m n (bs r) = false by rw [hb, decide_eq_false (show ¬ 100 ≤ n by omega)]; simp)
    have R1 := Lib.hid r1
    have R2 := Lib.hid r2
    clear r1 r2 hb HQ
    go_enter Tryz.func115, Tryz.ntmps115
    go_wp2_with fail
    go_ret2
    exact ⟨by rw [R1.out, R2.out]; rfl, Below.refl _ _⟩
  by_cases n1 : 599 < n
  · obtain ⟨r1, r2⟩ := sl_no (show slB m n (bs r) = false by rw [hb, decide_eq_false (show ¬ n ≤ 599 by omega)]; simp)
    have R1 := Lib.hid r1
    have R2 := Lib.hid r2
    clear r1 r2 hb HQ
    go_enter Tryz.func115, Tryz.ntmps115
    go_wp2_with fail
    go_ret2
    exact ⟨by rw [R1.out, R2.out]; rfl, Below.refl _ _⟩
  cases hc : allL 1 (bs r)
  · rw [hc] at HQ
    obtain ⟨r1, r2⟩ := sl_no (show slB m n (bs r) = false by rw [hb, hc]; simp)
    have R1 := Lib.hid r1
    have R2 := Lib.hid r2
    clear r1 r2 hb hc
    go_enter Tryz.func115, Tryz.ntmps115
    go_wp2_with fail
    refine HQ.out.mono ?_
    rintro e w' ⟨rfl, rfl⟩
    go_wp2_with fail
    go_ret2
    exact ⟨by rw [R1.out, R2.out]; rfl, Below.refl _ _⟩
  · rw [hc] at HQ
    have hv : m = 0 ∨ m = 1 := by omega
    have hok : okMinor m = true := by unfold okMinor; rw [decide_eq_true_eq]; exact hv
    obtain ⟨r1, r2⟩ := sl_yes (show slB m n (bs r) = true by rw [hb, hok, hc, decide_eq_true (show 100 ≤ n by omega), decide_eq_true (show n ≤ 599 by omega)]; rfl)
    have R1 := Lib.hid r1
    have R2 := Lib.hid r2
    obtain ⟨k, rfl⟩ : ∃ k : Nat, n = k := ⟨n.toNat, by omega⟩
    clear r1 r2 hb hc hok
    have h100 : 100 ≤ k := by omega
    have h599 : k ≤ 599 := by omega
    obtain ⟨a, ha⟩ : ∃ a, a = UInt8.ofNat (48 + k / 100) := ⟨_, rfl⟩
    obtain ⟨b, hb⟩ : ∃ b, b = UInt8.ofNat (48 + k / 10 % 10) := ⟨_, rfl⟩
    obtain ⟨c, hc⟩ : ∃ c, c = UInt8.ofNat (48 + k % 10) := ⟨_, rfl⟩
    have ta : (a.toNat : Int) = 48 + (k : Int) / 100 := by rw [ha, UInt8.toNat_ofNat']; omega
    have tb : (b.toNat : Int) = 48 + (k : Int) / 10 % 10 := by rw [hb, UInt8.toNat_ofNat']; omega
    have tc : (c.toNat : Int) = 48 + (k : Int) % 10 := by rw [hc, UInt8.toNat_ofNat']; omega
    have wa : IntKind.u8.wrap (48 + (k : Int) / 100) = 48 + (k : Int) / 100 := by
      rw [← ta]; have := a.toNat_lt; simp [IntKind.wrap, IntKind.signed, IntKind.bits]; omega
    have wb : IntKind.u8.wrap (48 + (k : Int) / 10 % 10) = 48 + (k : Int) / 10 % 10 := by
      rw [← tb]; have := b.toNat_lt; simp [IntKind.wrap, IntKind.signed, IntKind.bits]; omega
    have wc : IntKind.u8.wrap (48 + (k : Int) % 10) = 48 + (k : Int) % 10 := by
      rw [← tc]; have := c.toNat_lt; simp [IntKind.wrap, IntKind.signed, IntKind.bits]; omega
    rcases hv with rfl | rfl
    · have HE := Lib.hid (sline_eq 48 0 k a b c r rfl h100 h599 ha hb hc)
      have hback1 := run_convert_bytes_back (P := Tryz.prog) (w.alloc (Obj.cells #[.int .u8 48] 5)) 84 9 5 ⟨w.heap.size, 0, none⟩ 1 [48] Tryz.underlying84 Tryz.underlying5 Tryz.underlying9 (fun j hj => cells_newX w _ _ j _ (by
        match j, hj with
        | 0, _ => rfl))
      rw [show [(48 : UInt8)].length = 1 from rfl] at hback1
      have hback2 := run_convert_bytes_back (P := Tryz.prog) ((w.alloc (Obj.cells #[.int .u8 48] 5)).alloc (Obj.cells #[.int .u8 (48 + (k : Int) / 100), .int .u8 (48 + (k : Int) / 10 % 10), .int .u8 (48 + (k : Int) % 10)] 5)) 84 9 5 ⟨(w.alloc (Obj.cells #[.int .u8 48] 5)).heap.size, 0, none⟩ 3 [a, b, c] Tryz.underlying84 Tryz.underlying5 Tryz.underlying9 (fun j hj => cells_newX _ _ _ j _ (by
        match j, hj with
        | 0, _ => show some (Value.int .u8 (48 + (k : Int) / 100)) = some (.int .u8 (a.toNat : Int)); rw [ta]
        | 1, _ => show some (Value.int .u8 (48 + (k : Int) / 10 % 10)) = some (.int .u8 (b.toNat : Int)); rw [tb]
        | 2, _ => show some (Value.int .u8 (48 + (k : Int) % 10)) = some (.int .u8 (c.toNat : Int)); rw [tc]))
      rw [show [a, b, c].length = 3 from rfl, show (w.alloc (Obj.cells #[.int .u8 48] 5)).heap.size = w.heap.size + 1 by simp] at hback2
      have hbl : Below w.heap.size w ((w.alloc (Obj.cells #[.int .u8 48] 5)).alloc (Obj.cells #[.int .u8 (48 + (k : Int) / 100), .int .u8 (48 + (k : Int) / 10 % 10), .int .u8 (48 + (k : Int) % 10)] 5)) := ((Below.refl _ _).alloc (Nat.le_refl _) _).alloc (by simp) _
      have HBL := Lib.hid hbl
      have z1 : (⟨[(48 : UInt8)].toArray⟩ : ByteArray).size = 1 := rfl
      have z2 : (⟨[a, b, c].toArray⟩ : ByteArray).size = 3 := rfl
      clear ha hb hc ta tb tc hbl
      go_enter Tryz.func115, Tryz.ntmps115
      go_wp2_with fail
      refine HQ.out.mono ?_
      rintro e w' ⟨rfl, rfl⟩
      go_wp2_with fail
      go_ret2
      exact ⟨by rw [R1.out, R2.out, show (0 : Int).toNat = 0 from rfl, Int.toNat_natCast, ← HE.out]; rfl, HBL.out⟩
    · have HE := Lib.hid (sline_eq 49 1 k a b c r rfl h100 h599 ha hb hc)
      have hback1 := run_convert_bytes_back (P := Tryz.prog) (w.alloc (Obj.cells #[.int .u8 49] 5)) 84 9 5 ⟨w.heap.size, 0, none⟩ 1 [49] Tryz.underlying84 Tryz.underlying5 Tryz.underlying9 (fun j hj => cells_newX w _ _ j _ (by
        match j, hj with
        | 0, _ => rfl))
      rw [show [(49 : UInt8)].length = 1 from rfl] at hback1
      have hback2 := run_convert_bytes_back (P := Tryz.prog) ((w.alloc (Obj.cells #[.int .u8 49] 5)).alloc (Obj.cells #[.int .u8 (48 + (k : Int) / 100), .int .u8 (48 + (k : Int) / 10 % 10), .int .u8 (48 + (k : Int) % 10)] 5)) 84 9 5 ⟨(w.alloc (Obj.cells #[.int .u8 49] 5)).heap.size, 0, none⟩ 3 [a, b, c] Tryz.underlying84 Tryz.underlying5 Tryz.underlying9 (fun j hj => cells_newX _ _ _ j _ (by
        match j, hj with
        | 0, _ => show some (Value.int .u8 (48 + (k : Int) / 100)) = some (.int .u8 (a.toNat : Int)); rw [ta]
        | 1, _ => show some (Value.int .u8 (48 + (k : Int) / 10 % 10)) = some (.int .u8 (b.toNat : Int)); rw [tb]
        | 2, _ => show some (Value.int .u8 (48 + (k : Int) % 10)) = some (.int .u8 (c.toNat : Int)); rw [tc]))
      rw [show [a, b, c].length = 3 from rfl, show (w.alloc (Obj.cells #[.int .u8 49] 5)).heap.size = w.heap.size + 1 by simp] at hback2
      have hbl : Below w.heap.size w ((w.alloc (Obj.cells #[.int .u8 49] 5)).alloc (Obj.cells #[.int .u8 (48 + (k : Int) / 100), .int .u8 (48 + (k : Int) / 10 % 10), .int .u8 (48 + (k : Int) % 10)] 5)) := ((Below.refl _ _).alloc (Nat.le_refl _) _).alloc (by simp) _
      have HBL := Lib.hid hbl
      have z1 : (⟨[(49 : UInt8)].toArray⟩ : ByteArray).size = 1 := rfl
      have z2 : (⟨[a, b, c].toArray⟩ : ByteArray).size = 3 := rfl
      clear ha hb hc ta tb tc hbl
      go_enter Tryz.func115, Tryz.ntmps115
      go_wp2_with fail
      refine HQ.out.mono ?_
      rintro e w' ⟨rfl, rfl⟩
      go_wp2_with fail
      go_ret2
      exact ⟨by rw [R1.out, R2.out, show (1 : Int).toNat = 1 from rfl, Int.toNat_natCast, ← HE.out]; rfl, HBL.out⟩
end Tk
end Go.Proofs.YtdlbmfgajgefdaaGreatDoor
namespace Go.Proofs.YtdlbmfgajgefdaaGreatDoor
open Go.RowKit
namespace Tk

set_option maxHeartbeats 2000000 in
set_option maxRecDepth 100000 in
theorem rcheck_any (n v : ByteArray) (w : World) (hn : n.size ≤ 1099511627776) (hv : v.size ≤ 1099511627776) :
    Calls Tryz.prog 116 #[.agg #[.string n, .string v]] w fun e w' => e = .returned (.int .i64 (okE (bs n) (bs v))) ∧ Below w.heap.size w w' := by
  have HT := Lib.hid (fun W : World => show Calls Tryz.prog 41 #[.string n] W (fun e w' => e = .returned (.bool (!(bs n).isEmpty && allL 2 (bs n))) ∧ Below W.heap.size W w') from (rToken_any n W hn).mono fun _ _ h => ⟨h.1, h.2 ▸ Below.refl _ _⟩)
  have HC := Lib.hid (fun W : World => show Calls Tryz.prog 140 #[.string v] W (fun e w' => e = .returned (.bool (allL 1 (bs v))) ∧ Below W.heap.size W w') from (rChars_any v W hv).mono fun _ _ h => ⟨h.1, h.2 ▸ Below.refl _ _⟩)
  have HR := Lib.hid (fun W : World => show Calls Tryz.prog 126 #[.string v] W (fun e w' => e = .returned (.string (mkS (trimL (bs v)))) ∧ Below W.heap.size W w') from (rTrim_any v W hv).mono fun _ _ h => ⟨h.1, h.2 ▸ Below.refl _ _⟩)
  obtain ⟨hN0, hN1⟩ := cell_new w (.string n) (.string v) 32
  have hB0 : Below w.heap.size w (w.alloc (.cells #[.string n, .string v] 32)).drew := ((Below.refl _ _).alloc (Nat.le_refl _) _).drew
  have hg : w.heap.size < (w.alloc (.cells #[.string n, .string v] 32)).heap.size := by simp
  have hgl := Nat.le_of_lt hg
  cases ht : (!(bs n).isEmpty && allL 2 (bs n))
  · have fin : okE (bs n) (bs v) = 4 := okE_no _ _ (by unfold okF; rw [ht]; rfl)
    rw [ht] at HT
    have HF := Lib.hid fin
    clear fin ht
    go_enter Tryz.func116, Tryz.ntmps116
    go_wp2_with fail
    generalize w.alloc (.cells #[.string n, .string v] 32) = W0 at *
    generalize hgw : w.heap.size = g at *
    have HGW := Lib.hid hgw
    clear hgw
    first
    | go_region_with (first | (go_at_call 41; refine (keep_cell (HT.out _) ⟨g, 1, none⟩ _ (by assumption) (by assumption) (by assumption) (by assumption)).mono ?_; rintro e w' ⟨rfl, hb, hs, hc', hg'⟩))
    | fail
    all_goals
      go_wp2_with fail
      go_ret
      exact ⟨by rw [HF.out]; rfl, by rw [HGW.out]; assumption⟩
  · rw [ht] at HT
    cases hc : allL 1 (bs v)
    · have fin : okE (bs n) (bs v) = 4 := okE_no _ _ (by unfold okF; rw [ht, hc]; rfl)
      rw [hc] at HC
      have HF := Lib.hid fin
      clear fin ht hc
      go_enter Tryz.func116, Tryz.ntmps116
      go_wp2_with fail
      generalize w.alloc (.cells #[.string n, .string v] 32) = W0 at *
      generalize hgw : w.heap.size = g at *
      have HGW := Lib.hid hgw
      clear hgw
      first
      | go_region_with (first | (go_at_call 41; refine (keep_cell (HT.out _) ⟨g, 1, none⟩ _ (by assumption) (by assumption) (by assumption) (by assumption)).mono ?_; rintro e w' ⟨rfl, hb, hs, hc', hg'⟩) | (go_at_call 140; refine (keep_cell (HC.out _) ⟨g, 1, none⟩ _ (by assumption) (by assumption) (by assumption) (by assumption)).mono ?_; rintro e w' ⟨rfl, hb, hs, hc', hg'⟩))
      | fail
      all_goals
        go_wp2_with fail
        go_ret
        exact ⟨by rw [HF.out]; rfl, by rw [HGW.out]; assumption⟩
    · have hne := beq_bs (trimL (bs v)) v
      rw [hc] at HC
      cases htr : decide (trimL (bs v) = bs v)
      all_goals
        have hfin : okE (bs n) (bs v) = if decide (trimL (bs v) = bs v) then 0 else 4 := by unfold okE okF; rw [ht, hc]; simp
        rw [htr] at hne hfin
        have HF := Lib.hid hfin
        clear hfin ht hc htr
        generalize trimL (bs v) = t at *
        go_enter Tryz.func116, Tryz.ntmps116
        go_wp2_with fail
        generalize w.alloc (.cells #[.string n, .string v] 32) = W0 at *
        generalize hgw : w.heap.size = g at *
        have HGW := Lib.hid hgw
        clear hgw
        first
        | go_region_with (first | (go_at_call 41; refine (keep_cell (HT.out _) ⟨g, 1, none⟩ _ (by assumption) (by assumption) (by assumption) (by assumption)).mono ?_; rintro e w' ⟨rfl, hb, hs, hc', hg'⟩) | (go_at_call 140; refine (keep_cell (HC.out _) ⟨g, 1, none⟩ _ (by assumption) (by assumption) (by assumption) (by assumption)).mono ?_; rintro e w' ⟨rfl, hb, hs, hc', hg'⟩) | (go_at_call 126; refine (keep_cell (HR.out _) ⟨g, 1, none⟩ _ (by assumption) (by assumption) (by assumption) (by assumption)).mono ?_; rintro e w' ⟨rfl, hb, hs, hc', hg'⟩))
        | fail
        all_goals
          go_wp2_with fail
          go_ret
          exact ⟨by rw [HF.out]; rfl, by rw [HGW.out]; assumption⟩
end Tk
end Go.Proofs.YtdlbmfgajgefdaaGreatDoor
namespace Go.Proofs.YtdlbmfgajgefdaaGreatDoor
open Go.RowKit
namespace Tk

theorem two58 : (ByteArray.mk #[58, 32]).size = 2 := rfl
theorem two13 : (ByteArray.mk #[13, 10]).size = 2 := rfl

theorem step_str {ops : Array Oper} {w w0 : World} {o : Oper} {a : Act} {K : Act → World → Prop} {Q : Exit → Act → World → Prop} {E : Prop} (hgd : o.guard = none) (s x : Operand)
    (ho : o.op = .call { callee := .builtin .append, args := #[s, x], argTypes := #[84, 9] })
    (base : Nat) (v : Value) (P : Bs) (t : ByteArray) (hs : a.eval s = v) (hx : a.eval x = .string t) (h1 : w.ownsRow base 5 1 v P.length (Lib.byteCells P))
    (hB : base ≤ w.heap.size) (hP : P.length + t.size ≤ 1048576) (p q : Addr) (u1 u2 : Value) (hcell : ∀ W, Below base w0 W → W.cell? p = some u1 ∧ W.cell? q = some u2) (hb : Below base w0 w)
    (h : ∀ v' w', w'.ownsRow base 5 1 v' (P ++ bs t).length (Lib.byteCells (P ++ bs t)) → Below base w0 w' → w'.cell? p = some u1 → w'.cell? q = some u2 → base ≤ w'.heap.size → K (a.put o.dst v') w') :
    if Region.wanted o (yielded ops a.tmps) = true then Oper.wp Tryz.prog o a w K Q else E := by
  have hw : Region.wanted o (yielded ops a.tmps) = true := by simp [Region.wanted, hgd]
  rw [if_pos hw]
  obtain ⟨i0, hi, hz0, hz1, hz2⟩ := info_parts byteInf
  obtain ⟨v', w', hr, h2, h3, -⟩ := Lib.run_append_own_string (P := Tryz.prog) w base 84 9 o.type 5 i0 Tryz.underlying84 Tryz.underlying9 hi hz0 hz1 hz2 v P.length (Lib.byteCells P) h1 t (by unfold maxLen; omega) (by omega) hB
  have hb2 := hb.grown h3 hB (fun k hk => (h1.lt k hk).1)
  have hc := hcell _ hb2
  have hsz : w.heap.size ≤ w'.heap.size := h3.size
  unfold Oper.wp execOp
  simp only [ho, resolve, invoke, builtin, Sem.run_bind, Sem.run_pure, Result.andThen_ok, List.map_toArray, List.map_cons, List.map_nil, hs, hx, hr]
  refine h v' w' ?_ hb2 hc.1 hc.2 (Nat.le_trans hB hsz)
  rw [List.length_append, length_bs, cells_str]
  exact h2

theorem conv_bytes {w : World} {B : Nat} {v : Value} {P : Bs} (h : w.ownsRow B 5 1 v P.length (Lib.byteCells P)) : ∃ a c, v = .slice a P.length c ∧ (convert 84 9 (.slice a P.length c)).run Tryz.prog w = .ok (.string (mkS P)) w := by
  rcases h.2 with ⟨hv, hn⟩ | ⟨g, cap, cur, hv, _⟩
  · have hP : P = [] := List.eq_nil_of_length_eq_zero hn
    subst hP
    exact ⟨none, 0, hv, run_convert_bytes_nil w 84 5 Tryz.underlying84 Tryz.underlying5 0 0 9 Tryz.underlying9⟩
  · refine ⟨some ⟨g, 0, none⟩, cap, hv, ?_⟩
    exact run_convert_bytes_back (P := Tryz.prog) w 84 9 5 ⟨g, 0, none⟩ cap P Tryz.underlying84 Tryz.underlying5 Tryz.underlying9 (fun j hj => h.cells (g := g) (by rw [hv]; rfl) j _ (by simp [Lib.byteCells, hj]))

set_option maxHeartbeats 8000000 in
set_option maxRecDepth 100000 in
theorem rbytes_any (v : Value) (l : List (Bs × Bs)) (w : World) (hs : IsFlds w v l) (hz : sumF l ≤ 100000) (hl : l.length ≤ 100000) :
    Calls Tryz.prog 82 #[v] w (BytesPost l w) := by
  have HS := Lib.hid hs
  obtain ⟨a, cap, rfl⟩ : ∃ a cap, v = .slice a l.length cap := by obtain ⟨a, c, h, -⟩ := hs; exact ⟨a, c, h⟩
  have HMem := Lib.hid (sumF_mem l)
  have HZ := Lib.hid hz
  clear hs hz
  go_enter Tryz.func82, Tryz.ntmps82
  go_wp2_with fail
  go_loopw [4, 5] (fun v4 vi wr => ∃ i : Nat, i ≤ l.length ∧ vi = .int .i64 i ∧ Hid (okFs (l.take i) = true) ∧ Hid (wr.ownsRow w.heap.size 5 1 v4 (linesF (l.take i)).length (Lib.byteCells (linesF (l.take i)))) ∧ Hid (Below w.heap.size w wr)) (fun _ vi _ => l.length - (RowKit.intOf vi).toNat)
  case atStart => exact ⟨0, Nat.zero_le _, rfl, rfl, World.ownsRow_nil _ _ _ _, Below.refl _ _⟩
  case round =>
    obtain ⟨i, hi, rfl, hok, HO, HB⟩ := hrel
    rename World => W
    have hpl := lines_len (l.take i)
    have hpt := sumF_take l i
    by_cases hlt : i < l.length
    · obtain ⟨a', c', e', hcap, hc⟩ := isFlds_below HS.out HB.out
      injection e' with e1 _ e2
      subst e1 e2
      obtain ⟨b, o, rfl, hc0, hc1⟩ := hc i (l.getD i ([], [])) (by simp [List.getD, hlt])
      have hmm : l.getD i ([], []) ∈ l := by simp [List.getD, hlt]
      have hm := HMem.out _ hmm
      have htk : l.take (i + 1) = l.take i ++ [l.getD i ([], [])] := by
        rw [List.take_succ_eq_append_getElem hlt]; simp [List.getD, hlt]
      have HTK := Lib.hid htk
      have HMM := Lib.hid hmm
      clear hc htk hmm
      generalize l.getD i ([], []) = f at *
      obtain ⟨n, x⟩ := f
      have hnz := size_mkS n
      have hxz := size_mkS x
      simp only at hm hc0 hc1
      have hmz : n.length + x.length ≤ 100000 := by have := HZ.out; omega
      have HC := fun W : World => rcheck_any (mkS n) (mkS x) W (by omega) (by omega)
      rw [bs_mkS, bs_mkS] at HC
      have g0 : (0 : Int) ≤ (i : Int) := by omega
      have g1 : (i : Int) < (l.length : Int) := by omega
      have hlb : b < W.heap.size := cell_lt (p := ⟨b, o + i * 2, none⟩) hc0
      have HLen := Lib.hid (show (linesF (l.take i)).length ≤ 100000 ∧ n.length + x.length ≤ 100000 from ⟨by rw [hpl]; have := HZ.out; omega, hmz⟩)
      clear hnz hxz hm hmz hpl hpt
      cases hk : okF n x
      · rw [okE_no _ _ hk] at HC
        have hno := okFs_take_no l (n, x) HMM.out hk
        have e1 : byN l = [] := by unfold byN; rw [hno]; rfl
        have e2 : byE l = 4 := by unfold byE; rw [hno]; rfl
        have E1 := Lib.hid e1
        have E2 := Lib.hid e2
        have HC2 := Lib.hid HC
        clear HC hk hno e1 e2
        go_wp2_with fail
        refine (HC2.out _).mono ?_
        rintro e w5 ⟨rfl, hb⟩
        have HB5 := Lib.hid (HB.out.trans (hb.mono HB.out.size))
        clear hb
        go_wp2_with fail
        go_ret2
        exact ⟨by rw [E1.out, E2.out]; rfl, HB5.out⟩
      · rw [okE_ok _ _ hk] at HC
        have hok2 := okFs_snoc _ (n, x) hok.out hk
        rw [← HTK.out] at hok2
        have hln := lines_snoc (l.take i) (n, x)
        rw [← HTK.out] at hln
        simp only at hln
        have HLN := Lib.hid hln
        have HOK := Lib.hid hok2
        have HC2 := Lib.hid HC
        clear HC hk hok2 hln
        generalize linesF (l.take i) = P at *
        go_wp2_with fail
        refine (HC2.out _).mono ?_
        rintro e w5 ⟨rfl, hb⟩
        have hO5 := own_keep HO.out hb
        have hB5 := HB.out.trans (hb.mono HB.out.size)
        have hc5 := (hb.cell (p := ⟨b, o + i * 2, none⟩) hlb).trans hc0
        have hd5 := (hb.cell (p := ⟨b, o + i * 2 + 1, none⟩) hlb).trans hc1
        have hB5d : Below w.heap.size w w5.drew := hB5.drew
        have hO5d : w5.drew.ownsRow w.heap.size 5 1 u4 P.length (Lib.byteCells P) := own_keep hO5 (Below.refl _ _).drew
        have hc5d : w5.drew.cell? ⟨b, o + i * 2, none⟩ = some (.string (mkS n)) := hc5
        have hd5d : w5.drew.cell? ⟨b, o + i * 2 + 1, none⟩ = some (.string (mkS x)) := hd5
        have hs5d : w.heap.size ≤ w5.drew.heap.size := hB5d.size
        have hbw : b < w.heap.size := by
          obtain ⟨a2, c2, e2, -, hc2⟩ := HS.out
          injection e2 with e3 _ e4
          obtain ⟨b3, o3, e5, h0, -⟩ := hc2 i (n, x) (by
            have := congrArg (fun q => q[i]?) HTK.out
            simpa [List.getElem?_append, List.getElem?_take, Nat.min_eq_left hi] using this)
          rw [← e3] at e5
          injection e5 with e6
          injection e6 with e7 e8
          subst e7
          exact cell_lt (p := ⟨b, o3 + i * 2, none⟩) h0
        have HCl : Hid (∀ W', Below w.heap.size w5 W' → W'.cell? ⟨b, o + i * 2, none⟩ = some (.string (mkS n)) ∧ W'.cell? ⟨b, o + i * 2 + 1, none⟩ = some (.string (mkS x))) := fun W' h => ⟨(h.cell (p := ⟨b, o + i * 2, none⟩) hbw).trans hc5, (h.cell (p := ⟨b, o + i * 2 + 1, none⟩) hbw).trans hd5⟩
        have hB6 : Below w.heap.size w5 w5.drew := ((Below.refl _ _).drew)
        clear hB5d
        have HB5 := Lib.hid hB5
        have HLn := HLen.out
        clear hB5 hlb hc0 hc1
        go_wp2_with fail
        go_region_held3 (fun w' => w'.cell? ⟨b, o + i * 2, none⟩ = some (.string (mkS n)) ∧ w'.cell? ⟨b, o + i * 2 + 1, none⟩ = some (.string (mkS x))) (first | (refine ⟨?_, ?_⟩ <;> assumption)) (first | (refine step_str (by rfl) _ _ (by rfl) w.heap.size _ _ _ (by rfl) (by rfl) (by assumption) (by assumption) (by simp only [List.length_append, length_bs, size_mkS, two58, two13]; omega) ⟨b, o + i * 2, none⟩ ⟨b, o + i * 2 + 1, none⟩ _ _ HCl.out (by assumption) ?_; intro v6 w6 ho6 hb6 hc6 hd6 hs6))
        all_goals
          have HB6 := Lib.hid (HB5.out.trans hb6)
          have HO6 := Lib.hid ho6
          clear ho6 hb6 hc6 hd6 hO5d hc5d hd5d hO5 hc5 hd5 hB6 HLn
          go_wp2_with fail
          refine ⟨⟨i + 1, by omega, by go_num, HOK, ?_, HB6⟩, by simp [RowKit.intOf]; omega⟩
          show World.ownsRow _ _ _ _ _ _ _
          rw [HLN.out]
          have h := HO6.out
          rw [bs_mkS, bs_mkS] at h
          exact h
    · have hil : l.take i = l := List.take_of_length_le (by omega)
      rw [hil] at hok HO
      have e1 : byN l = linesF l := by unfold byN; rw [hok.out]; rfl
      have e2 : byE l = 0 := by unfold byE; rw [hok.out]; rfl
      have E1 := Lib.hid e1
      have E2 := Lib.hid e2
      obtain ⟨ra, rc, rfl, hcv⟩ := conv_bytes HO.out
      have c3 : ¬ (i : Int) < (l.length : Int) := by omega
      clear hil e1 e2 hpl hpt
      generalize linesF l = P at *
      go_wp2_with fail
      go_ret2
      exact ⟨by rw [E1.out, E2.out]; rfl, HB.out⟩
end Tk
end Go.Proofs.YtdlbmfgajgefdaaGreatDoor
namespace Go.Proofs.YtdlbmfgajgefdaaGreatDoor
open Go.RowKit
namespace Tk

set_option maxHeartbeats 8000000 in
set_option maxRecDepth 100000 in
theorem rline8_any (M T : ByteArray) (s : Int) (R : ByteArray) (mi : Int) (vf : Value) (B : ByteArray) (vt : Value) (w : World) (hM : M.size ≤ 1099511627) (hT : T.size ≤ 1099511627) (hR : R.size ≤ 1099511627) :
    Calls Tryz.prog 81 #[.agg (msgC M T s R mi vf B vt)] w (FlPost (bs M) (bs T) s (bs R) mi w) := by
  have HX := Lib.hid (Box.new w 24 (msgC M T s R mi vf B vt))
  have HB0 := Lib.hid (below_alloc w (.cells (msgC M T s R mi vf B vt) 24))
  have HRl := Lib.hid (fun W : World => rrline_any M T mi W hM hT)
  have HSl := Lib.hid (fun (W : World) => rsline_any mi s R W hR)
  unfold RlPost at HRl
  unfold SlPost at HSl
  unfold FlPost
  have c0 := HX.out.cell 0 _ rfl
  have c1 := HX.out.cell 1 _ rfl
  have c2 := HX.out.cell 2 _ rfl
  have c3 := HX.out.cell 3 _ rfl
  have c4 := HX.out.cell 4 _ rfl
  have c5 := HX.out.cell 5 _ rfl
  have c6 := HX.out.cell 6 _ rfl
  have c7 := HX.out.cell 7 _ rfl
  clear hM hT hR
  unfold msgC at *
  by_cases hm : bs M = []
  · by_cases ht : bs T = []
    · have hS : flS (bs M) (bs T) s (bs R) mi = slS mi s (bs R) ∧ flE (bs M) (bs T) s (bs R) mi = slE mi s (bs R) := by unfold flS flE; rw [if_pos hm, if_pos ht, if_pos hm, if_pos ht]; exact ⟨rfl, rfl⟩
      rw [hS.1, hS.2]
      have hTe := (bs_nil_iff T).1 ht
      have hMe := (bs_nil_iff M).1 hm
      subst hTe hMe
      clear hS hm ht HRl
      generalize slS mi s (bs R) = X at *
      generalize slE mi s (bs R) = E at *
      go_enter Tryz.func81, Tryz.ntmps81
      go_wp2_with fail
      refine (HSl.out _).mono ?_
      rintro e w3 ⟨rfl, hb⟩
      have HB3 := Lib.hid (HB0.out.trans (hb.mono HB0.out.size))
      clear hb
      go_wp2_with fail
      go_ret2
      exact ⟨rfl, HB3.out⟩
    · have hS : flS (bs M) (bs T) s (bs R) mi = [] ∧ flE (bs M) (bs T) s (bs R) mi = 4 := by unfold flS flE; rw [if_pos hm, if_neg ht, if_pos hm, if_neg ht]; exact ⟨rfl, rfl⟩
      rw [hS.1, hS.2]
      have hTe := isE_no ht
      have hMe := (bs_nil_iff M).1 hm
      subst hMe
      clear hS hm ht HRl HSl
      go_enter Tryz.func81, Tryz.ntmps81
      go_wp2_with fail
      go_ret2
      exact ⟨rfl, HB0.out⟩
  · have he := isE_no hm
    by_cases hc : s = 0 ∧ bs R = []
    · obtain ⟨h0, h1⟩ := hc
      have hS : flS (bs M) (bs T) s (bs R) mi = rlS (bs M) (bs T) mi ∧ flE (bs M) (bs T) s (bs R) mi = rlE (bs M) (bs T) mi := by unfold flS flE; rw [if_neg hm, if_pos ⟨h0, h1⟩, if_neg hm, if_pos ⟨h0, h1⟩]; exact ⟨rfl, rfl⟩
      rw [hS.1, hS.2]
      have hRe := (bs_nil_iff R).1 h1
      subst hRe h0
      clear hS hm h1 HSl
      generalize rlS (bs M) (bs T) mi = X at *
      generalize rlE (bs M) (bs T) mi = E at *
      go_enter Tryz.func81, Tryz.ntmps81
      go_wp2_with fail
      refine (HRl.out _).mono ?_
      rintro e w3 ⟨rfl, hb⟩
      have HB3 := Lib.hid (HB0.out.trans (hb.mono HB0.out.size))
      clear hb
      go_wp2_with fail
      go_ret2
      exact ⟨rfl, HB3.out⟩
    · have hS : flS (bs M) (bs T) s (bs R) mi = [] ∧ flE (bs M) (bs T) s (bs R) mi = 4 := by unfold flS flE; rw [if_neg hm, if_neg hc, if_neg hm, if_neg hc]; exact ⟨rfl, rfl⟩
      rw [hS.1, hS.2]
      by_cases h0 : s = 0
      · have h1 := isE_no (fun h => hc ⟨h0, h⟩ : bs R ≠ [])
        subst h0
        clear hS hm hc HSl HRl
        go_enter Tryz.func81, Tryz.ntmps81
        go_wp2_with fail
        go_ret2
        exact ⟨rfl, HB0.out⟩
      · have hse : (s != 0) = true := by simp [h0]
        clear hS hm hc h0 HSl HRl
        go_enter Tryz.func81, Tryz.ntmps81
        go_wp2_with fail
        go_ret2
        exact ⟨rfl, HB0.out⟩

/-- a status without content, ever -/
def noneB (s : Int) : Bool := decide (s < 200) || decide (s = 204) || decide (s = 304)
set_option maxHeartbeats 1000000 in
theorem rnone_any (s : Int) (w : World) : Calls Tryz.prog 77 #[.int .i64 s] w fun e w' => e = .returned (.bool (noneB s)) ∧ w = w' := by
  by_cases h1 : s < 200
  · have hE : noneB s = true := by unfold noneB; simp [h1]
    rw [hE]
    clear hE
    go_enter Tryz.func77, Tryz.ntmps77
    go_wp2_with fail
    go_ret
    exact ⟨rfl, rfl⟩
  · by_cases h2 : s = 204
    · subst h2
      go_enter Tryz.func77, Tryz.ntmps77
      go_wp2_with fail
      go_ret
      exact ⟨rfl, rfl⟩
    · have b2 : (s == 204) = false := by simp [h2]
      by_cases h3 : s = 304
      · subst h3
        go_enter Tryz.func77, Tryz.ntmps77
        go_wp2_with fail
        go_ret
        exact ⟨rfl, rfl⟩
      · have b3 : (s == 304) = false := by simp [h3]
        have hE : noneB s = false := by unfold noneB; simp [h2, h3]; omega
        rw [hE]
        clear hE h2 h3
        go_enter Tryz.func77, Tryz.ntmps77
        go_wp2_with fail
        go_ret
        exact ⟨rfl, rfl⟩

/-- a line more -/
def moL (m : Bs) : Bs := if m = [] then [] else m ++ [13, 10]
set_option maxHeartbeats 4000000 in
set_option maxRecDepth 100000 in
theorem rput8_any (M T : ByteArray) (s : Int) (R : ByteArray) (mi : Int) (vf : Value) (B : ByteArray) (vt : Value) (l : List (Bs × Bs)) (mo bo : ByteArray) (w : World) (hs : IsFlds w vf l) (hz : sumF l ≤ 90000) (hl : l.length ≤ 90000) (hM : M.size + T.size + R.size ≤ 90000) (hmo : mo.size ≤ 1000) (hbo : bo.size ≤ 100000) (hvt : ∃ a n c, vt = .slice a n c) :
    Calls Tryz.prog 75 #[.agg (msgC M T s R mi vf B vt), .string mo, .string bo] w fun e w' => e = .returned (.string (mkS (flS (bs M) (bs T) s (bs R) mi ++ [13, 10] ++ byN l ++ moL (bs mo) ++ [13, 10] ++ bs bo))) ∧ Below w.heap.size w w' := by
  have hX := flS_len (bs M) (bs T) s (bs R) mi (by rw [length_bs, length_bs, length_bs]; exact hM)
  have hll := lines_len l
  have hY : (byN l).length ≤ 100000 := by unfold byN; split; omega; simp
  have HX := Lib.hid (Box.new w 24 (msgC M T s R mi vf B vt))
  have hB0 := below_alloc w (.cells (msgC M T s R mi vf B vt) 24)
  have HF := Lib.hid (fun W : World => rline8_any M T s R mi vf B vt W (by omega) (by omega) (by omega))
  have HY := Lib.hid (fun (W : World) (hb : Below w.heap.size w W) => rbytes_any vf l W (isFlds_below hs hb) (by omega) (by omega))
  have HB0 := Lib.hid hB0
  unfold FlPost at HF
  unfold BytesPost at HY
  have c0 := HX.out.cell 0 _ rfl
  have c1 := HX.out.cell 1 _ rfl
  have c2 := HX.out.cell 2 _ rfl
  have c3 := HX.out.cell 3 _ rfl
  have c4 := HX.out.cell 4 _ rfl
  have c5 := HX.out.cell 5 _ rfl
  have c6 := HX.out.cell 6 _ rfl
  have c7 := HX.out.cell 7 _ rfl
  obtain ⟨a1, k1, rfl⟩ : ∃ a cap, vf = .slice a l.length cap := by obtain ⟨a, c, h, -⟩ := hs; exact ⟨a, c, h⟩
  obtain ⟨a2, n2, k2, rfl⟩ := hvt
  generalize flS (bs M) (bs T) s (bs R) mi = X at *
  generalize flE (bs M) (bs T) s (bs R) mi = E at *
  generalize byN l = Y at *
  generalize byE l = E1 at *
  have x0 : (mkS X).size ≤ 100000 := by rw [size_mkS]; exact hX
  have y0 : (mkS Y).size ≤ 100000 := by rw [size_mkS]; exact hY
  clear hs hz hl hM hB0 hX hY hll
  unfold msgC at *
  by_cases hm : bs mo = []
  · have hme := (bs_nil_iff mo).1 hm
    subst hme
    have HR : Hid (mkS X ++ ⟨#[13, 10]⟩ ++ mkS Y ++ ⟨#[]⟩ ++ ⟨#[13, 10]⟩ ++ bo = mkS (X ++ [13, 10] ++ Y ++ moL (bs ⟨#[]⟩) ++ [13, 10] ++ bs bo)) := by
      show _ = _
      conv => lhs; rw [show bo = mkS (bs bo) from (mkS_bs bo).symm, show (⟨#[13, 10]⟩ : ByteArray) = mkS [13, 10] from rfl, show (⟨#[]⟩ : ByteArray) = mkS [] from rfl]
      rw [mkS_append, mkS_append, mkS_append, mkS_append, mkS_append]
      rfl
    rw [← HR.out]
    clear hm hmo
    generalize mkS X = XX at *
    generalize mkS Y = YY at *
    have g1 : (XX ++ ⟨#[13, 10]⟩ : ByteArray).size ≤ 100002 := by rw [ByteArray.size_append]; show _ + 2 ≤ _; omega
    have g2 : (XX ++ ⟨#[13, 10]⟩ ++ YY : ByteArray).size ≤ 200002 := by rw [ByteArray.size_append]; omega
    have g3 : (XX ++ ⟨#[13, 10]⟩ ++ YY ++ ⟨#[]⟩ : ByteArray).size ≤ 200002 := by rw [ByteArray.size_append]; show _ + 0 ≤ _; omega
    have g4 : (XX ++ ⟨#[13, 10]⟩ ++ YY ++ ⟨#[]⟩ ++ ⟨#[13, 10]⟩ : ByteArray).size ≤ 200004 := by rw [ByteArray.size_append]; show _ + 2 ≤ _; omega
    go_enter Tryz.func75, Tryz.ntmps75
    go_wp2_with fail
    refine (HF.out _).mono ?_
    rintro e w1 ⟨rfl, hb⟩
    have HX1 := Lib.hid (HX.out.later hb)
    have HB1 := Lib.hid (HB0.out.trans (hb.mono HB0.out.size))
    clear hb c0 c1 c2 c3 c4 c5 c6 c7
    have c5 := HX1.out.cell 5 _ rfl
    go_wp2_with fail
    refine (HY.out _ HB1.out).mono ?_
    rintro e w2 ⟨rfl, hb⟩
    have HB2 := Lib.hid (HB1.out.trans (hb.mono HB1.out.size))
    clear hb
    go_wp2_with fail
    go_ret
    exact ⟨rfl, HB2.out⟩
  · have hme := isE_no hm
    have HR : Hid (mkS X ++ ⟨#[13, 10]⟩ ++ mkS Y ++ (mo ++ ⟨#[13, 10]⟩) ++ ⟨#[13, 10]⟩ ++ bo = mkS (X ++ [13, 10] ++ Y ++ moL (bs mo) ++ [13, 10] ++ bs bo)) := by
      show _ = _
      have e : moL (bs mo) = bs mo ++ [13, 10] := by unfold moL; rw [if_neg hm]
      rw [e]
      conv => lhs; rw [show bo = mkS (bs bo) from (mkS_bs bo).symm, show mo = mkS (bs mo) from (mkS_bs mo).symm, show (⟨#[13, 10]⟩ : ByteArray) = mkS [13, 10] from rfl]
      rw [mkS_append, mkS_append, mkS_append, mkS_append, mkS_append, mkS_append]
    rw [← HR.out]
    clear hm HR
    generalize mkS X = XX at *
    generalize mkS Y = YY at *
    have g0 : (mo ++ ⟨#[13, 10]⟩ : ByteArray).size ≤ 1002 := by rw [ByteArray.size_append]; show _ + 2 ≤ _; omega
    have g1 : (XX ++ ⟨#[13, 10]⟩ : ByteArray).size ≤ 100002 := by rw [ByteArray.size_append]; show _ + 2 ≤ _; omega
    have g2 : (XX ++ ⟨#[13, 10]⟩ ++ YY : ByteArray).size ≤ 200002 := by rw [ByteArray.size_append]; omega
    have g3 : (XX ++ ⟨#[13, 10]⟩ ++ YY ++ (mo ++ ⟨#[13, 10]⟩) : ByteArray).size ≤ 201004 := by rw [ByteArray.size_append]; omega
    have g4 : (XX ++ ⟨#[13, 10]⟩ ++ YY ++ (mo ++ ⟨#[13, 10]⟩) ++ ⟨#[13, 10]⟩ : ByteArray).size ≤ 201006 := by rw [ByteArray.size_append]; show _ + 2 ≤ _; omega
    go_enter Tryz.func75, Tryz.ntmps75
    go_wp2_with fail
    refine (HF.out _).mono ?_
    rintro e w1 ⟨rfl, hb⟩
    have HX1 := Lib.hid (HX.out.later hb)
    have HB1 := Lib.hid (HB0.out.trans (hb.mono HB0.out.size))
    clear hb c0 c1 c2 c3 c4 c5 c6 c7
    have c5 := HX1.out.cell 5 _ rfl
    go_wp2_with fail
    refine (HY.out _ HB1.out).mono ?_
    rintro e w2 ⟨rfl, hb⟩
    have HB2 := Lib.hid (HB1.out.trans (hb.mono HB1.out.size))
    clear hb
    go_wp2_with fail
    go_ret
    exact ⟨rfl, HB2.out⟩

set_option maxHeartbeats 8000000 in
set_option maxRecDepth 100000 in
theorem rcheck8_core (M T : ByteArray) (s : Int) (R : ByteArray) (mi : Int) (vf : Value) (B : ByteArray) (vt : Value) (l tl : List (Bs × Bs)) (X : Bs) (E E1 E2 : Int) (Y Z : Bs) (p q : Nat) (w : World)
    (hvf : ∃ a c, vf = .slice a l.length c) (hvt : ∃ a c, vt = .slice a tl.length c)
    (HF : Hid (∀ W, Below w.heap.size w W → Calls Tryz.prog 81 #[.agg (msgC M T s R mi vf B vt)] W fun e w' => e = .returned (.tuple #[.string (mkS X), .int .i64 E]) ∧ Below W.heap.size W w'))
    (HY : Hid (∀ W, Below w.heap.size w W → Calls Tryz.prog 82 #[vf] W fun e w' => e = .returned (.tuple #[.string (mkS Y), .int .i64 E1]) ∧ Below W.heap.size W w'))
    (HZ : Hid (∀ W, Below w.heap.size w W → Calls Tryz.prog 82 #[vt] W fun e w' => e = .returned (.tuple #[.string (mkS Z), .int .i64 E2]) ∧ Below W.heap.size W w'))
    (cnt : ByteArray → Nat) (HA : Hid (∀ W nm, Below w.heap.size w W → nm.size ≤ 100 → Calls Tryz.prog 36 #[vf, .string nm] W fun e w' => ∃ a c, e = .returned (.slice a (cnt nm) c) ∧ Below W.heap.size W w'))
    (hp1 : cnt ⟨#[67, 111, 110, 116, 101, 110, 116, 45, 76, 101, 110, 103, 116, 104]⟩ = p) (hq1 : cnt ⟨#[84, 114, 97, 110, 115, 102, 101, 114, 45, 69, 110, 99, 111, 100, 105, 110, 103]⟩ = q)
    (hp : p ≤ 1048576) (hq : q ≤ 1048576) (G : Int)
    (hc : (E = 4 ∧ G = 4) ∨ (E = 0 ∧ E1 = 4 ∧ G = 4) ∨ (E = 0 ∧ E1 = 0 ∧ E2 = 4 ∧ G = 4) ∨ (E = 0 ∧ E1 = 0 ∧ E2 = 0 ∧ 0 < p + q ∧ G = 6) ∨ (E = 0 ∧ E1 = 0 ∧ E2 = 0 ∧ p + q = 0 ∧ G = 0)) :
    Calls Tryz.prog 30 #[.agg (msgC M T s R mi vf B vt)] w fun e w' => e = .returned (.int .i64 G) ∧ Below w.heap.size w w' := by
  have HX0 := Lib.hid (Box.new w 24 (msgC M T s R mi vf B vt))
  have HB0 := Lib.hid (below_alloc w (.cells (msgC M T s R mi vf B vt) 24))
  have c0 := HX0.out.cell 0 _ rfl
  have c1 := HX0.out.cell 1 _ rfl
  have c2 := HX0.out.cell 2 _ rfl
  have c3 := HX0.out.cell 3 _ rfl
  have c4 := HX0.out.cell 4 _ rfl
  have c5 := HX0.out.cell 5 _ rfl
  have c6 := HX0.out.cell 6 _ rfl
  have c7 := HX0.out.cell 7 _ rfl
  obtain ⟨a1, k1, rfl⟩ := hvf
  obtain ⟨a2, k2, rfl⟩ := hvt
  obtain ⟨K, hK⟩ : ∃ K, K = p + q := ⟨_, rfl⟩
  have hw : IntKind.i64.wrap ((p : Int) + (q : Int)) = (K : Int) := by rw [IntWalk.i64_in _ (by omega)]; omega
  rw [← hK] at hc
  clear hK
  unfold msgC at *
  rcases hc with ⟨rfl, rfl⟩ | ⟨rfl, rfl, rfl⟩ | ⟨rfl, rfl, rfl, rfl⟩ | ⟨rfl, rfl, rfl, h0, rfl⟩ | ⟨rfl, rfl, rfl, rfl, rfl⟩
  all_goals
    go_enter Tryz.func30, Tryz.ntmps30
    go_wp2_with fail
    refine (HF.out _ HB0.out).mono ?_
    rintro e w1 ⟨rfl, hb⟩
    have HX1 := Lib.hid (HX0.out.later hb)
    have HB1 := Lib.hid (HB0.out.trans (hb.mono HB0.out.size))
    clear hb c0 c1 c2 c3 c4 c5 c6 c7
    have c5 := HX1.out.cell 5 _ rfl
    go_wp2_with fail
    refine (HY.out _ HB1.out).mono ?_
    rintro e w2 ⟨rfl, hb⟩
    have HX2 := Lib.hid (HX1.out.later hb)
    have HB2 := Lib.hid (HB1.out.trans (hb.mono HB1.out.size))
    clear hb c5
    have c7 := HX2.out.cell 7 _ rfl
    go_wp2_with fail
    refine (HZ.out _ HB2.out).mono ?_
    rintro e w3 ⟨rfl, hb⟩
    have HX3 := Lib.hid (HX2.out.later hb)
    have HB3 := Lib.hid (HB2.out.trans (hb.mono HB2.out.size))
    clear hb c7
    go_wp2_with fail
  · go_ret
    exact ⟨rfl, HB3.out⟩
  · go_ret
    exact ⟨rfl, HB3.out⟩
  · go_ret
    exact ⟨rfl, HB3.out⟩
  all_goals
    have hb3 : Below w.heap.size w w3.drew := HB3.out.drew
    have c5 : w3.drew.cell? ⟨w.heap.size, 5, none⟩ = some (.slice a1 l.length k1) := HX3.out.cell 5 _ rfl
    have HC : Hid (∀ (W : World) (nm : ByteArray), Below w.heap.size w W → W.cell? ⟨w.heap.size, 5, none⟩ = some (.slice a1 l.length k1) → nm.size ≤ 100 → Calls Tryz.prog 36 #[.slice a1 l.length k1, .string nm] W fun e w' => ∃ a c, e = .returned (.slice a (cnt nm) c) ∧ Below w.heap.size w w' ∧ w'.cell? ⟨w.heap.size, 5, none⟩ = some (.slice a1 l.length k1)) := fun W nm hb hc hn => by
      refine (HA.out W nm hb hn).mono ?_
      rintro e w' ⟨a, c, rfl, hb'⟩
      exact ⟨a, c, rfl, hb.trans (hb'.mono hb.size), (hb'.cell (p := ⟨w.heap.size, 5, none⟩) (cell_lt hc)).trans hc⟩
    clear HA HF HY HZ HX0 HX1 HX2 HX3
    (go_region_held3 (fun w' => w'.cell? ⟨w.heap.size, 5, none⟩ = some (.slice a1 l.length k1)) (first | assumption | go_keep) (first
      | (go_at_call 36; refine (HC.out _ _ (by assumption) (by assumption) (by decide)).mono ?_; rintro e w5 ⟨a5, k5, rfl, hb5, d5⟩)))
    have HB5 := Lib.hid hb5
    clear hb3 hb5 c5 d5
    go_wp2_with fail
    go_ret
    exact ⟨rfl, HB5.out⟩

theorem rcheck8_any (M T : ByteArray) (s : Int) (R : ByteArray) (mi : Int) (vf : Value) (B : ByteArray) (vt : Value) (l tl : List (Bs × Bs)) (w : World)
    (hs : IsFlds w vf l) (ht : IsFlds w vt tl) (hz : sumF l ≤ 90000) (hl : l.length ≤ 90000) (hzt : sumF tl ≤ 90000) (hlt : tl.length ≤ 90000) (hM : M.size + T.size + R.size ≤ 90000) :
    Calls Tryz.prog 30 #[.agg (msgC M T s R mi vf B vt)] w fun e w' => e = .returned (.int .i64 (hdE (bs M) (bs T) s (bs R) mi l tl)) ∧ Below w.heap.size w w' := by
  have hal : ∀ (nm : Bs), nm.length ≤ 100 → ∀ W, Below w.heap.size w W → Calls Tryz.prog 36 #[vf, .string (mkS nm)] W fun e w' => ∃ a c, e = .returned (.slice a (allF l nm).length c) ∧ Below W.heap.size W w' := fun nm hn W hb => by
    refine (rall_any vf l nm W (isFlds_below hs hb) (sum_each _ (by omega)) (by omega) (by omega)).mono ?_
    rintro e w' ⟨v', rfl, ho, hb'⟩
    obtain ⟨a, c, rfl, -⟩ := isStrs_own ho
    exact ⟨a, c, rfl, hb'⟩
  have hl1 : (allF l nmCL).length ≤ l.length := by unfold allF; rw [List.length_map]; exact List.length_filter_le _ _
  have hl2 : (allF l nmTE).length ≤ l.length := by unfold allF; rw [List.length_map]; exact List.length_filter_le _ _
  refine rcheck8_core M T s R mi vf B vt l tl (flS (bs M) (bs T) s (bs R) mi) (flE (bs M) (bs T) s (bs R) mi) (byE l) (byE tl) (byN l) (byN tl) (allF l nmCL).length (allF l nmTE).length w
    (by obtain ⟨a, c, h, -⟩ := hs; exact ⟨a, c, h⟩) (by obtain ⟨a, c, h, -⟩ := ht; exact ⟨a, c, h⟩)
    (Lib.hid fun W hb => rline8_any M T s R mi vf B vt W (by omega) (by omega) (by omega)) (Lib.hid fun W hb => rbytes_any vf l W (isFlds_below hs hb) (by omega) (by omega)) (Lib.hid fun W hb => rbytes_any vt tl W (isFlds_below ht hb) (by omega) (by omega))
    (fun nm => (allF l (bs nm)).length) (Lib.hid fun W nm hb hn => by have h := hal (bs nm) (by rw [length_bs]; exact hn) W hb; rw [mkS_bs] at h; exact h) rfl rfl (by omega) (by omega) _ ?_
  rcases flE_two (bs M) (bs T) s (bs R) mi with h0 | ⟨h0, -⟩
  · rcases byE_two l with ⟨k1, k2, k3⟩ | ⟨k1, k2⟩
    · rcases byE_two tl with ⟨j1, j2, j3⟩ | ⟨j1, j2⟩
      · cases hq : endB l
        · have := hd_ok ⟨h0, k1, j1⟩ hq
          refine .inr (.inr (.inr (.inr ⟨h0, k2, j2, ?_, this.1⟩)))
          unfold endB hasF at hq
          rw [Bool.or_eq_false_iff, decide_eq_false_iff_not, decide_eq_false_iff_not] at hq
          omega
        · have := hd_end ⟨h0, k1, j1⟩ hq
          refine .inr (.inr (.inr (.inl ⟨h0, k2, j2, ?_, this.1⟩)))
          unfold endB hasF at hq
          rw [Bool.or_eq_true, decide_eq_true_eq, decide_eq_true_eq] at hq
          omega
      · have := hd_bad (M := bs M) (T := bs T) (s := s) (R := bs R) (mi := mi) (l := l) (tl := tl) (fun hh => by rw [j1] at hh; exact absurd hh.2.2 (by simp))
        exact .inr (.inr (.inl ⟨h0, k2, j2, this.1⟩))
    · have := hd_bad (M := bs M) (T := bs T) (s := s) (R := bs R) (mi := mi) (l := l) (tl := tl) (fun hh => by rw [k1] at hh; exact absurd hh.2.1 (by simp))
      exact .inr (.inl ⟨h0, k2, this.1⟩)
  · have := hd_bad (M := bs M) (T := bs T) (s := s) (R := bs R) (mi := mi) (l := l) (tl := tl) (fun hh => by omega)
    exact .inl ⟨h0, this.1⟩
end Tk
end Go.Proofs.YtdlbmfgajgefdaaGreatDoor
namespace Go.Proofs.YtdlbmfgajgefdaaGreatDoor
namespace Tk

theorem take_all (c : UInt8) : ∀ (l : Bs), (∀ x ∈ l, x ≠ c) → l.takeWhile (· != c) = l
  | [], _ => rfl
  | x :: t, h => by
    rw [List.takeWhile_cons_of_pos (by simpa using h x (by simp)), take_all c t fun y hy => h y (by simp [hy])]
theorem cut_fst (c : UInt8) (l : Bs) : (cutL c l).1 = l.takeWhile (· != c) := by
  unfold cutL
  split
  · rfl
  · rename_i h
    refine (take_all c l fun x hx => ?_).symm
    simp only [List.contains_eq_mem, decide_eq_true_eq] at h
    rintro rfl
    exact h hx
theorem sizeL_long (l : Bs) (h : 16 < (cutL 59 l).1.length) : sizeL l = (0, 400) := by unfold sizeL; rw [if_pos h]
theorem sizeL_none (l : Bs) (h : hexN (cutL 59 l).1 = none) : sizeL l = (0, 400) := by
  unfold sizeL
  rw [h]
  split
  · rfl
  · split <;> rfl
theorem hex_some (p : Bs) (m : Nat) (h : hexGo 0 p = some m) : ∀ x ∈ p, (x != 59) = true := fun x hx => by
  simpa using (hex_ne x (hexGo_mem p 0 m h x hx)).1
/-- no digit -/
theorem size_A (l : Bs) (h : l = [] ∨ ∃ c r, l = c :: r ∧ hexD c = none) : sizeL l = (0, 400) := by
  apply sizeL_none
  rw [cut_fst]
  rcases h with rfl | ⟨c, r, rfl, hc⟩
  · rfl
  · by_cases h59 : c = 59
    · subst h59; rfl
    · rw [List.takeWhile_cons_of_pos (by simpa using h59)]
      show (if c :: List.takeWhile (fun x => x != 59) r = [] then none else hexGo 0 (c :: List.takeWhile (fun x => x != 59) r)) = none
      rw [if_neg (by simp)]
      exact hexGo_bad _ 0 ⟨c, by simp, hc⟩
/-- seventeen digits -/
theorem size_B (p r : Bs) (m : Nat) (hp : hexGo 0 p = some m) (hl : 16 < p.length) : sizeL (p ++ r) = (0, 400) := by
  apply sizeL_long
  rw [cut_fst, List.takeWhile_append_of_pos (hex_some p m hp), List.length_append]
  omega
/-- digits, and no more -/
theorem size_C (p : Bs) (m : Nat) (hp : hexGo 0 p = some m) (hl : p.length ≤ 16) (hne : p ≠ []) : sizeL p = if 9007199254740991 < m then (0, 413) else (m, 0) := by
  have hc := cutC_none 59 p (fun x hx => (hex_ne x (hexGo_mem p 0 m hp x hx)).1)
  have hN : hexN p = some m := by unfold hexN; rw [if_neg hne]; exact hp
  unfold sizeL
  rw [hc]
  simp only
  rw [if_neg (by omega), if_pos (by rfl), hN]
/-- digits, and a byte that is none -/
theorem size_D (p r : Bs) (c : UInt8) (m : Nat) (hp : hexGo 0 p = some m) (h59 : c ≠ 59) (hc : hexD c = none) : sizeL (p ++ c :: r) = (0, 400) := by
  apply sizeL_none
  rw [cut_fst, List.takeWhile_append_of_pos (hex_some p m hp), List.takeWhile_cons_of_pos (by simpa using h59)]
  unfold hexN
  rw [if_neg (by simp)]
  exact hexGo_bad _ 0 ⟨c, by simp, hc⟩
/-- digits, and a semicolon -/
theorem size_E (p r : Bs) (m : Nat) (hp : hexGo 0 p = some m) (hl : p.length ≤ 16) (hne : p ≠ []) : sizeL (p ++ 59 :: r) = if allL 1 (59 :: r) then (if 9007199254740991 < m then (0, 413) else (m, 0)) else (0, 400) := by
  have hc := cutQ_at 59 p r (fun x hx => (hex_ne x (hexGo_mem p 0 m hp x hx)).1)
  have hN : hexN p = some m := by unfold hexN; rw [if_neg hne]; exact hp
  have h1 : allL 1 (59 :: r) = allL 1 r := by rw [allL_cons]; rw [show decide (1 ≤ kindOf (59 : UInt8).toNat) = true by decide, Bool.true_and]
  unfold sizeL
  rw [hc, h1]
  simp only
  rw [if_neg (by omega), hN]
theorem hexD_lt (c : UInt8) (d : Nat) (h : hexD c = some d) : d < 16 := by
  unfold hexD at h
  split at h
  · injection h with h; omega
  · split at h
    · injection h with h; omega
    · split at h
      · injection h with h; omega
      · cases h
theorem hexGo_snoc (p : Bs) (c : UInt8) (m d : Nat) (hp : hexGo 0 p = some m) (hd : hexD c = some d) : hexGo 0 (p ++ [c]) = some (m * 16 + d) := by
  rw [hexGo_append, hp]
  simp only [Option.bind_some, hexGo, hd]
theorem or_low (m d : Nat) (hd : d < 16) : m * 16 ||| d = m * 16 + d := by
  have h := Nat.shiftLeft_add_eq_or_of_lt (b := d) (i := 4) (by omega) m
  rw [Nat.shiftLeft_eq] at h
  exact h.symm
end Tk
end Go.Proofs.YtdlbmfgajgefdaaGreatDoor
namespace Go.Proofs.YtdlbmfgajgefdaaGreatDoor
open Go.RowKit
namespace Tk

/-- the value of a digit by sixteen, or -1 -/
def hexV (c : UInt8) : Int := match hexD c with | some d => d | none => -1
theorem hexV_is (c : UInt8) : hexV c = if 48 ≤ c.toNat ∧ c.toNat ≤ 57 then (c.toNat : Int) - 48 else if 97 ≤ c.toNat ∧ c.toNat ≤ 102 then (c.toNat : Int) - 97 + 10 else if 65 ≤ c.toNat ∧ c.toNat ≤ 70 then (c.toNat : Int) - 65 + 10 else -1 := by
  unfold hexV hexD
  by_cases h1 : 48 ≤ c.toNat ∧ c.toNat ≤ 57
  · rw [if_pos h1, if_pos h1]; simp only; omega
  · rw [if_neg h1, if_neg h1]
    by_cases h2 : 97 ≤ c.toNat ∧ c.toNat ≤ 102
    · rw [if_pos h2, if_pos h2]; simp only; omega
    · rw [if_neg h2, if_neg h2]
      by_cases h3 : 65 ≤ c.toNat ∧ c.toNat ≤ 70
      · rw [if_pos h3, if_pos h3]; simp only; omega
      · rw [if_neg h3, if_neg h3]
theorem hexV_some (c : UInt8) (d : Nat) (h : hexD c = some d) : hexV c = d := by unfold hexV; rw [h]
theorem hexV_none (c : UInt8) (h : hexD c = none) : hexV c = -1 := by unfold hexV; rw [h]

theorem retIx {a b : Int} (h : a = b) : Ending.returned (.int .i64 a) = .returned (.int .i64 b) := by rw [h]
set_option maxRecDepth 100000 in
set_option maxHeartbeats 2000000 in
theorem rhex_any (c : UInt8) (w : World) :
    Calls Tryz.prog 190 #[.int .u8 (c.toNat : Int)] w fun e w' => e = .returned (.int .i64 (hexV c)) ∧ w = w' := by
  have hlt := c.toNat_lt
  have HC := rDigit_any c w
  have HV := Lib.hid (hexV_is c)
  have hd : isDig c = (decide (48 ≤ c.toNat) && decide (c.toNat ≤ 57)) := rfl
  generalize hexV c = V at *
  generalize isDig c = q at *
  generalize c.toNat = n at *
  by_cases h0 : 48 ≤ n ∧ n ≤ 57
  · have hq : q = true := by rw [hd]; simp [h0.1, h0.2]
    subst hq
    have HV2 := Lib.hid (show (n : Int) - 48 = V by rw [HV.out, if_pos h0])
    have HC2 := Lib.hid HC
    obtain ⟨h1, h2⟩ := h0
    clear hd HC HV
    go_enter Tryz.func190, Tryz.ntmps190
    go_wp2_with fail
    refine HC2.out.mono ?_
    rintro e w' ⟨rfl, rfl⟩
    go_wp2_with fail
    go_ret
    exact ⟨retIx HV2.out, rfl⟩
  · have hq : q = false := by
      rw [hd, Bool.and_eq_false_iff]
      simp only [decide_eq_false_iff_not]
      omega
    subst hq
    have HC2 := Lib.hid HC
    have HH := Lib.hid h0
    clear hd HC h0
    by_cases h2 : 97 ≤ n <;> by_cases h3 : n ≤ 102 <;> by_cases h4 : 65 ≤ n <;> by_cases h5 : n ≤ 70
    all_goals
      first
      | omega
      | (go_enter Tryz.func190, Tryz.ntmps190
         go_wp2_with fail
         refine HC2.out.mono ?_
         rintro e w' ⟨rfl, rfl⟩
         go_wp2_with fail
         go_ret
         exact ⟨retIx (by rw [HV.out, if_neg HH.out]; split <;> (try split) <;> omega), rfl⟩)

theorem slice_hex : ∀ n : Nat, n < 16 → (ByteArray.mk #[48, 49, 50, 51, 52, 53, 54, 55, 56, 57, 97, 98, 99, 100, 101, 102]).extract n (n + 1) = mkS [hexc n] := by decide +kernel

set_option maxRecDepth 100000 in
set_option maxHeartbeats 2000000 in
theorem rdigits_any (n : Nat) (w : World) (hn : n < 4096) :
    Calls Tryz.prog 113 #[.int .i64 n] w fun r w' => r = .returned (.string (mkS (hexL n))) ∧ w = w' := by
  have HX := Lib.hid (show hexL n = hexF hexc n from rfl)
  generalize hexL n = X at *
  go_enter Tryz.func113, Tryz.ntmps113
  go_wp2_with fail
  go_loop [0, 3] (fun vn vo => ∃ (m : Nat) (o : Bs), m < 4096 ∧ o.length ≤ 2 ∧ vn = .int .i64 m ∧ vo = .string (mkS o) ∧ Hid (X = hexF hexc m ++ o) ∧ Hid (o.length = 0 ∨ (o.length = 1 ∧ m < 256) ∨ m < 16)) (fun vn _ => (RowKit.intOf vn).toNat)
  case atStart => exact ⟨n, [], hn, by simp, rfl, rfl, by show _ = _; rw [HX.out, List.append_nil], .inl rfl⟩
  case round =>
    obtain ⟨m, o, hm, ho, rfl, rfl, hX, hO⟩ := hrel
    have e1 : (m : Int) / 16 = ((m / 16 : Nat) : Int) := by omega
    have e2 : (m : Int) % 16 = ((m % 16 : Nat) : Int) := by omega
    have hs := slice_hex (m % 16) (by omega)
    have hsz : min (m % 16 + 1) 16 - m % 16 + (mkS o).size ≤ 9223372036854775807 := by rw [size_mkS]; omega
    have hap : mkS [hexc (m % 16)] ++ mkS o = mkS (hexc (m % 16) :: o) := by rw [mkS_append]; rfl
    have hr : m % 16 < 16 := by omega
    have HS := Lib.hid hs
    have HA := Lib.hid hap
    clear hs hap
    by_cases h16 : m < 16
    · have hz : m / 16 = 0 := by omega
      have hX2 : X = hexc (m % 16) :: o := by rw [hX.out, hexF_small hexc m h16, Nat.mod_eq_of_lt h16]; rfl
      have HX2 := Lib.hid hX2
      have e0 : (m : Int) / 16 = 0 := by omega
      clear hX2 hz h16 hX hO e1
      generalize m % 16 = r at *
      go_wp2_with fail
      go_ret
      exact ⟨by rw [HX2.out, ← HA.out, ← HS.out]; rfl, rfl⟩
    · have ho0 := hO.out
      have hX2 : X = hexF hexc (m / 16) ++ (hexc (m % 16) :: o) := by rw [hX.out, hexF_big hexc m h16, List.append_assoc]; rfl
      have HX2 := Lib.hid hX2
      have hq : ¬ ((m / 16 : Nat) : Int) = 0 := by omega
      have hq2 := Lib.hid (show (o.length + 1 = 0 ∨ (o.length + 1 = 1 ∧ m / 16 < 256) ∨ m / 16 < 16) ∧ o.length + 1 ≤ 2 by omega)
      have hql : m / 16 < m := by omega
      clear ho0 hX2 h16 hX hO
      generalize m % 16 = r at *
      generalize m / 16 = q at *
      go_wp2_with fail
      exact ⟨⟨q, hexc r :: o, by omega, by rw [List.length_cons]; exact hq2.out.2, by go_num, by rw [HS.out, HA.out], HX2, hq2.out.1⟩, by simp [RowKit.intOf]; omega⟩
end Tk
end Go.Proofs.YtdlbmfgajgefdaaGreatDoor
namespace Go.Proofs.YtdlbmfgajgefdaaGreatDoor
open Go.RowKit
namespace Tk

set_option maxHeartbeats 2000000 in
set_option maxRecDepth 100000 in
theorem rencode_no (body : ByteArray) (size : Int) (v : Value) (l : List (Bs × Bs)) (w : World) (hs : IsFlds w v l) (hz : sumF l ≤ 100000) (hl : l.length ≤ 100000) (hok : okFs l = false) :
    Calls Tryz.prog 80 #[.string body, .int .i64 size, v] w (EncPost (bs body) size l w) := by
  have h := rbytes_any v l w hs hz hl
  have e1 : byN l = [] := by unfold byN; rw [hok]; rfl
  have e2 : byE l = 4 := by unfold byE; rw [hok]; rfl
  unfold BytesPost at h
  unfold EncPost
  rw [e1, e2] at h
  rw [e2, hok]
  have H := Lib.hid h
  obtain ⟨a, cap, rfl⟩ : ∃ a cap, v = .slice a l.length cap := by obtain ⟨a, c, h, -⟩ := hs; exact ⟨a, c, h⟩
  clear h hs hz hl hok e1 e2
  go_enter Tryz.func80, Tryz.ntmps80
  go_wp2_with fail
  refine H.out.mono ?_
  rintro e w1 ⟨rfl, hb⟩
  have HB := Lib.hid hb
  clear hb
  go_wp2_with fail
  go_ret2
  exact ⟨rfl, HB.out⟩

set_option maxHeartbeats 8000000 in
set_option maxRecDepth 100000 in
theorem rencode_ok (body : ByteArray) (size : Int) (k : Nat) (v : Value) (l : List (Bs × Bs)) (w : World) (hs : IsFlds w v l) (hz : sumF l ≤ 100000) (hl : l.length ≤ 100000) (hok : okFs l = true) (hbz : body.size ≤ 400)
    (hsz : (size < 1 ∧ (1 : Int) < body.size ∧ (k : Int) = body.size) ∨ (size < 1 ∧ ¬ (1 : Int) < body.size ∧ k = 1) ∨ (¬ size < 1 ∧ size = (k : Int) ∧ size ≤ 9223372036854775807)) :
    Calls Tryz.prog 80 #[.string body, .int .i64 size, v] w fun e w' => e = .returned (.tuple #[.string (mkS (encL k (bs body) (linesF l))), .int .i64 0]) ∧ Below w.heap.size w w' := by
  have h := rbytes_any v l w hs hz hl
  have e1 : byN l = linesF l := by unfold byN; rw [hok]; rfl
  have e2 : byE l = 0 := by unfold byE; rw [hok]; rfl
  unfold BytesPost at h
  rw [e1, e2] at h
  have hll := lines_len l
  have hk0 : 1 ≤ k := by omega
  have H := Lib.hid h
  have hlen := length_bs body
  have HCL := Lib.hid (chunks_len k _ (bs body) (Nat.le_refl _) (by omega))
  have HLen := Lib.hid hlen
  have hk1 : (0 : Int) ≤ (k : Int) := by omega
  have hk2 : (k : Int) ≤ 9223372036854775807 := by omega
  have HR := Lib.hid (show encL k (bs body) (linesF l) = chunksL k (bs body) ++ [48, 13, 10] ++ linesF l ++ [13, 10] from rfl)
  have hFz : (mkS (linesF l)).size ≤ 100000 := by rw [size_mkS]; omega
  generalize linesF l = F at *
  obtain ⟨a, cap, rfl⟩ : ∃ a cap, v = .slice a l.length cap := by obtain ⟨a, c, h, -⟩ := hs; exact ⟨a, c, h⟩
  clear h hs hz hl hok e1 e2 hll hlen
  have hmx : size < 1 → max (1 : Int) (body.size : Int) = (k : Int) := fun h => by omega
  have hsz2 : size < 1 ∨ (¬ size < 1 ∧ size = (k : Int)) := by omega
  clear hsz
  rcases hsz2 with h1 | ⟨h1, h2⟩
  all_goals
    first | (have hmx := hmx h1) | skip
    first | subst h2 | skip
    go_enter Tryz.func80, Tryz.ntmps80
    go_wp2_with fail
    refine H.out.mono ?_
    rintro e w1 ⟨rfl, hb⟩
    have HB1 := Lib.hid hb
    clear hb
    go_wp2_with fail
    try rw [hmx]
    clear h1 hmx
    go_loopw [10, 11] (fun v10 v11 wr => ∃ (at' : Nat) (o : Bs), v10 = .string (mkS o) ∧ v11 = .int .i64 at' ∧ at' ≤ body.size ∧ Hid (chunksL k (bs body) = o ++ chunksL k ((bs body).drop at')) ∧ Hid (Below w.heap.size w wr)) (fun _ v11 _ => body.size - (RowKit.intOf v11).toNat)
    case atStart => exact ⟨0, [], rfl, rfl, Nat.zero_le _, rfl, HB1⟩
    case round =>
      obtain ⟨p, o, rfl, rfl, hp, hch, HB⟩ := hrel
      rename World => W
      have hol : o.length ≤ 3200 := by
        have h1 := HCL.out
        rw [hch.out, List.length_append, HLen.out] at h1
        omega
      have hoz : (mkS o).size ≤ 3200 := by rw [size_mkS]; exact hol
      clear hol
      by_cases hlt : p < body.size
      · obtain ⟨m, hm⟩ : ∃ m, m = min k (body.size - p) := ⟨_, rfl⟩
        have hm0 : 0 < m := by omega
        have hmp : p + m ≤ body.size := by omega
        have hdl : ((bs body).drop p).length = body.size - p := by rw [List.length_drop, HLen.out]
        have hne : (bs body).drop p ≠ [] := by intro h; rw [h] at hdl; simp only [List.length_nil] at hdl; omega
        have htk : ((bs body).drop p).take k = ((bs body).drop p).take m := by
          rcases Nat.le_total k (body.size - p) with h | h
          · rw [hm, Nat.min_eq_left h]
          · rw [hm, Nat.min_eq_right h, List.take_of_length_le (by omega), List.take_of_length_le (by omega)]
        have hdk : ((bs body).drop p).drop k = (bs body).drop (p + m) := by
          rcases Nat.le_total k (body.size - p) with h | h
          · rw [hm, Nat.min_eq_left h, List.drop_drop]
          · rw [hm, Nat.min_eq_right h, List.drop_of_length_le (by omega), List.drop_of_length_le (by rw [HLen.out]; omega)]
        have hcc := chunksL_cons k ((bs body).drop p) hne (by omega)
        rw [htk, hdk, List.length_take, hdl, Nat.min_eq_left (by omega)] at hcc
        have HNX : Hid (chunksL k (bs body) = (o ++ hexL m ++ [13, 10] ++ ((bs body).drop p).take m ++ [13, 10]) ++ chunksL k ((bs body).drop (p + m))) := by
          show chunksL k (bs body) = _
          rw [hch.out, hcc]; simp only [List.append_assoc]
        have hmin : min (k : Int) ((body.size : Int) - (p : Int)) = (m : Int) := by omega
        have hmin2 : min ((body.size : Int) - (p : Int)) (k : Int) = (m : Int) := by omega
        have HX : Hid (bs (body.extract p (p + m)) = ((bs body).drop p).take m) := by show bs _ = _; rw [bs_extract, Nat.add_sub_cancel_left]
        have hhx : (mkS (hexL m)).size ≤ 3 := by rw [size_mkS]; exact hexF_len hexc 2 m (by omega)
        have HDg := Lib.hid (fun W : World => rdigits_any m W (by omega))
        obtain ⟨K, hK⟩ : ∃ K, K = p + m := ⟨_, rfl⟩
        have hw : IntKind.i64.wrap ((p : Int) + (m : Int)) = (K : Int) := by rw [IntWalk.i64_in _ (by omega)]; omega
        have r0 : (0 : Int) ≤ (p : Int) := by omega
        have r1 : (p : Int) ≤ (K : Int) := by omega
        have r2 : (K : Int) ≤ (body.size : Int) := by omega
        have r3 : p < K := by omega
        have r4 : K ≤ body.size := by omega
        rw [← hK] at HX HNX
        clear hch hcc hne htk hdk hdl hm hm0 hmp hK
        generalize hexL m = X at *
        generalize ((bs body).drop p).take m = Y at *
        go_wp2_with fail
        have z0 : (ByteArray.mk #[13, 10]).size = 2 := rfl
        first
        | go_region_with (first | (go_at_call 113; refine (HDg.out _).mono ?_; rintro e w' ⟨rfl, rfl⟩))
        | fail
        all_goals
          go_wp2_with fail
          refine ⟨⟨K, o ++ X ++ [13, 10] ++ Y ++ [13, 10], ?_, rfl, r4, HNX, HB.out.drew⟩, by simp [RowKit.intOf]; omega⟩
          have hy : body.extract p K = mkS Y := by rw [← HX.out, mkS_bs]
          rw [hy, show (ByteArray.mk #[13, 10]) = mkS [13, 10] from rfl, mkS_append, mkS_append, mkS_append, mkS_append]
      · have hpe : p = body.size := by omega
        have hc2 : chunksL k (bs body) = o := by
          rw [hch.out, List.drop_of_length_le (by rw [HLen.out]; omega), chunksL_nil, List.append_nil]
        have HC2 := Lib.hid hc2
        have c3 : ¬ (p : Int) < (body.size : Int) := by omega
        clear hc2 hch hpe
        go_wp2_with fail
        go_ret2
        refine ⟨?_, HB.out⟩
        rw [HR.out, HC2.out]
        rw [← mkS_append, ← mkS_append, ← mkS_append]
        rfl

theorem rencode_any (body : ByteArray) (size : Int) (v : Value) (l : List (Bs × Bs)) (w : World) (hs : IsFlds w v l) (hz : sumF l ≤ 100000) (hl : l.length ≤ 100000) (hbz : body.size ≤ 400) (hsz : size ≤ 9223372036854775807) :
    Calls Tryz.prog 80 #[.string body, .int .i64 size, v] w (EncPost (bs body) size l w) := by
  cases hok : okFs l
  · exact rencode_no body size v l w hs hz hl hok
  · have e2 : byE l = 0 := by unfold byE; rw [hok]; rfl
    have key : ∀ k : Nat, encL k (bs body) (linesF l) = encL (encK size (bs body)) (bs body) (linesF l) → ((size < 1 ∧ (1 : Int) < body.size ∧ (k : Int) = body.size) ∨ (size < 1 ∧ ¬ (1 : Int) < body.size ∧ k = 1) ∨ (¬ size < 1 ∧ size = (k : Int) ∧ size ≤ 9223372036854775807)) →
        Calls Tryz.prog 80 #[.string body, .int .i64 size, v] w (EncPost (bs body) size l w) := by
      intro k h1 h2
      refine (rencode_ok body size k v l w hs hz hl hok hbz h2).mono ?_
      rintro e w' ⟨rfl, hb⟩
      unfold EncPost
      rw [hok, e2, h1]
      exact ⟨rfl, hb⟩
    have hlb := length_bs body
    by_cases h1 : size < 1
    · have hK : encK size (bs body) = body.size := by unfold encK; rw [if_pos h1, hlb]
      by_cases h2 : (1 : Int) < body.size
      · exact key body.size (by rw [hK]) (.inl ⟨h1, h2, rfl⟩)
      · refine key 1 ?_ (.inr (.inl ⟨h1, h2, rfl⟩))
        rw [hK]
        by_cases h3 : body.size = 1
        · rw [h3]
        · have h0 : bs body = [] := List.eq_nil_of_length_eq_zero (by omega)
          unfold encL
          rw [h0, chunksL_nil, chunksL_nil]
    · have hK : encK size (bs body) = size.toNat := by unfold encK; rw [if_neg h1]
      exact key size.toNat (by rw [hK]) (.inr (.inr ⟨h1, by omega, hsz⟩))
end Tk
end Go.Proofs.YtdlbmfgajgefdaaGreatDoor
