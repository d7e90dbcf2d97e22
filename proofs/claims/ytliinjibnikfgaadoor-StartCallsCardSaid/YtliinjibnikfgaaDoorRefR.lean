/- The document's own version and request line. -/
import Derived.Test.YtliinjibnikfgaaDoorRefS
import Derived.Test.YtliinjibnikfgaaDoorStaE
namespace Go.Proofs.YtliinjibnikfgaaDoor
open Go.RowKit
namespace Tk

theorem u8_lt_iff (c : UInt8) (n : Nat) (hn : n < 256) : (c = UInt8.ofNat n) ↔ c.toNat = n := by
  constructor
  · rintro rfl; rw [UInt8.toNat_ofNat']; omega
  · intro h; exact UInt8.toNat_inj.1 (by rw [h, UInt8.toNat_ofNat']; omega)

/-- eight bytes that are a version, and what is not -/
theorem ver_of8 (s : ByteArray) (h8 : s.size = 8) (h5 : bs (s.extract 0 5) = httpL) (h6 : s[6] = 46) : bs s = httpL ++ [s[5], 46, s[7]] := by
  have e0 : bs s = (bs s).take 5 ++ (bs s).drop 5 := (List.take_append_drop 5 _).symm
  rw [bs_extract, List.drop_zero] at h5
  have d5 := bs_drop s 5 (by omega)
  have d6 := bs_drop s 6 (by omega)
  have d7 := bs_drop s 7 (by omega)
  have d8 : (bs s).drop 8 = [] := List.drop_eq_nil_of_le (by rw [length_bs]; omega)
  rw [e0, show (bs s).take 5 = httpL from h5, d5, d6, d7, d8, h6]
theorem ver_bad (s : ByteArray) (h : s.size ≠ 8 ∨ bs (s.extract 0 5) ≠ httpL ∨ (∃ h : 5 < s.size, isDig s[5] = false) ∨ (∃ h : 6 < s.size, s[6] ≠ 46) ∨ (∃ h : 7 < s.size, isDig s[7] = false)) : vForm (bs s) = false := by
  cases hf : vForm (bs s) with
  | false => rfl
  | true =>
    exfalso
    obtain ⟨a, b, da, db, e, -, -⟩ := vForm_of _ hf
    have hz : s.size = 8 := by rw [← length_bs, e]; rfl
    have g : ∀ k (hk : k < s.size), s[k] = (httpL ++ [a, 46, b]).getD k 0 := fun k hk => by rw [← e]; exact (getD_bs s k hk).symm
    rcases h with h | h | ⟨h, h'⟩ | ⟨h, h'⟩ | ⟨h, h'⟩
    · exact h hz
    · exact h (by rw [bs_extract, e]; rfl)
    · rw [g 5 h] at h'; rw [show (httpL ++ [a, 46, b]).getD 5 0 = a from rfl, da] at h'; cases h'
    · rw [g 6 h] at h'; exact h' rfl
    · rw [g 7 h] at h'; rw [show (httpL ++ [a, 46, b]).getD 7 0 = b from rfl, db] at h'; cases h'

def RVer (l : Bs) (w : World) (e : Ending) (w' : World) : Prop := e = .returned (.tuple #[.int .i64 (vMi l), .int .i64 (vSt l)]) ∧ w = w'

set_option maxHeartbeats 4000000 in
set_option maxRecDepth 100000 in
theorem rversion_any (s : ByteArray) (w : World) (_hs : s.size ≤ 1099511627) :
    Calls Tryd.prog 72 #[.string s] w (RVer (bs s) w) := by
  have hbad := fun h => v_none (bs s) (ver_bad s h)
  by_cases h8 : s.size = 8
  · have g5 : 5 < s.size := by omega
    have g6 : 6 < s.size := by omega
    have g7 : 7 < s.size := by omega
    have i5 : (5 : Int) ≤ (s.size : Int) := by omega
    have i5' : (5 : Int) < (s.size : Int) := by omega
    have i6 : (6 : Int) < (s.size : Int) := by omega
    have i7 : (7 : Int) < (s.size : Int) := by omega
    have e8 : ((s.size : Int) != 8) = false := by rw [bne_eq_false_iff_eq]; omega
    have D5 := fun W => rDigit_any s[5] W
    have D7 := fun W => rDigit_any s[7] W
    have H8 := Lib.hid h8
    clear h8
    by_cases h5 : bs (s.extract 0 5) = httpL
    · have e5 : ((s.extract 0 5).toList == [72, 84, 84, 80, 47]) = true := by rw [toList_bs, h5]; rfl
      have e5' : ((s.extract 0 5).toList != [72, 84, 84, 80, 47]) = false := by unfold bne; rw [e5]; rfl
      cases hd5 : isDig s[5]
      · rw [hd5] at D5
        obtain ⟨r1, r2⟩ := hbad (.inr (.inr (.inl ⟨g5, hd5⟩)))
        have R1 := Lib.hid r1
        have R2 := Lib.hid r2
        have HD5 := Lib.hid D5
        clear hbad r1 r2 D5 D7 hd5 h5
        go_enter Tryd.func72, Tryd.ntmps72
        go_wp2_with fail
        refine (HD5.out _).mono ?_
        rintro e w' ⟨rfl, rfl⟩
        go_wp2_with fail
        go_ret2
        exact ⟨by rw [R1.out, R2.out]; rfl, rfl⟩
      · rw [hd5] at D5
        by_cases h6 : s[6] = 46
        · have e6 : ((s[6].toNat : Int) != 46) = false := by rw [h6]; rfl
          cases hd7 : isDig s[7]
          · rw [hd7] at D7
            obtain ⟨r1, r2⟩ := hbad (.inr (.inr (.inr (.inr ⟨g7, hd7⟩))))
            have R1 := Lib.hid r1
            have R2 := Lib.hid r2
            have HD5 := Lib.hid D5
            have HD7 := Lib.hid D7
            clear hbad r1 r2 D5 D7 hd5 hd7 h5 h6
            go_enter Tryd.func72, Tryd.ntmps72
            go_wp2_with fail
            refine (HD5.out _).mono ?_
            rintro e w' ⟨rfl, rfl⟩
            go_wp2_with fail
            refine (HD7.out _).mono ?_
            rintro e w' ⟨rfl, rfl⟩
            go_wp2_with fail
            go_ret2
            exact ⟨by rw [R1.out, R2.out]; rfl, rfl⟩
          · rw [hd7] at D7
            have hb := ver_of8 s H8.out h5 h6
            obtain ⟨f1, f2, f3⟩ := v_digits s[5] s[7] hd5 hd7
            rw [← hb] at f1 f2 f3
            have b5 := dig_bd _ hd5
            have b7 := dig_bd _ hd7
            have hk : vKnown (bs s) = (decide (s[5] = 49) && (decide (s[7] = 48) || decide (s[7] = 49))) := by
              unfold vKnown; rw [f2, f3]; simp
            have hgd : (vB (bs s)).getD 0 0 = s[7] := by rw [f3]; rfl
            have HD5 := Lib.hid D5
            have HD7 := Lib.hid D7
            have k0 : (48 : Int) ≤ (s[7].toNat : Int) := by omega
            have k1 : (s[7].toNat : Int) ≤ 57 := by omega
            by_cases n5 : s[5] = 49
            · have e49 : ((s[5].toNat : Int) != 49) = false := by rw [n5]; rfl
              by_cases n7 : 49 < s[7].toNat
              · have e7 : (49 : Int) < (s[7].toNat : Int) := by omega
                have m1 : s[7] ≠ 48 := fun e => by rw [e] at n7; exact absurd n7 (by decide)
                have m2 : s[7] ≠ 49 := fun e => by rw [e] at n7; exact absurd n7 (by decide)
                obtain ⟨r1, r2⟩ := v_other (bs s) f1 (by rw [hk, decide_eq_false m1, decide_eq_false m2]; simp)
                have R1 := Lib.hid r1
                have R2 := Lib.hid r2
                clear hbad r1 r2 D5 D7 hd5 hd7 h5 h6 hb f1 f2 f3 b5 b7 hk hgd n5 n7 m1 m2
                go_enter Tryd.func72, Tryd.ntmps72
                go_wp2_with fail
                refine (HD5.out _).mono ?_
                rintro e w' ⟨rfl, rfl⟩
                go_wp2_with fail
                refine (HD7.out _).mono ?_
                rintro e w' ⟨rfl, rfl⟩
                go_wp2_with fail
                go_ret2
                exact ⟨by rw [R1.out, R2.out]; rfl, rfl⟩
              · have e7 : ¬ (49 : Int) < (s[7].toNat : Int) := by omega
                have m : (decide (s[7] = 48) || decide (s[7] = 49)) = true := by
                  have : s[7].toNat = 48 ∨ s[7].toNat = 49 := by omega
                  rcases this with h | h
                  · rw [show s[7] = 48 from UInt8.toNat_inj.1 h]; rfl
                  · rw [show s[7] = 49 from UInt8.toNat_inj.1 h]; rfl
                obtain ⟨r1, r2⟩ := v_known (bs s) f1 (by rw [hk, decide_eq_true n5, m]; rfl)
                rw [hgd] at r2
                have r2' : ((vMi (bs s) : Nat) : Int) = (s[7].toNat : Int) - 48 := by omega
                have R1 := Lib.hid r1
                have R2 := Lib.hid r2'
                clear hbad r1 r2 r2' D5 D7 hd5 hd7 h5 h6 hb f1 f2 f3 b5 b7 hk hgd n5 n7 m
                go_enter Tryd.func72, Tryd.ntmps72
                go_wp2_with fail
                refine (HD5.out _).mono ?_
                rintro e w' ⟨rfl, rfl⟩
                go_wp2_with fail
                refine (HD7.out _).mono ?_
                rintro e w' ⟨rfl, rfl⟩
                go_wp2_with fail
                go_ret2
                exact ⟨by rw [R1.out, R2.out]; rfl, rfl⟩
            · have e49 : ((s[5].toNat : Int) != 49) = true := by
                rw [bne_iff_ne]
                intro e
                exact n5 (UInt8.toNat_inj.1 (show s[5].toNat = 49 by omega))
              obtain ⟨r1, r2⟩ := v_other (bs s) f1 (by rw [hk, decide_eq_false n5]; rfl)
              have R1 := Lib.hid r1
              have R2 := Lib.hid r2
              clear hbad r1 r2 D5 D7 hd5 hd7 h5 h6 hb f1 f2 f3 b5 b7 hk hgd n5
              go_enter Tryd.func72, Tryd.ntmps72
              go_wp2_with fail
              refine (HD5.out _).mono ?_
              rintro e w' ⟨rfl, rfl⟩
              go_wp2_with fail
              refine (HD7.out _).mono ?_
              rintro e w' ⟨rfl, rfl⟩
              go_wp2_with fail
              go_ret2
              exact ⟨by rw [R1.out, R2.out]; rfl, rfl⟩
        · have e6 : ((s[6].toNat : Int) != 46) = true := by
            rw [bne_iff_ne]
            intro e
            exact h6 (UInt8.toNat_inj.1 (show s[6].toNat = 46 by omega))
          obtain ⟨r1, r2⟩ := hbad (.inr (.inr (.inr (.inl ⟨g6, h6⟩))))
          have R1 := Lib.hid r1
          have R2 := Lib.hid r2
          have HD5 := Lib.hid D5
          clear hbad r1 r2 D5 D7 hd5 h5 h6
          go_enter Tryd.func72, Tryd.ntmps72
          go_wp2_with fail
          refine (HD5.out _).mono ?_
          rintro e w' ⟨rfl, rfl⟩
          go_wp2_with fail
          go_ret2
          exact ⟨by rw [R1.out, R2.out]; rfl, rfl⟩
    · have e5 : ((s.extract 0 5).toList == [72, 84, 84, 80, 47]) = false := by rw [toList_bs]; exact beq_eq_false_iff_ne.2 h5
      have e5' : ((s.extract 0 5).toList != [72, 84, 84, 80, 47]) = true := by unfold bne; rw [e5]; rfl
      obtain ⟨r1, r2⟩ := hbad (.inr (.inl h5))
      have R1 := Lib.hid r1
      have R2 := Lib.hid r2
      clear hbad r1 r2 D5 D7 h5
      go_enter Tryd.func72, Tryd.ntmps72
      go_wp2_with fail
      go_ret2
      exact ⟨by rw [R1.out, R2.out]; rfl, rfl⟩
  · have e8 : ((s.size : Int) != 8) = true := by rw [bne_iff_ne]; omega
    obtain ⟨r1, r2⟩ := hbad (.inl h8)
    have R1 := Lib.hid r1
    have R2 := Lib.hid r2
    clear hbad r1 r2 h8
    go_enter Tryd.func72, Tryd.ntmps72
    go_wp2_with fail
    go_ret2
    exact ⟨by rw [R1.out, R2.out]; rfl, rfl⟩

theorem rSt_noT (l : Bs) (h : (cutL 32 l).2.2 = false) : rSt l = 400 := by
  unfold rSt
  rw [if_neg]
  intro hin
  unfold rIn at hin
  rw [Bool.and_eq_true] at hin
  have h2 := hin.2
  unfold rT at h2
  rw [cut_nil_of 32 l h, cut_empty] at h2
  exact absurd h2 (by decide)
theorem rSt_noV (l : Bs) (h : (cutL 32 (cutL 32 l).2.1).2.2 = false) : rSt l = 400 := by
  unfold rSt
  split
  · unfold rV
    rw [cut_nil_of 32 _ h]; decide
  · rfl
theorem rSt_notin (l : Bs) (h : rIn (rM l) (rT l) = false) : rSt l = 400 := by unfold rSt; rw [if_neg (by rw [h]; simp)]
theorem rSt_in (l : Bs) (h : rIn (rM l) (rT l) = true) : rSt l = vSt (rV l) := by unfold rSt; rw [if_pos h]
theorem req_ok (l : Bs) (h : rSt l = 0) : reqM l = rM l ∧ reqT l = rT l ∧ reqN l = vMi (rV l) := by
  unfold reqM reqT reqN
  rw [if_pos h, if_pos h, if_pos h]; exact ⟨rfl, rfl, rfl⟩

set_option maxHeartbeats 8000000 in
set_option maxRecDepth 100000 in
theorem rrequest_any (s : ByteArray) (w : World) (hs : s.size ≤ 1099511627) :
    Calls Tryd.prog 17 #[.string s] w (ReqPost (bs s) w) := by
  have l1 := cutl1 32 (bs s)
  have l2 := cutl2 32 (bs s)
  have l3 := cutl1 32 (cutL 32 (bs s)).2.1
  have l4 := cutl2 32 (cutL 32 (bs s)).2.1
  rw [length_bs] at l1 l2
  have hc1 := rcut_any s w (by omega)
  have hc2 := fun W => rcut_any (mkS (cutL 32 (bs s)).2.1) W (by rw [size_mkS]; omega)
  rw [bs_mkS] at hc2
  have hv := fun W => rversion_any (mkS (rV (bs s))) W (by rw [size_mkS]; unfold rV; omega)
  unfold RVer at hv
  have hq := fun W => rToken_any (mkS (rM (bs s))) W (by rw [size_mkS]; unfold rM; omega)
  have ht := fun W => rseen_any (mkS (rT (bs s))) W (by rw [size_mkS]; unfold rT; omega)
  rw [bs_mkS] at hv hq ht
  have hb := req_bad (bs s)
  have hno1 := rSt_noT (bs s)
  have hno2 := rSt_noV (bs s)
  have hni := rSt_notin (bs s)
  have hin := rSt_in (bs s)
  have hok := req_ok (bs s)
  have hI : rIn (rM (bs s)) (rT (bs s)) = (tokL (rM (bs s)) && someL vis (rT (bs s))) := rfl
  have hc1' : Calls Tryd.prog 69 #[.string s] w fun e w' => e = .returned (.tuple #[.string (mkS (rM (bs s))), .string (mkS (cutL 32 (bs s)).2.1), .bool (cutL 32 (bs s)).2.2]) ∧ Below w.heap.size w w' := hc1
  have hc2' : ∀ W, Calls Tryd.prog 69 #[.string (mkS (cutL 32 (bs s)).2.1)] W fun e w' => e = .returned (.tuple #[.string (mkS (rT (bs s))), .string (mkS (rV (bs s))), .bool (cutL 32 (cutL 32 (bs s)).2.1).2.2]) ∧ Below W.heap.size W w' := hc2
  clear l1 l2 l3 l4 hc1 hc2
  generalize hf2 : (cutL 32 (cutL 32 (bs s)).2.1).2.2 = f2 at *
  generalize mkS (cutL 32 (bs s)).2.1 = R at *
  generalize hf1 : (cutL 32 (bs s)).2.2 = f1 at *
  clear hf1 hf2
  rw [hI] at hni hin
  clear hI
  cases f1
  · have h400 := hno1 rfl
    obtain ⟨b1, b2, b3⟩ := hb 400 h400 (by omega)
    have H1 := Lib.hid h400
    have H2 := Lib.hid b1
    have H3 := Lib.hid b2
    have H4 := Lib.hid b3
    have HC1 := Lib.hid hc1'
    have HC2 := Lib.hid hc2'
    have HV := Lib.hid hv
    have HQ := Lib.hid hq
    have HT := Lib.hid ht
    clear hb hno1 hno2 hni hin hok hc1' hc2' hv hq ht h400 b1 b2 b3
    generalize mkS (rM (bs s)) = M at *
    generalize mkS (rT (bs s)) = T at *
    generalize mkS (rV (bs s)) = V at *
    generalize vMi (rV (bs s)) = n at *
    generalize vSt (rV (bs s)) = st at *
    go_enter Tryd.func17, Tryd.ntmps17
    go_wp2_with fail
    refine HC1.out.mono ?_
    rintro e w1 ⟨rfl, hb⟩
    have HB := Lib.hid hb
    clear hb
    go_wp2_with fail
    refine (HC2.out _).mono ?_
    rintro e w2 ⟨rfl, hb⟩
    have HB2 := Lib.hid (HB.out.trans (hb.mono HB.out.size))
    clear hb
    go_wp2_with fail
    try simp only [Exit.inBlock, Exit.then]
    refine bodyPost_ret (results_tmp4 rfl _ _ _) rfl ⟨?_, HB2.out⟩
    rw [H1.out, H2.out, H3.out, H4.out]; rfl
  · cases f2
    · have h400 := hno2 rfl
      obtain ⟨b1, b2, b3⟩ := hb 400 h400 (by omega)
      have H1 := Lib.hid h400
      have H2 := Lib.hid b1
      have H3 := Lib.hid b2
      have H4 := Lib.hid b3
      have HC1 := Lib.hid hc1'
      have HC2 := Lib.hid hc2'
      have HV := Lib.hid hv
      have HQ := Lib.hid hq
      have HT := Lib.hid ht
      clear hb hno1 hno2 hni hin hok hc1' hc2' hv hq ht h400 b1 b2 b3
      generalize mkS (rM (bs s)) = M at *
      generalize mkS (rT (bs s)) = T at *
      generalize mkS (rV (bs s)) = V at *
      generalize vMi (rV (bs s)) = n at *
      generalize vSt (rV (bs s)) = st at *
      go_enter Tryd.func17, Tryd.ntmps17
      go_wp2_with fail
      refine HC1.out.mono ?_
      rintro e w1 ⟨rfl, hb⟩
      have HB := Lib.hid hb
      clear hb
      go_wp2_with fail
      refine (HC2.out _).mono ?_
      rintro e w2 ⟨rfl, hb⟩
      have HB2 := Lib.hid (HB.out.trans (hb.mono HB.out.size))
      clear hb
      go_wp2_with fail
      try simp only [Exit.inBlock, Exit.then]
      refine bodyPost_ret (results_tmp4 rfl _ _ _) rfl ⟨?_, HB2.out⟩
      rw [H1.out, H2.out, H3.out, H4.out]; rfl
    · cases h1 : tokL (rM (bs s))
      · rw [h1] at hq
        have h400 := hni (by rw [h1]; rfl)
        obtain ⟨b1, b2, b3⟩ := hb 400 h400 (by omega)
        have H1 := Lib.hid h400
        have H2 := Lib.hid b1
        have H3 := Lib.hid b2
        have H4 := Lib.hid b3
        have HC1 := Lib.hid hc1'
        have HC2 := Lib.hid hc2'
        have HV := Lib.hid hv
        have HQ := Lib.hid hq
        have HT := Lib.hid ht
        clear hb hno1 hno2 hni hin hok hc1' hc2' hv hq ht h400 b1 b2 b3
        clear h1
        generalize mkS (rM (bs s)) = M at *
        generalize mkS (rT (bs s)) = T at *
        generalize mkS (rV (bs s)) = V at *
        generalize vMi (rV (bs s)) = n at *
        generalize vSt (rV (bs s)) = st at *
        go_enter Tryd.func17, Tryd.ntmps17
        go_wp2_with fail
        refine HC1.out.mono ?_
        rintro e w1 ⟨rfl, hb⟩
        have HB := Lib.hid hb
        clear hb
        go_wp2_with fail
        refine (HC2.out _).mono ?_
        rintro e w2 ⟨rfl, hb⟩
        have HB2 := Lib.hid (HB.out.trans (hb.mono HB.out.size))
        clear hb
        go_wp2_with fail
        refine (HQ.out _).mono ?_
        rintro e w' ⟨rfl, rfl⟩
        go_wp2_with fail
        try simp only [Exit.inBlock, Exit.then]
        refine bodyPost_ret (results_tmp4 rfl _ _ _) rfl ⟨?_, HB2.out⟩
        rw [H1.out, H2.out, H3.out, H4.out]; rfl
      · rw [h1] at hq
        cases h2 : someL vis (rT (bs s))
        · rw [h2] at ht
          have h400 := hni (by rw [h2]; simp)
          obtain ⟨b1, b2, b3⟩ := hb 400 h400 (by omega)
          have H1 := Lib.hid h400
          have H2 := Lib.hid b1
          have H3 := Lib.hid b2
          have H4 := Lib.hid b3
          have HC1 := Lib.hid hc1'
          have HC2 := Lib.hid hc2'
          have HV := Lib.hid hv
          have HQ := Lib.hid hq
          have HT := Lib.hid ht
          clear hb hno1 hno2 hni hin hok hc1' hc2' hv hq ht h400 b1 b2 b3
          clear h1 h2
          generalize mkS (rM (bs s)) = M at *
          generalize mkS (rT (bs s)) = T at *
          generalize mkS (rV (bs s)) = V at *
          generalize vMi (rV (bs s)) = n at *
          generalize vSt (rV (bs s)) = st at *
          go_enter Tryd.func17, Tryd.ntmps17
          go_wp2_with fail
          refine HC1.out.mono ?_
          rintro e w1 ⟨rfl, hb⟩
          have HB := Lib.hid hb
          clear hb
          go_wp2_with fail
          refine (HC2.out _).mono ?_
          rintro e w2 ⟨rfl, hb⟩
          have HB2 := Lib.hid (HB.out.trans (hb.mono HB.out.size))
          clear hb
          go_wp2_with fail
          refine (HQ.out _).mono ?_
          rintro e w' ⟨rfl, rfl⟩
          go_wp2_with fail
          refine (HT.out _).mono ?_
          rintro e w' ⟨rfl, rfl⟩
          go_wp2_with fail
          try simp only [Exit.inBlock, Exit.then]
          refine bodyPost_ret (results_tmp4 rfl _ _ _) rfl ⟨?_, HB2.out⟩
          rw [H1.out, H2.out, H3.out, H4.out]; rfl
        · rw [h2] at ht
          have hS2 := hin (by rw [h1, h2]; rfl)
          by_cases h0 : vSt (rV (bs s)) = 0
          · have e0 : ((vSt (rV (bs s)) : Int) != 0) = false := by rw [bne_eq_false_iff_eq]; omega
            have h00 := hS2.trans h0
            obtain ⟨b1, b2, b3⟩ := hok h00
            have H1 := Lib.hid h00
            have H2 := Lib.hid b1
            have H3 := Lib.hid b2
            have H4 := Lib.hid b3
            have HC1 := Lib.hid hc1'
            have HC2 := Lib.hid hc2'
            have HV := Lib.hid hv
            have HQ := Lib.hid hq
            have HT := Lib.hid ht
            clear hb hno1 hno2 hni hin hok hc1' hc2' hv hq ht h00 h0 h1 h2 hS2 b1 b2 b3
            generalize mkS (rV (bs s)) = V at *
            generalize vMi (rV (bs s)) = n at *
            generalize vSt (rV (bs s)) = st at *
            go_enter Tryd.func17, Tryd.ntmps17
            go_wp2_with fail
            refine HC1.out.mono ?_
            rintro e w1 ⟨rfl, hb⟩
            have HB := Lib.hid hb
            clear hb
            go_wp2_with fail
            refine (HC2.out _).mono ?_
            rintro e w2 ⟨rfl, hb⟩
            have HB2 := Lib.hid (HB.out.trans (hb.mono HB.out.size))
            clear hb
            go_wp2_with fail
            refine (HQ.out _).mono ?_
            rintro e w' ⟨rfl, rfl⟩
            go_wp2_with fail
            refine (HT.out _).mono ?_
            rintro e w' ⟨rfl, rfl⟩
            go_wp2_with fail
            refine (HV.out _).mono ?_
            rintro e w' ⟨rfl, rfl⟩
            go_wp2_with fail
            try simp only [Exit.inBlock, Exit.then]
            refine bodyPost_ret (results_tmp4 rfl _ _ _) rfl ⟨?_, HB2.out⟩
            rw [H1.out, H2.out, H3.out, H4.out]; rfl
          · have e0 : ((vSt (rV (bs s)) : Int) != 0) = true := by rw [bne_iff_ne]; omega
            obtain ⟨b1, b2, b3⟩ := hb _ hS2 h0
            have H1 := Lib.hid hS2
            have H2 := Lib.hid b1
            have H3 := Lib.hid b2
            have H4 := Lib.hid b3
            have HC1 := Lib.hid hc1'
            have HC2 := Lib.hid hc2'
            have HV := Lib.hid hv
            have HQ := Lib.hid hq
            have HT := Lib.hid ht
            clear hb hno1 hno2 hni hin hok hc1' hc2' hv hq ht h0 h1 h2 hS2 b1 b2 b3
            generalize mkS (rM (bs s)) = M at *
            generalize mkS (rT (bs s)) = T at *
            generalize mkS (rV (bs s)) = V at *
            generalize vMi (rV (bs s)) = n at *
            generalize vSt (rV (bs s)) = st at *
            go_enter Tryd.func17, Tryd.ntmps17
            go_wp2_with fail
            refine HC1.out.mono ?_
            rintro e w1 ⟨rfl, hb⟩
            have HB := Lib.hid hb
            clear hb
            go_wp2_with fail
            refine (HC2.out _).mono ?_
            rintro e w2 ⟨rfl, hb⟩
            have HB2 := Lib.hid (HB.out.trans (hb.mono HB.out.size))
            clear hb
            go_wp2_with fail
            refine (HQ.out _).mono ?_
            rintro e w' ⟨rfl, rfl⟩
            go_wp2_with fail
            refine (HT.out _).mono ?_
            rintro e w' ⟨rfl, rfl⟩
            go_wp2_with fail
            refine (HV.out _).mono ?_
            rintro e w' ⟨rfl, rfl⟩
            go_wp2_with fail
            try simp only [Exit.inBlock, Exit.then]
            refine bodyPost_ret (results_tmp4 rfl _ _ _) rfl ⟨?_, HB2.out⟩
            rw [H1.out, H2.out, H3.out, H4.out]; rfl
end Tk
end Go.Proofs.YtliinjibnikfgaaDoor
