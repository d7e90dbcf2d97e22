/- The document's own status line. -/
import Derived.Test.YtliinjibnikfgaaDoorRefR
import Derived.Test.YtliinjibnikfgaaDoorRefU
import Derived.Test.YtliinjibnikfgaaDoorStaF
namespace Go.Proofs.YtliinjibnikfgaaDoor
open Go.RowKit
namespace Tk

set_option maxHeartbeats 8000000 in
set_option maxRecDepth 100000 in
theorem rstatus_any (s : ByteArray) (w : World) (hs : s.size ≤ 1099511627) :
    Calls Tryd.prog 18 #[.string s] w (StaPost (bs s) w) := by
  have l1 := cutl1 32 (bs s)
  have l2 := cutl2 32 (bs s)
  have l3 := cutl1 32 (cutL 32 (bs s)).2.1
  have l4 := cutl2 32 (cutL 32 (bs s)).2.1
  rw [length_bs] at l1 l2
  have hc1 := rcut_any s w (by omega)
  have hc2 := fun W => rcut_any (mkS (cutL 32 (bs s)).2.1) W (by rw [size_mkS]; omega)
  rw [bs_mkS] at hc2
  have hv := fun W => rversion_any (mkS (sV (bs s))) W (by rw [size_mkS]; unfold sV; omega)
  unfold RVer at hv
  have hnum := fun W => rnumber_any (mkS (sD (bs s))) W (by rw [size_mkS]; unfold sD; omega)
  unfold RNum at hnum
  have hch := fun W => rChars_any (mkS (sR (bs s))) W (by rw [size_mkS]; unfold sR; omega)
  rw [bs_mkS] at hv hnum hch
  have hz := size_mkS (sD (bs s))
  have hO : sOk (bs s) = (decide (vSt (sV (bs s)) = 0) && decide ((numL (sD (bs s))).2 = 0) && decide ((sD (bs s)).length = 3) && sB (bs s) && sIn (numL (sD (bs s))).1 (sR (bs s))) := rfl
  have hI : sIn (numL (sD (bs s))).1 (sR (bs s)) = (decide (100 ≤ (numL (sD (bs s))).1) && decide ((numL (sD (bs s))).1 ≤ 599) && allL 1 (sR (bs s))) := rfl
  have hB1 : (cutL 32 (bs s)).2.2 = false → sB (bs s) = false := by
    intro h
    unfold sB
    rw [cut_nil_of 32 _ h, cut_empty]
  have hc1' : Calls Tryd.prog 69 #[.string s] w fun e w' => e = .returned (.tuple #[.string (mkS (sV (bs s))), .string (mkS (cutL 32 (bs s)).2.1), .bool (cutL 32 (bs s)).2.2]) ∧ Below w.heap.size w w' := hc1
  have hc2' : ∀ W, Calls Tryd.prog 69 #[.string (mkS (cutL 32 (bs s)).2.1)] W fun e w' => e = .returned (.tuple #[.string (mkS (sD (bs s))), .string (mkS (sR (bs s))), .bool (sB (bs s))]) ∧ Below W.heap.size W w' := hc2
  have hbad := sta_no (bs s)
  have hgood := sta_yes (bs s)
  rw [hO, hI] at hbad hgood
  clear l1 l2 l3 l4 hc1 hc2 hO hI
  generalize mkS (cutL 32 (bs s)).2.1 = R at *
  generalize (cutL 32 (bs s)).2.2 = f1 at *
  cases f1
  · have hb0 := hB1 rfl
    obtain ⟨b1, b2, b3, b4⟩ := hbad (by rw [hb0]; simp)
    have H1 := Lib.hid b1
    have H2 := Lib.hid b2
    have H3 := Lib.hid b3
    have H4 := Lib.hid b4
    have HC1 := Lib.hid hc1'
    have HC2 := Lib.hid hc2'
    have HV := Lib.hid hv
    have HN := Lib.hid hnum
    have HCh := Lib.hid hch
    clear hbad hgood b1 b2 b3 b4 hc1' hc2' hv hnum hch hB1 hz hb0
    generalize sB (bs s) = f2 at *
    generalize mkS (sV (bs s)) = V at *
    generalize mkS (sD (bs s)) = D at *
    generalize mkS (sR (bs s)) = Re at *
    generalize vMi (sV (bs s)) = vm at *
    generalize vSt (sV (bs s)) = st at *
    generalize numL (sD (bs s)) = nm at *
    go_enter Tryd.func18, Tryd.ntmps18
    go_wp2_with fail
    refine HC1.out.mono ?_
    rintro e w1 ⟨rfl, hb⟩
    have HB := Lib.hid hb
    clear hb
    go_wp2_with fail
    refine (HV.out _).mono ?_
    rintro e w' ⟨rfl, rfl⟩
    go_wp2_with fail
    refine (HC2.out _).mono ?_
    rintro e w2 ⟨rfl, hb⟩
    have HB2 := Lib.hid (HB.out.trans (hb.mono HB.out.size))
    clear hb
    go_wp2_with fail
    try simp only [Exit.inBlock, Exit.then]
    refine bodyPost_ret (results_tmp4 rfl _ _ _) rfl ⟨?_, HB2.out⟩
    rw [H1.out, H2.out, H3.out, H4.out]; rfl
  · cases h4 : sB (bs s)
    · rw [h4] at hc2'
      obtain ⟨b1, b2, b3, b4⟩ := hbad (by rw [h4]; simp)
      have H1 := Lib.hid b1
      have H2 := Lib.hid b2
      have H3 := Lib.hid b3
      have H4 := Lib.hid b4
      have HC1 := Lib.hid hc1'
      have HC2 := Lib.hid hc2'
      have HV := Lib.hid hv
      have HN := Lib.hid hnum
      have HCh := Lib.hid hch
      clear hbad hgood b1 b2 b3 b4 hc1' hc2' hv hnum hch hB1 hz h4
      generalize mkS (sV (bs s)) = V at *
      generalize mkS (sD (bs s)) = D at *
      generalize mkS (sR (bs s)) = Re at *
      generalize vMi (sV (bs s)) = vm at *
      generalize vSt (sV (bs s)) = st at *
      generalize numL (sD (bs s)) = nm at *
      go_enter Tryd.func18, Tryd.ntmps18
      go_wp2_with fail
      refine HC1.out.mono ?_
      rintro e w1 ⟨rfl, hb⟩
      have HB := Lib.hid hb
      clear hb
      go_wp2_with fail
      refine (HV.out _).mono ?_
      rintro e w' ⟨rfl, rfl⟩
      go_wp2_with fail
      refine (HC2.out _).mono ?_
      rintro e w2 ⟨rfl, hb⟩
      have HB2 := Lib.hid (HB.out.trans (hb.mono HB.out.size))
      clear hb
      go_wp2_with fail
      try simp only [Exit.inBlock, Exit.then]
      refine bodyPost_ret (results_tmp4 rfl _ _ _) rfl ⟨?_, HB2.out⟩
      rw [H1.out, H2.out, H3.out, H4.out]; rfl
    · rw [h4] at hc2' hbad hgood
      by_cases h1 : vSt (sV (bs s)) = 0
      · have e1 : ((vSt (sV (bs s)) : Int) != 0) = false := by rw [bne_eq_false_iff_eq]; omega
        by_cases h3 : (sD (bs s)).length = 3
        · have e3 : (((mkS (sD (bs s))).size : Int) != 3) = false := by rw [bne_eq_false_iff_eq]; omega
          cases h5 : allL 1 (sR (bs s))
          · rw [h5] at hch
            obtain ⟨b1, b2, b3, b4⟩ := hbad (by rw [h5]; simp)
            have H1 := Lib.hid b1
            have H2 := Lib.hid b2
            have H3 := Lib.hid b3
            have H4 := Lib.hid b4
            have HC1 := Lib.hid hc1'
            have HC2 := Lib.hid hc2'
            have HV := Lib.hid hv
            have HN := Lib.hid hnum
            have HCh := Lib.hid hch
            clear hbad hgood b1 b2 b3 b4 hc1' hc2' hv hnum hch hB1 hz h1 h3 h4 h5
            generalize mkS (sV (bs s)) = V at *
            generalize mkS (sD (bs s)) = D at *
            generalize mkS (sR (bs s)) = Re at *
            generalize vMi (sV (bs s)) = vm at *
            generalize vSt (sV (bs s)) = st at *
            generalize numL (sD (bs s)) = nm at *
            go_enter Tryd.func18, Tryd.ntmps18
            go_wp2_with fail
            refine HC1.out.mono ?_
            rintro e w1 ⟨rfl, hb⟩
            have HB := Lib.hid hb
            clear hb
            go_wp2_with fail
            refine (HV.out _).mono ?_
            rintro e w' ⟨rfl, rfl⟩
            go_wp2_with fail
            refine (HC2.out _).mono ?_
            rintro e w2 ⟨rfl, hb⟩
            have HB2 := Lib.hid (HB.out.trans (hb.mono HB.out.size))
            clear hb
            go_wp2_with fail
            refine (HCh.out _).mono ?_
            rintro e w' ⟨rfl, rfl⟩
            go_wp2_with fail
            try simp only [Exit.inBlock, Exit.then]
            refine bodyPost_ret (results_tmp4 rfl _ _ _) rfl ⟨?_, HB2.out⟩
            rw [H1.out, H2.out, H3.out, H4.out]; rfl
          · rw [h5] at hch hbad hgood
            by_cases h2 : (numL (sD (bs s))).2 = 0
            · have e2 : (((numL (sD (bs s))).2 : Int) != 0) = false := by rw [bne_eq_false_iff_eq]; omega
              by_cases h6 : 100 ≤ (numL (sD (bs s))).1
              · have e6 : ¬ ((numL (sD (bs s))).1 : Int) < 100 := by omega
                by_cases h7 : (numL (sD (bs s))).1 ≤ 599
                · have e7 : ¬ (599 : Int) < ((numL (sD (bs s))).1 : Int) := by omega
                  obtain ⟨b1, b2, b3, b4⟩ := hgood (by rw [decide_eq_true h1, decide_eq_true h2, decide_eq_true h3, decide_eq_true h6, decide_eq_true h7]; rfl)
                  have H1 := Lib.hid b1
                  have H2 := Lib.hid b2
                  have H3 := Lib.hid b3
                  have H4 := Lib.hid b4
                  have HC1 := Lib.hid hc1'
                  have HC2 := Lib.hid hc2'
                  have HV := Lib.hid hv
                  have HN := Lib.hid hnum
                  have HCh := Lib.hid hch
                  clear hbad hgood b1 b2 b3 b4 hc1' hc2' hv hnum hch hB1 hz h1 h2 h3 h4 h5 h6 h7
                  generalize mkS (sV (bs s)) = V at *
                  generalize mkS (sD (bs s)) = D at *
                  generalize vMi (sV (bs s)) = vm at *
                  generalize vSt (sV (bs s)) = st at *
                  generalize numL (sD (bs s)) = nm at *
                  go_enter Tryd.func18, Tryd.ntmps18
                  go_wp2_with fail
                  refine HC1.out.mono ?_
                  rintro e w1 ⟨rfl, hb⟩
                  have HB := Lib.hid hb
                  clear hb
                  go_wp2_with fail
                  refine (HV.out _).mono ?_
                  rintro e w' ⟨rfl, rfl⟩
                  go_wp2_with fail
                  refine (HC2.out _).mono ?_
                  rintro e w2 ⟨rfl, hb⟩
                  have HB2 := Lib.hid (HB.out.trans (hb.mono HB.out.size))
                  clear hb
                  go_wp2_with fail
                  refine (HCh.out _).mono ?_
                  rintro e w' ⟨rfl, rfl⟩
                  go_wp2_with fail
                  refine (HN.out _).mono ?_
                  rintro e w' ⟨rfl, rfl⟩
                  go_wp2_with fail
                  try simp only [Exit.inBlock, Exit.then]
                  refine bodyPost_ret (results_tmp4 rfl _ _ _) rfl ⟨?_, HB2.out⟩
                  rw [H1.out, H2.out, H3.out, H4.out]; rfl
                · have e7 : (599 : Int) < ((numL (sD (bs s))).1 : Int) := by omega
                  obtain ⟨b1, b2, b3, b4⟩ := hbad (by rw [decide_eq_false h7]; simp)
                  have H1 := Lib.hid b1
                  have H2 := Lib.hid b2
                  have H3 := Lib.hid b3
                  have H4 := Lib.hid b4
                  have HC1 := Lib.hid hc1'
                  have HC2 := Lib.hid hc2'
                  have HV := Lib.hid hv
                  have HN := Lib.hid hnum
                  have HCh := Lib.hid hch
                  clear hbad hgood b1 b2 b3 b4 hc1' hc2' hv hnum hch hB1 hz h1 h2 h3 h4 h5 h6 h7
                  generalize mkS (sV (bs s)) = V at *
                  generalize mkS (sD (bs s)) = D at *
                  generalize mkS (sR (bs s)) = Re at *
                  generalize vMi (sV (bs s)) = vm at *
                  generalize vSt (sV (bs s)) = st at *
                  generalize numL (sD (bs s)) = nm at *
                  go_enter Tryd.func18, Tryd.ntmps18
                  go_wp2_with fail
                  refine HC1.out.mono ?_
                  rintro e w1 ⟨rfl, hb⟩
                  have HB := Lib.hid hb
                  clear hb
                  go_wp2_with fail
                  refine (HV.out _).mono ?_
                  rintro e w' ⟨rfl, rfl⟩
                  go_wp2_with fail
                  refine (HC2.out _).mono ?_
                  rintro e w2 ⟨rfl, hb⟩
                  have HB2 := Lib.hid (HB.out.trans (hb.mono HB.out.size))
                  clear hb
                  go_wp2_with fail
                  refine (HCh.out _).mono ?_
                  rintro e w' ⟨rfl, rfl⟩
                  go_wp2_with fail
                  refine (HN.out _).mono ?_
                  rintro e w' ⟨rfl, rfl⟩
                  go_wp2_with fail
                  try simp only [Exit.inBlock, Exit.then]
                  refine bodyPost_ret (results_tmp4 rfl _ _ _) rfl ⟨?_, HB2.out⟩
                  rw [H1.out, H2.out, H3.out, H4.out]; rfl
              · have e6 : ((numL (sD (bs s))).1 : Int) < 100 := by omega
                obtain ⟨b1, b2, b3, b4⟩ := hbad (by rw [decide_eq_false h6]; simp)
                have H1 := Lib.hid b1
                have H2 := Lib.hid b2
                have H3 := Lib.hid b3
                have H4 := Lib.hid b4
                have HC1 := Lib.hid hc1'
                have HC2 := Lib.hid hc2'
                have HV := Lib.hid hv
                have HN := Lib.hid hnum
                have HCh := Lib.hid hch
                clear hbad hgood b1 b2 b3 b4 hc1' hc2' hv hnum hch hB1 hz h1 h2 h3 h4 h5 h6
                generalize mkS (sV (bs s)) = V at *
                generalize mkS (sD (bs s)) = D at *
                generalize mkS (sR (bs s)) = Re at *
                generalize vMi (sV (bs s)) = vm at *
                generalize vSt (sV (bs s)) = st at *
                generalize numL (sD (bs s)) = nm at *
                go_enter Tryd.func18, Tryd.ntmps18
                go_wp2_with fail
                refine HC1.out.mono ?_
                rintro e w1 ⟨rfl, hb⟩
                have HB := Lib.hid hb
                clear hb
                go_wp2_with fail
                refine (HV.out _).mono ?_
                rintro e w' ⟨rfl, rfl⟩
                go_wp2_with fail
                refine (HC2.out _).mono ?_
                rintro e w2 ⟨rfl, hb⟩
                have HB2 := Lib.hid (HB.out.trans (hb.mono HB.out.size))
                clear hb
                go_wp2_with fail
                refine (HCh.out _).mono ?_
                rintro e w' ⟨rfl, rfl⟩
                go_wp2_with fail
                refine (HN.out _).mono ?_
                rintro e w' ⟨rfl, rfl⟩
                go_wp2_with fail
                try simp only [Exit.inBlock, Exit.then]
                refine bodyPost_ret (results_tmp4 rfl _ _ _) rfl ⟨?_, HB2.out⟩
                rw [H1.out, H2.out, H3.out, H4.out]; rfl
            · have e2 : (((numL (sD (bs s))).2 : Int) != 0) = true := by rw [bne_iff_ne]; omega
              obtain ⟨b1, b2, b3, b4⟩ := hbad (by rw [decide_eq_false h2]; simp)
              have H1 := Lib.hid b1
              have H2 := Lib.hid b2
              have H3 := Lib.hid b3
              have H4 := Lib.hid b4
              have HC1 := Lib.hid hc1'
              have HC2 := Lib.hid hc2'
              have HV := Lib.hid hv
              have HN := Lib.hid hnum
              have HCh := Lib.hid hch
              clear hbad hgood b1 b2 b3 b4 hc1' hc2' hv hnum hch hB1 hz h1 h2 h3 h4 h5
              generalize mkS (sV (bs s)) = V at *
              generalize mkS (sD (bs s)) = D at *
              generalize mkS (sR (bs s)) = Re at *
              generalize vMi (sV (bs s)) = vm at *
              generalize vSt (sV (bs s)) = st at *
              generalize numL (sD (bs s)) = nm at *
              go_enter Tryd.func18, Tryd.ntmps18
              go_wp2_with fail
              refine HC1.out.mono ?_
              rintro e w1 ⟨rfl, hb⟩
              have HB := Lib.hid hb
              clear hb
              go_wp2_with fail
              refine (HV.out _).mono ?_
              rintro e w' ⟨rfl, rfl⟩
              go_wp2_with fail
              refine (HC2.out _).mono ?_
              rintro e w2 ⟨rfl, hb⟩
              have HB2 := Lib.hid (HB.out.trans (hb.mono HB.out.size))
              clear hb
              go_wp2_with fail
              refine (HCh.out _).mono ?_
              rintro e w' ⟨rfl, rfl⟩
              go_wp2_with fail
              refine (HN.out _).mono ?_
              rintro e w' ⟨rfl, rfl⟩
              go_wp2_with fail
              try simp only [Exit.inBlock, Exit.then]
              refine bodyPost_ret (results_tmp4 rfl _ _ _) rfl ⟨?_, HB2.out⟩
              rw [H1.out, H2.out, H3.out, H4.out]; rfl
        · have e3 : (((mkS (sD (bs s))).size : Int) != 3) = true := by rw [bne_iff_ne]; omega
          obtain ⟨b1, b2, b3, b4⟩ := hbad (by rw [decide_eq_false h3]; simp)
          have H1 := Lib.hid b1
          have H2 := Lib.hid b2
          have H3 := Lib.hid b3
          have H4 := Lib.hid b4
          have HC1 := Lib.hid hc1'
          have HC2 := Lib.hid hc2'
          have HV := Lib.hid hv
          have HN := Lib.hid hnum
          have HCh := Lib.hid hch
          clear hbad hgood b1 b2 b3 b4 hc1' hc2' hv hnum hch hB1 hz h1 h3 h4
          generalize mkS (sV (bs s)) = V at *
          generalize mkS (sD (bs s)) = D at *
          generalize mkS (sR (bs s)) = Re at *
          generalize vMi (sV (bs s)) = vm at *
          generalize vSt (sV (bs s)) = st at *
          generalize numL (sD (bs s)) = nm at *
          go_enter Tryd.func18, Tryd.ntmps18
          go_wp2_with fail
          refine HC1.out.mono ?_
          rintro e w1 ⟨rfl, hb⟩
          have HB := Lib.hid hb
          clear hb
          go_wp2_with fail
          refine (HV.out _).mono ?_
          rintro e w' ⟨rfl, rfl⟩
          go_wp2_with fail
          refine (HC2.out _).mono ?_
          rintro e w2 ⟨rfl, hb⟩
          have HB2 := Lib.hid (HB.out.trans (hb.mono HB.out.size))
          clear hb
          go_wp2_with fail
          try simp only [Exit.inBlock, Exit.then]
          refine bodyPost_ret (results_tmp4 rfl _ _ _) rfl ⟨?_, HB2.out⟩
          rw [H1.out, H2.out, H3.out, H4.out]; rfl
      · have e1 : ((vSt (sV (bs s)) : Int) != 0) = true := by rw [bne_iff_ne]; omega
        obtain ⟨b1, b2, b3, b4⟩ := hbad (by rw [decide_eq_false h1]; simp)
        have H1 := Lib.hid b1
        have H2 := Lib.hid b2
        have H3 := Lib.hid b3
        have H4 := Lib.hid b4
        have HC1 := Lib.hid hc1'
        have HC2 := Lib.hid hc2'
        have HV := Lib.hid hv
        have HN := Lib.hid hnum
        have HCh := Lib.hid hch
        clear hbad hgood b1 b2 b3 b4 hc1' hc2' hv hnum hch hB1 hz h1 h4
        generalize mkS (sV (bs s)) = V at *
        generalize mkS (sD (bs s)) = D at *
        generalize mkS (sR (bs s)) = Re at *
        generalize vMi (sV (bs s)) = vm at *
        generalize vSt (sV (bs s)) = st at *
        generalize numL (sD (bs s)) = nm at *
        go_enter Tryd.func18, Tryd.ntmps18
        go_wp2_with fail
        refine HC1.out.mono ?_
        rintro e w1 ⟨rfl, hb⟩
        have HB := Lib.hid hb
        clear hb
        go_wp2_with fail
        refine (HV.out _).mono ?_
        rintro e w' ⟨rfl, rfl⟩
        go_wp2_with fail
        refine (HC2.out _).mono ?_
        rintro e w2 ⟨rfl, hb⟩
        have HB2 := Lib.hid (HB.out.trans (hb.mono HB.out.size))
        clear hb
        go_wp2_with fail
        try simp only [Exit.inBlock, Exit.then]
        refine bodyPost_ret (results_tmp4 rfl _ _ _) rfl ⟨?_, HB2.out⟩
        rw [H1.out, H2.out, H3.out, H4.out]; rfl
end Tk
end Go.Proofs.YtliinjibnikfgaaDoor
