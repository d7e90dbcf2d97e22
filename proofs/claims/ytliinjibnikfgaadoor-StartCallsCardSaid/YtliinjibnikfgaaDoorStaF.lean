/- start.Status: the parts of a status line. -/
import Derived.Test.YtliinjibnikfgaaDoorStaE
import Derived.Test.YtliinjibnikfgaaDoorFldA
import Derived.Test.YtliinjibnikfgaaDoorNum
namespace Go.Proofs.YtliinjibnikfgaaDoor
open Go.RowKit
namespace Tk

theorem predChar : PredF 103 (fun c => decide (1 ≤ kindOf c.toNat)) := ⟨enters_of Tryd.func103 (by kernel_rfl) rfl, char_any⟩

def sInI (n : Int) (r : Bs) : Bool := decide (100 ≤ n) && decide (n ≤ 599) && r.all fun c => decide (1 ≤ kindOf c.toNat)
theorem sInI_nat (n : Nat) (r : Bs) : sInI (n : Int) r = sIn n r := by
  unfold sInI sIn
  congr 1
  congr 1
  · rw [Bool.eq_iff_iff]; simp; omega
  · rw [Bool.eq_iff_iff]; simp; omega

set_option maxHeartbeats 1000000 in
set_option maxRecDepth 100000 in
theorem inStatus_any (n : Int) (r : ByteArray) (w : World) (hr : r.size ≤ 1099511627776) :
    Calls Tryd.prog 55 #[.int .i64 n, .string r] w fun e w' => e = .returned (.bool (sInI n (bs r))) ∧ Below w.heap.size w w' := by
  have HS := Lib.hid (fun W => sall_any _ _ predChar r W hr)
  have hV : sInI n (bs r) = (decide (100 ≤ n) && decide (n ≤ 599) && (bs r).all fun c => decide (1 ≤ kindOf c.toNat)) := rfl
  generalize ((bs r).all fun c => decide (1 ≤ kindOf c.toNat)) = b at *
  by_cases h0 : 100 ≤ n
  · by_cases h1 : n ≤ 599
    · have HV := Lib.hid (show sInI n (bs r) = b by rw [hV, decide_eq_true h0, decide_eq_true h1]; rfl)
      clear hV
      go_enter Tryd.func55, Tryd.ntmps55
      go_wp2_with fail
      refine (HS.out _).mono ?_
      rintro e w2 ⟨rfl, hb⟩
      have HB := Lib.hid hb
      clear hb
      go_wp2_with fail
      go_ret
      exact ⟨retB (by rw [HV.out]), HB.out⟩
    · have HV := Lib.hid (show sInI n (bs r) = false by rw [hV, decide_eq_true h0, decide_eq_false h1]; rfl)
      clear hV
      go_enter Tryd.func55, Tryd.ntmps55
      go_wp2_with fail
      go_ret
      exact ⟨retB (by rw [HV.out]), Below.refl _ _⟩
  · have HV := Lib.hid (show sInI n (bs r) = false by rw [hV, decide_eq_false h0]; rfl)
    clear hV
    go_enter Tryd.func55, Tryd.ntmps55
    go_wp2_with fail
    go_ret
    exact ⟨retB (by rw [HV.out]), Below.refl _ _⟩

def StaPost (l : Bs) (w : World) (e : Ending) (w' : World) : Prop := e = .returned (.tuple #[.int .i64 (staM l), .int .i64 (staN l), .string (mkS (staR l)), .int .i64 (staE l)]) ∧ Below w.heap.size w w'
theorem sta_no (l : Bs) (h : sOk l = false) : staM l = 0 ∧ staN l = 0 ∧ staR l = [] ∧ staE l = 4 := by
  unfold staM staN staR staE
  rw [h]
  exact ⟨rfl, rfl, rfl, rfl⟩
theorem sta_yes (l : Bs) (h : sOk l = true) : staM l = vMi (sV l) ∧ staN l = (numL (sD l)).1 ∧ staR l = sR l ∧ staE l = 0 := by
  unfold staM staN staR staE
  rw [h]
  exact ⟨rfl, rfl, rfl, rfl⟩

set_option maxHeartbeats 8000000 in
set_option maxRecDepth 100000 in
theorem status_any (s : ByteArray) (w : World) (hs : s.size ≤ 1099511627) :
    Calls Tryd.prog 10 #[.string s] w (StaPost (bs s) w) := by
  have l1 := cutl1 32 (bs s)
  have l2 := cutl2 32 (bs s)
  have l3 := cutl1 32 (cutL 32 (bs s)).2.1
  have l4 := cutl2 32 (cutL 32 (bs s)).2.1
  rw [length_bs] at l1 l2
  have hc1 := cutB_any s 32 w (by omega)
  have hc2 := fun W => cutB_any (mkS (cutL 32 (bs s)).2.1) 32 W (by rw [size_mkS]; omega)
  rw [bs_mkS] at hc2
  have hv := fun W => version_any (mkS (sV (bs s))) W (by rw [size_mkS]; unfold sV; omega)
  unfold VerPost at hv
  have hnum := fun W => number_any (mkS (sD (bs s))) W (by rw [size_mkS]; unfold sD; omega)
  have hi := fun W => inStatus_any ((numL (sD (bs s))).1 : Int) (mkS (sR (bs s))) W (by rw [size_mkS]; unfold sR; omega)
  have hk := fun W => clone_any (mkS (sR (bs s))) W (by rw [size_mkS]; unfold sR; omega)
  rw [bs_mkS] at hv hnum hk
  rw [bs_mkS, sInI_nat] at hi
  have hz := size_mkS (sD (bs s))
  have hO : sOk (bs s) = (decide (vSt (sV (bs s)) = 0) && decide ((numL (sD (bs s))).2 = 0) && decide ((sD (bs s)).length = 3) && sB (bs s) && sIn (numL (sD (bs s))).1 (sR (bs s))) := rfl
  have hc1' : Calls Tryd.prog 52 #[.string s, .string ⟨#[32]⟩] w fun e w' => e = .returned (.tuple #[.string (mkS (sV (bs s))), .string (mkS (cutL 32 (bs s)).2.1), .bool (cutL 32 (bs s)).2.2]) ∧ Below w.heap.size w w' := hc1
  have hc2' : ∀ W, Calls Tryd.prog 52 #[.string (mkS (cutL 32 (bs s)).2.1), .string ⟨#[32]⟩] W fun e w' => e = .returned (.tuple #[.string (mkS (sD (bs s))), .string (mkS (sR (bs s))), .bool (sB (bs s))]) ∧ Below W.heap.size W w' := hc2
  have hbad := sta_no (bs s)
  have hgood := sta_yes (bs s)
  rw [hO] at hbad hgood
  clear l1 l2 l3 l4 hc1 hc2 hs hO
  have hcase : vSt (sV (bs s)) ≠ 0 ∨ (vSt (sV (bs s)) = 0 ∧ (numL (sD (bs s))).2 ≠ 0) ∨ (vSt (sV (bs s)) = 0 ∧ (numL (sD (bs s))).2 = 0 ∧ (sD (bs s)).length ≠ 3) ∨ (vSt (sV (bs s)) = 0 ∧ (numL (sD (bs s))).2 = 0 ∧ (sD (bs s)).length = 3 ∧ sB (bs s) = false) ∨ (vSt (sV (bs s)) = 0 ∧ (numL (sD (bs s))).2 = 0 ∧ (sD (bs s)).length = 3 ∧ sB (bs s) = true) := by
    cases sB (bs s) <;> simp <;> omega
  generalize mkS (cutL 32 (bs s)).2.1 = R at *
  generalize (cutL 32 (bs s)).2.2 = f1 at *
  have HC1 := Lib.hid hc1'
  have HV := Lib.hid hv
  have HN := Lib.hid hnum
  have HK := Lib.hid hk
  clear hc1' hv hnum hk
  rcases hcase with h1 | ⟨h1, h2⟩ | ⟨h1, h2, h3⟩ | ⟨h1, h2, h3, h4⟩ | ⟨h1, h2, h3, h4⟩
  · obtain ⟨b1, b2, b3, b4⟩ := hbad (by rw [decide_eq_false h1]; rfl)
    have e1 : ((vSt (sV (bs s)) : Int) != 0) = true := by rw [bne_iff_ne]; omega
    have H1 := Lib.hid b1
    have H2 := Lib.hid b2
    have H3 := Lib.hid b3
    have H4 := Lib.hid b4
    have HC2 := Lib.hid hc2'
    clear hbad hgood b1 b2 b3 b4 h1 hi hz hc2'
    generalize mkS (sV (bs s)) = V at *
    generalize mkS (sD (bs s)) = D at *
    generalize mkS (sR (bs s)) = Re at *
    generalize vMi (sV (bs s)) = vm at *
    generalize vSt (sV (bs s)) = st at *
    generalize numL (sD (bs s)) = nm at *
    generalize sB (bs s) = f2 at *
    go_enter Tryd.func10, Tryd.ntmps10
    go_wp2_with fail
    refine HC1.out.mono ?_
    rintro e w1 ⟨rfl, hb⟩
    have HB := Lib.hid hb
    clear hb
    go_wp2_with fail
    refine (HC2.out _).mono ?_
    rintro e w2 ⟨rfl, hb⟩
    have HB2 := Lib.hid (HB.out.trans (hb.mono HB.out.size))
    clear hb
    go_wp2_with fail
    refine (HV.out _).mono ?_
    rintro e w3 ⟨rfl, hb⟩
    have HB3 := Lib.hid (HB2.out.trans (hb.mono HB2.out.size))
    clear hb
    go_wp2_with fail
    refine (HN.out _).mono ?_
    rintro e w4 ⟨rfl, rfl⟩
    go_wp2_with fail
    try simp only [Exit.inBlock, Exit.then]
    refine bodyPost_ret (results_tmp4 rfl _ _ _) rfl ⟨?_, HB3.out⟩
    rw [H1.out, H2.out, H3.out, H4.out]; rfl
  · obtain ⟨b1, b2, b3, b4⟩ := hbad (by rw [decide_eq_false h2]; simp)
    have e1 : ((vSt (sV (bs s)) : Int) != 0) = false := by rw [bne_eq_false_iff_eq]; omega
    have e2 : (((numL (sD (bs s))).2 : Int) != 0) = true := by rw [bne_iff_ne]; omega
    have H1 := Lib.hid b1
    have H2 := Lib.hid b2
    have H3 := Lib.hid b3
    have H4 := Lib.hid b4
    have HC2 := Lib.hid hc2'
    clear hbad hgood b1 b2 b3 b4 h1 h2 hi hz hc2'
    generalize mkS (sV (bs s)) = V at *
    generalize mkS (sD (bs s)) = D at *
    generalize mkS (sR (bs s)) = Re at *
    generalize vMi (sV (bs s)) = vm at *
    generalize vSt (sV (bs s)) = st at *
    generalize numL (sD (bs s)) = nm at *
    generalize sB (bs s) = f2 at *
    go_enter Tryd.func10, Tryd.ntmps10
    go_wp2_with fail
    refine HC1.out.mono ?_
    rintro e w1 ⟨rfl, hb⟩
    have HB := Lib.hid hb
    clear hb
    go_wp2_with fail
    refine (HC2.out _).mono ?_
    rintro e w2 ⟨rfl, hb⟩
    have HB2 := Lib.hid (HB.out.trans (hb.mono HB.out.size))
    clear hb
    go_wp2_with fail
    refine (HV.out _).mono ?_
    rintro e w3 ⟨rfl, hb⟩
    have HB3 := Lib.hid (HB2.out.trans (hb.mono HB2.out.size))
    clear hb
    go_wp2_with fail
    refine (HN.out _).mono ?_
    rintro e w4 ⟨rfl, rfl⟩
    go_wp2_with fail
    try simp only [Exit.inBlock, Exit.then]
    refine bodyPost_ret (results_tmp4 rfl _ _ _) rfl ⟨?_, HB3.out⟩
    rw [H1.out, H2.out, H3.out, H4.out]; rfl
  · obtain ⟨b1, b2, b3, b4⟩ := hbad (by rw [decide_eq_false h3]; simp)
    have e1 : ((vSt (sV (bs s)) : Int) != 0) = false := by rw [bne_eq_false_iff_eq]; omega
    have e2 : (((numL (sD (bs s))).2 : Int) != 0) = false := by rw [bne_eq_false_iff_eq]; omega
    have e3 : (((mkS (sD (bs s))).size : Int) != 3) = true := by rw [bne_iff_ne]; omega
    have H1 := Lib.hid b1
    have H2 := Lib.hid b2
    have H3 := Lib.hid b3
    have H4 := Lib.hid b4
    have HC2 := Lib.hid hc2'
    clear hbad hgood b1 b2 b3 b4 h1 h2 h3 hi hz hc2'
    generalize mkS (sV (bs s)) = V at *
    generalize mkS (sD (bs s)) = D at *
    generalize mkS (sR (bs s)) = Re at *
    generalize vMi (sV (bs s)) = vm at *
    generalize vSt (sV (bs s)) = st at *
    generalize numL (sD (bs s)) = nm at *
    generalize sB (bs s) = f2 at *
    go_enter Tryd.func10, Tryd.ntmps10
    go_wp2_with fail
    refine HC1.out.mono ?_
    rintro e w1 ⟨rfl, hb⟩
    have HB := Lib.hid hb
    clear hb
    go_wp2_with fail
    refine (HC2.out _).mono ?_
    rintro e w2 ⟨rfl, hb⟩
    have HB2 := Lib.hid (HB.out.trans (hb.mono HB.out.size))
    clear hb
    go_wp2_with fail
    refine (HV.out _).mono ?_
    rintro e w3 ⟨rfl, hb⟩
    have HB3 := Lib.hid (HB2.out.trans (hb.mono HB2.out.size))
    clear hb
    go_wp2_with fail
    refine (HN.out _).mono ?_
    rintro e w4 ⟨rfl, rfl⟩
    go_wp2_with fail
    try simp only [Exit.inBlock, Exit.then]
    refine bodyPost_ret (results_tmp4 rfl _ _ _) rfl ⟨?_, HB3.out⟩
    rw [H1.out, H2.out, H3.out, H4.out]; rfl
  · rw [h4] at hc2' hbad
    obtain ⟨b1, b2, b3, b4⟩ := hbad (by simp)
    have e1 : ((vSt (sV (bs s)) : Int) != 0) = false := by rw [bne_eq_false_iff_eq]; omega
    have e2 : (((numL (sD (bs s))).2 : Int) != 0) = false := by rw [bne_eq_false_iff_eq]; omega
    have e3 : (((mkS (sD (bs s))).size : Int) != 3) = false := by rw [bne_eq_false_iff_eq]; omega
    have H1 := Lib.hid b1
    have H2 := Lib.hid b2
    have H3 := Lib.hid b3
    have H4 := Lib.hid b4
    have HC2 := Lib.hid hc2'
    clear hbad hgood b1 b2 b3 b4 h1 h2 h3 h4 hi hz hc2'
    generalize mkS (sV (bs s)) = V at *
    generalize mkS (sD (bs s)) = D at *
    generalize mkS (sR (bs s)) = Re at *
    generalize vMi (sV (bs s)) = vm at *
    generalize vSt (sV (bs s)) = st at *
    generalize numL (sD (bs s)) = nm at *
    go_enter Tryd.func10, Tryd.ntmps10
    go_wp2_with fail
    refine HC1.out.mono ?_
    rintro e w1 ⟨rfl, hb⟩
    have HB := Lib.hid hb
    clear hb
    go_wp2_with fail
    refine (HC2.out _).mono ?_
    rintro e w2 ⟨rfl, hb⟩
    have HB2 := Lib.hid (HB.out.trans (hb.mono HB.out.size))
    clear hb
    go_wp2_with fail
    refine (HV.out _).mono ?_
    rintro e w3 ⟨rfl, hb⟩
    have HB3 := Lib.hid (HB2.out.trans (hb.mono HB2.out.size))
    clear hb
    go_wp2_with fail
    refine (HN.out _).mono ?_
    rintro e w4 ⟨rfl, rfl⟩
    go_wp2_with fail
    try simp only [Exit.inBlock, Exit.then]
    refine bodyPost_ret (results_tmp4 rfl _ _ _) rfl ⟨?_, HB3.out⟩
    rw [H1.out, H2.out, H3.out, H4.out]; rfl
  · rw [h4] at hc2' hbad hgood
    have e1 : ((vSt (sV (bs s)) : Int) != 0) = false := by rw [bne_eq_false_iff_eq]; omega
    have e2 : (((numL (sD (bs s))).2 : Int) != 0) = false := by rw [bne_eq_false_iff_eq]; omega
    have e3 : (((mkS (sD (bs s))).size : Int) != 3) = false := by rw [bne_eq_false_iff_eq]; omega
    cases h5 : sIn (numL (sD (bs s))).1 (sR (bs s))
    · rw [h5] at hi hbad
      obtain ⟨b1, b2, b3, b4⟩ := hbad (by simp)
      have H1 := Lib.hid b1
      have H2 := Lib.hid b2
      have H3 := Lib.hid b3
      have H4 := Lib.hid b4
      have HC2 := Lib.hid hc2'
      have HI := Lib.hid hi
      clear hbad hgood b1 b2 b3 b4 h1 h2 h3 h4 h5 hi hz hc2'
      generalize mkS (sV (bs s)) = V at *
      generalize mkS (sD (bs s)) = D at *
      generalize mkS (sR (bs s)) = Re at *
      generalize vMi (sV (bs s)) = vm at *
      generalize vSt (sV (bs s)) = st at *
      generalize numL (sD (bs s)) = nm at *
      go_enter Tryd.func10, Tryd.ntmps10
      go_wp2_with fail
      refine HC1.out.mono ?_
      rintro e w1 ⟨rfl, hb⟩
      have HB := Lib.hid hb
      clear hb
      go_wp2_with fail
      refine (HC2.out _).mono ?_
      rintro e w2 ⟨rfl, hb⟩
      have HB2 := Lib.hid (HB.out.trans (hb.mono HB.out.size))
      clear hb
      go_wp2_with fail
      refine (HV.out _).mono ?_
      rintro e w3 ⟨rfl, hb⟩
      have HB3 := Lib.hid (HB2.out.trans (hb.mono HB2.out.size))
      clear hb
      go_wp2_with fail
      refine (HN.out _).mono ?_
      rintro e w4 ⟨rfl, rfl⟩
      go_wp2_with fail
      refine (HI.out _).mono ?_
      rintro e w5 ⟨rfl, hb⟩
      have HB5 := Lib.hid (HB3.out.trans (hb.mono HB3.out.size))
      clear hb
      go_wp2_with fail
      try simp only [Exit.inBlock, Exit.then]
      refine bodyPost_ret (results_tmp4 rfl _ _ _) rfl ⟨?_, HB5.out⟩
      rw [H1.out, H2.out, H3.out, H4.out]; rfl
    · rw [h5] at hi hgood
      obtain ⟨b1, b2, b3, b4⟩ := hgood (by rw [decide_eq_true h1, decide_eq_true h2, decide_eq_true h3]; rfl)
      have H1 := Lib.hid b1
      have H2 := Lib.hid b2
      have H3 := Lib.hid b3
      have H4 := Lib.hid b4
      have HC2 := Lib.hid hc2'
      have HI := Lib.hid hi
      clear hbad hgood b1 b2 b3 b4 h1 h2 h3 h4 h5 hi hz hc2'
      generalize mkS (sV (bs s)) = V at *
      generalize mkS (sD (bs s)) = D at *
      generalize vMi (sV (bs s)) = vm at *
      generalize vSt (sV (bs s)) = st at *
      generalize numL (sD (bs s)) = nm at *
      go_enter Tryd.func10, Tryd.ntmps10
      go_wp2_with fail
      refine HC1.out.mono ?_
      rintro e w1 ⟨rfl, hb⟩
      have HB := Lib.hid hb
      clear hb
      go_wp2_with fail
      refine (HC2.out _).mono ?_
      rintro e w2 ⟨rfl, hb⟩
      have HB2 := Lib.hid (HB.out.trans (hb.mono HB.out.size))
      clear hb
      go_wp2_with fail
      refine (HV.out _).mono ?_
      rintro e w3 ⟨rfl, hb⟩
      have HB3 := Lib.hid (HB2.out.trans (hb.mono HB2.out.size))
      clear hb
      go_wp2_with fail
      refine (HN.out _).mono ?_
      rintro e w4 ⟨rfl, rfl⟩
      go_wp2_with fail
      refine (HI.out _).mono ?_
      rintro e w5 ⟨rfl, hb⟩
      have HB5 := Lib.hid (HB3.out.trans (hb.mono HB3.out.size))
      clear hb
      go_wp2_with fail
      refine (HK.out _).mono ?_
      rintro e w6 ⟨rfl, hb⟩
      have HB6 := Lib.hid (HB5.out.trans (hb.mono HB5.out.size))
      clear hb
      go_wp2_with fail
      try simp only [Exit.inBlock, Exit.then]
      refine bodyPost_ret (results_tmp4 rfl _ _ _) rfl ⟨?_, HB6.out⟩
      rw [H1.out, H2.out, H3.out, H4.out]; rfl
end Tk
end Go.Proofs.YtliinjibnikfgaaDoor
