/- start.Request, start.Status: the parts of first lines. -/
import Derived.Test.YtliinjibnikfgaaDoorStaD
namespace Go.Proofs.YtliinjibnikfgaaDoor
open Go.RowKit
namespace Tk

theorem results_tmp4 {fn : Func} {t u v x : Tmp} (h : fn.results = #[.tmp t, .tmp u, .tmp v, .tmp x]) (tmps : Array Value) (P : Program) (w : World) :
    (results fn tmps).run P w = .ok (.tuple #[tmps.getD t undef, tmps.getD u undef, tmps.getD v undef, tmps.getD x undef]) w := by
  simp [results, h]

set_option maxHeartbeats 1000000 in
set_option maxRecDepth 100000 in
theorem inRequest_any (m t : ByteArray) (w : World) (hm : m.size ≤ 1099511627776) (ht : t.size ≤ 1099511627776) :
    Calls Tryd.prog 57 #[.string m, .string t] w fun e w' => e = .returned (.bool (rIn (bs m) (bs t))) ∧ Below w.heap.size w w' := by
  have HT := token_any m w hm
  have HS := Lib.hid (fun W => someVis_any t W ht)
  have hV : rIn (bs m) (bs t) = (tokL (bs m) && someL vis (bs t)) := rfl
  have hT : tokL (bs m) = (!(bs m).isEmpty && allL 2 (bs m)) := rfl
  rw [← hT] at HT
  cases hk : tokL (bs m)
  · rw [hk] at HT
    have HV := Lib.hid (show rIn (bs m) (bs t) = false by rw [hV, hk]; rfl)
    have HT2 := Lib.hid HT
    clear hV hT hk HT HS
    go_enter Tryd.func57, Tryd.ntmps57
    go_wp2_with fail
    refine HT2.out.mono ?_
    rintro e w' ⟨rfl, hb⟩
    have HB := Lib.hid hb
    clear hb
    go_wp2_with fail
    go_ret
    exact ⟨retB (by rw [HV.out]), HB.out⟩
  · rw [hk] at HT
    have HV := Lib.hid (show rIn (bs m) (bs t) = someL vis (bs t) by rw [hV, hk]; rfl)
    have HT2 := Lib.hid HT
    clear hV hT hk HT
    go_enter Tryd.func57, Tryd.ntmps57
    go_wp2_with fail
    refine HT2.out.mono ?_
    rintro e w' ⟨rfl, hb⟩
    have HB := Lib.hid hb
    clear hb
    go_wp2_with fail
    refine (HS.out _).mono ?_
    rintro e w2 ⟨rfl, hb⟩
    have HB2 := Lib.hid (HB.out.trans (hb.mono HB.out.size))
    clear hb
    go_wp2_with fail
    go_ret
    exact ⟨retB (by rw [HV.out]), HB2.out⟩

def ReqPost (l : Bs) (w : World) (e : Ending) (w' : World) : Prop := e = .returned (.tuple #[.string (mkS (reqM l)), .string (mkS (reqT l)), .int .i64 (reqN l), .int .i64 (rSt l)]) ∧ Below w.heap.size w w'

theorem req_bad (l : Bs) (n : Nat) (h : rSt l = n) (hn : n ≠ 0) : reqM l = [] ∧ reqT l = [] ∧ reqN l = 0 := by
  unfold reqM reqT reqN
  rw [if_neg (by omega), if_neg (by omega), if_neg (by omega)]
  exact ⟨rfl, rfl, rfl⟩

set_option maxHeartbeats 4000000 in
set_option maxRecDepth 100000 in
theorem request_any (s : ByteArray) (w : World) (hs : s.size ≤ 1099511627) :
    Calls Tryd.prog 11 #[.string s] w (ReqPost (bs s) w) := by
  have l1 := cutl1 32 (bs s)
  have l2 := cutl2 32 (bs s)
  have l3 := cutl1 32 (cutL 32 (bs s)).2.1
  have l4 := cutl2 32 (cutL 32 (bs s)).2.1
  rw [length_bs] at l1 l2
  have hc1 := cutB_any s 32 w (by omega)
  have hc2 := fun W => cutB_any (mkS (cutL 32 (bs s)).2.1) 32 W (by rw [size_mkS]; omega)
  rw [bs_mkS] at hc2
  have hv := fun W => version_any (mkS (rV (bs s))) W (by rw [size_mkS]; unfold rV; omega)
  unfold VerPost at hv
  have hq := fun W => inRequest_any (mkS (rM (bs s))) (mkS (rT (bs s))) W (by rw [size_mkS]; unfold rM; omega) (by rw [size_mkS]; unfold rT; omega)
  have hk1 := fun W => clone_any (mkS (rM (bs s))) W (by rw [size_mkS]; unfold rM; omega)
  have hk2 := fun W => clone_any (mkS (rT (bs s))) W (by rw [size_mkS]; unfold rT; omega)
  rw [bs_mkS] at hv hk1 hk2
  rw [bs_mkS, bs_mkS] at hq
  have hS : rSt (bs s) = if rIn (rM (bs s)) (rT (bs s)) then vSt (rV (bs s)) else 400 := rfl
  have hvm : vSt (rV (bs s)) = 0 → reqM (bs s) = rM (bs s) ∧ reqT (bs s) = rT (bs s) ∧ reqN (bs s) = vMi (rV (bs s)) ∨ rSt (bs s) ≠ 0 := by
    intro _
    by_cases h : rSt (bs s) = 0
    · left; unfold reqM reqT reqN; rw [if_pos h, if_pos h, if_pos h]; exact ⟨rfl, rfl, rfl⟩
    · exact .inr h
  have hb := req_bad (bs s)
  have hc1' : Calls Tryd.prog 52 #[.string s, .string ⟨#[32]⟩] w fun e w' => e = .returned (.tuple #[.string (mkS (rM (bs s))), .string (mkS (cutL 32 (bs s)).2.1), .bool (cutL 32 (bs s)).2.2]) ∧ Below w.heap.size w w' := hc1
  have hc2' : ∀ W, Calls Tryd.prog 52 #[.string (mkS (cutL 32 (bs s)).2.1), .string ⟨#[32]⟩] W fun e w' => e = .returned (.tuple #[.string (mkS (rT (bs s))), .string (mkS (rV (bs s))), .bool (cutL 32 (cutL 32 (bs s)).2.1).2.2]) ∧ Below W.heap.size W w' := hc2
  clear l1 l2 l3 l4 hc1 hc2
  generalize (cutL 32 (cutL 32 (bs s)).2.1).2.2 = f2 at *
  generalize mkS (cutL 32 (bs s)).2.1 = R at *
  generalize (cutL 32 (bs s)).2.2 = f1 at *
  have HC1 := Lib.hid hc1'
  have HC2 := Lib.hid hc2'
  have HV := Lib.hid hv
  have HK1 := Lib.hid hk1
  have HK2 := Lib.hid hk2
  clear hc1' hc2' hv hk1 hk2
  cases hin : rIn (rM (bs s)) (rT (bs s))
  · rw [hin] at hq hS
    have hS2 : rSt (bs s) = 400 := hS
    obtain ⟨b1, b2, b3⟩ := hb 400 hS2 (by omega)
    have H1 := Lib.hid hS2
    have H2 := Lib.hid b1
    have H3 := Lib.hid b2
    have H4 := Lib.hid b3
    have HQ := Lib.hid hq
    clear hS hS2 b1 b2 b3 hq hb hvm hin
    generalize mkS (rM (bs s)) = M at *
    generalize mkS (rT (bs s)) = T at *
    generalize mkS (rV (bs s)) = V at *
    generalize vMi (rV (bs s)) = n at *
    generalize vSt (rV (bs s)) = st at *
    go_enter Tryd.func11, Tryd.ntmps11
    go_wp2_with fail
    refine HC1.out.mono ?_
    rintro e w1 ⟨rfl, hb⟩
    have HB := Lib.hid hb
    clear hb
    go_wp2_with fail
    refine (HC2.out _).mono ?_
    rintro e w2 ⟨rfl, hb⟩
    have HB2 := Lib.hid (HB.out.trans (hb.mono HB.out.size))
    clear hb
    go_wp2_with fail
    refine (HV.out _).mono ?_
    rintro e w3 ⟨rfl, hb⟩
    have HB3 := Lib.hid (HB2.out.trans (hb.mono HB2.out.size))
    clear hb
    go_wp2_with fail
    refine (HQ.out _).mono ?_
    rintro e w4 ⟨rfl, hb⟩
    have HB4 := Lib.hid (HB3.out.trans (hb.mono HB3.out.size))
    clear hb
    go_wp2_with fail
    try simp only [Exit.inBlock, Exit.then]
    refine bodyPost_ret (results_tmp4 rfl _ _ _) rfl ⟨?_, HB4.out⟩
    rw [H1.out, H2.out, H3.out, H4.out]; rfl
  · rw [hin] at hq hS
    have HQ := Lib.hid hq
    have hS2 : rSt (bs s) = vSt (rV (bs s)) := hS
    clear hq hS hin
    by_cases h0 : vSt (rV (bs s)) = 0
    · have e0 : ((vSt (rV (bs s)) : Int) != 0) = false := by rw [bne_eq_false_iff_eq]; omega
      have h0' : rSt (bs s) = 0 := hS2.trans h0
      obtain ⟨b1, b2, b3⟩ : reqM (bs s) = rM (bs s) ∧ reqT (bs s) = rT (bs s) ∧ reqN (bs s) = vMi (rV (bs s)) := by
        rcases hvm h0 with h | h
        · exact h
        · exact absurd h0' h
      have H1 := Lib.hid h0'
      have H2 := Lib.hid b1
      have H3 := Lib.hid b2
      have H4 := Lib.hid b3
      clear hS2 h0 h0' b1 b2 b3 hb hvm
      generalize mkS (rV (bs s)) = V at *
      generalize vMi (rV (bs s)) = n at *
      generalize vSt (rV (bs s)) = st at *
      go_enter Tryd.func11, Tryd.ntmps11
      go_wp2_with fail
      refine HC1.out.mono ?_
      rintro e w1 ⟨rfl, hb⟩
      have HB := Lib.hid hb
      clear hb
      go_wp2_with fail
      refine (HC2.out _).mono ?_
      rintro e w2 ⟨rfl, hb⟩
      have HB2 := Lib.hid (HB.out.trans (hb.mono HB.out.size))
      clear hb
      go_wp2_with fail
      refine (HV.out _).mono ?_
      rintro e w3 ⟨rfl, hb⟩
      have HB3 := Lib.hid (HB2.out.trans (hb.mono HB2.out.size))
      clear hb
      go_wp2_with fail
      refine (HQ.out _).mono ?_
      rintro e w4 ⟨rfl, hb⟩
      have HB4 := Lib.hid (HB3.out.trans (hb.mono HB3.out.size))
      clear hb
      go_wp2_with fail
      refine (HK1.out _).mono ?_
      rintro e w5 ⟨rfl, hb⟩
      have HB5 := Lib.hid (HB4.out.trans (hb.mono HB4.out.size))
      clear hb
      go_wp2_with fail
      refine (HK2.out _).mono ?_
      rintro e w6 ⟨rfl, hb⟩
      have HB6 := Lib.hid (HB5.out.trans (hb.mono HB5.out.size))
      clear hb
      go_wp2_with fail
      try simp only [Exit.inBlock, Exit.then]
      refine bodyPost_ret (results_tmp4 rfl _ _ _) rfl ⟨?_, HB6.out⟩
      rw [H1.out, H2.out, H3.out, H4.out]; rfl
    · have e0 : ((vSt (rV (bs s)) : Int) != 0) = true := by rw [bne_iff_ne]; omega
      obtain ⟨b1, b2, b3⟩ := hb _ hS2 h0
      have H1 := Lib.hid hS2
      have H2 := Lib.hid b1
      have H3 := Lib.hid b2
      have H4 := Lib.hid b3
      clear hS2 h0 b1 b2 b3 hb hvm
      generalize mkS (rM (bs s)) = M at *
      generalize mkS (rT (bs s)) = T at *
      generalize mkS (rV (bs s)) = V at *
      generalize vMi (rV (bs s)) = n at *
      generalize vSt (rV (bs s)) = st at *
      go_enter Tryd.func11, Tryd.ntmps11
      go_wp2_with fail
      refine HC1.out.mono ?_
      rintro e w1 ⟨rfl, hb⟩
      have HB := Lib.hid hb
      clear hb
      go_wp2_with fail
      refine (HC2.out _).mono ?_
      rintro e w2 ⟨rfl, hb⟩
      have HB2 := Lib.hid (HB.out.trans (hb.mono HB.out.size))
      clear hb
      go_wp2_with fail
      refine (HV.out _).mono ?_
      rintro e w3 ⟨rfl, hb⟩
      have HB3 := Lib.hid (HB2.out.trans (hb.mono HB2.out.size))
      clear hb
      go_wp2_with fail
      refine (HQ.out _).mono ?_
      rintro e w4 ⟨rfl, hb⟩
      have HB4 := Lib.hid (HB3.out.trans (hb.mono HB3.out.size))
      clear hb
      go_wp2_with fail
      try simp only [Exit.inBlock, Exit.then]
      refine bodyPost_ret (results_tmp4 rfl _ _ _) rfl ⟨?_, HB4.out⟩
      rw [H1.out, H2.out, H3.out, H4.out]; rfl
end Tk
end Go.Proofs.YtliinjibnikfgaaDoor
