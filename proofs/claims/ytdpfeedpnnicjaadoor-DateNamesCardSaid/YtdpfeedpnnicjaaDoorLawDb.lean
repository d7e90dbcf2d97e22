/- DateBack: the law. -/
import Derived.Test.YtdpfeedpnnicjaaDoorDtN
import Derived.Deep.Cut
namespace Go.Proofs.YtdpfeedpnnicjaaDoor
open Go.RowKit
namespace Tk

theorem lives9_bel (w : World) (hN : NamH w) : ∀ W, Below w.heap.size w W → Calls Tryd.prog 8 #[] W fun e w' => e = .returned (.bool true) ∧ Below W.heap.size W w' := fun W hb => lives9_any W (hN.later hb)
theorem civ_bel (t : Int) (w : World) (h : okT t = true) : ∀ W, Below w.heap.size w W → Calls Tryd.prog 11 #[.int .i64 t] W fun e w' => e = .returned (.tuple #[cvV (civ t), .int .i64 0]) ∧ Below W.heap.size W w' := fun W _ => civ_box t W h
theorem fmt_bel (t : Int) (w : World) (hN : NamH w) (h : okT t = true) : ∀ W, Below w.heap.size w W → Calls Tryd.prog 10 #[.int .i64 t] W fun e w' => e = .returned (.tuple #[.string (mkS (fA (civ t))), .int .i64 0]) ∧ Below W.heap.size W w' := by
  intro W hb
  have hk := (okT_iff t).1 h
  unfold maxT at hk
  have hF := format_any t W (by omega) (hN.later hb)
  unfold FmtPost at hF
  rw [show fmtL t = fA (civ t) by unfold fmtL; rw [if_pos h], (civX_ok h).2] at hF
  exact hF
theorem prs_fA (t : Int) (w : World) (hN : NamH w) (h : okT t = true) : ∀ (now : Int) W, Below w.heap.size w W → Calls Tryd.prog 9 #[.string (mkS (fA (civ t))), .int .i64 now] W fun e w' => e = .returned (.tuple #[.int .i64 t, .int .i64 0]) ∧ Below W.heap.size W w' := by
  intro now W hb
  obtain ⟨h0, hle⟩ := (okT_iff t).1 h
  have hp := parse_any (mkS (fA (civ t))) now W (hN.later hb) (by rw [size_mkS, (fA_parts (civ_rg h0 hle)).1]; decide)
  unfold OptPost at hp
  rw [bs_mkS, says_pP (t := t) ⟨h0, hle, .inl rfl⟩] at hp
  exact hp
theorem prs_bel (s : ByteArray) (now : Int) (w : World) (hN : NamH w) (hs : s.size ≤ 1000000) : ∀ W, Below w.heap.size w W → Calls Tryd.prog 9 #[.string s, .int .i64 now] W fun e w' => e = .returned (.tuple #[.int .i64 (optV (pP (bs s) (yNow now))), .int .i64 (optE (pP (bs s) (yNow now)))]) ∧ Below W.heap.size W w' := fun W hb => parse_any s now W (hN.later hb) hs
theorem sec_bel (c : Cv) (w : World) : ∀ W, Below w.heap.size w W → Calls Tryd.prog 13 #[cvV c] W fun e w' => e = .returned (.tuple #[.int .i64 (secX c), .int .i64 (secE c)]) ∧ Below W.heap.size W w' := fun W _ => seconds_any c W
theorem secX_ok {c : Cv} (h : okC c = true) : secX c = secC c ∧ secE c = 0 := by unfold secX secE; rw [if_pos h, if_pos h]; exact ⟨rfl, rfl⟩
theorem secX_bad {c : Cv} (h : okC c = false) : secX c = 0 ∧ secE c = 2 := by unfold secX secE; rw [h]; exact ⟨rfl, rfl⟩

set_option maxHeartbeats 40000000 in
set_option maxRecDepth 100000 in
theorem back_any (t now : Int) (c : Cv) (s : ByteArray) (w : World) (hN : NamH w) (ht : -9223372036854775808 ≤ t ∧ t ≤ 9223372036854775807) :
    Calls Tryd.prog 5 #[.int .i64 t, .int .i64 now, cvV c, .string s] w fun e w' => e = .returned (.bool true) ∧ Below w.heap.size w w' := by
  have HL := Lib.hid (lives9_bel w hN)
  have HNw := Lib.hid (fun (c : Cv) (w : World) => CvB.new w c)
  have HCl := Lib.hid (fun (W W' : World) (g : Nat) (c : Cv) (h : CvB W g c) (hb : Below W.heap.size W W') => CvB.later h hb)
  have HCn := Lib.hid (fun (W : World) (g : Nat) (c : Cv) (h : CvB W g c) => CvB.cells h)
  have HB0 := Lib.hid ((Below.refl w.heap.size w).alloc (Nat.le_refl _) (.cells (cvC c) 29))
  have HG0 := Lib.hid (CvB.new w c)
  by_cases hs : 60 < s.size
  · have e1 : (60 : Int) < (s.size : Int) := by omega
    clear hs
    obtain ⟨c0, c1, c2, c3, c4, c5, c6⟩ := c
    unfold cvV
    unfold cvC at HB0 HG0
    go_enter Tryd.func5, Tryd.ntmps5
    go_wp2_with fail
    refine (HL.out _ HB0.out).mono ?_
    rintro e w1 ⟨rfl, hb⟩
    have HB1 := Lib.hid (HB0.out.trans (hb.mono HB0.out.size))
    have HG1 := Lib.hid (HCl.out _ _ _ _ HG0.out hb)
    clear hb HB0 HG0
    go_wp2_with fail
    go_ret
    exact ⟨rfl, HB1.out⟩
  have e1 : ¬ (60 : Int) < (s.size : Int) := by omega
  have HSa := Lib.hid (fun h : okT t = true => show ∀ W, Below w.heap.size w W → Calls Tryd.prog 13 #[cvV (civ t)] W (fun e w' => e = .returned (.tuple #[.int .i64 t, .int .i64 0]) ∧ Below W.heap.size W w') from by
    obtain ⟨h2, h3⟩ := civ_ok t ((okT_iff t).1 h).1 ((okT_iff t).1 h).2
    have := sec_bel (civ t) w
    rw [(secX_ok h2).1, (secX_ok h2).2, h3] at this
    exact this)
  have HSc := Lib.hid (sec_bel c w)
  have HPs := Lib.hid (prs_bel s now w hN (by omega))
  have HCs := Lib.hid (fun h : okC c = true => show ∀ W, Below w.heap.size w W → Calls Tryd.prog 11 #[.int .i64 (secC c)] W (fun e w' => e = .returned (.tuple #[cvV c, .int .i64 0]) ∧ Below W.heap.size W w') from by
    obtain ⟨h2, h3, h4⟩ := sec_ok c h
    have := civ_bel (secC c) w ((okT_iff _).2 ⟨h2, h3⟩)
    rw [h4] at this
    exact this)
  have HFm := Lib.hid (fun m (h : okT m = true) => fmt_bel m w hN h)
  have HPm := Lib.hid (fun m (h : okT m = true) => prs_fA m w hN h)
  have HOk := Lib.hid (fun m (h : pP (bs s) (yNow now) = some m) => (okT_iff m).2 ⟨(pP_says h).1, (pP_says h).2.1⟩)
  have HXo := Lib.hid (fun h : okC c = true => secX_ok h)
  have HXb := Lib.hid (fun h : okC c = false => secX_bad h)
  have HLn := Lib.hid (fun m (h : okT m = true) => show ((mkS (fA (civ m))).size : Int) = 29 by rw [size_mkS, (fA_parts (civ_rg ((okT_iff m).1 h).1 ((okT_iff m).1 h).2)).1]; rfl)
  have HCa := Lib.hid (fun h : okT t = true => civ_bel t w h)
  have HCb := Lib.hid (fun h : okT t = false => show ∀ W, Below w.heap.size w W → Calls Tryd.prog 11 #[.int .i64 t] W (fun e w' => e = .returned (.tuple #[.agg #[.int .i64 0, .int .i64 0, .int .i64 0, .int .i64 0, .int .i64 0, .int .i64 0, .int .i64 0], .int .i64 2]) ∧ Below W.heap.size W w') from by
    intro W _
    have hc := civil_any t W ht
    unfold CivPost at hc
    rw [(civX_bad h).1, (civX_bad h).2] at hc
    exact hc)
  have hT : okT t = (decide (0 ≤ t) && decide (t ≤ 253402300799)) := rfl
  clear hN hs
  generalize hO : pP (bs s) (yNow now) = o at *
  obtain ⟨oc, hoc⟩ : ∃ b, okC c = b := ⟨_, rfl⟩
  rw [hoc] at HCs HXo HXb
  clear hO hoc
  generalize secX c = sx at *
  generalize secE c = se at *
  generalize secC c = sc at *
  obtain ⟨c0, c1, c2, c3, c4, c5, c6⟩ := c
  unfold cvV at HSc HCs ⊢
  unfold cvC at HB0 HG0
  cases hk : okT t
  · have HC := Lib.hid (HCb.out hk)
    rw [hk] at hT
    clear HCa HCb HSa hk
    by_cases hn : 0 ≤ t
    · have e2 : ¬ t ≤ 253402300799 := fun h => by rw [decide_eq_true hn, decide_eq_true h] at hT; cases hT
      clear hT
      go_enter Tryd.func5, Tryd.ntmps5
      go_wp2_with fail
      refine (HL.out _ HB0.out).mono ?_
      rintro e w1 ⟨rfl, hb⟩
      have HB1 := Lib.hid (HB0.out.trans (hb.mono HB0.out.size))
      have HG1 := Lib.hid (HCl.out _ _ _ _ HG0.out hb)
      clear hb HB0 HG0
      go_wp2_with fail
      refine (HC.out _ HB1.out).mono ?_
      rintro e w2 ⟨rfl, hb⟩
      have ab := hb.alloc hb.size (.cells #[.int .i64 0, .int .i64 0, .int .i64 0, .int .i64 0, .int .i64 0, .int .i64 0, .int .i64 0] 29)
      have HB3 := Lib.hid (HB1.out.trans (ab.mono HB1.out.size))
      have HG3 := Lib.hid (HCl.out _ _ _ _ HG1.out ab)
      have hgA := heap_alloc_last w2 (.cells #[.int .i64 0, .int .i64 0, .int .i64 0, .int .i64 0, .int .i64 0, .int .i64 0, .int .i64 0] 29)
      obtain ⟨p0, p1, p2, p3, p4, p5, p6⟩ := HCn.out _ _ (⟨0, 0, 0, 0, 0, 0, 0⟩) hgA
      dsimp only at p0 p1 p2 p3 p4 p5 p6
      clear hb HB1 HG1 ab hgA
      go_upto_region 6 with (fail)
      generalize w2.alloc (.cells #[.int .i64 0, .int .i64 0, .int .i64 0, .int .i64 0, .int .i64 0, .int .i64 0, .int .i64 0] 29) = W3 at *
      generalize w2.heap.size = g3 at *
      go_upto_region 14 with (fail)
      clear p0 p1 p2 p3 p4 p5 p6
      obtain ⟨z0, z1, z2, z3, z4, z5, z6⟩ := HCn.out _ _ _ HG3.out
      dsimp only at z0 z1 z2 z3 z4 z5 z6
      go_wp2_with fail
      refine (HSc.out _ HB3.out).mono ?_
      rintro e w4 ⟨rfl, hb⟩
      have HB4 := Lib.hid (HB3.out.trans (hb.mono HB3.out.size))
      have HG4 := Lib.hid (HCl.out _ _ _ _ HG3.out hb)
      clear hb HB3 HG3 z0 z1 z2 z3 z4 z5 z6
      cases oc
      · obtain ⟨s1, s2⟩ := HXb.out rfl
        subst s1 s2
        clear HXb HXo HCs HSc
        go_wp2_with fail
        refine (HPs.out _ HB4.out).mono ?_
        rintro e w5 ⟨rfl, hb⟩
        have HB5 := Lib.hid (HB4.out.trans (hb.mono HB4.out.size))
        have HG5 := Lib.hid (HCl.out _ _ _ _ HG4.out hb)
        clear hb HB4 HG4
        cases o with
        | none =>
          rw [optE_none.1, optE_none.2]
          go_wp2_with fail
          go_ret
          exact ⟨retBd (by decide), HB5.out⟩
        | some m =>
          have hm := HOk.out m rfl
          have HF1 := Lib.hid (HFm.out m hm)
          have HP1 := Lib.hid (HPm.out m hm 0)
          clear HFm HPm HOk hm HLn
          generalize mkS (fA (civ m)) = S2 at *
          rw [(optE_some m).1, (optE_some m).2]
          go_wp2_with fail
          refine (HF1.out _ HB5.out).mono ?_
          rintro e w6 ⟨rfl, hb⟩
          have HB6 := Lib.hid (HB5.out.trans (hb.mono HB5.out.size))
          have HG6 := Lib.hid (HCl.out _ _ _ _ HG5.out hb)
          clear hb HB5 HG5
          go_wp2_with fail
          refine (HP1.out _ HB6.out).mono ?_
          rintro e w7 ⟨rfl, hb⟩
          have HB7 := Lib.hid (HB6.out.trans (hb.mono HB6.out.size))
          have HG7 := Lib.hid (HCl.out _ _ _ _ HG6.out hb)
          clear hb HB6 HG6
          go_wp2_with fail
          go_ret
          exact ⟨retBd (by simp), HB7.out⟩
      · obtain ⟨s1, s2⟩ := HXo.out rfl
        subst s1 s2
        have HC2 := Lib.hid (HCs.out rfl)
        clear HXb HXo HCs HSc
        go_wp2_with fail
        refine (HC2.out _ HB4.out).mono ?_
        rintro e w5 ⟨rfl, hb⟩
        have ab := hb.alloc hb.size (.cells #[.int .i64 c0, .int .i64 c1, .int .i64 c2, .int .i64 c3, .int .i64 c4, .int .i64 c5, .int .i64 c6] 29)
        have HB6 := Lib.hid (HB4.out.trans (ab.mono HB4.out.size))
        have HG6 := Lib.hid (HCl.out _ _ _ _ HG4.out ab)
        have hgA := heap_alloc_last w5 (.cells #[.int .i64 c0, .int .i64 c1, .int .i64 c2, .int .i64 c3, .int .i64 c4, .int .i64 c5, .int .i64 c6] 29)
        obtain ⟨p0, p1, p2, p3, p4, p5, p6⟩ := HCn.out _ _ ⟨c0, c1, c2, c3, c4, c5, c6⟩ hgA
        obtain ⟨z0, z1, z2, z3, z4, z5, z6⟩ := HCn.out _ _ _ HG6.out
        dsimp only at p0 p1 p2 p3 p4 p5 p6 z0 z1 z2 z3 z4 z5 z6
        clear hb HB4 HG4 ab hgA
        go_upto_region 17 with (fail)
        generalize w5.alloc (.cells #[.int .i64 c0, .int .i64 c1, .int .i64 c2, .int .i64 c3, .int .i64 c4, .int .i64 c5, .int .i64 c6] 29) = W6 at *
        generalize w5.heap.size = g6 at *
        go_upto_region 19 with (fail)
        clear p0 p1 p2 p3 p4 p5 p6 z0 z1 z2 z3 z4 z5 z6
        go_wp2_with fail
        refine (HPs.out _ HB6.out).mono ?_
        rintro e w7 ⟨rfl, hb⟩
        have HB7 := Lib.hid (HB6.out.trans (hb.mono HB6.out.size))
        have HG7 := Lib.hid (HCl.out _ _ _ _ HG6.out hb)
        clear hb HB6 HG6
        cases o with
        | none =>
          rw [optE_none.1, optE_none.2]
          go_wp2_with fail
          go_ret
          exact ⟨retBd (by decide), HB7.out⟩
        | some m =>
          have hm := HOk.out m rfl
          have HF1 := Lib.hid (HFm.out m hm)
          have HP1 := Lib.hid (HPm.out m hm 0)
          clear HFm HPm HOk hm HLn
          generalize mkS (fA (civ m)) = S2 at *
          rw [(optE_some m).1, (optE_some m).2]
          go_wp2_with fail
          refine (HF1.out _ HB7.out).mono ?_
          rintro e w8 ⟨rfl, hb⟩
          have HB8 := Lib.hid (HB7.out.trans (hb.mono HB7.out.size))
          have HG8 := Lib.hid (HCl.out _ _ _ _ HG7.out hb)
          clear hb HB7 HG7
          go_wp2_with fail
          refine (HP1.out _ HB8.out).mono ?_
          rintro e w9 ⟨rfl, hb⟩
          have HB9 := Lib.hid (HB8.out.trans (hb.mono HB8.out.size))
          have HG9 := Lib.hid (HCl.out _ _ _ _ HG8.out hb)
          clear hb HB8 HG8
          go_wp2_with fail
          go_ret
          exact ⟨retBd (by simp), HB9.out⟩
    · clear hT
      go_enter Tryd.func5, Tryd.ntmps5
      go_wp2_with fail
      refine (HL.out _ HB0.out).mono ?_
      rintro e w1 ⟨rfl, hb⟩
      have HB1 := Lib.hid (HB0.out.trans (hb.mono HB0.out.size))
      have HG1 := Lib.hid (HCl.out _ _ _ _ HG0.out hb)
      clear hb HB0 HG0
      go_wp2_with fail
      refine (HC.out _ HB1.out).mono ?_
      rintro e w2 ⟨rfl, hb⟩
      have ab := hb.alloc hb.size (.cells #[.int .i64 0, .int .i64 0, .int .i64 0, .int .i64 0, .int .i64 0, .int .i64 0, .int .i64 0] 29)
      have HB3 := Lib.hid (HB1.out.trans (ab.mono HB1.out.size))
      have HG3 := Lib.hid (HCl.out _ _ _ _ HG1.out ab)
      have hgA := heap_alloc_last w2 (.cells #[.int .i64 0, .int .i64 0, .int .i64 0, .int .i64 0, .int .i64 0, .int .i64 0, .int .i64 0] 29)
      obtain ⟨p0, p1, p2, p3, p4, p5, p6⟩ := HCn.out _ _ (⟨0, 0, 0, 0, 0, 0, 0⟩) hgA
      dsimp only at p0 p1 p2 p3 p4 p5 p6
      clear hb HB1 HG1 ab hgA
      go_upto_region 6 with (fail)
      generalize w2.alloc (.cells #[.int .i64 0, .int .i64 0, .int .i64 0, .int .i64 0, .int .i64 0, .int .i64 0, .int .i64 0] 29) = W3 at *
      generalize w2.heap.size = g3 at *
      go_upto_region 14 with (fail)
      clear p0 p1 p2 p3 p4 p5 p6
      obtain ⟨z0, z1, z2, z3, z4, z5, z6⟩ := HCn.out _ _ _ HG3.out
      dsimp only at z0 z1 z2 z3 z4 z5 z6
      go_wp2_with fail
      refine (HSc.out _ HB3.out).mono ?_
      rintro e w4 ⟨rfl, hb⟩
      have HB4 := Lib.hid (HB3.out.trans (hb.mono HB3.out.size))
      have HG4 := Lib.hid (HCl.out _ _ _ _ HG3.out hb)
      clear hb HB3 HG3 z0 z1 z2 z3 z4 z5 z6
      cases oc
      · obtain ⟨s1, s2⟩ := HXb.out rfl
        subst s1 s2
        clear HXb HXo HCs HSc
        go_wp2_with fail
        refine (HPs.out _ HB4.out).mono ?_
        rintro e w5 ⟨rfl, hb⟩
        have HB5 := Lib.hid (HB4.out.trans (hb.mono HB4.out.size))
        have HG5 := Lib.hid (HCl.out _ _ _ _ HG4.out hb)
        clear hb HB4 HG4
        cases o with
        | none =>
          rw [optE_none.1, optE_none.2]
          go_wp2_with fail
          go_ret
          exact ⟨retBd (by decide), HB5.out⟩
        | some m =>
          have hm := HOk.out m rfl
          have HF1 := Lib.hid (HFm.out m hm)
          have HP1 := Lib.hid (HPm.out m hm 0)
          clear HFm HPm HOk hm HLn
          generalize mkS (fA (civ m)) = S2 at *
          rw [(optE_some m).1, (optE_some m).2]
          go_wp2_with fail
          refine (HF1.out _ HB5.out).mono ?_
          rintro e w6 ⟨rfl, hb⟩
          have HB6 := Lib.hid (HB5.out.trans (hb.mono HB5.out.size))
          have HG6 := Lib.hid (HCl.out _ _ _ _ HG5.out hb)
          clear hb HB5 HG5
          go_wp2_with fail
          refine (HP1.out _ HB6.out).mono ?_
          rintro e w7 ⟨rfl, hb⟩
          have HB7 := Lib.hid (HB6.out.trans (hb.mono HB6.out.size))
          have HG7 := Lib.hid (HCl.out _ _ _ _ HG6.out hb)
          clear hb HB6 HG6
          go_wp2_with fail
          go_ret
          exact ⟨retBd (by simp), HB7.out⟩
      · obtain ⟨s1, s2⟩ := HXo.out rfl
        subst s1 s2
        have HC2 := Lib.hid (HCs.out rfl)
        clear HXb HXo HCs HSc
        go_wp2_with fail
        refine (HC2.out _ HB4.out).mono ?_
        rintro e w5 ⟨rfl, hb⟩
        have ab := hb.alloc hb.size (.cells #[.int .i64 c0, .int .i64 c1, .int .i64 c2, .int .i64 c3, .int .i64 c4, .int .i64 c5, .int .i64 c6] 29)
        have HB6 := Lib.hid (HB4.out.trans (ab.mono HB4.out.size))
        have HG6 := Lib.hid (HCl.out _ _ _ _ HG4.out ab)
        have hgA := heap_alloc_last w5 (.cells #[.int .i64 c0, .int .i64 c1, .int .i64 c2, .int .i64 c3, .int .i64 c4, .int .i64 c5, .int .i64 c6] 29)
        obtain ⟨p0, p1, p2, p3, p4, p5, p6⟩ := HCn.out _ _ ⟨c0, c1, c2, c3, c4, c5, c6⟩ hgA
        obtain ⟨z0, z1, z2, z3, z4, z5, z6⟩ := HCn.out _ _ _ HG6.out
        dsimp only at p0 p1 p2 p3 p4 p5 p6 z0 z1 z2 z3 z4 z5 z6
        clear hb HB4 HG4 ab hgA
        go_upto_region 17 with (fail)
        generalize w5.alloc (.cells #[.int .i64 c0, .int .i64 c1, .int .i64 c2, .int .i64 c3, .int .i64 c4, .int .i64 c5, .int .i64 c6] 29) = W6 at *
        generalize w5.heap.size = g6 at *
        go_upto_region 19 with (fail)
        clear p0 p1 p2 p3 p4 p5 p6 z0 z1 z2 z3 z4 z5 z6
        go_wp2_with fail
        refine (HPs.out _ HB6.out).mono ?_
        rintro e w7 ⟨rfl, hb⟩
        have HB7 := Lib.hid (HB6.out.trans (hb.mono HB6.out.size))
        have HG7 := Lib.hid (HCl.out _ _ _ _ HG6.out hb)
        clear hb HB6 HG6
        cases o with
        | none =>
          rw [optE_none.1, optE_none.2]
          go_wp2_with fail
          go_ret
          exact ⟨retBd (by decide), HB7.out⟩
        | some m =>
          have hm := HOk.out m rfl
          have HF1 := Lib.hid (HFm.out m hm)
          have HP1 := Lib.hid (HPm.out m hm 0)
          clear HFm HPm HOk hm HLn
          generalize mkS (fA (civ m)) = S2 at *
          rw [(optE_some m).1, (optE_some m).2]
          go_wp2_with fail
          refine (HF1.out _ HB7.out).mono ?_
          rintro e w8 ⟨rfl, hb⟩
          have HB8 := Lib.hid (HB7.out.trans (hb.mono HB7.out.size))
          have HG8 := Lib.hid (HCl.out _ _ _ _ HG7.out hb)
          clear hb HB7 HG7
          go_wp2_with fail
          refine (HP1.out _ HB8.out).mono ?_
          rintro e w9 ⟨rfl, hb⟩
          have HB9 := Lib.hid (HB8.out.trans (hb.mono HB8.out.size))
          have HG9 := Lib.hid (HCl.out _ _ _ _ HG8.out hb)
          clear hb HB8 HG8
          go_wp2_with fail
          go_ret
          exact ⟨retBd (by simp), HB9.out⟩
  · have HC := Lib.hid (HCa.out hk)
    have HS := Lib.hid (HSa.out hk)
    have HF := Lib.hid (HFm.out t hk)
    have HP := Lib.hid (HPm.out t hk now)
    have hln := HLn.out t hk
    have hn : 0 ≤ t ∧ t ≤ 253402300799 := (okT_iff t).1 hk
    have c29 : (((mkS (fA (civ t))).size : Int) == 29) = true := by rw [hln]; rfl
    clear hT HCa HCb HSa hk hln
    generalize mkS (fA (civ t)) = S1 at *
    generalize civ t = a at *
    obtain ⟨a0, a1, a2, a3, a4, a5, a6⟩ := a
    unfold cvV at HC HS
    go_enter Tryd.func5, Tryd.ntmps5
    go_wp2_with fail
    refine (HL.out _ HB0.out).mono ?_
    rintro e w1 ⟨rfl, hb⟩
    have HB1 := Lib.hid (HB0.out.trans (hb.mono HB0.out.size))
    have HG1 := Lib.hid (HCl.out _ _ _ _ HG0.out hb)
    clear hb HB0 HG0
    go_wp2_with fail
    refine (HC.out _ HB1.out).mono ?_
    rintro e w2 ⟨rfl, hb⟩
    have ab := hb.alloc hb.size (.cells #[.int .i64 a0, .int .i64 a1, .int .i64 a2, .int .i64 a3, .int .i64 a4, .int .i64 a5, .int .i64 a6] 29)
    have HB3 := Lib.hid (HB1.out.trans (ab.mono HB1.out.size))
    have HG3 := Lib.hid (HCl.out _ _ _ _ HG1.out ab)
    have hgA := heap_alloc_last w2 (.cells #[.int .i64 a0, .int .i64 a1, .int .i64 a2, .int .i64 a3, .int .i64 a4, .int .i64 a5, .int .i64 a6] 29)
    obtain ⟨p0, p1, p2, p3, p4, p5, p6⟩ := HCn.out _ _ (⟨a0, a1, a2, a3, a4, a5, a6⟩) hgA
    dsimp only at p0 p1 p2 p3 p4 p5 p6
    clear hb HB1 HG1 ab hgA
    go_upto_region 6 with (fail)
    generalize w2.alloc (.cells #[.int .i64 a0, .int .i64 a1, .int .i64 a2, .int .i64 a3, .int .i64 a4, .int .i64 a5, .int .i64 a6] 29) = W3 at *
    generalize w2.heap.size = g3 at *
    go_wp2_with fail
    refine (HS.out _ HB3.out).mono ?_
    rintro e w4 ⟨rfl, hb⟩
    have HB4 := Lib.hid (HB3.out.trans (hb.mono HB3.out.size))
    have HG4 := Lib.hid (HCl.out _ _ _ _ HG3.out hb)
    clear hb HB3 HG3
    go_wp2_with fail
    refine (HF.out _ HB4.out).mono ?_
    rintro e w5 ⟨rfl, hb⟩
    have HB5 := Lib.hid (HB4.out.trans (hb.mono HB4.out.size))
    have HG5 := Lib.hid (HCl.out _ _ _ _ HG4.out hb)
    clear hb HB4 HG4
    go_wp2_with fail
    refine (HP.out _ HB5.out).mono ?_
    rintro e w6 ⟨rfl, hb⟩
    have HB6 := Lib.hid (HB5.out.trans (hb.mono HB5.out.size))
    have HG6 := Lib.hid (HCl.out _ _ _ _ HG5.out hb)
    clear hb HB5 HG5
    go_upto_region 14 with (fail)
    clear p0 p1 p2 p3 p4 p5 p6
    obtain ⟨z0, z1, z2, z3, z4, z5, z6⟩ := HCn.out _ _ _ HG6.out
    dsimp only at z0 z1 z2 z3 z4 z5 z6
    go_wp2_with fail
    refine (HSc.out _ HB6.out).mono ?_
    rintro e w7 ⟨rfl, hb⟩
    have HB7 := Lib.hid (HB6.out.trans (hb.mono HB6.out.size))
    have HG7 := Lib.hid (HCl.out _ _ _ _ HG6.out hb)
    clear hb HB6 HG6 z0 z1 z2 z3 z4 z5 z6
    cases oc
    · obtain ⟨s1, s2⟩ := HXb.out rfl
      subst s1 s2
      clear HXb HXo HCs HSc
      go_wp2_with fail
      refine (HPs.out _ HB7.out).mono ?_
      rintro e w8 ⟨rfl, hb⟩
      have HB8 := Lib.hid (HB7.out.trans (hb.mono HB7.out.size))
      have HG8 := Lib.hid (HCl.out _ _ _ _ HG7.out hb)
      clear hb HB7 HG7
      cases o with
      | none =>
        rw [optE_none.1, optE_none.2]
        go_wp2_with fail
        go_ret
        exact ⟨retBd (by decide), HB8.out⟩
      | some m =>
        have hm := HOk.out m rfl
        have HF1 := Lib.hid (HFm.out m hm)
        have HP1 := Lib.hid (HPm.out m hm 0)
        clear HFm HPm HOk hm HLn
        generalize mkS (fA (civ m)) = S2 at *
        rw [(optE_some m).1, (optE_some m).2]
        go_wp2_with fail
        refine (HF1.out _ HB8.out).mono ?_
        rintro e w9 ⟨rfl, hb⟩
        have HB9 := Lib.hid (HB8.out.trans (hb.mono HB8.out.size))
        have HG9 := Lib.hid (HCl.out _ _ _ _ HG8.out hb)
        clear hb HB8 HG8
        go_wp2_with fail
        refine (HP1.out _ HB9.out).mono ?_
        rintro e w10 ⟨rfl, hb⟩
        have HB10 := Lib.hid (HB9.out.trans (hb.mono HB9.out.size))
        have HG10 := Lib.hid (HCl.out _ _ _ _ HG9.out hb)
        clear hb HB9 HG9
        go_wp2_with fail
        go_ret
        exact ⟨retBd (by simp), HB10.out⟩
    · obtain ⟨s1, s2⟩ := HXo.out rfl
      subst s1 s2
      have HC2 := Lib.hid (HCs.out rfl)
      clear HXb HXo HCs HSc
      go_wp2_with fail
      refine (HC2.out _ HB7.out).mono ?_
      rintro e w8 ⟨rfl, hb⟩
      have ab := hb.alloc hb.size (.cells #[.int .i64 c0, .int .i64 c1, .int .i64 c2, .int .i64 c3, .int .i64 c4, .int .i64 c5, .int .i64 c6] 29)
      have HB9 := Lib.hid (HB7.out.trans (ab.mono HB7.out.size))
      have HG9 := Lib.hid (HCl.out _ _ _ _ HG7.out ab)
      have hgA := heap_alloc_last w8 (.cells #[.int .i64 c0, .int .i64 c1, .int .i64 c2, .int .i64 c3, .int .i64 c4, .int .i64 c5, .int .i64 c6] 29)
      obtain ⟨p0, p1, p2, p3, p4, p5, p6⟩ := HCn.out _ _ ⟨c0, c1, c2, c3, c4, c5, c6⟩ hgA
      obtain ⟨z0, z1, z2, z3, z4, z5, z6⟩ := HCn.out _ _ _ HG9.out
      dsimp only at p0 p1 p2 p3 p4 p5 p6 z0 z1 z2 z3 z4 z5 z6
      clear hb HB7 HG7 ab hgA
      go_upto_region 17 with (fail)
      generalize w8.alloc (.cells #[.int .i64 c0, .int .i64 c1, .int .i64 c2, .int .i64 c3, .int .i64 c4, .int .i64 c5, .int .i64 c6] 29) = W9 at *
      generalize w8.heap.size = g9 at *
      go_upto_region 19 with (fail)
      clear p0 p1 p2 p3 p4 p5 p6 z0 z1 z2 z3 z4 z5 z6
      go_wp2_with fail
      refine (HPs.out _ HB9.out).mono ?_
      rintro e w10 ⟨rfl, hb⟩
      have HB10 := Lib.hid (HB9.out.trans (hb.mono HB9.out.size))
      have HG10 := Lib.hid (HCl.out _ _ _ _ HG9.out hb)
      clear hb HB9 HG9
      cases o with
      | none =>
        rw [optE_none.1, optE_none.2]
        go_wp2_with fail
        go_ret
        exact ⟨retBd (by decide), HB10.out⟩
      | some m =>
        have hm := HOk.out m rfl
        have HF1 := Lib.hid (HFm.out m hm)
        have HP1 := Lib.hid (HPm.out m hm 0)
        clear HFm HPm HOk hm HLn
        generalize mkS (fA (civ m)) = S2 at *
        rw [(optE_some m).1, (optE_some m).2]
        go_wp2_with fail
        refine (HF1.out _ HB10.out).mono ?_
        rintro e w11 ⟨rfl, hb⟩
        have HB11 := Lib.hid (HB10.out.trans (hb.mono HB10.out.size))
        have HG11 := Lib.hid (HCl.out _ _ _ _ HG10.out hb)
        clear hb HB10 HG10
        go_wp2_with fail
        refine (HP1.out _ HB11.out).mono ?_
        rintro e w12 ⟨rfl, hb⟩
        have HB12 := Lib.hid (HB11.out.trans (hb.mono HB11.out.size))
        have HG12 := Lib.hid (HCl.out _ _ _ _ HG11.out hb)
        clear hb HB11 HG11
        go_wp2_with fail
        go_ret
        exact ⟨retBd (by simp), HB12.out⟩
end Tk
end Go.Proofs.YtdpfeedpnnicjaaDoor
