/- DateRises: the law. -/
import Derived.Test.YtdpfeedpnnicjaaDoorDtN
import Derived.Deep.Cut
namespace Go.Proofs.YtdpfeedpnnicjaaDoor
open Go.RowKit
namespace Tk

set_option maxHeartbeats 40000000 in
set_option maxRecDepth 100000 in
theorem rises_in (t : Int) (w : World) (hN : NamH w) (h0 : 0 ≤ t) (h1 : t ≤ 253402214399) :
    Calls Tryd.prog 6 #[.int .i64 t] w fun e w' => e = .returned (.bool true) ∧ Below w.heap.size w w' := by
  have k0 : okT t = true := (okT_iff t).2 ⟨h0, by unfold maxT; omega⟩
  have k1 : okT (t + 1) = true := (okT_iff _).2 ⟨by omega, by unfold maxT; omega⟩
  have k2 : okT (t + 86400) = true := (okT_iff _).2 ⟨by omega, by unfold maxT; omega⟩
  have HL := Lib.hid (lives9_any w hN)
  have HA := Lib.hid (fun W => civ_box t W k0)
  have HB := Lib.hid (fun W => civ_box (t + 1) W k1)
  have HC := Lib.hid (fun W => civ_box (t + 86400) W k2)
  have hD := fun W => days_any (civ t).y (civ t).m (civ t).d W
  obtain ⟨d1, d2⟩ := civ_dayV k0
  rw [d1, d2] at hD
  have HD := Lib.hid hD
  obtain ⟨l1, l2, l3, l4, l5⟩ := civ_later h0
  have hra := civ_rg h0 ((okT_iff t).1 k0).2
  have ra := hra.s; have rn := hra.n; have rd := hra.d; have rw0 := hra.w
  have hway : ((civ t).s < 59 ∧ (civ (t + 1)).s = (civ t).s + 1 ∧ (civ (t + 1)).n = (civ t).n ∧ (civ (t + 1)).h = (civ t).h ∧ (civ (t + 1)).d = (civ t).d) ∨ ((civ t).s = 59 ∧ (civ (t + 1)).s = 0 ∧ (civ (t + 1)).n = (civ t).n + 1) ∨ ((civ t).s = 59 ∧ (civ t).n = 59 ∧ (civ (t + 1)).s = 0 ∧ (civ (t + 1)).n = 0) := by
    by_cases hs : (civ t).s < 59
    · exact .inl ⟨hs, civ_same h0 hs⟩
    · have hs2 : (civ t).s = 59 := by omega
      obtain ⟨q1, q2, q3⟩ := civ_carry hs2
      by_cases hn : (civ t).n < 59
      · exact .inr (.inl ⟨hs2, q1, q2 hn⟩)
      · have hn2 : (civ t).n = 59 := by omega
        exact .inr (.inr ⟨hs2, hn2, q1, q3 hn2⟩)
  clear k0 k1 k2 hD d1 d2 hra hN
  generalize civ t = a at *
  generalize civ (t + 1) = b at *
  generalize civ (t + 86400) = c at *
  obtain ⟨a0, a1, a2, a3, a4, a5, a6⟩ := a
  obtain ⟨b0, b1, b2, b3, b4, b5, b6⟩ := b
  obtain ⟨c0, c1, c2, c3, c4, c5, c6⟩ := c
  dsimp only at l1 l2 l3 l4 l5 ra rn rd rw0 hway
  replace l2 := l2.symm
  replace l3 := l3.symm
  replace l4 := l4.symm
  subst l1 l2 l3 l4
  have HLa := Lib.hid l5
  have HWay := Lib.hid hway
  have HCn := Lib.hid (fun (W : World) (g : Nat) (c : Cv) (h : CvB W g c) => CvB.cells h)
  have HCl := Lib.hid (fun (W W' : World) (g : Nat) (c : Cv) (h : CvB W g c) (hb : Below W.heap.size W W') => CvB.later h hb)
  have HNew := Lib.hid (fun (w : World) (c : Cv) => CvB.new w c)
  have HHd := Lib.hid (fun (W : World) (g : Nat) (c : Cv) (h : CvB W g c) => CvB.lt h)
  clear l5 hway
  unfold cvV at HA HB HC
  unfold cvC at HNew
  go_enter Tryd.func6, Tryd.ntmps6
  go_wp2_with fail
  refine HL.out.mono ?_
  rintro e w1 ⟨rfl, hb⟩
  have HB1 := Lib.hid hb
  clear hb HL
  go_wp2_with fail
  refine (HA.out _).mono ?_
  rintro e w2 ⟨rfl, hb⟩
  have GA := Lib.hid (HNew.out w2 ⟨a0, a1, a2, a3, a4, a5, a6⟩)
  have HB2 := Lib.hid ((HB1.out.trans (hb.mono HB1.out.size)).alloc (HB1.out.trans (hb.mono HB1.out.size)).size (.cells #[.int .i64 a0, .int .i64 a1, .int .i64 a2, .int .i64 a3, .int .i64 a4, .int .i64 a5, .int .i64 a6] 29))
  clear hb HB1 HA
  go_wp2_with fail
  generalize w2.alloc (.cells #[.int .i64 a0, .int .i64 a1, .int .i64 a2, .int .i64 a3, .int .i64 a4, .int .i64 a5, .int .i64 a6] 29) = W2 at *
  generalize w2.heap.size = g2 at *
  refine (HB.out _).mono ?_
  rintro e w3 ⟨rfl, hb⟩
  have GA3 := Lib.hid (HCl.out _ _ _ _ (HCl.out _ _ _ _ GA.out hb) ((Below.refl _ _).alloc (Nat.le_refl _) (.cells #[.int .i64 b0, .int .i64 b1, .int .i64 b2, .int .i64 b3, .int .i64 b4, .int .i64 b5, .int .i64 b6] 29)))
  have GB := Lib.hid (HNew.out w3 ⟨b0, b1, b2, b3, b4, b5, b6⟩)
  have HB3 := Lib.hid ((HB2.out.trans (hb.mono HB2.out.size)).alloc (HB2.out.trans (hb.mono HB2.out.size)).size (.cells #[.int .i64 b0, .int .i64 b1, .int .i64 b2, .int .i64 b3, .int .i64 b4, .int .i64 b5, .int .i64 b6] 29))
  clear hb HB2 HB GA
  go_wp2_with fail
  generalize w3.alloc (.cells #[.int .i64 b0, .int .i64 b1, .int .i64 b2, .int .i64 b3, .int .i64 b4, .int .i64 b5, .int .i64 b6] 29) = W3 at *
  generalize w3.heap.size = g3 at *
  refine (HC.out _).mono ?_
  rintro e w4 ⟨rfl, hb⟩
  have hal := (Below.refl w4.heap.size w4).alloc (Nat.le_refl _) (.cells #[.int .i64 c0, .int .i64 c1, .int .i64 c2, .int .i64 a3, .int .i64 a4, .int .i64 a5, .int .i64 ((a6 + 1) % 7)] 29)
  have GA4 := HCl.out _ _ _ _ (HCl.out _ _ _ _ GA3.out hb) hal
  have GB4 := HCl.out _ _ _ _ (HCl.out _ _ _ _ GB.out hb) hal
  have GC := HNew.out w4 ⟨c0, c1, c2, a3, a4, a5, (a6 + 1) % 7⟩
  have HB4 := Lib.hid ((HB3.out.trans (hb.mono HB3.out.size)).alloc (HB3.out.trans (hb.mono HB3.out.size)).size (.cells #[.int .i64 c0, .int .i64 c1, .int .i64 c2, .int .i64 a3, .int .i64 a4, .int .i64 a5, .int .i64 ((a6 + 1) % 7)] 29))
  obtain ⟨p0, p1, p2, p3, p4, p5, p6⟩ := HCn.out _ _ _ GA4
  obtain ⟨q0, q1, q2, q3, q4, q5, q6⟩ := HCn.out _ _ _ GB4
  obtain ⟨r0, r1, r2, r3, r4, r5, r6⟩ := HCn.out _ _ _ GC
  dsimp only at p0 p1 p2 p3 p4 p5 p6 q0 q1 q2 q3 q4 q5 q6 r0 r1 r2 r3 r4 r5 r6
  clear hb HB3 HC GA3 GB GA4 GB4 GC HCn HCl HNew HHd hal
  go_upto_region 8 with (fail)
  generalize w4.alloc (.cells #[.int .i64 c0, .int .i64 c1, .int .i64 c2, .int .i64 a3, .int .i64 a4, .int .i64 a5, .int .i64 ((a6 + 1) % 7)] 29) = W4 at *
  generalize w4.heap.size = g4 at *
  clear q0 q1 q6 r0 r1
  go_wp2_with fail
  refine (HD.out _).mono ?_
  rintro e w5 ⟨rfl, rfl⟩
  clear HD p0 p1
  have hway := HWay.out
  have hla := HLa.out
  clear HWay HLa
  rcases hla with rfl | rfl
  · rcases hway with ⟨x1, rfl, rfl, rfl, rfl⟩ | ⟨rfl, rfl, rfl⟩ | ⟨rfl, rfl, rfl, rfl⟩
    · have e3 : (a5 == 59) = false := beq_eq_false_iff_ne.2 (by omega)
      go_wp2_with fail
      go_ret
      exact ⟨retBd (by simp), HB4.out⟩
    · go_wp2_with fail
      go_ret
      exact ⟨retBd (by simp), HB4.out⟩
    · go_wp2_with fail
      go_ret
      exact ⟨retBd (by simp), HB4.out⟩
  · have e4 : ((1 : Int) == a2 + 1) = false := beq_eq_false_iff_ne.2 (by omega)
    rcases hway with ⟨x1, rfl, rfl, rfl, rfl⟩ | ⟨rfl, rfl, rfl⟩ | ⟨rfl, rfl, rfl, rfl⟩
    · have e3 : (a5 == 59) = false := beq_eq_false_iff_ne.2 (by omega)
      go_wp2_with fail
      go_ret
      exact ⟨retBd (by simp), HB4.out⟩
    · go_wp2_with fail
      go_ret
      exact ⟨retBd (by simp), HB4.out⟩
    · go_wp2_with fail
      go_ret
      exact ⟨retBd (by simp), HB4.out⟩

set_option maxHeartbeats 4000000 in
set_option maxRecDepth 100000 in
theorem rises_any (t : Int) (w : World) (hN : NamH w) :
    Calls Tryd.prog 6 #[.int .i64 t] w fun e w' => e = .returned (.bool true) ∧ Below w.heap.size w w' := by
  by_cases hk : 0 ≤ t ∧ t ≤ 253402214399
  · exact rises_in t w hN hk.1 hk.2
  have HL := Lib.hid (lives9_any w hN)
  clear hN
  by_cases h0 : t < 0
  · clear hk
    go_enter Tryd.func6, Tryd.ntmps6
    go_wp2_with fail
    refine HL.out.mono ?_
    rintro e w1 ⟨rfl, hb⟩
    have HB1 := Lib.hid hb
    clear hb HL
    go_wp2_with fail
    go_ret
    exact ⟨rfl, HB1.out⟩
  · have h1 : 253402214399 < t := by omega
    clear hk
    go_enter Tryd.func6, Tryd.ntmps6
    go_wp2_with fail
    refine HL.out.mono ?_
    rintro e w1 ⟨rfl, hb⟩
    have HB1 := Lib.hid hb
    clear hb HL
    go_wp2_with fail
    go_ret
    exact ⟨rfl, HB1.out⟩
end Tk
end Go.Proofs.YtdpfeedpnnicjaaDoor
