/- DateCalls: times are written, read and counted as the document says. -/
import Derived.Test.YtajmheblbnodjaaDoorDtN
import Derived.Test.YtajmheblbnodjaaDoorDrJ
import Derived.Deep.Cut
namespace Go.Proofs.YtajmheblbnodjaaDoor
open Go.RowKit
namespace Tk

set_option maxHeartbeats 16000000 in
set_option maxRecDepth 100000 in
theorem dcalls_any (t now : Int) (c : Cv) (s : ByteArray) (w : World) (hN : NamH w) (ht : -9223372036854775808 ≤ t ∧ t ≤ 9223372036854775807) :
    Calls Tryd.prog 3 #[.int .i64 t, .int .i64 now, cvV c, .string s] w fun e w' => e = .returned (.bool true) ∧ Below w.heap.size w w' := by
  have HL : Hid (∀ W, Below w.heap.size w W → Calls Tryd.prog 6 #[] W fun e w' => e = .returned (.bool true) ∧ Below W.heap.size W w') := fun W hb => lives9_any W (hN.later hb)
  obtain ⟨c0, c1, c2, c3, c4, c5, c6⟩ := c
  have HX0 := Lib.hid (Bx.new w 23 #[.int .i64 c0, .int .i64 c1, .int .i64 c2, .int .i64 c3, .int .i64 c4, .int .i64 c5, .int .i64 c6])
  have HB0 := Lib.hid ((Below.refl w.heap.size w).alloc (Nat.le_refl _) (.cells #[.int .i64 c0, .int .i64 c1, .int .i64 c2, .int .i64 c3, .int .i64 c4, .int .i64 c5, .int .i64 c6] 23))
  by_cases hs : 60 < s.size
  · have e1 : (60 : Int) < (s.size : Int) := by omega
    clear hs
    unfold cvV
    go_enter Tryd.func3, Tryd.ntmps3
    go_wp2_with fail
    refine (HL.out _ HB0.out).mono ?_
    rintro e w1 ⟨rfl, hb⟩
    have HB1 := Lib.hid (HB0.out.trans (hb.mono HB0.out.size))
    clear hb HB0 HX0
    go_wp2_with fail
    go_ret
    exact ⟨rfl, HB1.out⟩
  have e1 : ¬ (60 : Int) < (s.size : Int) := by omega
  have HDp := Lib.hid (fun W => days_any c0 c1 c2 W)
  have HDr := Lib.hid (fun W => rdays_any c0 c1 c2 W)
  have HCp := Lib.hid (fun W => civil_any t W ht)
  have HCr := Lib.hid (fun W => rcivil_any t W ht)
  have HSp := Lib.hid (fun W => seconds_any ⟨c0, c1, c2, c3, c4, c5, c6⟩ W)
  have HSr := Lib.hid (fun W => rseconds_any ⟨c0, c1, c2, c3, c4, c5, c6⟩ W)
  have HFp : Hid (∀ W, Below w.heap.size w W → Calls Tryd.prog 13 #[.int .i64 t] W (FmtPost t W)) := fun W hb => format_any t W ht (hN.later hb)
  have HFr := Lib.hid (fun W => rformat_any t W ht)
  have HPp : Hid (∀ W, Below w.heap.size w W → Calls Tryd.prog 15 #[.string s, .int .i64 now] W (OptPost (pP (bs s) (yNow now)) W)) := fun W hb => parse_any s now W (hN.later hb) (by omega)
  have HPr := Lib.hid (fun W => rparse9_any s now W (by omega))
  unfold CivPost at HCp HCr
  unfold SecPost at HSp HSr
  unfold FmtPost at HFp HFr
  unfold OptPost at HPp HPr
  generalize dayV c0 c1 c2 = dv at *
  generalize dayE c0 c1 c2 = de at *
  generalize secX ⟨c0, c1, c2, c3, c4, c5, c6⟩ = sx at *
  generalize secE ⟨c0, c1, c2, c3, c4, c5, c6⟩ = se at *
  generalize civX t = cx at *
  generalize civE t = ce at *
  generalize fmtL t = ft at *
  generalize optV (pP (bs s) (yNow now)) = pv at *
  generalize optE (pP (bs s) (yNow now)) = pe at *
  obtain ⟨d0, d1, d2, d3, d4, d5, d6⟩ := cx
  unfold cvV at *
  simp only at *
  have k1 : (dv == dv) = true := beq_self_eq_true _
  have k2 : (de == de) = true := beq_self_eq_true _
  have k3 : (sx == sx) = true := beq_self_eq_true _
  have k4 : (se == se) = true := beq_self_eq_true _
  have k5 : (ce == ce) = true := beq_self_eq_true _
  have k6 : (pv == pv) = true := beq_self_eq_true _
  have k7 : (pe == pe) = true := beq_self_eq_true _
  generalize mkS ft = fx at *
  clear hs ht hN
  go_enter Tryd.func3, Tryd.ntmps3
  go_wp2_with fail
  generalize w.alloc (.cells #[.int .i64 c0, .int .i64 c1, .int .i64 c2, .int .i64 c3, .int .i64 c4, .int .i64 c5, .int .i64 c6] 23) = W0 at *
  refine (HL.out _ HB0.out).mono ?_
  rintro e w1 ⟨rfl, hb⟩
  have HB1 := Lib.hid (HB0.out.trans (hb.mono HB0.out.size))
  have HX1 := Lib.hid (HX0.out.later hb)
  clear hb HB0 HX0 HL
  have x0 := HX1.out.cell 0 _ rfl
  have x1 := HX1.out.cell 1 _ rfl
  have x2 := HX1.out.cell 2 _ rfl
  go_wp2_with fail
  refine (HDp.out _).mono ?_
  rintro e wx ⟨rfl, rfl⟩
  go_wp2_with fail
  refine (HDr.out _).mono ?_
  rintro e wx ⟨rfl, rfl⟩
  clear x0 x1 x2
  go_wp2_with fail
  refine (HCp.out _).mono ?_
  rintro e w2 ⟨rfl, hb⟩
  have hbl : Below w2.heap.size w2 (w2.alloc (.cells #[.int .i64 d0, .int .i64 d1, .int .i64 d2, .int .i64 d3, .int .i64 d4, .int .i64 d5, .int .i64 d6] 23)) := (Below.refl _ _).alloc (Nat.le_refl _) _
  have HX2 := Lib.hid ((HX1.out.later hb).later hbl)
  have HY2 := Lib.hid (Bx.new w2 23 #[.int .i64 d0, .int .i64 d1, .int .i64 d2, .int .i64 d3, .int .i64 d4, .int .i64 d5, .int .i64 d6])
  have hb2 := HB1.out.trans (hb.mono HB1.out.size)
  have HB2 := Lib.hid (hb2.trans (hbl.mono hb2.size))
  clear hb hbl hb2 HX1 HB1
  go_upto_region 8 with (fail)
  generalize w2.alloc (.cells #[.int .i64 d0, .int .i64 d1, .int .i64 d2, .int .i64 d3, .int .i64 d4, .int .i64 d5, .int .i64 d6] 23) = w3 at *
  generalize w2.heap.size = g1 at *
  go_wp2_with fail
  refine (HCr.out _).mono ?_
  rintro e w4 ⟨rfl, hb⟩
  have hbl : Below w4.heap.size w4 (w4.alloc (.cells #[.int .i64 d0, .int .i64 d1, .int .i64 d2, .int .i64 d3, .int .i64 d4, .int .i64 d5, .int .i64 d6] 23)) := (Below.refl _ _).alloc (Nat.le_refl _) _
  have HX4 := Lib.hid ((HX2.out.later hb).later hbl)
  have HY4 := Lib.hid ((HY2.out.later hb).later hbl)
  have HZ4 := Lib.hid (Bx.new w4 23 #[.int .i64 d0, .int .i64 d1, .int .i64 d2, .int .i64 d3, .int .i64 d4, .int .i64 d5, .int .i64 d6])
  have hb2 := HB2.out.trans (hb.mono HB2.out.size)
  have HB4 := Lib.hid (hb2.trans (hbl.mono hb2.size))
  clear hb hbl hb2 HX2 HY2 HB2
  go_upto_region 9 with (fail)
  generalize w4.alloc (.cells #[.int .i64 d0, .int .i64 d1, .int .i64 d2, .int .i64 d3, .int .i64 d4, .int .i64 d5, .int .i64 d6] 23) = w5 at *
  generalize w4.heap.size = g2 at *
  have x0 := HX4.out.cell 0 _ rfl
  have x1 := HX4.out.cell 1 _ rfl
  have x2 := HX4.out.cell 2 _ rfl
  have x3 := HX4.out.cell 3 _ rfl
  have x4 := HX4.out.cell 4 _ rfl
  have x5 := HX4.out.cell 5 _ rfl
  have x6 := HX4.out.cell 6 _ rfl
  go_wp2_with fail
  refine (HSp.out _).mono ?_
  rintro e w6 ⟨rfl, hb⟩
  have HX6 := Lib.hid (HX4.out.later hb)
  have HY6 := Lib.hid (HY4.out.later hb)
  have HZ6 := Lib.hid (HZ4.out.later hb)
  have HB6 := Lib.hid (HB4.out.trans (hb.mono HB4.out.size))
  clear hb HX4 HY4 HZ4 HB4 x0 x1 x2 x3 x4 x5 x6
  have x0 := HX6.out.cell 0 _ rfl
  have x1 := HX6.out.cell 1 _ rfl
  have x2 := HX6.out.cell 2 _ rfl
  have x3 := HX6.out.cell 3 _ rfl
  have x4 := HX6.out.cell 4 _ rfl
  have x5 := HX6.out.cell 5 _ rfl
  have x6 := HX6.out.cell 6 _ rfl
  go_wp2_with fail
  refine (HSr.out _).mono ?_
  rintro e w7 ⟨rfl, hb⟩
  have HY7 := Lib.hid (HY6.out.later hb)
  have HZ7 := Lib.hid (HZ6.out.later hb)
  have HB7 := Lib.hid (HB6.out.trans (hb.mono HB6.out.size))
  clear hb HX6 HY6 HZ6 HB6 x0 x1 x2 x3 x4 x5 x6
  go_wp2_with fail
  refine (HFp.out _ HB7.out).mono ?_
  rintro e w8 ⟨rfl, hb⟩
  have HY8 := Lib.hid (HY7.out.later hb)
  have HZ8 := Lib.hid (HZ7.out.later hb)
  have HB8 := Lib.hid (HB7.out.trans (hb.mono HB7.out.size))
  clear hb HY7 HZ7 HB7
  go_wp2_with fail
  refine (HFr.out _).mono ?_
  rintro e w9 ⟨rfl, hb⟩
  have HY9 := Lib.hid (HY8.out.later hb)
  have HZ9 := Lib.hid (HZ8.out.later hb)
  have HB9 := Lib.hid (HB8.out.trans (hb.mono HB8.out.size))
  clear hb HY8 HZ8 HB8
  go_wp2_with fail
  refine (HPp.out _ HB9.out).mono ?_
  rintro e wa ⟨rfl, hb⟩
  have HYa := Lib.hid (HY9.out.later hb)
  have HZa := Lib.hid (HZ9.out.later hb)
  have HBa := Lib.hid (HB9.out.trans (hb.mono HB9.out.size))
  clear hb HY9 HZ9 HB9
  go_wp2_with fail
  refine (HPr.out _).mono ?_
  rintro e wb ⟨rfl, hb⟩
  have HYb := HYa.out.later hb
  have HZb := HZa.out.later hb
  have HBb := Lib.hid (HBa.out.trans (hb.mono HBa.out.size))
  clear hb HYa HZa HBa
  have y0 := HYb.cell 0 _ rfl
  have y1 := HYb.cell 1 _ rfl
  have y2 := HYb.cell 2 _ rfl
  have y3 := HYb.cell 3 _ rfl
  have y4 := HYb.cell 4 _ rfl
  have y5 := HYb.cell 5 _ rfl
  have y6 := HYb.cell 6 _ rfl
  have z0 := HZb.cell 0 _ rfl
  have z1 := HZb.cell 1 _ rfl
  have z2 := HZb.cell 2 _ rfl
  have z3 := HZb.cell 3 _ rfl
  have z4 := HZb.cell 4 _ rfl
  have z5 := HZb.cell 5 _ rfl
  have z6 := HZb.cell 6 _ rfl
  clear HYb HZb
  go_wp2_with fail
  go_ret
  exact ⟨rfl, HBb.out⟩
end Tk
end Go.Proofs.YtajmheblbnodjaaDoor
