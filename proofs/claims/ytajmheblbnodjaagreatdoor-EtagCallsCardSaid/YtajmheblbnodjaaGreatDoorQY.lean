/- ReC, put together. -/
import Derived.Test.YtajmheblbnodjaaGreatDoorQJ
import Derived.Test.YtajmheblbnodjaaGreatDoorQR
import Derived.Test.YtajmheblbnodjaaGreatDoorQX
import Derived.Test.YtajmheblbnodjaaGreatDoorQV
import Derived.Deep.Cut
namespace Go.Proofs.YtajmheblbnodjaaGreatDoor
open Go.RowKit
namespace Tk

set_option maxHeartbeats 16000000 in
set_option maxRecDepth 100000 in
theorem of_walk (v : Value) (now : Int) (w : World) (s1 s2 : ByteArray) (o1 o2 : Bool) (tk : Bool) (tv : Bs) (e1 t e2 : Int) (C : Ck)
    (H1 : Hid (∀ W : World, Below w.heap.size w W → Calls Tryz.prog 112 #[v, .string ⟨#[69, 84, 97, 103]⟩] W fun e w' => e = .returned (.tuple #[.string s1, .bool o1]) ∧ Below W.heap.size W w'))
    (H2 : Hid (∀ W : World, Below w.heap.size w W → Calls Tryz.prog 112 #[v, .string ⟨#[76, 97, 115, 116, 45, 77, 111, 100, 105, 102, 105, 101, 100]⟩] W fun e w' => e = .returned (.tuple #[.string s2, .bool o2]) ∧ Below W.heap.size W w'))
    (HP1 : Hid (∀ W : World, Calls Tryz.prog 59 #[.string s1] W fun e w' => e = .returned (.tuple #[.agg #[.bool tk, .string (mkS tv)], .int .i64 e1]) ∧ Below W.heap.size W w'))
    (HP2 : Hid (∀ W : World, Calls Tryz.prog 113 #[.string s2, .int .i64 now] W fun e w' => e = .returned (.tuple #[.int .i64 t, .int .i64 e2]) ∧ Below W.heap.size W w'))
    (hv : ∃ a n c, v = .slice a n c)
    (hC : C = ⟨(o1 && (e1 == 0)) && tk, if (o1 && (e1 == 0)) = true then tv else [], o1 && (e1 == 0), if (o2 && (e2 == 0)) = true then t else 0, o2 && (e2 == 0)⟩) :
    Calls Tryz.prog 65 #[v, .int .i64 now] w fun e w' => e = .returned (ckV C) ∧ Below w.heap.size w w' := by
  obtain ⟨a, n, c, rfl⟩ := hv
  have h1 := Bx.new w 89 #[.bool false, .string ⟨#[]⟩, .bool false, .int .i64 0, .bool false]
  have b1 : Below w.heap.size w (w.alloc (.cells #[.bool false, .string ⟨#[]⟩, .bool false, .int .i64 0, .bool false] 89)) := (Below.refl _ _).alloc (Nat.le_refl _) _
  have z1 : (w.alloc (.cells #[.bool false, .string ⟨#[]⟩, .bool false, .int .i64 0, .bool false] 89)).heap.size = w.heap.size + 1 := by simp
  have h2 := Bx.new (w.alloc (.cells #[.bool false, .string ⟨#[]⟩, .bool false, .int .i64 0, .bool false] 89)) 89 #[.bool false, .string ⟨#[]⟩, .bool false, .int .i64 0, .bool false]
  have b2 : Below (w.alloc (.cells #[.bool false, .string ⟨#[]⟩, .bool false, .int .i64 0, .bool false] 89)).heap.size (w.alloc (.cells #[.bool false, .string ⟨#[]⟩, .bool false, .int .i64 0, .bool false] 89)) ((w.alloc (.cells #[.bool false, .string ⟨#[]⟩, .bool false, .int .i64 0, .bool false] 89)).alloc (.cells #[.bool false, .string ⟨#[]⟩, .bool false, .int .i64 0, .bool false] 89)) := (Below.refl _ _).alloc (Nat.le_refl _) _
  have h1' := h1.later b2
  have b3 := b1.trans (b2.mono (by simp))
  rw [z1] at h2
  have HX1 := Lib.hid h1'
  have HX2 := Lib.hid h2
  have HB2 := Lib.hid b3
  have HCq := Lib.hid hC
  clear h1 b1 z1 h2 b2 h1' b3 hC
  cases o1
  · skip
    cases o2
    · have HQ : Hid (C = ⟨false, [], false, 0, false⟩) := by show _ = _; rw [HCq.out]; simp
      clear HCq
      go_enter Tryz.func65, Tryz.ntmps65
      go_wp2_with fail
      generalize (w.alloc (.cells #[.bool false, .string ⟨#[]⟩, .bool false, .int .i64 0, .bool false] 89)).alloc (.cells #[.bool false, .string ⟨#[]⟩, .bool false, .int .i64 0, .bool false] 89) = W0 at *
      refine (H1.out _ HB2.out).mono ?_
      rintro e w1 ⟨rfl, hb⟩
      have HR1 := Lib.hid (HX1.out.later hb)
      have HC1 := Lib.hid (HX2.out.later hb)
      have HB3 := Lib.hid (HB2.out.trans (hb.mono HB2.out.size))
      clear hb HX1 HX2 HB2
      go_wp2_with fail
      refine (HP1.out _).mono ?_
      rintro e w2 ⟨rfl, hb⟩
      have hbl : Below w2.heap.size w2 (w2.alloc (.cells #[.bool tk, .string (mkS tv)] 81)) := (Below.refl _ _).alloc (Nat.le_refl _) _
      have hR2 := (HR1.out.later hb).later hbl
      have hC2 := (HC1.out.later hb).later hbl
      have hT2 := Two.new w2 81 (.bool tk) (.string (mkS tv))
      have hb4 := HB3.out.trans (hb.mono HB3.out.size)
      have HB4 := Lib.hid (hb4.trans (hbl.mono hb4.size))
      clear hb hbl hb4 HR1 HC1 HB3
      have HC3 := Lib.hid hC2
      have HR3 := Lib.hid hR2
      have HB5 := HB4
      clear hR2 hC2 hT2 HB4
      go_upto_region 6 with (fail)
      generalize w2.alloc (.cells #[.bool tk, .string (mkS tv)] 81) = w3 at *
      go_wp2_with fail
      refine (H2.out _ HB5.out).mono ?_
      rintro e w4 ⟨rfl, hb⟩
      have HR4 := Lib.hid (HR3.out.later hb)
      have HC4 := Lib.hid (HC3.out.later hb)
      have HB6 := Lib.hid (HB5.out.trans (hb.mono HB5.out.size))
      clear hb HR3 HC3 HB5
      go_wp2_with fail
      refine (HP2.out _).mono ?_
      rintro e w5 ⟨rfl, hb⟩
      have hR5 := HR4.out.later hb
      have hC5 := HC4.out.later hb
      have HB7 := Lib.hid (HB6.out.trans (hb.mono HB6.out.size))
      clear hb HR4 HC4 HB6
      have hC6 := hC5
      have hR6 := hR5
      have HB8 := HB7
      clear hR5 hC5 HB7
      go_upto_region 10 with (fail)
      generalize w5 = w6 at *
      have d0 := hC6.cell 0 _ rfl
      have d1 := hC6.cell 1 _ rfl
      have d2 := hC6.cell 2 _ rfl
      have d3 := hC6.cell 3 _ rfl
      have d4 := hC6.cell 4 _ rfl
      have k0 := hR6.cell 0 _ rfl
      have l0 := hR6.frozen 0
      have k1 := hR6.cell 1 _ rfl
      have l1 := hR6.frozen 1
      have k2 := hR6.cell 2 _ rfl
      have l2 := hR6.frozen 2
      have k3 := hR6.cell 3 _ rfl
      have l3 := hR6.frozen 3
      have k4 := hR6.cell 4 _ rfl
      have l4 := hR6.frozen 4
      have hE : Bx (((((w6.setCell ⟨w.heap.size, 0, none⟩ (.bool false)).setCell ⟨w.heap.size, 1, none⟩ (.string ⟨#[]⟩)).setCell ⟨w.heap.size, 2, none⟩ (.bool false)).setCell ⟨w.heap.size, 3, none⟩ (.int .i64 0)).setCell ⟨w.heap.size, 4, none⟩ (.bool false)) w.heap.size 89 #[.bool false, .string ⟨#[]⟩, .bool false, .int .i64 0, .bool false] := (((((hR6.set 0 (.bool false)).set 1 (.string ⟨#[]⟩)).set 2 (.bool false)).set 3 (.int .i64 0)).set 4 (.bool false))
      have HE := Lib.hid hE
      have HEB := Lib.hid (((((HB8.out.setCell (p := ⟨w.heap.size, 0, none⟩) (Nat.le_refl _) (.bool false)).setCell (p := ⟨w.heap.size, 1, none⟩) (Nat.le_refl _) (.string ⟨#[]⟩)).setCell (p := ⟨w.heap.size, 2, none⟩) (Nat.le_refl _) (.bool false)).setCell (p := ⟨w.heap.size, 3, none⟩) (Nat.le_refl _) (.int .i64 0)).setCell (p := ⟨w.heap.size, 4, none⟩) (Nat.le_refl _) (.bool false))
      clear hC6 hR6 hE
      go_wp2_with fail
      refine bodyPost_ret (v := .agg #[.bool false, .string (mkS []), .bool false, .int .i64 0, .bool false]) ?_ rfl ⟨ckRet HQ.out, HEB.out⟩
      exact results_cell_row rfl _ _ w.heap.size 89 _ (0, 0) _ rfl HE.out Tryz.underlying89 rfl (by kernel_rfl)
    · cases x2 : (e2 == 0)
      · have HQ : Hid (C = ⟨false, [], false, 0, false⟩) := by show _ = _; rw [HCq.out, x2]; simp
        clear HCq
        go_enter Tryz.func65, Tryz.ntmps65
        go_wp2_with fail
        generalize (w.alloc (.cells #[.bool false, .string ⟨#[]⟩, .bool false, .int .i64 0, .bool false] 89)).alloc (.cells #[.bool false, .string ⟨#[]⟩, .bool false, .int .i64 0, .bool false] 89) = W0 at *
        refine (H1.out _ HB2.out).mono ?_
        rintro e w1 ⟨rfl, hb⟩
        have HR1 := Lib.hid (HX1.out.later hb)
        have HC1 := Lib.hid (HX2.out.later hb)
        have HB3 := Lib.hid (HB2.out.trans (hb.mono HB2.out.size))
        clear hb HX1 HX2 HB2
        go_wp2_with fail
        refine (HP1.out _).mono ?_
        rintro e w2 ⟨rfl, hb⟩
        have hbl : Below w2.heap.size w2 (w2.alloc (.cells #[.bool tk, .string (mkS tv)] 81)) := (Below.refl _ _).alloc (Nat.le_refl _) _
        have hR2 := (HR1.out.later hb).later hbl
        have hC2 := (HC1.out.later hb).later hbl
        have hT2 := Two.new w2 81 (.bool tk) (.string (mkS tv))
        have hb4 := HB3.out.trans (hb.mono HB3.out.size)
        have HB4 := Lib.hid (hb4.trans (hbl.mono hb4.size))
        clear hb hbl hb4 HR1 HC1 HB3
        have HC3 := Lib.hid hC2
        have HR3 := Lib.hid hR2
        have HB5 := HB4
        clear hR2 hC2 hT2 HB4
        go_upto_region 6 with (fail)
        generalize w2.alloc (.cells #[.bool tk, .string (mkS tv)] 81) = w3 at *
        go_wp2_with fail
        refine (H2.out _ HB5.out).mono ?_
        rintro e w4 ⟨rfl, hb⟩
        have HR4 := Lib.hid (HR3.out.later hb)
        have HC4 := Lib.hid (HC3.out.later hb)
        have HB6 := Lib.hid (HB5.out.trans (hb.mono HB5.out.size))
        clear hb HR3 HC3 HB5
        go_wp2_with fail
        refine (HP2.out _).mono ?_
        rintro e w5 ⟨rfl, hb⟩
        have hR5 := HR4.out.later hb
        have hC5 := HC4.out.later hb
        have HB7 := Lib.hid (HB6.out.trans (hb.mono HB6.out.size))
        clear hb HR4 HC4 HB6
        have hC6 := hC5
        have hR6 := hR5
        have HB8 := HB7
        clear hR5 hC5 HB7
        go_upto_region 10 with (fail)
        generalize w5 = w6 at *
        have d0 := hC6.cell 0 _ rfl
        have d1 := hC6.cell 1 _ rfl
        have d2 := hC6.cell 2 _ rfl
        have d3 := hC6.cell 3 _ rfl
        have d4 := hC6.cell 4 _ rfl
        have k0 := hR6.cell 0 _ rfl
        have l0 := hR6.frozen 0
        have k1 := hR6.cell 1 _ rfl
        have l1 := hR6.frozen 1
        have k2 := hR6.cell 2 _ rfl
        have l2 := hR6.frozen 2
        have k3 := hR6.cell 3 _ rfl
        have l3 := hR6.frozen 3
        have k4 := hR6.cell 4 _ rfl
        have l4 := hR6.frozen 4
        have hE : Bx (((((w6.setCell ⟨w.heap.size, 0, none⟩ (.bool false)).setCell ⟨w.heap.size, 1, none⟩ (.string ⟨#[]⟩)).setCell ⟨w.heap.size, 2, none⟩ (.bool false)).setCell ⟨w.heap.size, 3, none⟩ (.int .i64 0)).setCell ⟨w.heap.size, 4, none⟩ (.bool false)) w.heap.size 89 #[.bool false, .string ⟨#[]⟩, .bool false, .int .i64 0, .bool false] := (((((hR6.set 0 (.bool false)).set 1 (.string ⟨#[]⟩)).set 2 (.bool false)).set 3 (.int .i64 0)).set 4 (.bool false))
        have HE := Lib.hid hE
        have HEB := Lib.hid (((((HB8.out.setCell (p := ⟨w.heap.size, 0, none⟩) (Nat.le_refl _) (.bool false)).setCell (p := ⟨w.heap.size, 1, none⟩) (Nat.le_refl _) (.string ⟨#[]⟩)).setCell (p := ⟨w.heap.size, 2, none⟩) (Nat.le_refl _) (.bool false)).setCell (p := ⟨w.heap.size, 3, none⟩) (Nat.le_refl _) (.int .i64 0)).setCell (p := ⟨w.heap.size, 4, none⟩) (Nat.le_refl _) (.bool false))
        clear hC6 hR6 hE
        go_wp2_with fail
        refine bodyPost_ret (v := .agg #[.bool false, .string (mkS []), .bool false, .int .i64 0, .bool false]) ?_ rfl ⟨ckRet HQ.out, HEB.out⟩
        exact results_cell_row rfl _ _ w.heap.size 89 _ (0, 0) _ rfl HE.out Tryz.underlying89 rfl (by kernel_rfl)
      · have HQ : Hid (C = ⟨false, [], false, t, true⟩) := by show _ = _; rw [HCq.out, x2]; simp
        clear HCq
        go_enter Tryz.func65, Tryz.ntmps65
        go_wp2_with fail
        generalize (w.alloc (.cells #[.bool false, .string ⟨#[]⟩, .bool false, .int .i64 0, .bool false] 89)).alloc (.cells #[.bool false, .string ⟨#[]⟩, .bool false, .int .i64 0, .bool false] 89) = W0 at *
        refine (H1.out _ HB2.out).mono ?_
        rintro e w1 ⟨rfl, hb⟩
        have HR1 := Lib.hid (HX1.out.later hb)
        have HC1 := Lib.hid (HX2.out.later hb)
        have HB3 := Lib.hid (HB2.out.trans (hb.mono HB2.out.size))
        clear hb HX1 HX2 HB2
        go_wp2_with fail
        refine (HP1.out _).mono ?_
        rintro e w2 ⟨rfl, hb⟩
        have hbl : Below w2.heap.size w2 (w2.alloc (.cells #[.bool tk, .string (mkS tv)] 81)) := (Below.refl _ _).alloc (Nat.le_refl _) _
        have hR2 := (HR1.out.later hb).later hbl
        have hC2 := (HC1.out.later hb).later hbl
        have hT2 := Two.new w2 81 (.bool tk) (.string (mkS tv))
        have hb4 := HB3.out.trans (hb.mono HB3.out.size)
        have HB4 := Lib.hid (hb4.trans (hbl.mono hb4.size))
        clear hb hbl hb4 HR1 HC1 HB3
        have HC3 := Lib.hid hC2
        have HR3 := Lib.hid hR2
        have HB5 := HB4
        clear hR2 hC2 hT2 HB4
        go_upto_region 6 with (fail)
        generalize w2.alloc (.cells #[.bool tk, .string (mkS tv)] 81) = w3 at *
        go_wp2_with fail
        refine (H2.out _ HB5.out).mono ?_
        rintro e w4 ⟨rfl, hb⟩
        have HR4 := Lib.hid (HR3.out.later hb)
        have HC4 := Lib.hid (HC3.out.later hb)
        have HB6 := Lib.hid (HB5.out.trans (hb.mono HB5.out.size))
        clear hb HR3 HC3 HB5
        go_wp2_with fail
        refine (HP2.out _).mono ?_
        rintro e w5 ⟨rfl, hb⟩
        have hR5 := HR4.out.later hb
        have hC5 := HC4.out.later hb
        have HB7 := Lib.hid (HB6.out.trans (hb.mono HB6.out.size))
        clear hb HR4 HC4 HB6
        have c3 := hC5.cell 3 _ rfl
        have c4 := hC5.cell 4 _ rfl
        have f3 := hC5.frozen 3
        have f4 := hC5.frozen 4
        have hC6 := bxSet2 hC5 (.int .i64 t) (.bool true)
        have hR6 := bxOther (bxOther hR5 (Nat.ne_of_lt (Nat.lt_succ_self _)) 3 (.int .i64 t)) (Nat.ne_of_lt (Nat.lt_succ_self _)) 4 (.bool true)
        have HB8 := Lib.hid ((HB7.out.setCell (p := ⟨w.heap.size + 1, 3, none⟩) (Nat.le_succ _) (.int .i64 t)).setCell (p := ⟨w.heap.size + 1, 4, none⟩) (Nat.le_succ _) (.bool true))
        clear hR5 hC5
        go_upto_region 10 with (fail)
        clear c3 c4 f3 f4 HB7
        generalize (w5.setCell ⟨w.heap.size + 1, 3, none⟩ (.int .i64 t)).setCell ⟨w.heap.size + 1, 4, none⟩ (.bool true) = w6 at *
        have d0 := hC6.cell 0 _ rfl
        have d1 := hC6.cell 1 _ rfl
        have d2 := hC6.cell 2 _ rfl
        have d3 := hC6.cell 3 _ rfl
        have d4 := hC6.cell 4 _ rfl
        have k0 := hR6.cell 0 _ rfl
        have l0 := hR6.frozen 0
        have k1 := hR6.cell 1 _ rfl
        have l1 := hR6.frozen 1
        have k2 := hR6.cell 2 _ rfl
        have l2 := hR6.frozen 2
        have k3 := hR6.cell 3 _ rfl
        have l3 := hR6.frozen 3
        have k4 := hR6.cell 4 _ rfl
        have l4 := hR6.frozen 4
        have hE : Bx (((((w6.setCell ⟨w.heap.size, 0, none⟩ (.bool false)).setCell ⟨w.heap.size, 1, none⟩ (.string ⟨#[]⟩)).setCell ⟨w.heap.size, 2, none⟩ (.bool false)).setCell ⟨w.heap.size, 3, none⟩ (.int .i64 t)).setCell ⟨w.heap.size, 4, none⟩ (.bool true)) w.heap.size 89 #[.bool false, .string ⟨#[]⟩, .bool false, .int .i64 t, .bool true] := (((((hR6.set 0 (.bool false)).set 1 (.string ⟨#[]⟩)).set 2 (.bool false)).set 3 (.int .i64 t)).set 4 (.bool true))
        have HE := Lib.hid hE
        have HEB := Lib.hid (((((HB8.out.setCell (p := ⟨w.heap.size, 0, none⟩) (Nat.le_refl _) (.bool false)).setCell (p := ⟨w.heap.size, 1, none⟩) (Nat.le_refl _) (.string ⟨#[]⟩)).setCell (p := ⟨w.heap.size, 2, none⟩) (Nat.le_refl _) (.bool false)).setCell (p := ⟨w.heap.size, 3, none⟩) (Nat.le_refl _) (.int .i64 t)).setCell (p := ⟨w.heap.size, 4, none⟩) (Nat.le_refl _) (.bool true))
        clear hC6 hR6 hE
        go_wp2_with fail
        refine bodyPost_ret (v := .agg #[.bool false, .string (mkS []), .bool false, .int .i64 t, .bool true]) ?_ rfl ⟨ckRet HQ.out, HEB.out⟩
        exact results_cell_row rfl _ _ w.heap.size 89 _ (0, 0) _ rfl HE.out Tryz.underlying89 rfl (by kernel_rfl)
  · cases x1 : (e1 == 0)
    · skip
      cases o2
      · have HQ : Hid (C = ⟨false, [], false, 0, false⟩) := by show _ = _; rw [HCq.out, x1]; simp
        clear HCq
        go_enter Tryz.func65, Tryz.ntmps65
        go_wp2_with fail
        generalize (w.alloc (.cells #[.bool false, .string ⟨#[]⟩, .bool false, .int .i64 0, .bool false] 89)).alloc (.cells #[.bool false, .string ⟨#[]⟩, .bool false, .int .i64 0, .bool false] 89) = W0 at *
        refine (H1.out _ HB2.out).mono ?_
        rintro e w1 ⟨rfl, hb⟩
        have HR1 := Lib.hid (HX1.out.later hb)
        have HC1 := Lib.hid (HX2.out.later hb)
        have HB3 := Lib.hid (HB2.out.trans (hb.mono HB2.out.size))
        clear hb HX1 HX2 HB2
        go_wp2_with fail
        refine (HP1.out _).mono ?_
        rintro e w2 ⟨rfl, hb⟩
        have hbl : Below w2.heap.size w2 (w2.alloc (.cells #[.bool tk, .string (mkS tv)] 81)) := (Below.refl _ _).alloc (Nat.le_refl _) _
        have hR2 := (HR1.out.later hb).later hbl
        have hC2 := (HC1.out.later hb).later hbl
        have hT2 := Two.new w2 81 (.bool tk) (.string (mkS tv))
        have hb4 := HB3.out.trans (hb.mono HB3.out.size)
        have HB4 := Lib.hid (hb4.trans (hbl.mono hb4.size))
        clear hb hbl hb4 HR1 HC1 HB3
        have HC3 := Lib.hid hC2
        have HR3 := Lib.hid hR2
        have HB5 := HB4
        clear hR2 hC2 hT2 HB4
        go_upto_region 6 with (fail)
        generalize w2.alloc (.cells #[.bool tk, .string (mkS tv)] 81) = w3 at *
        go_wp2_with fail
        refine (H2.out _ HB5.out).mono ?_
        rintro e w4 ⟨rfl, hb⟩
        have HR4 := Lib.hid (HR3.out.later hb)
        have HC4 := Lib.hid (HC3.out.later hb)
        have HB6 := Lib.hid (HB5.out.trans (hb.mono HB5.out.size))
        clear hb HR3 HC3 HB5
        go_wp2_with fail
        refine (HP2.out _).mono ?_
        rintro e w5 ⟨rfl, hb⟩
        have hR5 := HR4.out.later hb
        have hC5 := HC4.out.later hb
        have HB7 := Lib.hid (HB6.out.trans (hb.mono HB6.out.size))
        clear hb HR4 HC4 HB6
        have hC6 := hC5
        have hR6 := hR5
        have HB8 := HB7
        clear hR5 hC5 HB7
        go_upto_region 10 with (fail)
        generalize w5 = w6 at *
        have d0 := hC6.cell 0 _ rfl
        have d1 := hC6.cell 1 _ rfl
        have d2 := hC6.cell 2 _ rfl
        have d3 := hC6.cell 3 _ rfl
        have d4 := hC6.cell 4 _ rfl
        have k0 := hR6.cell 0 _ rfl
        have l0 := hR6.frozen 0
        have k1 := hR6.cell 1 _ rfl
        have l1 := hR6.frozen 1
        have k2 := hR6.cell 2 _ rfl
        have l2 := hR6.frozen 2
        have k3 := hR6.cell 3 _ rfl
        have l3 := hR6.frozen 3
        have k4 := hR6.cell 4 _ rfl
        have l4 := hR6.frozen 4
        have hE : Bx (((((w6.setCell ⟨w.heap.size, 0, none⟩ (.bool false)).setCell ⟨w.heap.size, 1, none⟩ (.string ⟨#[]⟩)).setCell ⟨w.heap.size, 2, none⟩ (.bool false)).setCell ⟨w.heap.size, 3, none⟩ (.int .i64 0)).setCell ⟨w.heap.size, 4, none⟩ (.bool false)) w.heap.size 89 #[.bool false, .string ⟨#[]⟩, .bool false, .int .i64 0, .bool false] := (((((hR6.set 0 (.bool false)).set 1 (.string ⟨#[]⟩)).set 2 (.bool false)).set 3 (.int .i64 0)).set 4 (.bool false))
        have HE := Lib.hid hE
        have HEB := Lib.hid (((((HB8.out.setCell (p := ⟨w.heap.size, 0, none⟩) (Nat.le_refl _) (.bool false)).setCell (p := ⟨w.heap.size, 1, none⟩) (Nat.le_refl _) (.string ⟨#[]⟩)).setCell (p := ⟨w.heap.size, 2, none⟩) (Nat.le_refl _) (.bool false)).setCell (p := ⟨w.heap.size, 3, none⟩) (Nat.le_refl _) (.int .i64 0)).setCell (p := ⟨w.heap.size, 4, none⟩) (Nat.le_refl _) (.bool false))
        clear hC6 hR6 hE
        go_wp2_with fail
        refine bodyPost_ret (v := .agg #[.bool false, .string (mkS []), .bool false, .int .i64 0, .bool false]) ?_ rfl ⟨ckRet HQ.out, HEB.out⟩
        exact results_cell_row rfl _ _ w.heap.size 89 _ (0, 0) _ rfl HE.out Tryz.underlying89 rfl (by kernel_rfl)
      · cases x2 : (e2 == 0)
        · have HQ : Hid (C = ⟨false, [], false, 0, false⟩) := by show _ = _; rw [HCq.out, x1, x2]; simp
          clear HCq
          go_enter Tryz.func65, Tryz.ntmps65
          go_wp2_with fail
          generalize (w.alloc (.cells #[.bool false, .string ⟨#[]⟩, .bool false, .int .i64 0, .bool false] 89)).alloc (.cells #[.bool false, .string ⟨#[]⟩, .bool false, .int .i64 0, .bool false] 89) = W0 at *
          refine (H1.out _ HB2.out).mono ?_
          rintro e w1 ⟨rfl, hb⟩
          have HR1 := Lib.hid (HX1.out.later hb)
          have HC1 := Lib.hid (HX2.out.later hb)
          have HB3 := Lib.hid (HB2.out.trans (hb.mono HB2.out.size))
          clear hb HX1 HX2 HB2
          go_wp2_with fail
          refine (HP1.out _).mono ?_
          rintro e w2 ⟨rfl, hb⟩
          have hbl : Below w2.heap.size w2 (w2.alloc (.cells #[.bool tk, .string (mkS tv)] 81)) := (Below.refl _ _).alloc (Nat.le_refl _) _
          have hR2 := (HR1.out.later hb).later hbl
          have hC2 := (HC1.out.later hb).later hbl
          have hT2 := Two.new w2 81 (.bool tk) (.string (mkS tv))
          have hb4 := HB3.out.trans (hb.mono HB3.out.size)
          have HB4 := Lib.hid (hb4.trans (hbl.mono hb4.size))
          clear hb hbl hb4 HR1 HC1 HB3
          have HC3 := Lib.hid hC2
          have HR3 := Lib.hid hR2
          have HB5 := HB4
          clear hR2 hC2 hT2 HB4
          go_upto_region 6 with (fail)
          generalize w2.alloc (.cells #[.bool tk, .string (mkS tv)] 81) = w3 at *
          go_wp2_with fail
          refine (H2.out _ HB5.out).mono ?_
          rintro e w4 ⟨rfl, hb⟩
          have HR4 := Lib.hid (HR3.out.later hb)
          have HC4 := Lib.hid (HC3.out.later hb)
          have HB6 := Lib.hid (HB5.out.trans (hb.mono HB5.out.size))
          clear hb HR3 HC3 HB5
          go_wp2_with fail
          refine (HP2.out _).mono ?_
          rintro e w5 ⟨rfl, hb⟩
          have hR5 := HR4.out.later hb
          have hC5 := HC4.out.later hb
          have HB7 := Lib.hid (HB6.out.trans (hb.mono HB6.out.size))
          clear hb HR4 HC4 HB6
          have hC6 := hC5
          have hR6 := hR5
          have HB8 := HB7
          clear hR5 hC5 HB7
          go_upto_region 10 with (fail)
          generalize w5 = w6 at *
          have d0 := hC6.cell 0 _ rfl
          have d1 := hC6.cell 1 _ rfl
          have d2 := hC6.cell 2 _ rfl
          have d3 := hC6.cell 3 _ rfl
          have d4 := hC6.cell 4 _ rfl
          have k0 := hR6.cell 0 _ rfl
          have l0 := hR6.frozen 0
          have k1 := hR6.cell 1 _ rfl
          have l1 := hR6.frozen 1
          have k2 := hR6.cell 2 _ rfl
          have l2 := hR6.frozen 2
          have k3 := hR6.cell 3 _ rfl
          have l3 := hR6.frozen 3
          have k4 := hR6.cell 4 _ rfl
          have l4 := hR6.frozen 4
          have hE : Bx (((((w6.setCell ⟨w.heap.size, 0, none⟩ (.bool false)).setCell ⟨w.heap.size, 1, none⟩ (.string ⟨#[]⟩)).setCell ⟨w.heap.size, 2, none⟩ (.bool false)).setCell ⟨w.heap.size, 3, none⟩ (.int .i64 0)).setCell ⟨w.heap.size, 4, none⟩ (.bool false)) w.heap.size 89 #[.bool false, .string ⟨#[]⟩, .bool false, .int .i64 0, .bool false] := (((((hR6.set 0 (.bool false)).set 1 (.string ⟨#[]⟩)).set 2 (.bool false)).set 3 (.int .i64 0)).set 4 (.bool false))
          have HE := Lib.hid hE
          have HEB := Lib.hid (((((HB8.out.setCell (p := ⟨w.heap.size, 0, none⟩) (Nat.le_refl _) (.bool false)).setCell (p := ⟨w.heap.size, 1, none⟩) (Nat.le_refl _) (.string ⟨#[]⟩)).setCell (p := ⟨w.heap.size, 2, none⟩) (Nat.le_refl _) (.bool false)).setCell (p := ⟨w.heap.size, 3, none⟩) (Nat.le_refl _) (.int .i64 0)).setCell (p := ⟨w.heap.size, 4, none⟩) (Nat.le_refl _) (.bool false))
          clear hC6 hR6 hE
          go_wp2_with fail
          refine bodyPost_ret (v := .agg #[.bool false, .string (mkS []), .bool false, .int .i64 0, .bool false]) ?_ rfl ⟨ckRet HQ.out, HEB.out⟩
          exact results_cell_row rfl _ _ w.heap.size 89 _ (0, 0) _ rfl HE.out Tryz.underlying89 rfl (by kernel_rfl)
        · have HQ : Hid (C = ⟨false, [], false, t, true⟩) := by show _ = _; rw [HCq.out, x1, x2]; simp
          clear HCq
          go_enter Tryz.func65, Tryz.ntmps65
          go_wp2_with fail
          generalize (w.alloc (.cells #[.bool false, .string ⟨#[]⟩, .bool false, .int .i64 0, .bool false] 89)).alloc (.cells #[.bool false, .string ⟨#[]⟩, .bool false, .int .i64 0, .bool false] 89) = W0 at *
          refine (H1.out _ HB2.out).mono ?_
          rintro e w1 ⟨rfl, hb⟩
          have HR1 := Lib.hid (HX1.out.later hb)
          have HC1 := Lib.hid (HX2.out.later hb)
          have HB3 := Lib.hid (HB2.out.trans (hb.mono HB2.out.size))
          clear hb HX1 HX2 HB2
          go_wp2_with fail
          refine (HP1.out _).mono ?_
          rintro e w2 ⟨rfl, hb⟩
          have hbl : Below w2.heap.size w2 (w2.alloc (.cells #[.bool tk, .string (mkS tv)] 81)) := (Below.refl _ _).alloc (Nat.le_refl _) _
          have hR2 := (HR1.out.later hb).later hbl
          have hC2 := (HC1.out.later hb).later hbl
          have hT2 := Two.new w2 81 (.bool tk) (.string (mkS tv))
          have hb4 := HB3.out.trans (hb.mono HB3.out.size)
          have HB4 := Lib.hid (hb4.trans (hbl.mono hb4.size))
          clear hb hbl hb4 HR1 HC1 HB3
          have HC3 := Lib.hid hC2
          have HR3 := Lib.hid hR2
          have HB5 := HB4
          clear hR2 hC2 hT2 HB4
          go_upto_region 6 with (fail)
          generalize w2.alloc (.cells #[.bool tk, .string (mkS tv)] 81) = w3 at *
          go_wp2_with fail
          refine (H2.out _ HB5.out).mono ?_
          rintro e w4 ⟨rfl, hb⟩
          have HR4 := Lib.hid (HR3.out.later hb)
          have HC4 := Lib.hid (HC3.out.later hb)
          have HB6 := Lib.hid (HB5.out.trans (hb.mono HB5.out.size))
          clear hb HR3 HC3 HB5
          go_wp2_with fail
          refine (HP2.out _).mono ?_
          rintro e w5 ⟨rfl, hb⟩
          have hR5 := HR4.out.later hb
          have hC5 := HC4.out.later hb
          have HB7 := Lib.hid (HB6.out.trans (hb.mono HB6.out.size))
          clear hb HR4 HC4 HB6
          have c3 := hC5.cell 3 _ rfl
          have c4 := hC5.cell 4 _ rfl
          have f3 := hC5.frozen 3
          have f4 := hC5.frozen 4
          have hC6 := bxSet2 hC5 (.int .i64 t) (.bool true)
          have hR6 := bxOther (bxOther hR5 (Nat.ne_of_lt (Nat.lt_succ_self _)) 3 (.int .i64 t)) (Nat.ne_of_lt (Nat.lt_succ_self _)) 4 (.bool true)
          have HB8 := Lib.hid ((HB7.out.setCell (p := ⟨w.heap.size + 1, 3, none⟩) (Nat.le_succ _) (.int .i64 t)).setCell (p := ⟨w.heap.size + 1, 4, none⟩) (Nat.le_succ _) (.bool true))
          clear hR5 hC5
          go_upto_region 10 with (fail)
          clear c3 c4 f3 f4 HB7
          generalize (w5.setCell ⟨w.heap.size + 1, 3, none⟩ (.int .i64 t)).setCell ⟨w.heap.size + 1, 4, none⟩ (.bool true) = w6 at *
          have d0 := hC6.cell 0 _ rfl
          have d1 := hC6.cell 1 _ rfl
          have d2 := hC6.cell 2 _ rfl
          have d3 := hC6.cell 3 _ rfl
          have d4 := hC6.cell 4 _ rfl
          have k0 := hR6.cell 0 _ rfl
          have l0 := hR6.frozen 0
          have k1 := hR6.cell 1 _ rfl
          have l1 := hR6.frozen 1
          have k2 := hR6.cell 2 _ rfl
          have l2 := hR6.frozen 2
          have k3 := hR6.cell 3 _ rfl
          have l3 := hR6.frozen 3
          have k4 := hR6.cell 4 _ rfl
          have l4 := hR6.frozen 4
          have hE : Bx (((((w6.setCell ⟨w.heap.size, 0, none⟩ (.bool false)).setCell ⟨w.heap.size, 1, none⟩ (.string ⟨#[]⟩)).setCell ⟨w.heap.size, 2, none⟩ (.bool false)).setCell ⟨w.heap.size, 3, none⟩ (.int .i64 t)).setCell ⟨w.heap.size, 4, none⟩ (.bool true)) w.heap.size 89 #[.bool false, .string ⟨#[]⟩, .bool false, .int .i64 t, .bool true] := (((((hR6.set 0 (.bool false)).set 1 (.string ⟨#[]⟩)).set 2 (.bool false)).set 3 (.int .i64 t)).set 4 (.bool true))
          have HE := Lib.hid hE
          have HEB := Lib.hid (((((HB8.out.setCell (p := ⟨w.heap.size, 0, none⟩) (Nat.le_refl _) (.bool false)).setCell (p := ⟨w.heap.size, 1, none⟩) (Nat.le_refl _) (.string ⟨#[]⟩)).setCell (p := ⟨w.heap.size, 2, none⟩) (Nat.le_refl _) (.bool false)).setCell (p := ⟨w.heap.size, 3, none⟩) (Nat.le_refl _) (.int .i64 t)).setCell (p := ⟨w.heap.size, 4, none⟩) (Nat.le_refl _) (.bool true))
          clear hC6 hR6 hE
          go_wp2_with fail
          refine bodyPost_ret (v := .agg #[.bool false, .string (mkS []), .bool false, .int .i64 t, .bool true]) ?_ rfl ⟨ckRet HQ.out, HEB.out⟩
          exact results_cell_row rfl _ _ w.heap.size 89 _ (0, 0) _ rfl HE.out Tryz.underlying89 rfl (by kernel_rfl)
    · skip
      cases o2
      · have HQ : Hid (C = ⟨tk, tv, true, 0, false⟩) := by show _ = _; rw [HCq.out, x1]; simp
        clear HCq
        go_enter Tryz.func65, Tryz.ntmps65
        go_wp2_with fail
        generalize (w.alloc (.cells #[.bool false, .string ⟨#[]⟩, .bool false, .int .i64 0, .bool false] 89)).alloc (.cells #[.bool false, .string ⟨#[]⟩, .bool false, .int .i64 0, .bool false] 89) = W0 at *
        refine (H1.out _ HB2.out).mono ?_
        rintro e w1 ⟨rfl, hb⟩
        have HR1 := Lib.hid (HX1.out.later hb)
        have HC1 := Lib.hid (HX2.out.later hb)
        have HB3 := Lib.hid (HB2.out.trans (hb.mono HB2.out.size))
        clear hb HX1 HX2 HB2
        go_wp2_with fail
        refine (HP1.out _).mono ?_
        rintro e w2 ⟨rfl, hb⟩
        have hbl : Below w2.heap.size w2 (w2.alloc (.cells #[.bool tk, .string (mkS tv)] 81)) := (Below.refl _ _).alloc (Nat.le_refl _) _
        have hR2 := (HR1.out.later hb).later hbl
        have hC2 := (HC1.out.later hb).later hbl
        have hT2 := Two.new w2 81 (.bool tk) (.string (mkS tv))
        have hb4 := HB3.out.trans (hb.mono HB3.out.size)
        have HB4 := Lib.hid (hb4.trans (hbl.mono hb4.size))
        clear hb hbl hb4 HR1 HC1 HB3
        have t0 := hT2.c0
        have t1 := hT2.c1
        have c0 := hC2.cell 0 _ rfl
        have c1 := hC2.cell 1 _ rfl
        have c2 := hC2.cell 2 _ rfl
        have f0 := hC2.frozen 0
        have f1 := hC2.frozen 1
        have f2 := hC2.frozen 2
        have HC3 := Lib.hid (bxSet3 hC2 (.bool tk) (.string (mkS tv)) (.bool true))
        have HR3 := Lib.hid (bxOther (bxOther (bxOther hR2 (Nat.ne_of_lt (Nat.lt_succ_self _)) 0 (.bool tk)) (Nat.ne_of_lt (Nat.lt_succ_self _)) 1 (.string (mkS tv))) (Nat.ne_of_lt (Nat.lt_succ_self _)) 2 (.bool true))
        have HB5 := Lib.hid (((HB4.out.setCell (p := ⟨w.heap.size + 1, 0, none⟩) (Nat.le_succ _) (.bool tk)).setCell (p := ⟨w.heap.size + 1, 1, none⟩) (Nat.le_succ _) (.string (mkS tv))).setCell (p := ⟨w.heap.size + 1, 2, none⟩) (Nat.le_succ _) (.bool true))
        clear hR2 hC2 hT2
        go_upto_region 6 with (fail)
        clear t0 t1 c0 c1 c2 f0 f1 f2 HB4
        generalize (((w2.alloc (.cells #[.bool tk, .string (mkS tv)] 81)).setCell ⟨w.heap.size + 1, 0, none⟩ (.bool tk)).setCell ⟨w.heap.size + 1, 1, none⟩ (.string (mkS tv))).setCell ⟨w.heap.size + 1, 2, none⟩ (.bool true) = w3 at *
        go_wp2_with fail
        refine (H2.out _ HB5.out).mono ?_
        rintro e w4 ⟨rfl, hb⟩
        have HR4 := Lib.hid (HR3.out.later hb)
        have HC4 := Lib.hid (HC3.out.later hb)
        have HB6 := Lib.hid (HB5.out.trans (hb.mono HB5.out.size))
        clear hb HR3 HC3 HB5
        go_wp2_with fail
        refine (HP2.out _).mono ?_
        rintro e w5 ⟨rfl, hb⟩
        have hR5 := HR4.out.later hb
        have hC5 := HC4.out.later hb
        have HB7 := Lib.hid (HB6.out.trans (hb.mono HB6.out.size))
        clear hb HR4 HC4 HB6
        have hC6 := hC5
        have hR6 := hR5
        have HB8 := HB7
        clear hR5 hC5 HB7
        go_upto_region 10 with (fail)
        generalize w5 = w6 at *
        have d0 := hC6.cell 0 _ rfl
        have d1 := hC6.cell 1 _ rfl
        have d2 := hC6.cell 2 _ rfl
        have d3 := hC6.cell 3 _ rfl
        have d4 := hC6.cell 4 _ rfl
        have k0 := hR6.cell 0 _ rfl
        have l0 := hR6.frozen 0
        have k1 := hR6.cell 1 _ rfl
        have l1 := hR6.frozen 1
        have k2 := hR6.cell 2 _ rfl
        have l2 := hR6.frozen 2
        have k3 := hR6.cell 3 _ rfl
        have l3 := hR6.frozen 3
        have k4 := hR6.cell 4 _ rfl
        have l4 := hR6.frozen 4
        have hE : Bx (((((w6.setCell ⟨w.heap.size, 0, none⟩ (.bool tk)).setCell ⟨w.heap.size, 1, none⟩ (.string (mkS tv))).setCell ⟨w.heap.size, 2, none⟩ (.bool true)).setCell ⟨w.heap.size, 3, none⟩ (.int .i64 0)).setCell ⟨w.heap.size, 4, none⟩ (.bool false)) w.heap.size 89 #[.bool tk, .string (mkS tv), .bool true, .int .i64 0, .bool false] := (((((hR6.set 0 (.bool tk)).set 1 (.string (mkS tv))).set 2 (.bool true)).set 3 (.int .i64 0)).set 4 (.bool false))
        have HE := Lib.hid hE
        have HEB := Lib.hid (((((HB8.out.setCell (p := ⟨w.heap.size, 0, none⟩) (Nat.le_refl _) (.bool tk)).setCell (p := ⟨w.heap.size, 1, none⟩) (Nat.le_refl _) (.string (mkS tv))).setCell (p := ⟨w.heap.size, 2, none⟩) (Nat.le_refl _) (.bool true)).setCell (p := ⟨w.heap.size, 3, none⟩) (Nat.le_refl _) (.int .i64 0)).setCell (p := ⟨w.heap.size, 4, none⟩) (Nat.le_refl _) (.bool false))
        clear hC6 hR6 hE
        go_wp2_with fail
        refine bodyPost_ret (v := .agg #[.bool tk, .string (mkS tv), .bool true, .int .i64 0, .bool false]) ?_ rfl ⟨ckRet HQ.out, HEB.out⟩
        exact results_cell_row rfl _ _ w.heap.size 89 _ (0, 0) _ rfl HE.out Tryz.underlying89 rfl (by kernel_rfl)
      · cases x2 : (e2 == 0)
        · have HQ : Hid (C = ⟨tk, tv, true, 0, false⟩) := by show _ = _; rw [HCq.out, x1, x2]; simp
          clear HCq
          go_enter Tryz.func65, Tryz.ntmps65
          go_wp2_with fail
          generalize (w.alloc (.cells #[.bool false, .string ⟨#[]⟩, .bool false, .int .i64 0, .bool false] 89)).alloc (.cells #[.bool false, .string ⟨#[]⟩, .bool false, .int .i64 0, .bool false] 89) = W0 at *
          refine (H1.out _ HB2.out).mono ?_
          rintro e w1 ⟨rfl, hb⟩
          have HR1 := Lib.hid (HX1.out.later hb)
          have HC1 := Lib.hid (HX2.out.later hb)
          have HB3 := Lib.hid (HB2.out.trans (hb.mono HB2.out.size))
          clear hb HX1 HX2 HB2
          go_wp2_with fail
          refine (HP1.out _).mono ?_
          rintro e w2 ⟨rfl, hb⟩
          have hbl : Below w2.heap.size w2 (w2.alloc (.cells #[.bool tk, .string (mkS tv)] 81)) := (Below.refl _ _).alloc (Nat.le_refl _) _
          have hR2 := (HR1.out.later hb).later hbl
          have hC2 := (HC1.out.later hb).later hbl
          have hT2 := Two.new w2 81 (.bool tk) (.string (mkS tv))
          have hb4 := HB3.out.trans (hb.mono HB3.out.size)
          have HB4 := Lib.hid (hb4.trans (hbl.mono hb4.size))
          clear hb hbl hb4 HR1 HC1 HB3
          have t0 := hT2.c0
          have t1 := hT2.c1
          have c0 := hC2.cell 0 _ rfl
          have c1 := hC2.cell 1 _ rfl
          have c2 := hC2.cell 2 _ rfl
          have f0 := hC2.frozen 0
          have f1 := hC2.frozen 1
          have f2 := hC2.frozen 2
          have HC3 := Lib.hid (bxSet3 hC2 (.bool tk) (.string (mkS tv)) (.bool true))
          have HR3 := Lib.hid (bxOther (bxOther (bxOther hR2 (Nat.ne_of_lt (Nat.lt_succ_self _)) 0 (.bool tk)) (Nat.ne_of_lt (Nat.lt_succ_self _)) 1 (.string (mkS tv))) (Nat.ne_of_lt (Nat.lt_succ_self _)) 2 (.bool true))
          have HB5 := Lib.hid (((HB4.out.setCell (p := ⟨w.heap.size + 1, 0, none⟩) (Nat.le_succ _) (.bool tk)).setCell (p := ⟨w.heap.size + 1, 1, none⟩) (Nat.le_succ _) (.string (mkS tv))).setCell (p := ⟨w.heap.size + 1, 2, none⟩) (Nat.le_succ _) (.bool true))
          clear hR2 hC2 hT2
          go_upto_region 6 with (fail)
          clear t0 t1 c0 c1 c2 f0 f1 f2 HB4
          generalize (((w2.alloc (.cells #[.bool tk, .string (mkS tv)] 81)).setCell ⟨w.heap.size + 1, 0, none⟩ (.bool tk)).setCell ⟨w.heap.size + 1, 1, none⟩ (.string (mkS tv))).setCell ⟨w.heap.size + 1, 2, none⟩ (.bool true) = w3 at *
          go_wp2_with fail
          refine (H2.out _ HB5.out).mono ?_
          rintro e w4 ⟨rfl, hb⟩
          have HR4 := Lib.hid (HR3.out.later hb)
          have HC4 := Lib.hid (HC3.out.later hb)
          have HB6 := Lib.hid (HB5.out.trans (hb.mono HB5.out.size))
          clear hb HR3 HC3 HB5
          go_wp2_with fail
          refine (HP2.out _).mono ?_
          rintro e w5 ⟨rfl, hb⟩
          have hR5 := HR4.out.later hb
          have hC5 := HC4.out.later hb
          have HB7 := Lib.hid (HB6.out.trans (hb.mono HB6.out.size))
          clear hb HR4 HC4 HB6
          have hC6 := hC5
          have hR6 := hR5
          have HB8 := HB7
          clear hR5 hC5 HB7
          go_upto_region 10 with (fail)
          generalize w5 = w6 at *
          have d0 := hC6.cell 0 _ rfl
          have d1 := hC6.cell 1 _ rfl
          have d2 := hC6.cell 2 _ rfl
          have d3 := hC6.cell 3 _ rfl
          have d4 := hC6.cell 4 _ rfl
          have k0 := hR6.cell 0 _ rfl
          have l0 := hR6.frozen 0
          have k1 := hR6.cell 1 _ rfl
          have l1 := hR6.frozen 1
          have k2 := hR6.cell 2 _ rfl
          have l2 := hR6.frozen 2
          have k3 := hR6.cell 3 _ rfl
          have l3 := hR6.frozen 3
          have k4 := hR6.cell 4 _ rfl
          have l4 := hR6.frozen 4
          have hE : Bx (((((w6.setCell ⟨w.heap.size, 0, none⟩ (.bool tk)).setCell ⟨w.heap.size, 1, none⟩ (.string (mkS tv))).setCell ⟨w.heap.size, 2, none⟩ (.bool true)).setCell ⟨w.heap.size, 3, none⟩ (.int .i64 0)).setCell ⟨w.heap.size, 4, none⟩ (.bool false)) w.heap.size 89 #[.bool tk, .string (mkS tv), .bool true, .int .i64 0, .bool false] := (((((hR6.set 0 (.bool tk)).set 1 (.string (mkS tv))).set 2 (.bool true)).set 3 (.int .i64 0)).set 4 (.bool false))
          have HE := Lib.hid hE
          have HEB := Lib.hid (((((HB8.out.setCell (p := ⟨w.heap.size, 0, none⟩) (Nat.le_refl _) (.bool tk)).setCell (p := ⟨w.heap.size, 1, none⟩) (Nat.le_refl _) (.string (mkS tv))).setCell (p := ⟨w.heap.size, 2, none⟩) (Nat.le_refl _) (.bool true)).setCell (p := ⟨w.heap.size, 3, none⟩) (Nat.le_refl _) (.int .i64 0)).setCell (p := ⟨w.heap.size, 4, none⟩) (Nat.le_refl _) (.bool false))
          clear hC6 hR6 hE
          go_wp2_with fail
          refine bodyPost_ret (v := .agg #[.bool tk, .string (mkS tv), .bool true, .int .i64 0, .bool false]) ?_ rfl ⟨ckRet HQ.out, HEB.out⟩
          exact results_cell_row rfl _ _ w.heap.size 89 _ (0, 0) _ rfl HE.out Tryz.underlying89 rfl (by kernel_rfl)
        · have HQ : Hid (C = ⟨tk, tv, true, t, true⟩) := by show _ = _; rw [HCq.out, x1, x2]; simp
          clear HCq
          go_enter Tryz.func65, Tryz.ntmps65
          go_wp2_with fail
          generalize (w.alloc (.cells #[.bool false, .string ⟨#[]⟩, .bool false, .int .i64 0, .bool false] 89)).alloc (.cells #[.bool false, .string ⟨#[]⟩, .bool false, .int .i64 0, .bool false] 89) = W0 at *
          refine (H1.out _ HB2.out).mono ?_
          rintro e w1 ⟨rfl, hb⟩
          have HR1 := Lib.hid (HX1.out.later hb)
          have HC1 := Lib.hid (HX2.out.later hb)
          have HB3 := Lib.hid (HB2.out.trans (hb.mono HB2.out.size))
          clear hb HX1 HX2 HB2
          go_wp2_with fail
          refine (HP1.out _).mono ?_
          rintro e w2 ⟨rfl, hb⟩
          have hbl : Below w2.heap.size w2 (w2.alloc (.cells #[.bool tk, .string (mkS tv)] 81)) := (Below.refl _ _).alloc (Nat.le_refl _) _
          have hR2 := (HR1.out.later hb).later hbl
          have hC2 := (HC1.out.later hb).later hbl
          have hT2 := Two.new w2 81 (.bool tk) (.string (mkS tv))
          have hb4 := HB3.out.trans (hb.mono HB3.out.size)
          have HB4 := Lib.hid (hb4.trans (hbl.mono hb4.size))
          clear hb hbl hb4 HR1 HC1 HB3
          have t0 := hT2.c0
          have t1 := hT2.c1
          have c0 := hC2.cell 0 _ rfl
          have c1 := hC2.cell 1 _ rfl
          have c2 := hC2.cell 2 _ rfl
          have f0 := hC2.frozen 0
          have f1 := hC2.frozen 1
          have f2 := hC2.frozen 2
          have HC3 := Lib.hid (bxSet3 hC2 (.bool tk) (.string (mkS tv)) (.bool true))
          have HR3 := Lib.hid (bxOther (bxOther (bxOther hR2 (Nat.ne_of_lt (Nat.lt_succ_self _)) 0 (.bool tk)) (Nat.ne_of_lt (Nat.lt_succ_self _)) 1 (.string (mkS tv))) (Nat.ne_of_lt (Nat.lt_succ_self _)) 2 (.bool true))
          have HB5 := Lib.hid (((HB4.out.setCell (p := ⟨w.heap.size + 1, 0, none⟩) (Nat.le_succ _) (.bool tk)).setCell (p := ⟨w.heap.size + 1, 1, none⟩) (Nat.le_succ _) (.string (mkS tv))).setCell (p := ⟨w.heap.size + 1, 2, none⟩) (Nat.le_succ _) (.bool true))
          clear hR2 hC2 hT2
          go_upto_region 6 with (fail)
          clear t0 t1 c0 c1 c2 f0 f1 f2 HB4
          generalize (((w2.alloc (.cells #[.bool tk, .string (mkS tv)] 81)).setCell ⟨w.heap.size + 1, 0, none⟩ (.bool tk)).setCell ⟨w.heap.size + 1, 1, none⟩ (.string (mkS tv))).setCell ⟨w.heap.size + 1, 2, none⟩ (.bool true) = w3 at *
          go_wp2_with fail
          refine (H2.out _ HB5.out).mono ?_
          rintro e w4 ⟨rfl, hb⟩
          have HR4 := Lib.hid (HR3.out.later hb)
          have HC4 := Lib.hid (HC3.out.later hb)
          have HB6 := Lib.hid (HB5.out.trans (hb.mono HB5.out.size))
          clear hb HR3 HC3 HB5
          go_wp2_with fail
          refine (HP2.out _).mono ?_
          rintro e w5 ⟨rfl, hb⟩
          have hR5 := HR4.out.later hb
          have hC5 := HC4.out.later hb
          have HB7 := Lib.hid (HB6.out.trans (hb.mono HB6.out.size))
          clear hb HR4 HC4 HB6
          have c3 := hC5.cell 3 _ rfl
          have c4 := hC5.cell 4 _ rfl
          have f3 := hC5.frozen 3
          have f4 := hC5.frozen 4
          have hC6 := bxSet2 hC5 (.int .i64 t) (.bool true)
          have hR6 := bxOther (bxOther hR5 (Nat.ne_of_lt (Nat.lt_succ_self _)) 3 (.int .i64 t)) (Nat.ne_of_lt (Nat.lt_succ_self _)) 4 (.bool true)
          have HB8 := Lib.hid ((HB7.out.setCell (p := ⟨w.heap.size + 1, 3, none⟩) (Nat.le_succ _) (.int .i64 t)).setCell (p := ⟨w.heap.size + 1, 4, none⟩) (Nat.le_succ _) (.bool true))
          clear hR5 hC5
          go_upto_region 10 with (fail)
          clear c3 c4 f3 f4 HB7
          generalize (w5.setCell ⟨w.heap.size + 1, 3, none⟩ (.int .i64 t)).setCell ⟨w.heap.size + 1, 4, none⟩ (.bool true) = w6 at *
          have d0 := hC6.cell 0 _ rfl
          have d1 := hC6.cell 1 _ rfl
          have d2 := hC6.cell 2 _ rfl
          have d3 := hC6.cell 3 _ rfl
          have d4 := hC6.cell 4 _ rfl
          have k0 := hR6.cell 0 _ rfl
          have l0 := hR6.frozen 0
          have k1 := hR6.cell 1 _ rfl
          have l1 := hR6.frozen 1
          have k2 := hR6.cell 2 _ rfl
          have l2 := hR6.frozen 2
          have k3 := hR6.cell 3 _ rfl
          have l3 := hR6.frozen 3
          have k4 := hR6.cell 4 _ rfl
          have l4 := hR6.frozen 4
          have hE : Bx (((((w6.setCell ⟨w.heap.size, 0, none⟩ (.bool tk)).setCell ⟨w.heap.size, 1, none⟩ (.string (mkS tv))).setCell ⟨w.heap.size, 2, none⟩ (.bool true)).setCell ⟨w.heap.size, 3, none⟩ (.int .i64 t)).setCell ⟨w.heap.size, 4, none⟩ (.bool true)) w.heap.size 89 #[.bool tk, .string (mkS tv), .bool true, .int .i64 t, .bool true] := (((((hR6.set 0 (.bool tk)).set 1 (.string (mkS tv))).set 2 (.bool true)).set 3 (.int .i64 t)).set 4 (.bool true))
          have HE := Lib.hid hE
          have HEB := Lib.hid (((((HB8.out.setCell (p := ⟨w.heap.size, 0, none⟩) (Nat.le_refl _) (.bool tk)).setCell (p := ⟨w.heap.size, 1, none⟩) (Nat.le_refl _) (.string (mkS tv))).setCell (p := ⟨w.heap.size, 2, none⟩) (Nat.le_refl _) (.bool true)).setCell (p := ⟨w.heap.size, 3, none⟩) (Nat.le_refl _) (.int .i64 t)).setCell (p := ⟨w.heap.size, 4, none⟩) (Nat.le_refl _) (.bool true))
          clear hC6 hR6 hE
          go_wp2_with fail
          refine bodyPost_ret (v := .agg #[.bool tk, .string (mkS tv), .bool true, .int .i64 t, .bool true]) ?_ rfl ⟨ckRet HQ.out, HEB.out⟩
          exact results_cell_row rfl _ _ w.heap.size 89 _ (0, 0) _ rfl HE.out Tryz.underlying89 rfl (by kernel_rfl)

theorem one_split (P : List Bs) (now : Int) : oneG P = (if oneB P = true then tgG (oneS P) else (false, [])) ∧ oneO P = (oneB P && tgO (oneS P)) ∧ oneV P now = (if oneB P = true then pP (oneS P) (yNow now) else none) := by
  match P with
  | [] => exact ⟨rfl, rfl, rfl⟩
  | [x] => exact ⟨rfl, (Bool.true_and _).symm, rfl⟩
  | _ :: _ :: _ => exact ⟨rfl, rfl, rfl⟩
theorem oneS_len (name : Bs) (l : List (Bs × Bs)) : (oneS (allF l name)).length ≤ sumF l := by
  cases h : allF l name with
  | nil => simp [oneS]
  | cons x r =>
    cases r with
    | nil => exact all_piece name l x (by rw [h]; simp)
    | cons y r => simp [oneS]

theorem rof_any (v : Value) (l : List (Bs × Bs)) (now : Int) (w : World) (hs : IsFlds w v l) (hz : sumF l ≤ 900) (hl : l.length ≤ 1048576) :
    Calls Tryz.prog 65 #[v, .int .i64 now] w fun e w' => e = .returned (ckV (ofC l now)) ∧ Below w.heap.size w w' := by
  have l1 := oneS_len nET l
  have l2 := oneS_len nLM l
  have hC1 := fun W : World => rtparse_any (mkS (oneS (allF l nET))) W (by rw [size_mkS]; omega)
  have hC2 := fun W : World => rparse9_any (mkS (oneS (allF l nLM))) now W (by rw [size_mkS]; omega)
  simp only [bs_mkS] at hC1 hC2
  refine of_walk v now w (mkS (oneS (allF l nET))) (mkS (oneS (allF l nLM))) (oneB (allF l nET)) (oneB (allF l nLM)) (tgG (oneS (allF l nET))).1 (tgG (oneS (allF l nET))).2 (tgE (oneS (allF l nET))) (optV (pP (oneS (allF l nLM)) (yNow now))) (optE (pP (oneS (allF l nLM)) (yNow now))) (ofC l now)
    (fun W hb => rone_any v l nET W (isFlds_below hs hb) (sum_each l (by omega)) (by decide) hl) (fun W hb => rone_any v l nLM W (isFlds_below hs hb) (sum_each l (by omega)) (by decide) hl) hC1 hC2 (by obtain ⟨a, c, h, -⟩ := hs; exact ⟨a, _, c, h⟩) ?_
  obtain ⟨s1, s2, -⟩ := one_split (allF l nET) now
  obtain ⟨-, -, s3⟩ := one_split (allF l nLM) now
  unfold ofC
  rw [s1, s2, s3]
  have q1 : (tgE (oneS (allF l nET)) == 0) = tgO (oneS (allF l nET)) := by
    unfold tgE; cases tgO (oneS (allF l nET)) <;> rfl
  have q3 : tgO (oneS (allF l nET)) = false → tgG (oneS (allF l nET)) = (false, []) := fun h => (tg_no _ h).1
  have q2 : (optE (pP (oneS (allF l nLM)) (yNow now)) == 0) = (pP (oneS (allF l nLM)) (yNow now)).isSome := by
    unfold optE; cases pP (oneS (allF l nLM)) (yNow now) <;> rfl
  rw [q1, q2]
  generalize tgG (oneS (allF l nET)) = G at *
  generalize tgO (oneS (allF l nET)) = O at *
  generalize pP (oneS (allF l nLM)) (yNow now) = R at *
  cases oneB (allF l nET) <;> cases oneB (allF l nLM) <;> cases O <;> cases R <;> simp [optV]
  all_goals (rw [q3 rfl]; exact ⟨rfl, rfl⟩)

set_option maxHeartbeats 16000000 in
set_option maxRecDepth 100000 in
theorem runchT_any (v : Value) (l : List (Bs × Bs)) (c : Ck) (now : Int) (w : World) (hs : IsFlds w v l) (hz : sumF l ≤ 900) (hl : l.length ≤ 1048576) (hp : 0 < (allF l nINM).length) :
    Calls Tryz.prog 66 #[v, ckV c, .int .i64 now] w fun e w' => e = .returned (.bool (nmdB (allF l nINM) c)) ∧ Below w.heap.size w w' := by
  have hb0 : Below w.heap.size w (w.alloc (.cells (ckA c) 89)) := (Below.refl _ _).alloc (Nat.le_refl _) _
  have hBx := Bx.new w 89 (ckA c)
  have HA := Lib.hid (rall_any v l nINM _ (isFlds_below hs hb0) (sum_each l (by omega)) (by decide) hl)
  have hsum := sum_all nINM l
  unfold ListPost at HA
  obtain ⟨a, cap, rfl⟩ : ∃ a cap, v = .slice a l.length cap := by obtain ⟨a, c, h, -⟩ := hs; exact ⟨a, c, h⟩
  have HB0 := Lib.hid hb0
  have HBx := Lib.hid hBx
  have hsz : w.heap.size ≤ (w.alloc (.cells (ckA c) 89)).heap.size := by simp
  clear hb0 hBx hs
  generalize allF l nINM = P at *
  have HTg := Lib.hid (fun (v : Value) (W : World) h => rttags_any v P W h (by omega))
  have hpl : (prtL P).length ≤ 1000000 := Nat.le_trans (flat_len P) (by omega)
  have htl : (tagsL (prtL P)).length ≤ 1048576 := by
    unfold tagsL
    split
    · simp
    · split
      · rw [List.length_map]; omega
      · simp
  have hv : nmdB P c = (decide (tagsE (prtL P) = 0) && (tagsS (prtL P) || (c.h && (tagsL (prtL P)).any fun t => wkB t (c.w, c.v)))) := rfl
  have HV := Lib.hid hv
  unfold TagsPost at HTg
  have hP : (0 : Int) < (P.length : Int) := by omega
  clear hsum hpl hv
  generalize tagsE (prtL P) = er at *
  generalize tagsS (prtL P) = st at *
  generalize tagsL (prtL P) = tl at *
  generalize nmdB P c = q at *
  have HWk := Lib.hid (fun (t : Tg) (W : World) => rweak11_any t (c.w, c.v) W)
  obtain ⟨p, hpp⟩ : ∃ p : Tg → Bool, p = fun t => wkB t (c.w, c.v) := ⟨_, rfl⟩
  rw [← hpp] at HV
  have HWp : Hid (∀ t : Tg, wkB t (c.w, c.v) = p t) := fun t => by rw [hpp]
  clear hpp
  have hde : decide (er = 0) = (er == 0) := by
    by_cases h : er = 0
    · rw [h]; rfl
    · rw [decide_eq_false h, beq_eq_false_iff_ne.2 h]
  rw [hde] at HV
  clear hde
  obtain ⟨cw, cv, ch, ca, cb⟩ := c
  unfold ckV ckA at *
  simp only at *
  unfold nINM mkS at HA
  go_enter Tryz.func66, Tryz.ntmps66
  go_wp2_with fail
  refine HA.out.mono ?_
  rintro e w1 ⟨v1, rfl, ho, hb⟩
  have hst := isStrs_own ho
  obtain ⟨a1, c1, rfl⟩ : ∃ a c, v1 = .slice a P.length c := by obtain ⟨a, c, h, -⟩ := isStrs_own ho; exact ⟨a, c, h⟩
  have HX1 := Lib.hid (HBx.out.later hb)
  have HB1 := Lib.hid (HB0.out.trans (hb.mono hsz))
  have HTg1 := Lib.hid (HTg.out _ w1 hst)
  clear ho hb hst HTg HBx HB0 HA
  go_wp2_with fail
  refine HTg1.out.mono ?_
  rintro e w2 ⟨v2, rfl, ho, hb⟩
  have HT2 := Lib.hid (isTgs_own ho)
  obtain ⟨a8, c8, rfl⟩ : ∃ a c, v2 = .slice a tl.length c := by obtain ⟨a, c, h, -⟩ := isTgs_own ho; exact ⟨a, c, h⟩
  have HX2 := Lib.hid (HX1.out.later hb)
  have HB2 := Lib.hid (HB1.out.trans (hb.mono HB1.out.size))
  clear ho hb HX1 HB1 HTg1
  go_wp2_with fail
  go_loopw [11, 12] (fun v11 v12 wr => ∃ i : Nat, i ≤ tl.length ∧ v12 = .int .i64 i ∧ v11 = .bool ((tl.take i).any p) ∧ Hid (IsTgs wr (.slice a8 tl.length c8) tl) ∧ Hid (Bx wr w.heap.size 89 #[.bool cw, .string (mkS cv), .bool ch, .int .i64 ca, .bool cb]) ∧ Hid (Below w.heap.size w wr)) (fun _ v12 _ => tl.length - (RowKit.intOf v12).toNat)
  case atStart => exact ⟨0, Nat.zero_le _, rfl, rfl, HT2, HX2, HB2⟩
  case round =>
    obtain ⟨i, hi, rfl, rfl, HT, HX, HB⟩ := hrel
    rename World => W
    clear HT2 HX2 HB2
    by_cases hlt : i < tl.length
    · obtain ⟨a', c', e', hcap, hc⟩ := HT.out
      injection e' with e1 _ e2
      subst e1 e2
      obtain ⟨b, o, rfl, hc0, hc1⟩ := hc i (tl.getD i (false, [])) (by simp [List.getD, hlt])
      have htk : tl.take (i + 1) = tl.take i ++ [tl.getD i (false, [])] := by
        rw [List.take_succ_eq_append_getElem hlt]; simp [List.getD, hlt]
      have han : (tl.take (i + 1)).any p = ((tl.take i).any p || p (tl.getD i (false, []))) := by rw [htk, List.any_append]; simp
      have HAn := Lib.hid han
      have HWk1 := Lib.hid (HWk.out (tl.getD i (false, [])))
      rw [HWp.out] at HWk1
      clear hc htk han
      generalize tl.getD i (false, []) = f at *
      obtain ⟨tk, tv⟩ := f
      unfold tgVal at HWk1
      simp only at hc0 hc1 HWk1
      have g0 : (0 : Int) ≤ (i : Int) := by omega
      have g1 : (i : Int) < (tl.length : Int) := by omega
      generalize p (tk, tv) = pk at *
      have hHeld0 : (fun Wz : World => Wz.cell? ⟨b, o + i * 2, none⟩ = some (.bool tk) ∧ Wz.cell? ⟨b, o + i * 2 + 1, none⟩ = some (.string (mkS tv)) ∧ Bx Wz w.heap.size 89 #[.bool cw, .string (mkS cv), .bool ch, .int .i64 ca, .bool cb] ∧ IsTgs Wz (.slice (some ⟨b, o, none⟩) tl.length c8) tl ∧ Below w.heap.size w Wz) W.drew := ⟨hc0, hc1, HX.out, HT.out, HB.out.drew⟩
      cases hsm : (tl.take i).any p
      · rw [hsm, Bool.false_or] at HAn
        clear hsm
        go_upto_region 8 with (fail)
        refine wp_region_held_drew (S := (fun Wz : World => Wz.cell? ⟨b, o + i * 2, none⟩ = some (.bool tk) ∧ Wz.cell? ⟨b, o + i * 2 + 1, none⟩ = some (.string (mkS tv)) ∧ Bx Wz w.heap.size 89 #[.bool cw, .string (mkS cv), .bool ch, .int .i64 ca, .bool cb] ∧ IsTgs Wz (.slice (some ⟨b, o, none⟩) tl.length c8) tl ∧ Below w.heap.size w Wz)) (by kernel_rfl) hHeld0 (fun hHeld => ?_)
        refine wpAnyH_take (i := 0) (v := ?_) rfl (by kernel_rfl) (by kernel_rfl) (by kernel_rfl) (fun _ _ _ h => h) (Or.inl ⟨by kernel_rfl, ?_⟩) (by assumption) ?_
        case refine_2 => (intro Wz hSw; go_simp; try with_reducible rfl)
        try simp only [Act.put, List.getElem_toArray, List.getElem_cons_zero, List.setIfInBounds_toArray, List.set_cons_zero, List.set_cons_succ]
        refine wpAnyH_take (i := 1) (v := ?_) rfl (by kernel_rfl) (by kernel_rfl) (by kernel_rfl) (fun _ _ _ h => h) (Or.inl ⟨by kernel_rfl, ?_⟩) (by assumption) ?_
        case refine_2 => (intro Wz hSw; go_simp; try with_reducible rfl)
        try simp only [Act.put, List.getElem_toArray, List.getElem_cons_succ, List.getElem_cons_zero, List.setIfInBounds_toArray, List.set_cons_zero, List.set_cons_succ]
        refine wpAnyH_take (i := 2) (v := ?_) rfl (by kernel_rfl) (by kernel_rfl) (by kernel_rfl) (fun _ _ _ h => h) (Or.inl ⟨by kernel_rfl, ?_⟩) (by assumption) ?_
        case refine_2 => (intro Wz hSw; go_simp; try with_reducible rfl)
        try simp only [Act.put, List.getElem_toArray, List.getElem_cons_succ, List.getElem_cons_zero, List.setIfInBounds_toArray, List.set_cons_zero, List.set_cons_succ]
        refine wpAnyH_take (i := 3) (v := ?_) rfl (by kernel_rfl) (by kernel_rfl) (by kernel_rfl) (fun _ _ _ h => h) (Or.inl ⟨by kernel_rfl, ?_⟩) (by assumption) ?_
        case refine_2 => (intro Wz hSw; go_simp; try with_reducible rfl)
        try simp only [Act.put, List.getElem_toArray, List.getElem_cons_succ, List.getElem_cons_zero, List.setIfInBounds_toArray, List.set_cons_zero, List.set_cons_succ]
        refine wpAnyH_take (i := 4) (v := ?_) rfl (by kernel_rfl) (by kernel_rfl) (by kernel_rfl) (fun _ _ _ h => h) (Or.inl ⟨by kernel_rfl, ?_⟩) (by assumption) ?_
        case refine_2 => (intro Wz hSw; go_simp; try with_reducible rfl)
        try simp only [Act.put, List.getElem_toArray, List.getElem_cons_succ, List.getElem_cons_zero, List.setIfInBounds_toArray, List.set_cons_zero, List.set_cons_succ]
        refine wpAnyH_take (i := 5) (v := .agg #[.bool tk, .string (mkS tv)]) rfl (by kernel_rfl) (by kernel_rfl) (by kernel_rfl) (fun _ _ _ h => h) (Or.inl ⟨by kernel_rfl, ?_⟩) (by assumption) ?_
        case refine_1 => (intro Wz hSw; have u := hSw.1; have u2 := hSw.2.1; go_simp; try with_reducible rfl)
        try simp only [Act.put, List.getElem_toArray, List.getElem_cons_succ, List.getElem_cons_zero, List.setIfInBounds_toArray, List.set_cons_zero, List.set_cons_succ]
        refine wpAnyH_take (i := 6) (v := ?_) rfl (by kernel_rfl) (by kernel_rfl) (by kernel_rfl) (fun _ _ _ h => h) (Or.inl ⟨by kernel_rfl, ?_⟩) (by assumption) ?_
        case refine_2 => (intro Wz hSw; go_simp; try with_reducible rfl)
        try simp only [Act.put, List.getElem_toArray, List.getElem_cons_succ, List.getElem_cons_zero, List.setIfInBounds_toArray, List.set_cons_zero, List.set_cons_succ]
        refine wpAnyH_take (i := 7) (v := .agg #[.bool cw, .string (mkS cv)]) rfl (by kernel_rfl) (by kernel_rfl) (by kernel_rfl) (fun _ _ _ h => h) (Or.inl ⟨by kernel_rfl, ?_⟩) (by assumption) ?_
        case refine_1 => (intro Wz hSw; have u := hSw.2.2.1.cell 0 _ rfl; have u2 := hSw.2.2.1.cell 1 _ rfl; go_simp; try with_reducible rfl)
        try simp only [Act.put, List.getElem_toArray, List.getElem_cons_succ, List.getElem_cons_zero, List.setIfInBounds_toArray, List.set_cons_zero, List.set_cons_succ]
        refine wpAnyH_ready (rs := [8]) (by kernel_rfl) (by simp) ?_
        refine AllReadyH.cons rfl (fun K hK => ?_) AllReadyH.nil
        go_simp
        refine (HWk1.out _).mono ?_
        rintro e w3 ⟨rfl, hbb⟩
        have hHeldw3 : (fun Wz : World => Wz.cell? ⟨b, o + i * 2, none⟩ = some (.bool tk) ∧ Wz.cell? ⟨b, o + i * 2 + 1, none⟩ = some (.string (mkS tv)) ∧ Bx Wz w.heap.size 89 #[.bool cw, .string (mkS cv), .bool ch, .int .i64 ca, .bool cb] ∧ IsTgs Wz (.slice (some ⟨b, o, none⟩) tl.length c8) tl ∧ Below w.heap.size w Wz) w3 := ⟨(hbb.cell (p := ⟨b, o + i * 2, none⟩) (cell_lt (p := ⟨b, o + i * 2, none⟩) hHeld0.1)).trans hHeld0.1, (hbb.cell (p := ⟨b, o + i * 2 + 1, none⟩) (cell_lt (p := ⟨b, o + i * 2 + 1, none⟩) hHeld0.2.1)).trans hHeld0.2.1, hHeld0.2.2.1.later hbb, isTgs_below hHeld0.2.2.2.1 hbb, hHeld0.2.2.2.2.trans (hbb.mono hHeld0.2.2.2.2.size)⟩
        clear hbb
        go_simp
        refine hK.out _ _ hHeldw3 (fun hHeld2 => ?_)
        clear hK K hHeld2
        try simp only [Act.put, List.getElem_toArray, List.getElem_cons_succ, List.getElem_cons_zero, List.setIfInBounds_toArray, List.set_cons_zero, List.set_cons_succ]
        refine wpAnyH_take (i := 9) (v := .bool pk) rfl (by kernel_rfl) (by kernel_rfl) (by kernel_rfl) (fun _ _ _ h => h) (Or.inl ⟨by kernel_rfl, ?_⟩) (by assumption) ?_
        case refine_1 => (intro Wz hSw; go_simp; try with_reducible rfl)
        try simp only [Act.put, List.getElem_toArray, List.getElem_cons_succ, List.getElem_cons_zero, List.setIfInBounds_toArray, List.set_cons_zero, List.set_cons_succ]
        refine wpAnyH_take (i := 10) (v := ?_) rfl (by kernel_rfl) (by kernel_rfl) (by kernel_rfl) (fun _ _ _ h => h) (Or.inl ⟨by kernel_rfl, ?_⟩) (by assumption) ?_
        case refine_2 => (intro Wz hSw; go_simp; try with_reducible rfl)
        try simp only [Act.put, List.getElem_toArray, List.getElem_cons_succ, List.getElem_cons_zero, List.setIfInBounds_toArray, List.set_cons_zero, List.set_cons_succ]
        refine wpAnyH_done (by kernel_rfl) ?_ _
        go_wp2_with fail
        exact ⟨⟨i + 1, hlt, by go_num, by rw [HAn.out], Lib.hid hHeldw3.2.2.2.1, Lib.hid hHeldw3.2.2.1, Lib.hid hHeldw3.2.2.2.2⟩, by simp [RowKit.intOf]; omega⟩
      · rw [hsm, Bool.true_or] at HAn
        clear hsm
        go_upto_region 8 with (fail)
        refine wp_region_held_drew (S := (fun Wz : World => Wz.cell? ⟨b, o + i * 2, none⟩ = some (.bool tk) ∧ Wz.cell? ⟨b, o + i * 2 + 1, none⟩ = some (.string (mkS tv)) ∧ Bx Wz w.heap.size 89 #[.bool cw, .string (mkS cv), .bool ch, .int .i64 ca, .bool cb] ∧ IsTgs Wz (.slice (some ⟨b, o, none⟩) tl.length c8) tl ∧ Below w.heap.size w Wz)) (by kernel_rfl) hHeld0 (fun hHeld => ?_)
        refine wpAnyH_take (i := 0) (v := ?_) rfl (by kernel_rfl) (by kernel_rfl) (by kernel_rfl) (fun _ _ _ h => h) (Or.inl ⟨by kernel_rfl, ?_⟩) (by assumption) ?_
        case refine_2 => (intro Wz hSw; go_simp; try with_reducible rfl)
        try simp only [Act.put, List.getElem_toArray, List.getElem_cons_zero, List.setIfInBounds_toArray, List.set_cons_zero, List.set_cons_succ]
        refine wpAnyH_take (i := 1) (v := ?_) rfl (by kernel_rfl) (by kernel_rfl) (by kernel_rfl) (fun _ _ _ h => h) (Or.inl ⟨by kernel_rfl, ?_⟩) (by assumption) ?_
        case refine_2 => (intro Wz hSw; go_simp; try with_reducible rfl)
        try simp only [Act.put, List.getElem_toArray, List.getElem_cons_succ, List.getElem_cons_zero, List.setIfInBounds_toArray, List.set_cons_zero, List.set_cons_succ]
        refine wpAnyH_take (i := 2) (v := undef) rfl (by kernel_rfl) (by kernel_rfl) (by kernel_rfl) (fun _ _ _ h => h) (Or.inr ⟨by kernel_rfl, rfl⟩) (by assumption) ?_
        try simp only [Act.put, List.getElem_toArray, List.getElem_cons_succ, List.getElem_cons_zero, List.setIfInBounds_toArray, List.set_cons_zero, List.set_cons_succ]
        refine wpAnyH_take (i := 3) (v := undef) rfl (by kernel_rfl) (by kernel_rfl) (by kernel_rfl) (fun _ _ _ h => h) (Or.inr ⟨by kernel_rfl, rfl⟩) (by assumption) ?_
        try simp only [Act.put, List.getElem_toArray, List.getElem_cons_succ, List.getElem_cons_zero, List.setIfInBounds_toArray, List.set_cons_zero, List.set_cons_succ]
        refine wpAnyH_take (i := 4) (v := undef) rfl (by kernel_rfl) (by kernel_rfl) (by kernel_rfl) (fun _ _ _ h => h) (Or.inr ⟨by kernel_rfl, rfl⟩) (by assumption) ?_
        try simp only [Act.put, List.getElem_toArray, List.getElem_cons_succ, List.getElem_cons_zero, List.setIfInBounds_toArray, List.set_cons_zero, List.set_cons_succ]
        refine wpAnyH_take (i := 5) (v := undef) rfl (by kernel_rfl) (by kernel_rfl) (by kernel_rfl) (fun _ _ _ h => h) (Or.inr ⟨by kernel_rfl, rfl⟩) (by assumption) ?_
        try simp only [Act.put, List.getElem_toArray, List.getElem_cons_succ, List.getElem_cons_zero, List.setIfInBounds_toArray, List.set_cons_zero, List.set_cons_succ]
        refine wpAnyH_take (i := 6) (v := undef) rfl (by kernel_rfl) (by kernel_rfl) (by kernel_rfl) (fun _ _ _ h => h) (Or.inr ⟨by kernel_rfl, rfl⟩) (by assumption) ?_
        try simp only [Act.put, List.getElem_toArray, List.getElem_cons_succ, List.getElem_cons_zero, List.setIfInBounds_toArray, List.set_cons_zero, List.set_cons_succ]
        refine wpAnyH_take (i := 7) (v := undef) rfl (by kernel_rfl) (by kernel_rfl) (by kernel_rfl) (fun _ _ _ h => h) (Or.inr ⟨by kernel_rfl, rfl⟩) (by assumption) ?_
        try simp only [Act.put, List.getElem_toArray, List.getElem_cons_succ, List.getElem_cons_zero, List.setIfInBounds_toArray, List.set_cons_zero, List.set_cons_succ]
        refine wpAnyH_take (i := 8) (v := undef) rfl (by kernel_rfl) (by kernel_rfl) (by kernel_rfl) (fun _ _ _ h => h) (Or.inr ⟨by kernel_rfl, rfl⟩) (by assumption) ?_
        try simp only [Act.put, List.getElem_toArray, List.getElem_cons_succ, List.getElem_cons_zero, List.setIfInBounds_toArray, List.set_cons_zero, List.set_cons_succ]
        refine wpAnyH_take (i := 9) (v := .bool true) rfl (by kernel_rfl) (by kernel_rfl) (by kernel_rfl) (fun _ _ _ h => h) (Or.inl ⟨by kernel_rfl, ?_⟩) (by assumption) ?_
        case refine_1 => (intro Wz hSw; go_simp; try with_reducible rfl)
        try simp only [Act.put, List.getElem_toArray, List.getElem_cons_succ, List.getElem_cons_zero, List.setIfInBounds_toArray, List.set_cons_zero, List.set_cons_succ]
        refine wpAnyH_take (i := 10) (v := ?_) rfl (by kernel_rfl) (by kernel_rfl) (by kernel_rfl) (fun _ _ _ h => h) (Or.inl ⟨by kernel_rfl, ?_⟩) (by assumption) ?_
        case refine_2 => (intro Wz hSw; go_simp; try with_reducible rfl)
        try simp only [Act.put, List.getElem_toArray, List.getElem_cons_succ, List.getElem_cons_zero, List.setIfInBounds_toArray, List.set_cons_zero, List.set_cons_succ]
        refine wpAnyH_done (by kernel_rfl) ?_ _
        go_wp2_with fail
        exact ⟨⟨i + 1, hlt, by go_num, by rw [HAn.out], Lib.hid hHeld0.2.2.2.1, Lib.hid hHeld0.2.2.1, Lib.hid hHeld0.2.2.2.2⟩, by simp [RowKit.intOf]; omega⟩
    · have hil : tl.take i = tl := List.take_of_length_le (by omega)
      rw [hil]
      have k2 := HX.out.cell 2 _ rfl
      clear hil HT HX HWk HWp
      generalize tl.any p = sm at *
      cases hb0 : (er == 0) <;> cases st <;> cases ch
      all_goals
        have HQ := HV
        rw [hb0] at HQ
        clear HV
        go_wp2_with fail
        go_ret
        exact ⟨by rw [HQ.out]; simp, HB.out⟩

set_option maxHeartbeats 8000000 in
set_option maxRecDepth 100000 in
theorem runch_any (v : Value) (l : List (Bs × Bs)) (c : Ck) (now : Int) (w : World) (hs : IsFlds w v l) (hz : sumF l ≤ 900) (hl : l.length ≤ 1048576) :
    Calls Tryz.prog 66 #[v, ckV c, .int .i64 now] w fun e w' => e = .returned (.bool (unB l c now)) ∧ Below w.heap.size w w' := by
  by_cases hp : 0 < (allF l nINM).length
  · unfold unB
    rw [if_pos hp]
    exact runchT_any v l c now w hs hz hl hp
  have hun : unB l c now = sncB (oneV (allF l nIMS) now) c := by unfold unB; rw [if_neg hp]
  have l2 := oneS_len nIMS l
  obtain ⟨-, -, s3⟩ := one_split (allF l nIMS) now
  have HO : Hid (∀ W : World, Below w.heap.size w W → Calls Tryz.prog 112 #[v, .string ⟨#[73, 102, 45, 77, 111, 100, 105, 102, 105, 101, 100, 45, 83, 105, 110, 99, 101]⟩] W fun e w' => e = .returned (.tuple #[.string (mkS (oneS (allF l nIMS))), .bool (oneB (allF l nIMS))]) ∧ Below W.heap.size W w') := fun W hb => rone_any v l nIMS W (isFlds_below hs hb) (sum_each l (by omega)) (by decide) hl
  have hPr := fun W : World => rparse9_any (mkS (oneS (allF l nIMS))) now W (by rw [size_mkS]; omega)
  simp only [bs_mkS] at hPr
  have HPr := Lib.hid hPr
  unfold OptPost at HPr
  have hb0 : Below w.heap.size w (w.alloc (.cells (ckA c) 89)) := (Below.refl _ _).alloc (Nat.le_refl _) _
  have hBx := Bx.new w 89 (ckA c)
  have HA := Lib.hid (rall_any v l nINM _ (isFlds_below hs hb0) (sum_each l (by omega)) (by decide) hl)
  unfold ListPost at HA
  obtain ⟨a, cap, rfl⟩ : ∃ a cap, v = .slice a l.length cap := by obtain ⟨a, c, h, -⟩ := hs; exact ⟨a, c, h⟩
  have HB0 := Lib.hid hb0
  have HBx := Lib.hid hBx
  have hsz : w.heap.size ≤ (w.alloc (.cells (ckA c) 89)).heap.size := by simp
  have hP : ¬ (0 : Int) < ((allF l nINM).length : Int) := by omega
  have hq : unB l c now = (oneB (allF l nIMS) && ((optE (pP (oneS (allF l nIMS)) (yNow now)) == 0) && (c.b && decide (c.a ≤ optV (pP (oneS (allF l nIMS)) (yNow now)))))) := by
    rw [hun, s3]
    cases oneB (allF l nIMS) <;> cases pP (oneS (allF l nIMS)) (yNow now) <;> simp [sncB, optE, optV]
    all_goals rfl
  have HQ := Lib.hid hq
  clear hb0 hBx hs hun hp hPr l2 s3 hq
  generalize unB l c now = q at *
  generalize optV (pP (oneS (allF l nIMS)) (yNow now)) = tv at *
  generalize optE (pP (oneS (allF l nIMS)) (yNow now)) = te at *
  generalize mkS (oneS (allF l nIMS)) = s1 at *
  generalize oneB (allF l nIMS) = o1 at *
  generalize allF l nINM = P at *
  unfold nINM mkS at HA
  obtain ⟨cw, cv, ch, ca, cb⟩ := c
  unfold ckV ckA at *
  simp only at *
  cases o1 <;> cases ht : (te == 0) <;> cases cb
  all_goals
    have HQ2 := HQ
    rw [ht] at HQ2
    clear HQ
    go_enter Tryz.func66, Tryz.ntmps66
    go_wp2_with fail
    refine HA.out.mono ?_
    rintro e w1 ⟨v1, rfl, ho, hb⟩
    obtain ⟨a1, c1, rfl⟩ : ∃ a c, v1 = .slice a P.length c := by obtain ⟨a, c, h, -⟩ := isStrs_own ho; exact ⟨a, c, h⟩
    have HX1 := Lib.hid (HBx.out.later hb)
    have HB1 := Lib.hid (HB0.out.trans (hb.mono hsz))
    clear ho hb HBx HB0 HA
    go_wp2_with fail
    refine (HO.out _ HB1.out).mono ?_
    rintro e w2 ⟨rfl, hb⟩
    have HX2 := Lib.hid (HX1.out.later hb)
    have HB2 := Lib.hid (HB1.out.trans (hb.mono HB1.out.size))
    clear hb HX1 HB1 HO
    go_wp2_with fail
    refine (HPr.out _).mono ?_
    rintro e w3 ⟨rfl, hb⟩
    have hX3 := HX2.out.later hb
    have HB3 := Lib.hid (HB2.out.trans (hb.mono HB2.out.size))
    have k3 := hX3.cell 3 _ rfl
    have k4 := hX3.cell 4 _ rfl
    clear hb HX2 HB2 HPr hX3
    go_wp2_with fail
    go_ret
    exact ⟨by rw [HQ2.out]; simp, HB3.out⟩
end Tk
end Go.Proofs.YtajmheblbnodjaaGreatDoor
