/- DtG DtL DtM EtQ, put together. -/
import Derived.Test.YtajmheblbnodjaaGreatDoorQN
import Derived.Deep.Cut
import Derived.Test.YtajmheblbnodjaaGreatDoorQO
import Derived.Test.YtajmheblbnodjaaGreatDoorQA
import Derived.Test.YtajmheblbnodjaaGreatDoorQJ
import Derived.Test.YtajmheblbnodjaaGreatDoorQL
namespace Go.Proofs.YtajmheblbnodjaaGreatDoor
open Go.RowKit
namespace Tk

theorem fB_eqS (c : Cv) : mkS (dnm c.w) ++ ⟨#[44, 32]⟩ ++ mkS (two c.d) ++ ⟨#[45]⟩ ++ mkS (mnm c.m) ++ ⟨#[45]⟩ ++ mkS (two (c.y % 100)) ++ ⟨#[32]⟩ ++ mkS (clk c) ++ ⟨#[32, 71, 77, 84]⟩ = mkS (fB c) := by
  rw [show (⟨#[44, 32]⟩ : ByteArray) = mkS [44, 32] from rfl, show (⟨#[32]⟩ : ByteArray) = mkS [32] from rfl, show (⟨#[45]⟩ : ByteArray) = mkS [45] from rfl, show (⟨#[32, 71, 77, 84]⟩ : ByteArray) = mkS gmt from rfl]
  simp only [mkS_append]; rfl

set_option maxHeartbeats 16000000 in
set_option maxRecDepth 100000 in
theorem rfc850_any (c : Cv) (w : World) (hT : NamH w) (hr : Rg c) :
    Calls Tryz.prog 255 #[cvV c] w fun e w' => e = .returned (.string (mkS (fB c))) ∧ Below w.heap.size w w' := by
  obtain ⟨y2, hy2⟩ : ∃ y2, y2 = c.y % 100 := ⟨_, rfl⟩
  have hq : c.y.tmod 100 = y2 := by rw [hy2]; exact IntWalk.rem_in _ _ (by have := hr.y; omega)
  have hq2 : IntKind.i64.wrap y2 = y2 := IntWalk.i64_in _ (by omega)
  obtain ⟨w1, hw1⟩ : ∃ w1, w1 = w.alloc (.cells (cvC c) 194) := ⟨_, rfl⟩
  have hB1 : Below w.heap.size w w1 := hw1 ▸ (Below.refl _ _).alloc (Nat.le_refl _) _
  have hg : w1.heap[w.heap.size]? = some (.cells (cvC c) 194 (0, 0)) := hw1 ▸ heap_alloc_last w _
  have hlt : w.heap.size < w1.heap.size := (Array.getElem?_eq_some_iff.1 hg).1
  have r0 := hr.y; have r1 := hr.m; have r2 := hr.d; have r6 := hr.w
  have h0 : w1.cell? ⟨w.heap.size, 0, none⟩ = some (.int .i64 c.y) := by rw [Lib.cell_of_heap hg]; rfl
  have h1 : w1.cell? ⟨w.heap.size, 1, none⟩ = some (.int .i64 c.m) := by rw [Lib.cell_of_heap hg]; rfl
  have h2 : w1.cell? ⟨w.heap.size, 2, none⟩ = some (.int .i64 c.d) := by rw [Lib.cell_of_heap hg]; rfl
  have h3 : w1.cell? ⟨w.heap.size, 3, none⟩ = some (.int .i64 c.h) := by rw [Lib.cell_of_heap hg]; rfl
  have h4 : w1.cell? ⟨w.heap.size, 4, none⟩ = some (.int .i64 c.n) := by rw [Lib.cell_of_heap hg]; rfl
  have h5 : w1.cell? ⟨w.heap.size, 5, none⟩ = some (.int .i64 c.s) := by rw [Lib.cell_of_heap hg]; rfl
  have h6 : w1.cell? ⟨w.heap.size, 6, none⟩ = some (.int .i64 c.w) := by rw [Lib.cell_of_heap hg]; rfl
  have h7 : w1.cell? ⟨0, c.w.toNat, none⟩ = some (.string (mkS (dnm c.w))) := (hT.later hB1).dayC _ (by omega)
  obtain ⟨u1, hu1⟩ : ∃ u1, u1 = c.m - 1 := ⟨_, rfl⟩
  have h8 : w1.cell? ⟨1, u1.toNat, none⟩ = some (.string (mkS (mnm c.m))) := by
    unfold mnm; rw [← hu1]; exact (hT.later hB1).monC _ (by omega)
  have hw : IntKind.i64.wrap (c.m - 1) = u1 := by rw [hu1]; exact IntWalk.i64_in _ (by omega)
  have hu0 : (0 : Int) ≤ u1 := by omega
  have hu2 : u1 < 12 := by omega
  have hx0 : (0 : Int) ≤ c.w := by omega
  have hx2 : c.w < 7 := by omega
  have HD : Hid (∀ W : World, W.cell? ⟨w.heap.size, 0, none⟩ = some (.int .i64 c.y) ∧ W.cell? ⟨w.heap.size, 1, none⟩ = some (.int .i64 c.m) ∧ W.cell? ⟨w.heap.size, 2, none⟩ = some (.int .i64 c.d) ∧ W.cell? ⟨w.heap.size, 3, none⟩ = some (.int .i64 c.h) ∧ W.cell? ⟨w.heap.size, 4, none⟩ = some (.int .i64 c.n) ∧ W.cell? ⟨w.heap.size, 5, none⟩ = some (.int .i64 c.s) ∧ W.cell? ⟨w.heap.size, 6, none⟩ = some (.int .i64 c.w) ∧ W.cell? ⟨0, c.w.toNat, none⟩ = some (.string (mkS (dnm c.w))) ∧ W.cell? ⟨1, u1.toNat, none⟩ = some (.string (mkS (mnm c.m))) ∧ Below w1.heap.size w1 W → Calls Tryz.prog 218 #[.int .i64 c.d] W fun e W' => e = .returned (.string (mkS (two c.d))) ∧ W'.cell? ⟨w.heap.size, 0, none⟩ = some (.int .i64 c.y) ∧ W'.cell? ⟨w.heap.size, 1, none⟩ = some (.int .i64 c.m) ∧ W'.cell? ⟨w.heap.size, 2, none⟩ = some (.int .i64 c.d) ∧ W'.cell? ⟨w.heap.size, 3, none⟩ = some (.int .i64 c.h) ∧ W'.cell? ⟨w.heap.size, 4, none⟩ = some (.int .i64 c.n) ∧ W'.cell? ⟨w.heap.size, 5, none⟩ = some (.int .i64 c.s) ∧ W'.cell? ⟨w.heap.size, 6, none⟩ = some (.int .i64 c.w) ∧ W'.cell? ⟨0, c.w.toNat, none⟩ = some (.string (mkS (dnm c.w))) ∧ W'.cell? ⟨1, u1.toNat, none⟩ = some (.string (mkS (mnm c.m))) ∧ Below w1.heap.size w1 W') := by
    intro W hS
    obtain ⟨k0, k1, k2, k3, k4, k5, k6, k7, k8, kb⟩ := hS
    refine (two_any c.d W ((hT.later hB1).later kb) ⟨by omega, by omega⟩).mono ?_
    rintro e W' ⟨he, hb2⟩
    exact ⟨he, cv_keep hT hlt ⟨k0, k1, k2, k3, k4, k5, k6, k7, k8, kb⟩ hb2⟩
  have HY : Hid (∀ W : World, W.cell? ⟨w.heap.size, 0, none⟩ = some (.int .i64 c.y) ∧ W.cell? ⟨w.heap.size, 1, none⟩ = some (.int .i64 c.m) ∧ W.cell? ⟨w.heap.size, 2, none⟩ = some (.int .i64 c.d) ∧ W.cell? ⟨w.heap.size, 3, none⟩ = some (.int .i64 c.h) ∧ W.cell? ⟨w.heap.size, 4, none⟩ = some (.int .i64 c.n) ∧ W.cell? ⟨w.heap.size, 5, none⟩ = some (.int .i64 c.s) ∧ W.cell? ⟨w.heap.size, 6, none⟩ = some (.int .i64 c.w) ∧ W.cell? ⟨0, c.w.toNat, none⟩ = some (.string (mkS (dnm c.w))) ∧ W.cell? ⟨1, u1.toNat, none⟩ = some (.string (mkS (mnm c.m))) ∧ Below w1.heap.size w1 W → Calls Tryz.prog 218 #[.int .i64 y2] W fun e W' => e = .returned (.string (mkS (two y2))) ∧ W'.cell? ⟨w.heap.size, 0, none⟩ = some (.int .i64 c.y) ∧ W'.cell? ⟨w.heap.size, 1, none⟩ = some (.int .i64 c.m) ∧ W'.cell? ⟨w.heap.size, 2, none⟩ = some (.int .i64 c.d) ∧ W'.cell? ⟨w.heap.size, 3, none⟩ = some (.int .i64 c.h) ∧ W'.cell? ⟨w.heap.size, 4, none⟩ = some (.int .i64 c.n) ∧ W'.cell? ⟨w.heap.size, 5, none⟩ = some (.int .i64 c.s) ∧ W'.cell? ⟨w.heap.size, 6, none⟩ = some (.int .i64 c.w) ∧ W'.cell? ⟨0, c.w.toNat, none⟩ = some (.string (mkS (dnm c.w))) ∧ W'.cell? ⟨1, u1.toNat, none⟩ = some (.string (mkS (mnm c.m))) ∧ Below w1.heap.size w1 W') := by
    intro W hS
    obtain ⟨k0, k1, k2, k3, k4, k5, k6, k7, k8, kb⟩ := hS
    refine (two_any y2 W ((hT.later hB1).later kb) ⟨by omega, by omega⟩).mono ?_
    rintro e W' ⟨he, hb2⟩
    exact ⟨he, cv_keep hT hlt ⟨k0, k1, k2, k3, k4, k5, k6, k7, k8, kb⟩ hb2⟩
  have HC : Hid (∀ W : World, W.cell? ⟨w.heap.size, 0, none⟩ = some (.int .i64 c.y) ∧ W.cell? ⟨w.heap.size, 1, none⟩ = some (.int .i64 c.m) ∧ W.cell? ⟨w.heap.size, 2, none⟩ = some (.int .i64 c.d) ∧ W.cell? ⟨w.heap.size, 3, none⟩ = some (.int .i64 c.h) ∧ W.cell? ⟨w.heap.size, 4, none⟩ = some (.int .i64 c.n) ∧ W.cell? ⟨w.heap.size, 5, none⟩ = some (.int .i64 c.s) ∧ W.cell? ⟨w.heap.size, 6, none⟩ = some (.int .i64 c.w) ∧ W.cell? ⟨0, c.w.toNat, none⟩ = some (.string (mkS (dnm c.w))) ∧ W.cell? ⟨1, u1.toNat, none⟩ = some (.string (mkS (mnm c.m))) ∧ Below w1.heap.size w1 W → Calls Tryz.prog 219 #[.agg #[.int .i64 c.y, .int .i64 c.m, .int .i64 c.d, .int .i64 c.h, .int .i64 c.n, .int .i64 c.s, .int .i64 c.w]] W fun e W' => e = .returned (.string (mkS (clk c))) ∧ W'.cell? ⟨w.heap.size, 0, none⟩ = some (.int .i64 c.y) ∧ W'.cell? ⟨w.heap.size, 1, none⟩ = some (.int .i64 c.m) ∧ W'.cell? ⟨w.heap.size, 2, none⟩ = some (.int .i64 c.d) ∧ W'.cell? ⟨w.heap.size, 3, none⟩ = some (.int .i64 c.h) ∧ W'.cell? ⟨w.heap.size, 4, none⟩ = some (.int .i64 c.n) ∧ W'.cell? ⟨w.heap.size, 5, none⟩ = some (.int .i64 c.s) ∧ W'.cell? ⟨w.heap.size, 6, none⟩ = some (.int .i64 c.w) ∧ W'.cell? ⟨0, c.w.toNat, none⟩ = some (.string (mkS (dnm c.w))) ∧ W'.cell? ⟨1, u1.toNat, none⟩ = some (.string (mkS (mnm c.m))) ∧ Below w1.heap.size w1 W') := by
    intro W hS
    obtain ⟨k0, k1, k2, k3, k4, k5, k6, k7, k8, kb⟩ := hS
    refine (clock_any c W ((hT.later hB1).later kb) hr).mono ?_
    rintro e W' ⟨he, hb2⟩
    exact ⟨he, cv_keep hT hlt ⟨k0, k1, k2, k3, k4, k5, k6, k7, k8, kb⟩ hb2⟩
  have HB1 := Lib.hid hB1
  unfold cvV
  unfold cvC at hw1
  have HW1 := Lib.hid hw1
  have zd := two_size c.d
  have zc : (mkS (clk c)).size = 8 := by rw [size_mkS]; rfl
  have zn : 6 ≤ (mkS (dnm c.w)).size ∧ (mkS (dnm c.w)).size ≤ 9 := by rw [size_mkS]; exact dnm_len c.w r6
  have zm : (mkS (mnm c.m)).size = 3 := by
    obtain ⟨p, q, r, hm, -⟩ := mnm_three c.m r1
    rw [size_mkS, hm]; rfl
  have zy := two_size y2
  have HV := Lib.hid (fB_eqS c)
  rw [← hy2] at HV
  clear hy2
  have zn2 : (mkS (dnm c.w)).size = 6 ∨ (mkS (dnm c.w)).size = 7 ∨ (mkS (dnm c.w)).size = 8 ∨ (mkS (dnm c.w)).size = 9 := by omega
  clear zn
  clear hT hr hB1 hg hlt hw1 hu1 r0 r1 r2 r6
  generalize mkS (clk c) = CK at *
  generalize mkS (dnm c.w) = ND at *
  generalize mkS (mnm c.m) = NM at *
  generalize mkS (two c.d) = DD at *
  generalize mkS (two y2) = YY at *
  generalize mkS (fB c) = R at *
  generalize c.y = v0 at *
  generalize c.m = v1 at *
  generalize c.d = v2 at *
  generalize c.h = v3 at *
  generalize c.n = v4 at *
  generalize c.s = v5 at *
  generalize c.w = v6 at *
  rcases zn2 with zn2 | zn2 | zn2 | zn2
  all_goals
    go_enter Tryz.func255, Tryz.ntmps255
    go_upto_region 1 with (fail)
    rw [← HW1.out]
    have j0 : w1.drew.cell? ⟨w.heap.size, 0, none⟩ = some (.int .i64 v0) := h0
    have j1 : w1.drew.cell? ⟨w.heap.size, 1, none⟩ = some (.int .i64 v1) := h1
    have j2 : w1.drew.cell? ⟨w.heap.size, 2, none⟩ = some (.int .i64 v2) := h2
    have j3 : w1.drew.cell? ⟨w.heap.size, 3, none⟩ = some (.int .i64 v3) := h3
    have j4 : w1.drew.cell? ⟨w.heap.size, 4, none⟩ = some (.int .i64 v4) := h4
    have j5 : w1.drew.cell? ⟨w.heap.size, 5, none⟩ = some (.int .i64 v5) := h5
    have j6 : w1.drew.cell? ⟨w.heap.size, 6, none⟩ = some (.int .i64 v6) := h6
    have j7 : w1.drew.cell? ⟨0, v6.toNat, none⟩ = some (.string ND) := h7
    have j8 : w1.drew.cell? ⟨1, u1.toNat, none⟩ = some (.string NM) := h8
    have jb : Below w1.heap.size w1 w1.drew := (Below.refl _ _).drew
    go_region_held3 (fun w' => w'.cell? ⟨w.heap.size, 0, none⟩ = some (.int .i64 v0) ∧ w'.cell? ⟨w.heap.size, 1, none⟩ = some (.int .i64 v1) ∧ w'.cell? ⟨w.heap.size, 2, none⟩ = some (.int .i64 v2) ∧ w'.cell? ⟨w.heap.size, 3, none⟩ = some (.int .i64 v3) ∧ w'.cell? ⟨w.heap.size, 4, none⟩ = some (.int .i64 v4) ∧ w'.cell? ⟨w.heap.size, 5, none⟩ = some (.int .i64 v5) ∧ w'.cell? ⟨w.heap.size, 6, none⟩ = some (.int .i64 v6) ∧ w'.cell? ⟨0, v6.toNat, none⟩ = some (.string (ND)) ∧ w'.cell? ⟨1, u1.toNat, none⟩ = some (.string (NM)) ∧ Below w1.heap.size w1 w') (first | (refine ⟨?_, ?_, ?_, ?_, ?_, ?_, ?_, ?_, ?_, ?_⟩ <;> assumption)) (first
      | (go_at_call 218; refine (HD.out _ ⟨by assumption, by assumption, by assumption, by assumption, by assumption, by assumption, by assumption, by assumption, by assumption, by assumption⟩).mono ?_; rintro e w' ⟨rfl, k0, k1, k2, k3, k4, k5, k6, k7, k8, kb⟩)
      | (go_at_call 218; refine (HY.out _ ⟨by assumption, by assumption, by assumption, by assumption, by assumption, by assumption, by assumption, by assumption, by assumption, by assumption⟩).mono ?_; rintro e w' ⟨rfl, k0, k1, k2, k3, k4, k5, k6, k7, k8, kb⟩)
      | (go_at_call 219; refine (HC.out _ ⟨by assumption, by assumption, by assumption, by assumption, by assumption, by assumption, by assumption, by assumption, by assumption, by assumption⟩).mono ?_; rintro e w' ⟨rfl, k0, k1, k2, k3, k4, k5, k6, k7, k8, kb⟩))
    all_goals
      go_wp2_with fail
      go_ret
      exact ⟨retS HV.out, HB1.out.trans (Below.mono (by assumption) HB1.out.size)⟩
end Tk
end Go.Proofs.YtajmheblbnodjaaGreatDoor
namespace Go.Proofs.YtajmheblbnodjaaGreatDoor
open Go.RowKit
namespace Tk

theorem textA : TextF 169 fA := ⟨enters_of Tryz.func169 (by kernel_rfl) rfl, fun c W h hr => fixdate_any c W h hr⟩
theorem textB : TextF 255 fB := ⟨enters_of Tryz.func255 (by kernel_rfl) rfl, fun c W h hr => rfc850_any c W h hr⟩
theorem textC : TextF 257 fC := ⟨enters_of Tryz.func257 (by kernel_rfl) rfl, fun c W h hr => asctime_any c W h hr⟩

theorem wr_keep {F : FuncId} {f : Cv → Bs} (s : ByteArray) (w : World) (hF : TextF F f) (hN : NamH w) :
    ∀ (M D T : ByteArray) (y : Int) (W : World), Below w.heap.size w W → M.size ≤ 1000000 → D.size ≤ 1000000 → T.size = 8 →
      Calls Tryz.prog 253 #[.string s, .func (.func F) #[] #[], .int .i64 y, .string M, .string D, .string T] W fun e w' => e = .returned (.tuple #[.int .i64 (optV (wr f (bs s) y (bs M) (bs D) (bs T))), .int .i64 (optE (wr f (bs s) y (bs M) (bs D) (bs T)))]) ∧ Below w.heap.size w w' := by
  intro M D T y W hb hM hD hT
  exact (written_any F f s M D T y W hF (hN.later hb) hM hD hT).mono fun e w' ⟨he, hb2⟩ => ⟨he, hb.trans (hb2.mono hb.size)⟩

set_option maxHeartbeats 8000000 in
set_option maxRecDepth 100000 in
theorem parseFixdate_any (s : ByteArray) (now : Int) (w : World) (hN : NamH w) (_hs : s.size ≤ 1000000) :
    Calls Tryz.prog 208 #[.string s, .int .i64 now] w (OptPost (wrA (bs s)) w) := by
  unfold OptPost
  by_cases hl : s.size = 29
  · have hv : wrA (bs s) = wr fA (bs s) (numP (bs (s.extract 12 16))) (bs (s.extract 8 11)) (bs (s.extract 5 7)) (bs (s.extract 17 25)) := by
      unfold wrA; rw [if_pos (by rw [length_bs]; exact hl), bs_extract, bs_extract, bs_extract, bs_extract]
    have HV := Lib.hid hv
    have HWr := Lib.hid (wr_keep s w textA hN)
    have HNn := Lib.hid (fun X W hX => number1_any X W hX)
    have jb : Below w.heap.size w w.drew := (Below.refl _ _).drew
    clear hv hN
    generalize wrA (bs s) = R at *
    go_enter Tryz.func208, Tryz.ntmps208
    go_upto_region 3 with (fail)
    go_region_held3 (fun w' => Below w.heap.size w w') (first | assumption) (first
      | (go_at_call 254; refine (HNn.out _ _ (by rw [ByteArray.size_extract]; omega)).mono ?_; rintro e w' ⟨rfl, rfl⟩)
      | (go_at_call 253; refine (HWr.out _ _ _ _ _ (by assumption) (by rw [ByteArray.size_extract]; omega) (by rw [ByteArray.size_extract]; omega) (by rw [ByteArray.size_extract]; omega)).mono ?_; rintro e w' ⟨rfl, kb⟩))
    all_goals
      go_wp2_with fail
      go_ret2
      exact ⟨ret2 (by rw [HV.out]) (by rw [HV.out]), by assumption⟩
  · have e1 : ((s.size : Int) == 29) = false := by rw [beq_eq_false_iff_ne]; omega
    have HV := Lib.hid (show wrA (bs s) = none by unfold wrA; rw [if_neg (by rw [length_bs]; exact hl)])
    clear hN hl
    generalize wrA (bs s) = R at *
    go_enter Tryz.func208, Tryz.ntmps208
    go_wp2_with fail
    go_ret2
    exact ⟨ret2 (by rw [HV.out]; rfl) (by rw [HV.out]; rfl), Below.refl _ _⟩

set_option maxHeartbeats 8000000 in
set_option maxRecDepth 100000 in
theorem parseAsctime_any (s : ByteArray) (now : Int) (w : World) (hN : NamH w) (_hs : s.size ≤ 1000000) :
    Calls Tryz.prog 210 #[.string s, .int .i64 now] w (OptPost (wrC (bs s)) w) := by
  unfold OptPost
  by_cases hl : s.size = 24
  · have hv : wrC (bs s) = wr fC (bs s) (numP (bs (s.extract 20 24))) (bs (s.extract 4 7)) (bs (mkS (trimL (bs (s.extract 8 10))))) (bs (s.extract 11 19)) := by
      unfold wrC; rw [if_pos (by rw [length_bs]; exact hl), bs_extract, bs_extract, bs_extract, bs_extract, bs_mkS, List.take_of_length_le (l := (bs s).drop 20) (by rw [List.length_drop, length_bs]; omega)]
    have HV := Lib.hid hv
    have HWr := Lib.hid (wr_keep s w textC hN)
    have HNn := Lib.hid (fun X W hX => number1_any X W hX)
    have HTr : Hid (∀ (X : ByteArray) (W : World), Below w.heap.size w W → X.size ≤ 1000 → Calls Tryz.prog 207 #[.string X] W fun e w' => e = .returned (.string (mkS (trimL (bs X)))) ∧ Below w.heap.size w w') := by
      intro X W hb hX
      exact (show Calls Tryz.prog 207 #[.string X] W (fun e w' => e = .returned (.string (mkS (trimL (bs X)))) ∧ Below W.heap.size W w') from trim_any X W (by omega)).mono fun e w' ⟨he, hb2⟩ => ⟨he, hb.trans (hb2.mono hb.size)⟩
    have HTs : Hid ((mkS (trimL (bs (s.extract 8 10)))).size ≤ 1000000) := by
      show _ ≤ _
      have h2 : (bs (s.extract 8 10)).length ≤ 2 := by rw [length_bs, ByteArray.size_extract]; omega
      have h3 := trim_sublist (bs (s.extract 8 10))
      rw [size_mkS]; omega
    have jb : Below w.heap.size w w.drew := (Below.refl _ _).drew
    clear hv hN
    generalize wrC (bs s) = R at *
    go_enter Tryz.func210, Tryz.ntmps210
    go_upto_region 3 with (fail)
    go_region_held3 (fun w' => Below w.heap.size w w') (first | assumption) (first
      | (go_at_call 254; refine (HNn.out _ _ (by rw [ByteArray.size_extract]; omega)).mono ?_; rintro e w' ⟨rfl, rfl⟩)
      | (go_at_call 207; refine (HTr.out _ _ (by assumption) (by rw [ByteArray.size_extract]; omega)).mono ?_; rintro e w' ⟨rfl, kb⟩)
      | (go_at_call 253; refine (HWr.out _ _ _ _ _ (by assumption) (by rw [ByteArray.size_extract]; omega) HTs.out (by rw [ByteArray.size_extract]; omega)).mono ?_; rintro e w' ⟨rfl, kb⟩))
    all_goals
      go_wp2_with fail
      go_ret2
      exact ⟨ret2 (by rw [HV.out, bs_mkS]) (by rw [HV.out, bs_mkS]), by assumption⟩
  · have e1 : ((s.size : Int) == 24) = false := by rw [beq_eq_false_iff_ne]; omega
    have HV := Lib.hid (show wrC (bs s) = none by unfold wrC; rw [if_neg (by rw [length_bs]; exact hl)])
    clear hN hl
    generalize wrC (bs s) = R at *
    go_enter Tryz.func210, Tryz.ntmps210
    go_wp2_with fail
    go_ret2
    exact ⟨ret2 (by rw [HV.out]; rfl) (by rw [HV.out]; rfl), Below.refl _ _⟩

set_option maxHeartbeats 8000000 in
set_option maxRecDepth 100000 in
theorem parseRFC850_any (s : ByteArray) (now : Int) (w : World) (hN : NamH w) (hs : s.size ≤ 1000000) (hn : 1970 ≤ now ∧ now ≤ 9999) :
    Calls Tryz.prog 209 #[.string s, .int .i64 now] w (OptPost (wrB (bs s) now) w) := by
  obtain ⟨m, hm⟩ := hN.mxl
  have hC : Calls Tryz.prog 151 #[.string s, .string ⟨#[44, 32]⟩] w fun e w' => e = .returned (.tuple #[.string (mkS (Lib.cut (bs s) [44, 32]).1), .string (mkS (bhd (bs s))), .bool (Lib.cut (bs s) [44, 32]).2.2]) ∧ Below w.heap.size w w' :=
    (Tryz.strings_Cut s ⟨#[44, 32]⟩ m w (by omega) hm).mono fun e w' ⟨he, n, hw⟩ => ⟨he, hw ▸ bdrN (Below.refl _ _) n⟩
  have HC := Lib.hid hC
  have HK : Hid (∀ w1, Below w.heap.size w w1 → NamH w1) := fun w1 hb => hN.later hb
  have hB : wrB (bs s) now = if (bhd (bs s)).length = 22 then wr fB (bs s) (lateY (numP (((bhd (bs s)).drop 7).take 2)) now) (((bhd (bs s)).drop 3).take 3) ((bhd (bs s)).take 2) (((bhd (bs s)).drop 10).take 8) else none := rfl
  unfold OptPost
  clear hC hm hN
  generalize (Lib.cut (bs s) [44, 32]).1 = X1 at *
  generalize (Lib.cut (bs s) [44, 32]).2.2 = X3 at *
  generalize bhd (bs s) = Y at *
  obtain ⟨D, hD⟩ : ∃ D, D = mkS Y := ⟨_, rfl⟩
  have hy : bs D = Y := by rw [hD, bs_mkS]
  rw [← hD] at HC
  rw [← hy] at hB
  clear hD hy
  by_cases hl : D.size = 22
  · have hv : wrB (bs s) now = wr fB (bs s) (lateY (numP (bs (D.extract 7 9))) now) (bs (D.extract 3 6)) (bs (D.extract 0 2)) (bs (D.extract 10 18)) := by
      rw [hB, if_pos (by rw [length_bs]; exact hl), bs_extract, bs_extract, bs_extract, bs_extract]; rfl
    have HV := Lib.hid hv
    have HWr : Hid (∀ w1, Below w.heap.size w w1 → ∀ (M D T : ByteArray) (y : Int) (W : World), Below w1.heap.size w1 W → M.size ≤ 1000000 → D.size ≤ 1000000 → T.size = 8 →
      Calls Tryz.prog 253 #[.string s, .func (.func 255) #[] #[], .int .i64 y, .string M, .string D, .string T] W fun e w' => e = .returned (.tuple #[.int .i64 (optV (wr fB (bs s) y (bs M) (bs D) (bs T))), .int .i64 (optE (wr fB (bs s) y (bs M) (bs D) (bs T)))]) ∧ Below w1.heap.size w1 w') := fun w1 hb => wr_keep s w1 textB (HK.out w1 hb)
    have HNn := Lib.hid (fun X W hX => number1_any X W hX)
    have b1 := numP_small (bs (D.extract 7 9)) (by rw [length_bs, ByteArray.size_extract]; omega)
    have HFy := Lib.hid (fun W => fullYear_any (numP (bs (D.extract 7 9))) now W (by omega) (by omega))
    clear hv hB HK
    generalize wrB (bs s) now = R at *
    go_enter Tryz.func209, Tryz.ntmps209
    go_wp2_with fail
    refine HC.out.mono ?_
    rintro e w1 ⟨rfl, hb⟩
    have HB1 := Lib.hid hb
    have HW1 := Lib.hid (HWr.out w1 hb)
    have jb : Below w1.heap.size w1 w1.drew := (Below.refl _ _).drew
    clear hb HWr HC
    go_upto_region 4 with (fail)
    go_region_held3 (fun w' => Below w1.heap.size w1 w') (first | assumption) (first
      | (go_at_call 254; refine (HNn.out _ _ (by rw [ByteArray.size_extract]; omega)).mono ?_; rintro e w' ⟨rfl, rfl⟩)
      | (go_at_call 256; refine (HFy.out _).mono ?_; rintro e w' ⟨rfl, rfl⟩)
      | (go_at_call 253; refine (HW1.out _ _ _ _ _ (by assumption) (by rw [ByteArray.size_extract]; omega) (by rw [ByteArray.size_extract]; omega) (by rw [ByteArray.size_extract]; omega)).mono ?_; rintro e w' ⟨rfl, kb⟩))
    all_goals
      go_wp2_with fail
      go_ret2
      exact ⟨ret2 (by rw [HV.out]) (by rw [HV.out]), HB1.out.trans (Below.mono (by assumption) HB1.out.size)⟩
  · have e1 : ((D.size : Int) == 22) = false := by rw [beq_eq_false_iff_ne]; omega
    have HV := Lib.hid (show wrB (bs s) now = none by rw [hB, if_neg (by rw [length_bs]; exact hl)])
    clear hl hB HK
    generalize wrB (bs s) now = R at *
    go_enter Tryz.func209, Tryz.ntmps209
    go_wp2_with fail
    refine HC.out.mono ?_
    rintro e w1 ⟨rfl, hb⟩
    have HB1 := Lib.hid hb
    clear hb
    go_wp2_with fail
    go_ret2
    exact ⟨ret2 (by rw [HV.out]; rfl) (by rw [HV.out]; rfl), HB1.out⟩
end Tk
end Go.Proofs.YtajmheblbnodjaaGreatDoor
namespace Go.Proofs.YtajmheblbnodjaaGreatDoor
open Go.RowKit
namespace Tk

/-- the year of now, put into the range -/
def clampT (now : Int) : Int := min (max now 0) 253402300799
def yNow (now : Int) : Int := (civ (clampT now)).y
theorem clampT_ok (now : Int) : okT (clampT now) = true := by rw [okT_iff]; unfold clampT maxT; omega
theorem yNow_rg (now : Int) : 1970 ≤ yNow now ∧ yNow now ≤ 9999 := (civ_rg ((okT_iff _).1 (clampT_ok now)).1 ((okT_iff _).1 (clampT_ok now)).2).y
/-- what is left to try -/
def pRest (s : Bs) (y : Int) : Nat → Option Int
  | 0 => pP s y
  | 1 => match wrB s y with | some t => some t | none => wrC s
  | 2 => wrC s
  | _ => none
theorem two_alloc (w1 : World) (A B : Array Value) (T U : TypeId) : ((w1.alloc (.cells A T)).alloc (.cells B U)).heap[w1.heap.size]? = some (.cells A T (0, 0)) ∧ ((w1.alloc (.cells A T)).alloc (.cells B U)).heap[w1.heap.size + 1]? = some (.cells B U (0, 0)) ∧ Below w1.heap.size w1 ((w1.alloc (.cells A T)).alloc (.cells B U)) := by
  have hb := (Below.refl w1.heap.size w1).alloc (Nat.le_refl _) (.cells A T)
  have hz : (w1.alloc (.cells A T)).heap.size = w1.heap.size + 1 := Array.size_push _
  have h1 := heap_alloc_last w1 (.cells A T)
  have h2 := heap_alloc_last (w1.alloc (.cells A T)) (.cells B U)
  rw [hz] at h2
  refine ⟨?_, h2, hb.alloc hb.size _⟩
  rw [Below.heap_alloc _ _ _ (by rw [hz]; omega)]; exact h1
theorem optE_some (t : Int) : optE (some t) = 0 ∧ optV (some t) = t := ⟨rfl, rfl⟩
theorem optE_none : optE none = 4 ∧ optV none = 0 := ⟨rfl, rfl⟩

set_option maxHeartbeats 8000000 in
set_option maxRecDepth 100000 in
theorem parse_any (s : ByteArray) (now : Int) (w : World) (hN : NamH w) (hs : s.size ≤ 1000000) :
    Calls Tryz.prog 163 #[.string s, .int .i64 now] w (OptPost (pP (bs s) (yNow now)) w) := by
  obtain ⟨hx1, hx2⟩ := civX_ok (clampT_ok now)
  have hC := civil_any (clampT now) w (by have := (okT_iff _).1 (clampT_ok now); unfold maxT at this; omega)
  unfold CivPost at hC
  rw [hx1, hx2] at hC
  have hy := yNow_rg now
  have hyE : (civ (clampT now)).y = yNow now := rfl
  have HA : Hid (∀ W, Below w.heap.size w W → Calls Tryz.prog 208 #[.string s, .int .i64 (yNow now)] W (OptPost (wrA (bs s)) W)) := fun W hb => parseFixdate_any s _ W (hN.later hb) hs
  have HB : Hid (∀ W, Below w.heap.size w W → Calls Tryz.prog 209 #[.string s, .int .i64 (yNow now)] W (OptPost (wrB (bs s) (yNow now)) W)) := fun W hb => parseRFC850_any s _ W (hN.later hb) hs hy
  have HC : Hid (∀ W, Below w.heap.size w W → Calls Tryz.prog 210 #[.string s, .int .i64 (yNow now)] W (OptPost (wrC (bs s)) W)) := fun W hb => parseAsctime_any s _ W (hN.later hb) hs
  have H0 := Lib.hid (show pP (bs s) (yNow now) = pRest (bs s) (yNow now) 0 from rfl)
  have HA1 := Lib.hid (fun (h : wrA (bs s) = none) => show pRest (bs s) (yNow now) 0 = pRest (bs s) (yNow now) 1 by unfold pRest pP; rw [h]; rfl)
  have HA2 := Lib.hid (fun t (h : wrA (bs s) = some t) => show pRest (bs s) (yNow now) 0 = some t by unfold pRest pP; rw [h]; rfl)
  have HB1 := Lib.hid (fun (h : wrB (bs s) (yNow now) = none) => show pRest (bs s) (yNow now) 1 = pRest (bs s) (yNow now) 2 by unfold pRest; rw [h]; rfl)
  have HB2 := Lib.hid (fun t (h : wrB (bs s) (yNow now) = some t) => show pRest (bs s) (yNow now) 1 = some t by unfold pRest; rw [h]; rfl)
  have HC1 := Lib.hid (show pRest (bs s) (yNow now) 2 = wrC (bs s) from rfl)
  have HC2 := Lib.hid (show pRest (bs s) (yNow now) 3 = none from rfl)
  have eA := enters_of Tryz.func208 (by kernel_rfl) rfl
  have eB := enters_of Tryz.func209 (by kernel_rfl) rfl
  have eC := enters_of Tryz.func210 (by kernel_rfl) rfl
  clear hN hx1 hx2 hy
  unfold OptPost at HA HB HC ⊢
  obtain ⟨t0, ht0⟩ : ∃ t0, t0 = clampT now := ⟨_, rfl⟩
  rw [← ht0] at hC hyE
  generalize pP (bs s) (yNow now) = R at *
  generalize hQ : pRest (bs s) (yNow now) = Q at *
  generalize wrA (bs s) = oA at *
  generalize wrB (bs s) (yNow now) = oB at *
  generalize wrC (bs s) = oC at *
  generalize yNow now = Y at *
  clear hQ
  generalize civ t0 = c at *
  obtain ⟨v0, v1, v2, v3, v4, v5, v6⟩ := c
  unfold cvV at hC
  dsimp only at hC hyE
  subst hyE
  have HCi := Lib.hid hC
  clear hC
  unfold clampT at ht0
  rw [ht0] at HCi
  clear ht0
  go_enter Tryz.func163, Tryz.ntmps163
  go_wp2_with fail
  go_step3
  go_wp2_with fail
  refine HCi.out.mono ?_
  rintro e w1 ⟨rfl, hb⟩
  have HB0 := Lib.hid hb
  clear hb
  go_wp2_with fail
  go_step3
  go_wp2_with fail
  obtain ⟨g1, g2, gb⟩ := two_alloc w1 #[.int .i64 v0, .int .i64 v1, .int .i64 v2, .int .i64 v3, .int .i64 v4, .int .i64 v5, .int .i64 v6] #[.func (.func 208) #[] #[], .func (.func 209) #[] #[], .func (.func 210) #[] #[]] 194 232
  generalize (w1.alloc (.cells #[.int .i64 v0, .int .i64 v1, .int .i64 v2, .int .i64 v3, .int .i64 v4, .int .i64 v5, .int .i64 v6] 194)).alloc (.cells #[.func (.func 208) #[] #[], .func (.func 209) #[] #[], .func (.func 210) #[] #[]] 232) = W3 at *
  have HB3 := Lib.hid (HB0.out.trans (gb.mono HB0.out.size))
  have HS3 : Hid (w1.heap.size + 2 ≤ W3.heap.size) := by have := (Array.getElem?_eq_some_iff.1 g2).1; show _ ≤ _; omega
  have K0 : Hid (W3.cell? ⟨w1.heap.size, 0, none⟩ = some (.int .i64 v0)) := by show _ = _; rw [Lib.cell_of_heap g1]; rfl
  have K1 : Hid (W3.cell? ⟨w1.heap.size + 1, 0, none⟩ = some (.func (.func 208) #[] #[])) := by show _ = _; rw [Lib.cell_of_heap g2]; rfl
  have K2 : Hid (W3.cell? ⟨w1.heap.size + 1, 1, none⟩ = some (.func (.func 209) #[] #[])) := by show _ = _; rw [Lib.cell_of_heap g2]; rfl
  have K3 : Hid (W3.cell? ⟨w1.heap.size + 1, 2, none⟩ = some (.func (.func 210) #[] #[])) := by show _ = _; rw [Lib.cell_of_heap g2]; rfl
  clear g1 g2 gb HB0
  go_loopw [4, 5, 10, 21] (fun vt ve _ vk wr => ∃ k : Nat, k ≤ 3 ∧ vk = .int .i64 (k : Int) ∧ vt = .int .i64 0 ∧ ((k = 0 ∧ ve = .int .i64 0) ∨ ve = .int .i64 4) ∧ Hid (Below w.heap.size w wr) ∧ Hid (w1.heap.size + 2 ≤ wr.heap.size) ∧ Hid (wr.cell? ⟨w1.heap.size, 0, none⟩ = some (.int .i64 v0)) ∧ Hid (wr.cell? ⟨w1.heap.size + 1, 0, none⟩ = some (.func (.func 208) #[] #[])) ∧ Hid (wr.cell? ⟨w1.heap.size + 1, 1, none⟩ = some (.func (.func 209) #[] #[])) ∧ Hid (wr.cell? ⟨w1.heap.size + 1, 2, none⟩ = some (.func (.func 210) #[] #[])) ∧ Hid (R = Q k)) (fun _ _ _ vk _ => (3 - RowKit.intOf vk).toNat)
  case atStart => exact ⟨0, by omega, rfl, rfl, .inl ⟨rfl, rfl⟩, HB3, HS3, K0, K1, K2, K3, H0⟩
  case round =>
    obtain ⟨k, hk, rfl, rfl, hve, HBw, HSz, HCl, HF0, HF1, HF2, HQ⟩ := hrel
    rename World => wr
    have hks : k = 0 ∨ k = 1 ∨ k = 2 ∨ k = 3 := by omega
    clear HB3 HS3 K0 K1 K2 K3 HCi
    rcases hks with rfl | rfl | rfl | rfl
    · have hf := HF0.out
      have hcl := HCl.out
      cases oA with
      | some t =>
        have HE := Lib.hid (HQ.out.trans (HA2.out t rfl))
        have HX := Lib.hid (HA.out wr HBw.out)
        clear HA HB HC HA1 HA2 HB1 HB2 HC1 HC2 HQ H0
        go_wp2_with fail
        refine HX.out.mono ?_
        rintro e w4 ⟨rfl, hb⟩
        have HB4 := Lib.hid (HBw.out.trans (hb.mono HBw.out.size))
        clear hb
        go_wp2_with fail
        try rw [Exit.noGoto_ret]
        go_ret2
        exact ⟨ret2 (by rw [HE.out]; try rfl) (by rw [HE.out]; try rfl), HB4.out⟩
      | none =>
        have HE := Lib.hid (HQ.out.trans (HA1.out rfl))
        have HX := Lib.hid (HA.out wr HBw.out)
        clear HA HB HC HA1 HA2 HB1 HB2 HC1 HC2 HQ
        go_wp2_with fail
        refine HX.out.mono ?_
        rintro e w4 ⟨rfl, hb⟩
        have HB4 := Lib.hid (HBw.out.trans (hb.mono HBw.out.size))
        have HS4 := Lib.hid (Nat.le_trans HSz.out hb.size)
        have hs4 := HSz.out
        have HG0 := Lib.hid ((hb.cell (p := ⟨w1.heap.size, 0, none⟩) (by show w1.heap.size < _; omega)).trans HCl.out)
        have HG1 := Lib.hid ((hb.cell (p := ⟨w1.heap.size + 1, 0, none⟩) (by show w1.heap.size + 1 < _; omega)).trans HF0.out)
        have HG2 := Lib.hid ((hb.cell (p := ⟨w1.heap.size + 1, 1, none⟩) (by show w1.heap.size + 1 < _; omega)).trans HF1.out)
        have HG3 := Lib.hid ((hb.cell (p := ⟨w1.heap.size + 1, 2, none⟩) (by show w1.heap.size + 1 < _; omega)).trans HF2.out)
        clear hb hs4
        go_wp2_with fail
        refine ⟨⟨1, by omega, by go_num, rfl, .inr rfl, HB4, HS4, HG0, HG1, HG2, HG3, HE⟩, by simp only [RowKit.intOf]; omega⟩
    · have hf := HF1.out
      have hcl := HCl.out
      cases oB with
      | some t =>
        have HE := Lib.hid (HQ.out.trans (HB2.out t rfl))
        have HX := Lib.hid (HB.out wr HBw.out)
        clear HA HB HC HA1 HA2 HB1 HB2 HC1 HC2 HQ H0
        go_wp2_with fail
        refine HX.out.mono ?_
        rintro e w4 ⟨rfl, hb⟩
        have HB4 := Lib.hid (HBw.out.trans (hb.mono HBw.out.size))
        clear hb
        go_wp2_with fail
        try rw [Exit.noGoto_ret]
        go_ret2
        exact ⟨ret2 (by rw [HE.out]; try rfl) (by rw [HE.out]; try rfl), HB4.out⟩
      | none =>
        have HE := Lib.hid (HQ.out.trans (HB1.out rfl))
        have HX := Lib.hid (HB.out wr HBw.out)
        clear HA HB HC HA1 HA2 HB1 HB2 HC1 HC2 HQ
        go_wp2_with fail
        refine HX.out.mono ?_
        rintro e w4 ⟨rfl, hb⟩
        have HB4 := Lib.hid (HBw.out.trans (hb.mono HBw.out.size))
        have HS4 := Lib.hid (Nat.le_trans HSz.out hb.size)
        have hs4 := HSz.out
        have HG0 := Lib.hid ((hb.cell (p := ⟨w1.heap.size, 0, none⟩) (by show w1.heap.size < _; omega)).trans HCl.out)
        have HG1 := Lib.hid ((hb.cell (p := ⟨w1.heap.size + 1, 0, none⟩) (by show w1.heap.size + 1 < _; omega)).trans HF0.out)
        have HG2 := Lib.hid ((hb.cell (p := ⟨w1.heap.size + 1, 1, none⟩) (by show w1.heap.size + 1 < _; omega)).trans HF1.out)
        have HG3 := Lib.hid ((hb.cell (p := ⟨w1.heap.size + 1, 2, none⟩) (by show w1.heap.size + 1 < _; omega)).trans HF2.out)
        clear hb hs4
        go_wp2_with fail
        refine ⟨⟨2, by omega, by go_num, rfl, .inr rfl, HB4, HS4, HG0, HG1, HG2, HG3, HE⟩, by simp only [RowKit.intOf]; omega⟩
    · have hf := HF2.out
      have hcl := HCl.out
      cases oC with
      | some t =>
        have HE := Lib.hid (HQ.out.trans HC1.out)
        have HX := Lib.hid (HC.out wr HBw.out)
        clear HA HB HC HA1 HA2 HB1 HB2 HC1 HC2 HQ H0
        go_wp2_with fail
        refine HX.out.mono ?_
        rintro e w4 ⟨rfl, hb⟩
        have HB4 := Lib.hid (HBw.out.trans (hb.mono HBw.out.size))
        clear hb
        go_wp2_with fail
        try rw [Exit.noGoto_ret]
        go_ret2
        exact ⟨ret2 (by rw [HE.out]; try rfl) (by rw [HE.out]; try rfl), HB4.out⟩
      | none =>
        have HE := Lib.hid ((HQ.out.trans HC1.out).trans HC2.out.symm)
        have HX := Lib.hid (HC.out wr HBw.out)
        clear HA HB HC HA1 HA2 HB1 HB2 HC1 HC2 HQ
        go_wp2_with fail
        refine HX.out.mono ?_
        rintro e w4 ⟨rfl, hb⟩
        have HB4 := Lib.hid (HBw.out.trans (hb.mono HBw.out.size))
        have HS4 := Lib.hid (Nat.le_trans HSz.out hb.size)
        have hs4 := HSz.out
        have HG0 := Lib.hid ((hb.cell (p := ⟨w1.heap.size, 0, none⟩) (by show w1.heap.size < _; omega)).trans HCl.out)
        have HG1 := Lib.hid ((hb.cell (p := ⟨w1.heap.size + 1, 0, none⟩) (by show w1.heap.size + 1 < _; omega)).trans HF0.out)
        have HG2 := Lib.hid ((hb.cell (p := ⟨w1.heap.size + 1, 1, none⟩) (by show w1.heap.size + 1 < _; omega)).trans HF1.out)
        have HG3 := Lib.hid ((hb.cell (p := ⟨w1.heap.size + 1, 2, none⟩) (by show w1.heap.size + 1 < _; omega)).trans HF2.out)
        clear hb hs4
        go_wp2_with fail
        refine ⟨⟨3, by omega, by go_num, rfl, .inr rfl, HB4, HS4, HG0, HG1, HG2, HG3, HE⟩, by simp only [RowKit.intOf]; omega⟩
    · obtain rfl : _ = Value.int .i64 4 := by rcases hve with ⟨h, -⟩ | h; exact absurd h (by decide); exact h
      have HE := Lib.hid (HQ.out.trans HC2.out)
      clear HA HB HC HA1 HA2 HB1 HB2 HC1 HC2 HQ H0
      go_wp2_with fail
      try rw [Exit.noGoto_ret]
      go_ret2
      exact ⟨ret2 (by rw [HE.out]; try rfl) (by rw [HE.out]; try rfl), HBw.out⟩
end Tk
end Go.Proofs.YtajmheblbnodjaaGreatDoor
namespace Go.Proofs.YtajmheblbnodjaaGreatDoor
namespace Tk

def nIMS : Bs := [73, 102, 45, 77, 111, 100, 105, 102, 105, 101, 100, 45, 83, 105, 110, 99, 101]
def nIM : Bs := [73, 102, 45, 77, 97, 116, 99, 104]
def nIUS : Bs := [73, 102, 45, 85, 110, 109, 111, 100, 105, 102, 105, 101, 100, 45, 83, 105, 110, 99, 101]
def nIR : Bs := [73, 102, 45, 82, 97, 110, 103, 101]
def nRa : Bs := [82, 97, 110, 103, 101]
def nET : Bs := [69, 84, 97, 103]
def nLM : Bs := [76, 97, 115, 116, 45, 77, 111, 100, 105, 102, 105, 101, 100]
def nWs : List Bs := [nIM, nINM, nIMS, nIUS, nIR, nRa]
def oneV (L : List Bs) (now : Int) : Option Int := match L with | [v] => pP v (yNow now) | _ => none
def oneG (L : List Bs) : Tg := match L with | [v] => tgG v | _ => (false, [])
def oneO (L : List Bs) : Bool := match L with | [v] => tgO v | _ => false
def ofC (l : List (Bs × Bs)) (now : Int) : Ck := ⟨(oneG (allF l nET)).1, (oneG (allF l nET)).2, oneO (allF l nET), optV (oneV (allF l nLM) now), (oneV (allF l nLM) now).isSome⟩
def sncB (o : Option Int) (c : Ck) : Bool := match o with | some t => c.b && decide (c.a ≤ t) | none => false
def unB (f : List (Bs × Bs)) (c : Ck) (now : Int) : Bool := if 0 < (allF f nINM).length then nmdB (allF f nINM) c else sncB (oneV (allF f nIMS) now) c
def delAll (L : List Bs) (l : List (Bs × Bs)) : List (Bs × Bs) := L.foldl (fun l n => delF n l) l
def askA (c : Ck) : List (Bs × Bs) := if (c.h && opq c.v) = true then [(nINM, tgT (c.w, c.v))] else []
def askZ (c : Ck) : List (Bs × Bs) := if (c.b && okT c.a) = true then [(nIMS, fmtL c.a)] else []
def askL (l : List (Bs × Bs)) (c : Ck) : List (Bs × Bs) := delAll nWs l ++ askA c ++ askZ c
end Tk
end Go.Proofs.YtajmheblbnodjaaGreatDoor
