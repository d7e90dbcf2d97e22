/- date: the second format. -/
import Derived.Test.YtajmheblbnodjaaDoorDtF
import Derived.Deep.Cut
namespace Go.Proofs.YtajmheblbnodjaaDoor
open Go.RowKit
namespace Tk

theorem fB_eqS (c : Cv) : mkS (dnm c.w) ++ ⟨#[44, 32]⟩ ++ mkS (two c.d) ++ ⟨#[45]⟩ ++ mkS (mnm c.m) ++ ⟨#[45]⟩ ++ mkS (two (c.y % 100)) ++ ⟨#[32]⟩ ++ mkS (clk c) ++ ⟨#[32, 71, 77, 84]⟩ = mkS (fB c) := by
  rw [show (⟨#[44, 32]⟩ : ByteArray) = mkS [44, 32] from rfl, show (⟨#[32]⟩ : ByteArray) = mkS [32] from rfl, show (⟨#[45]⟩ : ByteArray) = mkS [45] from rfl, show (⟨#[32, 71, 77, 84]⟩ : ByteArray) = mkS gmt from rfl]
  simp only [mkS_append]; rfl

set_option maxHeartbeats 16000000 in
set_option maxRecDepth 100000 in
theorem rfc850_any (c : Cv) (w : World) (hT : NamH w) (hr : Rg c) :
    Calls Tryd.prog 55 #[cvV c] w fun e w' => e = .returned (.string (mkS (fB c))) ∧ Below w.heap.size w w' := by
  obtain ⟨y2, hy2⟩ : ∃ y2, y2 = c.y % 100 := ⟨_, rfl⟩
  have hq : c.y.tmod 100 = y2 := by rw [hy2]; exact IntWalk.rem_in _ _ (by have := hr.y; omega)
  have hq2 : IntKind.i64.wrap y2 = y2 := IntWalk.i64_in _ (by omega)
  obtain ⟨w1, hw1⟩ : ∃ w1, w1 = w.alloc (.cells (cvC c) 23) := ⟨_, rfl⟩
  have hB1 : Below w.heap.size w w1 := hw1 ▸ (Below.refl _ _).alloc (Nat.le_refl _) _
  have hg : w1.heap[w.heap.size]? = some (.cells (cvC c) 23 (0, 0)) := hw1 ▸ heap_alloc_last w _
  have hlt : w.heap.size < w1.heap.size := (Array.getElem?_eq_some_iff.1 hg).1
  have r0 := hr.y; have r1 := hr.m; have r2 := hr.d; have r6 := hr.w
  have h0 : w1.cell? ⟨w.heap.size, 0, none⟩ = some (.int .i64 c.y) := by rw [Lib.cell_of_heap hg]; rfl
  have h1 : w1.cell? ⟨w.heap.size, 1, none⟩ = some (.int .i64 c.m) := by rw [Lib.cell_of_heap hg]; rfl
  have h2 : w1.cell? ⟨w.heap.size, 2, none⟩ = some (.int .i64 c.d) := by rw [Lib.cell_of_heap hg]; rfl
  have h3 : w1.cell? ⟨w.heap.size, 3, none⟩ = some (.int .i64 c.h) := by rw [Lib.cell_of_heap hg]; rfl
  have h4 : w1.cell? ⟨w.heap.size, 4, none⟩ = some (.int .i64 c.n) := by rw [Lib.cell_of_heap hg]; rfl
  have h5 : w1.cell? ⟨w.heap.size, 5, none⟩ = some (.int .i64 c.s) := by rw [Lib.cell_of_heap hg]; rfl
  have h6 : w1.cell? ⟨w.heap.size, 6, none⟩ = some (.int .i64 c.w) := by rw [Lib.cell_of_heap hg]; rfl
  have h7 : w1.cell? ⟨0, c.w.toNat, none⟩ = some (.string (mkS (dnm c.w))) := (hT.later hB1).dayC _ (by omega)
  obtain ⟨u1, hu1⟩ : ∃ u1, u1 = c.m - 1 := ⟨_, rfl⟩
  have h8 : w1.cell? ⟨1, u1.toNat, none⟩ = some (.string (mkS (mnm c.m))) := by
    unfold mnm; rw [← hu1]; exact (hT.later hB1).monC _ (by omega)
  have hw : IntKind.i64.wrap (c.m - 1) = u1 := by rw [hu1]; exact IntWalk.i64_in _ (by omega)
  have hu0 : (0 : Int) ≤ u1 := by omega
  have hu2 : u1 < 12 := by omega
  have hx0 : (0 : Int) ≤ c.w := by omega
  have hx2 : c.w < 7 := by omega
  have HD : Hid (∀ W : World, W.cell? ⟨w.heap.size, 0, none⟩ = some (.int .i64 c.y) ∧ W.cell? ⟨w.heap.size, 1, none⟩ = some (.int .i64 c.m) ∧ W.cell? ⟨w.heap.size, 2, none⟩ = some (.int .i64 c.d) ∧ W.cell? ⟨w.heap.size, 3, none⟩ = some (.int .i64 c.h) ∧ W.cell? ⟨w.heap.size, 4, none⟩ = some (.int .i64 c.n) ∧ W.cell? ⟨w.heap.size, 5, none⟩ = some (.int .i64 c.s) ∧ W.cell? ⟨w.heap.size, 6, none⟩ = some (.int .i64 c.w) ∧ W.cell? ⟨0, c.w.toNat, none⟩ = some (.string (mkS (dnm c.w))) ∧ W.cell? ⟨1, u1.toNat, none⟩ = some (.string (mkS (mnm c.m))) ∧ Below w1.heap.size w1 W → Calls Tryd.prog 45 #[.int .i64 c.d] W fun e W' => e = .returned (.string (mkS (two c.d))) ∧ W'.cell? ⟨w.heap.size, 0, none⟩ = some (.int .i64 c.y) ∧ W'.cell? ⟨w.heap.size, 1, none⟩ = some (.int .i64 c.m) ∧ W'.cell? ⟨w.heap.size, 2, none⟩ = some (.int .i64 c.d) ∧ W'.cell? ⟨w.heap.size, 3, none⟩ = some (.int .i64 c.h) ∧ W'.cell? ⟨w.heap.size, 4, none⟩ = some (.int .i64 c.n) ∧ W'.cell? ⟨w.heap.size, 5, none⟩ = some (.int .i64 c.s) ∧ W'.cell? ⟨w.heap.size, 6, none⟩ = some (.int .i64 c.w) ∧ W'.cell? ⟨0, c.w.toNat, none⟩ = some (.string (mkS (dnm c.w))) ∧ W'.cell? ⟨1, u1.toNat, none⟩ = some (.string (mkS (mnm c.m))) ∧ Below w1.heap.size w1 W') := by
    intro W hS
    obtain ⟨k0, k1, k2, k3, k4, k5, k6, k7, k8, kb⟩ := hS
    refine (two_any c.d W ((hT.later hB1).later kb) ⟨by omega, by omega⟩).mono ?_
    rintro e W' ⟨he, hb2⟩
    exact ⟨he, cv_keep hT hlt ⟨k0, k1, k2, k3, k4, k5, k6, k7, k8, kb⟩ hb2⟩
  have HY : Hid (∀ W : World, W.cell? ⟨w.heap.size, 0, none⟩ = some (.int .i64 c.y) ∧ W.cell? ⟨w.heap.size, 1, none⟩ = some (.int .i64 c.m) ∧ W.cell? ⟨w.heap.size, 2, none⟩ = some (.int .i64 c.d) ∧ W.cell? ⟨w.heap.size, 3, none⟩ = some (.int .i64 c.h) ∧ W.cell? ⟨w.heap.size, 4, none⟩ = some (.int .i64 c.n) ∧ W.cell? ⟨w.heap.size, 5, none⟩ = some (.int .i64 c.s) ∧ W.cell? ⟨w.heap.size, 6, none⟩ = some (.int .i64 c.w) ∧ W.cell? ⟨0, c.w.toNat, none⟩ = some (.string (mkS (dnm c.w))) ∧ W.cell? ⟨1, u1.toNat, none⟩ = some (.string (mkS (mnm c.m))) ∧ Below w1.heap.size w1 W → Calls Tryd.prog 45 #[.int .i64 y2] W fun e W' => e = .returned (.string (mkS (two y2))) ∧ W'.cell? ⟨w.heap.size, 0, none⟩ = some (.int .i64 c.y) ∧ W'.cell? ⟨w.heap.size, 1, none⟩ = some (.int .i64 c.m) ∧ W'.cell? ⟨w.heap.size, 2, none⟩ = some (.int .i64 c.d) ∧ W'.cell? ⟨w.heap.size, 3, none⟩ = some (.int .i64 c.h) ∧ W'.cell? ⟨w.heap.size, 4, none⟩ = some (.int .i64 c.n) ∧ W'.cell? ⟨w.heap.size, 5, none⟩ = some (.int .i64 c.s) ∧ W'.cell? ⟨w.heap.size, 6, none⟩ = some (.int .i64 c.w) ∧ W'.cell? ⟨0, c.w.toNat, none⟩ = some (.string (mkS (dnm c.w))) ∧ W'.cell? ⟨1, u1.toNat, none⟩ = some (.string (mkS (mnm c.m))) ∧ Below w1.heap.size w1 W') := by
    intro W hS
    obtain ⟨k0, k1, k2, k3, k4, k5, k6, k7, k8, kb⟩ := hS
    refine (two_any y2 W ((hT.later hB1).later kb) ⟨by omega, by omega⟩).mono ?_
    rintro e W' ⟨he, hb2⟩
    exact ⟨he, cv_keep hT hlt ⟨k0, k1, k2, k3, k4, k5, k6, k7, k8, kb⟩ hb2⟩
  have HC : Hid (∀ W : World, W.cell? ⟨w.heap.size, 0, none⟩ = some (.int .i64 c.y) ∧ W.cell? ⟨w.heap.size, 1, none⟩ = some (.int .i64 c.m) ∧ W.cell? ⟨w.heap.size, 2, none⟩ = some (.int .i64 c.d) ∧ W.cell? ⟨w.heap.size, 3, none⟩ = some (.int .i64 c.h) ∧ W.cell? ⟨w.heap.size, 4, none⟩ = some (.int .i64 c.n) ∧ W.cell? ⟨w.heap.size, 5, none⟩ = some (.int .i64 c.s) ∧ W.cell? ⟨w.heap.size, 6, none⟩ = some (.int .i64 c.w) ∧ W.cell? ⟨0, c.w.toNat, none⟩ = some (.string (mkS (dnm c.w))) ∧ W.cell? ⟨1, u1.toNat, none⟩ = some (.string (mkS (mnm c.m))) ∧ Below w1.heap.size w1 W → Calls Tryd.prog 47 #[.agg #[.int .i64 c.y, .int .i64 c.m, .int .i64 c.d, .int .i64 c.h, .int .i64 c.n, .int .i64 c.s, .int .i64 c.w]] W fun e W' => e = .returned (.string (mkS (clk c))) ∧ W'.cell? ⟨w.heap.size, 0, none⟩ = some (.int .i64 c.y) ∧ W'.cell? ⟨w.heap.size, 1, none⟩ = some (.int .i64 c.m) ∧ W'.cell? ⟨w.heap.size, 2, none⟩ = some (.int .i64 c.d) ∧ W'.cell? ⟨w.heap.size, 3, none⟩ = some (.int .i64 c.h) ∧ W'.cell? ⟨w.heap.size, 4, none⟩ = some (.int .i64 c.n) ∧ W'.cell? ⟨w.heap.size, 5, none⟩ = some (.int .i64 c.s) ∧ W'.cell? ⟨w.heap.size, 6, none⟩ = some (.int .i64 c.w) ∧ W'.cell? ⟨0, c.w.toNat, none⟩ = some (.string (mkS (dnm c.w))) ∧ W'.cell? ⟨1, u1.toNat, none⟩ = some (.string (mkS (mnm c.m))) ∧ Below w1.heap.size w1 W') := by
    intro W hS
    obtain ⟨k0, k1, k2, k3, k4, k5, k6, k7, k8, kb⟩ := hS
    refine (clock_any c W ((hT.later hB1).later kb) hr).mono ?_
    rintro e W' ⟨he, hb2⟩
    exact ⟨he, cv_keep hT hlt ⟨k0, k1, k2, k3, k4, k5, k6, k7, k8, kb⟩ hb2⟩
  have HB1 := Lib.hid hB1
  unfold cvV
  unfold cvC at hw1
  have HW1 := Lib.hid hw1
  have zd := two_size c.d
  have zc : (mkS (clk c)).size = 8 := by rw [size_mkS]; rfl
  have zn : 6 ≤ (mkS (dnm c.w)).size ∧ (mkS (dnm c.w)).size ≤ 9 := by rw [size_mkS]; exact dnm_len c.w r6
  have zm : (mkS (mnm c.m)).size = 3 := by
    obtain ⟨p, q, r, hm, -⟩ := mnm_three c.m r1
    rw [size_mkS, hm]; rfl
  have zy := two_size y2
  have HV := Lib.hid (fB_eqS c)
  rw [← hy2] at HV
  clear hy2
  have zn2 : (mkS (dnm c.w)).size = 6 ∨ (mkS (dnm c.w)).size = 7 ∨ (mkS (dnm c.w)).size = 8 ∨ (mkS (dnm c.w)).size = 9 := by omega
  clear zn
  clear hT hr hB1 hg hlt hw1 hu1 r0 r1 r2 r6
  generalize mkS (clk c) = CK at *
  generalize mkS (dnm c.w) = ND at *
  generalize mkS (mnm c.m) = NM at *
  generalize mkS (two c.d) = DD at *
  generalize mkS (two y2) = YY at *
  generalize mkS (fB c) = R at *
  generalize c.y = v0 at *
  generalize c.m = v1 at *
  generalize c.d = v2 at *
  generalize c.h = v3 at *
  generalize c.n = v4 at *
  generalize c.s = v5 at *
  generalize c.w = v6 at *
  rcases zn2 with zn2 | zn2 | zn2 | zn2
  all_goals
    go_enter Tryd.func55, Tryd.ntmps55
    go_upto_region 1 with (fail)
    rw [← HW1.out]
    have j0 : w1.drew.cell? ⟨w.heap.size, 0, none⟩ = some (.int .i64 v0) := h0
    have j1 : w1.drew.cell? ⟨w.heap.size, 1, none⟩ = some (.int .i64 v1) := h1
    have j2 : w1.drew.cell? ⟨w.heap.size, 2, none⟩ = some (.int .i64 v2) := h2
    have j3 : w1.drew.cell? ⟨w.heap.size, 3, none⟩ = some (.int .i64 v3) := h3
    have j4 : w1.drew.cell? ⟨w.heap.size, 4, none⟩ = some (.int .i64 v4) := h4
    have j5 : w1.drew.cell? ⟨w.heap.size, 5, none⟩ = some (.int .i64 v5) := h5
    have j6 : w1.drew.cell? ⟨w.heap.size, 6, none⟩ = some (.int .i64 v6) := h6
    have j7 : w1.drew.cell? ⟨0, v6.toNat, none⟩ = some (.string ND) := h7
    have j8 : w1.drew.cell? ⟨1, u1.toNat, none⟩ = some (.string NM) := h8
    have jb : Below w1.heap.size w1 w1.drew := (Below.refl _ _).drew
    go_region_held3 (fun w' => w'.cell? ⟨w.heap.size, 0, none⟩ = some (.int .i64 v0) ∧ w'.cell? ⟨w.heap.size, 1, none⟩ = some (.int .i64 v1) ∧ w'.cell? ⟨w.heap.size, 2, none⟩ = some (.int .i64 v2) ∧ w'.cell? ⟨w.heap.size, 3, none⟩ = some (.int .i64 v3) ∧ w'.cell? ⟨w.heap.size, 4, none⟩ = some (.int .i64 v4) ∧ w'.cell? ⟨w.heap.size, 5, none⟩ = some (.int .i64 v5) ∧ w'.cell? ⟨w.heap.size, 6, none⟩ = some (.int .i64 v6) ∧ w'.cell? ⟨0, v6.toNat, none⟩ = some (.string (ND)) ∧ w'.cell? ⟨1, u1.toNat, none⟩ = some (.string (NM)) ∧ Below w1.heap.size w1 w') (first | (refine ⟨?_, ?_, ?_, ?_, ?_, ?_, ?_, ?_, ?_, ?_⟩ <;> assumption)) (first
      | (go_at_call 45; refine (HD.out _ ⟨by assumption, by assumption, by assumption, by assumption, by assumption, by assumption, by assumption, by assumption, by assumption, by assumption⟩).mono ?_; rintro e w' ⟨rfl, k0, k1, k2, k3, k4, k5, k6, k7, k8, kb⟩)
      | (go_at_call 45; refine (HY.out _ ⟨by assumption, by assumption, by assumption, by assumption, by assumption, by assumption, by assumption, by assumption, by assumption, by assumption⟩).mono ?_; rintro e w' ⟨rfl, k0, k1, k2, k3, k4, k5, k6, k7, k8, kb⟩)
      | (go_at_call 47; refine (HC.out _ ⟨by assumption, by assumption, by assumption, by assumption, by assumption, by assumption, by assumption, by assumption, by assumption, by assumption⟩).mono ?_; rintro e w' ⟨rfl, k0, k1, k2, k3, k4, k5, k6, k7, k8, kb⟩))
    all_goals
      go_wp2_with fail
      go_ret
      exact ⟨retS HV.out, HB1.out.trans (Below.mono (by assumption) HB1.out.size)⟩
end Tk
end Go.Proofs.YtajmheblbnodjaaDoor
