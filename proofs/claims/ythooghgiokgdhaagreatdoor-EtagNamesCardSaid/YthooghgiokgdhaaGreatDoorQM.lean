/- DtE DtF DtH DtI, put together. -/
import Derived.Test.YthooghgiokgdhaaGreatDoorQL
import Derived.Deep.Cut
namespace Go.Proofs.YthooghgiokgdhaaGreatDoor
open Go.RowKit
namespace Tk

/-- the cells of a civil time in memory -/
def cvC (c : Cv) : Array Value := #[.int .i64 c.y, .int .i64 c.m, .int .i64 c.d, .int .i64 c.h, .int .i64 c.n, .int .i64 c.s, .int .i64 c.w]
theorem clk_eq (c : Cv) : mkS (two c.h) ++ ⟨#[58]⟩ ++ mkS (two c.n) ++ ⟨#[58]⟩ ++ mkS (two c.s) = mkS (clk c) := by
  rw [show (⟨#[58]⟩ : ByteArray) = mkS [58] from rfl, mkS_append, mkS_append, mkS_append, mkS_append]; rfl
theorem two_size (n : Int) : (mkS (two n)).size = 2 := by rw [size_mkS]; rfl

set_option maxHeartbeats 8000000 in
set_option maxRecDepth 100000 in
theorem clock_any (c : Cv) (w : World) (hT : NamH w) (hr : Rg c) :
    Calls Tryz.prog 229 #[cvV c] w fun e w' => e = .returned (.string (mkS (clk c))) ∧ Below w.heap.size w w' := by
  obtain ⟨w1, hw1⟩ : ∃ w1, w1 = w.alloc (.cells (cvC c) 204) := ⟨_, rfl⟩
  have hB1 : Below w.heap.size w w1 := hw1 ▸ (Below.refl _ _).alloc (Nat.le_refl _) _
  have hg : w1.heap[w.heap.size]? = some (.cells (cvC c) 204 (0, 0)) := hw1 ▸ heap_alloc_last w _
  have h3 : w1.cell? ⟨w.heap.size, 3, none⟩ = some (.int .i64 c.h) := by rw [Lib.cell_of_heap hg]; rfl
  have h4 : w1.cell? ⟨w.heap.size, 4, none⟩ = some (.int .i64 c.n) := by rw [Lib.cell_of_heap hg]; rfl
  have h5 : w1.cell? ⟨w.heap.size, 5, none⟩ = some (.int .i64 c.s) := by rw [Lib.cell_of_heap hg]; rfl
  have hlt : w.heap.size < w1.heap.size := (Array.getElem?_eq_some_iff.1 hg).1
  have HK : ∀ n : Int, 0 ≤ n → n ≤ 99 → ∀ W : World, W.cell? ⟨w.heap.size, 3, none⟩ = some (.int .i64 c.h) ∧ W.cell? ⟨w.heap.size, 4, none⟩ = some (.int .i64 c.n) ∧ W.cell? ⟨w.heap.size, 5, none⟩ = some (.int .i64 c.s) ∧ Below w1.heap.size w1 W →
      Calls Tryz.prog 228 #[.int .i64 n] W fun e W' => e = .returned (.string (mkS (two n))) ∧ W'.cell? ⟨w.heap.size, 3, none⟩ = some (.int .i64 c.h) ∧ W'.cell? ⟨w.heap.size, 4, none⟩ = some (.int .i64 c.n) ∧ W'.cell? ⟨w.heap.size, 5, none⟩ = some (.int .i64 c.s) ∧ Below w1.heap.size w1 W' := by
    rintro n hn0 hn1 W ⟨a3, a4, a5, hb⟩
    refine (two_any n W ((hT.later hB1).later hb) ⟨hn0, hn1⟩).mono ?_
    rintro e W' ⟨he, hb2⟩
    have hs := hb.size
    exact ⟨he, (hb2.cell (by show w.heap.size < _; omega)).trans a3, (hb2.cell (by show w.heap.size < _; omega)).trans a4, (hb2.cell (by show w.heap.size < _; omega)).trans a5, hb.trans (hb2.mono hs)⟩
  have r3 := hr.h; have r4 := hr.n; have r5 := hr.s
  have H3 := Lib.hid (HK c.h (by omega) (by omega))
  have H4 := Lib.hid (HK c.n (by omega) (by omega))
  have H5 := Lib.hid (HK c.s (by omega) (by omega))
  have HV := Lib.hid (clk_eq c)
  have z3 := two_size c.h
  have z4 := two_size c.n
  have z5 := two_size c.s
  have HB1 := Lib.hid hB1
  have HS0 := Lib.hid (Below.refl w1.heap.size w1)
  unfold cvV
  unfold cvC at hw1
  have HW1 := Lib.hid hw1
  clear hT hr HK hB1 hg hlt r3 r4 r5 hw1
  generalize mkS (clk c) = R at *
  generalize mkS (two c.h) = A at *
  generalize mkS (two c.n) = B at *
  generalize mkS (two c.s) = C at *
  generalize c.y = v0 at *
  generalize c.m = v1 at *
  generalize c.d = v2 at *
  generalize c.h = v3 at *
  generalize c.n = v4 at *
  generalize c.s = v5 at *
  generalize c.w = v6 at *
  go_enter Tryz.func229, Tryz.ntmps229
  go_upto_region 1 with (fail)
  rw [← HW1.out]
  have j3 : w1.drew.cell? ⟨w.heap.size, 3, none⟩ = some (.int .i64 v3) := h3
  have j4 : w1.drew.cell? ⟨w.heap.size, 4, none⟩ = some (.int .i64 v4) := h4
  have j5 : w1.drew.cell? ⟨w.heap.size, 5, none⟩ = some (.int .i64 v5) := h5
  have jb : Below w1.heap.size w1 w1.drew := (Below.refl _ _).drew
  go_region_held3 (fun w' => w'.cell? ⟨w.heap.size, 3, none⟩ = some (.int .i64 v3) ∧ w'.cell? ⟨w.heap.size, 4, none⟩ = some (.int .i64 v4) ∧ w'.cell? ⟨w.heap.size, 5, none⟩ = some (.int .i64 v5) ∧ Below w1.heap.size w1 w') (first | (refine ⟨?_, ?_, ?_, ?_⟩ <;> assumption)) (first
    | (go_at_call 228; refine (H3.out _ ⟨by assumption, by assumption, by assumption, by assumption⟩).mono ?_; rintro e w' ⟨rfl, k3, k4, k5, kb⟩)
    | (go_at_call 228; refine (H4.out _ ⟨by assumption, by assumption, by assumption, by assumption⟩).mono ?_; rintro e w' ⟨rfl, k3, k4, k5, kb⟩)
    | (go_at_call 228; refine (H5.out _ ⟨by assumption, by assumption, by assumption, by assumption⟩).mono ?_; rintro e w' ⟨rfl, k3, k4, k5, kb⟩))
  all_goals
    go_wp2_with fail
    go_ret
    exact ⟨retS HV.out, HB1.out.trans (Below.mono (by assumption) HB1.out.size)⟩
end Tk
end Go.Proofs.YthooghgiokgdhaaGreatDoor
namespace Go.Proofs.YthooghgiokgdhaaGreatDoor
open Go.RowKit
namespace Tk

/-- what stays behind a call that makes memory alone -/
theorem cv_keep {w w1 : World} {c : Cv} {u1 : Int} (hN : NamH w) (hlt : w.heap.size < w1.heap.size) {W W' : World} (h : W.cell? ⟨w.heap.size, 0, none⟩ = some (.int .i64 c.y) ∧ W.cell? ⟨w.heap.size, 1, none⟩ = some (.int .i64 c.m) ∧ W.cell? ⟨w.heap.size, 2, none⟩ = some (.int .i64 c.d) ∧ W.cell? ⟨w.heap.size, 3, none⟩ = some (.int .i64 c.h) ∧ W.cell? ⟨w.heap.size, 4, none⟩ = some (.int .i64 c.n) ∧ W.cell? ⟨w.heap.size, 5, none⟩ = some (.int .i64 c.s) ∧ W.cell? ⟨w.heap.size, 6, none⟩ = some (.int .i64 c.w) ∧ W.cell? ⟨0, c.w.toNat, none⟩ = some (.string (mkS (dnm c.w))) ∧ W.cell? ⟨1, u1.toNat, none⟩ = some (.string (mkS (mnm c.m))) ∧ Below w1.heap.size w1 W) (hb2 : Below W.heap.size W W') : W'.cell? ⟨w.heap.size, 0, none⟩ = some (.int .i64 c.y) ∧ W'.cell? ⟨w.heap.size, 1, none⟩ = some (.int .i64 c.m) ∧ W'.cell? ⟨w.heap.size, 2, none⟩ = some (.int .i64 c.d) ∧ W'.cell? ⟨w.heap.size, 3, none⟩ = some (.int .i64 c.h) ∧ W'.cell? ⟨w.heap.size, 4, none⟩ = some (.int .i64 c.n) ∧ W'.cell? ⟨w.heap.size, 5, none⟩ = some (.int .i64 c.s) ∧ W'.cell? ⟨w.heap.size, 6, none⟩ = some (.int .i64 c.w) ∧ W'.cell? ⟨0, c.w.toNat, none⟩ = some (.string (mkS (dnm c.w))) ∧ W'.cell? ⟨1, u1.toNat, none⟩ = some (.string (mkS (mnm c.m))) ∧ Below w1.heap.size w1 W' := by
  obtain ⟨k0, k1, k2, k3, k4, k5, k6, k7, k8, kb⟩ := h
  have hs := kb.size
  obtain ⟨⟨b1, b2, b3, b4⟩, -⟩ := hN
  exact ⟨(hb2.cell (by show w.heap.size < _; omega)).trans k0, (hb2.cell (by show w.heap.size < _; omega)).trans k1, (hb2.cell (by show w.heap.size < _; omega)).trans k2, (hb2.cell (by show w.heap.size < _; omega)).trans k3, (hb2.cell (by show w.heap.size < _; omega)).trans k4, (hb2.cell (by show w.heap.size < _; omega)).trans k5, (hb2.cell (by show w.heap.size < _; omega)).trans k6, (hb2.cell (by show 0 < _; omega)).trans k7, (hb2.cell (by show 1 < _; omega)).trans k8, kb.trans (hb2.mono hs)⟩

theorem fA_eq (c : Cv) : (mkS (dnm c.w)).extract 0 3 ++ ⟨#[44, 32]⟩ ++ mkS (two c.d) ++ ⟨#[32]⟩ ++ mkS (mnm c.m) ++ ⟨#[32]⟩ ++ mkS (yr4 c.y) ++ ⟨#[32]⟩ ++ mkS (clk c) ++ ⟨#[32, 71, 77, 84]⟩ = mkS (fA c) := by
  rw [show (⟨#[44, 32]⟩ : ByteArray) = mkS [44, 32] from rfl, show (⟨#[32]⟩ : ByteArray) = mkS [32] from rfl, show (⟨#[32, 71, 77, 84]⟩ : ByteArray) = mkS gmt from rfl, extract_mkS, bs_mkS]
  simp only [mkS_append]; rfl

set_option maxHeartbeats 16000000 in
set_option maxRecDepth 100000 in
theorem fixdate_any (c : Cv) (w : World) (hT : NamH w) (hr : Rg c) :
    Calls Tryz.prog 179 #[cvV c] w fun e w' => e = .returned (.string (mkS (fA c))) ∧ Below w.heap.size w w' := by

  obtain ⟨w1, hw1⟩ : ∃ w1, w1 = w.alloc (.cells (cvC c) 204) := ⟨_, rfl⟩
  have hB1 : Below w.heap.size w w1 := hw1 ▸ (Below.refl _ _).alloc (Nat.le_refl _) _
  have hg : w1.heap[w.heap.size]? = some (.cells (cvC c) 204 (0, 0)) := hw1 ▸ heap_alloc_last w _
  have hlt : w.heap.size < w1.heap.size := (Array.getElem?_eq_some_iff.1 hg).1
  have r0 := hr.y; have r1 := hr.m; have r2 := hr.d; have r6 := hr.w
  have h0 : w1.cell? ⟨w.heap.size, 0, none⟩ = some (.int .i64 c.y) := by rw [Lib.cell_of_heap hg]; rfl
  have h1 : w1.cell? ⟨w.heap.size, 1, none⟩ = some (.int .i64 c.m) := by rw [Lib.cell_of_heap hg]; rfl
  have h2 : w1.cell? ⟨w.heap.size, 2, none⟩ = some (.int .i64 c.d) := by rw [Lib.cell_of_heap hg]; rfl
  have h3 : w1.cell? ⟨w.heap.size, 3, none⟩ = some (.int .i64 c.h) := by rw [Lib.cell_of_heap hg]; rfl
  have h4 : w1.cell? ⟨w.heap.size, 4, none⟩ = some (.int .i64 c.n) := by rw [Lib.cell_of_heap hg]; rfl
  have h5 : w1.cell? ⟨w.heap.size, 5, none⟩ = some (.int .i64 c.s) := by rw [Lib.cell_of_heap hg]; rfl
  have h6 : w1.cell? ⟨w.heap.size, 6, none⟩ = some (.int .i64 c.w) := by rw [Lib.cell_of_heap hg]; rfl
  have h7 : w1.cell? ⟨0, c.w.toNat, none⟩ = some (.string (mkS (dnm c.w))) := (hT.later hB1).dayC _ (by omega)
  obtain ⟨u1, hu1⟩ : ∃ u1, u1 = c.m - 1 := ⟨_, rfl⟩
  have h8 : w1.cell? ⟨1, u1.toNat, none⟩ = some (.string (mkS (mnm c.m))) := by
    unfold mnm; rw [← hu1]; exact (hT.later hB1).monC _ (by omega)
  have hw : IntKind.i64.wrap (c.m - 1) = u1 := by rw [hu1]; exact IntWalk.i64_in _ (by omega)
  have hu0 : (0 : Int) ≤ u1 := by omega
  have hu2 : u1 < 12 := by omega
  have hx0 : (0 : Int) ≤ c.w := by omega
  have hx2 : c.w < 7 := by omega
  have HD : Hid (∀ W : World, W.cell? ⟨w.heap.size, 0, none⟩ = some (.int .i64 c.y) ∧ W.cell? ⟨w.heap.size, 1, none⟩ = some (.int .i64 c.m) ∧ W.cell? ⟨w.heap.size, 2, none⟩ = some (.int .i64 c.d) ∧ W.cell? ⟨w.heap.size, 3, none⟩ = some (.int .i64 c.h) ∧ W.cell? ⟨w.heap.size, 4, none⟩ = some (.int .i64 c.n) ∧ W.cell? ⟨w.heap.size, 5, none⟩ = some (.int .i64 c.s) ∧ W.cell? ⟨w.heap.size, 6, none⟩ = some (.int .i64 c.w) ∧ W.cell? ⟨0, c.w.toNat, none⟩ = some (.string (mkS (dnm c.w))) ∧ W.cell? ⟨1, u1.toNat, none⟩ = some (.string (mkS (mnm c.m))) ∧ Below w1.heap.size w1 W → Calls Tryz.prog 228 #[.int .i64 c.d] W fun e W' => e = .returned (.string (mkS (two c.d))) ∧ W'.cell? ⟨w.heap.size, 0, none⟩ = some (.int .i64 c.y) ∧ W'.cell? ⟨w.heap.size, 1, none⟩ = some (.int .i64 c.m) ∧ W'.cell? ⟨w.heap.size, 2, none⟩ = some (.int .i64 c.d) ∧ W'.cell? ⟨w.heap.size, 3, none⟩ = some (.int .i64 c.h) ∧ W'.cell? ⟨w.heap.size, 4, none⟩ = some (.int .i64 c.n) ∧ W'.cell? ⟨w.heap.size, 5, none⟩ = some (.int .i64 c.s) ∧ W'.cell? ⟨w.heap.size, 6, none⟩ = some (.int .i64 c.w) ∧ W'.cell? ⟨0, c.w.toNat, none⟩ = some (.string (mkS (dnm c.w))) ∧ W'.cell? ⟨1, u1.toNat, none⟩ = some (.string (mkS (mnm c.m))) ∧ Below w1.heap.size w1 W') := by
    intro W hS
    obtain ⟨k0, k1, k2, k3, k4, k5, k6, k7, k8, kb⟩ := hS
    refine (two_any c.d W ((hT.later hB1).later kb) ⟨by omega, by omega⟩).mono ?_
    rintro e W' ⟨he, hb2⟩
    exact ⟨he, cv_keep hT hlt ⟨k0, k1, k2, k3, k4, k5, k6, k7, k8, kb⟩ hb2⟩
  have HY : Hid (∀ W : World, W.cell? ⟨w.heap.size, 0, none⟩ = some (.int .i64 c.y) ∧ W.cell? ⟨w.heap.size, 1, none⟩ = some (.int .i64 c.m) ∧ W.cell? ⟨w.heap.size, 2, none⟩ = some (.int .i64 c.d) ∧ W.cell? ⟨w.heap.size, 3, none⟩ = some (.int .i64 c.h) ∧ W.cell? ⟨w.heap.size, 4, none⟩ = some (.int .i64 c.n) ∧ W.cell? ⟨w.heap.size, 5, none⟩ = some (.int .i64 c.s) ∧ W.cell? ⟨w.heap.size, 6, none⟩ = some (.int .i64 c.w) ∧ W.cell? ⟨0, c.w.toNat, none⟩ = some (.string (mkS (dnm c.w))) ∧ W.cell? ⟨1, u1.toNat, none⟩ = some (.string (mkS (mnm c.m))) ∧ Below w1.heap.size w1 W → Calls Tryz.prog 87 #[.int .i64 c.y] W fun e W' => e = .returned (.string (mkS (yr4 c.y))) ∧ W'.cell? ⟨w.heap.size, 0, none⟩ = some (.int .i64 c.y) ∧ W'.cell? ⟨w.heap.size, 1, none⟩ = some (.int .i64 c.m) ∧ W'.cell? ⟨w.heap.size, 2, none⟩ = some (.int .i64 c.d) ∧ W'.cell? ⟨w.heap.size, 3, none⟩ = some (.int .i64 c.h) ∧ W'.cell? ⟨w.heap.size, 4, none⟩ = some (.int .i64 c.n) ∧ W'.cell? ⟨w.heap.size, 5, none⟩ = some (.int .i64 c.s) ∧ W'.cell? ⟨w.heap.size, 6, none⟩ = some (.int .i64 c.w) ∧ W'.cell? ⟨0, c.w.toNat, none⟩ = some (.string (mkS (dnm c.w))) ∧ W'.cell? ⟨1, u1.toNat, none⟩ = some (.string (mkS (mnm c.m))) ∧ Below w1.heap.size w1 W') := by
    intro W hS
    obtain ⟨k0, k1, k2, k3, k4, k5, k6, k7, k8, kb⟩ := hS
    refine ((show Calls Tryz.prog 87 #[.int .i64 c.y] W (fun e w' => e = .returned (.string (mkS (yr4 c.y))) ∧ Below W.heap.size W w') from by have h := itoaD_any c.y.toNat W ((hT.later hB1).later kb) (by omega); rw [digL_yr4 _ (by omega) (by omega), show ((c.y.toNat : Nat) : Int) = c.y by omega] at h; exact h)).mono ?_
    rintro e W' ⟨he, hb2⟩
    exact ⟨he, cv_keep hT hlt ⟨k0, k1, k2, k3, k4, k5, k6, k7, k8, kb⟩ hb2⟩
  have HC : Hid (∀ W : World, W.cell? ⟨w.heap.size, 0, none⟩ = some (.int .i64 c.y) ∧ W.cell? ⟨w.heap.size, 1, none⟩ = some (.int .i64 c.m) ∧ W.cell? ⟨w.heap.size, 2, none⟩ = some (.int .i64 c.d) ∧ W.cell? ⟨w.heap.size, 3, none⟩ = some (.int .i64 c.h) ∧ W.cell? ⟨w.heap.size, 4, none⟩ = some (.int .i64 c.n) ∧ W.cell? ⟨w.heap.size, 5, none⟩ = some (.int .i64 c.s) ∧ W.cell? ⟨w.heap.size, 6, none⟩ = some (.int .i64 c.w) ∧ W.cell? ⟨0, c.w.toNat, none⟩ = some (.string (mkS (dnm c.w))) ∧ W.cell? ⟨1, u1.toNat, none⟩ = some (.string (mkS (mnm c.m))) ∧ Below w1.heap.size w1 W → Calls Tryz.prog 229 #[.agg #[.int .i64 c.y, .int .i64 c.m, .int .i64 c.d, .int .i64 c.h, .int .i64 c.n, .int .i64 c.s, .int .i64 c.w]] W fun e W' => e = .returned (.string (mkS (clk c))) ∧ W'.cell? ⟨w.heap.size, 0, none⟩ = some (.int .i64 c.y) ∧ W'.cell? ⟨w.heap.size, 1, none⟩ = some (.int .i64 c.m) ∧ W'.cell? ⟨w.heap.size, 2, none⟩ = some (.int .i64 c.d) ∧ W'.cell? ⟨w.heap.size, 3, none⟩ = some (.int .i64 c.h) ∧ W'.cell? ⟨w.heap.size, 4, none⟩ = some (.int .i64 c.n) ∧ W'.cell? ⟨w.heap.size, 5, none⟩ = some (.int .i64 c.s) ∧ W'.cell? ⟨w.heap.size, 6, none⟩ = some (.int .i64 c.w) ∧ W'.cell? ⟨0, c.w.toNat, none⟩ = some (.string (mkS (dnm c.w))) ∧ W'.cell? ⟨1, u1.toNat, none⟩ = some (.string (mkS (mnm c.m))) ∧ Below w1.heap.size w1 W') := by
    intro W hS
    obtain ⟨k0, k1, k2, k3, k4, k5, k6, k7, k8, kb⟩ := hS
    refine (clock_any c W ((hT.later hB1).later kb) hr).mono ?_
    rintro e W' ⟨he, hb2⟩
    exact ⟨he, cv_keep hT hlt ⟨k0, k1, k2, k3, k4, k5, k6, k7, k8, kb⟩ hb2⟩
  have HB1 := Lib.hid hB1
  unfold cvV
  unfold cvC at hw1
  have HW1 := Lib.hid hw1
  have zd := two_size c.d
  have zc : (mkS (clk c)).size = 8 := by rw [size_mkS]; rfl
  have zn : 6 ≤ (mkS (dnm c.w)).size ∧ (mkS (dnm c.w)).size ≤ 9 := by rw [size_mkS]; exact dnm_len c.w r6
  have zm : (mkS (mnm c.m)).size = 3 := by
    obtain ⟨p, q, r, hm, -⟩ := mnm_three c.m r1
    rw [size_mkS, hm]; rfl
  have zy : (mkS (yr4 c.y)).size = 4 := by rw [size_mkS]; rfl
  have c1 : (3 : Int) ≤ ((mkS (dnm c.w)).size : Int) := by omega
  have zmin : min 3 (mkS (dnm c.w)).size = 3 := by omega
  clear zn
  have HV := Lib.hid (fA_eq c)
  clear hT hr hB1 hg hlt hw1 hu1 r0 r1 r2 r6
  generalize mkS (clk c) = CK at *
  generalize mkS (dnm c.w) = ND at *
  generalize mkS (mnm c.m) = NM at *
  generalize mkS (two c.d) = DD at *
  generalize mkS (yr4 c.y) = YY at *
  generalize mkS (fA c) = R at *
  generalize c.y = v0 at *
  generalize c.m = v1 at *
  generalize c.d = v2 at *
  generalize c.h = v3 at *
  generalize c.n = v4 at *
  generalize c.s = v5 at *
  generalize c.w = v6 at *
  go_enter Tryz.func179, Tryz.ntmps179

  go_upto_region 1 with (fail)
  rw [← HW1.out]
  have j0 : w1.drew.cell? ⟨w.heap.size, 0, none⟩ = some (.int .i64 v0) := h0
  have j1 : w1.drew.cell? ⟨w.heap.size, 1, none⟩ = some (.int .i64 v1) := h1
  have j2 : w1.drew.cell? ⟨w.heap.size, 2, none⟩ = some (.int .i64 v2) := h2
  have j3 : w1.drew.cell? ⟨w.heap.size, 3, none⟩ = some (.int .i64 v3) := h3
  have j4 : w1.drew.cell? ⟨w.heap.size, 4, none⟩ = some (.int .i64 v4) := h4
  have j5 : w1.drew.cell? ⟨w.heap.size, 5, none⟩ = some (.int .i64 v5) := h5
  have j6 : w1.drew.cell? ⟨w.heap.size, 6, none⟩ = some (.int .i64 v6) := h6
  have j7 : w1.drew.cell? ⟨0, v6.toNat, none⟩ = some (.string ND) := h7
  have j8 : w1.drew.cell? ⟨1, u1.toNat, none⟩ = some (.string NM) := h8
  have jb : Below w1.heap.size w1 w1.drew := (Below.refl _ _).drew
  go_region_held3 (fun w' => w'.cell? ⟨w.heap.size, 0, none⟩ = some (.int .i64 v0) ∧ w'.cell? ⟨w.heap.size, 1, none⟩ = some (.int .i64 v1) ∧ w'.cell? ⟨w.heap.size, 2, none⟩ = some (.int .i64 v2) ∧ w'.cell? ⟨w.heap.size, 3, none⟩ = some (.int .i64 v3) ∧ w'.cell? ⟨w.heap.size, 4, none⟩ = some (.int .i64 v4) ∧ w'.cell? ⟨w.heap.size, 5, none⟩ = some (.int .i64 v5) ∧ w'.cell? ⟨w.heap.size, 6, none⟩ = some (.int .i64 v6) ∧ w'.cell? ⟨0, v6.toNat, none⟩ = some (.string (ND)) ∧ w'.cell? ⟨1, u1.toNat, none⟩ = some (.string (NM)) ∧ Below w1.heap.size w1 w') (first | (refine ⟨?_, ?_, ?_, ?_, ?_, ?_, ?_, ?_, ?_, ?_⟩ <;> assumption)) (first
    | (go_at_call 228; refine (HD.out _ ⟨by assumption, by assumption, by assumption, by assumption, by assumption, by assumption, by assumption, by assumption, by assumption, by assumption⟩).mono ?_; rintro e w' ⟨rfl, k0, k1, k2, k3, k4, k5, k6, k7, k8, kb⟩)
    | (go_at_call 87; refine (HY.out _ ⟨by assumption, by assumption, by assumption, by assumption, by assumption, by assumption, by assumption, by assumption, by assumption, by assumption⟩).mono ?_; rintro e w' ⟨rfl, k0, k1, k2, k3, k4, k5, k6, k7, k8, kb⟩)
    | (go_at_call 229; refine (HC.out _ ⟨by assumption, by assumption, by assumption, by assumption, by assumption, by assumption, by assumption, by assumption, by assumption, by assumption⟩).mono ?_; rintro e w' ⟨rfl, k0, k1, k2, k3, k4, k5, k6, k7, k8, kb⟩))
  all_goals
    go_wp2_with fail
    go_ret
    exact ⟨retS HV.out, HB1.out.trans (Below.mono (by assumption) HB1.out.size)⟩
end Tk
end Go.Proofs.YthooghgiokgdhaaGreatDoor
namespace Go.Proofs.YthooghgiokgdhaaGreatDoor
open Go.RowKit
namespace Tk

theorem fC_eqS (c : Cv) (D : Bs) (hD : dC c.d = D) : (mkS (dnm c.w)).extract 0 3 ++ ⟨#[32]⟩ ++ mkS (mnm c.m) ++ ⟨#[32]⟩ ++ mkS D ++ ⟨#[32]⟩ ++ mkS (clk c) ++ ⟨#[32]⟩ ++ mkS (yr4 c.y) = mkS (fC c) := by
  subst hD
  rw [show (⟨#[32]⟩ : ByteArray) = mkS [32] from rfl, extract_mkS, bs_mkS]
  simp only [mkS_append]; rfl

set_option maxHeartbeats 16000000 in
set_option maxRecDepth 100000 in
theorem asctimeS_any (c : Cv) (w : World) (hT : NamH w) (hr : Rg c) (hcond : c.d < 10) :
    Calls Tryz.prog 270 #[cvV c] w fun e w' => e = .returned (.string (mkS (fC c))) ∧ Below w.heap.size w w' := by

  obtain ⟨w1, hw1⟩ : ∃ w1, w1 = w.alloc (.cells (cvC c) 204) := ⟨_, rfl⟩
  have hB1 : Below w.heap.size w w1 := hw1 ▸ (Below.refl _ _).alloc (Nat.le_refl _) _
  have hg : w1.heap[w.heap.size]? = some (.cells (cvC c) 204 (0, 0)) := hw1 ▸ heap_alloc_last w _
  have hlt : w.heap.size < w1.heap.size := (Array.getElem?_eq_some_iff.1 hg).1
  have r0 := hr.y; have r1 := hr.m; have r2 := hr.d; have r6 := hr.w
  have h0 : w1.cell? ⟨w.heap.size, 0, none⟩ = some (.int .i64 c.y) := by rw [Lib.cell_of_heap hg]; rfl
  have h1 : w1.cell? ⟨w.heap.size, 1, none⟩ = some (.int .i64 c.m) := by rw [Lib.cell_of_heap hg]; rfl
  have h2 : w1.cell? ⟨w.heap.size, 2, none⟩ = some (.int .i64 c.d) := by rw [Lib.cell_of_heap hg]; rfl
  have h3 : w1.cell? ⟨w.heap.size, 3, none⟩ = some (.int .i64 c.h) := by rw [Lib.cell_of_heap hg]; rfl
  have h4 : w1.cell? ⟨w.heap.size, 4, none⟩ = some (.int .i64 c.n) := by rw [Lib.cell_of_heap hg]; rfl
  have h5 : w1.cell? ⟨w.heap.size, 5, none⟩ = some (.int .i64 c.s) := by rw [Lib.cell_of_heap hg]; rfl
  have h6 : w1.cell? ⟨w.heap.size, 6, none⟩ = some (.int .i64 c.w) := by rw [Lib.cell_of_heap hg]; rfl
  have h7 : w1.cell? ⟨0, c.w.toNat, none⟩ = some (.string (mkS (dnm c.w))) := (hT.later hB1).dayC _ (by omega)
  obtain ⟨u1, hu1⟩ : ∃ u1, u1 = c.m - 1 := ⟨_, rfl⟩
  have h8 : w1.cell? ⟨1, u1.toNat, none⟩ = some (.string (mkS (mnm c.m))) := by
    unfold mnm; rw [← hu1]; exact (hT.later hB1).monC _ (by omega)
  have hw : IntKind.i64.wrap (c.m - 1) = u1 := by rw [hu1]; exact IntWalk.i64_in _ (by omega)
  have hu0 : (0 : Int) ≤ u1 := by omega
  have hu2 : u1 < 12 := by omega
  have hx0 : (0 : Int) ≤ c.w := by omega
  have hx2 : c.w < 7 := by omega
  have XD : Hid (∀ W : World, W.cell? ⟨w.heap.size, 0, none⟩ = some (.int .i64 c.y) ∧ W.cell? ⟨w.heap.size, 1, none⟩ = some (.int .i64 c.m) ∧ W.cell? ⟨w.heap.size, 2, none⟩ = some (.int .i64 c.d) ∧ W.cell? ⟨w.heap.size, 3, none⟩ = some (.int .i64 c.h) ∧ W.cell? ⟨w.heap.size, 4, none⟩ = some (.int .i64 c.n) ∧ W.cell? ⟨w.heap.size, 5, none⟩ = some (.int .i64 c.s) ∧ W.cell? ⟨w.heap.size, 6, none⟩ = some (.int .i64 c.w) ∧ W.cell? ⟨0, c.w.toNat, none⟩ = some (.string (mkS (dnm c.w))) ∧ W.cell? ⟨1, u1.toNat, none⟩ = some (.string (mkS (mnm c.m))) ∧ Below w1.heap.size w1 W → Calls Tryz.prog 87 #[.int .i64 c.d] W fun e W' => e = .returned (.string (mkS (digL c.d.toNat))) ∧ W'.cell? ⟨w.heap.size, 0, none⟩ = some (.int .i64 c.y) ∧ W'.cell? ⟨w.heap.size, 1, none⟩ = some (.int .i64 c.m) ∧ W'.cell? ⟨w.heap.size, 2, none⟩ = some (.int .i64 c.d) ∧ W'.cell? ⟨w.heap.size, 3, none⟩ = some (.int .i64 c.h) ∧ W'.cell? ⟨w.heap.size, 4, none⟩ = some (.int .i64 c.n) ∧ W'.cell? ⟨w.heap.size, 5, none⟩ = some (.int .i64 c.s) ∧ W'.cell? ⟨w.heap.size, 6, none⟩ = some (.int .i64 c.w) ∧ W'.cell? ⟨0, c.w.toNat, none⟩ = some (.string (mkS (dnm c.w))) ∧ W'.cell? ⟨1, u1.toNat, none⟩ = some (.string (mkS (mnm c.m))) ∧ Below w1.heap.size w1 W') := by
    intro W hS
    obtain ⟨k0, k1, k2, k3, k4, k5, k6, k7, k8, kb⟩ := hS
    refine ((show Calls Tryz.prog 87 #[.int .i64 c.d] W (fun e w' => e = .returned (.string (mkS (digL c.d.toNat))) ∧ Below W.heap.size W w') from by have h := itoaD_any c.d.toNat W ((hT.later hB1).later kb) (by omega); rw [show ((c.d.toNat : Nat) : Int) = c.d by omega] at h; exact h)).mono ?_
    rintro e W' ⟨he, hb2⟩
    exact ⟨he, cv_keep hT hlt ⟨k0, k1, k2, k3, k4, k5, k6, k7, k8, kb⟩ hb2⟩
  have HY : Hid (∀ W : World, W.cell? ⟨w.heap.size, 0, none⟩ = some (.int .i64 c.y) ∧ W.cell? ⟨w.heap.size, 1, none⟩ = some (.int .i64 c.m) ∧ W.cell? ⟨w.heap.size, 2, none⟩ = some (.int .i64 c.d) ∧ W.cell? ⟨w.heap.size, 3, none⟩ = some (.int .i64 c.h) ∧ W.cell? ⟨w.heap.size, 4, none⟩ = some (.int .i64 c.n) ∧ W.cell? ⟨w.heap.size, 5, none⟩ = some (.int .i64 c.s) ∧ W.cell? ⟨w.heap.size, 6, none⟩ = some (.int .i64 c.w) ∧ W.cell? ⟨0, c.w.toNat, none⟩ = some (.string (mkS (dnm c.w))) ∧ W.cell? ⟨1, u1.toNat, none⟩ = some (.string (mkS (mnm c.m))) ∧ Below w1.heap.size w1 W → Calls Tryz.prog 87 #[.int .i64 c.y] W fun e W' => e = .returned (.string (mkS (yr4 c.y))) ∧ W'.cell? ⟨w.heap.size, 0, none⟩ = some (.int .i64 c.y) ∧ W'.cell? ⟨w.heap.size, 1, none⟩ = some (.int .i64 c.m) ∧ W'.cell? ⟨w.heap.size, 2, none⟩ = some (.int .i64 c.d) ∧ W'.cell? ⟨w.heap.size, 3, none⟩ = some (.int .i64 c.h) ∧ W'.cell? ⟨w.heap.size, 4, none⟩ = some (.int .i64 c.n) ∧ W'.cell? ⟨w.heap.size, 5, none⟩ = some (.int .i64 c.s) ∧ W'.cell? ⟨w.heap.size, 6, none⟩ = some (.int .i64 c.w) ∧ W'.cell? ⟨0, c.w.toNat, none⟩ = some (.string (mkS (dnm c.w))) ∧ W'.cell? ⟨1, u1.toNat, none⟩ = some (.string (mkS (mnm c.m))) ∧ Below w1.heap.size w1 W') := by
    intro W hS
    obtain ⟨k0, k1, k2, k3, k4, k5, k6, k7, k8, kb⟩ := hS
    refine ((show Calls Tryz.prog 87 #[.int .i64 c.y] W (fun e w' => e = .returned (.string (mkS (yr4 c.y))) ∧ Below W.heap.size W w') from by have h := itoaD_any c.y.toNat W ((hT.later hB1).later kb) (by omega); rw [digL_yr4 _ (by omega) (by omega), show ((c.y.toNat : Nat) : Int) = c.y by omega] at h; exact h)).mono ?_
    rintro e W' ⟨he, hb2⟩
    exact ⟨he, cv_keep hT hlt ⟨k0, k1, k2, k3, k4, k5, k6, k7, k8, kb⟩ hb2⟩
  have HC : Hid (∀ W : World, W.cell? ⟨w.heap.size, 0, none⟩ = some (.int .i64 c.y) ∧ W.cell? ⟨w.heap.size, 1, none⟩ = some (.int .i64 c.m) ∧ W.cell? ⟨w.heap.size, 2, none⟩ = some (.int .i64 c.d) ∧ W.cell? ⟨w.heap.size, 3, none⟩ = some (.int .i64 c.h) ∧ W.cell? ⟨w.heap.size, 4, none⟩ = some (.int .i64 c.n) ∧ W.cell? ⟨w.heap.size, 5, none⟩ = some (.int .i64 c.s) ∧ W.cell? ⟨w.heap.size, 6, none⟩ = some (.int .i64 c.w) ∧ W.cell? ⟨0, c.w.toNat, none⟩ = some (.string (mkS (dnm c.w))) ∧ W.cell? ⟨1, u1.toNat, none⟩ = some (.string (mkS (mnm c.m))) ∧ Below w1.heap.size w1 W → Calls Tryz.prog 229 #[.agg #[.int .i64 c.y, .int .i64 c.m, .int .i64 c.d, .int .i64 c.h, .int .i64 c.n, .int .i64 c.s, .int .i64 c.w]] W fun e W' => e = .returned (.string (mkS (clk c))) ∧ W'.cell? ⟨w.heap.size, 0, none⟩ = some (.int .i64 c.y) ∧ W'.cell? ⟨w.heap.size, 1, none⟩ = some (.int .i64 c.m) ∧ W'.cell? ⟨w.heap.size, 2, none⟩ = some (.int .i64 c.d) ∧ W'.cell? ⟨w.heap.size, 3, none⟩ = some (.int .i64 c.h) ∧ W'.cell? ⟨w.heap.size, 4, none⟩ = some (.int .i64 c.n) ∧ W'.cell? ⟨w.heap.size, 5, none⟩ = some (.int .i64 c.s) ∧ W'.cell? ⟨w.heap.size, 6, none⟩ = some (.int .i64 c.w) ∧ W'.cell? ⟨0, c.w.toNat, none⟩ = some (.string (mkS (dnm c.w))) ∧ W'.cell? ⟨1, u1.toNat, none⟩ = some (.string (mkS (mnm c.m))) ∧ Below w1.heap.size w1 W') := by
    intro W hS
    obtain ⟨k0, k1, k2, k3, k4, k5, k6, k7, k8, kb⟩ := hS
    refine (clock_any c W ((hT.later hB1).later kb) hr).mono ?_
    rintro e W' ⟨he, hb2⟩
    exact ⟨he, cv_keep hT hlt ⟨k0, k1, k2, k3, k4, k5, k6, k7, k8, kb⟩ hb2⟩
  have HB1 := Lib.hid hB1
  unfold cvV
  unfold cvC at hw1
  have HW1 := Lib.hid hw1
  have zd := two_size c.d
  have zc : (mkS (clk c)).size = 8 := by rw [size_mkS]; rfl
  have zn : 6 ≤ (mkS (dnm c.w)).size ∧ (mkS (dnm c.w)).size ≤ 9 := by rw [size_mkS]; exact dnm_len c.w r6
  have zm : (mkS (mnm c.m)).size = 3 := by
    obtain ⟨p, q, r, hm, -⟩ := mnm_three c.m r1
    rw [size_mkS, hm]; rfl
  have zy : (mkS (yr4 c.y)).size = 4 := by rw [size_mkS]; rfl
  have c1 : (3 : Int) ≤ ((mkS (dnm c.w)).size : Int) := by omega
  have zmin : min 3 (mkS (dnm c.w)).size = 3 := by omega
  have hd10 : decide (c.d < 10) = true := by simp; omega
  clear zn
  have hE : mkS ([32, d1 c.d]) = ⟨#[32]⟩ ++ mkS (digL c.d.toNat) := by
    have hE2 : digL c.d.toNat = [d1 c.d] := by rw [digL_small _ (by omega)]; rfl
    rw [hE2]; try rfl
  have zg : (mkS (digL c.d.toNat)).size = 1 := by
    have hE2 : digL c.d.toNat = [d1 c.d] := by rw [digL_small _ (by omega)]; rfl
    rw [hE2, size_mkS]; rfl
  have hV := fC_eqS c ([32, d1 c.d]) (by unfold dC; simp; omega)
  rw [hE] at hV
  have HV := Lib.hid hV
  clear hE hV zd hcond

  clear hT hr hB1 hg hlt hw1 hu1 r0 r1 r2 r6
  generalize mkS (clk c) = CK at *
  generalize mkS (dnm c.w) = ND at *
  generalize mkS (mnm c.m) = NM at *
  generalize mkS (digL c.d.toNat) = DD at *
  generalize mkS (yr4 c.y) = YY at *
  generalize mkS (fC c) = R at *
  generalize c.y = v0 at *
  generalize c.m = v1 at *
  generalize c.d = v2 at *
  generalize c.h = v3 at *
  generalize c.n = v4 at *
  generalize c.s = v5 at *
  generalize c.w = v6 at *
  go_enter Tryz.func270, Tryz.ntmps270
  go_wp2_with fail
  rw [← HW1.out]
  refine (XD.out _ ⟨h0, h1, h2, h3, h4, h5, h6, h7, h8, Below.refl _ _⟩).mono ?_
  rintro e w2 ⟨rfl, p0, p1, p2, p3, p4, p5, p6, p7, p8, pb⟩
  have PB := Lib.hid pb
  clear h0 h1 h2 h3 h4 h5 h6 h7 h8 XD pb
  go_upto_region 4 with (fail)
  have j0 : w2.drew.cell? ⟨w.heap.size, 0, none⟩ = some (.int .i64 v0) := p0
  have j1 : w2.drew.cell? ⟨w.heap.size, 1, none⟩ = some (.int .i64 v1) := p1
  have j2 : w2.drew.cell? ⟨w.heap.size, 2, none⟩ = some (.int .i64 v2) := p2
  have j3 : w2.drew.cell? ⟨w.heap.size, 3, none⟩ = some (.int .i64 v3) := p3
  have j4 : w2.drew.cell? ⟨w.heap.size, 4, none⟩ = some (.int .i64 v4) := p4
  have j5 : w2.drew.cell? ⟨w.heap.size, 5, none⟩ = some (.int .i64 v5) := p5
  have j6 : w2.drew.cell? ⟨w.heap.size, 6, none⟩ = some (.int .i64 v6) := p6
  have j7 : w2.drew.cell? ⟨0, v6.toNat, none⟩ = some (.string ND) := p7
  have j8 : w2.drew.cell? ⟨1, u1.toNat, none⟩ = some (.string NM) := p8
  have jb : Below w1.heap.size w1 w2.drew := PB.out.drew
  go_region_held3 (fun w' => w'.cell? ⟨w.heap.size, 0, none⟩ = some (.int .i64 v0) ∧ w'.cell? ⟨w.heap.size, 1, none⟩ = some (.int .i64 v1) ∧ w'.cell? ⟨w.heap.size, 2, none⟩ = some (.int .i64 v2) ∧ w'.cell? ⟨w.heap.size, 3, none⟩ = some (.int .i64 v3) ∧ w'.cell? ⟨w.heap.size, 4, none⟩ = some (.int .i64 v4) ∧ w'.cell? ⟨w.heap.size, 5, none⟩ = some (.int .i64 v5) ∧ w'.cell? ⟨w.heap.size, 6, none⟩ = some (.int .i64 v6) ∧ w'.cell? ⟨0, v6.toNat, none⟩ = some (.string (ND)) ∧ w'.cell? ⟨1, u1.toNat, none⟩ = some (.string (NM)) ∧ Below w1.heap.size w1 w') (first | (refine ⟨?_, ?_, ?_, ?_, ?_, ?_, ?_, ?_, ?_, ?_⟩ <;> assumption)) (first
    | (go_at_call 87; refine (HY.out _ ⟨by assumption, by assumption, by assumption, by assumption, by assumption, by assumption, by assumption, by assumption, by assumption, by assumption⟩).mono ?_; rintro e w' ⟨rfl, k0, k1, k2, k3, k4, k5, k6, k7, k8, kb⟩)
    | (go_at_call 229; refine (HC.out _ ⟨by assumption, by assumption, by assumption, by assumption, by assumption, by assumption, by assumption, by assumption, by assumption, by assumption⟩).mono ?_; rintro e w' ⟨rfl, k0, k1, k2, k3, k4, k5, k6, k7, k8, kb⟩))
  all_goals
    go_wp2_with fail
    go_ret
    exact ⟨retS HV.out, HB1.out.trans (Below.mono (by assumption) HB1.out.size)⟩
end Tk
end Go.Proofs.YthooghgiokgdhaaGreatDoor
namespace Go.Proofs.YthooghgiokgdhaaGreatDoor
open Go.RowKit
namespace Tk

set_option maxHeartbeats 16000000 in
set_option maxRecDepth 100000 in
theorem asctimeB_any (c : Cv) (w : World) (hT : NamH w) (hr : Rg c) (hcond : 10 ≤ c.d) :
    Calls Tryz.prog 270 #[cvV c] w fun e w' => e = .returned (.string (mkS (fC c))) ∧ Below w.heap.size w w' := by

  obtain ⟨w1, hw1⟩ : ∃ w1, w1 = w.alloc (.cells (cvC c) 204) := ⟨_, rfl⟩
  have hB1 : Below w.heap.size w w1 := hw1 ▸ (Below.refl _ _).alloc (Nat.le_refl _) _
  have hg : w1.heap[w.heap.size]? = some (.cells (cvC c) 204 (0, 0)) := hw1 ▸ heap_alloc_last w _
  have hlt : w.heap.size < w1.heap.size := (Array.getElem?_eq_some_iff.1 hg).1
  have r0 := hr.y; have r1 := hr.m; have r2 := hr.d; have r6 := hr.w
  have h0 : w1.cell? ⟨w.heap.size, 0, none⟩ = some (.int .i64 c.y) := by rw [Lib.cell_of_heap hg]; rfl
  have h1 : w1.cell? ⟨w.heap.size, 1, none⟩ = some (.int .i64 c.m) := by rw [Lib.cell_of_heap hg]; rfl
  have h2 : w1.cell? ⟨w.heap.size, 2, none⟩ = some (.int .i64 c.d) := by rw [Lib.cell_of_heap hg]; rfl
  have h3 : w1.cell? ⟨w.heap.size, 3, none⟩ = some (.int .i64 c.h) := by rw [Lib.cell_of_heap hg]; rfl
  have h4 : w1.cell? ⟨w.heap.size, 4, none⟩ = some (.int .i64 c.n) := by rw [Lib.cell_of_heap hg]; rfl
  have h5 : w1.cell? ⟨w.heap.size, 5, none⟩ = some (.int .i64 c.s) := by rw [Lib.cell_of_heap hg]; rfl
  have h6 : w1.cell? ⟨w.heap.size, 6, none⟩ = some (.int .i64 c.w) := by rw [Lib.cell_of_heap hg]; rfl
  have h7 : w1.cell? ⟨0, c.w.toNat, none⟩ = some (.string (mkS (dnm c.w))) := (hT.later hB1).dayC _ (by omega)
  obtain ⟨u1, hu1⟩ : ∃ u1, u1 = c.m - 1 := ⟨_, rfl⟩
  have h8 : w1.cell? ⟨1, u1.toNat, none⟩ = some (.string (mkS (mnm c.m))) := by
    unfold mnm; rw [← hu1]; exact (hT.later hB1).monC _ (by omega)
  have hw : IntKind.i64.wrap (c.m - 1) = u1 := by rw [hu1]; exact IntWalk.i64_in _ (by omega)
  have hu0 : (0 : Int) ≤ u1 := by omega
  have hu2 : u1 < 12 := by omega
  have hx0 : (0 : Int) ≤ c.w := by omega
  have hx2 : c.w < 7 := by omega
  have XD : Hid (∀ W : World, W.cell? ⟨w.heap.size, 0, none⟩ = some (.int .i64 c.y) ∧ W.cell? ⟨w.heap.size, 1, none⟩ = some (.int .i64 c.m) ∧ W.cell? ⟨w.heap.size, 2, none⟩ = some (.int .i64 c.d) ∧ W.cell? ⟨w.heap.size, 3, none⟩ = some (.int .i64 c.h) ∧ W.cell? ⟨w.heap.size, 4, none⟩ = some (.int .i64 c.n) ∧ W.cell? ⟨w.heap.size, 5, none⟩ = some (.int .i64 c.s) ∧ W.cell? ⟨w.heap.size, 6, none⟩ = some (.int .i64 c.w) ∧ W.cell? ⟨0, c.w.toNat, none⟩ = some (.string (mkS (dnm c.w))) ∧ W.cell? ⟨1, u1.toNat, none⟩ = some (.string (mkS (mnm c.m))) ∧ Below w1.heap.size w1 W → Calls Tryz.prog 87 #[.int .i64 c.d] W fun e W' => e = .returned (.string (mkS (digL c.d.toNat))) ∧ W'.cell? ⟨w.heap.size, 0, none⟩ = some (.int .i64 c.y) ∧ W'.cell? ⟨w.heap.size, 1, none⟩ = some (.int .i64 c.m) ∧ W'.cell? ⟨w.heap.size, 2, none⟩ = some (.int .i64 c.d) ∧ W'.cell? ⟨w.heap.size, 3, none⟩ = some (.int .i64 c.h) ∧ W'.cell? ⟨w.heap.size, 4, none⟩ = some (.int .i64 c.n) ∧ W'.cell? ⟨w.heap.size, 5, none⟩ = some (.int .i64 c.s) ∧ W'.cell? ⟨w.heap.size, 6, none⟩ = some (.int .i64 c.w) ∧ W'.cell? ⟨0, c.w.toNat, none⟩ = some (.string (mkS (dnm c.w))) ∧ W'.cell? ⟨1, u1.toNat, none⟩ = some (.string (mkS (mnm c.m))) ∧ Below w1.heap.size w1 W') := by
    intro W hS
    obtain ⟨k0, k1, k2, k3, k4, k5, k6, k7, k8, kb⟩ := hS
    refine ((show Calls Tryz.prog 87 #[.int .i64 c.d] W (fun e w' => e = .returned (.string (mkS (digL c.d.toNat))) ∧ Below W.heap.size W w') from by have h := itoaD_any c.d.toNat W ((hT.later hB1).later kb) (by omega); rw [show ((c.d.toNat : Nat) : Int) = c.d by omega] at h; exact h)).mono ?_
    rintro e W' ⟨he, hb2⟩
    exact ⟨he, cv_keep hT hlt ⟨k0, k1, k2, k3, k4, k5, k6, k7, k8, kb⟩ hb2⟩
  have HY : Hid (∀ W : World, W.cell? ⟨w.heap.size, 0, none⟩ = some (.int .i64 c.y) ∧ W.cell? ⟨w.heap.size, 1, none⟩ = some (.int .i64 c.m) ∧ W.cell? ⟨w.heap.size, 2, none⟩ = some (.int .i64 c.d) ∧ W.cell? ⟨w.heap.size, 3, none⟩ = some (.int .i64 c.h) ∧ W.cell? ⟨w.heap.size, 4, none⟩ = some (.int .i64 c.n) ∧ W.cell? ⟨w.heap.size, 5, none⟩ = some (.int .i64 c.s) ∧ W.cell? ⟨w.heap.size, 6, none⟩ = some (.int .i64 c.w) ∧ W.cell? ⟨0, c.w.toNat, none⟩ = some (.string (mkS (dnm c.w))) ∧ W.cell? ⟨1, u1.toNat, none⟩ = some (.string (mkS (mnm c.m))) ∧ Below w1.heap.size w1 W → Calls Tryz.prog 87 #[.int .i64 c.y] W fun e W' => e = .returned (.string (mkS (yr4 c.y))) ∧ W'.cell? ⟨w.heap.size, 0, none⟩ = some (.int .i64 c.y) ∧ W'.cell? ⟨w.heap.size, 1, none⟩ = some (.int .i64 c.m) ∧ W'.cell? ⟨w.heap.size, 2, none⟩ = some (.int .i64 c.d) ∧ W'.cell? ⟨w.heap.size, 3, none⟩ = some (.int .i64 c.h) ∧ W'.cell? ⟨w.heap.size, 4, none⟩ = some (.int .i64 c.n) ∧ W'.cell? ⟨w.heap.size, 5, none⟩ = some (.int .i64 c.s) ∧ W'.cell? ⟨w.heap.size, 6, none⟩ = some (.int .i64 c.w) ∧ W'.cell? ⟨0, c.w.toNat, none⟩ = some (.string (mkS (dnm c.w))) ∧ W'.cell? ⟨1, u1.toNat, none⟩ = some (.string (mkS (mnm c.m))) ∧ Below w1.heap.size w1 W') := by
    intro W hS
    obtain ⟨k0, k1, k2, k3, k4, k5, k6, k7, k8, kb⟩ := hS
    refine ((show Calls Tryz.prog 87 #[.int .i64 c.y] W (fun e w' => e = .returned (.string (mkS (yr4 c.y))) ∧ Below W.heap.size W w') from by have h := itoaD_any c.y.toNat W ((hT.later hB1).later kb) (by omega); rw [digL_yr4 _ (by omega) (by omega), show ((c.y.toNat : Nat) : Int) = c.y by omega] at h; exact h)).mono ?_
    rintro e W' ⟨he, hb2⟩
    exact ⟨he, cv_keep hT hlt ⟨k0, k1, k2, k3, k4, k5, k6, k7, k8, kb⟩ hb2⟩
  have HC : Hid (∀ W : World, W.cell? ⟨w.heap.size, 0, none⟩ = some (.int .i64 c.y) ∧ W.cell? ⟨w.heap.size, 1, none⟩ = some (.int .i64 c.m) ∧ W.cell? ⟨w.heap.size, 2, none⟩ = some (.int .i64 c.d) ∧ W.cell? ⟨w.heap.size, 3, none⟩ = some (.int .i64 c.h) ∧ W.cell? ⟨w.heap.size, 4, none⟩ = some (.int .i64 c.n) ∧ W.cell? ⟨w.heap.size, 5, none⟩ = some (.int .i64 c.s) ∧ W.cell? ⟨w.heap.size, 6, none⟩ = some (.int .i64 c.w) ∧ W.cell? ⟨0, c.w.toNat, none⟩ = some (.string (mkS (dnm c.w))) ∧ W.cell? ⟨1, u1.toNat, none⟩ = some (.string (mkS (mnm c.m))) ∧ Below w1.heap.size w1 W → Calls Tryz.prog 229 #[.agg #[.int .i64 c.y, .int .i64 c.m, .int .i64 c.d, .int .i64 c.h, .int .i64 c.n, .int .i64 c.s, .int .i64 c.w]] W fun e W' => e = .returned (.string (mkS (clk c))) ∧ W'.cell? ⟨w.heap.size, 0, none⟩ = some (.int .i64 c.y) ∧ W'.cell? ⟨w.heap.size, 1, none⟩ = some (.int .i64 c.m) ∧ W'.cell? ⟨w.heap.size, 2, none⟩ = some (.int .i64 c.d) ∧ W'.cell? ⟨w.heap.size, 3, none⟩ = some (.int .i64 c.h) ∧ W'.cell? ⟨w.heap.size, 4, none⟩ = some (.int .i64 c.n) ∧ W'.cell? ⟨w.heap.size, 5, none⟩ = some (.int .i64 c.s) ∧ W'.cell? ⟨w.heap.size, 6, none⟩ = some (.int .i64 c.w) ∧ W'.cell? ⟨0, c.w.toNat, none⟩ = some (.string (mkS (dnm c.w))) ∧ W'.cell? ⟨1, u1.toNat, none⟩ = some (.string (mkS (mnm c.m))) ∧ Below w1.heap.size w1 W') := by
    intro W hS
    obtain ⟨k0, k1, k2, k3, k4, k5, k6, k7, k8, kb⟩ := hS
    refine (clock_any c W ((hT.later hB1).later kb) hr).mono ?_
    rintro e W' ⟨he, hb2⟩
    exact ⟨he, cv_keep hT hlt ⟨k0, k1, k2, k3, k4, k5, k6, k7, k8, kb⟩ hb2⟩
  have HB1 := Lib.hid hB1
  unfold cvV
  unfold cvC at hw1
  have HW1 := Lib.hid hw1
  have zd := two_size c.d
  have zc : (mkS (clk c)).size = 8 := by rw [size_mkS]; rfl
  have zn : 6 ≤ (mkS (dnm c.w)).size ∧ (mkS (dnm c.w)).size ≤ 9 := by rw [size_mkS]; exact dnm_len c.w r6
  have zm : (mkS (mnm c.m)).size = 3 := by
    obtain ⟨p, q, r, hm, -⟩ := mnm_three c.m r1
    rw [size_mkS, hm]; rfl
  have zy : (mkS (yr4 c.y)).size = 4 := by rw [size_mkS]; rfl
  have c1 : (3 : Int) ≤ ((mkS (dnm c.w)).size : Int) := by omega
  have zmin : min 3 (mkS (dnm c.w)).size = 3 := by omega
  have hd10 : decide (c.d < 10) = false := by simp; omega
  clear zn
  have hE : mkS (two c.d) = mkS (digL c.d.toNat) := by
    have hE2 : digL c.d.toNat = two c.d := by rw [digL_two _ (by omega) (by omega), show ((c.d.toNat : Nat) : Int) = c.d by omega]
    rw [hE2]; try rfl
  have zg : (mkS (digL c.d.toNat)).size = 2 := by
    have hE2 : digL c.d.toNat = two c.d := by rw [digL_two _ (by omega) (by omega), show ((c.d.toNat : Nat) : Int) = c.d by omega]
    rw [hE2, size_mkS]; rfl
  have hV := fC_eqS c (two c.d) (by unfold dC; simp; omega)
  rw [hE] at hV
  have HV := Lib.hid hV
  clear hE hV zd hcond

  clear hT hr hB1 hg hlt hw1 hu1 r0 r1 r2 r6
  generalize mkS (clk c) = CK at *
  generalize mkS (dnm c.w) = ND at *
  generalize mkS (mnm c.m) = NM at *
  generalize mkS (digL c.d.toNat) = DD at *
  generalize mkS (yr4 c.y) = YY at *
  generalize mkS (fC c) = R at *
  generalize c.y = v0 at *
  generalize c.m = v1 at *
  generalize c.d = v2 at *
  generalize c.h = v3 at *
  generalize c.n = v4 at *
  generalize c.s = v5 at *
  generalize c.w = v6 at *
  go_enter Tryz.func270, Tryz.ntmps270
  go_wp2_with fail
  rw [← HW1.out]
  refine (XD.out _ ⟨h0, h1, h2, h3, h4, h5, h6, h7, h8, Below.refl _ _⟩).mono ?_
  rintro e w2 ⟨rfl, p0, p1, p2, p3, p4, p5, p6, p7, p8, pb⟩
  have PB := Lib.hid pb
  clear h0 h1 h2 h3 h4 h5 h6 h7 h8 XD pb
  go_upto_region 4 with (fail)
  have j0 : w2.drew.cell? ⟨w.heap.size, 0, none⟩ = some (.int .i64 v0) := p0
  have j1 : w2.drew.cell? ⟨w.heap.size, 1, none⟩ = some (.int .i64 v1) := p1
  have j2 : w2.drew.cell? ⟨w.heap.size, 2, none⟩ = some (.int .i64 v2) := p2
  have j3 : w2.drew.cell? ⟨w.heap.size, 3, none⟩ = some (.int .i64 v3) := p3
  have j4 : w2.drew.cell? ⟨w.heap.size, 4, none⟩ = some (.int .i64 v4) := p4
  have j5 : w2.drew.cell? ⟨w.heap.size, 5, none⟩ = some (.int .i64 v5) := p5
  have j6 : w2.drew.cell? ⟨w.heap.size, 6, none⟩ = some (.int .i64 v6) := p6
  have j7 : w2.drew.cell? ⟨0, v6.toNat, none⟩ = some (.string ND) := p7
  have j8 : w2.drew.cell? ⟨1, u1.toNat, none⟩ = some (.string NM) := p8
  have jb : Below w1.heap.size w1 w2.drew := PB.out.drew
  go_region_held3 (fun w' => w'.cell? ⟨w.heap.size, 0, none⟩ = some (.int .i64 v0) ∧ w'.cell? ⟨w.heap.size, 1, none⟩ = some (.int .i64 v1) ∧ w'.cell? ⟨w.heap.size, 2, none⟩ = some (.int .i64 v2) ∧ w'.cell? ⟨w.heap.size, 3, none⟩ = some (.int .i64 v3) ∧ w'.cell? ⟨w.heap.size, 4, none⟩ = some (.int .i64 v4) ∧ w'.cell? ⟨w.heap.size, 5, none⟩ = some (.int .i64 v5) ∧ w'.cell? ⟨w.heap.size, 6, none⟩ = some (.int .i64 v6) ∧ w'.cell? ⟨0, v6.toNat, none⟩ = some (.string (ND)) ∧ w'.cell? ⟨1, u1.toNat, none⟩ = some (.string (NM)) ∧ Below w1.heap.size w1 w') (first | (refine ⟨?_, ?_, ?_, ?_, ?_, ?_, ?_, ?_, ?_, ?_⟩ <;> assumption)) (first
    | (go_at_call 87; refine (HY.out _ ⟨by assumption, by assumption, by assumption, by assumption, by assumption, by assumption, by assumption, by assumption, by assumption, by assumption⟩).mono ?_; rintro e w' ⟨rfl, k0, k1, k2, k3, k4, k5, k6, k7, k8, kb⟩)
    | (go_at_call 229; refine (HC.out _ ⟨by assumption, by assumption, by assumption, by assumption, by assumption, by assumption, by assumption, by assumption, by assumption, by assumption⟩).mono ?_; rintro e w' ⟨rfl, k0, k1, k2, k3, k4, k5, k6, k7, k8, kb⟩))
  all_goals
    go_wp2_with fail
    go_ret
    exact ⟨retS HV.out, HB1.out.trans (Below.mono (by assumption) HB1.out.size)⟩
end Tk
end Go.Proofs.YthooghgiokgdhaaGreatDoor
