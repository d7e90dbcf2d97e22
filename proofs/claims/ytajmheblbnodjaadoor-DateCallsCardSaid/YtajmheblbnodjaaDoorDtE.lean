/- date: clocks and the first format. -/
import Derived.Test.YtajmheblbnodjaaDoorDtD
import Derived.Deep.Cut
namespace Go.Proofs.YtajmheblbnodjaaDoor
open Go.RowKit
namespace Tk

/-- the cells of a civil time in memory -/
def cvC (c : Cv) : Array Value := #[.int .i64 c.y, .int .i64 c.m, .int .i64 c.d, .int .i64 c.h, .int .i64 c.n, .int .i64 c.s, .int .i64 c.w]
theorem clk_eq (c : Cv) : mkS (two c.h) ++ ⟨#[58]⟩ ++ mkS (two c.n) ++ ⟨#[58]⟩ ++ mkS (two c.s) = mkS (clk c) := by
  rw [show (⟨#[58]⟩ : ByteArray) = mkS [58] from rfl, mkS_append, mkS_append, mkS_append, mkS_append]; rfl
theorem two_size (n : Int) : (mkS (two n)).size = 2 := by rw [size_mkS]; rfl

set_option maxHeartbeats 8000000 in
set_option maxRecDepth 100000 in
theorem clock_any (c : Cv) (w : World) (hT : NamH w) (hr : Rg c) :
    Calls Tryd.prog 47 #[cvV c] w fun e w' => e = .returned (.string (mkS (clk c))) ∧ Below w.heap.size w w' := by
  obtain ⟨w1, hw1⟩ : ∃ w1, w1 = w.alloc (.cells (cvC c) 23) := ⟨_, rfl⟩
  have hB1 : Below w.heap.size w w1 := hw1 ▸ (Below.refl _ _).alloc (Nat.le_refl _) _
  have hg : w1.heap[w.heap.size]? = some (.cells (cvC c) 23 (0, 0)) := hw1 ▸ heap_alloc_last w _
  have h3 : w1.cell? ⟨w.heap.size, 3, none⟩ = some (.int .i64 c.h) := by rw [Lib.cell_of_heap hg]; rfl
  have h4 : w1.cell? ⟨w.heap.size, 4, none⟩ = some (.int .i64 c.n) := by rw [Lib.cell_of_heap hg]; rfl
  have h5 : w1.cell? ⟨w.heap.size, 5, none⟩ = some (.int .i64 c.s) := by rw [Lib.cell_of_heap hg]; rfl
  have hlt : w.heap.size < w1.heap.size := (Array.getElem?_eq_some_iff.1 hg).1
  have HK : ∀ n : Int, 0 ≤ n → n ≤ 99 → ∀ W : World, W.cell? ⟨w.heap.size, 3, none⟩ = some (.int .i64 c.h) ∧ W.cell? ⟨w.heap.size, 4, none⟩ = some (.int .i64 c.n) ∧ W.cell? ⟨w.heap.size, 5, none⟩ = some (.int .i64 c.s) ∧ Below w1.heap.size w1 W →
      Calls Tryd.prog 45 #[.int .i64 n] W fun e W' => e = .returned (.string (mkS (two n))) ∧ W'.cell? ⟨w.heap.size, 3, none⟩ = some (.int .i64 c.h) ∧ W'.cell? ⟨w.heap.size, 4, none⟩ = some (.int .i64 c.n) ∧ W'.cell? ⟨w.heap.size, 5, none⟩ = some (.int .i64 c.s) ∧ Below w1.heap.size w1 W' := by
    rintro n hn0 hn1 W ⟨a3, a4, a5, hb⟩
    refine (two_any n W ((hT.later hB1).later hb) ⟨hn0, hn1⟩).mono ?_
    rintro e W' ⟨he, hb2⟩
    have hs := hb.size
    exact ⟨he, (hb2.cell (by show w.heap.size < _; omega)).trans a3, (hb2.cell (by show w.heap.size < _; omega)).trans a4, (hb2.cell (by show w.heap.size < _; omega)).trans a5, hb.trans (hb2.mono hs)⟩
  have r3 := hr.h; have r4 := hr.n; have r5 := hr.s
  have H3 := Lib.hid (HK c.h (by omega) (by omega))
  have H4 := Lib.hid (HK c.n (by omega) (by omega))
  have H5 := Lib.hid (HK c.s (by omega) (by omega))
  have HV := Lib.hid (clk_eq c)
  have z3 := two_size c.h
  have z4 := two_size c.n
  have z5 := two_size c.s
  have HB1 := Lib.hid hB1
  have HS0 := Lib.hid (Below.refl w1.heap.size w1)
  unfold cvV
  unfold cvC at hw1
  have HW1 := Lib.hid hw1
  clear hT hr HK hB1 hg hlt r3 r4 r5 hw1
  generalize mkS (clk c) = R at *
  generalize mkS (two c.h) = A at *
  generalize mkS (two c.n) = B at *
  generalize mkS (two c.s) = C at *
  generalize c.y = v0 at *
  generalize c.m = v1 at *
  generalize c.d = v2 at *
  generalize c.h = v3 at *
  generalize c.n = v4 at *
  generalize c.s = v5 at *
  generalize c.w = v6 at *
  go_enter Tryd.func47, Tryd.ntmps47
  go_upto_region 1 with (fail)
  rw [← HW1.out]
  have j3 : w1.drew.cell? ⟨w.heap.size, 3, none⟩ = some (.int .i64 v3) := h3
  have j4 : w1.drew.cell? ⟨w.heap.size, 4, none⟩ = some (.int .i64 v4) := h4
  have j5 : w1.drew.cell? ⟨w.heap.size, 5, none⟩ = some (.int .i64 v5) := h5
  have jb : Below w1.heap.size w1 w1.drew := (Below.refl _ _).drew
  go_region_held3 (fun w' => w'.cell? ⟨w.heap.size, 3, none⟩ = some (.int .i64 v3) ∧ w'.cell? ⟨w.heap.size, 4, none⟩ = some (.int .i64 v4) ∧ w'.cell? ⟨w.heap.size, 5, none⟩ = some (.int .i64 v5) ∧ Below w1.heap.size w1 w') (first | (refine ⟨?_, ?_, ?_, ?_⟩ <;> assumption)) (first
    | (go_at_call 45; refine (H3.out _ ⟨by assumption, by assumption, by assumption, by assumption⟩).mono ?_; rintro e w' ⟨rfl, k3, k4, k5, kb⟩)
    | (go_at_call 45; refine (H4.out _ ⟨by assumption, by assumption, by assumption, by assumption⟩).mono ?_; rintro e w' ⟨rfl, k3, k4, k5, kb⟩)
    | (go_at_call 45; refine (H5.out _ ⟨by assumption, by assumption, by assumption, by assumption⟩).mono ?_; rintro e w' ⟨rfl, k3, k4, k5, kb⟩))
  all_goals
    go_wp2_with fail
    go_ret
    exact ⟨retS HV.out, HB1.out.trans (Below.mono (by assumption) HB1.out.size)⟩
end Tk
end Go.Proofs.YtajmheblbnodjaaDoor
