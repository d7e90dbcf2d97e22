/- The document's date: clocks; digits at some places. -/
import Derived.Test.YtajmheblbnodjaaDoorDrB
import Derived.Test.YtajmheblbnodjaaDoorDtE
import Derived.Deep.Cut
namespace Go.Proofs.YtajmheblbnodjaaDoor
open Go.RowKit
namespace Tk

set_option maxHeartbeats 8000000 in
set_option maxRecDepth 100000 in
theorem rclock_any (c : Cv) (w : World) (hr : Rg c) :
    Calls Tryd.prog 51 #[cvV c] w fun e w' => e = .returned (.string (mkS (clk c))) ∧ Below w.heap.size w w' := by
  obtain ⟨w1, hw1⟩ : ∃ w1, w1 = w.alloc (.cells (cvC c) 23) := ⟨_, rfl⟩
  have hB1 : Below w.heap.size w w1 := hw1 ▸ (Below.refl _ _).alloc (Nat.le_refl _) _
  have hg : w1.heap[w.heap.size]? = some (.cells (cvC c) 23 (0, 0)) := hw1 ▸ heap_alloc_last w _
  have h3 : w1.cell? ⟨w.heap.size, 3, none⟩ = some (.int .i64 c.h) := by rw [Lib.cell_of_heap hg]; rfl
  have h4 : w1.cell? ⟨w.heap.size, 4, none⟩ = some (.int .i64 c.n) := by rw [Lib.cell_of_heap hg]; rfl
  have h5 : w1.cell? ⟨w.heap.size, 5, none⟩ = some (.int .i64 c.s) := by rw [Lib.cell_of_heap hg]; rfl
  have hlt : w.heap.size < w1.heap.size := (Array.getElem?_eq_some_iff.1 hg).1
  have HK : ∀ n : Int, 0 ≤ n → n ≤ 99 → ∀ W : World, W.cell? ⟨w.heap.size, 3, none⟩ = some (.int .i64 c.h) ∧ W.cell? ⟨w.heap.size, 4, none⟩ = some (.int .i64 c.n) ∧ W.cell? ⟨w.heap.size, 5, none⟩ = some (.int .i64 c.s) ∧ Below w1.heap.size w1 W →
      Calls Tryd.prog 50 #[.int .i64 n] W fun e W' => e = .returned (.string (mkS (two n))) ∧ W'.cell? ⟨w.heap.size, 3, none⟩ = some (.int .i64 c.h) ∧ W'.cell? ⟨w.heap.size, 4, none⟩ = some (.int .i64 c.n) ∧ W'.cell? ⟨w.heap.size, 5, none⟩ = some (.int .i64 c.s) ∧ Below w1.heap.size w1 W' := by
    rintro n hn0 hn1 W ⟨a3, a4, a5, hb⟩
    refine (rtwo_any n W ⟨hn0, hn1⟩).mono ?_
    rintro e W' ⟨he, hb2⟩
    have hs := hb.size
    exact ⟨he, (hb2.cell (by show w.heap.size < _; omega)).trans a3, (hb2.cell (by show w.heap.size < _; omega)).trans a4, (hb2.cell (by show w.heap.size < _; omega)).trans a5, hb.trans (hb2.mono hs)⟩
  have r3 := hr.h; have r4 := hr.n; have r5 := hr.s
  have H := Lib.hid HK
  have b3 : 0 ≤ c.h := by omega
  have d3 : c.h ≤ 99 := by omega
  have b4 : 0 ≤ c.n := by omega
  have d4 : c.n ≤ 99 := by omega
  have b5 : 0 ≤ c.s := by omega
  have d5 : c.s ≤ 99 := by omega
  have HV := Lib.hid (clk_eq c)
  have z3 := two_size c.h
  have z4 := two_size c.n
  have z5 := two_size c.s
  have HB1 := Lib.hid hB1
  have HS0 := Lib.hid (Below.refl w1.heap.size w1)
  unfold cvV
  unfold cvC at hw1
  have HW1 := Lib.hid hw1
  clear hr HK hB1 hg hlt r3 r4 r5 hw1
  generalize mkS (clk c) = R at *
  generalize c.y = v0 at *
  generalize c.m = v1 at *
  generalize c.d = v2 at *
  generalize c.h = v3 at *
  generalize c.n = v4 at *
  generalize c.s = v5 at *
  generalize c.w = v6 at *
  go_enter Tryd.func51, Tryd.ntmps51
  go_upto_region 1 with (fail)
  rw [← HW1.out]
  have j3 : w1.drew.cell? ⟨w.heap.size, 3, none⟩ = some (.int .i64 v3) := h3
  have j4 : w1.drew.cell? ⟨w.heap.size, 4, none⟩ = some (.int .i64 v4) := h4
  have j5 : w1.drew.cell? ⟨w.heap.size, 5, none⟩ = some (.int .i64 v5) := h5
  have jb : Below w1.heap.size w1 w1.drew := (Below.refl _ _).drew
  go_region_held3 (fun w' => w'.cell? ⟨w.heap.size, 3, none⟩ = some (.int .i64 v3) ∧ w'.cell? ⟨w.heap.size, 4, none⟩ = some (.int .i64 v4) ∧ w'.cell? ⟨w.heap.size, 5, none⟩ = some (.int .i64 v5) ∧ Below w1.heap.size w1 w') (first | (refine ⟨?_, ?_, ?_, ?_⟩ <;> assumption)) (first
    | (go_at_call 50; refine (H.out _ (by assumption) (by assumption) _ ⟨by assumption, by assumption, by assumption, by assumption⟩).mono ?_; rintro e w' ⟨rfl, k3, k4, k5, kb⟩))
  all_goals
    go_wp2_with fail
    go_ret
    exact ⟨retS HV.out, HB1.out.trans (Below.mono (by assumption) HB1.out.size)⟩

/-- the digits at some places, or -1 -/
def rnum (s : Bs) (a b : Nat) : Int := if b ≤ s.length ∧ ((s.drop a).take (b - a)).all isDig = true then (valFrom 0 ((s.drop a).take (b - a)) : Int) else -1
theorem rnum_bad {s : Bs} {a b i : Nat} (h1 : a ≤ i) (h2 : i < b) (h : s.length ≤ i ∨ (i < s.length ∧ isDig (s.getD i 0) = false)) : rnum s a b = -1 := by
  unfold rnum
  rw [if_neg]
  rintro ⟨hb, hall⟩
  rcases h with h | ⟨h3, h4⟩
  · omega
  · have hm : s.getD i 0 ∈ (s.drop a).take (b - a) := by
      rw [List.mem_iff_getElem?]
      refine ⟨i - a, ?_⟩
      rw [List.getElem?_take, if_pos (by omega), List.getElem?_drop, show a + (i - a) = i by omega]
      simp [List.getD, h3]
    have := List.all_eq_true.1 hall _ hm
    rw [h4] at this; cases this
theorem rnum_go {s : Bs} {a b : Nat} (h : b ≤ s.length) (hd : ∀ i, a ≤ i → i < b → isDig (s.getD i 0) = true) : rnum s a b = (valFrom 0 ((s.drop a).take (b - a)) : Int) := by
  unfold rnum
  rw [if_pos]
  refine ⟨h, List.all_eq_true.2 fun x hx => ?_⟩
  obtain ⟨k, hk⟩ := List.mem_iff_getElem?.1 hx
  rw [List.getElem?_take] at hk
  split at hk
  · rw [List.getElem?_drop] at hk
    have hlt : a + k < s.length := by
      refine Nat.lt_of_not_le fun hle => ?_
      rw [List.getElem?_eq_none hle] at hk; cases hk
    have := hd (a + k) (by omega) (by omega)
    simpa [List.getD, hk] using this
  · cases hk
theorem slice_next {s : Bs} {a i : Nat} (h1 : a ≤ i) (h2 : i < s.length) : (s.drop a).take (i + 1 - a) = (s.drop a).take (i - a) ++ [s.getD i 0] := by
  rw [show i + 1 - a = (i - a) + 1 by omega, take_snoc _ _ (by rw [List.length_drop]; omega)]
  congr 2
  simp [List.getD, List.getElem?_drop, show a + (i - a) = i by omega]
end Tk
end Go.Proofs.YtajmheblbnodjaaDoor
