/- date: the law's liveliness; the next second and the next day; civil times in memory. -/
import Derived.Test.YtajmheblbnodjaaDoorDtM
namespace Go.Proofs.YtajmheblbnodjaaDoor
open Go.RowKit
namespace Tk

theorem pP_lives : pP [83, 117, 110, 44, 32, 48, 54, 32, 78, 111, 118, 32, 49, 57, 57, 52, 32, 48, 56, 58, 52, 57, 58, 51, 55, 32, 71, 77, 84] (yNow 0) = some 784111777 := by decide +kernel

set_option maxHeartbeats 4000000 in
set_option maxRecDepth 100000 in
theorem lives9_any (w : World) (hN : NamH w) :
    Calls Tryd.prog 6 #[] w fun e w' => e = .returned (.bool true) ∧ Below w.heap.size w w' := by
  have h := parse_any ⟨#[83, 117, 110, 44, 32, 48, 54, 32, 78, 111, 118, 32, 49, 57, 57, 52, 32, 48, 56, 58, 52, 57, 58, 51, 55, 32, 71, 77, 84]⟩ 0 w hN (by decide)
  unfold OptPost at h
  rw [show bs ⟨#[83, 117, 110, 44, 32, 48, 54, 32, 78, 111, 118, 32, 49, 57, 57, 52, 32, 48, 56, 58, 52, 57, 58, 51, 55, 32, 71, 77, 84]⟩ = [83, 117, 110, 44, 32, 48, 54, 32, 78, 111, 118, 32, 49, 57, 57, 52, 32, 48, 56, 58, 52, 57, 58, 51, 55, 32, 71, 77, 84] from rfl, pP_lives] at h
  have H := Lib.hid (show Calls Tryd.prog 15 #[.string ⟨#[83, 117, 110, 44, 32, 48, 54, 32, 78, 111, 118, 32, 49, 57, 57, 52, 32, 48, 56, 58, 52, 57, 58, 51, 55, 32, 71, 77, 84]⟩, .int .i64 0] w fun e w' => e = .returned (.tuple #[.int .i64 784111777, .int .i64 0]) ∧ Below w.heap.size w w' from h)
  clear h hN
  go_enter Tryd.func6, Tryd.ntmps6
  go_wp2_with fail
  refine H.out.mono ?_
  rintro e w1 ⟨rfl, hb⟩
  have HB := Lib.hid hb
  clear hb
  go_wp2_with fail
  go_ret
  exact ⟨rfl, HB.out⟩

/-- a civil time in a block of its own -/
def CvB (W : World) (g : Nat) (c : Cv) : Prop := W.heap[g]? = some (.cells (cvC c) 23 (0, 0))
theorem CvB.new (w : World) (c : Cv) : CvB (w.alloc (.cells (cvC c) 23)) w.heap.size c := heap_alloc_last w _
theorem CvB.lt {w : World} {g : Nat} {c : Cv} (h : CvB w g c) : g < w.heap.size := (Array.getElem?_eq_some_iff.1 h).1
theorem CvB.later {w w' : World} {g : Nat} {c : Cv} (h : CvB w g c) (hb : Below w.heap.size w w') : CvB w' g c := by
  have hl := h.lt
  unfold CvB at *; rw [hb.block g hl]; exact h
theorem CvB.cells {w : World} {g : Nat} {c : Cv} (h : CvB w g c) : w.cell? ⟨g, 0, none⟩ = some (.int .i64 c.y) ∧ w.cell? ⟨g, 1, none⟩ = some (.int .i64 c.m) ∧ w.cell? ⟨g, 2, none⟩ = some (.int .i64 c.d) ∧ w.cell? ⟨g, 3, none⟩ = some (.int .i64 c.h) ∧ w.cell? ⟨g, 4, none⟩ = some (.int .i64 c.n) ∧ w.cell? ⟨g, 5, none⟩ = some (.int .i64 c.s) ∧ w.cell? ⟨g, 6, none⟩ = some (.int .i64 c.w) := by
  unfold CvB at h
  refine ⟨?_, ?_, ?_, ?_, ?_, ?_, ?_⟩ <;> (rw [Lib.cell_of_heap h]; rfl)
/-- Civil of a second, its answer put into a box -/
theorem civ_box (t : Int) (w : World) (h : okT t = true) :
    Calls Tryd.prog 9 #[.int .i64 t] w fun e w' => e = .returned (.tuple #[cvV (civ t), .int .i64 0]) ∧ Below w.heap.size w w' := by
  obtain ⟨h1, h2⟩ := civX_ok h
  have := (okT_iff t).1 h
  unfold maxT at this
  have hc := civil_any t w (by omega)
  unfold CivPost at hc
  rw [h1, h2] at hc
  exact hc

theorem next_same (t : Int) (_h : 0 ≤ t) (hs : t % 86400 % 60 < 59) : (t + 1) / 86400 = t / 86400 ∧ (t + 1) % 86400 = t % 86400 + 1 := by omega
theorem civ_same {t : Int} (h : 0 ≤ t) (hs : (civ t).s < 59) : (civ (t + 1)).s = (civ t).s + 1 ∧ (civ (t + 1)).n = (civ t).n ∧ (civ (t + 1)).h = (civ t).h ∧ (civ (t + 1)).d = (civ t).d := by
  have hs' : t % 86400 % 60 < 59 := hs
  obtain ⟨e1, e2⟩ := next_same t h hs'
  unfold civ
  rw [e1, e2]
  refine ⟨?_, ?_, ?_, rfl⟩ <;> dsimp only <;> omega
theorem civ_carry {t : Int} (hs : (civ t).s = 59) : (civ (t + 1)).s = 0 ∧ ((civ t).n < 59 → (civ (t + 1)).n = (civ t).n + 1) ∧ ((civ t).n = 59 → (civ (t + 1)).n = 0) := by
  have hs' : t % 86400 % 60 = 59 := hs
  refine ⟨?_, ?_, ?_⟩
  · show (t + 1) % 86400 % 60 = 0; omega
  · intro hn
    have hn' : t % 86400 % 3600 / 60 < 59 := hn
    show (t + 1) % 86400 % 3600 / 60 = t % 86400 % 3600 / 60 + 1; omega
  · intro hn
    have hn' : t % 86400 % 3600 / 60 = 59 := hn
    show (t + 1) % 86400 % 3600 / 60 = 0; omega
theorem day_next (n : Int) (h : 0 ≤ n) :
    let d := fun n => n - yS (yOf n) - mC (yOf n) (mOf (yOf n) (n - yS (yOf n)) - 1) + 1
    d (n + 1) = d n + 1 ∨ d (n + 1) = 1 := by
  dsimp only
  obtain ⟨a1, a2⟩ := yOf_spec n h
  have a3 := a2
  rw [yS_next] at a3
  obtain ⟨m1, m2, m3, m4⟩ := mOf_spec (yOf n) (n - yS (yOf n)) (by omega) (by omega)
  by_cases hy : n + 1 < yS (yOf n + 1)
  · have ey : yOf (n + 1) = yOf n := yOf_is (by omega) (by omega) hy
    rw [ey]
    generalize yOf n = y at *
    generalize mOf y (n - yS y) = m at *
    by_cases hm : n + 1 - yS y < mC y m
    · have em : mOf y (n + 1 - yS y) = m := mOf_is y _ m1 m2 (by omega) hm
      rw [em]; left; omega
    · rw [yS_next] at hy
      have hm12 : m < 12 := Nat.lt_of_not_le fun hge => by
        have e : m = 12 := by omega
        rw [e, mC_12] at hm
        omega
      have hn := mC_next y m hm12
      have h28 := mD_28 y ((m : Int) + 1)
      have em : mOf y (n + 1 - yS y) = m + 1 := mOf_is y _ (by omega) (by omega) (by rw [Nat.add_sub_cancel]; omega) (by omega)
      rw [em, Nat.add_sub_cancel]; right; omega
  · have hz := yS_next (yOf n + 1)
    have hl := lpY_01 (yOf n + 1)
    have ey : yOf (n + 1) = yOf n + 1 := yOf_is (by omega) (by omega) (by omega)
    rw [ey]
    generalize yOf n = y at *
    have em : mOf (y + 1) (n + 1 - yS (y + 1)) = 1 := mOf_is (y + 1) _ (by decide) (by decide) (by show mC (y + 1) 0 ≤ _; show (0 : Int) ≤ _; omega) (by show _ < (31 : Int); omega)
    rw [em]; right
    show n + 1 - yS (y + 1) - mC (y + 1) 0 + 1 = 1
    show n + 1 - yS (y + 1) - 0 + 1 = 1
    omega
theorem civ_later {t : Int} (h : 0 ≤ t) : (civ (t + 86400)).w = ((civ t).w + 1) % 7 ∧ (civ (t + 86400)).h = (civ t).h ∧ (civ (t + 86400)).n = (civ t).n ∧ (civ (t + 86400)).s = (civ t).s ∧ ((civ (t + 86400)).d = (civ t).d + 1 ∨ (civ (t + 86400)).d = 1) := by
  have e1 : (t + 86400) / 86400 = t / 86400 + 1 := by omega
  have e2 : (t + 86400) % 86400 = t % 86400 := by omega
  have hd := day_next (t / 86400) (by omega)
  unfold civ
  rw [e1, e2]
  refine ⟨?_, rfl, rfl, rfl, hd⟩
  dsimp only; omega
theorem civ_dayV {t : Int} (h : okT t = true) : dayV (civ t).y (civ t).m (civ t).d = t / 86400 ∧ dayE (civ t).y (civ t).m (civ t).d = 0 := by
  obtain ⟨h0, h1⟩ := (okT_iff t).1 h
  obtain ⟨s1, s2⟩ := secC_same h0 h1
  have hr := civ_rg h0 h1
  have a := hr.h; have b := hr.n; have c := hr.s
  unfold dayV dayE
  rw [if_pos s1, if_pos s1]
  exact ⟨by omega, rfl⟩
end Tk
end Go.Proofs.YtajmheblbnodjaaDoor
