/- DrP DrC DtN DrF DrG DrE DrI Bxr DrH DrJ ReC, put together. -/
import Derived.Test.YthooghgiokgdhaaGreatDoorQP
import Derived.Test.YthooghgiokgdhaaGreatDoorQO
import Derived.Deep.Cut
import Derived.Test.YthooghgiokgdhaaGreatDoorQL
import Derived.BigQuiet
import Derived.Deep.QuietTactic
import Derived.Laws.AppendOwnNone
import Derived.Laws.OwnMore
import Derived.BigFrame
import Derived.Test.YthooghgiokgdhaaGreatDoorQC
import Derived.Deep.RegionHeld3
import Derived.Deep.RegionWith
import Derived.OrdersHeld
import Derived.Test.YthooghgiokgdhaaGreatDoorQH
namespace Go.Proofs.YthooghgiokgdhaaGreatDoor
open Go.RowKit
namespace Tk

def cvA (s : Bs) : Cv := ⟨rnum s 12 16, monNo ((s.drop 8).take 3), rnum s 5 7, rnum s 17 19, rnum s 20 22, rnum s 23 25, 0⟩
def dyC (s : Bs) : Int := if 9 < s.length ∧ s.getD 8 0 = 32 then rnum s 9 10 else rnum s 8 10
def cvK (s : Bs) : Cv := ⟨rnum s 20 24, monNo ((s.drop 4).take 3), dyC s, rnum s 11 13, rnum s 14 16, rnum s 17 19, 0⟩
def cma (s : Bs) : Nat := (s.takeWhile (fun c => c != 44)).length
def cvM (s : Bs) (now : Int) : Cv := ⟨lateY (rnum s (cma s + 9) (cma s + 11)) now, monNo ((s.drop (cma s + 5)).take 3), rnum s (cma s + 2) (cma s + 4), rnum s (cma s + 12) (cma s + 14), rnum s (cma s + 15) (cma s + 17), rnum s (cma s + 18) (cma s + 20), 0⟩
/-- with its weekday -/
def wkd (c : Cv) : Cv := ⟨c.y, c.m, c.d, c.h, c.n, c.s, (dayN c.y c.m c.d + 4) % 7⟩
def rTry (c : Cv) (s : Bs) : Option Int := if okC (wkd c) = true ∧ (fA (wkd c) = s ∨ fB (wkd c) = s ∨ fC (wkd c) = s) then some (secC (wkd c)) else none
def rP (s : Bs) (now : Int) : Option Int := match rTry (cvA s) s with
  | some t => some t
  | none => match rTry (cvK s) s with
    | some t => some t
    | none => if 0 ≤ rnum s (cma s + 9) (cma s + 11) then rTry (cvM s now) s else none

theorem rTry_some {c : Cv} {s : Bs} {t : Int} (h : rTry c s = some t) : 0 ≤ t ∧ t ≤ maxT ∧ civ t = wkd c ∧ okC (wkd c) = true ∧ (fA (civ t) = s ∨ fB (civ t) = s ∨ fC (civ t) = s) := by
  unfold rTry at h
  split at h
  · rename_i hc
    obtain rfl := Option.some.inj h
    obtain ⟨h1, h2, h3⟩ := sec_ok _ hc.1
    rw [h3]
    exact ⟨h1, h2, rfl, hc.1, hc.2⟩
  · cases h
theorem rTry_bad {c : Cv} {s : Bs} (h : ¬ 1970 ≤ c.y) : rTry c s = none := by
  unfold rTry
  rw [if_neg]
  rintro ⟨h1, -⟩
  exact h (okC_rg h1).y.1
theorem wkd_civ {t : Int} (h0 : 0 ≤ t) (h1 : t ≤ maxT) : wkd (civ t) = civ t := by
  have hk := (civ_ok t h0 h1).1
  unfold okC at hk
  simp only [Bool.and_eq_true, decide_eq_true_eq] at hk
  unfold wkd
  rw [← hk.2]
theorem rTry_civ {c : Cv} {s : Bs} {t : Int} (h0 : 0 ≤ t) (h1 : t ≤ maxT) (hc : wkd c = civ t) (hs : fA (civ t) = s ∨ fB (civ t) = s ∨ fC (civ t) = s) : rTry c s = some t := by
  unfold rTry
  rw [hc, if_pos ⟨(civ_ok t h0 h1).1, hs⟩, (civ_ok t h0 h1).2]
theorem rnum_two {s : Bs} {a : Nat} {n : Int} (hn : 0 ≤ n ∧ n ≤ 99) (hl : a + 2 ≤ s.length) (h : (s.drop a).take 2 = two n) : rnum s a (a + 2) = n := by
  unfold rnum
  rw [show a + 2 - a = 2 by omega, h, if_pos ⟨hl, List.all_eq_true.2 (two_digs n hn)⟩, valFrom_two n hn]
theorem rnum_yr {s : Bs} {a : Nat} {n : Int} (hn : 0 ≤ n ∧ n ≤ 9999) (hl : a + 4 ≤ s.length) (h : (s.drop a).take 4 = yr4 n) : rnum s a (a + 4) = n := by
  unfold rnum
  rw [show a + 4 - a = 4 by omega, h, if_pos ⟨hl, List.all_eq_true.2 (yr4_digs n hn)⟩, valFrom_yr4 n hn]
theorem clk_at {s : Bs} {a : Nat} {c : Cv} (hr : Rg c) (hl : a + 8 ≤ s.length) (h : (s.drop a).take 8 = clk c) : rnum s a (a + 2) = c.h ∧ rnum s (a + 3) (a + 5) = c.n ∧ rnum s (a + 6) (a + 8) = c.s := by
  have b1 := hr.h; have b2 := hr.n; have b3 := hr.s
  have k : ∀ i j, i + j ≤ 8 → (s.drop (a + i)).take j = ((clk c).drop i).take j := by
    intro i j hij
    rw [← h, List.drop_take, List.take_take, List.drop_drop, Nat.min_eq_left (by omega)]
  refine ⟨rnum_two (by omega) (by omega) ?_, rnum_two (a := a + 3) (by omega) (by omega) ?_, rnum_two (a := a + 6) (by omega) (by omega) ?_⟩
  · exact (k 0 2 (by omega)).trans rfl
  · exact (k 3 2 (by omega)).trans rfl
  · exact (k 6 2 (by omega)).trans rfl
theorem cvA_fA {t : Int} (h0 : 0 ≤ t) (h1 : t ≤ maxT) : wkd (cvA (fA (civ t))) = civ t := by
  have hr := civ_rg h0 h1
  obtain ⟨l1, l2, l3, l4, l5⟩ := fA_parts hr
  have a1 := hr.y; have a2 := hr.d
  obtain ⟨c1, c2, c3⟩ := clk_at (a := 17) hr (by omega) l5
  have e := wkd_civ h0 h1
  unfold cvA
  rw [rnum_yr (a := 12) (by omega) (by omega) l2, l3, monNo_mnm _ hr.m, rnum_two (a := 5) (by omega) (by omega) l4, c1, c2, c3]
  exact e
theorem fC_day {c : Cv} (hr : Rg c) : dyC (fC c) = c.d := by
  obtain ⟨l1, -, -, l4, -⟩ := fC_parts hr
  have a2 := hr.d
  have e8 : ∀ x y, dC c.d = [x, y] → (fC c).getD 8 0 = x ∧ ((fC c).drop 9).take 1 = [y] := by
    intro x y h
    obtain ⟨a, b, e, hw, -⟩ := dnm_three c.w hr.w
    obtain ⟨p, q, r, hm, -⟩ := mnm_three c.m hr.m
    unfold fC; rw [hw, hm, h]; exact ⟨rfl, rfl⟩
  unfold dyC
  by_cases hd : c.d < 10
  · obtain ⟨q1, q2⟩ := e8 32 (d1 c.d) (by unfold dC; rw [if_pos hd])
    rw [if_pos ⟨by omega, q1⟩]
    unfold rnum
    rw [show 10 - 9 = 1 from rfl, q2, if_pos ⟨by omega, by simp [d1_dig c.d (by omega)]⟩]
    have hn := d1_nat c.d (by omega)
    show ((0 * 10 + ((d1 c.d).toNat - 48) : Nat) : Int) = c.d
    rw [hn]; omega
  · obtain ⟨q1, -⟩ := e8 (d1 (c.d / 10)) (d1 (c.d % 10)) (by unfold dC; rw [if_neg hd]; rfl)
    rw [if_neg (fun h => by rw [q1] at h; exact d1_ne (c.d / 10) (by omega) 32 (by decide) h.2)]
    exact rnum_two (a := 8) (by omega) (by omega) (by rw [l4]; unfold dC; rw [if_neg hd])
theorem cvK_fC {t : Int} (h0 : 0 ≤ t) (h1 : t ≤ maxT) : wkd (cvK (fC (civ t))) = civ t := by
  have hr := civ_rg h0 h1
  obtain ⟨l1, l2, l3, l4, l5⟩ := fC_parts hr
  have a1 := hr.y
  obtain ⟨c1, c2, c3⟩ := clk_at (a := 11) hr (by omega) l5
  have e := wkd_civ h0 h1
  have l2' : ((fC (civ t)).drop 20).take 4 = yr4 (civ t).y := by rw [l2]; rfl
  unfold cvK
  rw [rnum_yr (a := 20) (by omega) (by omega) l2', l3, monNo_mnm _ hr.m, fC_day hr, c1, c2, c3]
  exact e
theorem cvA_fC {c : Cv} (hr : Rg c) : ¬ 1970 ≤ (cvA (fC c)).y := by
  have h : rnum (fC c) 12 16 = -1 := by
    refine rnum_bad (i := 13) (by omega) (by omega) (.inr ⟨by rw [(fC_parts hr).1]; decide, ?_⟩)
    obtain ⟨a, b, e, hw, -⟩ := dnm_three c.w hr.w
    obtain ⟨p, q, r, hm, -⟩ := mnm_three c.m hr.m
    obtain ⟨x, y, hd⟩ := dC_two c.d
    have : (fC c).getD 13 0 = 58 := by unfold fC; rw [hw, hm, hd]; rfl
    rw [this]; decide
  show ¬ 1970 ≤ rnum (fC c) 12 16
  rw [h]; decide

theorem drop_shift (l m : Bs) (k : Nat) : (l ++ m).drop (l.length + k) = m.drop k := by
  rw [← List.drop_drop, List.drop_left' rfl]
theorem rnum_shift (l m : Bs) (a b : Nat) : rnum (l ++ m) (l.length + a) (l.length + b) = rnum m a b := by
  unfold rnum
  rw [drop_shift, show l.length + b - (l.length + a) = b - a by omega, List.length_append]
  by_cases h : b ≤ m.length
  · simp only [show l.length + b ≤ l.length + m.length by omega, h, true_and]
  · simp only [show ¬ l.length + b ≤ l.length + m.length by omega, h, false_and]
theorem getD_shift (l m : Bs) (k : Nat) : (l ++ m).getD (l.length + k) 0 = m.getD k 0 := by
  simp [List.getD, List.getElem?_append_right]
theorem hdB_len (w : Int) : (dnm w ++ [44, 32]).length = (dnm w).length + 2 := by simp
theorem cma_fB {c : Cv} (hr : Rg c) : cma (fB c) = (dnm c.w).length := by
  rw [fB_eq]
  generalize tlB c = r
  have hw := hr.w
  generalize c.w = w at *
  have : w = 0 ∨ w = 1 ∨ w = 2 ∨ w = 3 ∨ w = 4 ∨ w = 5 ∨ w = 6 := by omega
  rcases this with rfl | rfl | rfl | rfl | rfl | rfl | rfl <;> rfl
theorem tlB_at {c : Cv} (hr : Rg c) : (tlB c).getD 2 0 = 45 ∧ (tlB c).getD 6 0 = 45 ∧ (tlB c).getD 12 0 = 58 := by
  obtain ⟨p, q, r, hm, -⟩ := mnm_three c.m hr.m
  unfold tlB
  rw [hm]
  exact ⟨rfl, rfl, rfl⟩
theorem cvM_fB {c : Cv} (hr : Rg c) (now : Int) : rnum (fB c) (cma (fB c) + 9) (cma (fB c) + 11) = c.y % 100 ∧ cvM (fB c) now = ⟨lateY (c.y % 100) now, c.m, c.d, c.h, c.n, c.s, 0⟩ := by
  obtain ⟨t1, t2, t3, t4, t5⟩ := tlB_parts hr
  have a1 := hr.y; have a2 := hr.d
  have e := cma_fB hr
  have hl := hdB_len c.w
  obtain ⟨c1, c2, c3⟩ := clk_at (a := 10) hr (by omega) t5
  have sh : ∀ a b, rnum (fB c) (cma (fB c) + (2 + a)) (cma (fB c) + (2 + b)) = rnum (tlB c) a b := by
    intro a b
    have := rnum_shift (dnm c.w ++ [44, 32]) (tlB c) a b
    rw [hl] at this
    rw [e, fB_eq, ← Nat.add_assoc, ← Nat.add_assoc]
    exact this
  have sy := (sh 7 9).trans (rnum_two (a := 7) (n := c.y % 100) (by omega) (by omega) t2)
  have sd := (sh 0 2).trans (rnum_two (a := 0) (n := c.d) (by omega) (by omega) t4)
  have s1 := (sh 10 12).trans c1
  have s2 := (sh 13 15).trans c2
  have s3 := (sh 16 18).trans c3
  have sm : ((fB c).drop (cma (fB c) + 5)).take 3 = mnm c.m := by
    have := drop_shift (dnm c.w ++ [44, 32]) (tlB c) 3
    rw [hl] at this
    rw [e, fB_eq, show (dnm c.w).length + 5 = (dnm c.w).length + 2 + 3 by omega, this]
    exact t3
  refine ⟨sy, ?_⟩
  unfold cvM
  rw [show cma (fB c) + 9 = cma (fB c) + (2 + 7) from rfl, show cma (fB c) + 11 = cma (fB c) + (2 + 9) from rfl, sy, sm, monNo_mnm _ hr.m, show cma (fB c) + 2 = cma (fB c) + (2 + 0) from rfl, show cma (fB c) + 4 = cma (fB c) + (2 + 2) from rfl, sd, show cma (fB c) + 12 = cma (fB c) + (2 + 10) from rfl, show cma (fB c) + 14 = cma (fB c) + (2 + 12) from rfl, s1, show cma (fB c) + 15 = cma (fB c) + (2 + 13) from rfl, show cma (fB c) + 17 = cma (fB c) + (2 + 15) from rfl, s2, show cma (fB c) + 18 = cma (fB c) + (2 + 16) from rfl, show cma (fB c) + 20 = cma (fB c) + (2 + 18) from rfl, s3]
theorem fB_getD {c : Cv} (k : Nat) : (fB c).getD ((dnm c.w).length + 2 + k) 0 = (tlB c).getD k 0 := by
  have := getD_shift (dnm c.w ++ [44, 32]) (tlB c) k
  rw [hdB_len] at this
  rw [fB_eq]; exact this
theorem cvA_fB {c : Cv} (hr : Rg c) : ¬ 1970 ≤ (cvA (fB c)).y := by
  have hL := dnm_len c.w hr.w
  have hf := fB_len hr
  obtain ⟨q2, q6, -⟩ := tlB_at hr
  have h : rnum (fB c) 12 16 = -1 := by
    by_cases h8 : 8 ≤ (dnm c.w).length
    · exact rnum_bad (i := (dnm c.w).length + 2 + 2) (by omega) (by omega) (.inr ⟨by omega, by rw [fB_getD, q2]; decide⟩)
    · exact rnum_bad (i := (dnm c.w).length + 2 + 6) (by omega) (by omega) (.inr ⟨by omega, by rw [fB_getD, q6]; decide⟩)
  show ¬ 1970 ≤ rnum (fB c) 12 16
  rw [h]; decide
theorem cvK_fB {c : Cv} (hr : Rg c) : ¬ 1970 ≤ (cvK (fB c)).y := by
  have hL := dnm_len c.w hr.w
  have hf := fB_len hr
  obtain ⟨-, -, q12⟩ := tlB_at hr
  have h : rnum (fB c) 20 24 = -1 := rnum_bad (i := (dnm c.w).length + 2 + 12) (by omega) (by omega) (.inr ⟨by omega, by rw [fB_getD, q12]; decide⟩)
  show ¬ 1970 ≤ rnum (fB c) 20 24
  rw [h]; decide
theorem says_rP {s : Bs} {now t : Int} (h : Says s now t) : rP s now = some t := by
  obtain ⟨h0, h1, h2⟩ := h
  have hr := civ_rg h0 h1
  rcases h2 with rfl | rfl | ⟨rfl, hy⟩
  · unfold rP; rw [rTry_civ h0 h1 (cvA_fA h0 h1) (.inl rfl)]
  · unfold rP; rw [rTry_bad (cvA_fC hr), rTry_civ h0 h1 (cvK_fC h0 h1) (.inr (.inr rfl))]
  · obtain ⟨m1, m2⟩ := cvM_fB hr now
    have a1 := hr.y
    have hm : wkd (cvM (fB (civ t)) now) = civ t := by
      rw [m2, ← hy]; exact wkd_civ h0 h1
    unfold rP; rw [rTry_bad (cvA_fB hr), rTry_bad (cvK_fB hr)]
    show (if 0 ≤ rnum _ _ _ then _ else _) = _
    rw [m1, if_pos (by omega), rTry_civ h0 h1 hm (.inr (.inl rfl))]
theorem rP_says {s : Bs} {now t : Int} (h : rP s now = some t) : Says s now t := by
  have key : ∀ c : Cv, rTry c s = some t → (∀ c2, Rg c2 → s = fB c2 → ¬ 1970 ≤ c.y) → Says s now t := by
    intro c hc hb
    obtain ⟨h0, h1, h2, h3, h4⟩ := rTry_some hc
    have hr := civ_rg h0 h1
    rcases h4 with h4 | h4 | h4
    · exact ⟨h0, h1, .inl h4.symm⟩
    · exact absurd (okC_rg h3).y.1 (hb _ hr h4.symm)
    · exact ⟨h0, h1, .inr (.inl h4.symm)⟩
  unfold rP at h
  split at h
  · rename_i t' hA
    obtain rfl := Option.some.inj h
    exact key _ hA (fun c2 hr hs => hs ▸ cvA_fB hr)
  · split at h
    · rename_i t' hK
      obtain rfl := Option.some.inj h
      exact key _ hK (fun c2 hr hs => hs ▸ cvK_fB hr)
    · split at h
      · obtain ⟨h0, h1, h2, h3, h4⟩ := rTry_some h
        have hr := civ_rg h0 h1
        rcases h4 with h4 | h4 | h4
        · exact ⟨h0, h1, .inl h4.symm⟩
        · refine ⟨h0, h1, .inr (.inr ⟨h4.symm, ?_⟩)⟩
          have e := congrArg Cv.y h2
          have m2 := (cvM_fB hr now).2
          rw [h4] at m2
          rw [m2] at e
          exact e
        · exact ⟨h0, h1, .inr (.inl h4.symm)⟩
      · cases h
/-- the document's Parse answers as the program's -/
theorem rP_eq (s : Bs) (now : Int) : rP s now = pP s now := by
  cases h : rP s now with
  | some t => exact (says_pP (rP_says h)).symm
  | none =>
    cases h2 : pP s now with
    | none => rfl
    | some t =>
      have := says_rP (pP_says h2)
      rw [h] at this; cases this
end Tk
end Go.Proofs.YthooghgiokgdhaaGreatDoor
namespace Go.Proofs.YthooghgiokgdhaaGreatDoor
open Go.RowKit
namespace Tk

theorem day_first (y : Int) (m : Nat) (hy : 1970 ≤ y) (hm : 1 ≤ m ∧ m ≤ 12) : dayV y (m : Int) 1 = (if y ≤ 9999 then yS y + mC y (m - 1) else 0) ∧ dayE y (m : Int) 1 = (if y ≤ 9999 then 0 else 2) := by
  have := mD_28 y m
  have e : ((m : Int) - 1).toNat = m - 1 := by omega
  by_cases h : y ≤ 9999
  · have hk : okDay y (m : Int) 1 = true := (okDay_iff _ _ _).2 ⟨hy, h, by omega, by omega, by omega, by omega⟩
    unfold dayV dayE dayN
    rw [if_pos hk, if_pos hk, if_pos h, if_pos h, e]
    exact ⟨by omega, rfl⟩
  · have hk : okDay y (m : Int) 1 = false := by
      cases hq : okDay y (m : Int) 1
      · rfl
      · exact absurd ((okDay_iff _ _ _).1 hq).2.1 h
    unfold dayV dayE
    rw [if_neg h, if_neg h, hk]; exact ⟨rfl, rfl⟩
theorem pow_half (j : Nat) : ((2 ^ (j + 1) / 2 : Nat) : Int) = 2 ^ j := by
  rw [Nat.pow_succ, Nat.mul_div_cancel _ (by decide)]; simp
theorem pow_le (j : Nat) (h : j ≤ 14) : (2 : Int) ^ j ≤ 16384 ∧ 1 ≤ (2 : Int) ^ j := by
  have h1 : 2 ^ j ≤ 2 ^ 14 := Nat.pow_le_pow_right (by decide) h
  have h2 : 1 ≤ 2 ^ j := Nat.one_le_two_pow
  have e : (2 : Int) ^ j = ((2 ^ j : Nat) : Int) := by simp
  rw [e]; omega
theorem pow_next (j : Nat) : (2 : Int) ^ (j + 1) = 2 * 2 ^ j := by rw [Int.pow_succ]; omega

theorem pow_div2 (j : Nat) : (2 : Int) ^ j / 2 = ((2 ^ j / 2 : Nat) : Int) := by
  rw [Int.natCast_ediv]; simp
end Tk
end Go.Proofs.YthooghgiokgdhaaGreatDoor
namespace Go.Proofs.YthooghgiokgdhaaGreatDoor
open Go.RowKit
namespace Tk

theorem pP_lives : pP [83, 117, 110, 44, 32, 48, 54, 32, 78, 111, 118, 32, 49, 57, 57, 52, 32, 48, 56, 58, 52, 57, 58, 51, 55, 32, 71, 77, 84] (yNow 0) = some 784111777 := by decide +kernel

/-- a civil time in a block of its own -/
def CvB (W : World) (g : Nat) (c : Cv) : Prop := W.heap[g]? = some (.cells (cvC c) 204 (0, 0))
theorem CvB.new (w : World) (c : Cv) : CvB (w.alloc (.cells (cvC c) 204)) w.heap.size c := heap_alloc_last w _
theorem CvB.lt {w : World} {g : Nat} {c : Cv} (h : CvB w g c) : g < w.heap.size := (Array.getElem?_eq_some_iff.1 h).1
theorem CvB.later {w w' : World} {g : Nat} {c : Cv} (h : CvB w g c) (hb : Below w.heap.size w w') : CvB w' g c := by
  have hl := h.lt
  unfold CvB at *; rw [hb.block g hl]; exact h
theorem CvB.cells {w : World} {g : Nat} {c : Cv} (h : CvB w g c) : w.cell? ⟨g, 0, none⟩ = some (.int .i64 c.y) ∧ w.cell? ⟨g, 1, none⟩ = some (.int .i64 c.m) ∧ w.cell? ⟨g, 2, none⟩ = some (.int .i64 c.d) ∧ w.cell? ⟨g, 3, none⟩ = some (.int .i64 c.h) ∧ w.cell? ⟨g, 4, none⟩ = some (.int .i64 c.n) ∧ w.cell? ⟨g, 5, none⟩ = some (.int .i64 c.s) ∧ w.cell? ⟨g, 6, none⟩ = some (.int .i64 c.w) := by
  unfold CvB at h
  refine ⟨?_, ?_, ?_, ?_, ?_, ?_, ?_⟩ <;> (rw [Lib.cell_of_heap h]; rfl)
/-- Civil of a second, its answer put into a box -/
theorem civ_box (t : Int) (w : World) (h : okT t = true) :
    Calls Tryz.prog 178 #[.int .i64 t] w fun e w' => e = .returned (.tuple #[cvV (civ t), .int .i64 0]) ∧ Below w.heap.size w w' := by
  obtain ⟨h1, h2⟩ := civX_ok h
  have := (okT_iff t).1 h
  unfold maxT at this
  have hc := civil_any t w (by omega)
  unfold CivPost at hc
  rw [h1, h2] at hc
  exact hc

theorem next_same (t : Int) (_h : 0 ≤ t) (hs : t % 86400 % 60 < 59) : (t + 1) / 86400 = t / 86400 ∧ (t + 1) % 86400 = t % 86400 + 1 := by omega
theorem civ_same {t : Int} (h : 0 ≤ t) (hs : (civ t).s < 59) : (civ (t + 1)).s = (civ t).s + 1 ∧ (civ (t + 1)).n = (civ t).n ∧ (civ (t + 1)).h = (civ t).h ∧ (civ (t + 1)).d = (civ t).d := by
  have hs' : t % 86400 % 60 < 59 := hs
  obtain ⟨e1, e2⟩ := next_same t h hs'
  unfold civ
  rw [e1, e2]
  refine ⟨?_, ?_, ?_, rfl⟩ <;> dsimp only <;> omega
theorem civ_carry {t : Int} (hs : (civ t).s = 59) : (civ (t + 1)).s = 0 ∧ ((civ t).n < 59 → (civ (t + 1)).n = (civ t).n + 1) ∧ ((civ t).n = 59 → (civ (t + 1)).n = 0) := by
  have hs' : t % 86400 % 60 = 59 := hs
  refine ⟨?_, ?_, ?_⟩
  · show (t + 1) % 86400 % 60 = 0; omega
  · intro hn
    have hn' : t % 86400 % 3600 / 60 < 59 := hn
    show (t + 1) % 86400 % 3600 / 60 = t % 86400 % 3600 / 60 + 1; omega
  · intro hn
    have hn' : t % 86400 % 3600 / 60 = 59 := hn
    show (t + 1) % 86400 % 3600 / 60 = 0; omega
theorem day_next (n : Int) (h : 0 ≤ n) :
    let d := fun n => n - yS (yOf n) - mC (yOf n) (mOf (yOf n) (n - yS (yOf n)) - 1) + 1
    d (n + 1) = d n + 1 ∨ d (n + 1) = 1 := by
  dsimp only
  obtain ⟨a1, a2⟩ := yOf_spec n h
  have a3 := a2
  rw [yS_next] at a3
  obtain ⟨m1, m2, m3, m4⟩ := mOf_spec (yOf n) (n - yS (yOf n)) (by omega) (by omega)
  by_cases hy : n + 1 < yS (yOf n + 1)
  · have ey : yOf (n + 1) = yOf n := yOf_is (by omega) (by omega) hy
    rw [ey]
    generalize yOf n = y at *
    generalize mOf y (n - yS y) = m at *
    by_cases hm : n + 1 - yS y < mC y m
    · have em : mOf y (n + 1 - yS y) = m := mOf_is y _ m1 m2 (by omega) hm
      rw [em]; left; omega
    · rw [yS_next] at hy
      have hm12 : m < 12 := Nat.lt_of_not_le fun hge => by
        have e : m = 12 := by omega
        rw [e, mC_12] at hm
        omega
      have hn := mC_next y m hm12
      have h28 := mD_28 y ((m : Int) + 1)
      have em : mOf y (n + 1 - yS y) = m + 1 := mOf_is y _ (by omega) (by omega) (by rw [Nat.add_sub_cancel]; omega) (by omega)
      rw [em, Nat.add_sub_cancel]; right; omega
  · have hz := yS_next (yOf n + 1)
    have hl := lpY_01 (yOf n + 1)
    have ey : yOf (n + 1) = yOf n + 1 := yOf_is (by omega) (by omega) (by omega)
    rw [ey]
    generalize yOf n = y at *
    have em : mOf (y + 1) (n + 1 - yS (y + 1)) = 1 := mOf_is (y + 1) _ (by decide) (by decide) (by show mC (y + 1) 0 ≤ _; show (0 : Int) ≤ _; omega) (by show _ < (31 : Int); omega)
    rw [em]; right
    show n + 1 - yS (y + 1) - mC (y + 1) 0 + 1 = 1
    show n + 1 - yS (y + 1) - 0 + 1 = 1
    omega
theorem civ_later {t : Int} (h : 0 ≤ t) : (civ (t + 86400)).w = ((civ t).w + 1) % 7 ∧ (civ (t + 86400)).h = (civ t).h ∧ (civ (t + 86400)).n = (civ t).n ∧ (civ (t + 86400)).s = (civ t).s ∧ ((civ (t + 86400)).d = (civ t).d + 1 ∨ (civ (t + 86400)).d = 1) := by
  have e1 : (t + 86400) / 86400 = t / 86400 + 1 := by omega
  have e2 : (t + 86400) % 86400 = t % 86400 := by omega
  have hd := day_next (t / 86400) (by omega)
  unfold civ
  rw [e1, e2]
  refine ⟨?_, rfl, rfl, rfl, hd⟩
  dsimp only; omega
theorem civ_dayV {t : Int} (h : okT t = true) : dayV (civ t).y (civ t).m (civ t).d = t / 86400 ∧ dayE (civ t).y (civ t).m (civ t).d = 0 := by
  obtain ⟨h0, h1⟩ := (okT_iff t).1 h
  obtain ⟨s1, s2⟩ := secC_same h0 h1
  have hr := civ_rg h0 h1
  have a := hr.h; have b := hr.n; have c := hr.s
  unfold dayV dayE
  rw [if_pos s1, if_pos s1]
  exact ⟨by omega, rfl⟩
end Tk
end Go.Proofs.YthooghgiokgdhaaGreatDoor
namespace Go.Proofs.YthooghgiokgdhaaGreatDoor
open Go.RowKit
namespace Tk

end Tk
end Go.Proofs.YthooghgiokgdhaaGreatDoor
namespace Go.Proofs.YthooghgiokgdhaaGreatDoor
open Go.RowKit
namespace Tk

theorem monGo_short : ∀ (r : List Bs) (k : Int) (l : Bs), (∀ x ∈ r, x.length = 3) → l.length ≠ 3 → monGo r k l = 0
  | [], _, _, _, _ => rfl
  | x :: r, k, l, h, hl => by
    rw [monGo_no _ _ _ _ (fun e => hl (by rw [← e]; exact h x (by simp)))]
    exact monGo_short r (k + 1) l (fun y hy => h y (by simp [hy])) hl

end Tk
end Go.Proofs.YthooghgiokgdhaaGreatDoor
namespace Go.Proofs.YthooghgiokgdhaaGreatDoor
open Go.RowKit
namespace Tk

set_option maxHeartbeats 400000 in
theorem rdig9_any (c : UInt8) (w : World) :
    Calls Tryz.prog 136 #[.int .u8 (c.toNat : Int)] w fun e w' => e = .returned (.bool (isDig c)) ∧ w = w' := by
  have hV : isDig c = (decide (48 ≤ c.toNat) && decide (c.toNat ≤ 57)) := rfl
  have h0 : 0 ≤ (c.toNat : Int) ∧ (c.toNat : Int) < 256 := ⟨by omega, by have := c.toNat_lt; omega⟩
  by_cases h1 : 48 ≤ c.toNat
  · by_cases h2 : c.toNat ≤ 57
    · rw [decide_eq_true h1, decide_eq_true h2] at hV
      have HV := Lib.hid hV
      have e1 : (48 : Int) ≤ (c.toNat : Int) := by omega
      have e2 : (c.toNat : Int) ≤ 57 := by omega
      clear hV
      go_enter Tryz.func136, Tryz.ntmps136
      go_wp2_with fail
      go_ret
      exact ⟨retBd (by rw [HV.out]; rfl), rfl⟩
    · rw [decide_eq_true h1, decide_eq_false h2] at hV
      have HV := Lib.hid hV
      have e1 : (48 : Int) ≤ (c.toNat : Int) := by omega
      have e2 : ¬ (c.toNat : Int) ≤ 57 := by omega
      clear hV
      go_enter Tryz.func136, Tryz.ntmps136
      go_wp2_with fail
      go_ret
      exact ⟨retBd (by rw [HV.out]; rfl), rfl⟩
  · rw [decide_eq_false h1] at hV
    have HV := Lib.hid hV
    have e1 : ¬ (48 : Int) ≤ (c.toNat : Int) := by omega
    clear hV
    go_enter Tryz.func136, Tryz.ntmps136
    go_wp2_with fail
    go_ret
    exact ⟨retBd (by rw [HV.out]; rfl), rfl⟩

theorem ten_pow (k : Nat) (h : k ≤ 4) : 10 ^ k ≤ 10000 ∧ 1 ≤ 10 ^ k := ⟨Nat.pow_le_pow_right (by decide) h, Nat.one_le_pow _ _ (by decide)⟩
theorem isDig_rg {c : UInt8} (h : isDig c = true) : 48 ≤ c.toNat ∧ c.toNat ≤ 57 := by unfold isDig at h; simpa using h

end Tk
end Go.Proofs.YthooghgiokgdhaaGreatDoor
namespace Go.Proofs.YthooghgiokgdhaaGreatDoor
open Go.RowKit
namespace Tk

theorem civInfo : (Tryz.prog.info? 204).map (fun i => (i.zero, i.size, i.bytes)) = some (some (.agg #[.int .i64 0, .int .i64 0, .int .i64 0, .int .i64 0, .int .i64 0, .int .i64 0, .int .i64 0]), 7, 56) := by kernel_rfl
def ccells (l : List Cv) : List Value := l.flatMap fun c => (cvC c).toList
theorem ccells_len : ∀ l, (ccells l).length = l.length * 7
  | [] => rfl
  | c :: t => by
    have := ccells_len t
    unfold ccells at *
    rw [List.flatMap_cons, List.length_append, this]; simp [cvC]; omega
theorem ccells_get : ∀ (l : List Cv) (j : Nat) (c : Cv) (k : Nat) (u : Value), l[j]? = some c → (cvC c)[k]? = some u → (ccells l)[j * 7 + k]? = some u
  | [], j, c, k, u, h, _ => by simp at h
  | d :: t, 0, c, k, u, h, hk => by
    simp at h; subst h
    have hlt : k < 7 := (Array.getElem?_eq_some_iff.1 hk).1
    unfold ccells
    rw [List.flatMap_cons, List.getElem?_append_left (by show 0 * 7 + k < (cvC d).toList.length; simp [cvC]; omega)]
    rw [Nat.zero_mul, Nat.zero_add, Array.getElem?_toList]; exact hk
  | d :: t, j + 1, c, k, u, h, hk => by
    have := ccells_get t j c k u (by simpa using h) hk
    unfold ccells at *
    rw [List.flatMap_cons, List.getElem?_append_right (by show (cvC d).toList.length ≤ _; simp [cvC]; omega)]
    rw [show (j + 1) * 7 + k - (cvC d).toList.length = j * 7 + k by show _ - 7 = _; omega]
    exact this
theorem cell_ltD {w : World} {p : Addr} {v : Value} (h : w.cell? p = some v) : p.block < w.heap.size := by
  refine Nat.lt_of_not_le fun hle => ?_
  simp only [World.cell?, Array.getElem?_eq_none hle] at h
  cases h
/-- a slice of civil times -/
def IsCvs (w : World) (v : Value) (l : List Cv) : Prop := ∃ g cap, v = .slice (some ⟨g, 0, none⟩) l.length cap ∧ ∀ j c, l[j]? = some c → ∀ k u, (cvC c)[k]? = some u → w.cell? ⟨g, j * 7 + k, none⟩ = some u
theorem isCvs_own {w : World} {B : Nat} {v : Value} {l : List Cv} (h : w.ownsRow B 204 7 v l.length (ccells l)) (hne : l ≠ []) : IsCvs w v l := by
  rcases h.2 with ⟨hv, hn⟩ | ⟨g, cap, cur, hv, hb, hg, hcap, -⟩
  · exact absurd (List.eq_nil_of_length_eq_zero hn) hne
  · refine ⟨g, cap, hv, fun j c hj k u hk => ?_⟩
    have := h.cells (g := g) (by rw [hv]; rfl) (j * 7 + k) u (ccells_get l j c k u hj hk)
    rw [Go.WideShapes.add_plain, Nat.zero_add] at this
    exact this
theorem isCvs_below {w w' : World} {v : Value} {l : List Cv} (h : IsCvs w v l) (hb : Below w.heap.size w w') : IsCvs w' v l := by
  obtain ⟨g, cap, hv, hc⟩ := h
  exact ⟨g, cap, hv, fun j c hj k u hk => (hb.cell (p := ⟨g, j * 7 + k, none⟩) (cell_ltD (p := ⟨g, j * 7 + k, none⟩) (hc j c hj k u hk))).trans (hc j c hj k u hk)⟩
theorem own_keepD {w w' : World} {B : Nat} {v : Value} {n : Nat} {xs : List Value} {e : TypeId} {k : Nat} (h : w.ownsRow B e k v n xs) (hb : Below w.heap.size w w') : w'.ownsRow B e k v n xs :=
  World.ownsRow.kept h (row := none) ⟨hb.os, hb.tape, hb.output, hb.size, fun k hk _ => hb.block k hk⟩ (by cases h : v.ownBlock <;> simp)
theorem appC {w : World} {g : Nat} {T : TypeId} {cs : Array Value} (h : Bx w g T cs) (j : Nat) (u : Value) (hj : cs.toList[j]? = some u) : w.cell? ((⟨g, 0, none⟩ : Addr).add j) = some u := by
  rw [Go.WideShapes.add_plain, Nat.zero_add]
  exact h.cell j u (by rw [← Array.getElem?_toList]; exact hj)
theorem bxOtherD {w : World} {g k : Nat} {T : TypeId} {cs : Array Value} (h : Bx w g T cs) (hne : g ≠ k) (i : Nat) (v : Value) : Bx (w.setCell ⟨k, i, none⟩ v) g T cs :=
  (heap_setCell_other w ⟨k, i, none⟩ g v (fun e => hne e)).trans h
def triesL (s : Bs) (now : Int) : List Cv := [cvA s, cvK s] ++ (if 0 ≤ rnum s (cma s + 9) (cma s + 11) then [cvM s (yNow now)] else [])
def TriesPost (s : Bs) (now : Int) (w : World) (e : Ending) (w' : World) : Prop := ∃ v, e = .returned v ∧ IsCvs w' v (triesL s now) ∧ Below w.heap.size w w'

theorem val_two (l : Bs) (hl : l.length = 2) (hd : ∀ c ∈ l, isDig c = true) : valFrom 0 l ≤ 99 := by
  match l, hl with
  | [a, b], _ =>
    have h1 := hd a (by simp)
    have h2 := hd b (by simp)
    unfold isDig at h1 h2
    simp at h1 h2
    simp only [valFrom, List.foldl_cons, List.foldl_nil]
    omega
theorem rnum_99 (s : Bs) (a : Nat) : rnum s a (a + 2) ≤ 99 := by
  unfold rnum
  split
  · rename_i h
    have hl : ((s.drop a).take (a + 2 - a)).length = 2 := by rw [List.length_take, List.length_drop]; omega
    have := val_two _ hl (fun c hc => List.all_eq_true.1 h.2 c hc)
    omega
  · omega
theorem cma_le (s : Bs) : cma s ≤ s.length := by unfold cma; exact (List.takeWhile_sublist _).length_le
theorem cma_at (s : Bs) (i : Nat) (hi : i < s.length) (h1 : ∀ k, k < i → s.getD k 0 ≠ 44) (h2 : s.getD i 0 = 44) : cma s = i := by
  unfold cma
  induction s generalizing i with
  | nil => simp at hi
  | cons c t ih =>
    cases i with
    | zero =>
      have : c = 44 := by simpa using h2
      subst this
      simp
    | succ i =>
      have hc : c ≠ 44 := by have := h1 0 (by omega); simpa using this
      rw [List.takeWhile_cons, if_pos (by simp [hc]), List.length_cons]
      rw [ih i (by simpa using hi) (fun k hk => by have := h1 (k + 1) (by omega); simpa using this) (by simpa using h2)]
theorem cma_none (s : Bs) (h1 : ∀ k, k < s.length → s.getD k 0 ≠ 44) : cma s = s.length := by
  unfold cma
  induction s with
  | nil => rfl
  | cons c t ih =>
    have hc : c ≠ 44 := by have := h1 0 (by simp); simpa using this
    rw [List.takeWhile_cons, if_pos (by simp [hc]), List.length_cons]
    rw [ih (fun k hk => by have := h1 (k + 1) (by simpa using hk); simpa using this), List.length_cons]

end Tk
end Go.Proofs.YthooghgiokgdhaaGreatDoor
namespace Go.Proofs.YthooghgiokgdhaaGreatDoor
open Go.RowKit
namespace Tk

theorem exec_loadE {P : Program} {ρ : Operand → Value} {o : Oper} {w : World} (ty : TypeId) (x : Operand) (ho : o.op = .load ty x) (g : Nat) (t : TypeId) (cs : Array Value) (fr : Nat × Nat) (d : TypeDesc)
    (hx : ρ x = .pointer (some ⟨g, 0, none⟩)) (hg : w.heap[g]? = some (.cells cs t fr)) (hu : P.underlying ty = some d) (hd : (match d with | .struct _ | .array _ _ => true | _ => false) = true) (hi : (P.info? ty).map (·.size) = some cs.size) :
    (execOp ρ o).run P w = .ok (.value (.agg cs)) w := by
  have hrun := run_loadVar_row (P := P) w g t ty cs fr d hg hu hd hi
  simp [execOp, ho, hx, Instr.loadAt, Instr.sureAddr, hrun, Result.andThen]
theorem wp_storeE {P : Program} {o : Oper} {a : Act} {w : World} {K : Act → World → Prop} {Q : Exit → Act → World → Prop} (ty : TypeId) (x y : Operand) (ho : o.op = .store ty x y)
    (g : Nat) (t : TypeId) (old cells : Array Value) (hx : a.eval x = .pointer (some ⟨g, 0, none⟩)) (hy : a.eval y = .agg cells) (hg : w.heap[g]? = some (.cells old t (0, 0))) (hi : (P.info? ty).map (·.size) = some cells.size)
    (hs : old.size = cells.size) (h1 : cells.all (·.oneCell') = true) (h : K (a.put o.dst undef) (w.setRow g cells)) : o.wp P a w K Q := by
  have hrun := run_storeVar_row (P := P) w g t ty old cells hg hi hs h1
  unfold Oper.wp
  simp [execOp, ho, hx, hy, Instr.storeAt, Instr.sureAddr, hrun, Result.andThen, Oper.upon]
  exact h
theorem wpList_storeE {P : Program} {ops : Array Oper} {rest : List Oper} {o : Oper} {a : Act} {w : World} {Q : Exit → Act → World → Prop} (hgd : o.guard = none) (ty : TypeId) (x y : Operand) (ho : o.op = .store ty x y)
    (g : Nat) (t : TypeId) (old cells : Array Value) (hx : a.eval x = .pointer (some ⟨g, 0, none⟩)) (hy : a.eval y = .agg cells) (hg : w.heap[g]? = some (.cells old t (0, 0))) (hi : (P.info? ty).map (·.size) = some cells.size)
    (hs : old.size = cells.size) (h1 : cells.all (·.oneCell') = true) (h : wpList P ops Q rest (a.put o.dst undef) (w.setRow g cells)) : wpList P ops Q (o :: rest) a w :=
  wpList_plain hgd fun _ hK => wp_storeE ty x y ho g t old cells hx hy hg hi hs h1 (hK _ _ h)
theorem Bx.rowE {w : World} {g : Nat} {T : TypeId} {old cs : Array Value} (h : Bx w g T old) : Bx (w.setRow g cs) g T cs := setRow_heap w g old cs T (0, 0) h
theorem below_setRowE {w W : World} {B g : Nat} (h : Below B w W) (cs : Array Value) (hg : B ≤ g) : Below B w (W.setRow g cs) :=
  ⟨h.os, h.tape, h.output, by rw [size_setRow]; exact h.size, fun k hk => (setRow_other _ _ _ _ (by omega)).trans (h.block k hk)⟩
end Tk
end Go.Proofs.YthooghgiokgdhaaGreatDoor
namespace Go.Proofs.YthooghgiokgdhaaGreatDoor
open Go.RowKit
namespace Tk

theorem wpAnyH_more {P : Program} {md : Region.Mode} {ops : Array Oper} {Q : Exit → Act → World → Prop} {S S' : World → Prop} (hS : ∀ w, S' w → S w) : ∀ (fuel : Nat) (listed : Array Bool) (a : Act) (w : World), wpAnyH P md ops Q S' fuel listed a w → wpAnyH P md ops Q S fuel listed a w
  | 0, _, _, _, h => h
  | fuel + 1, _, _, _, h => ⟨h.1, fun i hi => wpOp_mono (fun a' w' h' => ⟨hS _ h'.1, wpAnyH_more hS fuel _ a' w' h'.2⟩) (h.2 i hi)⟩
theorem exec_addS {ρ : Operand → Value} {o : Oper} {w : World} (x y : Operand) (ho : o.op = .binOp .add 9 x y 9) (a b : Bs) (hx : ρ x = .string (mkS a)) (hy : ρ y = .string (mkS b)) (hz : a.length + b.length ≤ 100000) :
    (execOp ρ o).run Tryz.prog w = .ok (.value (.string (mkS (a ++ b)))) w := by
  have h1 : (mkS a).size + (mkS b).size ≤ 9223372036854775807 := by rw [size_mkS, size_mkS]; omega
  have hrun : (binOp .add 9 (.string (mkS a)) (.string (mkS b))).run Tryz.prog w = .ok (.string (mkS (a ++ b))) w := by
    rw [← mkS_append]
    simp [binOp, go_sem, h1]
  simp [execOp, ho, hx, hy, eqGuard, hrun, Result.andThen]
theorem exec_take3 {ρ : Operand → Value} {o : Oper} {w : World} (x : Operand) (ho : o.op = .slice 9 x none (some (.const (.int .i64 3))) none) (a : Bs) (hx : ρ x = .string (mkS a)) (hc : ρ (.const (.int .i64 3)) = .int .i64 3) (hz : 3 ≤ a.length) :
    (execOp ρ o).run Tryz.prog w = .ok (.value (.string (mkS (a.take 3)))) w := by
  have e : (mkS a).extract 0 3 = mkS (a.take 3) := by rw [extract_mkS, bs_mkS]; rfl
  have h1 : (3 : Int) ≤ ((mkS a).size : Int) := by rw [size_mkS]; omega
  have hrun : (Instr.slice 9 (.string (mkS a)) none (some (.int .i64 3)) none).run Tryz.prog w = .ok (.string (mkS (a.take 3))) w := by
    rw [← e]
    simp [Instr.slice, run_underlying Tryz.underlying9, Instr.sliceBounds, Instr.sliceBound, asIntOf, go_sem, h1]
  have h2 : (Instr.sliceAt 9 (.string (mkS a)) none (some (.int .i64 3)) none).run Tryz.prog w = .ok (.string (mkS (a.take 3))) w := by
    unfold Instr.sliceAt
    simp [hrun]
  simp [execOp, ho, hx, hc, h2, Result.andThen]

/-- the box of a civil time, and what lay before -/
structure HF (w : World) (g : Nat) (v0 v1 v2 v3 v4 v5 v6 : Int) (Wz : World) : Prop where
  bx : Wz.heap[g]? = some (.cells #[.int .i64 v0, .int .i64 v1, .int .i64 v2, .int .i64 v3, .int .i64 v4, .int .i64 v5, .int .i64 v6] 204 (0, 0))
  bl : Below g w Wz
theorem HF.later {w W W' : World} {g : Nat} {v0 v1 v2 v3 v4 v5 v6 : Int} (h : HF w g v0 v1 v2 v3 v4 v5 v6 W) (hb : Below W.heap.size W W') : HF w g v0 v1 v2 v3 v4 v5 v6 W' :=
  ⟨Bx.later (T := 204) h.bx hb, h.bl.trans (hb.mono (Nat.le_of_lt (Bx.lt (T := 204) h.bx)))⟩
theorem HF.drew {w W : World} {g : Nat} {v0 v1 v2 v3 v4 v5 v6 : Int} (h : HF w g v0 v1 v2 v3 v4 v5 v6 W) : HF w g v0 v1 v2 v3 v4 v5 v6 W.drew := ⟨h.bx, h.bl.drew⟩
theorem HF.cell {w W : World} {g : Nat} {v0 v1 v2 v3 v4 v5 v6 : Int} (h : HF w g v0 v1 v2 v3 v4 v5 v6 W) (i : Nat) (v : Value) (hv : (#[.int .i64 v0, .int .i64 v1, .int .i64 v2, .int .i64 v3, .int .i64 v4, .int .i64 v5, .int .i64 v6] : Array Value)[i]? = some v) : W.cell? ⟨g, i, none⟩ = some v := Bx.cell (T := 204) h.bx i v hv
theorem hf_new (w : World) (v0 v1 v2 v3 v4 v5 v6 : Int) : HF w w.heap.size v0 v1 v2 v3 v4 v5 v6 (w.alloc (.cells #[.int .i64 v0, .int .i64 v1, .int .i64 v2, .int .i64 v3, .int .i64 v4, .int .i64 v5, .int .i64 v6] 204)) := ⟨heap_alloc_last w _, (Below.refl _ _).alloc (Nat.le_refl _) _⟩

end Tk
end Go.Proofs.YthooghgiokgdhaaGreatDoor
namespace Go.Proofs.YthooghgiokgdhaaGreatDoor
open Go.RowKit
namespace Tk

theorem fs_gen {α β : Type} (f : α → Option β) (a b m : α) (p : Prop) [Decidable p] : ([a, b] ++ (if p then [m] else [])).findSome? f = (match f a with | some t => some t | none => match f b with | some t => some t | none => if p then f m else none) := by
  cases h1 : f a <;> cases h2 : f b <;> by_cases hp : p <;> simp [h1, h2, hp, List.findSome?]
  all_goals (cases f m <;> rfl)
theorem fs_some {α β : Type} (f : α → Option β) (L : List α) (i : Nat) (hi : i < L.length) (t : β) (h : f L[i] = some t) : (L.drop i).findSome? f = some t := by
  rw [List.drop_eq_getElem_cons hi]; simp [List.findSome?, h]
theorem fs_none {α β : Type} (f : α → Option β) (L : List α) (i : Nat) (hi : i < L.length) (h : f L[i] = none) : (L.drop i).findSome? f = (L.drop (i + 1)).findSome? f := by
  rw [List.drop_eq_getElem_cons hi]; simp [List.findSome?, h]
def firstT (L : List Cv) (s : Bs) : Option Int := L.findSome? fun c => rTry c s
theorem first_rP (s : Bs) (now : Int) : pP s (yNow now) = firstT (triesL s now) s := by
  have h := fs_gen (fun c => rTry c s) (cvA s) (cvK s) (cvM s (yNow now)) (0 ≤ rnum s (cma s + 9) (cma s + 11))
  have h2 : firstT (triesL s now) s = _ := h
  rw [h2, ← rP_eq]
  unfold rP
  clear h h2
  generalize rTry (cvA s) s = ra
  generalize rTry (cvK s) s = rb
  generalize rTry (cvM s (yNow now)) s = rm
  cases ra <;> cases rb <;> rfl
def cv0 : Cv := ⟨0, 0, 0, 0, 0, 0, 0⟩
theorem getD_cv (L : List Cv) (i : Nat) (hi : i < L.length) : L.getD i cv0 = L[i] := by simp [List.getD, hi]
theorem first_some (L : List Cv) (s : Bs) (i : Nat) (hi : i < L.length) (t : Int) (h : rTry (L.getD i cv0) s = some t) : firstT (L.drop i) s = some t :=
  fs_some (fun c => rTry c s) L i hi t (by rw [getD_cv L i hi] at h; exact h)
theorem first_none (L : List Cv) (s : Bs) (i : Nat) (hi : i < L.length) (h : rTry (L.getD i cv0) s = none) : firstT (L.drop i) s = firstT (L.drop (i + 1)) s :=
  fs_none (fun c => rTry c s) L i hi (by rw [getD_cv L i hi] at h; exact h)
theorem rTry_day (c : Cv) (s : Bs) (h : okDay c.y c.m c.d = false) : rTry c s = none := by
  unfold rTry
  rw [if_neg]
  rintro ⟨h1, -⟩
  rw [okC_split] at h1
  have e : okDay (wkd c).y (wkd c).m (wkd c).d = false := h
  rw [e] at h1
  cases h1
theorem rTry_ok (c : Cv) (s : Bs) (h : okC (wkd c) = false) : rTry c s = none := by
  unfold rTry; rw [if_neg]; rintro ⟨h1, -⟩; rw [h] at h1; cases h1
theorem rTry_hit (c : Cv) (s : Bs) (h : okC (wkd c) = true) (k : Nat) (hk : k < 3) (he : [fA (wkd c), fB (wkd c), fC (wkd c)].getD k [] = s) : rTry c s = some (secC (wkd c)) := by
  have hor : fA (wkd c) = s ∨ fB (wkd c) = s ∨ fC (wkd c) = s := by
    rcases (by omega : k = 0 ∨ k = 1 ∨ k = 2) with rfl | rfl | rfl
    · exact .inl he
    · exact .inr (.inl he)
    · exact .inr (.inr he)
  unfold rTry
  rw [if_pos ⟨h, hor⟩]
theorem rTry_miss (c : Cv) (s : Bs) (h : ∀ k, k < 3 → [fA (wkd c), fB (wkd c), fC (wkd c)].getD k [] ≠ s) : rTry c s = none := by
  unfold rTry
  rw [if_neg]
  rintro ⟨-, h1 | h1 | h1⟩
  · exact h 0 (by omega) h1
  · exact h 1 (by omega) h1
  · exact h 2 (by omega) h1
theorem isCvs_drew {w : World} {v : Value} {l : List Cv} (h : IsCvs w v l) (n : Nat) : IsCvs (w.drewN n) v l := h
theorem isCvs_set {w : World} {g gx cap : Nat} {T : TypeId} {cs : Array Value} {l : List Cv} (h : IsCvs w (.slice (some ⟨g, 0, none⟩) l.length cap) l) (_hX : Bx w gx T cs) (i : Nat) (v : Value) (hne : g ≠ gx) : IsCvs (w.setCell ⟨gx, i, none⟩ v) (.slice (some ⟨g, 0, none⟩) l.length cap) l := by
  obtain ⟨g', cap', e, hc⟩ := h
  injection e with e1 _ e2
  injection e1 with e1
  injection e1 with e1 _
  subst e1 e2
  refine ⟨g, cap, rfl, fun j c hj k u hk => ?_⟩
  have h1 := hc j c hj k u hk
  have h2 := heap_setCell_other w ⟨gx, i, none⟩ g v (fun e => hne e)
  simp only [World.cell?] at h1 ⊢
  rw [h2]; exact h1
theorem optP_ret {o : Option Int} {a b : Int} (h1 : optV o = a) (h2 : optE o = b) : Ending.returned (.tuple #[.int .i64 a, .int .i64 b]) = .returned (.tuple #[.int .i64 (optV o), .int .i64 (optE o)]) := by subst h1 h2; rfl

end Tk
end Go.Proofs.YthooghgiokgdhaaGreatDoor
namespace Go.Proofs.YthooghgiokgdhaaGreatDoor
open Go.RowKit
namespace Tk

theorem one_split (P : List Bs) (now : Int) : oneG P = (if oneB P = true then tgG (oneS P) else (false, [])) ∧ oneO P = (oneB P && tgO (oneS P)) ∧ oneV P now = (if oneB P = true then pP (oneS P) (yNow now) else none) := by
  match P with
  | [] => exact ⟨rfl, rfl, rfl⟩
  | [x] => exact ⟨rfl, (Bool.true_and _).symm, rfl⟩
  | _ :: _ :: _ => exact ⟨rfl, rfl, rfl⟩
theorem oneS_len (name : Bs) (l : List (Bs × Bs)) : (oneS (allF l name)).length ≤ sumF l := by
  cases h : allF l name with
  | nil => simp [oneS]
  | cons x r =>
    cases r with
    | nil => exact all_piece name l x (by rw [h]; simp)
    | cons y r => simp [oneS]

end Tk
end Go.Proofs.YthooghgiokgdhaaGreatDoor
