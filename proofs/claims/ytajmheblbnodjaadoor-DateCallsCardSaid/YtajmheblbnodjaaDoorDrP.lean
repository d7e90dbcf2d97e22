/- What the document's Parse answers, plain. -/
import Derived.Test.YtajmheblbnodjaaDoorDrD
namespace Go.Proofs.YtajmheblbnodjaaDoor
open Go.RowKit
namespace Tk

def cvA (s : Bs) : Cv := ⟨rnum s 12 16, monNo ((s.drop 8).take 3), rnum s 5 7, rnum s 17 19, rnum s 20 22, rnum s 23 25, 0⟩
def dyC (s : Bs) : Int := if 9 < s.length ∧ s.getD 8 0 = 32 then rnum s 9 10 else rnum s 8 10
def cvK (s : Bs) : Cv := ⟨rnum s 20 24, monNo ((s.drop 4).take 3), dyC s, rnum s 11 13, rnum s 14 16, rnum s 17 19, 0⟩
def cma (s : Bs) : Nat := (s.takeWhile (fun c => c != 44)).length
def cvM (s : Bs) (now : Int) : Cv := ⟨lateY (rnum s (cma s + 9) (cma s + 11)) now, monNo ((s.drop (cma s + 5)).take 3), rnum s (cma s + 2) (cma s + 4), rnum s (cma s + 12) (cma s + 14), rnum s (cma s + 15) (cma s + 17), rnum s (cma s + 18) (cma s + 20), 0⟩
/-- with its weekday -/
def wkd (c : Cv) : Cv := ⟨c.y, c.m, c.d, c.h, c.n, c.s, (dayN c.y c.m c.d + 4) % 7⟩
def rTry (c : Cv) (s : Bs) : Option Int := if okC (wkd c) = true ∧ (fA (wkd c) = s ∨ fB (wkd c) = s ∨ fC (wkd c) = s) then some (secC (wkd c)) else none
def rP (s : Bs) (now : Int) : Option Int := match rTry (cvA s) s with
  | some t => some t
  | none => match rTry (cvK s) s with
    | some t => some t
    | none => if 0 ≤ rnum s (cma s + 9) (cma s + 11) then rTry (cvM s now) s else none

theorem rTry_some {c : Cv} {s : Bs} {t : Int} (h : rTry c s = some t) : 0 ≤ t ∧ t ≤ maxT ∧ civ t = wkd c ∧ okC (wkd c) = true ∧ (fA (civ t) = s ∨ fB (civ t) = s ∨ fC (civ t) = s) := by
  unfold rTry at h
  split at h
  · rename_i hc
    obtain rfl := Option.some.inj h
    obtain ⟨h1, h2, h3⟩ := sec_ok _ hc.1
    rw [h3]
    exact ⟨h1, h2, rfl, hc.1, hc.2⟩
  · cases h
theorem rTry_bad {c : Cv} {s : Bs} (h : ¬ 1970 ≤ c.y) : rTry c s = none := by
  unfold rTry
  rw [if_neg]
  rintro ⟨h1, -⟩
  exact h (okC_rg h1).y.1
theorem wkd_civ {t : Int} (h0 : 0 ≤ t) (h1 : t ≤ maxT) : wkd (civ t) = civ t := by
  have hk := (civ_ok t h0 h1).1
  unfold okC at hk
  simp only [Bool.and_eq_true, decide_eq_true_eq] at hk
  unfold wkd
  rw [← hk.2]
theorem rTry_civ {c : Cv} {s : Bs} {t : Int} (h0 : 0 ≤ t) (h1 : t ≤ maxT) (hc : wkd c = civ t) (hs : fA (civ t) = s ∨ fB (civ t) = s ∨ fC (civ t) = s) : rTry c s = some t := by
  unfold rTry
  rw [hc, if_pos ⟨(civ_ok t h0 h1).1, hs⟩, (civ_ok t h0 h1).2]
theorem rnum_two {s : Bs} {a : Nat} {n : Int} (hn : 0 ≤ n ∧ n ≤ 99) (hl : a + 2 ≤ s.length) (h : (s.drop a).take 2 = two n) : rnum s a (a + 2) = n := by
  unfold rnum
  rw [show a + 2 - a = 2 by omega, h, if_pos ⟨hl, List.all_eq_true.2 (two_digs n hn)⟩, valFrom_two n hn]
theorem rnum_yr {s : Bs} {a : Nat} {n : Int} (hn : 0 ≤ n ∧ n ≤ 9999) (hl : a + 4 ≤ s.length) (h : (s.drop a).take 4 = yr4 n) : rnum s a (a + 4) = n := by
  unfold rnum
  rw [show a + 4 - a = 4 by omega, h, if_pos ⟨hl, List.all_eq_true.2 (yr4_digs n hn)⟩, valFrom_yr4 n hn]
theorem clk_at {s : Bs} {a : Nat} {c : Cv} (hr : Rg c) (hl : a + 8 ≤ s.length) (h : (s.drop a).take 8 = clk c) : rnum s a (a + 2) = c.h ∧ rnum s (a + 3) (a + 5) = c.n ∧ rnum s (a + 6) (a + 8) = c.s := by
  have b1 := hr.h; have b2 := hr.n; have b3 := hr.s
  have k : ∀ i j, i + j ≤ 8 → (s.drop (a + i)).take j = ((clk c).drop i).take j := by
    intro i j hij
    rw [← h, List.drop_take, List.take_take, List.drop_drop, Nat.min_eq_left (by omega)]
  refine ⟨rnum_two (by omega) (by omega) ?_, rnum_two (a := a + 3) (by omega) (by omega) ?_, rnum_two (a := a + 6) (by omega) (by omega) ?_⟩
  · exact (k 0 2 (by omega)).trans rfl
  · exact (k 3 2 (by omega)).trans rfl
  · exact (k 6 2 (by omega)).trans rfl
theorem cvA_fA {t : Int} (h0 : 0 ≤ t) (h1 : t ≤ maxT) : wkd (cvA (fA (civ t))) = civ t := by
  have hr := civ_rg h0 h1
  obtain ⟨l1, l2, l3, l4, l5⟩ := fA_parts hr
  have a1 := hr.y; have a2 := hr.d
  obtain ⟨c1, c2, c3⟩ := clk_at (a := 17) hr (by omega) l5
  have e := wkd_civ h0 h1
  unfold cvA
  rw [rnum_yr (a := 12) (by omega) (by omega) l2, l3, monNo_mnm _ hr.m, rnum_two (a := 5) (by omega) (by omega) l4, c1, c2, c3]
  exact e
theorem fC_day {c : Cv} (hr : Rg c) : dyC (fC c) = c.d := by
  obtain ⟨l1, -, -, l4, -⟩ := fC_parts hr
  have a2 := hr.d
  have e8 : ∀ x y, dC c.d = [x, y] → (fC c).getD 8 0 = x ∧ ((fC c).drop 9).take 1 = [y] := by
    intro x y h
    obtain ⟨a, b, e, hw, -⟩ := dnm_three c.w hr.w
    obtain ⟨p, q, r, hm, -⟩ := mnm_three c.m hr.m
    unfold fC; rw [hw, hm, h]; exact ⟨rfl, rfl⟩
  unfold dyC
  by_cases hd : c.d < 10
  · obtain ⟨q1, q2⟩ := e8 32 (d1 c.d) (by unfold dC; rw [if_pos hd])
    rw [if_pos ⟨by omega, q1⟩]
    unfold rnum
    rw [show 10 - 9 = 1 from rfl, q2, if_pos ⟨by omega, by simp [d1_dig c.d (by omega)]⟩]
    have hn := d1_nat c.d (by omega)
    show ((0 * 10 + ((d1 c.d).toNat - 48) : Nat) : Int) = c.d
    rw [hn]; omega
  · obtain ⟨q1, -⟩ := e8 (d1 (c.d / 10)) (d1 (c.d % 10)) (by unfold dC; rw [if_neg hd]; rfl)
    rw [if_neg (fun h => by rw [q1] at h; exact d1_ne (c.d / 10) (by omega) 32 (by decide) h.2)]
    exact rnum_two (a := 8) (by omega) (by omega) (by rw [l4]; unfold dC; rw [if_neg hd])
theorem cvK_fC {t : Int} (h0 : 0 ≤ t) (h1 : t ≤ maxT) : wkd (cvK (fC (civ t))) = civ t := by
  have hr := civ_rg h0 h1
  obtain ⟨l1, l2, l3, l4, l5⟩ := fC_parts hr
  have a1 := hr.y
  obtain ⟨c1, c2, c3⟩ := clk_at (a := 11) hr (by omega) l5
  have e := wkd_civ h0 h1
  have l2' : ((fC (civ t)).drop 20).take 4 = yr4 (civ t).y := by rw [l2]; rfl
  unfold cvK
  rw [rnum_yr (a := 20) (by omega) (by omega) l2', l3, monNo_mnm _ hr.m, fC_day hr, c1, c2, c3]
  exact e
theorem cvA_fC {c : Cv} (hr : Rg c) : ¬ 1970 ≤ (cvA (fC c)).y := by
  have h : rnum (fC c) 12 16 = -1 := by
    refine rnum_bad (i := 13) (by omega) (by omega) (.inr ⟨by rw [(fC_parts hr).1]; decide, ?_⟩)
    obtain ⟨a, b, e, hw, -⟩ := dnm_three c.w hr.w
    obtain ⟨p, q, r, hm, -⟩ := mnm_three c.m hr.m
    obtain ⟨x, y, hd⟩ := dC_two c.d
    have : (fC c).getD 13 0 = 58 := by unfold fC; rw [hw, hm, hd]; rfl
    rw [this]; decide
  show ¬ 1970 ≤ rnum (fC c) 12 16
  rw [h]; decide

theorem drop_shift (l m : Bs) (k : Nat) : (l ++ m).drop (l.length + k) = m.drop k := by
  rw [← List.drop_drop, List.drop_left' rfl]
theorem rnum_shift (l m : Bs) (a b : Nat) : rnum (l ++ m) (l.length + a) (l.length + b) = rnum m a b := by
  unfold rnum
  rw [drop_shift, show l.length + b - (l.length + a) = b - a by omega, List.length_append]
  by_cases h : b ≤ m.length
  · simp only [show l.length + b ≤ l.length + m.length by omega, h, true_and]
  · simp only [show ¬ l.length + b ≤ l.length + m.length by omega, h, false_and]
theorem getD_shift (l m : Bs) (k : Nat) : (l ++ m).getD (l.length + k) 0 = m.getD k 0 := by
  simp [List.getD, List.getElem?_append_right]
theorem hdB_len (w : Int) : (dnm w ++ [44, 32]).length = (dnm w).length + 2 := by simp
theorem cma_fB {c : Cv} (hr : Rg c) : cma (fB c) = (dnm c.w).length := by
  rw [fB_eq]
  generalize tlB c = r
  have hw := hr.w
  generalize c.w = w at *
  have : w = 0 ∨ w = 1 ∨ w = 2 ∨ w = 3 ∨ w = 4 ∨ w = 5 ∨ w = 6 := by omega
  rcases this with rfl | rfl | rfl | rfl | rfl | rfl | rfl <;> rfl
theorem tlB_at {c : Cv} (hr : Rg c) : (tlB c).getD 2 0 = 45 ∧ (tlB c).getD 6 0 = 45 ∧ (tlB c).getD 12 0 = 58 := by
  obtain ⟨p, q, r, hm, -⟩ := mnm_three c.m hr.m
  unfold tlB
  rw [hm]
  exact ⟨rfl, rfl, rfl⟩
theorem cvM_fB {c : Cv} (hr : Rg c) (now : Int) : rnum (fB c) (cma (fB c) + 9) (cma (fB c) + 11) = c.y % 100 ∧ cvM (fB c) now = ⟨lateY (c.y % 100) now, c.m, c.d, c.h, c.n, c.s, 0⟩ := by
  obtain ⟨t1, t2, t3, t4, t5⟩ := tlB_parts hr
  have a1 := hr.y; have a2 := hr.d
  have e := cma_fB hr
  have hl := hdB_len c.w
  obtain ⟨c1, c2, c3⟩ := clk_at (a := 10) hr (by omega) t5
  have sh : ∀ a b, rnum (fB c) (cma (fB c) + (2 + a)) (cma (fB c) + (2 + b)) = rnum (tlB c) a b := by
    intro a b
    have := rnum_shift (dnm c.w ++ [44, 32]) (tlB c) a b
    rw [hl] at this
    rw [e, fB_eq, ← Nat.add_assoc, ← Nat.add_assoc]
    exact this
  have sy := (sh 7 9).trans (rnum_two (a := 7) (n := c.y % 100) (by omega) (by omega) t2)
  have sd := (sh 0 2).trans (rnum_two (a := 0) (n := c.d) (by omega) (by omega) t4)
  have s1 := (sh 10 12).trans c1
  have s2 := (sh 13 15).trans c2
  have s3 := (sh 16 18).trans c3
  have sm : ((fB c).drop (cma (fB c) + 5)).take 3 = mnm c.m := by
    have := drop_shift (dnm c.w ++ [44, 32]) (tlB c) 3
    rw [hl] at this
    rw [e, fB_eq, show (dnm c.w).length + 5 = (dnm c.w).length + 2 + 3 by omega, this]
    exact t3
  refine ⟨sy, ?_⟩
  unfold cvM
  rw [show cma (fB c) + 9 = cma (fB c) + (2 + 7) from rfl, show cma (fB c) + 11 = cma (fB c) + (2 + 9) from rfl, sy, sm, monNo_mnm _ hr.m, show cma (fB c) + 2 = cma (fB c) + (2 + 0) from rfl, show cma (fB c) + 4 = cma (fB c) + (2 + 2) from rfl, sd, show cma (fB c) + 12 = cma (fB c) + (2 + 10) from rfl, show cma (fB c) + 14 = cma (fB c) + (2 + 12) from rfl, s1, show cma (fB c) + 15 = cma (fB c) + (2 + 13) from rfl, show cma (fB c) + 17 = cma (fB c) + (2 + 15) from rfl, s2, show cma (fB c) + 18 = cma (fB c) + (2 + 16) from rfl, show cma (fB c) + 20 = cma (fB c) + (2 + 18) from rfl, s3]
theorem fB_getD {c : Cv} (k : Nat) : (fB c).getD ((dnm c.w).length + 2 + k) 0 = (tlB c).getD k 0 := by
  have := getD_shift (dnm c.w ++ [44, 32]) (tlB c) k
  rw [hdB_len] at this
  rw [fB_eq]; exact this
theorem cvA_fB {c : Cv} (hr : Rg c) : ¬ 1970 ≤ (cvA (fB c)).y := by
  have hL := dnm_len c.w hr.w
  have hf := fB_len hr
  obtain ⟨q2, q6, -⟩ := tlB_at hr
  have h : rnum (fB c) 12 16 = -1 := by
    by_cases h8 : 8 ≤ (dnm c.w).length
    · exact rnum_bad (i := (dnm c.w).length + 2 + 2) (by omega) (by omega) (.inr ⟨by omega, by rw [fB_getD, q2]; decide⟩)
    · exact rnum_bad (i := (dnm c.w).length + 2 + 6) (by omega) (by omega) (.inr ⟨by omega, by rw [fB_getD, q6]; decide⟩)
  show ¬ 1970 ≤ rnum (fB c) 12 16
  rw [h]; decide
theorem cvK_fB {c : Cv} (hr : Rg c) : ¬ 1970 ≤ (cvK (fB c)).y := by
  have hL := dnm_len c.w hr.w
  have hf := fB_len hr
  obtain ⟨-, -, q12⟩ := tlB_at hr
  have h : rnum (fB c) 20 24 = -1 := rnum_bad (i := (dnm c.w).length + 2 + 12) (by omega) (by omega) (.inr ⟨by omega, by rw [fB_getD, q12]; decide⟩)
  show ¬ 1970 ≤ rnum (fB c) 20 24
  rw [h]; decide
theorem says_rP {s : Bs} {now t : Int} (h : Says s now t) : rP s now = some t := by
  obtain ⟨h0, h1, h2⟩ := h
  have hr := civ_rg h0 h1
  rcases h2 with rfl | rfl | ⟨rfl, hy⟩
  · unfold rP; rw [rTry_civ h0 h1 (cvA_fA h0 h1) (.inl rfl)]
  · unfold rP; rw [rTry_bad (cvA_fC hr), rTry_civ h0 h1 (cvK_fC h0 h1) (.inr (.inr rfl))]
  · obtain ⟨m1, m2⟩ := cvM_fB hr now
    have a1 := hr.y
    have hm : wkd (cvM (fB (civ t)) now) = civ t := by
      rw [m2, ← hy]; exact wkd_civ h0 h1
    unfold rP; rw [rTry_bad (cvA_fB hr), rTry_bad (cvK_fB hr)]
    show (if 0 ≤ rnum _ _ _ then _ else _) = _
    rw [m1, if_pos (by omega), rTry_civ h0 h1 hm (.inr (.inl rfl))]
theorem rP_says {s : Bs} {now t : Int} (h : rP s now = some t) : Says s now t := by
  have key : ∀ c : Cv, rTry c s = some t → (∀ c2, Rg c2 → s = fB c2 → ¬ 1970 ≤ c.y) → Says s now t := by
    intro c hc hb
    obtain ⟨h0, h1, h2, h3, h4⟩ := rTry_some hc
    have hr := civ_rg h0 h1
    rcases h4 with h4 | h4 | h4
    · exact ⟨h0, h1, .inl h4.symm⟩
    · exact absurd (okC_rg h3).y.1 (hb _ hr h4.symm)
    · exact ⟨h0, h1, .inr (.inl h4.symm)⟩
  unfold rP at h
  split at h
  · rename_i t' hA
    obtain rfl := Option.some.inj h
    exact key _ hA (fun c2 hr hs => hs ▸ cvA_fB hr)
  · split at h
    · rename_i t' hK
      obtain rfl := Option.some.inj h
      exact key _ hK (fun c2 hr hs => hs ▸ cvK_fB hr)
    · split at h
      · obtain ⟨h0, h1, h2, h3, h4⟩ := rTry_some h
        have hr := civ_rg h0 h1
        rcases h4 with h4 | h4 | h4
        · exact ⟨h0, h1, .inl h4.symm⟩
        · refine ⟨h0, h1, .inr (.inr ⟨h4.symm, ?_⟩)⟩
          have e := congrArg Cv.y h2
          have m2 := (cvM_fB hr now).2
          rw [h4] at m2
          rw [m2] at e
          exact e
        · exact ⟨h0, h1, .inr (.inl h4.symm)⟩
      · cases h
/-- the document's Parse answers as the program's -/
theorem rP_eq (s : Bs) (now : Int) : rP s now = pP s now := by
  cases h : rP s now with
  | some t => exact (says_pP (rP_says h)).symm
  | none =>
    cases h2 : pP s now with
    | none => rfl
    | some t =>
      have := says_rP (pP_says h2)
      rw [h] at this; cases this
end Tk
end Go.Proofs.YtajmheblbnodjaaDoor
