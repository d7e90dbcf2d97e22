/- Calendar days, plain: the year and the month of a day, civil times and their seconds. -/
import Derived.Test.YtajmheblbnodjaaDoorTok0
namespace Go.Proofs.YtajmheblbnodjaaDoor
namespace Tk

/-- the leap years from the year 1 on, before that year -/
def lpB (y : Int) : Int := (y - 1) / 4 - (y - 1) / 100 + (y - 1) / 400
/-- the days from the first of 1970 to the first of that year -/
def yS (y : Int) : Int := 365 * (y - 1970) + lpB y - 477
/-- 1 in a leap year -/
def lpY (y : Int) : Int := lpB (y + 1) - lpB y
/-- the days of a month -/
def mD (y m : Int) : Int := if m = 4 ∨ m = 6 ∨ m = 9 ∨ m = 11 then 30 else if m = 2 then 28 + lpB (y + 1) - lpB y else 31
/-- the days of the first k months -/
def mC (y : Int) : Nat → Int
  | 0 => 0
  | 1 => 31
  | 2 => 59 + lpY y
  | 3 => 90 + lpY y
  | 4 => 120 + lpY y
  | 5 => 151 + lpY y
  | 6 => 181 + lpY y
  | 7 => 212 + lpY y
  | 8 => 243 + lpY y
  | 9 => 273 + lpY y
  | 10 => 304 + lpY y
  | 11 => 334 + lpY y
  | _ => 365 + lpY y
def dayN (y m d : Int) : Int := yS y + mC y (m - 1).toNat + (d - 1)
def okDay (y m d : Int) : Bool := decide (1970 ≤ y) && decide (y ≤ 9999) && decide (1 ≤ m) && decide (m ≤ 12) && decide (1 ≤ d) && decide (d ≤ mD y m)
/-- the year of a day -/
def yOf (n : Int) : Int :=
  if yS (1970 + n * 400 / 146097 + 1) ≤ n then 1970 + n * 400 / 146097 + 1
  else if yS (1970 + n * 400 / 146097) ≤ n then 1970 + n * 400 / 146097
  else 1970 + n * 400 / 146097 - 1
/-- the month of a day of a year -/
def mOf (y r : Int) : Nat :=
  if r < mC y 1 then 1 else if r < mC y 2 then 2 else if r < mC y 3 then 3 else if r < mC y 4 then 4 else if r < mC y 5 then 5 else if r < mC y 6 then 6
  else if r < mC y 7 then 7 else if r < mC y 8 then 8 else if r < mC y 9 then 9 else if r < mC y 10 then 10 else if r < mC y 11 then 11 else 12
structure Cv where
  y : Int
  m : Int
  d : Int
  h : Int
  n : Int
  s : Int
  w : Int
  deriving DecidableEq
def maxT : Int := 253402300799
def civ (t : Int) : Cv :=
  ⟨yOf (t / 86400), mOf (yOf (t / 86400)) (t / 86400 - yS (yOf (t / 86400))), t / 86400 - yS (yOf (t / 86400)) - mC (yOf (t / 86400)) (mOf (yOf (t / 86400)) (t / 86400 - yS (yOf (t / 86400))) - 1) + 1,
   t % 86400 / 3600, t % 86400 % 3600 / 60, t % 86400 % 60, (t / 86400 + 4) % 7⟩
def okC (c : Cv) : Bool := okDay c.y c.m c.d && decide (0 ≤ c.h) && decide (c.h ≤ 23) && decide (0 ≤ c.n) && decide (c.n ≤ 59) && decide (0 ≤ c.s) && decide (c.s ≤ 59) && decide (c.w = (dayN c.y c.m c.d + 4) % 7)
def secC (c : Cv) : Int := dayN c.y c.m c.d * 86400 + (c.h * 3600 + c.n * 60 + c.s)

theorem lpY_01 (y : Int) : 0 ≤ lpY y ∧ lpY y ≤ 1 := by unfold lpY lpB; omega
theorem yS_next (y : Int) : yS (y + 1) = yS y + 365 + lpY y := by unfold lpY yS; omega
theorem yS_lt : ∀ (k : Nat) (y : Int), yS y + 365 * k ≤ yS (y + k)
  | 0, y => by simp
  | k + 1, y => by
    have := yS_lt k y
    have h := yS_next (y + k)
    have := lpY_01 (y + k)
    rw [show y + ((k + 1 : Nat) : Int) = y + k + 1 by omega]
    omega
theorem yS_mono {a b : Int} (h : a < b) : yS (a + 1) ≤ yS b := by
  have := yS_lt (b - (a + 1)).toNat (a + 1)
  rw [show a + 1 + (((b - (a + 1)).toNat : Nat) : Int) = b by omega] at this
  omega
theorem yS_le {a b : Int} (h : a ≤ b) : yS a ≤ yS b := by
  have := yS_lt (b - a).toNat a
  rw [show a + (((b - a).toNat : Nat) : Int) = b by omega] at this
  omega
/-- one year holds a day -/
theorem yS_uniq {n a b : Int} (ha : yS a ≤ n) (ha' : n < yS (a + 1)) (hb : yS b ≤ n) (hb' : n < yS (b + 1)) : a = b := by
  rcases Int.lt_trichotomy a b with h | h | h
  · have := yS_mono h; omega
  · exact h
  · have := yS_mono h; omega
theorem yS_1970 : yS 1970 = 0 := by decide
theorem yS_10000 : yS 10000 = 2932897 := by decide
theorem yS_above (n : Int) (_h : 0 ≤ n) : n < yS (1970 + n * 400 / 146097 + 2) := by
  unfold yS lpB
  omega
theorem yS_below (n : Int) (_h : 0 ≤ n) : yS (1970 + n * 400 / 146097 - 1) ≤ n := by
  unfold yS lpB
  omega
theorem yOf_spec (n : Int) (h : 0 ≤ n) : yS (yOf n) ≤ n ∧ n < yS (yOf n + 1) := by
  have h1 := yS_above n h
  have h2 := yS_below n h
  unfold yOf
  split
  · refine ⟨by assumption, ?_⟩
    rw [Int.add_assoc]; exact h1
  · split
    · refine ⟨by assumption, ?_⟩; omega
    · refine ⟨h2, ?_⟩
      rw [Int.sub_add_cancel]; omega
theorem yOf_is {n a : Int} (h : 0 ≤ n) (ha : yS a ≤ n) (ha' : n < yS (a + 1)) : yOf n = a :=
  yS_uniq (yOf_spec n h).1 (yOf_spec n h).2 ha ha'
theorem yOf_range (n : Int) (h : 0 ≤ n) (h1 : n < 2932897) : 1970 ≤ yOf n ∧ yOf n ≤ 9999 := by
  obtain ⟨h2, h3⟩ := yOf_spec n h
  refine ⟨Int.not_lt.1 fun hlt => ?_, Int.not_lt.1 fun hlt => ?_⟩
  · have := yS_mono hlt; rw [yS_1970] at this; omega
  · have := yS_mono hlt
    have h4 := yS_le (show (10000 : Int) ≤ yOf n by omega)
    rw [yS_10000] at h4; omega

theorem mC_next (y : Int) (k : Nat) (h : k < 12) : mC y (k + 1) = mC y k + mD y (k + 1) := by
  have : k = 0 ∨ k = 1 ∨ k = 2 ∨ k = 3 ∨ k = 4 ∨ k = 5 ∨ k = 6 ∨ k = 7 ∨ k = 8 ∨ k = 9 ∨ k = 10 ∨ k = 11 := by omega
  rcases this with rfl | rfl | rfl | rfl | rfl | rfl | rfl | rfl | rfl | rfl | rfl | rfl <;> simp [mC, mD, lpY] <;> omega
theorem mC_12 (y : Int) : mC y 12 = 365 + lpY y := rfl
theorem mD_28 (y m : Int) : 28 ≤ mD y m ∧ mD y m ≤ 31 := by
  have := lpY_01 y
  unfold lpY at this
  unfold mD; split; omega; split <;> omega
theorem mOf_spec (y r : Int) (h : 0 ≤ r) (h1 : r < 365 + lpY y) : 1 ≤ mOf y r ∧ mOf y r ≤ 12 ∧ mC y (mOf y r - 1) ≤ r ∧ r < mC y (mOf y r) := by
  have := lpY_01 y
  unfold mOf
  repeat' split
  all_goals (simp only [mC] at *; omega)
theorem mC_le (y : Int) : ∀ (k j : Nat), j + k ≤ 12 → mC y j + 28 * k ≤ mC y (j + k)
  | 0, j, _ => by simp
  | k + 1, j, h => by
    have h1 := mC_le y k j (by omega)
    have h2 := mC_next y (j + k) (by omega)
    have h3 := mD_28 y ((j + k : Nat) + 1)
    rw [← Nat.add_assoc, h2]; omega
theorem mOf_uniq (y r : Int) {a b : Nat} (ha0 : 1 ≤ a) (ha1 : a ≤ 12) (ha : mC y (a - 1) ≤ r) (ha' : r < mC y a) (hb0 : 1 ≤ b) (hb1 : b ≤ 12) (hb : mC y (b - 1) ≤ r) (hb' : r < mC y b) : a = b := by
  rcases Nat.lt_trichotomy a b with h | h | h
  · have := mC_le y (b - 1 - a) a (by omega)
    rw [show a + (b - 1 - a) = b - 1 by omega] at this; omega
  · exact h
  · have := mC_le y (a - 1 - b) b (by omega)
    rw [show b + (a - 1 - b) = a - 1 by omega] at this; omega
theorem mOf_is (y r : Int) {a : Nat} (ha0 : 1 ≤ a) (ha1 : a ≤ 12) (ha : mC y (a - 1) ≤ r) (ha' : r < mC y a) : mOf y r = a := by
  have h0 : 0 ≤ r := by
    have := mC_le y (a - 1) 0 (by omega)
    simp only [Nat.zero_add] at this
    have : mC y 0 = 0 := rfl
    omega
  have h1 : r < 365 + lpY y := by
    have := mC_le y (12 - a) a (by omega)
    rw [show a + (12 - a) = 12 by omega, mC_12] at this
    omega
  obtain ⟨b0, b1, b2, b3⟩ := mOf_spec y r h0 h1
  exact mOf_uniq y r b0 b1 b2 b3 ha0 ha1 ha ha'

theorem okDay_iff (y m d : Int) : okDay y m d = true ↔ (1970 ≤ y ∧ y ≤ 9999 ∧ 1 ≤ m ∧ m ≤ 12 ∧ 1 ≤ d ∧ d ≤ mD y m) := by
  unfold okDay; simp only [Bool.and_eq_true, decide_eq_true_eq]; constructor
  · rintro ⟨⟨⟨⟨⟨a, b⟩, c⟩, d⟩, e⟩, f⟩; exact ⟨a, b, c, d, e, f⟩
  · rintro ⟨a, b, c, d, e, f⟩; exact ⟨⟨⟨⟨⟨a, b⟩, c⟩, d⟩, e⟩, f⟩
/-- a day's parts -/
theorem day_in (y m d : Int) (h : okDay y m d = true) : mC y (m.toNat - 1) ≤ dayN y m d - yS y ∧ dayN y m d - yS y < mC y m.toNat ∧ 0 ≤ mC y (m.toNat - 1) ∧ mC y m.toNat ≤ 365 + lpY y := by
  obtain ⟨h1, h2, h3, h4, h5, h6⟩ := (okDay_iff y m d).1 h
  have hm := mC_next y (m.toNat - 1) (by omega)
  rw [show m.toNat - 1 + 1 = m.toNat by omega, show ((m.toNat - 1 : Nat) : Int) + 1 = m by omega] at hm
  have e : (m - 1).toNat = m.toNat - 1 := by omega
  have a1 := mC_le y (m.toNat - 1) 0 (by omega)
  have a2 := mC_le y (12 - m.toNat) m.toNat (by omega)
  rw [Nat.zero_add] at a1
  rw [show m.toNat + (12 - m.toNat) = 12 by omega, mC_12] at a2
  have a3 : mC y 0 = 0 := rfl
  unfold dayN
  rw [e]
  omega
theorem day_range (y m d : Int) (h : okDay y m d = true) : 0 ≤ dayN y m d ∧ dayN y m d < 2932897 ∧ yS y ≤ dayN y m d ∧ dayN y m d < yS (y + 1) := by
  obtain ⟨h1, h2, h3, h4⟩ := day_in y m d h
  obtain ⟨a1, a2, -⟩ := (okDay_iff y m d).1 h
  have b1 := yS_le a1
  have b2 := yS_le (show y + 1 ≤ 10000 by omega)
  have b3 := yS_next y
  rw [yS_1970] at b1
  rw [yS_10000] at b2
  omega
theorem civ_ok (t : Int) (h0 : 0 ≤ t) (h1 : t ≤ maxT) : okC (civ t) = true ∧ secC (civ t) = t := by
  unfold maxT at h1
  have hn : 0 ≤ t / 86400 := by omega
  have hn1 : t / 86400 < 2932897 := by omega
  obtain ⟨a1, a2⟩ := yOf_spec _ hn
  obtain ⟨r1, r2⟩ := yOf_range _ hn hn1
  rw [yS_next] at a2
  obtain ⟨m1, m2, m3, m4⟩ := mOf_spec (yOf (t / 86400)) (t / 86400 - yS (yOf (t / 86400))) (by omega) (by omega)
  unfold okC secC civ
  dsimp only
  generalize yOf (t / 86400) = y at *
  generalize hM : mOf y (t / 86400 - yS y) = m at *
  have e : ((m : Int) - 1).toNat = m - 1 := by omega
  have hm := mC_next y (m - 1) (by omega)
  rw [show m - 1 + 1 = m by omega, show ((m - 1 : Nat) : Int) + 1 = (m : Int) by omega] at hm
  have hd : dayN y m (t / 86400 - yS y - mC y (m - 1) + 1) = t / 86400 := by unfold dayN; rw [e]; omega
  rw [hd]
  have ho : okDay y m (t / 86400 - yS y - mC y (m - 1) + 1) = true := by rw [okDay_iff]; omega
  rw [ho]
  refine ⟨?_, by omega⟩
  clear hd ho hm e m1 m2 m3 m4 hM
  simp only [Bool.and_eq_true, decide_eq_true_eq, Bool.true_and]
  and_intros <;> first | trivial | rfl | omega
theorem sec_ok (c : Cv) (h : okC c = true) : 0 ≤ secC c ∧ secC c ≤ maxT ∧ civ (secC c) = c := by
  obtain ⟨y, m, d, H, n, s, w⟩ := c
  unfold okC at h
  simp only [Bool.and_eq_true, decide_eq_true_eq] at h
  obtain ⟨⟨⟨⟨⟨⟨⟨hd, h1⟩, h2⟩, h3⟩, h4⟩, h5⟩, h6⟩, h7⟩ := h
  obtain ⟨r1, r2, r3, r4⟩ := day_range y m d hd
  obtain ⟨i1, i2, -, -⟩ := day_in y m d hd
  obtain ⟨o1, o2, o3, o4, o5, o6⟩ := (okDay_iff y m d).1 hd
  have e1 : secC ⟨y, m, d, H, n, s, w⟩ / 86400 = dayN y m d := by unfold secC; dsimp only; omega
  have e2 : secC ⟨y, m, d, H, n, s, w⟩ % 86400 = H * 3600 + n * 60 + s := by unfold secC; dsimp only; omega
  refine ⟨by unfold secC; dsimp only; omega, by unfold secC maxT; dsimp only; omega, ?_⟩
  unfold civ
  rw [e1, e2]
  have ey : yOf (dayN y m d) = y := yOf_is r1 r3 r4
  rw [ey]
  have em : mOf y (dayN y m d - yS y) = m.toNat := mOf_is y _ (by omega) (by omega) i1 i2
  rw [em]
  have e : (m - 1).toNat = m.toNat - 1 := by omega
  have ed : dayN y m d - yS y - mC y (m.toNat - 1) + 1 = d := by unfold dayN; rw [e]; omega
  rw [ed, h7]
  have e3 : ((m.toNat : Nat) : Int) = m := by omega
  rw [e3]
  congr 1 <;> omega
end Tk
end Go.Proofs.YtajmheblbnodjaaDoor
