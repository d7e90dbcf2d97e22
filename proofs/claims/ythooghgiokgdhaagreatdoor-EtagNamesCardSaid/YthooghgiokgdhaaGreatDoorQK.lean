/- DtP DtT DtA, put together. -/
import Derived.Test.YthooghgiokgdhaaGreatDoorQA
import Derived.Test.YthooghgiokgdhaaGreatDoorQF
import Derived.Lib.CutLaws
import Derived.Test.YthooghgiokgdhaaGreatDoorQJ
namespace Go.Proofs.YthooghgiokgdhaaGreatDoor
namespace Tk

/-- the leap years from the year 1 on, before that year -/
def lpB (y : Int) : Int := (y - 1) / 4 - (y - 1) / 100 + (y - 1) / 400
/-- the days from the first of 1970 to the first of that year -/
def yS (y : Int) : Int := 365 * (y - 1970) + lpB y - 477
/-- 1 in a leap year -/
def lpY (y : Int) : Int := lpB (y + 1) - lpB y
/-- the days of a month -/
def mD (y m : Int) : Int := if m = 4 ∨ m = 6 ∨ m = 9 ∨ m = 11 then 30 else if m = 2 then 28 + lpB (y + 1) - lpB y else 31
/-- the days of the first k months -/
def mC (y : Int) : Nat → Int
  | 0 => 0
  | 1 => 31
  | 2 => 59 + lpY y
  | 3 => 90 + lpY y
  | 4 => 120 + lpY y
  | 5 => 151 + lpY y
  | 6 => 181 + lpY y
  | 7 => 212 + lpY y
  | 8 => 243 + lpY y
  | 9 => 273 + lpY y
  | 10 => 304 + lpY y
  | 11 => 334 + lpY y
  | _ => 365 + lpY y
def dayN (y m d : Int) : Int := yS y + mC y (m - 1).toNat + (d - 1)
def okDay (y m d : Int) : Bool := decide (1970 ≤ y) && decide (y ≤ 9999) && decide (1 ≤ m) && decide (m ≤ 12) && decide (1 ≤ d) && decide (d ≤ mD y m)
/-- the year of a day -/
def yOf (n : Int) : Int :=
  if yS (1970 + n * 400 / 146097 + 1) ≤ n then 1970 + n * 400 / 146097 + 1
  else if yS (1970 + n * 400 / 146097) ≤ n then 1970 + n * 400 / 146097
  else 1970 + n * 400 / 146097 - 1
/-- the month of a day of a year -/
def mOf (y r : Int) : Nat :=
  if r < mC y 1 then 1 else if r < mC y 2 then 2 else if r < mC y 3 then 3 else if r < mC y 4 then 4 else if r < mC y 5 then 5 else if r < mC y 6 then 6
  else if r < mC y 7 then 7 else if r < mC y 8 then 8 else if r < mC y 9 then 9 else if r < mC y 10 then 10 else if r < mC y 11 then 11 else 12
structure Cv where
  y : Int
  m : Int
  d : Int
  h : Int
  n : Int
  s : Int
  w : Int
  deriving DecidableEq
def maxT : Int := 253402300799
def civ (t : Int) : Cv :=
  ⟨yOf (t / 86400), mOf (yOf (t / 86400)) (t / 86400 - yS (yOf (t / 86400))), t / 86400 - yS (yOf (t / 86400)) - mC (yOf (t / 86400)) (mOf (yOf (t / 86400)) (t / 86400 - yS (yOf (t / 86400))) - 1) + 1,
   t % 86400 / 3600, t % 86400 % 3600 / 60, t % 86400 % 60, (t / 86400 + 4) % 7⟩
def okC (c : Cv) : Bool := okDay c.y c.m c.d && decide (0 ≤ c.h) && decide (c.h ≤ 23) && decide (0 ≤ c.n) && decide (c.n ≤ 59) && decide (0 ≤ c.s) && decide (c.s ≤ 59) && decide (c.w = (dayN c.y c.m c.d + 4) % 7)
def secC (c : Cv) : Int := dayN c.y c.m c.d * 86400 + (c.h * 3600 + c.n * 60 + c.s)

theorem lpY_01 (y : Int) : 0 ≤ lpY y ∧ lpY y ≤ 1 := by unfold lpY lpB; omega
theorem yS_next (y : Int) : yS (y + 1) = yS y + 365 + lpY y := by unfold lpY yS; omega
theorem yS_lt : ∀ (k : Nat) (y : Int), yS y + 365 * k ≤ yS (y + k)
  | 0, y => by simp
  | k + 1, y => by
    have := yS_lt k y
    have h := yS_next (y + k)
    have := lpY_01 (y + k)
    rw [show y + ((k + 1 : Nat) : Int) = y + k + 1 by omega]
    omega
theorem yS_mono {a b : Int} (h : a < b) : yS (a + 1) ≤ yS b := by
  have := yS_lt (b - (a + 1)).toNat (a + 1)
  rw [show a + 1 + (((b - (a + 1)).toNat : Nat) : Int) = b by omega] at this
  omega
theorem yS_le {a b : Int} (h : a ≤ b) : yS a ≤ yS b := by
  have := yS_lt (b - a).toNat a
  rw [show a + (((b - a).toNat : Nat) : Int) = b by omega] at this
  omega
/-- one year holds a day -/
theorem yS_uniq {n a b : Int} (ha : yS a ≤ n) (ha' : n < yS (a + 1)) (hb : yS b ≤ n) (hb' : n < yS (b + 1)) : a = b := by
  rcases Int.lt_trichotomy a b with h | h | h
  · have := yS_mono h; omega
  · exact h
  · have := yS_mono h; omega
theorem yS_1970 : yS 1970 = 0 := by decide
theorem yS_10000 : yS 10000 = 2932897 := by decide
theorem yS_above (n : Int) (_h : 0 ≤ n) : n < yS (1970 + n * 400 / 146097 + 2) := by
  unfold yS lpB
  omega
theorem yS_below (n : Int) (_h : 0 ≤ n) : yS (1970 + n * 400 / 146097 - 1) ≤ n := by
  unfold yS lpB
  omega
theorem yOf_spec (n : Int) (h : 0 ≤ n) : yS (yOf n) ≤ n ∧ n < yS (yOf n + 1) := by
  have h1 := yS_above n h
  have h2 := yS_below n h
  unfold yOf
  split
  · refine ⟨by assumption, ?_⟩
    rw [Int.add_assoc]; exact h1
  · split
    · refine ⟨by assumption, ?_⟩; omega
    · refine ⟨h2, ?_⟩
      rw [Int.sub_add_cancel]; omega
theorem yOf_is {n a : Int} (h : 0 ≤ n) (ha : yS a ≤ n) (ha' : n < yS (a + 1)) : yOf n = a :=
  yS_uniq (yOf_spec n h).1 (yOf_spec n h).2 ha ha'
theorem yOf_range (n : Int) (h : 0 ≤ n) (h1 : n < 2932897) : 1970 ≤ yOf n ∧ yOf n ≤ 9999 := by
  obtain ⟨h2, h3⟩ := yOf_spec n h
  refine ⟨Int.not_lt.1 fun hlt => ?_, Int.not_lt.1 fun hlt => ?_⟩
  · have := yS_mono hlt; rw [yS_1970] at this; omega
  · have := yS_mono hlt
    have h4 := yS_le (show (10000 : Int) ≤ yOf n by omega)
    rw [yS_10000] at h4; omega

theorem mC_next (y : Int) (k : Nat) (h : k < 12) : mC y (k + 1) = mC y k + mD y (k + 1) := by
  have : k = 0 ∨ k = 1 ∨ k = 2 ∨ k = 3 ∨ k = 4 ∨ k = 5 ∨ k = 6 ∨ k = 7 ∨ k = 8 ∨ k = 9 ∨ k = 10 ∨ k = 11 := by omega
  rcases this with rfl | rfl | rfl | rfl | rfl | rfl | rfl | rfl | rfl | rfl | rfl | rfl <;> simp [mC, mD, lpY] <;> omega
theorem mC_12 (y : Int) : mC y 12 = 365 + lpY y := rfl
theorem mD_28 (y m : Int) : 28 ≤ mD y m ∧ mD y m ≤ 31 := by
  have := lpY_01 y
  unfold lpY at this
  unfold mD; split; omega; split <;> omega
theorem mOf_spec (y r : Int) (h : 0 ≤ r) (h1 : r < 365 + lpY y) : 1 ≤ mOf y r ∧ mOf y r ≤ 12 ∧ mC y (mOf y r - 1) ≤ r ∧ r < mC y (mOf y r) := by
  have := lpY_01 y
  unfold mOf
  repeat' split
  all_goals (simp only [mC] at *; omega)
theorem mC_le (y : Int) : ∀ (k j : Nat), j + k ≤ 12 → mC y j + 28 * k ≤ mC y (j + k)
  | 0, j, _ => by simp
  | k + 1, j, h => by
    have h1 := mC_le y k j (by omega)
    have h2 := mC_next y (j + k) (by omega)
    have h3 := mD_28 y ((j + k : Nat) + 1)
    rw [← Nat.add_assoc, h2]; omega
theorem mOf_uniq (y r : Int) {a b : Nat} (ha0 : 1 ≤ a) (ha1 : a ≤ 12) (ha : mC y (a - 1) ≤ r) (ha' : r < mC y a) (hb0 : 1 ≤ b) (hb1 : b ≤ 12) (hb : mC y (b - 1) ≤ r) (hb' : r < mC y b) : a = b := by
  rcases Nat.lt_trichotomy a b with h | h | h
  · have := mC_le y (b - 1 - a) a (by omega)
    rw [show a + (b - 1 - a) = b - 1 by omega] at this; omega
  · exact h
  · have := mC_le y (a - 1 - b) b (by omega)
    rw [show b + (a - 1 - b) = a - 1 by omega] at this; omega
theorem mOf_is (y r : Int) {a : Nat} (ha0 : 1 ≤ a) (ha1 : a ≤ 12) (ha : mC y (a - 1) ≤ r) (ha' : r < mC y a) : mOf y r = a := by
  have h0 : 0 ≤ r := by
    have := mC_le y (a - 1) 0 (by omega)
    simp only [Nat.zero_add] at this
    have : mC y 0 = 0 := rfl
    omega
  have h1 : r < 365 + lpY y := by
    have := mC_le y (12 - a) a (by omega)
    rw [show a + (12 - a) = 12 by omega, mC_12] at this
    omega
  obtain ⟨b0, b1, b2, b3⟩ := mOf_spec y r h0 h1
  exact mOf_uniq y r b0 b1 b2 b3 ha0 ha1 ha ha'

theorem okDay_iff (y m d : Int) : okDay y m d = true ↔ (1970 ≤ y ∧ y ≤ 9999 ∧ 1 ≤ m ∧ m ≤ 12 ∧ 1 ≤ d ∧ d ≤ mD y m) := by
  unfold okDay; simp only [Bool.and_eq_true, decide_eq_true_eq]; constructor
  · rintro ⟨⟨⟨⟨⟨a, b⟩, c⟩, d⟩, e⟩, f⟩; exact ⟨a, b, c, d, e, f⟩
  · rintro ⟨a, b, c, d, e, f⟩; exact ⟨⟨⟨⟨⟨a, b⟩, c⟩, d⟩, e⟩, f⟩
/-- a day's parts -/
theorem day_in (y m d : Int) (h : okDay y m d = true) : mC y (m.toNat - 1) ≤ dayN y m d - yS y ∧ dayN y m d - yS y < mC y m.toNat ∧ 0 ≤ mC y (m.toNat - 1) ∧ mC y m.toNat ≤ 365 + lpY y := by
  obtain ⟨h1, h2, h3, h4, h5, h6⟩ := (okDay_iff y m d).1 h
  have hm := mC_next y (m.toNat - 1) (by omega)
  rw [show m.toNat - 1 + 1 = m.toNat by omega, show ((m.toNat - 1 : Nat) : Int) + 1 = m by omega] at hm
  have e : (m - 1).toNat = m.toNat - 1 := by omega
  have a1 := mC_le y (m.toNat - 1) 0 (by omega)
  have a2 := mC_le y (12 - m.toNat) m.toNat (by omega)
  rw [Nat.zero_add] at a1
  rw [show m.toNat + (12 - m.toNat) = 12 by omega, mC_12] at a2
  have a3 : mC y 0 = 0 := rfl
  unfold dayN
  rw [e]
  omega
theorem day_range (y m d : Int) (h : okDay y m d = true) : 0 ≤ dayN y m d ∧ dayN y m d < 2932897 ∧ yS y ≤ dayN y m d ∧ dayN y m d < yS (y + 1) := by
  obtain ⟨h1, h2, h3, h4⟩ := day_in y m d h
  obtain ⟨a1, a2, -⟩ := (okDay_iff y m d).1 h
  have b1 := yS_le a1
  have b2 := yS_le (show y + 1 ≤ 10000 by omega)
  have b3 := yS_next y
  rw [yS_1970] at b1
  rw [yS_10000] at b2
  omega
theorem civ_ok (t : Int) (h0 : 0 ≤ t) (h1 : t ≤ maxT) : okC (civ t) = true ∧ secC (civ t) = t := by
  unfold maxT at h1
  have hn : 0 ≤ t / 86400 := by omega
  have hn1 : t / 86400 < 2932897 := by omega
  obtain ⟨a1, a2⟩ := yOf_spec _ hn
  obtain ⟨r1, r2⟩ := yOf_range _ hn hn1
  rw [yS_next] at a2
  obtain ⟨m1, m2, m3, m4⟩ := mOf_spec (yOf (t / 86400)) (t / 86400 - yS (yOf (t / 86400))) (by omega) (by omega)
  unfold okC secC civ
  dsimp only
  generalize yOf (t / 86400) = y at *
  generalize hM : mOf y (t / 86400 - yS y) = m at *
  have e : ((m : Int) - 1).toNat = m - 1 := by omega
  have hm := mC_next y (m - 1) (by omega)
  rw [show m - 1 + 1 = m by omega, show ((m - 1 : Nat) : Int) + 1 = (m : Int) by omega] at hm
  have hd : dayN y m (t / 86400 - yS y - mC y (m - 1) + 1) = t / 86400 := by unfold dayN; rw [e]; omega
  rw [hd]
  have ho : okDay y m (t / 86400 - yS y - mC y (m - 1) + 1) = true := by rw [okDay_iff]; omega
  rw [ho]
  refine ⟨?_, by omega⟩
  clear hd ho hm e m1 m2 m3 m4 hM
  simp only [Bool.and_eq_true, decide_eq_true_eq, Bool.true_and]
  and_intros <;> first | trivial | rfl | omega
theorem sec_ok (c : Cv) (h : okC c = true) : 0 ≤ secC c ∧ secC c ≤ maxT ∧ civ (secC c) = c := by
  obtain ⟨y, m, d, H, n, s, w⟩ := c
  unfold okC at h
  simp only [Bool.and_eq_true, decide_eq_true_eq] at h
  obtain ⟨⟨⟨⟨⟨⟨⟨hd, h1⟩, h2⟩, h3⟩, h4⟩, h5⟩, h6⟩, h7⟩ := h
  obtain ⟨r1, r2, r3, r4⟩ := day_range y m d hd
  obtain ⟨i1, i2, -, -⟩ := day_in y m d hd
  obtain ⟨o1, o2, o3, o4, o5, o6⟩ := (okDay_iff y m d).1 hd
  have e1 : secC ⟨y, m, d, H, n, s, w⟩ / 86400 = dayN y m d := by unfold secC; dsimp only; omega
  have e2 : secC ⟨y, m, d, H, n, s, w⟩ % 86400 = H * 3600 + n * 60 + s := by unfold secC; dsimp only; omega
  refine ⟨by unfold secC; dsimp only; omega, by unfold secC maxT; dsimp only; omega, ?_⟩
  unfold civ
  rw [e1, e2]
  have ey : yOf (dayN y m d) = y := yOf_is r1 r3 r4
  rw [ey]
  have em : mOf y (dayN y m d - yS y) = m.toNat := mOf_is y _ (by omega) (by omega) i1 i2
  rw [em]
  have e : (m - 1).toNat = m.toNat - 1 := by omega
  have ed : dayN y m d - yS y - mC y (m.toNat - 1) + 1 = d := by unfold dayN; rw [e]; omega
  rw [ed, h7]
  have e3 : ((m.toNat : Nat) : Int) = m := by omega
  rw [e3]
  congr 1 <;> omega
end Tk
end Go.Proofs.YthooghgiokgdhaaGreatDoor
namespace Go.Proofs.YthooghgiokgdhaaGreatDoor
namespace Tk

def dN : List Bs := [[83, 117, 110, 100, 97, 121], [77, 111, 110, 100, 97, 121], [84, 117, 101, 115, 100, 97, 121], [87, 101, 100, 110, 101, 115, 100, 97, 121], [84, 104, 117, 114, 115, 100, 97, 121], [70, 114, 105, 100, 97, 121], [83, 97, 116, 117, 114, 100, 97, 121]]
def mN : List Bs := [[74, 97, 110], [70, 101, 98], [77, 97, 114], [65, 112, 114], [77, 97, 121], [74, 117, 110], [74, 117, 108], [65, 117, 103], [83, 101, 112], [79, 99, 116], [78, 111, 118], [68, 101, 99]]
def dnm (w : Int) : Bs := dN.getD w.toNat []
def mnm (m : Int) : Bs := mN.getD (m - 1).toNat []
def d1 (n : Int) : UInt8 := UInt8.ofNat (48 + n.toNat)
def two (n : Int) : Bs := [d1 (n / 10), d1 (n % 10)]
def yr4 (y : Int) : Bs := two (y / 100) ++ two (y % 100)
def clk (c : Cv) : Bs := two c.h ++ [58] ++ two c.n ++ [58] ++ two c.s
def dC (d : Int) : Bs := if d < 10 then [32, d1 d] else two d
def gmt : Bs := [32, 71, 77, 84]
def fA (c : Cv) : Bs := (dnm c.w).take 3 ++ [44, 32] ++ two c.d ++ [32] ++ mnm c.m ++ [32] ++ yr4 c.y ++ [32] ++ clk c ++ gmt
def fB (c : Cv) : Bs := dnm c.w ++ [44, 32] ++ two c.d ++ [45] ++ mnm c.m ++ [45] ++ two (c.y % 100) ++ [32] ++ clk c ++ gmt
def fC (c : Cv) : Bs := (dnm c.w).take 3 ++ [32] ++ mnm c.m ++ [32] ++ dC c.d ++ [32] ++ clk c ++ [32] ++ yr4 c.y
def monGo : List Bs → Int → Bs → Int
  | [], _, _ => 0
  | a :: r, k, l => if a = l then k else monGo r (k + 1) l
def monNo (l : Bs) : Int := monGo mN 1 l
def numP (l : Bs) : Int := ((numL l).1 : Int)
def lateY (n now : Int) : Int :=
  if (if now + 50 < now - now % 100 + n then now - now % 100 + n - 100 else now - now % 100 + n) < 1970 then (if now + 50 < now - now % 100 + n then now - now % 100 + n - 100 else now - now % 100 + n) + 100
  else (if now + 50 < now - now % 100 + n then now - now % 100 + n - 100 else now - now % 100 + n)
def tmS (l : Bs) : Int := numP (l.take 2) * 3600 + numP ((l.drop 3).take 2) * 60 + numP (l.drop 6)
/-- what package date's written reads -/
def wr (f : Cv → Bs) (s : Bs) (y : Int) (mon day time : Bs) : Option Int :=
  if okDay y (monNo mon) (numP day) = true ∧ dayN y (monNo mon) (numP day) * 86400 + tmS time ≤ maxT ∧ f (civ (dayN y (monNo mon) (numP day) * 86400 + tmS time)) = s
  then some (dayN y (monNo mon) (numP day) * 86400 + tmS time) else none
def wrA (s : Bs) : Option Int := if s.length = 29 then wr fA s (numP ((s.drop 12).take 4)) ((s.drop 8).take 3) ((s.drop 5).take 2) ((s.drop 17).take 8) else none
def wrC (s : Bs) : Option Int := if s.length = 24 then wr fC s (numP (s.drop 20)) ((s.drop 4).take 3) (trimL ((s.drop 8).take 2)) ((s.drop 11).take 8) else none
def bhd (s : Bs) : Bs := (Lib.cut s [44, 32]).2.1
def wrB (s : Bs) (now : Int) : Option Int := if (bhd s).length = 22 then wr fB s (lateY (numP (((bhd s).drop 7).take 2)) now) (((bhd s).drop 3).take 3) ((bhd s).take 2) (((bhd s).drop 10).take 8) else none
def pP (s : Bs) (now : Int) : Option Int := match wrA s with
  | some t => some t
  | none => match wrB s now with
    | some t => some t
    | none => wrC s
/-- what a text says -/
def Says (s : Bs) (now t : Int) : Prop := 0 ≤ t ∧ t ≤ maxT ∧ (s = fA (civ t) ∨ s = fC (civ t) ∨ (s = fB (civ t) ∧ (civ t).y = lateY ((civ t).y % 100) now))

/-- the ranges of a civil time's parts -/
structure Rg (c : Cv) : Prop where
  y : 1970 ≤ c.y ∧ c.y ≤ 9999
  m : 1 ≤ c.m ∧ c.m ≤ 12
  d : 1 ≤ c.d ∧ c.d ≤ 31
  h : 0 ≤ c.h ∧ c.h ≤ 23
  n : 0 ≤ c.n ∧ c.n ≤ 59
  s : 0 ≤ c.s ∧ c.s ≤ 59
  w : 0 ≤ c.w ∧ c.w ≤ 6
theorem okC_rg {c : Cv} (h : okC c = true) : Rg c := by
  unfold okC at h
  simp only [Bool.and_eq_true, decide_eq_true_eq] at h
  obtain ⟨⟨⟨⟨⟨⟨⟨hd, h1⟩, h2⟩, h3⟩, h4⟩, h5⟩, h6⟩, h7⟩ := h
  obtain ⟨o1, o2, o3, o4, o5, o6⟩ := (okDay_iff c.y c.m c.d).1 hd
  have := mD_28 c.y c.m
  constructor <;> omega
theorem civ_rg {t : Int} (h0 : 0 ≤ t) (h1 : t ≤ maxT) : Rg (civ t) := okC_rg (civ_ok t h0 h1).1

theorem dnm_three (w : Int) (h : 0 ≤ w ∧ w ≤ 6) : ∃ a b c, (dnm w).take 3 = [a, b, c] ∧ a ≠ 44 ∧ b ≠ 44 ∧ c ≠ 44 := by
  have : w = 0 ∨ w = 1 ∨ w = 2 ∨ w = 3 ∨ w = 4 ∨ w = 5 ∨ w = 6 := by omega
  rcases this with rfl | rfl | rfl | rfl | rfl | rfl | rfl <;> exact ⟨_, _, _, rfl, by decide, by decide, by decide⟩
theorem mnm_three (m : Int) (h : 1 ≤ m ∧ m ≤ 12) : ∃ a b c, mnm m = [a, b, c] ∧ isDig a = false ∧ isDig b = false ∧ isDig c = false := by
  have : m = 1 ∨ m = 2 ∨ m = 3 ∨ m = 4 ∨ m = 5 ∨ m = 6 ∨ m = 7 ∨ m = 8 ∨ m = 9 ∨ m = 10 ∨ m = 11 ∨ m = 12 := by omega
  rcases this with rfl | rfl | rfl | rfl | rfl | rfl | rfl | rfl | rfl | rfl | rfl | rfl <;> exact ⟨_, _, _, rfl, by decide, by decide, by decide⟩
theorem monNo_mnm (m : Int) (h : 1 ≤ m ∧ m ≤ 12) : monNo (mnm m) = m := by
  have : m = 1 ∨ m = 2 ∨ m = 3 ∨ m = 4 ∨ m = 5 ∨ m = 6 ∨ m = 7 ∨ m = 8 ∨ m = 9 ∨ m = 10 ∨ m = 11 ∨ m = 12 := by omega
  rcases this with rfl | rfl | rfl | rfl | rfl | rfl | rfl | rfl | rfl | rfl | rfl | rfl <;> decide
theorem d1_nat (n : Int) (h : 0 ≤ n ∧ n ≤ 9) : (d1 n).toNat = 48 + n.toNat := dig_toNat _ (by omega)
theorem d1_dig (n : Int) (h : 0 ≤ n ∧ n ≤ 9) : isDig (d1 n) = true := isDig_ofNat _ (by omega)
theorem d1_ne (n : Int) (h : 0 ≤ n ∧ n ≤ 9) (k : UInt8) (hk : isDig k = false) : d1 n ≠ k := fun e => by
  have := d1_dig n h; rw [e, hk] at this; cases this
theorem valFrom_two (n : Int) (h : 0 ≤ n ∧ n ≤ 99) : (valFrom 0 (two n) : Int) = n := by
  have h1 := d1_nat (n / 10) (by omega)
  have h2 := d1_nat (n % 10) (by omega)
  show (((0 * 10 + ((d1 (n / 10)).toNat - 48)) * 10 + ((d1 (n % 10)).toNat - 48) : Nat) : Int) = n
  rw [h1, h2]; omega
theorem valFrom_yr4 (y : Int) (h : 0 ≤ y ∧ y ≤ 9999) : (valFrom 0 (yr4 y) : Int) = y := by
  have h1 := d1_nat (y / 100 / 10) (by omega)
  have h2 := d1_nat (y / 100 % 10) (by omega)
  have h3 := d1_nat (y % 100 / 10) (by omega)
  have h4 := d1_nat (y % 100 % 10) (by omega)
  show (((((0 * 10 + ((d1 (y / 100 / 10)).toNat - 48)) * 10 + ((d1 (y / 100 % 10)).toNat - 48)) * 10 + ((d1 (y % 100 / 10)).toNat - 48)) * 10 + ((d1 (y % 100 % 10)).toNat - 48) : Nat) : Int) = y
  rw [h1, h2, h3, h4]; omega
theorem two_digs (n : Int) (h : 0 ≤ n ∧ n ≤ 99) : ∀ c ∈ two n, isDig c = true := by
  intro c hc
  simp only [two, List.mem_cons, List.not_mem_nil, or_false] at hc
  rcases hc with rfl | rfl
  · exact d1_dig _ (by omega)
  · exact d1_dig _ (by omega)
theorem yr4_digs (y : Int) (h : 0 ≤ y ∧ y ≤ 9999) : ∀ c ∈ yr4 y, isDig c = true := by
  intro c hc
  rcases List.mem_append.1 hc with hc | hc
  · exact two_digs _ (by omega) c hc
  · exact two_digs _ (by omega) c hc
theorem numP_digs (l : Bs) (h : ∀ c ∈ l, isDig c = true) (hl : l ≠ []) (hv : valFrom 0 l ≤ maxN) : numP l = valFrom 0 l := by
  unfold numP numL
  rw [if_neg hl, numGo_val l 0 h, if_neg (by omega)]
theorem numP_two (n : Int) (h : 0 ≤ n ∧ n ≤ 99) : numP (two n) = n := by
  have := valFrom_two n h
  rw [numP_digs _ (two_digs n h) (by simp [two]) (by unfold maxN; omega), this]
theorem numP_yr4 (n : Int) (h : 0 ≤ n ∧ n ≤ 9999) : numP (yr4 n) = n := by
  have := valFrom_yr4 n h
  rw [numP_digs _ (yr4_digs n h) (by simp [yr4, two]) (by unfold maxN; omega), this]
theorem numP_d1 (n : Int) (h : 0 ≤ n ∧ n ≤ 9) : numP [d1 n] = n := by
  have h1 := d1_nat n h
  have hv : (valFrom 0 [d1 n] : Int) = n := by
    show ((0 * 10 + ((d1 n).toNat - 48) : Nat) : Int) = n
    rw [h1]; omega
  rw [numP_digs _ (by intro c hc; rw [List.mem_singleton] at hc; subst hc; exact d1_dig n h) (by simp) (by unfold maxN; omega), hv]
theorem tmS_clk {c : Cv} (h : Rg c) : tmS (clk c) = c.h * 3600 + c.n * 60 + c.s := by
  have h1 := h.h; have h2 := h.n; have h3 := h.s
  unfold tmS
  rw [show (clk c).take 2 = two c.h from rfl, show ((clk c).drop 3).take 2 = two c.n from rfl, show (clk c).drop 6 = two c.s from rfl, numP_two _ (by omega), numP_two _ (by omega), numP_two _ (by omega)]
theorem trim_dC (d : Int) (h : 1 ≤ d ∧ d ≤ 31) : numP (trimL (dC d)) = d := by
  have : d = 1 ∨ d = 2 ∨ d = 3 ∨ d = 4 ∨ d = 5 ∨ d = 6 ∨ d = 7 ∨ d = 8 ∨ d = 9 ∨ d = 10 ∨ d = 11 ∨ d = 12 ∨ d = 13 ∨ d = 14 ∨ d = 15 ∨ d = 16 ∨ d = 17 ∨ d = 18 ∨ d = 19 ∨ d = 20 ∨ d = 21 ∨ d = 22 ∨ d = 23 ∨ d = 24 ∨ d = 25 ∨ d = 26 ∨ d = 27 ∨ d = 28 ∨ d = 29 ∨ d = 30 ∨ d = 31 := by omega
  rcases this with rfl | rfl | rfl | rfl | rfl | rfl | rfl | rfl | rfl | rfl | rfl | rfl | rfl | rfl | rfl | rfl | rfl | rfl | rfl | rfl | rfl | rfl | rfl | rfl | rfl | rfl | rfl | rfl | rfl | rfl | rfl <;> decide +kernel
theorem dC_two (d : Int) : ∃ a b, dC d = [a, b] := by unfold dC; split <;> exact ⟨_, _, rfl⟩

theorem fA_parts {c : Cv} (h : Rg c) : (fA c).length = 29 ∧ ((fA c).drop 12).take 4 = yr4 c.y ∧ ((fA c).drop 8).take 3 = mnm c.m ∧ ((fA c).drop 5).take 2 = two c.d ∧ ((fA c).drop 17).take 8 = clk c := by
  obtain ⟨a, b, e, hw, -⟩ := dnm_three c.w h.w
  obtain ⟨p, q, r, hm, -⟩ := mnm_three c.m h.m
  unfold fA
  rw [hw, hm]
  exact ⟨rfl, rfl, rfl, rfl, rfl⟩
theorem fC_parts {c : Cv} (h : Rg c) : (fC c).length = 24 ∧ (fC c).drop 20 = yr4 c.y ∧ ((fC c).drop 4).take 3 = mnm c.m ∧ ((fC c).drop 8).take 2 = dC c.d ∧ ((fC c).drop 11).take 8 = clk c := by
  obtain ⟨a, b, e, hw, -⟩ := dnm_three c.w h.w
  obtain ⟨p, q, r, hm, -⟩ := mnm_three c.m h.m
  obtain ⟨x, y, hd⟩ := dC_two c.d
  unfold fC
  rw [hw, hm, hd]
  exact ⟨rfl, rfl, rfl, rfl, rfl⟩
/-- the second format behind the name of the day -/
def tlB (c : Cv) : Bs := two c.d ++ [45] ++ mnm c.m ++ [45] ++ two (c.y % 100) ++ [32] ++ clk c ++ gmt
theorem fB_eq (c : Cv) : fB c = dnm c.w ++ [44, 32] ++ tlB c := by simp [fB, tlB]
theorem tlB_parts {c : Cv} (h : Rg c) : (tlB c).length = 22 ∧ ((tlB c).drop 7).take 2 = two (c.y % 100) ∧ ((tlB c).drop 3).take 3 = mnm c.m ∧ (tlB c).take 2 = two c.d ∧ ((tlB c).drop 10).take 8 = clk c := by
  obtain ⟨p, q, r, hm, -⟩ := mnm_three c.m h.m
  unfold tlB
  rw [hm]
  exact ⟨rfl, rfl, rfl, rfl, rfl⟩
theorem index_dnm (w : Int) (h : 0 ≤ w ∧ w ≤ 6) (r : Bs) : Lib.index (dnm w ++ [44, 32] ++ r) [44, 32] = (dnm w).length := by
  have : w = 0 ∨ w = 1 ∨ w = 2 ∨ w = 3 ∨ w = 4 ∨ w = 5 ∨ w = 6 := by omega
  rcases this with rfl | rfl | rfl | rfl | rfl | rfl | rfl <;> simp [dnm, dN, Lib.index, List.isPrefixOf]
theorem bhd_fB {c : Cv} (h : Rg c) : bhd (fB c) = tlB c := by
  rw [fB_eq]
  unfold bhd Lib.cut
  rw [index_dnm c.w h.w, if_pos (by omega)]
  exact List.drop_left' (by simp)
theorem dnm_len (w : Int) (h : 0 ≤ w ∧ w ≤ 6) : 6 ≤ (dnm w).length ∧ (dnm w).length ≤ 9 := by
  have : w = 0 ∨ w = 1 ∨ w = 2 ∨ w = 3 ∨ w = 4 ∨ w = 5 ∨ w = 6 := by omega
  rcases this with rfl | rfl | rfl | rfl | rfl | rfl | rfl <;> decide
theorem fB_len {c : Cv} (h : Rg c) : 30 ≤ (fB c).length ∧ (fB c).length ≤ 33 := by
  have := dnm_len c.w h.w
  rw [fB_eq, List.length_append, List.length_append, (tlB_parts h).1]
  simp; omega
theorem bhd_fC {c : Cv} (h : Rg c) : (bhd (fC c)).length ≠ 22 := by
  intro e
  have hl := (fC_parts h).1
  obtain ⟨a, b, x, hw, h1, -⟩ := dnm_three c.w h.w
  have hs : ∃ r, fC c = a :: r := by unfold fC; rw [hw]; exact ⟨_, rfl⟩
  obtain ⟨r, hr⟩ := hs
  unfold bhd Lib.cut at e
  split at e
  · rename_i h0
    rw [List.length_drop, hl, hr] at e
    rw [hr] at h0
    simp only [Lib.index, List.isPrefixOf] at e h0
    have ha : ((44 : UInt8) == a) = false := by rw [beq_eq_false_iff_ne]; exact fun h => h1 h.symm
    simp only [ha, Bool.false_and, Bool.false_eq_true, if_false] at e h0
    split at e
    · rename_i h2
      rw [if_pos h2] at h0
      omega
    · rename_i h2
      rw [if_neg h2] at h0
      have := Lib.index_ge r [44, 32]
      simp at e h2
      omega
  · simp at e
theorem wr_some {f : Cv → Bs} {s : Bs} {y t : Int} {mon day time : Bs} (h : wr f s y mon day time = some t) :
    okDay y (monNo mon) (numP day) = true ∧ t = dayN y (monNo mon) (numP day) * 86400 + tmS time ∧ t ≤ maxT ∧ f (civ t) = s := by
  unfold wr at h
  split at h
  · rename_i hc
    obtain rfl := Option.some.inj h
    exact ⟨hc.1, rfl, hc.2.1, hc.2.2⟩
  · cases h
theorem tmS_pos (l : Bs) : 0 ≤ tmS l := by unfold tmS numP; omega
theorem wr_says {f : Cv → Bs} {s : Bs} {y t : Int} {mon day time : Bs} (h : wr f s y mon day time = some t) : 0 ≤ t ∧ t ≤ maxT ∧ s = f (civ t) := by
  obtain ⟨h1, h2, h3, h4⟩ := wr_some h
  have := day_range _ _ _ h1
  have := tmS_pos time
  exact ⟨by omega, h3, h4.symm⟩
/-- a civil time with another year, put right -/
theorem secC_at {c : Cv} {y : Int} (hr : Rg c) (ho : okDay y c.m c.d = true) (_hb : dayN y c.m c.d * 86400 + (c.h * 3600 + c.n * 60 + c.s) ≤ maxT) : civ (dayN y c.m c.d * 86400 + (c.h * 3600 + c.n * 60 + c.s)) = ⟨y, c.m, c.d, c.h, c.n, c.s, (dayN y c.m c.d + 4) % 7⟩ := by
  have h1 := hr.h; have h2 := hr.n; have h3 := hr.s
  have hk : okC ⟨y, c.m, c.d, c.h, c.n, c.s, (dayN y c.m c.d + 4) % 7⟩ = true := by
    unfold okC
    simp only [ho, Bool.and_eq_true, decide_eq_true_eq, Bool.true_and]
    and_intros <;> first | trivial | rfl | omega
  exact (sec_ok _ hk).2.2
theorem secC_same {t : Int} (h0 : 0 ≤ t) (h1 : t ≤ maxT) : okDay (civ t).y (civ t).m (civ t).d = true ∧ dayN (civ t).y (civ t).m (civ t).d * 86400 + ((civ t).h * 3600 + (civ t).n * 60 + (civ t).s) = t := by
  obtain ⟨h2, h3⟩ := civ_ok t h0 h1
  unfold okC at h2
  simp only [Bool.and_eq_true] at h2
  exact ⟨h2.1.1.1.1.1.1.1, h3⟩
theorem wrA_fA {t : Int} (h0 : 0 ≤ t) (h1 : t ≤ maxT) : wrA (fA (civ t)) = some t := by
  have hr := civ_rg h0 h1
  obtain ⟨l1, l2, l3, l4, l5⟩ := fA_parts hr
  obtain ⟨s1, s2⟩ := secC_same h0 h1
  have a1 := hr.y; have a2 := hr.d
  unfold wrA wr
  rw [if_pos l1, l2, l3, l4, l5, numP_yr4 _ (by omega), monNo_mnm _ hr.m, numP_two _ (by omega), tmS_clk hr, s2, if_pos ⟨s1, h1, rfl⟩]
theorem wrC_fC {t : Int} (h0 : 0 ≤ t) (h1 : t ≤ maxT) : wrC (fC (civ t)) = some t := by
  have hr := civ_rg h0 h1
  obtain ⟨l1, l2, l3, l4, l5⟩ := fC_parts hr
  obtain ⟨s1, s2⟩ := secC_same h0 h1
  have a1 := hr.y
  unfold wrC wr
  rw [if_pos l1, l2, l3, l4, l5, numP_yr4 _ (by omega), monNo_mnm _ hr.m, trim_dC _ hr.d, tmS_clk hr, s2, if_pos ⟨s1, h1, rfl⟩]
theorem wrB_fB {t now : Int} (h0 : 0 ≤ t) (h1 : t ≤ maxT) (hy : (civ t).y = lateY ((civ t).y % 100) now) : wrB (fB (civ t)) now = some t := by
  have hr := civ_rg h0 h1
  obtain ⟨l1, l2, l3, l4, l5⟩ := tlB_parts hr
  obtain ⟨s1, s2⟩ := secC_same h0 h1
  have a1 := hr.y; have a2 := hr.d
  unfold wrB wr
  rw [bhd_fB hr, if_pos l1, l2, l3, l4, l5, numP_two _ (by omega), ← hy, monNo_mnm _ hr.m, numP_two _ (by omega), tmS_clk hr, s2, if_pos ⟨s1, h1, rfl⟩]
theorem says_pP {s : Bs} {now t : Int} (h : Says s now t) : pP s now = some t := by
  obtain ⟨h0, h1, h2⟩ := h
  have hr := civ_rg h0 h1
  rcases h2 with rfl | rfl | ⟨rfl, hy⟩
  · unfold pP; rw [wrA_fA h0 h1]
  · have hA : wrA (fC (civ t)) = none := by unfold wrA; rw [if_neg (by rw [(fC_parts hr).1]; decide)]
    have hB : wrB (fC (civ t)) now = none := by unfold wrB; rw [if_neg (bhd_fC hr)]
    unfold pP; rw [hA, hB, wrC_fC h0 h1]
  · have hA : wrA (fB (civ t)) = none := by unfold wrA; rw [if_neg (by have := fB_len hr; omega)]
    unfold pP; rw [hA, wrB_fB h0 h1 hy]
theorem pP_says {s : Bs} {now t : Int} (h : pP s now = some t) : Says s now t := by
  unfold pP at h
  split at h
  · rename_i t' hA
    obtain rfl := Option.some.inj h
    unfold wrA at hA
    split at hA
    · obtain ⟨a, b, c⟩ := wr_says hA; exact ⟨a, b, Or.inl c⟩
    · cases hA
  · split at h
    · rename_i t' hB
      obtain rfl := Option.some.inj h
      unfold wrB at hB
      split at hB
      · obtain ⟨a, b, c⟩ := wr_says hB
        obtain ⟨x1, x2, x3, -⟩ := wr_some hB
        refine ⟨a, b, Or.inr (Or.inr ⟨c, ?_⟩)⟩
        have hr := civ_rg a b
        have eb := bhd_fB hr
        rw [← c] at eb
        obtain ⟨l1, l2, l3, l4, l5⟩ := tlB_parts hr
        have a1 := hr.y; have a2 := hr.d
        rw [eb, l2, l3, l4, numP_two _ (by omega), monNo_mnm _ hr.m, numP_two _ (by omega)] at x1
        rw [eb, l2, l3, l4, l5, numP_two _ (by omega), monNo_mnm _ hr.m, numP_two _ (by omega), tmS_clk hr] at x2
        rw [x2] at x3
        have := secC_at hr x1 x3
        rw [← x2] at this
        exact congrArg Cv.y this
      · cases hB
    · rename_i hA _
      unfold wrC at h
      split at h
      · obtain ⟨a, b, c⟩ := wr_says h; exact ⟨a, b, Or.inr (Or.inl c)⟩
      · cases h
end Tk
end Go.Proofs.YthooghgiokgdhaaGreatDoor
namespace Go.Proofs.YthooghgiokgdhaaGreatDoor
open Go.RowKit
namespace Tk

theorem retBd {a b : Bool} (h : a = b) : Ending.returned (.bool a) = .returned (.bool b) := by rw [h]
theorem retId {k : IntKind} {a b : Int} (h : a = b) : Ending.returned (.int k a) = .returned (.int k b) := by rw [h]

set_option maxHeartbeats 400000 in
theorem leapsBefore_any (y : Int) (w : World) (h : 1 ≤ y ∧ y ≤ 20000) :
    Calls Tryz.prog 271 #[.int .i64 y] w fun e w' => e = .returned (.int .i64 (lpB y)) ∧ w = w' := by
  have hy := h
  go_enter Tryz.func271, Tryz.ntmps271
  go_wp2_with fail
  go_ret
  exact ⟨rfl, rfl⟩

set_option maxHeartbeats 400000 in
theorem yearStart_any (y : Int) (w : World) (h : 1 ≤ y ∧ y ≤ 20000) :
    Calls Tryz.prog 225 #[.int .i64 y] w fun e w' => e = .returned (.int .i64 (yS y)) ∧ w = w' := by
  have hL := Lib.hid (leapsBefore_any y w h)
  have hM := Lib.hid (leapsBefore_any 1970 w (by decide))
  have hb : 0 ≤ lpB y ∧ lpB y ≤ 20000 := by unfold lpB; omega
  have hb2 : lpB 1970 = 477 := by decide
  rw [hb2] at hM
  have HV := Lib.hid (show yS y = 365 * (y - 1970) + lpB y - 477 from rfl)
  clear hb2
  generalize lpB y = L at *
  go_enter Tryz.func225, Tryz.ntmps225
  go_wp2_with fail
  refine hL.out.mono ?_
  rintro e w' ⟨rfl, rfl⟩
  go_wp2_with fail
  refine hM.out.mono ?_
  rintro e w' ⟨rfl, rfl⟩
  go_wp2_with fail
  go_ret
  exact ⟨retId (by rw [HV.out]), rfl⟩

set_option maxHeartbeats 400000 in
theorem weekday_any (n : Int) (w : World) (h : 0 ≤ n ∧ n ≤ 100000000) :
    Calls Tryz.prog 227 #[.int .i64 n] w fun e w' => e = .returned (.int .i64 ((n + 4) % 7)) ∧ w = w' := by
  have hy := h
  go_enter Tryz.func227, Tryz.ntmps227
  go_wp2_with fail
  go_ret
  exact ⟨rfl, rfl⟩

set_option maxHeartbeats 400000 in
theorem within_any (n a b : Int) (w : World) :
    Calls Tryz.prog 313 #[.int .i64 n, .int .i64 a, .int .i64 b] w fun e w' => e = .returned (.bool (decide (a ≤ n) && decide (n ≤ b))) ∧ w = w' := by
  cases e1 : decide (a ≤ n) <;> cases e2 : decide (n ≤ b)
  all_goals
    go_enter Tryz.func313, Tryz.ntmps313
    go_wp2_with fail
    go_ret
    exact ⟨rfl, rfl⟩


theorem mD_kind (m : Int) : (m = 4 ∨ m = 6 ∨ m = 9 ∨ m = 11) ∨ m = 2 ∨ ((m == 4) = false ∧ (m == 6) = false ∧ (m == 9) = false ∧ (m == 11) = false ∧ (m == 2) = false) := by
  by_cases h4 : m = 4
  · exact .inl (.inl h4)
  by_cases h6 : m = 6
  · exact .inl (.inr (.inl h6))
  by_cases h9 : m = 9
  · exact .inl (.inr (.inr (.inl h9)))
  by_cases h11 : m = 11
  · exact .inl (.inr (.inr (.inr h11)))
  by_cases h2 : m = 2
  · exact .inr (.inl h2)
  exact .inr (.inr ⟨beq_eq_false_iff_ne.2 h4, beq_eq_false_iff_ne.2 h6, beq_eq_false_iff_ne.2 h9, beq_eq_false_iff_ne.2 h11, beq_eq_false_iff_ne.2 h2⟩)

set_option maxHeartbeats 1000000 in
theorem monthDays_any (y m : Int) (w : World) (h : 1 ≤ y ∧ y ≤ 19999) :
    Calls Tryz.prog 226 #[.int .i64 y, .int .i64 m] w fun e w' => e = .returned (.int .i64 (mD y m)) ∧ w = w' := by
  rcases mD_kind m with (rfl | rfl | rfl | rfl) | rfl | ⟨e4, e6, e9, e11, e2⟩
  · go_enter Tryz.func226, Tryz.ntmps226
    go_wp2_with fail
    go_ret
    exact ⟨rfl, rfl⟩
  · go_enter Tryz.func226, Tryz.ntmps226
    go_wp2_with fail
    go_ret
    exact ⟨rfl, rfl⟩
  · go_enter Tryz.func226, Tryz.ntmps226
    go_wp2_with fail
    go_ret
    exact ⟨rfl, rfl⟩
  · go_enter Tryz.func226, Tryz.ntmps226
    go_wp2_with fail
    go_ret
    exact ⟨rfl, rfl⟩
  · have hL := Lib.hid (leapsBefore_any (y + 1) w (by omega))
    have hM := Lib.hid (leapsBefore_any y w (by omega))
    have hb1 : 0 ≤ lpB (y + 1) ∧ lpB (y + 1) ≤ 20000 := by unfold lpB; omega
    have hb2 : 0 ≤ lpB y ∧ lpB y ≤ 20000 := by unfold lpB; omega
    have HV := Lib.hid (show mD y 2 = 28 + lpB (y + 1) - lpB y from rfl)
    generalize lpB (y + 1) = L1 at *
    generalize lpB y = L at *
    go_enter Tryz.func226, Tryz.ntmps226
    go_wp2_with fail
    refine hL.out.mono ?_
    rintro e w' ⟨rfl, rfl⟩
    go_wp2_with fail
    refine hM.out.mono ?_
    rintro e w' ⟨rfl, rfl⟩
    go_wp2_with fail
    go_ret
    exact ⟨retId (by rw [HV.out]), rfl⟩
  · have HV := Lib.hid (show mD y m = 31 by
      rw [beq_eq_false_iff_ne] at e4 e6 e9 e11 e2
      unfold mD; rw [if_neg (by omega), if_neg e2])
    go_enter Tryz.func226, Tryz.ntmps226
    go_wp2_with fail
    go_ret
    exact ⟨retId (by rw [HV.out]), rfl⟩

set_option maxHeartbeats 1000000 in
theorem yearOf_any (n : Int) (w : World) (h : 0 ≤ n ∧ n < 2932897) :
    Calls Tryz.prog 224 #[.int .i64 n] w fun e w' => e = .returned (.int .i64 (yOf n)) ∧ w = w' := by
  have hy := h
  have H0 := Lib.hid (yS_above n h.1)
  have HR := Lib.hid (fun y (h1 : yS y ≤ n) (h2 : n < yS (y + 1)) => yOf_is h.1 h1 h2)
  have HY := Lib.hid yS_1970
  have HLe := Lib.hid (fun y (h1 : n < yS y) => Int.not_le.1 fun h2 : y ≤ 1970 => by have := yS_le h2; rw [yS_1970] at this; omega)
  have hq : 0 ≤ n * 400 / 146097 ∧ n * 400 / 146097 ≤ 9000 := by omega
  go_enter Tryz.func224, Tryz.ntmps224
  go_wp2_with fail
  generalize n * 400 / 146097 = q at *
  go_loop [3] (fun vy => ∃ y : Int, 1970 ≤ y ∧ y ≤ 12000 ∧ vy = .int .i64 y ∧ Hid (n < yS (y + 1))) (fun vy => (RowKit.intOf vy - 1970).toNat)
  case atStart => exact ⟨_, by omega, by omega, rfl, by rw [show 1970 + q + 1 + 1 = 1970 + q + 2 by omega]; exact H0.out⟩
  case round =>
    obtain ⟨y, hy1, hy2, rfl, HI⟩ := hrel
    have HS := Lib.hid (yearStart_any y w (by omega))
    cases hgt : decide (n < yS y)
    · have HE := Lib.hid (HR.out y (Int.not_lt.1 (of_decide_eq_false hgt)) HI.out)
      clear HR HLe HI H0
      generalize yS y = S at *
      go_wp2_with fail
      refine HS.out.mono ?_
      rintro e w' ⟨rfl, rfl⟩
      go_wp2_with fail
      go_ret
      exact ⟨retId HE.out.symm, rfl⟩
    · have hl := HLe.out y (of_decide_eq_true hgt)
      have HI2 := Lib.hid (of_decide_eq_true hgt)
      clear HR HLe HI H0
      generalize hS : yS y = S at *
      go_wp2_with fail
      refine HS.out.mono ?_
      rintro e w' ⟨rfl, rfl⟩
      go_wp2_with fail
      refine ⟨⟨y - 1, by omega, by omega, rfl, by rw [Int.sub_add_cancel, hS]; exact HI2.out⟩, ?_⟩
      simp only [RowKit.intOf]; omega
end Tk
end Go.Proofs.YthooghgiokgdhaaGreatDoor
