/- The three formats of a civil time, and what is read from a text, plain. -/
import Derived.Test.YtajmheblbnodjaaDoorNum0
import Derived.Test.YtajmheblbnodjaaDoorDtP
import Derived.Lib.CutLaws
namespace Go.Proofs.YtajmheblbnodjaaDoor
namespace Tk

def dN : List Bs := [[83, 117, 110, 100, 97, 121], [77, 111, 110, 100, 97, 121], [84, 117, 101, 115, 100, 97, 121], [87, 101, 100, 110, 101, 115, 100, 97, 121], [84, 104, 117, 114, 115, 100, 97, 121], [70, 114, 105, 100, 97, 121], [83, 97, 116, 117, 114, 100, 97, 121]]
def mN : List Bs := [[74, 97, 110], [70, 101, 98], [77, 97, 114], [65, 112, 114], [77, 97, 121], [74, 117, 110], [74, 117, 108], [65, 117, 103], [83, 101, 112], [79, 99, 116], [78, 111, 118], [68, 101, 99]]
def dnm (w : Int) : Bs := dN.getD w.toNat []
def mnm (m : Int) : Bs := mN.getD (m - 1).toNat []
def d1 (n : Int) : UInt8 := UInt8.ofNat (48 + n.toNat)
def two (n : Int) : Bs := [d1 (n / 10), d1 (n % 10)]
def yr4 (y : Int) : Bs := two (y / 100) ++ two (y % 100)
def clk (c : Cv) : Bs := two c.h ++ [58] ++ two c.n ++ [58] ++ two c.s
def dC (d : Int) : Bs := if d < 10 then [32, d1 d] else two d
def gmt : Bs := [32, 71, 77, 84]
def fA (c : Cv) : Bs := (dnm c.w).take 3 ++ [44, 32] ++ two c.d ++ [32] ++ mnm c.m ++ [32] ++ yr4 c.y ++ [32] ++ clk c ++ gmt
def fB (c : Cv) : Bs := dnm c.w ++ [44, 32] ++ two c.d ++ [45] ++ mnm c.m ++ [45] ++ two (c.y % 100) ++ [32] ++ clk c ++ gmt
def fC (c : Cv) : Bs := (dnm c.w).take 3 ++ [32] ++ mnm c.m ++ [32] ++ dC c.d ++ [32] ++ clk c ++ [32] ++ yr4 c.y
def monGo : List Bs → Int → Bs → Int
  | [], _, _ => 0
  | a :: r, k, l => if a = l then k else monGo r (k + 1) l
def monNo (l : Bs) : Int := monGo mN 1 l
def numP (l : Bs) : Int := ((numL l).1 : Int)
def lateY (n now : Int) : Int :=
  if (if now + 50 < now - now % 100 + n then now - now % 100 + n - 100 else now - now % 100 + n) < 1970 then (if now + 50 < now - now % 100 + n then now - now % 100 + n - 100 else now - now % 100 + n) + 100
  else (if now + 50 < now - now % 100 + n then now - now % 100 + n - 100 else now - now % 100 + n)
def tmS (l : Bs) : Int := numP (l.take 2) * 3600 + numP ((l.drop 3).take 2) * 60 + numP (l.drop 6)
/-- what package date's written reads -/
def wr (f : Cv → Bs) (s : Bs) (y : Int) (mon day time : Bs) : Option Int :=
  if okDay y (monNo mon) (numP day) = true ∧ dayN y (monNo mon) (numP day) * 86400 + tmS time ≤ maxT ∧ f (civ (dayN y (monNo mon) (numP day) * 86400 + tmS time)) = s
  then some (dayN y (monNo mon) (numP day) * 86400 + tmS time) else none
def wrA (s : Bs) : Option Int := if s.length = 29 then wr fA s (numP ((s.drop 12).take 4)) ((s.drop 8).take 3) ((s.drop 5).take 2) ((s.drop 17).take 8) else none
def wrC (s : Bs) : Option Int := if s.length = 24 then wr fC s (numP (s.drop 20)) ((s.drop 4).take 3) (trimL ((s.drop 8).take 2)) ((s.drop 11).take 8) else none
def bhd (s : Bs) : Bs := (Lib.cut s [44, 32]).2.1
def wrB (s : Bs) (now : Int) : Option Int := if (bhd s).length = 22 then wr fB s (lateY (numP (((bhd s).drop 7).take 2)) now) (((bhd s).drop 3).take 3) ((bhd s).take 2) (((bhd s).drop 10).take 8) else none
def pP (s : Bs) (now : Int) : Option Int := match wrA s with
  | some t => some t
  | none => match wrB s now with
    | some t => some t
    | none => wrC s
/-- what a text says -/
def Says (s : Bs) (now t : Int) : Prop := 0 ≤ t ∧ t ≤ maxT ∧ (s = fA (civ t) ∨ s = fC (civ t) ∨ (s = fB (civ t) ∧ (civ t).y = lateY ((civ t).y % 100) now))

/-- the ranges of a civil time's parts -/
structure Rg (c : Cv) : Prop where
  y : 1970 ≤ c.y ∧ c.y ≤ 9999
  m : 1 ≤ c.m ∧ c.m ≤ 12
  d : 1 ≤ c.d ∧ c.d ≤ 31
  h : 0 ≤ c.h ∧ c.h ≤ 23
  n : 0 ≤ c.n ∧ c.n ≤ 59
  s : 0 ≤ c.s ∧ c.s ≤ 59
  w : 0 ≤ c.w ∧ c.w ≤ 6
theorem okC_rg {c : Cv} (h : okC c = true) : Rg c := by
  unfold okC at h
  simp only [Bool.and_eq_true, decide_eq_true_eq] at h
  obtain ⟨⟨⟨⟨⟨⟨⟨hd, h1⟩, h2⟩, h3⟩, h4⟩, h5⟩, h6⟩, h7⟩ := h
  obtain ⟨o1, o2, o3, o4, o5, o6⟩ := (okDay_iff c.y c.m c.d).1 hd
  have := mD_28 c.y c.m
  constructor <;> omega
theorem civ_rg {t : Int} (h0 : 0 ≤ t) (h1 : t ≤ maxT) : Rg (civ t) := okC_rg (civ_ok t h0 h1).1

theorem dnm_three (w : Int) (h : 0 ≤ w ∧ w ≤ 6) : ∃ a b c, (dnm w).take 3 = [a, b, c] ∧ a ≠ 44 ∧ b ≠ 44 ∧ c ≠ 44 := by
  have : w = 0 ∨ w = 1 ∨ w = 2 ∨ w = 3 ∨ w = 4 ∨ w = 5 ∨ w = 6 := by omega
  rcases this with rfl | rfl | rfl | rfl | rfl | rfl | rfl <;> exact ⟨_, _, _, rfl, by decide, by decide, by decide⟩
theorem mnm_three (m : Int) (h : 1 ≤ m ∧ m ≤ 12) : ∃ a b c, mnm m = [a, b, c] ∧ isDig a = false ∧ isDig b = false ∧ isDig c = false := by
  have : m = 1 ∨ m = 2 ∨ m = 3 ∨ m = 4 ∨ m = 5 ∨ m = 6 ∨ m = 7 ∨ m = 8 ∨ m = 9 ∨ m = 10 ∨ m = 11 ∨ m = 12 := by omega
  rcases this with rfl | rfl | rfl | rfl | rfl | rfl | rfl | rfl | rfl | rfl | rfl | rfl <;> exact ⟨_, _, _, rfl, by decide, by decide, by decide⟩
theorem monNo_mnm (m : Int) (h : 1 ≤ m ∧ m ≤ 12) : monNo (mnm m) = m := by
  have : m = 1 ∨ m = 2 ∨ m = 3 ∨ m = 4 ∨ m = 5 ∨ m = 6 ∨ m = 7 ∨ m = 8 ∨ m = 9 ∨ m = 10 ∨ m = 11 ∨ m = 12 := by omega
  rcases this with rfl | rfl | rfl | rfl | rfl | rfl | rfl | rfl | rfl | rfl | rfl | rfl <;> decide
theorem d1_nat (n : Int) (h : 0 ≤ n ∧ n ≤ 9) : (d1 n).toNat = 48 + n.toNat := dig_toNat _ (by omega)
theorem d1_dig (n : Int) (h : 0 ≤ n ∧ n ≤ 9) : isDig (d1 n) = true := isDig_ofNat _ (by omega)
theorem d1_ne (n : Int) (h : 0 ≤ n ∧ n ≤ 9) (k : UInt8) (hk : isDig k = false) : d1 n ≠ k := fun e => by
  have := d1_dig n h; rw [e, hk] at this; cases this
theorem valFrom_two (n : Int) (h : 0 ≤ n ∧ n ≤ 99) : (valFrom 0 (two n) : Int) = n := by
  have h1 := d1_nat (n / 10) (by omega)
  have h2 := d1_nat (n % 10) (by omega)
  show (((0 * 10 + ((d1 (n / 10)).toNat - 48)) * 10 + ((d1 (n % 10)).toNat - 48) : Nat) : Int) = n
  rw [h1, h2]; omega
theorem valFrom_yr4 (y : Int) (h : 0 ≤ y ∧ y ≤ 9999) : (valFrom 0 (yr4 y) : Int) = y := by
  have h1 := d1_nat (y / 100 / 10) (by omega)
  have h2 := d1_nat (y / 100 % 10) (by omega)
  have h3 := d1_nat (y % 100 / 10) (by omega)
  have h4 := d1_nat (y % 100 % 10) (by omega)
  show (((((0 * 10 + ((d1 (y / 100 / 10)).toNat - 48)) * 10 + ((d1 (y / 100 % 10)).toNat - 48)) * 10 + ((d1 (y % 100 / 10)).toNat - 48)) * 10 + ((d1 (y % 100 % 10)).toNat - 48) : Nat) : Int) = y
  rw [h1, h2, h3, h4]; omega
theorem two_digs (n : Int) (h : 0 ≤ n ∧ n ≤ 99) : ∀ c ∈ two n, isDig c = true := by
  intro c hc
  simp only [two, List.mem_cons, List.not_mem_nil, or_false] at hc
  rcases hc with rfl | rfl
  · exact d1_dig _ (by omega)
  · exact d1_dig _ (by omega)
theorem yr4_digs (y : Int) (h : 0 ≤ y ∧ y ≤ 9999) : ∀ c ∈ yr4 y, isDig c = true := by
  intro c hc
  rcases List.mem_append.1 hc with hc | hc
  · exact two_digs _ (by omega) c hc
  · exact two_digs _ (by omega) c hc
theorem numP_digs (l : Bs) (h : ∀ c ∈ l, isDig c = true) (hl : l ≠ []) (hv : valFrom 0 l ≤ maxN) : numP l = valFrom 0 l := by
  unfold numP numL
  rw [if_neg hl, numGo_val l 0 h, if_neg (by omega)]
theorem numP_two (n : Int) (h : 0 ≤ n ∧ n ≤ 99) : numP (two n) = n := by
  have := valFrom_two n h
  rw [numP_digs _ (two_digs n h) (by simp [two]) (by unfold maxN; omega), this]
theorem numP_yr4 (n : Int) (h : 0 ≤ n ∧ n ≤ 9999) : numP (yr4 n) = n := by
  have := valFrom_yr4 n h
  rw [numP_digs _ (yr4_digs n h) (by simp [yr4, two]) (by unfold maxN; omega), this]
theorem numP_d1 (n : Int) (h : 0 ≤ n ∧ n ≤ 9) : numP [d1 n] = n := by
  have h1 := d1_nat n h
  have hv : (valFrom 0 [d1 n] : Int) = n := by
    show ((0 * 10 + ((d1 n).toNat - 48) : Nat) : Int) = n
    rw [h1]; omega
  rw [numP_digs _ (by intro c hc; rw [List.mem_singleton] at hc; subst hc; exact d1_dig n h) (by simp) (by unfold maxN; omega), hv]
theorem tmS_clk {c : Cv} (h : Rg c) : tmS (clk c) = c.h * 3600 + c.n * 60 + c.s := by
  have h1 := h.h; have h2 := h.n; have h3 := h.s
  unfold tmS
  rw [show (clk c).take 2 = two c.h from rfl, show ((clk c).drop 3).take 2 = two c.n from rfl, show (clk c).drop 6 = two c.s from rfl, numP_two _ (by omega), numP_two _ (by omega), numP_two _ (by omega)]
theorem trim_dC (d : Int) (h : 1 ≤ d ∧ d ≤ 31) : numP (trimL (dC d)) = d := by
  have : d = 1 ∨ d = 2 ∨ d = 3 ∨ d = 4 ∨ d = 5 ∨ d = 6 ∨ d = 7 ∨ d = 8 ∨ d = 9 ∨ d = 10 ∨ d = 11 ∨ d = 12 ∨ d = 13 ∨ d = 14 ∨ d = 15 ∨ d = 16 ∨ d = 17 ∨ d = 18 ∨ d = 19 ∨ d = 20 ∨ d = 21 ∨ d = 22 ∨ d = 23 ∨ d = 24 ∨ d = 25 ∨ d = 26 ∨ d = 27 ∨ d = 28 ∨ d = 29 ∨ d = 30 ∨ d = 31 := by omega
  rcases this with rfl | rfl | rfl | rfl | rfl | rfl | rfl | rfl | rfl | rfl | rfl | rfl | rfl | rfl | rfl | rfl | rfl | rfl | rfl | rfl | rfl | rfl | rfl | rfl | rfl | rfl | rfl | rfl | rfl | rfl | rfl <;> decide +kernel
theorem dC_two (d : Int) : ∃ a b, dC d = [a, b] := by unfold dC; split <;> exact ⟨_, _, rfl⟩

theorem fA_parts {c : Cv} (h : Rg c) : (fA c).length = 29 ∧ ((fA c).drop 12).take 4 = yr4 c.y ∧ ((fA c).drop 8).take 3 = mnm c.m ∧ ((fA c).drop 5).take 2 = two c.d ∧ ((fA c).drop 17).take 8 = clk c := by
  obtain ⟨a, b, e, hw, -⟩ := dnm_three c.w h.w
  obtain ⟨p, q, r, hm, -⟩ := mnm_three c.m h.m
  unfold fA
  rw [hw, hm]
  exact ⟨rfl, rfl, rfl, rfl, rfl⟩
theorem fC_parts {c : Cv} (h : Rg c) : (fC c).length = 24 ∧ (fC c).drop 20 = yr4 c.y ∧ ((fC c).drop 4).take 3 = mnm c.m ∧ ((fC c).drop 8).take 2 = dC c.d ∧ ((fC c).drop 11).take 8 = clk c := by
  obtain ⟨a, b, e, hw, -⟩ := dnm_three c.w h.w
  obtain ⟨p, q, r, hm, -⟩ := mnm_three c.m h.m
  obtain ⟨x, y, hd⟩ := dC_two c.d
  unfold fC
  rw [hw, hm, hd]
  exact ⟨rfl, rfl, rfl, rfl, rfl⟩
/-- the second format behind the name of the day -/
def tlB (c : Cv) : Bs := two c.d ++ [45] ++ mnm c.m ++ [45] ++ two (c.y % 100) ++ [32] ++ clk c ++ gmt
theorem fB_eq (c : Cv) : fB c = dnm c.w ++ [44, 32] ++ tlB c := by simp [fB, tlB]
theorem tlB_parts {c : Cv} (h : Rg c) : (tlB c).length = 22 ∧ ((tlB c).drop 7).take 2 = two (c.y % 100) ∧ ((tlB c).drop 3).take 3 = mnm c.m ∧ (tlB c).take 2 = two c.d ∧ ((tlB c).drop 10).take 8 = clk c := by
  obtain ⟨p, q, r, hm, -⟩ := mnm_three c.m h.m
  unfold tlB
  rw [hm]
  exact ⟨rfl, rfl, rfl, rfl, rfl⟩
theorem index_dnm (w : Int) (h : 0 ≤ w ∧ w ≤ 6) (r : Bs) : Lib.index (dnm w ++ [44, 32] ++ r) [44, 32] = (dnm w).length := by
  have : w = 0 ∨ w = 1 ∨ w = 2 ∨ w = 3 ∨ w = 4 ∨ w = 5 ∨ w = 6 := by omega
  rcases this with rfl | rfl | rfl | rfl | rfl | rfl | rfl <;> simp [dnm, dN, Lib.index, List.isPrefixOf]
theorem bhd_fB {c : Cv} (h : Rg c) : bhd (fB c) = tlB c := by
  rw [fB_eq]
  unfold bhd Lib.cut
  rw [index_dnm c.w h.w, if_pos (by omega)]
  exact List.drop_left' (by simp)
theorem dnm_len (w : Int) (h : 0 ≤ w ∧ w ≤ 6) : 6 ≤ (dnm w).length ∧ (dnm w).length ≤ 9 := by
  have : w = 0 ∨ w = 1 ∨ w = 2 ∨ w = 3 ∨ w = 4 ∨ w = 5 ∨ w = 6 := by omega
  rcases this with rfl | rfl | rfl | rfl | rfl | rfl | rfl <;> decide
theorem fB_len {c : Cv} (h : Rg c) : 30 ≤ (fB c).length ∧ (fB c).length ≤ 33 := by
  have := dnm_len c.w h.w
  rw [fB_eq, List.length_append, List.length_append, (tlB_parts h).1]
  simp; omega
theorem bhd_fC {c : Cv} (h : Rg c) : (bhd (fC c)).length ≠ 22 := by
  intro e
  have hl := (fC_parts h).1
  obtain ⟨a, b, x, hw, h1, -⟩ := dnm_three c.w h.w
  have hs : ∃ r, fC c = a :: r := by unfold fC; rw [hw]; exact ⟨_, rfl⟩
  obtain ⟨r, hr⟩ := hs
  unfold bhd Lib.cut at e
  split at e
  · rename_i h0
    rw [List.length_drop, hl, hr] at e
    rw [hr] at h0
    simp only [Lib.index, List.isPrefixOf] at e h0
    have ha : ((44 : UInt8) == a) = false := by rw [beq_eq_false_iff_ne]; exact fun h => h1 h.symm
    simp only [ha, Bool.false_and, Bool.false_eq_true, if_false] at e h0
    split at e
    · rename_i h2
      rw [if_pos h2] at h0
      omega
    · rename_i h2
      rw [if_neg h2] at h0
      have := Lib.index_ge r [44, 32]
      simp at e h2
      omega
  · simp at e
theorem wr_some {f : Cv → Bs} {s : Bs} {y t : Int} {mon day time : Bs} (h : wr f s y mon day time = some t) :
    okDay y (monNo mon) (numP day) = true ∧ t = dayN y (monNo mon) (numP day) * 86400 + tmS time ∧ t ≤ maxT ∧ f (civ t) = s := by
  unfold wr at h
  split at h
  · rename_i hc
    obtain rfl := Option.some.inj h
    exact ⟨hc.1, rfl, hc.2.1, hc.2.2⟩
  · cases h
theorem tmS_pos (l : Bs) : 0 ≤ tmS l := by unfold tmS numP; omega
theorem wr_says {f : Cv → Bs} {s : Bs} {y t : Int} {mon day time : Bs} (h : wr f s y mon day time = some t) : 0 ≤ t ∧ t ≤ maxT ∧ s = f (civ t) := by
  obtain ⟨h1, h2, h3, h4⟩ := wr_some h
  have := day_range _ _ _ h1
  have := tmS_pos time
  exact ⟨by omega, h3, h4.symm⟩
/-- a civil time with another year, put right -/
theorem secC_at {c : Cv} {y : Int} (hr : Rg c) (ho : okDay y c.m c.d = true) (_hb : dayN y c.m c.d * 86400 + (c.h * 3600 + c.n * 60 + c.s) ≤ maxT) : civ (dayN y c.m c.d * 86400 + (c.h * 3600 + c.n * 60 + c.s)) = ⟨y, c.m, c.d, c.h, c.n, c.s, (dayN y c.m c.d + 4) % 7⟩ := by
  have h1 := hr.h; have h2 := hr.n; have h3 := hr.s
  have hk : okC ⟨y, c.m, c.d, c.h, c.n, c.s, (dayN y c.m c.d + 4) % 7⟩ = true := by
    unfold okC
    simp only [ho, Bool.and_eq_true, decide_eq_true_eq, Bool.true_and]
    and_intros <;> first | trivial | rfl | omega
  exact (sec_ok _ hk).2.2
theorem secC_same {t : Int} (h0 : 0 ≤ t) (h1 : t ≤ maxT) : okDay (civ t).y (civ t).m (civ t).d = true ∧ dayN (civ t).y (civ t).m (civ t).d * 86400 + ((civ t).h * 3600 + (civ t).n * 60 + (civ t).s) = t := by
  obtain ⟨h2, h3⟩ := civ_ok t h0 h1
  unfold okC at h2
  simp only [Bool.and_eq_true] at h2
  exact ⟨h2.1.1.1.1.1.1.1, h3⟩
theorem wrA_fA {t : Int} (h0 : 0 ≤ t) (h1 : t ≤ maxT) : wrA (fA (civ t)) = some t := by
  have hr := civ_rg h0 h1
  obtain ⟨l1, l2, l3, l4, l5⟩ := fA_parts hr
  obtain ⟨s1, s2⟩ := secC_same h0 h1
  have a1 := hr.y; have a2 := hr.d
  unfold wrA wr
  rw [if_pos l1, l2, l3, l4, l5, numP_yr4 _ (by omega), monNo_mnm _ hr.m, numP_two _ (by omega), tmS_clk hr, s2, if_pos ⟨s1, h1, rfl⟩]
theorem wrC_fC {t : Int} (h0 : 0 ≤ t) (h1 : t ≤ maxT) : wrC (fC (civ t)) = some t := by
  have hr := civ_rg h0 h1
  obtain ⟨l1, l2, l3, l4, l5⟩ := fC_parts hr
  obtain ⟨s1, s2⟩ := secC_same h0 h1
  have a1 := hr.y
  unfold wrC wr
  rw [if_pos l1, l2, l3, l4, l5, numP_yr4 _ (by omega), monNo_mnm _ hr.m, trim_dC _ hr.d, tmS_clk hr, s2, if_pos ⟨s1, h1, rfl⟩]
theorem wrB_fB {t now : Int} (h0 : 0 ≤ t) (h1 : t ≤ maxT) (hy : (civ t).y = lateY ((civ t).y % 100) now) : wrB (fB (civ t)) now = some t := by
  have hr := civ_rg h0 h1
  obtain ⟨l1, l2, l3, l4, l5⟩ := tlB_parts hr
  obtain ⟨s1, s2⟩ := secC_same h0 h1
  have a1 := hr.y; have a2 := hr.d
  unfold wrB wr
  rw [bhd_fB hr, if_pos l1, l2, l3, l4, l5, numP_two _ (by omega), ← hy, monNo_mnm _ hr.m, numP_two _ (by omega), tmS_clk hr, s2, if_pos ⟨s1, h1, rfl⟩]
theorem says_pP {s : Bs} {now t : Int} (h : Says s now t) : pP s now = some t := by
  obtain ⟨h0, h1, h2⟩ := h
  have hr := civ_rg h0 h1
  rcases h2 with rfl | rfl | ⟨rfl, hy⟩
  · unfold pP; rw [wrA_fA h0 h1]
  · have hA : wrA (fC (civ t)) = none := by unfold wrA; rw [if_neg (by rw [(fC_parts hr).1]; decide)]
    have hB : wrB (fC (civ t)) now = none := by unfold wrB; rw [if_neg (bhd_fC hr)]
    unfold pP; rw [hA, hB, wrC_fC h0 h1]
  · have hA : wrA (fB (civ t)) = none := by unfold wrA; rw [if_neg (by have := fB_len hr; omega)]
    unfold pP; rw [hA, wrB_fB h0 h1 hy]
theorem pP_says {s : Bs} {now t : Int} (h : pP s now = some t) : Says s now t := by
  unfold pP at h
  split at h
  · rename_i t' hA
    obtain rfl := Option.some.inj h
    unfold wrA at hA
    split at hA
    · obtain ⟨a, b, c⟩ := wr_says hA; exact ⟨a, b, Or.inl c⟩
    · cases hA
  · split at h
    · rename_i t' hB
      obtain rfl := Option.some.inj h
      unfold wrB at hB
      split at hB
      · obtain ⟨a, b, c⟩ := wr_says hB
        obtain ⟨x1, x2, x3, -⟩ := wr_some hB
        refine ⟨a, b, Or.inr (Or.inr ⟨c, ?_⟩)⟩
        have hr := civ_rg a b
        have eb := bhd_fB hr
        rw [← c] at eb
        obtain ⟨l1, l2, l3, l4, l5⟩ := tlB_parts hr
        have a1 := hr.y; have a2 := hr.d
        rw [eb, l2, l3, l4, numP_two _ (by omega), monNo_mnm _ hr.m, numP_two _ (by omega)] at x1
        rw [eb, l2, l3, l4, l5, numP_two _ (by omega), monNo_mnm _ hr.m, numP_two _ (by omega), tmS_clk hr] at x2
        rw [x2] at x3
        have := secC_at hr x1 x3
        rw [← x2] at this
        exact congrArg Cv.y this
      · cases hB
    · rename_i hA _
      unfold wrC at h
      split at h
      · obtain ⟨a, b, c⟩ := wr_says h; exact ⟨a, b, Or.inr (Or.inl c)⟩
      · cases h
end Tk
end Go.Proofs.YtajmheblbnodjaaDoor
