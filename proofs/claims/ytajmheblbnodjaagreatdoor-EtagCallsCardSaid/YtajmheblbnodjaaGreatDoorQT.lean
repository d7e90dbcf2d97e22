/- DtN DrF DrG DrE, put together. -/
import Derived.Test.YtajmheblbnodjaaGreatDoorQP
import Derived.Test.YtajmheblbnodjaaGreatDoorQS
import Derived.Deep.Cut
import Derived.Test.YtajmheblbnodjaaGreatDoorQN
import Derived.BigQuiet
import Derived.Deep.QuietTactic
namespace Go.Proofs.YtajmheblbnodjaaGreatDoor
open Go.RowKit
namespace Tk

theorem pP_lives : pP [83, 117, 110, 44, 32, 48, 54, 32, 78, 111, 118, 32, 49, 57, 57, 52, 32, 48, 56, 58, 52, 57, 58, 51, 55, 32, 71, 77, 84] (yNow 0) = some 784111777 := by decide +kernel

/-- a civil time in a block of its own -/
def CvB (W : World) (g : Nat) (c : Cv) : Prop := W.heap[g]? = some (.cells (cvC c) 194 (0, 0))
theorem CvB.new (w : World) (c : Cv) : CvB (w.alloc (.cells (cvC c) 194)) w.heap.size c := heap_alloc_last w _
theorem CvB.lt {w : World} {g : Nat} {c : Cv} (h : CvB w g c) : g < w.heap.size := (Array.getElem?_eq_some_iff.1 h).1
theorem CvB.later {w w' : World} {g : Nat} {c : Cv} (h : CvB w g c) (hb : Below w.heap.size w w') : CvB w' g c := by
  have hl := h.lt
  unfold CvB at *; rw [hb.block g hl]; exact h
theorem CvB.cells {w : World} {g : Nat} {c : Cv} (h : CvB w g c) : w.cell? ⟨g, 0, none⟩ = some (.int .i64 c.y) ∧ w.cell? ⟨g, 1, none⟩ = some (.int .i64 c.m) ∧ w.cell? ⟨g, 2, none⟩ = some (.int .i64 c.d) ∧ w.cell? ⟨g, 3, none⟩ = some (.int .i64 c.h) ∧ w.cell? ⟨g, 4, none⟩ = some (.int .i64 c.n) ∧ w.cell? ⟨g, 5, none⟩ = some (.int .i64 c.s) ∧ w.cell? ⟨g, 6, none⟩ = some (.int .i64 c.w) := by
  unfold CvB at h
  refine ⟨?_, ?_, ?_, ?_, ?_, ?_, ?_⟩ <;> (rw [Lib.cell_of_heap h]; rfl)
/-- Civil of a second, its answer put into a box -/
theorem civ_box (t : Int) (w : World) (h : okT t = true) :
    Calls Tryz.prog 168 #[.int .i64 t] w fun e w' => e = .returned (.tuple #[cvV (civ t), .int .i64 0]) ∧ Below w.heap.size w w' := by
  obtain ⟨h1, h2⟩ := civX_ok h
  have := (okT_iff t).1 h
  unfold maxT at this
  have hc := civil_any t w (by omega)
  unfold CivPost at hc
  rw [h1, h2] at hc
  exact hc

theorem next_same (t : Int) (_h : 0 ≤ t) (hs : t % 86400 % 60 < 59) : (t + 1) / 86400 = t / 86400 ∧ (t + 1) % 86400 = t % 86400 + 1 := by omega
theorem civ_same {t : Int} (h : 0 ≤ t) (hs : (civ t).s < 59) : (civ (t + 1)).s = (civ t).s + 1 ∧ (civ (t + 1)).n = (civ t).n ∧ (civ (t + 1)).h = (civ t).h ∧ (civ (t + 1)).d = (civ t).d := by
  have hs' : t % 86400 % 60 < 59 := hs
  obtain ⟨e1, e2⟩ := next_same t h hs'
  unfold civ
  rw [e1, e2]
  refine ⟨?_, ?_, ?_, rfl⟩ <;> dsimp only <;> omega
theorem civ_carry {t : Int} (hs : (civ t).s = 59) : (civ (t + 1)).s = 0 ∧ ((civ t).n < 59 → (civ (t + 1)).n = (civ t).n + 1) ∧ ((civ t).n = 59 → (civ (t + 1)).n = 0) := by
  have hs' : t % 86400 % 60 = 59 := hs
  refine ⟨?_, ?_, ?_⟩
  · show (t + 1) % 86400 % 60 = 0; omega
  · intro hn
    have hn' : t % 86400 % 3600 / 60 < 59 := hn
    show (t + 1) % 86400 % 3600 / 60 = t % 86400 % 3600 / 60 + 1; omega
  · intro hn
    have hn' : t % 86400 % 3600 / 60 = 59 := hn
    show (t + 1) % 86400 % 3600 / 60 = 0; omega
theorem day_next (n : Int) (h : 0 ≤ n) :
    let d := fun n => n - yS (yOf n) - mC (yOf n) (mOf (yOf n) (n - yS (yOf n)) - 1) + 1
    d (n + 1) = d n + 1 ∨ d (n + 1) = 1 := by
  dsimp only
  obtain ⟨a1, a2⟩ := yOf_spec n h
  have a3 := a2
  rw [yS_next] at a3
  obtain ⟨m1, m2, m3, m4⟩ := mOf_spec (yOf n) (n - yS (yOf n)) (by omega) (by omega)
  by_cases hy : n + 1 < yS (yOf n + 1)
  · have ey : yOf (n + 1) = yOf n := yOf_is (by omega) (by omega) hy
    rw [ey]
    generalize yOf n = y at *
    generalize mOf y (n - yS y) = m at *
    by_cases hm : n + 1 - yS y < mC y m
    · have em : mOf y (n + 1 - yS y) = m := mOf_is y _ m1 m2 (by omega) hm
      rw [em]; left; omega
    · rw [yS_next] at hy
      have hm12 : m < 12 := Nat.lt_of_not_le fun hge => by
        have e : m = 12 := by omega
        rw [e, mC_12] at hm
        omega
      have hn := mC_next y m hm12
      have h28 := mD_28 y ((m : Int) + 1)
      have em : mOf y (n + 1 - yS y) = m + 1 := mOf_is y _ (by omega) (by omega) (by rw [Nat.add_sub_cancel]; omega) (by omega)
      rw [em, Nat.add_sub_cancel]; right; omega
  · have hz := yS_next (yOf n + 1)
    have hl := lpY_01 (yOf n + 1)
    have ey : yOf (n + 1) = yOf n + 1 := yOf_is (by omega) (by omega) (by omega)
    rw [ey]
    generalize yOf n = y at *
    have em : mOf (y + 1) (n + 1 - yS (y + 1)) = 1 := mOf_is (y + 1) _ (by decide) (by decide) (by show mC (y + 1) 0 ≤ _; show (0 : Int) ≤ _; omega) (by show _ < (31 : Int); omega)
    rw [em]; right
    show n + 1 - yS (y + 1) - mC (y + 1) 0 + 1 = 1
    show n + 1 - yS (y + 1) - 0 + 1 = 1
    omega
theorem civ_later {t : Int} (h : 0 ≤ t) : (civ (t + 86400)).w = ((civ t).w + 1) % 7 ∧ (civ (t + 86400)).h = (civ t).h ∧ (civ (t + 86400)).n = (civ t).n ∧ (civ (t + 86400)).s = (civ t).s ∧ ((civ (t + 86400)).d = (civ t).d + 1 ∨ (civ (t + 86400)).d = 1) := by
  have e1 : (t + 86400) / 86400 = t / 86400 + 1 := by omega
  have e2 : (t + 86400) % 86400 = t % 86400 := by omega
  have hd := day_next (t / 86400) (by omega)
  unfold civ
  rw [e1, e2]
  refine ⟨?_, rfl, rfl, rfl, hd⟩
  dsimp only; omega
theorem civ_dayV {t : Int} (h : okT t = true) : dayV (civ t).y (civ t).m (civ t).d = t / 86400 ∧ dayE (civ t).y (civ t).m (civ t).d = 0 := by
  obtain ⟨h0, h1⟩ := (okT_iff t).1 h
  obtain ⟨s1, s2⟩ := secC_same h0 h1
  have hr := civ_rg h0 h1
  have a := hr.h; have b := hr.n; have c := hr.s
  unfold dayV dayE
  rw [if_pos s1, if_pos s1]
  exact ⟨by omega, rfl⟩
end Tk
end Go.Proofs.YtajmheblbnodjaaGreatDoor
namespace Go.Proofs.YtajmheblbnodjaaGreatDoor
open Go.RowKit
namespace Tk

set_option maxHeartbeats 4000000 in
set_option maxRecDepth 100000 in
theorem rlate_any (n now : Int) (w : World) (hn : 0 ≤ n ∧ n ≤ 99) :
    Calls Tryz.prog 223 #[.int .i64 n, .int .i64 now] w fun e w' => e = .returned (.int .i64 (lateY n (yNow now))) ∧ Below w.heap.size w w' := by
  obtain ⟨hx1, hx2⟩ := civX_ok (clampT_ok now)
  have hC := rcivil_any (clampT now) w (by have := (okT_iff _).1 (clampT_ok now); unfold maxT at this; omega)
  unfold CivPost at hC
  rw [hx1, hx2] at hC
  have hy := yNow_rg now
  have hyE : (civ (clampT now)).y = yNow now := rfl
  have hE : yNow now - yNow now % 100 + n = yNow now / 100 * 100 + n := by omega
  have hL : lateY n (yNow now) = if (if yNow now + 50 < yNow now / 100 * 100 + n then yNow now / 100 * 100 + n - 100 else yNow now / 100 * 100 + n) < 1970 then (if yNow now + 50 < yNow now / 100 * 100 + n then yNow now / 100 * 100 + n - 100 else yNow now / 100 * 100 + n) + 100 else (if yNow now + 50 < yNow now / 100 * 100 + n then yNow now / 100 * 100 + n - 100 else yNow now / 100 * 100 + n) := by
    unfold lateY; rw [hE]
  clear hx1 hx2 hE
  unfold clampT at hC hyE
  generalize lateY n (yNow now) = R at *
  generalize yNow now = Y at *
  generalize civ (min (max now 0) 253402300799) = c at *
  obtain ⟨v0, v1, v2, v3, v4, v5, v6⟩ := c
  unfold cvV at hC
  dsimp only at hC hyE
  subst hyE
  have HC := Lib.hid hC
  have HNew := Lib.hid (fun (w : World) (c : Cv) => CvB.new w c)
  have HCn := Lib.hid (fun (W : World) (g : Nat) (c : Cv) (h : CvB W g c) => CvB.cells h)
  unfold cvC at HNew
  have hq : 19 ≤ v0 / 100 ∧ v0 / 100 ≤ 99 := by omega
  have hcs : (v0 + 50 < v0 / 100 * 100 + n ∧ v0 / 100 * 100 + n - 100 < 1970 ∧ R = v0 / 100 * 100 + n - 100 + 100) ∨ (v0 + 50 < v0 / 100 * 100 + n ∧ ¬ v0 / 100 * 100 + n - 100 < 1970 ∧ R = v0 / 100 * 100 + n - 100) ∨ (¬ v0 + 50 < v0 / 100 * 100 + n ∧ v0 / 100 * 100 + n < 1970 ∧ R = v0 / 100 * 100 + n + 100) ∨ (¬ v0 + 50 < v0 / 100 * 100 + n ∧ ¬ v0 / 100 * 100 + n < 1970 ∧ R = v0 / 100 * 100 + n) := by
    rw [hL]
    by_cases a : v0 + 50 < v0 / 100 * 100 + n
    · by_cases b : v0 / 100 * 100 + n - 100 < 1970
      · left; simp only [if_pos a, if_pos b]; exact ⟨a, b, by first | rfl | trivial⟩
      · right; left; simp only [if_pos a, if_neg b]; exact ⟨a, b, by first | rfl | trivial⟩
    · by_cases b : v0 / 100 * 100 + n < 1970
      · right; right; left; simp only [if_neg a, if_pos b]; exact ⟨a, b, by first | rfl | trivial⟩
      · right; right; right; simp only [if_neg a, if_neg b]; exact ⟨a, b, by first | rfl | trivial⟩
  clear hC hL
  have HCs := Lib.hid hcs
  clear hcs
  go_enter Tryz.func223, Tryz.ntmps223
  go_wp2_with fail
  refine HC.out.mono ?_
  rintro e w1 ⟨rfl, hb⟩
  have HB := Lib.hid (hb.alloc hb.size (.cells #[.int .i64 v0, .int .i64 v1, .int .i64 v2, .int .i64 v3, .int .i64 v4, .int .i64 v5, .int .i64 v6] 194))
  have GA := HNew.out w1 ⟨v0, v1, v2, v3, v4, v5, v6⟩
  obtain ⟨p0, -⟩ := HCn.out _ _ _ GA
  dsimp only at p0
  clear hb GA HNew HCn HC
  rcases HCs.out with ⟨q1, q2, q3⟩ | ⟨q1, q2, q3⟩ | ⟨q1, q2, q3⟩ | ⟨q1, q2, q3⟩
  all_goals
    have HR := Lib.hid q3
    clear q3 HCs
    go_wp2_with fail
    go_ret
    exact ⟨retId (by have := HR.out; omega), HB.out⟩
end Tk
end Go.Proofs.YtajmheblbnodjaaGreatDoor
namespace Go.Proofs.YtajmheblbnodjaaGreatDoor
open Go.RowKit
namespace Tk

theorem monGo_short : ∀ (r : List Bs) (k : Int) (l : Bs), (∀ x ∈ r, x.length = 3) → l.length ≠ 3 → monGo r k l = 0
  | [], _, _, _, _ => rfl
  | x :: r, k, l, h, hl => by
    rw [monGo_no _ _ _ _ (fun e => hl (by rw [← e]; exact h x (by simp)))]
    exact monGo_short r (k + 1) l (fun y hy => h y (by simp [hy])) hl

set_option maxHeartbeats 8000000 in
set_option maxRecDepth 100000 in
theorem rwhere_any (s : ByteArray) (p : Nat) (w : World) (_hs : s.size ≤ 1000) (hp : p ≤ 2000) :
    Calls Tryz.prog 222 #[.string s, .int .i64 (p : Int)] w fun e w' => e = .returned (.int .i64 (monNo (((bs s).drop p).take 3))) ∧ Below w.heap.size w w' := by
  have HM := Lib.hid (rmonthsL_any w)
  unfold ListNPost at HM
  have HSl := Lib.hid (fun (W W' : World) (g : Nat) (l : List Bs) (h : StrB W g l) (hb : Below W.heap.size W W') => StrB.later h hb)
  have HSc := Lib.hid (fun (W : World) (g : Nat) (h : StrB W g mN) (k : Nat) (hk : k < 12) => StrB.cell h k hk)
  have HMl : Hid (mN.length = 12) := rfl
  have hml : mN.length = 12 := rfl
  rw [hml] at HM
  clear hml
  by_cases hin : p + 3 ≤ s.size
  · have hX : ((bs s).drop p).take 3 = bs (s.extract p (p + 3)) := by rw [bs_extract]; congr 1; omega
    rw [hX]
    have HG := Lib.hid (show monNo (bs (s.extract p (p + 3))) = monGo (mN.drop 0) (((0 : Nat) : Int) + 1) (bs (s.extract p (p + 3))) from rfl)
    have HEnd := Lib.hid (show ∀ k, monGo (mN.drop 12) k (bs (s.extract p (p + 3))) = 0 from fun _ => rfl)
    have HY := Lib.hid (fun (k : Nat) (h : k < 12) (he : mN.getD k [] = bs (s.extract p (p + 3))) => show monGo (mN.drop k) ((k : Int) + 1) (bs (s.extract p (p + 3))) = (k : Int) + 1 by
      rw [mN_drop k h, monGo_yes _ _ _ _ he])
    have HN := Lib.hid (fun (k : Nat) (h : k < 12) (he : ¬ mN.getD k [] = bs (s.extract p (p + 3))) => show monGo (mN.drop k) ((k : Int) + 1) (bs (s.extract p (p + 3))) = monGo (mN.drop (k + 1)) (((k + 1 : Nat) : Int) + 1) (bs (s.extract p (p + 3))) by
      rw [mN_drop k h, monGo_no _ _ _ _ he]; congr 1)
    have c0 : (0 : Int) ≤ (p : Int) := by omega
    have c1 : (p : Int) + 3 ≤ (s.size : Int) := by omega
    have c2 : (p : Int) ≤ (p : Int) + 3 := by omega
    have wz : IntKind.i64.wrap ((p : Int) + 3) = (p : Int) + 3 := IntWalk.i64_in _ (by omega)
    have tz : ((p : Int) + 3).toNat = p + 3 := by omega
    clear hX
    generalize hXX : monNo (bs (s.extract p (p + 3))) = R at *
    clear hXX
    go_enter Tryz.func222, Tryz.ntmps222
    go_wp2_with fail
    refine HM.out.mono ?_
    rintro e w1 ⟨g, rfl, hg1, hg2, hst, hb⟩
    have HB1 := Lib.hid hb
    have HS1 := Lib.hid hst
    clear hb hst HM
    go_wp2_with fail
    go_loopw [6] (fun vi wr => ∃ k : Nat, k ≤ 12 ∧ vi = .int .i64 (k : Int) ∧ g < wr.heap.size ∧ Hid (StrB wr g mN) ∧ Hid (Below w.heap.size w wr) ∧ Hid (R = monGo (mN.drop k) ((k : Int) + 1) (bs (s.extract p (p + 3))))) (fun vi _ => (12 - RowKit.intOf vi).toNat)
    case atStart => exact ⟨0, by omega, rfl, hg2, HS1, HB1, HG⟩
    case round =>
      obtain ⟨k, hk, rfl, hgl, HS, HB, HI⟩ := hrel
      rename World => wr
      clear HS1 HB1 HG
      by_cases hk12 : k < 12
      · have hc := HSc.out wr g HS.out k hk12
        have hki : (k : Int) < 12 := by omega
        have hk0 : (0 : Int) ≤ (k : Int) := by omega
        by_cases he : mN.getD k [] = bs (s.extract p (p + 3))
        · have e1 : ((s.extract p (p + 3)).toList == (mkS (mN.getD k [])).toList) = true := by rw [toList_bs, toList_bs, bs_mkS, he]; exact beq_self_eq_true _
          have HF := Lib.hid (HI.out.trans (HY.out k hk12 he))
          clear HY HN HI HEnd HSc he
          generalize mkS (mN.getD k []) = mk at *
          go_upto_region 5 with (fail)
          go_quiet (fail)
          go_wp2_with fail
          go_ret
          exact ⟨retId HF.out.symm, by first | exact bdrN HB.out _ | exact HB.out.drew⟩
        · have e1 : ((s.extract p (p + 3)).toList == (mkS (mN.getD k [])).toList) = false := beq_eq_false_iff_ne.2 fun e => he (by rw [toList_bs, toList_bs, bs_mkS] at e; exact e.symm)
          have HF := Lib.hid (HI.out.trans (HN.out k hk12 he))
          clear HY HN HI HEnd HSc he
          generalize mkS (mN.getD k []) = mk at *
          go_upto_region 5 with (fail)
          go_quiet (fail)
          go_wp2_with fail
          refine ⟨⟨k + 1, by omega, by go_num, hgl, HSl.out _ _ _ _ HS.out (bdrN (Below.refl _ _) _), by show Below _ _ _; exact bdrN HB.out _, HF⟩, by simp only [RowKit.intOf]; omega⟩
      · obtain rfl : k = 12 := by omega
        have HF := Lib.hid (HI.out.trans (HEnd.out _))
        clear HY HN HI HEnd HSc
        go_wp2_with fail
        go_ret
        exact ⟨retId HF.out.symm, HB.out⟩
  · have hz : monNo (((bs s).drop p).take 3) = 0 := monGo_short mN 1 _ (by decide) (by rw [List.length_take, List.length_drop, length_bs]; omega)
    rw [hz]
    have c1 : ¬ (p : Int) + 3 ≤ (s.size : Int) := by omega
    have d1 : decide ((p : Int) + 3 ≤ (s.size : Int)) = false := decide_eq_false c1
    have c2 : (s.size : Int) < (p : Int) + 3 := by omega
    have c0 : (0 : Int) ≤ (p : Int) := by omega
    have d0 : decide ((0 : Int) ≤ (p : Int)) = true := decide_eq_true c0
    have wz : IntKind.i64.wrap ((p : Int) + 3) = (p : Int) + 3 := IntWalk.i64_in _ (by omega)
    clear hz
    go_enter Tryz.func222, Tryz.ntmps222
    go_wp2_with fail
    refine HM.out.mono ?_
    rintro e w1 ⟨g, rfl, hg1, hg2, hst, hb⟩
    have HB1 := Lib.hid hb
    clear hb hst HM
    go_wp2_with fail
    go_loopw [6] (fun vi wr => ∃ k : Nat, k ≤ 12 ∧ vi = .int .i64 (k : Int) ∧ Hid (Below w.heap.size w wr)) (fun vi _ => (12 - RowKit.intOf vi).toNat)
    case atStart => exact ⟨0, by omega, rfl, HB1⟩
    case round =>
      obtain ⟨k, hk, rfl, HB⟩ := hrel
      rename World => wr
      clear HB1
      by_cases hk12 : k < 12
      · have hki : (k : Int) < 12 := by omega
        go_upto_region 5 with (fail)
        go_quiet (fail)
        go_wp2_with fail
        refine ⟨⟨k + 1, by omega, by go_num, by show Below _ _ _; exact bdrN HB.out _⟩, by simp only [RowKit.intOf]; omega⟩
      · obtain rfl : k = 12 := by omega
        go_wp2_with fail
        go_ret
        exact ⟨rfl, HB.out⟩
end Tk
end Go.Proofs.YtajmheblbnodjaaGreatDoor
namespace Go.Proofs.YtajmheblbnodjaaGreatDoor
open Go.RowKit
namespace Tk

set_option maxHeartbeats 400000 in
theorem rdig9_any (c : UInt8) (w : World) :
    Calls Tryz.prog 125 #[.int .u8 (c.toNat : Int)] w fun e w' => e = .returned (.bool (isDig c)) ∧ w = w' := by
  have hV : isDig c = (decide (48 ≤ c.toNat) && decide (c.toNat ≤ 57)) := rfl
  have h0 : 0 ≤ (c.toNat : Int) ∧ (c.toNat : Int) < 256 := ⟨by omega, by have := c.toNat_lt; omega⟩
  by_cases h1 : 48 ≤ c.toNat
  · by_cases h2 : c.toNat ≤ 57
    · rw [decide_eq_true h1, decide_eq_true h2] at hV
      have HV := Lib.hid hV
      have e1 : (48 : Int) ≤ (c.toNat : Int) := by omega
      have e2 : (c.toNat : Int) ≤ 57 := by omega
      clear hV
      go_enter Tryz.func125, Tryz.ntmps125
      go_wp2_with fail
      go_ret
      exact ⟨retBd (by rw [HV.out]; rfl), rfl⟩
    · rw [decide_eq_true h1, decide_eq_false h2] at hV
      have HV := Lib.hid hV
      have e1 : (48 : Int) ≤ (c.toNat : Int) := by omega
      have e2 : ¬ (c.toNat : Int) ≤ 57 := by omega
      clear hV
      go_enter Tryz.func125, Tryz.ntmps125
      go_wp2_with fail
      go_ret
      exact ⟨retBd (by rw [HV.out]; rfl), rfl⟩
  · rw [decide_eq_false h1] at hV
    have HV := Lib.hid hV
    have e1 : ¬ (48 : Int) ≤ (c.toNat : Int) := by omega
    clear hV
    go_enter Tryz.func125, Tryz.ntmps125
    go_wp2_with fail
    go_ret
    exact ⟨retBd (by rw [HV.out]; rfl), rfl⟩

theorem ten_pow (k : Nat) (h : k ≤ 4) : 10 ^ k ≤ 10000 ∧ 1 ≤ 10 ^ k := ⟨Nat.pow_le_pow_right (by decide) h, Nat.one_le_pow _ _ (by decide)⟩
theorem isDig_rg {c : UInt8} (h : isDig c = true) : 48 ≤ c.toNat ∧ c.toNat ≤ 57 := by unfold isDig at h; simpa using h

set_option maxHeartbeats 4000000 in
set_option maxRecDepth 100000 in
theorem rnumber9_any (s : ByteArray) (a b : Nat) (w : World) (hs : s.size ≤ 1000) (ha : a ≤ 2000) (hlt : a < b) (hab : b ≤ a + 4) :
    Calls Tryz.prog 221 #[.string s, .int .i64 (a : Int), .int .i64 (b : Int)] w fun e w' => e = .returned (.int .i64 (rnum (bs s) a b)) ∧ w = w' := by
  have HBd := Lib.hid (fun i (h1 : a ≤ i) (h2 : i < b) h => rnum_bad (s := bs s) (a := a) (b := b) (i := i) h1 h2 h)
  have HGo := Lib.hid (fun h hd => rnum_go (s := bs s) (a := a) (b := b) h hd)
  have HLn := Lib.hid (length_bs s)
  have HNx := Lib.hid (fun i h1 h2 => slice_next (s := bs s) (a := a) (i := i) h1 h2)
  have HG := Lib.hid (fun i h => getD_bs s i h)
  have HDg := Lib.hid (fun c W => rdig9_any c W)
  have HV0 := Lib.hid (show valFrom 0 (((bs s).drop a).take (a - a)) = 0 by rw [Nat.sub_self]; rfl)
  have HVs := Lib.hid (fun (l : Bs) (c : UInt8) => show valFrom 0 (l ++ [c]) = valFrom 0 l * 10 + (c.toNat - 48) by rw [valFrom_append]; rfl)
  go_enter Tryz.func221, Tryz.ntmps221
  go_wp2_with fail
  go_loop [7, 8] (fun vn vi => ∃ i n : Nat, a ≤ i ∧ i ≤ b ∧ n < 10 ^ (i - a) ∧ vn = .int .i64 (n : Int) ∧ vi = .int .i64 (i : Int) ∧ Hid (n = valFrom 0 (((bs s).drop a).take (i - a))) ∧ Hid (∀ k, a ≤ k → k < i → k < s.size ∧ isDig ((bs s).getD k 0) = true)) (fun _ vi => ((b : Int) - RowKit.intOf vi).toNat)
  case atStart => exact ⟨a, 0, by omega, by omega, by rw [Nat.sub_self]; decide, rfl, rfl, HV0.out.symm, fun k h1 h2 => by omega⟩
  case round =>
    obtain ⟨i, n, hi1, hi2, hn, rfl, rfl, HN, HD⟩ := hrel
    by_cases hib : i < b
    · by_cases hsz : i < s.size
      · have hc := HG.out i hsz
        have h256 : (s[i].toNat : Int) < 256 ∧ 0 ≤ (s[i].toNat : Int) := ⟨by have := s[i].toNat_lt; omega, by omega⟩
        have HDi := Lib.hid (fun W => HDg.out s[i] W)
        cases hdg : isDig s[i]
        · have HF := Lib.hid (HBd.out i hi1 hib (.inr ⟨by rw [HLn.out]; exact hsz, by rw [hc]; exact hdg⟩))
          rw [hdg] at HDi
          clear HBd HGo HNx HDg HV0 HVs hc hdg hn HN HD
          go_wp2_with fail
          refine (HDi.out _).mono ?_
          rintro e w' ⟨rfl, rfl⟩
          go_wp2_with fail
          go_ret
          exact ⟨retId HF.out.symm, rfl⟩
        · have hrg := isDig_rg hdg
          have ht := ten_pow (i - a) (by omega)
          have hp : 10 ^ (i + 1 - a) = 10 ^ (i - a) * 10 := by rw [show i + 1 - a = (i - a) + 1 by omega, Nat.pow_succ]
          have HN2 : Hid (n * 10 + (s[i].toNat - 48) = valFrom 0 (((bs s).drop a).take (i + 1 - a))) := by
            show _ = _
            rw [HNx.out i hi1 (by rw [HLn.out]; exact hsz), HVs.out, ← HN.out, hc]
          have HD2 : Hid (∀ k, a ≤ k → k < i + 1 → k < s.size ∧ isDig ((bs s).getD k 0) = true) := by
            intro k h1 h2
            by_cases hk : k < i
            · exact HD.out k h1 hk
            · obtain rfl : k = i := by omega
              exact ⟨hsz, by rw [hc]; exact hdg⟩
          have hn2 : n * 10 + (s[i].toNat - 48) < 10 ^ (i + 1 - a) := by rw [hp]; omega
          have hn4 : n < 10000 := by omega
          have Hn2 := Lib.hid hn2
          rw [hdg] at HDi
          clear HBd HGo HNx HDg HV0 HVs hc hdg hn HN HD hn2 hp ht
          go_wp2_with fail
          refine (HDi.out _).mono ?_
          rintro e w' ⟨rfl, rfl⟩
          go_wp2_with fail
          refine ⟨⟨i + 1, n * 10 + (s[i].toNat - 48), by omega, by omega, Hn2.out, ?_, by go_num, HN2, HD2⟩, by simp only [RowKit.intOf]; omega⟩
          congr 1; omega
      · have HF := Lib.hid (HBd.out i hi1 hib (.inl (by rw [HLn.out]; omega)))
        clear HBd HGo HNx HDg HV0 HVs hn HN HD HG
        go_wp2_with fail
        go_ret
        exact ⟨retId HF.out.symm, rfl⟩
    · obtain rfl : i = b := by omega
      have hle : i ≤ s.size := by have := (HD.out (i - 1) (by omega) (by omega)).1; omega
      have hF := HGo.out (by rw [HLn.out]; exact hle) (fun k h1 h2 => (HD.out k h1 h2).2)
      rw [← HN.out] at hF
      have HF := Lib.hid hF
      clear HBd HGo HNx HDg HV0 HVs hn HN HD HG hF
      go_wp2_with fail
      go_ret
      exact ⟨retId HF.out.symm, rfl⟩
end Tk
end Go.Proofs.YtajmheblbnodjaaGreatDoor
