/- The document's date: the month whose name begins at a place. -/
import Derived.Test.YtajmheblbnodjaaDoorDrD
import Derived.Test.YtajmheblbnodjaaDoorDtD
import Derived.BigQuiet
import Derived.Deep.QuietTactic
namespace Go.Proofs.YtajmheblbnodjaaDoor
open Go.RowKit
namespace Tk

theorem monGo_short : ∀ (r : List Bs) (k : Int) (l : Bs), (∀ x ∈ r, x.length = 3) → l.length ≠ 3 → monGo r k l = 0
  | [], _, _, _, _ => rfl
  | x :: r, k, l, h, hl => by
    rw [monGo_no _ _ _ _ (fun e => hl (by rw [← e]; exact h x (by simp)))]
    exact monGo_short r (k + 1) l (fun y hy => h y (by simp [hy])) hl

set_option maxHeartbeats 8000000 in
set_option maxRecDepth 100000 in
theorem rwhere_any (s : ByteArray) (p : Nat) (w : World) (_hs : s.size ≤ 1000) (hp : p ≤ 2000) :
    Calls Tryd.prog 60 #[.string s, .int .i64 (p : Int)] w fun e w' => e = .returned (.int .i64 (monNo (((bs s).drop p).take 3))) ∧ Below w.heap.size w w' := by
  have HM := Lib.hid (rmonthsL_any w)
  unfold ListNPost at HM
  have HSl := Lib.hid (fun (W W' : World) (g : Nat) (l : List Bs) (h : StrB W g l) (hb : Below W.heap.size W W') => StrB.later h hb)
  have HSc := Lib.hid (fun (W : World) (g : Nat) (h : StrB W g mN) (k : Nat) (hk : k < 12) => StrB.cell h k hk)
  have HMl : Hid (mN.length = 12) := rfl
  have hml : mN.length = 12 := rfl
  rw [hml] at HM
  clear hml
  by_cases hin : p + 3 ≤ s.size
  · have hX : ((bs s).drop p).take 3 = bs (s.extract p (p + 3)) := by rw [bs_extract]; congr 1; omega
    rw [hX]
    have HG := Lib.hid (show monNo (bs (s.extract p (p + 3))) = monGo (mN.drop 0) (((0 : Nat) : Int) + 1) (bs (s.extract p (p + 3))) from rfl)
    have HEnd := Lib.hid (show ∀ k, monGo (mN.drop 12) k (bs (s.extract p (p + 3))) = 0 from fun _ => rfl)
    have HY := Lib.hid (fun (k : Nat) (h : k < 12) (he : mN.getD k [] = bs (s.extract p (p + 3))) => show monGo (mN.drop k) ((k : Int) + 1) (bs (s.extract p (p + 3))) = (k : Int) + 1 by
      rw [mN_drop k h, monGo_yes _ _ _ _ he])
    have HN := Lib.hid (fun (k : Nat) (h : k < 12) (he : ¬ mN.getD k [] = bs (s.extract p (p + 3))) => show monGo (mN.drop k) ((k : Int) + 1) (bs (s.extract p (p + 3))) = monGo (mN.drop (k + 1)) (((k + 1 : Nat) : Int) + 1) (bs (s.extract p (p + 3))) by
      rw [mN_drop k h, monGo_no _ _ _ _ he]; congr 1)
    have c0 : (0 : Int) ≤ (p : Int) := by omega
    have c1 : (p : Int) + 3 ≤ (s.size : Int) := by omega
    have c2 : (p : Int) ≤ (p : Int) + 3 := by omega
    have wz : IntKind.i64.wrap ((p : Int) + 3) = (p : Int) + 3 := IntWalk.i64_in _ (by omega)
    have tz : ((p : Int) + 3).toNat = p + 3 := by omega
    clear hX
    generalize hXX : monNo (bs (s.extract p (p + 3))) = R at *
    clear hXX
    go_enter Tryd.func60, Tryd.ntmps60
    go_wp2_with fail
    refine HM.out.mono ?_
    rintro e w1 ⟨g, rfl, hg1, hg2, hst, hb⟩
    have HB1 := Lib.hid hb
    have HS1 := Lib.hid hst
    clear hb hst HM
    go_wp2_with fail
    go_loopw [6] (fun vi wr => ∃ k : Nat, k ≤ 12 ∧ vi = .int .i64 (k : Int) ∧ g < wr.heap.size ∧ Hid (StrB wr g mN) ∧ Hid (Below w.heap.size w wr) ∧ Hid (R = monGo (mN.drop k) ((k : Int) + 1) (bs (s.extract p (p + 3))))) (fun vi _ => (12 - RowKit.intOf vi).toNat)
    case atStart => exact ⟨0, by omega, rfl, hg2, HS1, HB1, HG⟩
    case round =>
      obtain ⟨k, hk, rfl, hgl, HS, HB, HI⟩ := hrel
      rename World => wr
      clear HS1 HB1 HG
      by_cases hk12 : k < 12
      · have hc := HSc.out wr g HS.out k hk12
        have hki : (k : Int) < 12 := by omega
        have hk0 : (0 : Int) ≤ (k : Int) := by omega
        by_cases he : mN.getD k [] = bs (s.extract p (p + 3))
        · have e1 : ((s.extract p (p + 3)).toList == (mkS (mN.getD k [])).toList) = true := by rw [toList_bs, toList_bs, bs_mkS, he]; exact beq_self_eq_true _
          have HF := Lib.hid (HI.out.trans (HY.out k hk12 he))
          clear HY HN HI HEnd HSc he
          generalize mkS (mN.getD k []) = mk at *
          go_upto_region 5 with (fail)
          go_quiet (fail)
          go_wp2_with fail
          go_ret
          exact ⟨retId HF.out.symm, by first | exact bdrN HB.out _ | exact HB.out.drew⟩
        · have e1 : ((s.extract p (p + 3)).toList == (mkS (mN.getD k [])).toList) = false := beq_eq_false_iff_ne.2 fun e => he (by rw [toList_bs, toList_bs, bs_mkS] at e; exact e.symm)
          have HF := Lib.hid (HI.out.trans (HN.out k hk12 he))
          clear HY HN HI HEnd HSc he
          generalize mkS (mN.getD k []) = mk at *
          go_upto_region 5 with (fail)
          go_quiet (fail)
          go_wp2_with fail
          refine ⟨⟨k + 1, by omega, by go_num, hgl, HSl.out _ _ _ _ HS.out (bdrN (Below.refl _ _) _), by show Below _ _ _; exact bdrN HB.out _, HF⟩, by simp only [RowKit.intOf]; omega⟩
      · obtain rfl : k = 12 := by omega
        have HF := Lib.hid (HI.out.trans (HEnd.out _))
        clear HY HN HI HEnd HSc
        go_wp2_with fail
        go_ret
        exact ⟨retId HF.out.symm, HB.out⟩
  · have hz : monNo (((bs s).drop p).take 3) = 0 := monGo_short mN 1 _ (by decide) (by rw [List.length_take, List.length_drop, length_bs]; omega)
    rw [hz]
    have c1 : ¬ (p : Int) + 3 ≤ (s.size : Int) := by omega
    have d1 : decide ((p : Int) + 3 ≤ (s.size : Int)) = false := decide_eq_false c1
    have c2 : (s.size : Int) < (p : Int) + 3 := by omega
    have c0 : (0 : Int) ≤ (p : Int) := by omega
    have d0 : decide ((0 : Int) ≤ (p : Int)) = true := decide_eq_true c0
    have wz : IntKind.i64.wrap ((p : Int) + 3) = (p : Int) + 3 := IntWalk.i64_in _ (by omega)
    clear hz
    go_enter Tryd.func60, Tryd.ntmps60
    go_wp2_with fail
    refine HM.out.mono ?_
    rintro e w1 ⟨g, rfl, hg1, hg2, hst, hb⟩
    have HB1 := Lib.hid hb
    clear hb hst HM
    go_wp2_with fail
    go_loopw [6] (fun vi wr => ∃ k : Nat, k ≤ 12 ∧ vi = .int .i64 (k : Int) ∧ Hid (Below w.heap.size w wr)) (fun vi _ => (12 - RowKit.intOf vi).toNat)
    case atStart => exact ⟨0, by omega, rfl, HB1⟩
    case round =>
      obtain ⟨k, hk, rfl, HB⟩ := hrel
      rename World => wr
      clear HB1
      by_cases hk12 : k < 12
      · have hki : (k : Int) < 12 := by omega
        go_upto_region 5 with (fail)
        go_quiet (fail)
        go_wp2_with fail
        refine ⟨⟨k + 1, by omega, by go_num, by show Below _ _ _; exact bdrN HB.out _⟩, by simp only [RowKit.intOf]; omega⟩
      · obtain rfl : k = 12 := by omega
        go_wp2_with fail
        go_ret
        exact ⟨rfl, HB.out⟩
end Tk
end Go.Proofs.YtajmheblbnodjaaDoor
