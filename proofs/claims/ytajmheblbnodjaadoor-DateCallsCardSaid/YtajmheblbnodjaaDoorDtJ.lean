/- date: Seconds, Format. -/
import Derived.Test.YtajmheblbnodjaaDoorDtI
import Derived.Deep.Cut
namespace Go.Proofs.YtajmheblbnodjaaDoor
open Go.RowKit
namespace Tk

theorem asctime_any (c : Cv) (w : World) (hT : NamH w) (hr : Rg c) :
    Calls Tryd.prog 57 #[cvV c] w fun e w' => e = .returned (.string (mkS (fC c))) ∧ Below w.heap.size w w' := by
  by_cases h : c.d < 10
  · exact asctimeS_any c w hT hr h
  · exact asctimeB_any c w hT hr (by omega)

theorem bdrN {B : Nat} {a w : World} (h : Below B a w) (n : Nat) : Below B a (w.drewN n) := h.trans ⟨rfl, rfl, rfl, Nat.le_refl _, fun _ _ => rfl⟩
def secX (c : Cv) : Int := if okC c = true then secC c else 0
def secE (c : Cv) : Int := if okC c = true then 0 else 2
theorem okC_split (c : Cv) : okC c = (okDay c.y c.m c.d && ((decide (0 ≤ c.h) && decide (c.h ≤ 23)) && ((decide (0 ≤ c.n) && decide (c.n ≤ 59)) && ((decide (0 ≤ c.s) && decide (c.s ≤ 59)) && decide (c.w = (dayN c.y c.m c.d + 4) % 7))))) := by
  unfold okC; simp only [Bool.and_assoc]
def SecPost (c : Cv) (w : World) (e : Ending) (w' : World) : Prop := e = .returned (.tuple #[.int .i64 (secX c), .int .i64 (secE c)]) ∧ Below w.heap.size w w'

set_option maxHeartbeats 4000000 in
set_option maxRecDepth 100000 in
theorem seconds_any (c : Cv) (w : World) :
    Calls Tryd.prog 11 #[cvV c] w (SecPost c w) := by
  have HD0 := fun W => days_any c.y c.m c.d W
  have HW1 := fun W => within_any c.h 0 23 W
  have HW2 := fun W => within_any c.n 0 59 W
  have HW3 := fun W => within_any c.s 0 59 W
  have HO := okC_split c
  have hrg := day_range c.y c.m c.d
  obtain ⟨b1, hb1⟩ : ∃ b, b = (decide (0 ≤ c.h) && decide (c.h ≤ 23)) := ⟨_, rfl⟩
  obtain ⟨b2, hb2⟩ : ∃ b, b = (decide (0 ≤ c.n) && decide (c.n ≤ 59)) := ⟨_, rfl⟩
  obtain ⟨b3, hb3⟩ : ∃ b, b = (decide (0 ≤ c.s) && decide (c.s ≤ 59)) := ⟨_, rfl⟩
  obtain ⟨b4, hb4⟩ : ∃ b, b = decide (c.w = (dayN c.y c.m c.d + 4) % 7) := ⟨_, rfl⟩
  simp only [← hb1] at HW1 HO
  simp only [← hb2] at HW2 HO
  simp only [← hb3] at HW3 HO
  rw [← hb4] at HO
  have H1 := Lib.hid HW1
  have H2 := Lib.hid HW2
  have H3 := Lib.hid HW3
  have hX : secX c = if okC c = true then secC c else 0 := rfl
  have hE : secE c = if okC c = true then 0 else 2 := rfl
  have hS : secC c = dayN c.y c.m c.d * 86400 + (c.h * 3600 + c.n * 60 + c.s) := rfl
  unfold SecPost
  unfold cvV
  cases h0 : okDay c.y c.m c.d
  · have hd : dayV c.y c.m c.d = 0 ∧ dayE c.y c.m c.d = 2 := by unfold dayV dayE; rw [h0]; exact ⟨rfl, rfl⟩
    rw [hd.1, hd.2] at HD0
    rw [h0] at HO
    have hf : okC c = false := HO
    rw [hf] at hX hE
    have HD := Lib.hid HD0
    have HX := Lib.hid hX
    have HE := Lib.hid hE
    clear HW1 HW2 HW3 HO hrg hX hE hS hd HD0 hb1 hb2 hb3 hb4 h0 hf H1 H2 H3
    generalize c.y = v0 at *
    generalize c.m = v1 at *
    generalize c.d = v2 at *
    generalize c.h = v3 at *
    generalize c.n = v4 at *
    generalize c.s = v5 at *
    generalize c.w = v6 at *
    go_enter Tryd.func11, Tryd.ntmps11
    go_wp2_with fail
    refine (HD.out _).mono ?_
    rintro e w' ⟨rfl, rfl⟩
    go_wp2_with fail
    go_ret2
    exact ⟨ret2 HX.out.symm HE.out.symm, (Below.refl _ _).alloc (Nat.le_refl _) _⟩
  · have hd : dayV c.y c.m c.d = dayN c.y c.m c.d ∧ dayE c.y c.m c.d = 0 := by unfold dayV dayE; rw [h0]; exact ⟨rfl, rfl⟩
    rw [hd.1, hd.2] at HD0
    rw [h0] at HO
    obtain ⟨r1, r2, -⟩ := hrg h0
    have HD := Lib.hid HD0
    have HWd := Lib.hid (fun W => weekday_any (dayN c.y c.m c.d) W (by omega))
    clear HD0 hd h0
    cases b1
    · have hf : okC c = false := HO
      rw [hf] at hX hE
      have HX := Lib.hid hX
      have HE := Lib.hid hE
      clear HW1 HW2 HW3 HO hrg hX hE hS hb1 hb2 hb3 hb4 hf H2 H3 HWd
      generalize dayN c.y c.m c.d = N at *
      generalize c.y = v0 at *
      generalize c.m = v1 at *
      generalize c.d = v2 at *
      generalize c.h = v3 at *
      generalize c.n = v4 at *
      generalize c.s = v5 at *
      generalize c.w = v6 at *
      go_enter Tryd.func11, Tryd.ntmps11
      go_wp2_with fail
      refine (HD.out _).mono ?_
      rintro e w' ⟨rfl, rfl⟩
      go_wp2_with fail
      refine (H1.out _).mono ?_
      rintro e w' ⟨rfl, rfl⟩
      go_wp2_with fail
      go_ret2
      exact ⟨ret2 HX.out.symm HE.out.symm, (Below.refl _ _).alloc (Nat.le_refl _) _⟩
    cases b2
    · have hf : okC c = false := HO
      rw [hf] at hX hE
      have HX := Lib.hid hX
      have HE := Lib.hid hE
      clear HW1 HW2 HW3 HO hrg hX hE hS hb1 hb2 hb3 hb4 hf H3 HWd
      generalize dayN c.y c.m c.d = N at *
      generalize c.y = v0 at *
      generalize c.m = v1 at *
      generalize c.d = v2 at *
      generalize c.h = v3 at *
      generalize c.n = v4 at *
      generalize c.s = v5 at *
      generalize c.w = v6 at *
      go_enter Tryd.func11, Tryd.ntmps11
      go_wp2_with fail
      refine (HD.out _).mono ?_
      rintro e w' ⟨rfl, rfl⟩
      go_wp2_with fail
      refine (H1.out _).mono ?_
      rintro e w' ⟨rfl, rfl⟩
      go_wp2_with fail
      refine (H2.out _).mono ?_
      rintro e w' ⟨rfl, rfl⟩
      go_wp2_with fail
      go_ret2
      exact ⟨ret2 HX.out.symm HE.out.symm, (Below.refl _ _).alloc (Nat.le_refl _) _⟩
    cases b3
    · have hf : okC c = false := HO
      rw [hf] at hX hE
      have HX := Lib.hid hX
      have HE := Lib.hid hE
      clear HW1 HW2 HW3 HO hrg hX hE hS hb1 hb2 hb3 hb4 hf HWd
      generalize dayN c.y c.m c.d = N at *
      generalize c.y = v0 at *
      generalize c.m = v1 at *
      generalize c.d = v2 at *
      generalize c.h = v3 at *
      generalize c.n = v4 at *
      generalize c.s = v5 at *
      generalize c.w = v6 at *
      go_enter Tryd.func11, Tryd.ntmps11
      go_wp2_with fail
      refine (HD.out _).mono ?_
      rintro e w' ⟨rfl, rfl⟩
      go_wp2_with fail
      refine (H1.out _).mono ?_
      rintro e w' ⟨rfl, rfl⟩
      go_wp2_with fail
      refine (H2.out _).mono ?_
      rintro e w' ⟨rfl, rfl⟩
      go_wp2_with fail
      refine (H3.out _).mono ?_
      rintro e w' ⟨rfl, rfl⟩
      go_wp2_with fail
      go_ret2
      exact ⟨ret2 HX.out.symm HE.out.symm, (Below.refl _ _).alloc (Nat.le_refl _) _⟩
    have q1 : 0 ≤ c.h ∧ c.h ≤ 23 := by simpa using hb1.symm
    have q2 : 0 ≤ c.n ∧ c.n ≤ 59 := by simpa using hb2.symm
    have q3 : 0 ≤ c.s ∧ c.s ≤ 59 := by simpa using hb3.symm
    cases b4
    · have hf : okC c = false := HO
      rw [hf] at hX hE
      have HX := Lib.hid hX
      have HE := Lib.hid hE
      have e7 : (c.w == (dayN c.y c.m c.d + 4) % 7) = false := beq_eq_false_iff_ne.2 (of_decide_eq_false hb4.symm)
      clear HW1 HW2 HW3 HO hrg hX hE hS hb1 hb2 hb3 hb4 hf q1 q2 q3
      generalize dayN c.y c.m c.d = N at *
      generalize c.y = v0 at *
      generalize c.m = v1 at *
      generalize c.d = v2 at *
      generalize c.h = v3 at *
      generalize c.n = v4 at *
      generalize c.s = v5 at *
      generalize c.w = v6 at *
      generalize (N + 4) % 7 = wd at *
      go_enter Tryd.func11, Tryd.ntmps11
      go_wp2_with fail
      refine (HD.out _).mono ?_
      rintro e w' ⟨rfl, rfl⟩
      go_wp2_with fail
      refine (H1.out _).mono ?_
      rintro e w' ⟨rfl, rfl⟩
      go_wp2_with fail
      refine (H2.out _).mono ?_
      rintro e w' ⟨rfl, rfl⟩
      go_wp2_with fail
      refine (H3.out _).mono ?_
      rintro e w' ⟨rfl, rfl⟩
      go_upto_region 7 with (fail)
      go_quiet ((go_at_call 30; exact Calls.quiet_of_same ((HWd.out _).mono fun _ _ h => ⟨h.1, h.2.symm⟩)))
      go_wp2_with fail
      go_ret2
      exact ⟨ret2 HX.out.symm HE.out.symm, by first | exact bdrN ((Below.refl _ _).alloc (Nat.le_refl _) _) _ | exact ((Below.refl _ _).alloc (Nat.le_refl _) _).drew⟩
    · have hf : okC c = true := HO
      rw [hf, if_pos rfl] at hX hE
      rw [hS] at hX
      have HX := Lib.hid hX
      have HE := Lib.hid hE
      have e7 : (c.w == (dayN c.y c.m c.d + 4) % 7) = true := beq_iff_eq.2 (of_decide_eq_true hb4.symm)
      clear HW1 HW2 HW3 HO hrg hX hE hS hb1 hb2 hb3 hb4 hf
      generalize dayN c.y c.m c.d = N at *
      generalize c.y = v0 at *
      generalize c.m = v1 at *
      generalize c.d = v2 at *
      generalize c.h = v3 at *
      generalize c.n = v4 at *
      generalize c.s = v5 at *
      generalize c.w = v6 at *
      generalize (N + 4) % 7 = wd at *
      go_enter Tryd.func11, Tryd.ntmps11
      go_wp2_with fail
      refine (HD.out _).mono ?_
      rintro e w' ⟨rfl, rfl⟩
      go_wp2_with fail
      refine (H1.out _).mono ?_
      rintro e w' ⟨rfl, rfl⟩
      go_wp2_with fail
      refine (H2.out _).mono ?_
      rintro e w' ⟨rfl, rfl⟩
      go_wp2_with fail
      refine (H3.out _).mono ?_
      rintro e w' ⟨rfl, rfl⟩
      go_upto_region 7 with (fail)
      go_quiet ((go_at_call 30; exact Calls.quiet_of_same ((HWd.out _).mono fun _ _ h => ⟨h.1, h.2.symm⟩)))
      go_wp2_with fail
      go_ret2
      exact ⟨ret2 HX.out.symm HE.out.symm, by first | exact bdrN ((Below.refl _ _).alloc (Nat.le_refl _) _) _ | exact ((Below.refl _ _).alloc (Nat.le_refl _) _).drew⟩

/-- the text of a second -/
def fmtL (t : Int) : Bs := if okT t = true then fA (civ t) else []
theorem retSE {a b : ByteArray} {c d : Int} (h1 : a = b) (h2 : c = d) : Ending.returned (.tuple #[.string a, .int .i64 c]) = .returned (.tuple #[.string b, .int .i64 d]) := by rw [h1, h2]
def FmtPost (t : Int) (w : World) (e : Ending) (w' : World) : Prop := e = .returned (.tuple #[.string (mkS (fmtL t)), .int .i64 (civE t)]) ∧ Below w.heap.size w w'

set_option maxHeartbeats 4000000 in
set_option maxRecDepth 100000 in
theorem format_any (t : Int) (w : World) (ht : -9223372036854775808 ≤ t ∧ t ≤ 9223372036854775807) (hT : NamH w) :
    Calls Tryd.prog 13 #[.int .i64 t] w (FmtPost t w) := by
  have hC := civil_any t w ht
  unfold CivPost at hC
  unfold FmtPost
  have HB0 : Hid (∀ c, ∀ w1, Below w.heap.size w w1 → Below w.heap.size w (w1.alloc (.cells (cvC c) 23))) := fun c w1 h => h.alloc h.size _
  cases hk : okT t
  · obtain ⟨h1, h2⟩ := civX_bad hk
    rw [h1, h2] at hC
    have HC := Lib.hid hC
    have HV := Lib.hid (show fmtL t = [] by unfold fmtL; rw [hk]; rfl)
    have HE := Lib.hid h2
    clear hC h1 h2 hk
    unfold cvV at HC
    unfold cvC at HB0
    go_enter Tryd.func13, Tryd.ntmps13
    go_wp2_with fail
    refine HC.out.mono ?_
    rintro e w1 ⟨rfl, hb⟩
    have HB := Lib.hid hb
    clear hb
    go_wp2_with fail
    go_ret2
    exact ⟨retSE (by rw [HV.out]; rfl) HE.out.symm, HB0.out ⟨0, 0, 0, 0, 0, 0, 0⟩ _ HB.out⟩
  · obtain ⟨h1, h2⟩ := civX_ok hk
    rw [h1, h2] at hC
    have hr := civ_rg ((okT_iff t).1 hk).1 ((okT_iff t).1 hk).2
    have HV := Lib.hid (show mkS (fmtL t) = mkS (fA (civ t)) by unfold fmtL; rw [if_pos hk])
    have HE := Lib.hid h2
    have HF : Hid (∀ w1, Below w.heap.size w w1 → Calls Tryd.prog 31 #[cvV (civ t)] (w1.alloc (.cells (cvC (civ t)) 23)) fun e w' => e = .returned (.string (mkS (fA (civ t)))) ∧ Below w.heap.size w w') := by
      intro w1 hb
      have h := HB0.out (civ t) w1 hb
      refine (fixdate_any (civ t) _ (hT.later h) hr).mono ?_
      rintro e w' ⟨he, hb2⟩
      exact ⟨he, h.trans (hb2.mono h.size)⟩
    generalize civ t = c at *
    obtain ⟨v0, v1, v2, v3, v4, v5, v6⟩ := c
    unfold cvV at hC HF
    unfold cvC at HF
    dsimp only at hC HF
    have HC := Lib.hid hC
    clear hC h1 h2 hk hr hT HB0
    generalize mkS (fA ⟨v0, v1, v2, v3, v4, v5, v6⟩) = R at *
    go_enter Tryd.func13, Tryd.ntmps13
    go_wp2_with fail
    refine HC.out.mono ?_
    rintro e w1 ⟨rfl, hb⟩
    have HF1 := Lib.hid (HF.out _ hb)
    clear hb HF
    go_wp2_with fail
    refine HF1.out.mono ?_
    rintro e w2 ⟨rfl, hb⟩
    have HB := Lib.hid hb
    clear hb
    go_wp2_with fail
    go_ret2
    exact ⟨retSE HV.out.symm HE.out.symm, HB.out⟩
end Tk
end Go.Proofs.YtajmheblbnodjaaDoor
