/- The document's date: civil times. -/
import Derived.Test.YtajmheblbnodjaaDoorDrA
import Derived.Test.YtajmheblbnodjaaDoorDtM
import Derived.Deep.Cut
namespace Go.Proofs.YtajmheblbnodjaaDoor
open Go.RowKit
namespace Tk

theorem day_first (y : Int) (m : Nat) (hy : 1970 ≤ y) (hm : 1 ≤ m ∧ m ≤ 12) : dayV y (m : Int) 1 = (if y ≤ 9999 then yS y + mC y (m - 1) else 0) ∧ dayE y (m : Int) 1 = (if y ≤ 9999 then 0 else 2) := by
  have := mD_28 y m
  have e : ((m : Int) - 1).toNat = m - 1 := by omega
  by_cases h : y ≤ 9999
  · have hk : okDay y (m : Int) 1 = true := (okDay_iff _ _ _).2 ⟨hy, h, by omega, by omega, by omega, by omega⟩
    unfold dayV dayE dayN
    rw [if_pos hk, if_pos hk, if_pos h, if_pos h, e]
    exact ⟨by omega, rfl⟩
  · have hk : okDay y (m : Int) 1 = false := by
      cases hq : okDay y (m : Int) 1
      · rfl
      · exact absurd ((okDay_iff _ _ _).1 hq).2.1 h
    unfold dayV dayE
    rw [if_neg h, if_neg h, hk]; exact ⟨rfl, rfl⟩
theorem pow_half (j : Nat) : ((2 ^ (j + 1) / 2 : Nat) : Int) = 2 ^ j := by
  rw [Nat.pow_succ, Nat.mul_div_cancel _ (by decide)]; simp
theorem pow_le (j : Nat) (h : j ≤ 14) : (2 : Int) ^ j ≤ 16384 ∧ 1 ≤ (2 : Int) ^ j := by
  have h1 : 2 ^ j ≤ 2 ^ 14 := Nat.pow_le_pow_right (by decide) h
  have h2 : 1 ≤ 2 ^ j := Nat.one_le_two_pow
  have e : (2 : Int) ^ j = ((2 ^ j : Nat) : Int) := by simp
  rw [e]; omega
theorem pow_next (j : Nat) : (2 : Int) ^ (j + 1) = 2 * 2 ^ j := by rw [Int.pow_succ]; omega

theorem pow_div2 (j : Nat) : (2 : Int) ^ j / 2 = ((2 ^ j / 2 : Nat) : Int) := by
  rw [Int.natCast_ediv]; simp
theorem days_at (y m : Int) (v e : Int) (W : World) (hv : dayV y m 1 = v) (he : dayE y m 1 = e) : Calls Tryd.prog 8 #[.int .i64 y, .int .i64 m, .int .i64 1] W fun x w' => x = .returned (.tuple #[.int .i64 v, .int .i64 e]) ∧ W = w' := by
  have h := rdays_any y m 1 W
  rw [hv, he] at h
  exact h

set_option maxHeartbeats 16000000 in
set_option maxRecDepth 100000 in
theorem rcivil_any (t : Int) (w : World) (ht : -9223372036854775808 ≤ t ∧ t ≤ 9223372036854775807) :
    Calls Tryd.prog 10 #[.int .i64 t] w (CivPost t w) := by
  have hT : okT t = (decide (0 ≤ t) && decide (t ≤ 253402300799)) := rfl
  unfold CivPost
  by_cases h0 : t < 0
  · have HX := Lib.hid (civX_bad (t := t) (by rw [hT, decide_eq_false (by omega)]; rfl))
    have e1 : decide (t < 0) = true := decide_eq_true h0
    clear hT ht
    go_enter Tryd.func10, Tryd.ntmps10
    go_wp2_with fail
    refine bodyPost_ret (v := .tuple #[.agg #[.int .i64 0, .int .i64 0, .int .i64 0, .int .i64 0, .int .i64 0, .int .i64 0, .int .i64 0], .int .i64 2]) ?_ rfl ⟨?_, (Below.refl _ _).alloc (Nat.le_refl _) _⟩
    · exact results_cv (g := w.heap.size) (t := 23) rfl _ _ _ (0, 0) _ _ rfl (heap_alloc_last w _) Tryd.underlying23 rfl (by kernel_rfl) rfl
    · exact civ_ret HX.out.1 HX.out.2
  have e1 : decide (t < 0) = false := decide_eq_false h0
  by_cases h1 : 253402300799 < t
  · have HX := Lib.hid (civX_bad (t := t) (by rw [hT, decide_eq_false (p := t ≤ 253402300799) (by omega)]; simp))
    have e2 : decide (253402300799 < t) = true := decide_eq_true h1
    clear hT ht
    go_enter Tryd.func10, Tryd.ntmps10
    go_wp2_with fail
    refine bodyPost_ret (v := .tuple #[.agg #[.int .i64 0, .int .i64 0, .int .i64 0, .int .i64 0, .int .i64 0, .int .i64 0, .int .i64 0], .int .i64 2]) ?_ rfl ⟨?_, (Below.refl _ _).alloc (Nat.le_refl _) _⟩
    · exact results_cv (g := w.heap.size) (t := 23) rfl _ _ _ (0, 0) _ _ rfl (heap_alloc_last w _) Tryd.underlying23 rfl (by kernel_rfl) rfl
    · exact civ_ret HX.out.1 HX.out.2
  have e2 : decide (253402300799 < t) = false := decide_eq_false h1
  have hD : 0 ≤ t / 86400 ∧ t / 86400 < 2932897 := by omega
  have hR : 0 ≤ t % 86400 ∧ t % 86400 < 86400 := by omega
  have hr := yOf_range _ hD.1 hD.2
  obtain ⟨s1, s2⟩ := yOf_spec _ hD.1
  have hx : okT t = true := (okT_iff t).2 ⟨by omega, by unfold maxT; omega⟩
  have HX := Lib.hid (civX_ok hx)
  have HC := Lib.hid (fun m : Nat => show mOf (yOf (t / 86400)) (t / 86400 - yS (yOf (t / 86400))) = m → civ t = ⟨yOf (t / 86400), m, t / 86400 - yS (yOf (t / 86400)) - mC (yOf (t / 86400)) (m - 1) + 1, t % 86400 / 3600, t % 86400 / 60 % 60, t % 60, (t / 86400 + 4) % 7⟩ from fun h => by
    unfold civ; rw [h]; congr 1 <;> omega)
  have hlp := lpY_01 (yOf (t / 86400))
  have s3 := s2
  rw [yS_next] at s3
  obtain ⟨n, hn⟩ : ∃ n, n = t / 86400 := ⟨_, rfl⟩
  obtain ⟨r, hrr⟩ : ∃ r, r = t % 86400 := ⟨_, rfl⟩
  rw [← hn] at HC hD s1 s2 s3 hr hlp
  rw [← hrr] at HC hR
  generalize yOf n = Y at *
  have HDy := Lib.hid (fun (y : Int) (m : Nat) (hy : 1970 ≤ y) (hm : 1 ≤ m ∧ m ≤ 12) => day_first y m hy hm)
  have HDd := Lib.hid (fun (y m : Int) (W : World) => rdays_any y m 1 W)
  have HLe := Lib.hid (fun (a b : Int) (h : a ≤ b) => yS_le h)
  have HP := Lib.hid pow_half
  have HPl := Lib.hid pow_le
  have HPn := Lib.hid pow_next
  have hys : 0 ≤ yS Y ∧ yS Y ≤ 4000000 := by unfold yS lpB; omega
  have HyS := Lib.hid (fun (y : Int) (h : 1970 ≤ y ∧ y ≤ 9999) => show 0 ≤ yS y ∧ yS y ≤ 4000000 by unfold yS lpB; omega)
  go_enter Tryd.func10, Tryd.ntmps10
  go_wp2_with fail
  rw [← hn, ← hrr]
  clear hn hrr hx hT
  generalize r / 3600 = hh at *
  generalize r / 60 % 60 = nn at *
  generalize t % 60 = ss at *
  generalize (n + 4) % 7 = wd at *
  have HPd := Lib.hid pow_div2
  have hD2 := hD
  go_loopw [7, 8, 9] (fun vk _ _ wr => ∃ (j : Nat) (y : Int), j ≤ 14 ∧ vk = .int .i64 ((2 ^ j / 2 : Nat) : Int) ∧ 1970 ≤ y ∧ y ≤ Y ∧ Y < y + 2 ^ j ∧ wr = (w.alloc (.cells #[.int .i64 0, .int .i64 0, .int .i64 0, .int .i64 0, .int .i64 0, .int .i64 0, .int .i64 0] 23)).alloc (.cells #[.int .i64 y, .int .i64 1, .int .i64 1, .int .i64 hh, .int .i64 nn, .int .i64 ss, .int .i64 wd] 23)) (fun vk _ _ _ => (RowKit.intOf vk).toNat)
  case atStart => exact ⟨14, 1970, by omega, rfl, by omega, hr.1, by have := hr.2; show Y < 1970 + 16384; omega, rfl⟩
  case round =>
    obtain ⟨j, y, hj, rfl, hy1, hy2, hy3, rfl⟩ := hrel
    cases j with
    | zero =>
      have hyY : y = Y := by simp at hy3; omega
      subst hyY
      simp only [Nat.pow_zero, Nat.reduceDiv, Int.cast_ofNat_Int]
      have HMi := Lib.hid (fun (a : Nat) (a0 : 1 ≤ a) (a1 : a ≤ 12) (a2 : mC y (a - 1) ≤ n - yS y) (a3 : n - yS y < mC y a) => mOf_is y (n - yS y) a0 a1 a2 a3)
      have HC12 : Hid (mC y 12 = 365 + lpY y) := rfl
      have HCk := Lib.hid (fun k (h : k ≤ 12) => show 0 ≤ mC y k ∧ mC y k ≤ 400 from by
        have a1 := mC_le y k 0 (by omega)
        have a2 := mC_le y (12 - k) k (by omega)
        rw [Nat.zero_add] at a1
        rw [show k + (12 - k) = 12 by omega, mC_12] at a2
        have a3 : mC y 0 = 0 := rfl
        omega)
      have HDm := Lib.hid (fun (m : Nat) (hm : 1 ≤ m ∧ m ≤ 12) (W : World) => days_at y m (yS y + mC y (m - 1)) 0 W (by rw [(HDy.out y m (by omega) hm).1, if_pos hr.2]) (by rw [(HDy.out y m (by omega) hm).2, if_pos hr.2]))
      have HG := Lib.hid (fun m : Int => heap_alloc_last (w.alloc (.cells #[.int .i64 0, .int .i64 0, .int .i64 0, .int .i64 0, .int .i64 0, .int .i64 0, .int .i64 0] 23)) (.cells #[.int .i64 y, .int .i64 m, .int .i64 1, .int .i64 hh, .int .i64 nn, .int .i64 ss, .int .i64 wd] 23))
      have hwz : Hid ((w.alloc (.cells #[.int .i64 0, .int .i64 0, .int .i64 0, .int .i64 0, .int .i64 0, .int .i64 0, .int .i64 0] 23)).heap.size = w.heap.size + 1) := Array.size_push _
      clear HDy HDd HLe HP HPl HPn HPd HyS hy3
      go_wp2_with fail
      go_loopw [10, 11] (fun _ _ wr => ∃ m : Nat, 1 ≤ m ∧ m ≤ 12 ∧ mC y (m - 1) ≤ n - yS y ∧ wr = (w.alloc (.cells #[.int .i64 0, .int .i64 0, .int .i64 0, .int .i64 0, .int .i64 0, .int .i64 0, .int .i64 0] 23)).alloc (.cells #[.int .i64 y, .int .i64 m, .int .i64 1, .int .i64 hh, .int .i64 nn, .int .i64 ss, .int .i64 wd] 23)) (fun _ _ wr => (12 - RowKit.intOf ((wr.cell? ⟨w.heap.size + 1, 1, none⟩).getD undef)).toNat)
      case atStart => exact ⟨1, by omega, by omega, by show (0 : Int) ≤ _; omega, rfl⟩
      case round =>
        obtain ⟨m, hm1, hm2, hm3, rfl⟩ := hrel
        have hmc := HCk.out m hm2
        have hcell : ((w.alloc (.cells #[.int .i64 0, .int .i64 0, .int .i64 0, .int .i64 0, .int .i64 0, .int .i64 0, .int .i64 0] 23)).alloc (.cells #[.int .i64 y, .int .i64 (m : Int), .int .i64 1, .int .i64 hh, .int .i64 nn, .int .i64 ss, .int .i64 wd] 23)).cell? ⟨w.heap.size + 1, 1, none⟩ = some (.int .i64 (m : Int)) := by
          have := HG.out (m : Int); rw [hwz.out] at this; rw [Lib.cell_of_heap this]; rfl
        have hcell2 : ((w.alloc (.cells #[.int .i64 0, .int .i64 0, .int .i64 0, .int .i64 0, .int .i64 0, .int .i64 0, .int .i64 0] 23)).alloc (.cells #[.int .i64 y, .int .i64 ((m : Int) + 1), .int .i64 1, .int .i64 hh, .int .i64 nn, .int .i64 ss, .int .i64 wd] 23)).cell? ⟨w.heap.size + 1, 1, none⟩ = some (.int .i64 ((m : Int) + 1)) := by
          have := HG.out ((m : Int) + 1); rw [hwz.out] at this; rw [Lib.cell_of_heap this]; rfl
        by_cases h12 : m < 12
        · have HDm1 := Lib.hid (fun W => HDm.out (m + 1) ⟨by omega, by omega⟩ W)
          rw [Nat.add_sub_cancel] at HDm1
          have hmi : (m : Int) < 12 := by omega
          by_cases hgt : n < yS y + mC y m
          · clear hcell hcell2
            go_wp2_with fail
            refine (HDm1.out _).mono ?_
            rintro e w' ⟨rfl, rfl⟩
            have hM := HMi.out m hm1 hm2 hm3 (by omega)
            have HE := Lib.hid (HC.out m hM)
            have HD1 := Lib.hid (HDm.out m ⟨hm1, hm2⟩)
            have hcm := HCk.out (m - 1) (by omega)
            obtain ⟨f1, f2, fb⟩ := two_alloc w #[.int .i64 y, .int .i64 (m : Int), .int .i64 (n - (yS y + mC y (m - 1)) + 1), .int .i64 hh, .int .i64 nn, .int .i64 ss, .int .i64 wd] #[.int .i64 y, .int .i64 (m : Int), .int .i64 (n - (yS y + mC y (m - 1)) + 1), .int .i64 hh, .int .i64 nn, .int .i64 ss, .int .i64 wd] 23 23
            have F1 := Lib.hid f1
            have FB := Lib.hid fb
            clear f1 f2 fb
            clear HMi HC12 HCk HDm HC hM HG
            go_wp2_with fail
            refine (HD1.out _).mono ?_
            rintro e w' ⟨rfl, rfl⟩
            go_wp2_with fail
            refine bodyPost_ret (v := .tuple #[.agg #[.int .i64 y, .int .i64 (m : Int), .int .i64 (n - (yS y + mC y (m - 1)) + 1), .int .i64 hh, .int .i64 nn, .int .i64 ss, .int .i64 wd], .int .i64 0]) ?_ rfl ⟨?_, FB.out⟩
            · exact results_cv (g := w.heap.size) (t := 23) rfl _ _ _ (0, 0) _ _ rfl F1.out Tryd.underlying23 rfl (by kernel_rfl) rfl
            · refine civ_ret ?_ HX.out.2
              rw [HX.out.1, HE.out, show n - yS y - mC y (m - 1) + 1 = n - (yS y + mC y (m - 1)) + 1 by omega]
          · have HC2 := Lib.hid hcell
            have HC3 := Lib.hid hcell2
            clear hcell hcell2 HMi HC12 HCk HDm HC HG
            go_wp2_with fail
            refine (HDm1.out _).mono ?_
            rintro e w' ⟨rfl, rfl⟩
            go_wp2_with fail
            refine ⟨⟨m + 1, by omega, by omega, by rw [Nat.add_sub_cancel]; omega, by rw [show ((m + 1 : Nat) : Int) = (m : Int) + 1 by omega]⟩, ?_⟩
            rw [HC2.out, HC3.out]
            simp only [Option.getD_some, RowKit.intOf]; omega
        · have hl12 : n - yS y < mC y m := by
            obtain rfl : m = 12 := by omega
            have h12c := HC12.out
            omega
          have hmi : ¬ (m : Int) < 12 := by omega
          clear hcell hcell2 h12
          have hM := HMi.out m hm1 hm2 hm3 hl12
          have HE := Lib.hid (HC.out m hM)
          have HD1 := Lib.hid (HDm.out m ⟨hm1, hm2⟩)
          have hcm := HCk.out (m - 1) (by omega)
          obtain ⟨f1, f2, fb⟩ := two_alloc w #[.int .i64 y, .int .i64 (m : Int), .int .i64 (n - (yS y + mC y (m - 1)) + 1), .int .i64 hh, .int .i64 nn, .int .i64 ss, .int .i64 wd] #[.int .i64 y, .int .i64 (m : Int), .int .i64 (n - (yS y + mC y (m - 1)) + 1), .int .i64 hh, .int .i64 nn, .int .i64 ss, .int .i64 wd] 23 23
          have F1 := Lib.hid f1
          have FB := Lib.hid fb
          clear f1 f2 fb
          clear HMi HC12 HCk HDm HC hM HG
          go_wp2_with fail
          refine (HD1.out _).mono ?_
          rintro e w' ⟨rfl, rfl⟩
          go_wp2_with fail
          refine bodyPost_ret (v := .tuple #[.agg #[.int .i64 y, .int .i64 (m : Int), .int .i64 (n - (yS y + mC y (m - 1)) + 1), .int .i64 hh, .int .i64 nn, .int .i64 ss, .int .i64 wd], .int .i64 0]) ?_ rfl ⟨?_, FB.out⟩
          · exact results_cv (g := w.heap.size) (t := 23) rfl _ _ _ (0, 0) _ _ rfl F1.out Tryd.underlying23 rfl (by kernel_rfl) rfl
          · refine civ_ret ?_ HX.out.2
            rw [HX.out.1, HE.out, show n - yS y - mC y (m - 1) + 1 = n - (yS y + mC y (m - 1)) + 1 by omega]
    | succ j =>
      have hp := HP.out j
      have hpl := HPl.out j (by omega)
      have hpn := HPn.out j
      have hpl2 := HPl.out (j + 1) hj
      have hpd := HPd.out j
      rw [hp]
      rw [hpn] at hy3 hpl2
      generalize hKe : (2 : Int) ^ j = K at *
      have HKe := Lib.hid hKe
      clear hKe
      have hK : K ≤ 8192 := by omega
      by_cases h9 : y + K ≤ 9999
      · have HDk := Lib.hid (fun W => days_at (y + K) 1 (yS (y + K)) 0 W (by have := (HDy.out (y + K) 1 (by omega) (by decide)).1; rw [if_pos h9] at this; exact this.trans (by show yS (y + K) + 0 = _; omega)) (by have := (HDy.out (y + K) 1 (by omega) (by decide)).2; rw [if_pos h9] at this; exact this))
        have hz := HyS.out (y + K) ⟨by omega, h9⟩
        by_cases hle : yS (y + K) ≤ n
        · have hYk : y + K ≤ Y := Int.not_lt.1 fun hlt => by
            have := HLe.out (Y + 1) (y + K) (by omega)
            omega
          clear HDy HDd HLe HP HPl HPn HPd HyS hp hpn
          generalize yS (y + K) = Sk at *
          go_wp2_with fail
          refine (HDk.out _).mono ?_
          rintro e w' ⟨rfl, rfl⟩
          go_wp2_with fail
          exact ⟨⟨j, y + K, by omega, by rw [← hpd], by omega, by omega, by rw [HKe.out]; omega, rfl⟩, by simp only [RowKit.intOf]; omega⟩
        · have hYk : Y < y + K := Int.not_le.1 fun hlt => by
            have := HLe.out (y + K) Y hlt
            omega
          clear HDy HDd HLe HP HPl HPn HPd HyS hp hpn
          generalize yS (y + K) = Sk at *
          go_wp2_with fail
          refine (HDk.out _).mono ?_
          rintro e w' ⟨rfl, rfl⟩
          go_wp2_with fail
          exact ⟨⟨j, y, by omega, by rw [← hpd], by omega, by omega, by rw [HKe.out]; omega, rfl⟩, by simp only [RowKit.intOf]; omega⟩
      · have HDk := Lib.hid (fun W => days_at (y + K) 1 0 2 W (by have := (HDy.out (y + K) 1 (by omega) (by decide)).1; rw [if_neg h9] at this; exact this) (by have := (HDy.out (y + K) 1 (by omega) (by decide)).2; rw [if_neg h9] at this; exact this))
        clear HDy HDd HLe HP HPl HPn HPd HyS hp hpn
        go_wp2_with fail
        refine (HDk.out _).mono ?_
        rintro e w' ⟨rfl, rfl⟩
        go_wp2_with fail
        exact ⟨⟨j, y, by omega, by rw [← hpd], by omega, by omega, by rw [HKe.out]; omega, rfl⟩, by simp only [RowKit.intOf]; omega⟩
end Tk
end Go.Proofs.YtajmheblbnodjaaDoor
