/- token.WeightText. -/
import Derived.Test.YtapnlopeipdjmaaGreatDoorWtA
namespace Go.Proofs.YtapnlopeipdjmaaGreatDoor
open Go.RowKit Go.Sort Go.Lib
namespace Ff
open Ieee Fl

theorem tst_split {q : Nat} (h : tst q = true) : (FloatKind.f64.format.order q 0 == some .gt || FloatKind.f64.format.order q 0 == some .eq) = true ∧ (FloatKind.f64.format.order q 4607182418800017408 == some .lt || FloatKind.f64.format.order q 4607182418800017408 == some .eq) = true := by
  unfold tst at h
  rw [Bool.and_eq_true] at h
  exact h
theorem tst_split' {q : Nat} (h : tst q = false) : (FloatKind.f64.format.order q 0 == some .gt || FloatKind.f64.format.order q 0 == some .eq) = false ∨ ((FloatKind.f64.format.order q 0 == some .gt || FloatKind.f64.format.order q 0 == some .eq) = true ∧ (FloatKind.f64.format.order q 4607182418800017408 == some .lt || FloatKind.f64.format.order q 4607182418800017408 == some .eq) = false) := by
  unfold tst at h
  rw [Bool.and_eq_false_iff] at h
  rcases h with h | h
  · exact .inl h
  · cases h0 : (double.order q 0 == some .gt || double.order q 0 == some .eq)
    · exact .inl h0
    · exact .inr ⟨h0, h⟩

set_option maxHeartbeats 1000000 in
theorem weightText_no (q : Nat) (w : World) (h : tst q = false) :
    Calls Tryz.prog 26 #[.float .f64 q] w (StrPost [] w) := by
  rcases tst_split' h with h0 | ⟨h0, h1⟩
  · clear h
    go_enter Tryz.func26, Tryz.ntmps26
    go_wp2_with fail
    go_ret
    exact ⟨rfl, Below.refl _ _⟩
  · clear h
    go_enter Tryz.func26, Tryz.ntmps26
    go_wp2_with fail
    go_ret
    exact ⟨rfl, Below.refl _ _⟩

set_option maxRecDepth 100000 in
theorem quo_somes : (List.range 1001).all (fun k => (Go.floatBits .quo .f64 (Go.floatOfInt .f64 (k : Int)) 4652007308841189376).isSome) = true := by decide +kernel
theorem quo_some (k : Nat) (hk : k ≤ 1000) : Go.floatBits .quo .f64 (Go.floatOfInt .f64 (k : Int)) 4652007308841189376 = some (F k) := by
  have := List.all_eq_true.1 quo_somes k (List.mem_range.2 (by omega))
  obtain ⟨x, hx⟩ := Option.isSome_iff_exists.1 this
  unfold F
  rw [hx]; rfl
/-- what a thousandth is reckoned to -/
theorem run_quo (k : Nat) (hk : k ≤ 1000) (w : World) : (binOp .quo 37 (.float .f64 (floatOfInt .f64 (k : Int))) (.float .f64 4652007308841189376)).run Tryz.prog w = .ok (.float .f64 (F k)) w :=
  run_float_arith w .quo 37 .f64 _ _ (F k) (quo_some k hk)

set_option maxHeartbeats 1000000 in
theorem weightText_yes (q r n : Nat) (w : World) (hT : Tabs w) (hq : isW q) (hr : double.mul q 4652007308841189376 = some r) (hn : floatToIntVal .f64 r .i64 = some (n : Int)) (hn2 : n ≤ 2000)
    (hst : ∀ j, min (n + 1) 1000 < j → j ≤ 1000 → qn q < F j) :
    Calls Tryz.prog 26 #[.float .f64 q] w (StrPost (ktext (gk (qn q) 1000)) w) := by
  obtain ⟨h0, h1⟩ := tst_split (tst_yes q hq)
  have hmul := run_float_arith (P := Tryz.prog) w .mul 37 .f64 q 4652007308841189376 r hr
  have hcv := run_convert_float_int (P := Tryz.prog) w 37 3 .f64 .i64 r n (by rw [Tryz.underlying37]; rfl) Tryz.underlying3 hn
  have HT := Lib.hid hT
  have HS := Lib.hid hst
  clear hT hst hr hn
  have hmin : min ((n : Int) + 1) 1000 = ((min (n + 1) 1000 : Nat) : Int) := by omega
  go_enter Tryz.func26, Tryz.ntmps26
  go_wp2_with fail
  go_loop [3] (fun v => ∃ k : Nat, k ≤ 1000 ∧ v = .int .i64 k ∧ Hid (gk (qn q) 1000 = gk (qn q) k)) (fun v => (RowKit.intOf v).toNat)
  case atStart =>
    refine ⟨min (n + 1) 1000, Nat.min_le_right _ _, rfl, ?_⟩
    show _ = _
    obtain ⟨d, hd⟩ : ∃ d, 1000 = min (n + 1) 1000 + d := ⟨1000 - min (n + 1) 1000, by omega⟩
    have := gk_from (qn q) (min (n + 1) 1000) d fun j a b => HS.out j a (by omega)
    rw [← hd] at this
    exact this
  case round =>
    obtain ⟨k, hk, rfl, hg⟩ := hrel
    have hquo := run_quo k hk w
    have hord : FloatKind.f64.format.order (F k) q = some (compare (F k) (qn q)) := order_q (F k) q (by have := F_le1 k hk; omega) hq
    by_cases hgt : qn q < F k
    · have hc : compare (F k) (qn q) = .gt := Nat.compare_eq_gt.2 hgt
      rw [hc] at hord
      cases k with
      | zero => rw [F_zero] at hgt; omega
      | succ j =>
        have hg' : Hid (gk (qn q) 1000 = gk (qn q) j) := by show _ = _; rw [hg.out, gk_neg _ _ (by omega)]
        rw [show (((j + 1 : Nat)) : Int) = (j : Int) + 1 from rfl] at hquo
        clear hgt hc hg
        go_wp2_with fail
        go_round
        case rel => exact ⟨j, by omega, by go_num, hg'⟩
        case measure => simp [RowKit.intOf]
    · have hc : (some (compare (F k) (qn q)) == some Ordering.gt) = false := by
        have : compare (F k) (qn q) ≠ .gt := fun e => hgt (Nat.compare_eq_gt.1 e)
        generalize compare (F k) (qn q) = o at *
        cases o <;> simp_all
      have hg' : Hid (gk (qn q) 1000 = k) := by
        show _ = _
        rw [hg.out]
        cases k with
        | zero => rfl
        | succ j => exact gk_pos _ _ (by omega)
      clear hgt hg
      generalize compare (F k) (qn q) = o at *
      have HF := Lib.hid (format_float (F k) (ktext k) w (fok_all k hk) HT.out)
      go_wp2_with fail
      refine HF.out.mono ?_
      rintro e w' ⟨rfl, hb⟩
      have HB := Lib.hid hb
      clear hb
      go_wp2_with fail
      go_ret
      exact ⟨by rw [hg'.out]; rfl, HB.out⟩

theorem weightText_any (q : Nat) (w : World) (hT : Tabs w) (hq : isW q) :
    Calls Tryz.prog 26 #[.float .f64 q] w (StrPost (ktext (gk (qn q) 1000)) w) := by
  rcases hq with rfl | h
  · have hz : qn 9223372036854775808 = 0 := rfl
    refine weightText_yes 9223372036854775808 9223372036854775808 0 w hT (.inl rfl) (by decide +kernel) (by decide +kernel) (by omega) fun j h1 h2 => ?_
    rw [hz]
    have := F_lt (j := 0) (k := j) (by omega) h2
    rw [F_zero] at this
    exact this
  · have hz : qn q = q := by unfold qn; rw [if_neg (by omega)]
    obtain ⟨r, n, hr, hn, h1, h2⟩ := mul1000 q h
    refine weightText_yes q r n w hT (.inr h) hr hn ?_ (by rw [hz]; exact start_ge q n h1)
    have hle : val q ≤ Fl.one := by rw [← val_one]; exact val_le h
    have l3 : val q * 1000 / Fl.one ≤ 1000 := by
      have := Nat.div_le_div_right (c := Fl.one) (Nat.mul_le_mul_right 1000 hle)
      rw [Nat.mul_div_cancel_left _ one_pos] at this
      exact this
    exact Nat.le_trans h2 (by omega)
end Ff
end Go.Proofs.YtapnlopeipdjmaaGreatDoor
