/- Package age: Guess; the statement's own floats, its examples. -/
import Derived.Test.YtjhakmobbncbgaaAgA
import Derived.Laws.Externs
namespace Go.Proofs.Ytjhakmobbncbgaa
open Go.RowKit
namespace Tk
open Fl

theorem read_zero : FloatKind.f64.format.order 0 0 = some .eq := by decide +kernel

/-- math.Floor of a number that is not a NaN -/
theorem run_floor (x : Nat) (w : World) (h : ∀ s t, FloatKind.f64.decode x ≠ .nan s t) : (Extern.MathFloor.toIntegral "math.archFloor" .down #[.float .f64 x]).run Try.prog w = .ok (.float .f64 (FloatKind.f64.encode ((FloatKind.f64.decode x).integral .down))) w := by
  obtain ⟨N, hN⟩ : ∃ N : Bool → Nat → Sem Value, Extern.MathFloor.toIntegral "math.archFloor" .down #[.float .f64 x] = (match FloatKind.f64.decode x with | .nan s t => N s t | d => pure (.float .f64 (FloatKind.f64.encode (d.integral .down)))) := ⟨_, rfl⟩
  rw [hN]
  cases e : FloatKind.f64.decode x with
  | nan s t => exact absurd e (h s t)
  | number s m i => rfl
  | infinity s => rfl

set_option maxRecDepth 100000 in
theorem floor_any (n q : Nat) (hn : n ≤ 4294967296) (hq : q ≤ 4607182418800017408) (w : World) : Calls Try.prog 18 #[.float .f64 (rnd (n * val q))] w fun e w' => e = .returned (.float .f64 (rnd (gs n q * one))) ∧ w = w' := by
  have hr : rnd (n * val q) < 9218868437227405312 := rnd_lt _ (log2_prod n _ hn (by rw [← val_one]; exact val_le hq))
  have hd : ∀ s t, FloatKind.f64.decode (rnd (n * val q)) ≠ .nan s t := by
    intro s t e
    obtain ⟨m, c, r, -⟩ := read_pos _ hr
    have e2 : Ieee.double.read (rnd (n * val q)) = .nan s t := e
    rw [r] at e2
    cases e2
  have hF := Lib.hid (fun W => run_floor (rnd (n * val q)) W hd)
  have hV := Lib.hid (show FloatKind.f64.encode ((FloatKind.f64.decode (rnd (n * val q))).integral .down) = rnd (gs n q * one) from floor_gs n q hn hq)
  clear hr hd
  generalize rnd (n * val q) = x at *
  generalize rnd (gs n q * one) = y at *
  go_enter Try.func18, Try.ntmps18
  go_wp2_with fail
  rw [run_callFunc_extern Try.func21 (by kernel_rfl) (by kernel_rfl) (by kernel_rfl) (e := Extern.MathFloor.toIntegral "math.archFloor" .down) (by kernel_rfl)]
  rw [hF.out, hV.out]
  simp only [Result.andThen]
  rw [Oper.upon_value]
  go_wp2_with fail
  go_ret
  exact ⟨rfl, rfl⟩

/-- the lesser of a float above 0 and 1 -/
theorem run_min1 (p : Nat) (hp : 0 < p ∧ p ≤ 9218868437227405312) (ts : Array TypeId) (t : TypeId) (w : World) : (Builtin.min_ ts t #[.float .f64 p, .float .f64 4607182418800017408]).run Try.prog w = .ok (.float .f64 (min p 4607182418800017408)) w := by
  have ho := order_up p 4607182418800017408 hp.2 (by omega)
  have hm : Builtin.min_ ts t #[.float .f64 p, .float .f64 4607182418800017408] = Builtin.min2 (.float .f64 p) (.float .f64 4607182418800017408) >>= pure := by
    simp [Builtin.min_]
  have h2 : Builtin.min2 (.float .f64 p) (.float .f64 4607182418800017408) = pure (.float .f64 (min p 4607182418800017408)) := by
    unfold Builtin.min2
    dsimp only
    rw [show FloatKind.f64.format.order p 4607182418800017408 = some (compare p 4607182418800017408) from ho]
    rcases Nat.lt_trichotomy p 4607182418800017408 with h | h | h
    · rw [Nat.compare_eq_lt.2 h, Nat.min_eq_left (by omega)]
    · subst h
      rw [Nat.compare_eq_eq.2 rfl, Nat.min_self]
      simp
    · rw [Nat.compare_eq_gt.2 h, Nat.min_eq_right (by omega)]
  rw [hm, h2]; rfl

theorem ofInt_rnd (c : Int) (h0 : 0 ≤ c) (h1 : c ≤ 2147483648) : floatOfInt .f64 c = rnd (c.toNat * one) := by
  rw [← ofNat_rnd c.toNat (by omega)]
  unfold floatOfInt FloatKind.nearest FloatKind.encode
  rw [decide_eq_false (by omega), show c.natAbs = c.toNat by omega]
  rfl

theorem run_mulg (c : Int) (q : Nat) (h0 : 0 ≤ c) (h1 : c ≤ 2147483648) (hq : q ≤ 4607182418800017408) (t : TypeId) (w : World) : (binOp .mul t (.float .f64 (floatOfInt .f64 c)) (.float .f64 q)).run Try.prog w = .ok (.float .f64 (rnd (c.toNat * val q))) w := by
  rw [ofInt_rnd c h0 h1]
  exact run_float_arith w .mul t .f64 _ _ _ (mul_rnd c.toNat q (by omega) hq)

set_option maxHeartbeats 2000000 in
set_option maxRecDepth 100000 in
theorem guess_any (p : Nat) (s : Int) (w : World) (hp : p < 18446744073709551616) (hs : -9223372036854775808 ≤ s ∧ s ≤ 9223372036854775807) :
    Calls Try.prog 11 #[.float .f64 p, .int .i64 s] w fun e w' => e = .returned (.int .i64 (gA p s)) ∧ w = w' := by
  by_cases h : 0 < p ∧ p ≤ 9218868437227405312
  · have e1 : (FloatKind.f64.format.order p 0 == some Ordering.gt) = true := by
      rw [show FloatKind.f64.format.order p 0 = some .gt from (gt_zero p hp).2 h]; rfl
    have hc := cl_bd s 2147483648 (by omega)
    have hn := ns_le s
    have hq : min p 4607182418800017408 ≤ 4607182418800017408 := Nat.min_le_right _ _
    have hgs := gs_le (clA s 2147483648).toNat (min p 4607182418800017408) hn hq
    have HV := Lib.hid (show gA p s = min ((gs (clA s 2147483648).toNat (min p 4607182418800017408) : Nat) : Int) 86400 from if_pos h)
    have hmin := fun ts t W => run_min1 p h ts t W
    have HC := Lib.hid (clamp_any s 2147483648 w hs)
    have hmul := fun t W => run_mulg (clA s 2147483648) (min p 4607182418800017408) hc.1 hc.2 hq t W
    have HF := Lib.hid (fun W => floor_any (clA s 2147483648).toNat (min p 4607182418800017408) hn hq W)
    have hint := int_gs (gs (clA s 2147483648).toNat (min p 4607182418800017408)) (by omega)
    have hcv := fun W => run_convert_float_int (P := Try.prog) W 28 2 .f64 .i64 _ _ (by rw [Try.underlying28]; rfl) Try.underlying2 hint
    have hg : ((gs (clA s 2147483648).toNat (min p 4607182418800017408) : Nat) : Int) ≤ 2147483648 := by omega
    have HD := Lib.hid (clamp_any ((gs (clA s 2147483648).toNat (min p 4607182418800017408) : Nat) : Int) 86400 w (by omega))
    have HG := Lib.hid (show clA ((gs (clA s 2147483648).toNat (min p 4607182418800017408) : Nat) : Int) 86400 = min ((gs (clA s 2147483648).toNat (min p 4607182418800017408) : Nat) : Int) 86400 by unfold clA; omega)
    clear hn hq hgs hc
    generalize gs (clA s 2147483648).toNat (min p 4607182418800017408) = G at *
    generalize rnd ((clA s 2147483648).toNat * val (min p 4607182418800017408)) = R at *
    generalize min p 4607182418800017408 = q at *
    generalize clA s 2147483648 = c at *
    generalize rnd (G * one) = Y at *
    generalize gA p s = Z at *
    clear h hp
    go_enter Try.func11, Try.ntmps11
    go_wp2_with fail
    refine HC.out.mono ?_
    rintro e w' ⟨rfl, rfl⟩
    go_wp2_with fail
    refine (HF.out _).mono ?_
    rintro e w' ⟨rfl, rfl⟩
    go_wp2_with fail
    refine HD.out.mono ?_
    rintro e w' ⟨rfl, rfl⟩
    go_wp2_with fail
    go_ret
    exact ⟨retIa (by rw [HG.out, HV.out]), rfl⟩
  · have e1 : (FloatKind.f64.format.order p 0 == some Ordering.gt) = false := by
      refine beq_eq_false_iff_ne.2 fun e => h ((gt_zero p hp).1 e)
    have HV := Lib.hid (gA_none p s h)
    clear h hp
    go_enter Try.func11, Try.ntmps11
    go_wp2_with fail
    go_ret
    exact ⟨retIa HV.out.symm, rfl⟩

/-- a draw leaves what stands -/
theorem below_drawA (w : World) : Below w.heap.size w w.drew := ⟨rfl, rfl, rfl, Nat.le_refl _, fun _ _ => rfl⟩

/-- nought by nought is a NaN: none of the order's words hold of it -/
theorem run_nan (t : TypeId) (w : World) : ∃ x, (binOp .quo t (.float .f64 0) (.float .f64 0)).run Try.prog w = .ok (.float .f64 x) w.drew ∧ x < 18446744073709551616 ∧ ¬ (0 < x ∧ x ≤ 9218868437227405312) := by
  have hd : FloatKind.f64.format.div 0 0 = none := by decide +kernel
  refine ⟨Question.cut (.nanBits .f64 0 0) (w.tape w.drawn (.nanBits .f64 0 0)), ?_, ?_, ?_⟩
  · simp [binOp, Op.floatArith, hd, Question.forced]
  · simp only [Question.cut]; omega
  · simp only [Question.cut]; omega

theorem nan_any (w : World) : Calls Try.prog 15 #[] w fun e w' => (∃ x, e = .returned (.float .f64 x) ∧ x < 18446744073709551616 ∧ ¬ (0 < x ∧ x ≤ 9218868437227405312)) ∧ w' = w.drew := by
  obtain ⟨x, hx, h1, h2⟩ := run_nan 28 w
  have H1 := Lib.hid h1
  have H2 := Lib.hid h2
  clear h1 h2
  go_enter Try.func15, Try.ntmps15
  go_wp2_with fail
  go_ret
  exact ⟨⟨x, rfl, H1.out, H2.out⟩, rfl⟩

theorem guess_ex : gA 4591870180066957722 864000 = 86400 := by decide +kernel
theorem add_ex : addA 1 2 = 3 := by decide

set_option maxHeartbeats 400000 in
set_option maxRecDepth 100000 in
theorem lives_any (w : World) : Calls Try.prog 7 #[] w fun e w' => e = .returned (.bool true) ∧ w' = w.drew := by
  have HG := Lib.hid (guess_any 4591870180066957722 864000 w (by omega) (by omega))
  rw [guess_ex] at HG
  have HN := Lib.hid (nan_any w)
  have HK : Hid (∀ x, x < 18446744073709551616 → ¬ (0 < x ∧ x ≤ 9218868437227405312) → Calls Try.prog 11 #[.float .f64 x, .int .i64 5] w.drew fun e w' => e = .returned (.int .i64 0) ∧ w.drew = w') := fun x h1 h2 => by
    have h := guess_any x 5 w.drew h1 (by omega)
    rw [gA_none x 5 h2] at h
    exact h
  have HA := Lib.hid (add_any 1 2 w.drew (by omega) (by omega))
  rw [add_ex] at HA
  go_enter Try.func7, Try.ntmps7
  go_wp2_with fail
  refine HG.out.mono ?_
  rintro e w' ⟨rfl, rfl⟩
  go_wp2_with fail
  refine HN.out.mono ?_
  rintro e w' ⟨⟨x, rfl, h1, h2⟩, rfl⟩
  have H1 := Lib.hid h1
  have H2 := Lib.hid h2
  clear h1 h2
  go_wp2_with fail
  refine (HK.out _ H1.out H2.out).mono ?_
  rintro e w' ⟨rfl, rfl⟩
  go_wp2_with fail
  refine HA.out.mono ?_
  rintro e w' ⟨rfl, rfl⟩
  go_wp2_with fail
  go_ret
  exact ⟨rfl, rfl⟩
end Tk
end Go.Proofs.Ytjhakmobbncbgaa
