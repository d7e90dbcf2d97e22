/- AgeHalves: for a half, a quarter or all, a guess is that part rounded down, up to a day. -/
import Derived.Test.YtjhakmobbncbgaaAgB
namespace Go.Proofs.Ytjhakmobbncbgaa
open Go.RowKit
namespace Tk
open Fl

theorem pickA_any (n : Int) (w : World) :
    Calls Try.prog 14 #[.int .i64 n, .int .i64 20] w fun e w' => (∃ k : Nat, k < 20 ∧ e = .returned (.int .i64 k)) ∧ w = w' := by
  have b0 : -20 < n.tmod 20 := by have := Int.lt_tmod_of_pos n (show (0 : Int) < 20 by omega); exact this
  have b1 : n.tmod 20 < 20 := Int.tmod_lt_of_pos n (by omega)
  by_cases hneg : n.tmod 20 < 0
  · go_enter Try.func14, Try.ntmps14
    go_wp2_with fail
    go_ret
    exact ⟨⟨(n.tmod 20 + 20).toNat, by omega, by rw [show (((n.tmod 20 + 20).toNat : Nat) : Int) = n.tmod 20 + 20 by omega]; rfl⟩, rfl⟩
  · go_enter Try.func14, Try.ntmps14
    go_wp2_with fail
    go_ret
    exact ⟨⟨(n.tmod 20).toNat, by omega, by rw [show (((n.tmod 20).toNat : Nat) : Int) = n.tmod 20 by omega]; rfl⟩, rfl⟩

theorem div_hw : ∀ i, i < 20 → Ieee.double.div (hw i) 4611686018427387904 = some (hw (i + 1)) := by decide +kernel
theorem neg_hw : ∀ i, i < 21 → Op.negFloat .f64 (hw i) < 18446744073709551616 ∧ ¬ (0 < Op.negFloat .f64 (hw i) ∧ Op.negFloat .f64 (hw i) ≤ 9218868437227405312) := by decide +kernel
theorem run_half (i : Nat) (h : i < 20) (t : TypeId) (w : World) : (binOp .quo t (.float .f64 (hw i)) (.float .f64 4611686018427387904)).run Try.prog w = .ok (.float .f64 (hw (i + 1))) w :=
  run_float_arith w .quo t .f64 _ _ _ (div_hw i h)
theorem hw_zero : hw 0 = 4607182418800017408 := rfl
theorem hw_lt (k : Nat) : hw k < 18446744073709551616 := by unfold hw; omega

set_option maxHeartbeats 4000000 in
set_option maxRecDepth 100000 in
theorem halves_any (a n : Int) (w : World) (ha : -9223372036854775808 ≤ a ∧ a ≤ 9223372036854775807) :
    Calls Try.prog 6 #[.int .i64 a, .int .i64 n] w fun e w' => e = .returned (.bool true) ∧ Below w.heap.size w w' := by
  have HL := Lib.hid (lives_any w)
  by_cases h0 : a < 0
  · go_enter Try.func6, Try.ntmps6
    go_wp2_with fail
    refine HL.out.mono ?_
    rintro e w' ⟨rfl, rfl⟩
    go_wp2_with fail
    go_ret
    exact ⟨rfl, (Below.refl _ _).drew⟩
  by_cases h1 : 2147483648 < a
  · go_enter Try.func6, Try.ntmps6
    go_wp2_with fail
    refine HL.out.mono ?_
    rintro e w' ⟨rfl, rfl⟩
    go_wp2_with fail
    go_ret
    exact ⟨rfl, (Below.refl _ _).drew⟩
  have HP := Lib.hid (pickA_any n w.drew)
  have HD := Lib.hid (fun i h t W => run_half i h t W)
  have HZ := Lib.hid hw_zero
  have HG : Hid (∀ k : Nat, k < 20 → Calls Try.prog 11 #[.float .f64 (hw k), .int .i64 a] w.drew fun e w' => e = .returned (.int .i64 (gA (hw k) a)) ∧ w.drew = w') := fun k _ => guess_any (hw k) a w.drew (hw_lt k) ha
  have HN : Hid (∀ k : Nat, k < 20 → Calls Try.prog 11 #[.float .f64 (Op.negFloat .f64 (hw k)), .int .i64 a] w.drew fun e w' => e = .returned (.int .i64 0) ∧ w.drew = w') := fun k hk => by
    have h := neg_hw k (by omega)
    have g := guess_any _ a w.drew h.1 ha
    rw [gA_none _ a h.2] at g
    exact g
  have HH : Hid (∀ k : Nat, k < 20 → gA (hw k) a = min (a / 2 ^ k) 86400) := fun k hk => by
    rw [gA_half k (by omega) a (by omega) (by omega)]
    have e2 : ((a.toNat / 2 ^ k : Nat) : Int) = a / 2 ^ k := by
      have e3 : (a.toNat : Int) = a := Int.toNat_of_nonneg (by omega)
      rw [Int.natCast_ediv, e3, Int.natCast_pow]; rfl
    rw [e2]
  have HU : Hid (∀ P : Nat, Op.unary .neg (.float .f64 P) = pure (.float .f64 (Op.negFloat .f64 P))) := fun P => rfl
  go_enter Try.func6, Try.ntmps6
  go_wp2_with fail
  refine HL.out.mono ?_
  rintro e w' ⟨rfl, rfl⟩
  go_wp2_with fail
  refine HP.out.mono ?_
  rintro e w' ⟨⟨k, hk, rfl⟩, rfl⟩
  go_wp2_with fail
  go_loop [6, 7] (fun vp vi => ∃ i : Nat, i ≤ k ∧ vp = .float .f64 (hw i) ∧ vi = .int .i64 (i : Int)) (fun _ vi => k - (RowKit.intOf vi).toNat)
  case atStart => exact ⟨0, by omega, by rw [HZ.out], rfl⟩
  case round =>
    obtain ⟨i, hi, rfl, rfl⟩ := hrel
    by_cases hik : i < k
    · as_aux_lemma =>
      have hd := fun t W => HD.out i (by omega) t W
      generalize hw i = P at *
      generalize hQ : hw (i + 1) = Q at *
      have HQ := Lib.hid hQ
      clear hQ HG HN HH HP HL
      go_wp2_with fail
      exact ⟨⟨i + 1, by omega, by rw [HQ.out], by rw [Int.natCast_add]; rfl⟩, by simp only [RowKit.intOf]; omega⟩
    · have : i = k := by omega
      subst this
      as_aux_lemma =>
      have hg := Lib.hid (HG.out i hk)
      have hn2 := Lib.hid (HN.out i hk)
      have hh := Lib.hid (HH.out i hk)
      have hu := HU.out (hw i)
      clear HG HN HH HU HD
      generalize Op.negFloat .f64 (hw i) = Q at *
      generalize gA (hw i) a = G at *
      generalize hw i = P at *
      have hf := hh.out
      clear hh
      by_cases hd : 86400 < a / 2 ^ i
      · have hG : G = 86400 := by
          generalize a / 2 ^ i = D at *
          omega
        clear hf
        subst hG
        go_wp2_with fail
        refine hg.out.mono ?_
        rintro e w' ⟨rfl, rfl⟩
        go_wp2_with fail
        refine hn2.out.mono ?_
        rintro e w' ⟨rfl, rfl⟩
        go_wp2_with fail
        go_ret
        exact ⟨rfl, (Below.refl _ _).drew⟩
      · have hG : G = a / 2 ^ i := by
          generalize a / 2 ^ i = D at *
          omega
        clear hf
        subst hG
        go_wp2_with fail
        refine hg.out.mono ?_
        rintro e w' ⟨rfl, rfl⟩
        go_wp2_with fail
        refine hn2.out.mono ?_
        rintro e w' ⟨rfl, rfl⟩
        go_wp2_with fail
        go_ret
        exact ⟨rfl, (Below.refl _ _).drew⟩
end Tk
end Go.Proofs.Ytjhakmobbncbgaa
