/- halfwayhousekit.Times of any short text, Digits of small numbers. -/
import Derived.Test.YtomhpnkpmeindaaGreatDoorQRmP
namespace Go.Proofs.YtomhpnkpmeindaaGreatDoor
open Go.RowKit
namespace Tk

set_option maxRecDepth 100000 in
set_option maxHeartbeats 2000000 in
theorem times_rep (s : Bs) (N : Nat) (w : World) (hN : N ≤ 60) (hs : s.length ≤ 6) :
    Calls Tryz.prog 25 #[.string (mkS s), .int .i64 N] w fun r w' => r = .returned (.string (mkS (rep N s))) ∧ w = w' := by
  have e0 : Hid (mkS s = mkS (rep 1 s)) := Lib.hid (by simp [rep])
  rw [e0.out]
  clear e0
  go_enter Tryz.func25, Tryz.ntmps25
  go_wp2_with fail
  go_loop [0, 1, 5] (fun vs vn vo => ∃ (p n a : Nat), p ≤ 2 * N + 1 ∧ Hid (a + p * n = N) ∧ n ≤ N ∧ a ≤ N ∧ vs = .string (mkS (rep p s)) ∧ vn = .int .i64 n ∧ vo = .string (mkS (rep a s))) (fun _ vn _ => (RowKit.intOf vn).toNat)
  case atStart => exact ⟨1, N, 0, by omega, by show _ = _; omega, by omega, by omega, rfl, rfl, rfl⟩
  case round =>
    obtain ⟨p, n, a, hp, hsum, hn, ha, rfl, rfl, rfl⟩ := hrel
    have b1 : p * s.length ≤ 121 * 6 := Nat.mul_le_mul (by omega) hs
    have b2 : a * s.length ≤ 60 * 6 := Nat.mul_le_mul (by omega) hs
    have z1 : (mkS (rep p s)).size = p * s.length := by rw [size_mkS, rep_len]
    have z2 : (mkS (rep a s)).size = a * s.length := by rw [size_mkS, rep_len]
    have hz : (mkS (rep p s)).size + (mkS (rep p s)).size ≤ 9223372036854775807 := by rw [z1]; omega
    have hz2 : (mkS (rep a s)).size + (mkS (rep p s)).size ≤ 9223372036854775807 := by rw [z1, z2]; omega
    have a1 : mkS (rep p s) ++ mkS (rep p s) = mkS (rep (2 * p) s) := by rw [mkS_append, ← rep_add, Nat.two_mul]
    have a2 : mkS (rep a s) ++ mkS (rep p s) = mkS (rep (a + p) s) := by rw [mkS_append, ← rep_add]
    have A1 := Lib.hid a1
    have A2 := Lib.hid a2
    clear a1 a2 z1 z2 b1 b2
    by_cases h0 : n = 0
    · subst h0
      have e : a = N := by have := hsum.out; omega
      subst e
      go_wp2_with fail
      go_ret
      exact ⟨rfl, rfl⟩
    · have hpn : p * n ≤ N := by have := hsum.out; omega
      have hp2 : p ≤ N := Nat.le_trans (Nat.le_mul_of_pos_right p (by omega)) hpn
      by_cases hodd : n % 2 = 1
      · have t : ((n : Int) % 2 == 1) = true := by rw [beq_iff_eq]; omega
        have e : a + p + 2 * p * (n / 2) = N := by
          have h1 := hsum.out
          have h2 : n = 2 * (n / 2) + 1 := by omega
          generalize n / 2 = h at *
          subst h2
          rw [Nat.mul_add, Nat.mul_one] at h1
          rw [Nat.mul_comm 2 p, Nat.mul_assoc]
          omega
        have E := Lib.hid e
        have hap : a + p ≤ N := by omega
        clear e hodd hpn
        go_wp2_with fail
        go_round
        case rel => exact ⟨2 * p, n / 2, a + p, by omega, E, by omega, hap, congrArg Value.string A1.out, by go_num, congrArg Value.string A2.out⟩
        case measure => simp [RowKit.intOf]; omega
      · have t : ((n : Int) % 2 == 1) = false := by rw [beq_eq_false_iff_ne]; omega
        have e : a + 2 * p * (n / 2) = N := by
          have h1 := hsum.out
          have h2 : n = 2 * (n / 2) := by omega
          generalize n / 2 = h at *
          subst h2
          rw [Nat.mul_comm 2 p, Nat.mul_assoc]
          exact h1
        have E := Lib.hid e
        clear e hodd hpn
        go_wp2_with fail
        go_round
        case rel => exact ⟨2 * p, n / 2, a, by omega, E, by omega, ha, congrArg Value.string A1.out, by go_num, rfl⟩
        case measure => simp [RowKit.intOf]; omega

theorem dig_at : ∀ n, n < 10 → (⟨#[48, 49, 50, 51, 52, 53, 54, 55, 56, 57]⟩ : ByteArray).extract n (n + 1) = mkS (digN n) := by
  intro n hn
  rcases (show n = 0 ∨ n = 1 ∨ n = 2 ∨ n = 3 ∨ n = 4 ∨ n = 5 ∨ n = 6 ∨ n = 7 ∨ n = 8 ∨ n = 9 by omega) with rfl | rfl | rfl | rfl | rfl | rfl | rfl | rfl | rfl | rfl
  all_goals kernel_rfl
theorem digN_two (n : Nat) (h : 10 ≤ n) (h2 : n < 100) : digN n = digN (n / 10) ++ digN (n % 10) := by
  unfold digN
  rw [if_neg (by omega), if_pos (by omega), if_pos (by omega)]
  rfl
theorem digN_le (n : Nat) : (digN n).length ≤ 2 := by unfold digN; split <;> simp
set_option maxRecDepth 100000 in
set_option maxHeartbeats 2000000 in
theorem digit1_any (n : Nat) (w : World) (h : n < 10) :
    Calls Tryz.prog 26 #[.int .i64 n] w fun r w' => r = .returned (.string (mkS (digN n))) ∧ w = w' := by
  have hd := dig_at n h
  have HD := Lib.hid hd
  have i0 : (n : Int) < 10 := by omega
  have i1 : max 0 (n : Int) = (n : Int) := by omega
  have i2 : (0 : Int) ≤ (n : Int) := by omega
  have i3 : (n : Int) + 1 ≤ 10 := by omega
  clear hd
  go_enter Tryz.func26, Tryz.ntmps26
  go_wp2_with fail
  go_ret
  exact ⟨by rw [← HD.out]; rfl, rfl⟩
set_option maxRecDepth 100000 in
set_option maxHeartbeats 2000000 in
theorem digits_any (n : Nat) (w : World) (h : n < 100) :
    Calls Tryz.prog 26 #[.int .i64 n] w fun r w' => r = .returned (.string (mkS (digN n))) ∧ w = w' := by
  by_cases h10 : n < 10
  · exact digit1_any n w h10
  · have H1 := Lib.hid (fun W : World => digit1_any (n / 10) W (by omega))
    have H2 := Lib.hid (fun W : World => digit1_any (n % 10) W (by omega))
    have he := digN_two n (by omega) h
    have hz : (mkS (digN (n / 10))).size + (mkS (digN (n % 10))).size ≤ 9223372036854775807 := by
      rw [size_mkS, size_mkS]; have := digN_le (n / 10); have := digN_le (n % 10); omega
    have HE := Lib.hid (show mkS (digN (n / 10)) ++ mkS (digN (n % 10)) = mkS (digN n) by rw [mkS_append, he])
    have i0 : ¬ (n : Int) < 10 := by omega
    have e1 : (n : Int) / 10 = ((n / 10 : Nat) : Int) := by omega
    have e2 : (n : Int) % 10 = ((n % 10 : Nat) : Int) := by omega
    have i4 : (10 : Int) ≤ (n : Int) := by omega
    have i5 : (n : Int) < 100 := by omega
    clear he
    obtain ⟨a, ha⟩ : ∃ a, a = n / 10 := ⟨_, rfl⟩
    obtain ⟨b, hb⟩ : ∃ b, b = n % 10 := ⟨_, rfl⟩
    rw [← ha] at H1 HE hz e1
    rw [← hb] at H2 HE hz e2
    obtain ⟨da, hda⟩ : ∃ d, d = mkS (digN a) := ⟨_, rfl⟩
    obtain ⟨db, hdb⟩ : ∃ d, d = mkS (digN b) := ⟨_, rfl⟩
    rw [← hda] at H1 HE hz
    rw [← hdb] at H2 HE hz
    clear ha hb hda hdb h h10
    go_enter Tryz.func26, Tryz.ntmps26
    go_wp2_with fail
    refine (H1.out _).mono ?_
    rintro e w1 ⟨rfl, rfl⟩
    go_wp2_with fail
    refine (H2.out _).mono ?_
    rintro e w1 ⟨rfl, rfl⟩
    go_wp2_with fail
    go_ret
    exact ⟨by rw [← HE.out]; rfl, rfl⟩
end Tk
end Go.Proofs.YtomhpnkpmeindaaGreatDoor
