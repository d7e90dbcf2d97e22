/- kit.Times of blank and tab. -/
import Derived.Test.YthooghgiokgdhaaDoorQA
import Derived.Test.YthooghgiokgdhaaDoorQVaW
namespace Go.Proofs.YthooghgiokgdhaaDoor
open Go.RowKit
namespace Tk

theorem bt_len : ∀ k, (btS k).length = 2 * k
  | 0 => rfl
  | k + 1 => by rw [btS, List.length_append, bt_len k]; simp only [List.length_cons, List.length_nil]; omega
theorem bt_add (a : Nat) : ∀ b, btS a ++ btS b = btS (a + b)
  | 0 => by simp [btS]
  | b + 1 => by
    have ih := bt_add a b
    show btS a ++ (btS b ++ [32, 9]) = btS (a + b) ++ [32, 9]
    rw [← List.append_assoc, ih]

set_option maxRecDepth 100000 in
set_option maxHeartbeats 1000000 in
/-- blanks and tabs, so many -/
theorem timesB_any (N : Nat) (w : World) (hN : N ≤ 1000) :
    Calls Tryd.prog 22 #[.string ⟨#[32, 9]⟩, .int .i64 N] w fun r w' => r = .returned (.string (mkS (btS N))) ∧ w = w' := by
  go_enter Tryd.func22, Tryd.ntmps22
  go_wp2_with fail
  go_loop [0, 1, 5] (fun vs vn vo => ∃ (p n a : Nat), p ≤ 2 * N + 1 ∧ Hid (a + p * n = N) ∧ n ≤ N ∧ a ≤ N ∧ vs = .string (mkS (btS p)) ∧ vn = .int .i64 n ∧ vo = .string (mkS (btS a))) (fun _ vn _ => (RowKit.intOf vn).toNat)
  case atStart => exact ⟨1, N, 0, by omega, by show _ = _; omega, by omega, by omega, rfl, rfl, rfl⟩
  case round =>
    obtain ⟨p, n, a, hp, hsum, hn, ha, rfl, rfl, rfl⟩ := hrel
    have z1 : (mkS (btS p)).size = 2 * p := by rw [size_mkS, bt_len]
    have z2 : (mkS (btS a)).size = 2 * a := by rw [size_mkS, bt_len]
    have hz : (mkS (btS p)).size + (mkS (btS p)).size ≤ 9223372036854775807 := by rw [z1]; omega
    have hz2 : (mkS (btS a)).size + (mkS (btS p)).size ≤ 9223372036854775807 := by rw [z1, z2]; omega
    have a1 : mkS (btS p) ++ mkS (btS p) = mkS (btS (2 * p)) := by rw [mkS_append, bt_add, Nat.two_mul]
    have a2 : mkS (btS a) ++ mkS (btS p) = mkS (btS (a + p)) := by rw [mkS_append, bt_add]
    have A1 := Lib.hid a1
    have A2 := Lib.hid a2
    clear a1 a2 z1 z2
    by_cases h0 : n = 0
    · subst h0
      have e : a = N := by have := hsum.out; omega
      subst e
      go_wp2_with fail
      go_ret
      exact ⟨rfl, rfl⟩
    · have hpn : p * n ≤ N := by have := hsum.out; omega
      have hp2 : p ≤ N := Nat.le_trans (Nat.le_mul_of_pos_right p (by omega)) hpn
      by_cases hodd : n % 2 = 1
      · have t : ((n : Int) % 2 == 1) = true := by rw [beq_iff_eq]; omega
        have e : a + p + 2 * p * (n / 2) = N := by
          have h1 := hsum.out
          have h2 : n = 2 * (n / 2) + 1 := by omega
          generalize n / 2 = h at *
          subst h2
          rw [Nat.mul_add, Nat.mul_one] at h1
          rw [Nat.mul_comm 2 p, Nat.mul_assoc]
          omega
        have E := Lib.hid e
        have hap : a + p ≤ N := by omega
        clear e hodd hpn
        go_wp2_with fail
        go_round
        case rel => exact ⟨2 * p, n / 2, a + p, by omega, E, by omega, hap, congrArg Value.string A1.out, by go_num, congrArg Value.string A2.out⟩
        case measure => simp [RowKit.intOf]; omega
      · have t : ((n : Int) % 2 == 1) = false := by rw [beq_eq_false_iff_ne]; omega
        have e : a + 2 * p * (n / 2) = N := by
          have h1 := hsum.out
          have h2 : n = 2 * (n / 2) := by omega
          generalize n / 2 = h at *
          subst h2
          rw [Nat.mul_comm 2 p, Nat.mul_assoc]
          exact h1
        have E := Lib.hid e
        clear e hodd hpn
        go_wp2_with fail
        go_round
        case rel => exact ⟨2 * p, n / 2, a, by omega, E, by omega, ha, congrArg Value.string A1.out, by go_num, rfl⟩
        case measure => simp [RowKit.intOf]; omega
end Tk
end Go.Proofs.YthooghgiokgdhaaDoor
