/- halfwayhousekit.Pick, Times. -/
import Derived.Test.YtomhpnkpmeindaaGreatDoorQA
namespace Go.Proofs.YtomhpnkpmeindaaGreatDoor
open Go.RowKit
namespace Tk

def PickPost (m : Nat) (w : World) (r : Ending) (w' : World) : Prop := ∃ k : Nat, k < m ∧ r = .returned (.int .i64 k) ∧ w = w'

set_option maxHeartbeats 1000000 in
theorem pick_any (n : Int) (m : Nat) (w : World) (hm : 1 ≤ m) (hm2 : m ≤ 1099511627776) :
    Calls Tryz.prog 13 #[.int .i64 n, .int .i64 m] w (PickPost m w) := by
  have b0 : -(m : Int) < n.tmod m := by have := Int.lt_tmod_of_pos n (by omega : (0 : Int) < m); exact this
  have b1 : n.tmod m < m := Int.tmod_lt_of_pos n (by omega)
  by_cases hneg : n.tmod m < 0
  · go_enter Tryz.func13, Tryz.ntmps13
    go_wp2_with fail
    go_ret
    exact ⟨(n.tmod m + m).toNat, by omega, by rw [show (((n.tmod m + m).toNat : Nat) : Int) = n.tmod m + m by omega]; rfl, rfl⟩
  · go_enter Tryz.func13, Tryz.ntmps13
    go_wp2_with fail
    go_ret
    exact ⟨(n.tmod m).toNat, by omega, by rw [show (((n.tmod m).toNat : Nat) : Int) = n.tmod m by omega]; rfl, rfl⟩

set_option maxRecDepth 100000 in
set_option maxHeartbeats 1000000 in
/-- noughts, so many -/
theorem times_any (N : Nat) (w : World) (hN : N ≤ 1000) :
    Calls Tryz.prog 25 #[.string ⟨#[48]⟩, .int .i64 N] w fun r w' => r = .returned (.string (mkS (List.replicate N 48))) ∧ w = w' := by
  go_enter Tryz.func25, Tryz.ntmps25
  go_wp2_with fail
  go_loop [0, 1, 5] (fun vs vn vo => ∃ (p n a : Nat), p ≤ 2 * N + 1 ∧ Hid (a + p * n = N) ∧ n ≤ N ∧ a ≤ N ∧ vs = .string (mkS (List.replicate p 48)) ∧ vn = .int .i64 n ∧ vo = .string (mkS (List.replicate a 48))) (fun _ vn _ => (RowKit.intOf vn).toNat)
  case atStart => exact ⟨1, N, 0, by omega, by show _ = _; omega, by omega, by omega, rfl, rfl, rfl⟩
  case round =>
    obtain ⟨p, n, a, hp, hsum, hn, ha, rfl, rfl, rfl⟩ := hrel
    have z1 : (mkS (List.replicate p 48)).size = p := by rw [size_mkS, List.length_replicate]
    have z2 : (mkS (List.replicate a 48)).size = a := by rw [size_mkS, List.length_replicate]
    have hz : (mkS (List.replicate p 48)).size + (mkS (List.replicate p 48)).size ≤ 9223372036854775807 := by rw [z1]; omega
    have hz2 : (mkS (List.replicate a 48)).size + (mkS (List.replicate p 48)).size ≤ 9223372036854775807 := by rw [z1, z2]; omega
    have a1 : mkS (List.replicate p 48) ++ mkS (List.replicate p 48) = mkS (List.replicate (2 * p) 48) := by rw [mkS_append, List.replicate_append_replicate, Nat.two_mul]
    have a2 : mkS (List.replicate a 48) ++ mkS (List.replicate p 48) = mkS (List.replicate (a + p) 48) := by rw [mkS_append, List.replicate_append_replicate]
    have A1 := Lib.hid a1
    have A2 := Lib.hid a2
    clear a1 a2 z1 z2
    by_cases h0 : n = 0
    · subst h0
      have e : a = N := by have := hsum.out; omega
      subst e
      go_wp2_with fail
      go_ret
      exact ⟨rfl, rfl⟩
    · have hpn : p * n ≤ N := by have := hsum.out; omega
      have hp2 : p ≤ N := Nat.le_trans (Nat.le_mul_of_pos_right p (by omega)) hpn
      by_cases hodd : n % 2 = 1
      · have t : ((n : Int) % 2 == 1) = true := by rw [beq_iff_eq]; omega
        have e : a + p + 2 * p * (n / 2) = N := by
          have h1 := hsum.out
          have h2 : n = 2 * (n / 2) + 1 := by omega
          generalize n / 2 = h at *
          subst h2
          rw [Nat.mul_add, Nat.mul_one] at h1
          rw [Nat.mul_comm 2 p, Nat.mul_assoc]
          omega
        have E := Lib.hid e
        have hap : a + p ≤ N := by omega
        clear e hodd hpn
        go_wp2_with fail
        go_round
        case rel => exact ⟨2 * p, n / 2, a + p, by omega, E, by omega, hap, congrArg Value.string A1.out, by go_num, congrArg Value.string A2.out⟩
        case measure => simp [RowKit.intOf]; omega
      · have t : ((n : Int) % 2 == 1) = false := by rw [beq_eq_false_iff_ne]; omega
        have e : a + 2 * p * (n / 2) = N := by
          have h1 := hsum.out
          have h2 : n = 2 * (n / 2) := by omega
          generalize n / 2 = h at *
          subst h2
          rw [Nat.mul_comm 2 p, Nat.mul_assoc]
          exact h1
        have E := Lib.hid e
        clear e hodd hpn
        go_wp2_with fail
        go_round
        case rel => exact ⟨2 * p, n / 2, a, by omega, E, by omega, ha, congrArg Value.string A1.out, by go_num, rfl⟩
        case measure => simp [RowKit.intOf]; omega
end Tk
end Go.Proofs.YtomhpnkpmeindaaGreatDoor

