/- internal/strconv.shortFloat[float64] at floats from 0.001 to 1. -/
import Derived.Test.YtapnlopeipdjmaaGreatDoorFfB
import Derived.IntWalk
namespace Go.Proofs.YtapnlopeipdjmaaGreatDoor
open Go.RowKit
namespace Ff

def sfP (m : Nat) (e : Int) : Int := if m = 9223372036854775808 then -(skewed (e + 11)) else -(log10Pow2 (e + 11))
def sfS (m : Nat) (e : Int) : Nat := (-(e + log2Pow10 (sfP m e) + 3)).toNat
def sfMin (m : Nat) : Nat := if m = 9223372036854775808 then m - 512 else m - 1024
def sfOdd (m : Nat) : Int := (m : Int) / 2048 % 2
def sfU (m x : Nat) (e : Int) : Int := uscale x (thi (sfP m e)) (sfS m e)
def sfLo (m : Nat) (e : Int) : Int := (sfU m (sfMin m) e + sfOdd m + 3) / 4
def sfHi (m : Nat) (e : Int) : Int := (sfU m (m + 1024) e + -sfOdd m) / 4
def sf (m : Nat) (e : Int) : Int × Int :=
  if sfLo m e ≤ sfHi m e / 10 * 10 then (sfHi m e / 10, -(sfP m e - 1))
  else if sfLo m e < sfHi m e then ((sfU m m e + 1 + sfU m m e / 4 % 2) / 4, -sfP m e)
  else (sfLo m e, -sfP m e)

theorem thi_lt (p : Int) : thi p < 18446744073709551616 := by unfold thi; split; decide; split; decide; split <;> decide

/-- What is asked of a significand and a place. -/
structure SfOk (m : Nat) (e : Int) : Prop where
  lo : 9223372036854775808 ≤ m
  hi : m ≤ 18446744073709549568
  elo : -100 ≤ e
  ehi : e ≤ -40
  p : sfP m e = 16 ∨ sfP m e = 17 ∨ sfP m e = 18 ∨ sfP m e = 19
  s0 : 0 ≤ -(e + log2Pow10 (sfP m e) + 3)
  s1 : -(e + log2Pow10 (sfP m e) + 3) < 64
  u0 : 4 ≤ sfU m (sfMin m) e ∧ sfU m (sfMin m) e ≤ 4611686018427387904
  u1 : 4 ≤ sfU m (m + 1024) e ∧ sfU m (m + 1024) e ≤ 4611686018427387904
  u2 : 4 ≤ sfU m m e ∧ sfU m m e ≤ 4611686018427387904

def sfR (A0 A1 A2 O P : Int) : Int × Int :=
  if (A0 + O + 3) / 4 ≤ (A1 + -O) / 4 / 10 * 10 then ((A1 + -O) / 4 / 10, -(P - 1))
  else if (A0 + O + 3) / 4 < (A1 + -O) / 4 then ((A2 + 1 + A2 / 4 % 2) / 4, -P)
  else ((A0 + O + 3) / 4, -P)
def SfPost (A0 A1 A2 O P : Int) (w : World) (r : Ending) (w' : World) : Prop :=
  r = .returned (.tuple #[.int .u64 (sfR A0 A1 A2 O P).1, .int .i64 (sfR A0 A1 A2 O P).2]) ∧ Below w.heap.size w w'

set_option maxHeartbeats 1000000 in
theorem sf_B (m X0 X1 S : Nat) (T : Nat) (e P O A0 A1 A2 : Int) (w : World) (hP : Pows w) (hm : ((m : Int) == 9223372036854775808) = false)
    (hlo : 9223372036854775808 ≤ m) (hhi : m ≤ 18446744073709549568) (e0 : -100 ≤ e) (e1 : e ≤ -40) (x0 : (m : Int) - 1024 = X0) (x1 : (m : Int) + 1024 = X1)
    (hO : bits BinOp.and IntKind.i64 ((m : Int) / 2048) 1 = O) (o0 : 0 ≤ O) (o1 : O ≤ 1) (hp : P = 16 ∨ P = 17 ∨ P = 18 ∨ P = 19)
    (c10 : ∀ w, Calls Tryz.prog 71 #[.int .i64 (e + 11)] w fun r w' => r = .returned (.int .i64 (-P)) ∧ w = w')
    (hS : -(e + log2Pow10 P + 3) = S) (hS1 : S < 64) (hT : thi P = T) (hT1 : T < 18446744073709551616)
    (a0 : uscale X0 T S = A0) (a1 : uscale X1 T S = A1) (a2 : uscale m T S = A2) (b0 : 4 ≤ A0 ∧ A0 ≤ 4611686018427387904) (b1 : 4 ≤ A1 ∧ A1 ≤ 4611686018427387904) (b2 : 4 ≤ A2 ∧ A2 ≤ 4611686018427387904) :
    Calls Tryz.prog 76 #[.int .u64 m, .int .i64 e] w (SfPost A0 A1 A2 O P w) := by
  have hb : 5 < w.heap.size := hP.big
  have AP := Lib.hid hP
  have AS := Lib.hid hS; have AT := Lib.hid hT; have AA0 := Lib.hid a0; have AA1 := Lib.hid a1; have AA2 := Lib.hid a2
  have C10 := Lib.hid c10
  have HP := Lib.hid hp
  have p0 : 16 ≤ P := by omega
  have p1 : P ≤ 19 := by omega
  have L0 : 50 ≤ log2Pow10 P := by unfold log2Pow10; omega
  have L1 : log2Pow10 P ≤ 70 := by unfold log2Pow10; omega
  clear hP hS hT a0 a1 a2 c10 hp
  go_enter Tryz.func76, Tryz.ntmps76
  go_wp2_with (first
    | (go_at_call 71; refine (C10.out _).mono ?_; rintro e w' ⟨rfl, rfl⟩))
  refine (log2Pow10_any _ _ (by omega) (by omega)).mono ?_; rintro e w' ⟨rfl, rfl⟩
  go_wp2_with fail
  refine (prescale_any _ _ _ _ AP.out HP.out (by omega) (by omega) (by omega) (by omega)).mono ?_; rintro e w' ⟨rfl, rfl⟩
  rw [AS.out, AT.out]
  go_wp2_with fail
  refine (uscale_any X0 T S _ _ (by omega) hT1 hS1 (by simp) (by simp) (by simp)).mono ?_; rintro e w' ⟨rfl, n1, rfl⟩
  rw [AA0.out]
  go_wp2_with fail
  refine (nudge_any _ _ _ (by omega) (by omega) (by omega) (by omega)).mono ?_; rintro e w' ⟨rfl, rfl⟩
  go_wp2_with fail
  refine (ceil_any _ _ (by omega) (by omega)).mono ?_; rintro e w' ⟨rfl, rfl⟩
  go_wp2_with fail
  refine (uscale_any X1 T S _ _ (by omega) hT1 hS1 (by simp) (by simp) (by simp)).mono ?_; rintro e w' ⟨rfl, n2, rfl⟩
  rw [AA1.out]
  go_wp2_with fail
  refine (nudge_any _ _ _ (by omega) (by omega) (by omega) (by omega)).mono ?_; rintro e w' ⟨rfl, rfl⟩
  go_wp2_with fail
  refine (floor_any _ _ (by omega) (by omega)).mono ?_; rintro e w' ⟨rfl, rfl⟩
  go_wp2_with fail
  · have h1 : (A0 + O + 3) / 4 ≤ (A1 + -O) / 4 / 10 * 10 := by assumption
    go_ret2
    exact ⟨by unfold sfR; rw [if_pos h1]; rfl, below_drewN ((Below.refl _ _).alloc (Nat.le_refl _) _) _⟩
  · have h1 : (A1 + -O) / 4 / 10 * 10 < (A0 + O + 3) / 4 := by omega
    have h2 : (A0 + O + 3) / 4 < (A1 + -O) / 4 := by assumption
    refine (uscale_any m T S _ _ (by omega) hT1 hS1 (by simp) (by simp) (by simp)).mono ?_; rintro e w' ⟨rfl, n3, rfl⟩
    rw [AA2.out]
    go_wp2_with fail
    refine (round_any _ _ (by omega) (by omega)).mono ?_; rintro e w' ⟨rfl, rfl⟩
    go_wp2_with fail
    go_ret2
    exact ⟨by unfold sfR; rw [if_neg (Int.not_le.2 h1), if_pos h2]; rfl, below_drewN ((Below.refl _ _).alloc (Nat.le_refl _) _) _⟩
  · have h1 : (A1 + -O) / 4 / 10 * 10 < (A0 + O + 3) / 4 := by omega
    have h2 : (A1 + -O) / 4 ≤ (A0 + O + 3) / 4 := by omega
    go_ret2
    exact ⟨by unfold sfR; rw [if_neg (Int.not_le.2 h1), if_neg (Int.not_lt.2 h2)]; rfl, below_drewN ((Below.refl _ _).alloc (Nat.le_refl _) _) _⟩

set_option maxHeartbeats 1000000 in
theorem sf_A (m X0 X1 S : Nat) (T : Nat) (e P O A0 A1 A2 : Int) (w : World) (hP : Pows w) (hm : ((m : Int) == 9223372036854775808) = true)
    (hlo : 9223372036854775808 ≤ m) (hhi : m ≤ 18446744073709549568) (e0 : -100 ≤ e) (e1 : e ≤ -40) (x0 : (m : Int) - 512 = X0) (x1 : (m : Int) + 1024 = X1)
    (hO : bits BinOp.and IntKind.i64 ((m : Int) / 2048) 1 = O) (o0 : 0 ≤ O) (o1 : O ≤ 1) (hp : P = 16 ∨ P = 17 ∨ P = 18 ∨ P = 19)
    (c10 : ∀ w, Calls Tryz.prog 84 #[.int .i64 (e + 11)] w fun r w' => r = .returned (.int .i64 (-P)) ∧ w = w')
    (hS : -(e + log2Pow10 P + 3) = S) (hS1 : S < 64) (hT : thi P = T) (hT1 : T < 18446744073709551616)
    (a0 : uscale X0 T S = A0) (a1 : uscale X1 T S = A1) (a2 : uscale m T S = A2) (b0 : 4 ≤ A0 ∧ A0 ≤ 4611686018427387904) (b1 : 4 ≤ A1 ∧ A1 ≤ 4611686018427387904) (b2 : 4 ≤ A2 ∧ A2 ≤ 4611686018427387904) :
    Calls Tryz.prog 76 #[.int .u64 m, .int .i64 e] w (SfPost A0 A1 A2 O P w) := by
  have hb : 5 < w.heap.size := hP.big
  have AP := Lib.hid hP
  have AS := Lib.hid hS; have AT := Lib.hid hT; have AA0 := Lib.hid a0; have AA1 := Lib.hid a1; have AA2 := Lib.hid a2
  have C10 := Lib.hid c10
  have HP := Lib.hid hp
  have p0 : 16 ≤ P := by omega
  have p1 : P ≤ 19 := by omega
  have L0 : 50 ≤ log2Pow10 P := by unfold log2Pow10; omega
  have L1 : log2Pow10 P ≤ 70 := by unfold log2Pow10; omega
  clear hP hS hT a0 a1 a2 c10 hp
  go_enter Tryz.func76, Tryz.ntmps76
  go_wp2_with (first
    | (go_at_call 84; refine (C10.out _).mono ?_; rintro e w' ⟨rfl, rfl⟩))
  refine (log2Pow10_any _ _ (by omega) (by omega)).mono ?_; rintro e w' ⟨rfl, rfl⟩
  go_wp2_with fail
  refine (prescale_any _ _ _ _ AP.out HP.out (by omega) (by omega) (by omega) (by omega)).mono ?_; rintro e w' ⟨rfl, rfl⟩
  rw [AS.out, AT.out]
  go_wp2_with fail
  refine (uscale_any X0 T S _ _ (by omega) hT1 hS1 (by simp) (by simp) (by simp)).mono ?_; rintro e w' ⟨rfl, n1, rfl⟩
  rw [AA0.out]
  go_wp2_with fail
  refine (nudge_any _ _ _ (by omega) (by omega) (by omega) (by omega)).mono ?_; rintro e w' ⟨rfl, rfl⟩
  go_wp2_with fail
  refine (ceil_any _ _ (by omega) (by omega)).mono ?_; rintro e w' ⟨rfl, rfl⟩
  go_wp2_with fail
  refine (uscale_any X1 T S _ _ (by omega) hT1 hS1 (by simp) (by simp) (by simp)).mono ?_; rintro e w' ⟨rfl, n2, rfl⟩
  rw [AA1.out]
  go_wp2_with fail
  refine (nudge_any _ _ _ (by omega) (by omega) (by omega) (by omega)).mono ?_; rintro e w' ⟨rfl, rfl⟩
  go_wp2_with fail
  refine (floor_any _ _ (by omega) (by omega)).mono ?_; rintro e w' ⟨rfl, rfl⟩
  go_wp2_with fail
  · have h1 : (A0 + O + 3) / 4 ≤ (A1 + -O) / 4 / 10 * 10 := by assumption
    go_ret2
    exact ⟨by unfold sfR; rw [if_pos h1]; rfl, below_drewN ((Below.refl _ _).alloc (Nat.le_refl _) _) _⟩
  · have h1 : (A1 + -O) / 4 / 10 * 10 < (A0 + O + 3) / 4 := by omega
    have h2 : (A0 + O + 3) / 4 < (A1 + -O) / 4 := by assumption
    refine (uscale_any m T S _ _ (by omega) hT1 hS1 (by simp) (by simp) (by simp)).mono ?_; rintro e w' ⟨rfl, n3, rfl⟩
    rw [AA2.out]
    go_wp2_with fail
    refine (round_any _ _ (by omega) (by omega)).mono ?_; rintro e w' ⟨rfl, rfl⟩
    go_wp2_with fail
    go_ret2
    exact ⟨by unfold sfR; rw [if_neg (Int.not_le.2 h1), if_pos h2]; rfl, below_drewN ((Below.refl _ _).alloc (Nat.le_refl _) _) _⟩
  · have h1 : (A1 + -O) / 4 / 10 * 10 < (A0 + O + 3) / 4 := by omega
    have h2 : (A1 + -O) / 4 ≤ (A0 + O + 3) / 4 := by omega
    go_ret2
    exact ⟨by unfold sfR; rw [if_neg (Int.not_le.2 h1), if_neg (Int.not_lt.2 h2)]; rfl, below_drewN ((Below.refl _ _).alloc (Nat.le_refl _) _) _⟩
end Ff
end Go.Proofs.YtapnlopeipdjmaaGreatDoor
