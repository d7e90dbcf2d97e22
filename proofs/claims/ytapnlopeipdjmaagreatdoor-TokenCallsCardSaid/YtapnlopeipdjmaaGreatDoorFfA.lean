/- Small functions of internal/strconv's uscale. -/
import Derived.Test.YtapnlopeipdjmaaGreatDoorRows
import Derived.WalkKit
import Derived.WalkSpells
import Derived.WalkLawsBesides
import Derived.Lib.Hide
import Derived.Test.YtapnlopeipdjmaaGreatDoorShelf
import Derived.BigQuiet
import Derived.Deep.QuietTactic
namespace Go.Proofs.YtapnlopeipdjmaaGreatDoor
open Go.RowKit

namespace Ff
/-- the same text as the walk's: skewed -/
def skewed (e : Int) : Int := (e * 631305 - 261663) / 2097152
def log2Pow10 (x : Int) : Int := (x * 108853) / 32768
def log10Pow2 (x : Int) : Int := (x * 78913) / 262144

set_option maxHeartbeats 400000 in
theorem skewed_any (e : Int) (w : World) (h0 : -2000 ≤ e) (h1 : e ≤ 2000) :
    Calls Tryz.prog 84 #[.int .i64 e] w fun r w' => r = .returned (.int .i64 (skewed e)) ∧ w = w' := by
  go_enter Tryz.func84, Tryz.ntmps84
  go_wp2
  go_ret
  exact ⟨rfl, rfl⟩

set_option maxHeartbeats 400000 in
theorem log2Pow10_any (e : Int) (w : World) (h0 : -2000 ≤ e) (h1 : e ≤ 2000) :
    Calls Tryz.prog 86 #[.int .i64 e] w fun r w' => r = .returned (.int .i64 (log2Pow10 e)) ∧ w = w' := by
  go_enter Tryz.func86, Tryz.ntmps86
  go_wp2
  go_ret
  exact ⟨rfl, rfl⟩

set_option maxHeartbeats 400000 in
theorem log10Pow2_any (e : Int) (w : World) (h0 : -2000 ≤ e) (h1 : e ≤ 2000) :
    Calls Tryz.prog 71 #[.int .i64 e] w fun r w' => r = .returned (.int .i64 (log10Pow2 e)) ∧ w = w' := by
  go_enter Tryz.func71, Tryz.ntmps71
  go_wp2
  go_ret
  exact ⟨rfl, rfl⟩

set_option maxHeartbeats 400000 in
theorem nudge_any (u d : Int) (w : World) (h0 : 4 ≤ u) (h1 : u ≤ 18446744073709551600) (h2 : -1 ≤ d) (h3 : d ≤ 1) :
    Calls Tryz.prog 88 #[.int .u64 u, .int .i64 d] w fun r w' => r = .returned (.int .u64 (u + d)) ∧ w = w' := by
  go_enter Tryz.func88, Tryz.ntmps88
  go_wp2
  go_ret
  exact ⟨by show Ending.returned (.int .u64 (IntKind.u64.wrap (u + IntKind.u64.wrap d))) = _; rw [IntKind.wrap_u64, IntKind.wrap_u64]; congr 2; omega, rfl⟩

set_option maxHeartbeats 400000 in
theorem ceil_any (u : Int) (w : World) (h0 : 0 ≤ u) (h1 : u ≤ 18446744073709551600) :
    Calls Tryz.prog 89 #[.int .u64 u] w fun r w' => r = .returned (.int .u64 ((u + 3) / 4)) ∧ w = w' := by
  go_enter Tryz.func89, Tryz.ntmps89
  go_wp2
  go_ret
  exact ⟨rfl, rfl⟩

set_option maxHeartbeats 400000 in
theorem floor_any (u : Int) (w : World) (h0 : 0 ≤ u) (h1 : u ≤ 18446744073709551600) :
    Calls Tryz.prog 90 #[.int .u64 u] w fun r w' => r = .returned (.int .u64 (u / 4)) ∧ w = w' := by
  go_enter Tryz.func90, Tryz.ntmps90
  go_wp2
  go_ret
  exact ⟨rfl, rfl⟩

set_option maxHeartbeats 400000 in
theorem round_any (u : Int) (w : World) (h0 : 0 ≤ u) (h1 : u ≤ 18446744073709551600) :
    Calls Tryz.prog 91 #[.int .u64 u] w fun r w' => r = .returned (.int .u64 ((u + 1 + u / 4 % 2) / 4)) ∧ w = w' := by
  go_enter Tryz.func91, Tryz.ntmps91
  go_wp2
  go_ret
  exact ⟨by show Ending.returned (.int .u64 (IntKind.u64.wrap (u + 1 + bits BinOp.and IntKind.u64 (u / 4) 1) / 4)) = _; rw [and_one_u64 _ (by omega) (by omega), IntKind.wrap_u64]; congr 2; omega, rfl⟩

set_option maxHeartbeats 400000 in
theorem bool2_any (b : Bool) (w : World) :
    Calls Tryz.prog 106 #[.bool b] w fun r w' => r = .returned (.int .u64 b.toInt) ∧ w = w' := by
  cases b <;> (
    go_enter Tryz.func106, Tryz.ntmps106
    go_wp2
    go_ret
    exact ⟨rfl, rfl⟩)

def sc (hi lo s : Value) : Array Value := #[hi, lo, s]
theorem and63 (s : Nat) (hs : s < 64) : bits BinOp.and IntKind.i64 (s : Int) 63 = s := by
  have h127 : (BitVec.ofInt 64 63).toNat = 2 ^ 6 - 1 := by decide
  have key : (BitVec.ofInt 64 (s : Int) &&& BitVec.ofInt 64 63).toNat = ((s : Int) % ((2 ^ 64 : Nat) : Int)).toNat % 2 ^ 6 := by
    rw [BitVec.toNat_and, BitVec.toNat_ofInt, h127, Nat.and_two_pow_sub_one_eq_mod]
  show IntKind.i64.wrap ((BitVec.ofInt 64 (s : Int) &&& BitVec.ofInt 64 63).toNat : Nat) = s
  rw [key, IntKind.wrap_i64]
  omega

/-- what uscale answers where the table's second word is nought; H, M: the product's two words -/
def uscaleHM (H M s : Nat) : Int :=
  if (IntKind.u64.wrap ((H : Int) / 2 ^ s * 2 ^ s) != (H : Int)) = true then bits .or .u64 ((H : Int) / 2 ^ s) 1
  else bits .or .u64 ((H : Int) / 2 ^ s) (decide ((1 : Int) < (M : Int))).toInt
def uscale (x hi s : Nat) : Int := uscaleHM (x * hi / 18446744073709551616) (x * hi % 18446744073709551616) s
set_option maxHeartbeats 1000000 in
theorem uscale_HM (x hi s b H M : Nat) (w : World) (hx : x < 18446744073709551616) (hhi : hi < 18446744073709551616) (hs : s < 64) (eH : x * hi / 18446744073709551616 = H) (eM : x * hi % 18446744073709551616 = M)
    (c0 : w.cell? ⟨b, 0, none⟩ = some (.int .u64 hi)) (c1 : w.cell? ⟨b, 1, none⟩ = some (.int .u64 0)) (c2 : w.cell? ⟨b, 2, none⟩ = some (.int .i64 s)) :
    Calls Tryz.prog 87 #[.int .u64 x, .pointer (some ⟨b, 0, none⟩)] w fun r w' => r = .returned (.int .u64 (uscaleHM H M s)) ∧ ∃ n, w' = w.drewN n := by
  have h63 := and63 s hs
  have hH : H < 18446744073709551616 := by
    rw [← eH, Nat.div_lt_iff_lt_mul (by omega)]; exact Nat.mul_lt_mul'' hx hhi
  have hM : M < 18446744073709551616 := by omega
  have e110 : ∀ (y : Nat) (W : World), y < 18446744073709551616 → Calls Tryz.prog 105 #[.int .u64 x, .int .u64 y] W fun e w' => e = .returned (.tuple #[.int .u64 ((x * y / 18446744073709551616 : Nat) : Int), .int .u64 ((x * y % 18446744073709551616 : Nat) : Int)]) ∧ W = w' := fun y W hy => (Tryz.bits_Mul64 x y hx hy W).mono fun _ _ h => ⟨h.1, h.2.symm⟩
  have m0 := e110 hi w hhi
  rw [eH, eM] at m0
  have m1 : Calls Tryz.prog 105 #[.int .u64 x, .int .u64 0] w fun e w' => e = .returned (.tuple #[.int .u64 0, .int .u64 0]) ∧ w = w' := by have := e110 0 w (by omega); simpa using this
  have M0 := Lib.hid m0
  have M1 := Lib.hid m1
  clear m0 m1 e110 eH eM
  by_cases h1 : (IntKind.u64.wrap ((H : Int) / 2 ^ s * 2 ^ s) != (H : Int)) = true
  · have F : Hid (uscaleHM H M s = bits .or .u64 ((H : Int) / 2 ^ s) 1) := by show _ = _; unfold uscaleHM; rw [if_pos h1]
    go_enter Tryz.func87, Tryz.ntmps87
    go_wp2_with fail
    refine M0.out.mono ?_; rintro e w' ⟨rfl, rfl⟩
    go_wp2_with fail
    go_ret
    exact ⟨by rw [F.out]; rfl, 0, rfl⟩
  · have F : Hid (uscaleHM H M s = bits .or .u64 ((H : Int) / 2 ^ s) (decide ((1 : Int) < (M : Int))).toInt) := by show _ = _; unfold uscaleHM; rw [if_neg h1]
    have h2 : (IntKind.u64.wrap ((H : Int) / 2 ^ s * 2 ^ s) != (H : Int)) = false := by simpa using h1
    clear h1
    have f0 : decide ((M : Int) < 0) = false := by simp
    go_enter Tryz.func87, Tryz.ntmps87
    go_wp2_with fail
    refine M0.out.mono ?_; rintro e w' ⟨rfl, rfl⟩
    go_wp2_with fail
    refine M1.out.mono ?_; rintro e w' ⟨rfl, rfl⟩
    go_wp2_with ((go_at_call 106; refine (bool2_any _ _).mono ?_; rintro e w' ⟨rfl, rfl⟩))
    go_quiet ((go_at_call 106; exact Calls.quiet_of_same ((bool2_any _ _).mono fun _ _ h => ⟨h.1, h.2.symm⟩)))
    go_wp2_with fail
    go_ret
    refine ⟨?_, _, rfl⟩
    rw [F.out]
    rfl
theorem uscale_any (x hi s b : Nat) (w : World) (hx : x < 18446744073709551616) (hhi : hi < 18446744073709551616) (hs : s < 64)
    (c0 : w.cell? ⟨b, 0, none⟩ = some (.int .u64 hi)) (c1 : w.cell? ⟨b, 1, none⟩ = some (.int .u64 0)) (c2 : w.cell? ⟨b, 2, none⟩ = some (.int .i64 s)) :
    Calls Tryz.prog 87 #[.int .u64 x, .pointer (some ⟨b, 0, none⟩)] w fun r w' => r = .returned (.int .u64 (uscale x hi s)) ∧ ∃ n, w' = w.drewN n :=
  uscale_HM x hi s b _ _ w hx hhi hs rfl rfl c0 c1 c2
end Ff
end Go.Proofs.YtapnlopeipdjmaaGreatDoor
