/- internal/strconv.setDigits: the digits of a number in a row of bytes, the noughts at the end not counted. -/
import Derived.Test.YtapnlopeipdjmaaGreatDoorFfC
namespace Go.Proofs.YtapnlopeipdjmaaGreatDoor
open Go.RowKit Go.Sort Go.Lib
namespace Ff

abbrev encB : UInt8 → Value := fun b => Value.int .u8 (b.toNat : Int)
/-- how many of the first k digits (of n) stay when noughts at the end are struck -/
def nz (d n : Nat) : Nat → Nat
  | 0 => 0
  | k + 1 => if dg d (n - 1 - k) = 48 then nz d n k else k + 1
theorem nz_le (d n : Nat) : ∀ k, nz d n k ≤ k
  | 0 => Nat.le_refl _
  | k + 1 => by unfold nz; split; exact Nat.le_succ_of_le (nz_le d n k); exact Nat.le_refl _

theorem nz_succ_pos (d n k : Nat) (h : dg d (n - 1 - k) = 48) : nz d n (k + 1) = nz d n k := by rw [nz, if_pos h]
theorem nz_succ_neg (d n k : Nat) (h : ¬ dg d (n - 1 - k) = 48) : nz d n (k + 1) = k + 1 := by rw [nz, if_neg h]
theorem u8_48 (x : UInt8) (h : x.toNat = 48) : x = 48 := UInt8.toNat_inj.1 h

def SetPost (b d n : Nat) (p : Int) (w : World) (r : Ending) (w' : World) : Prop :=
  r = .returned (.tuple #[.int .i64 (n + p), .int .i64 (nz d n n)]) ∧ ∃ (q : Nat) (dk : Array UInt8), w' = (putRow encB w b 0 dk).drewN q ∧ dk.size = n ∧ ∀ t, t < n → dk[t]! = dg d (n - 1 - t)

set_option maxHeartbeats 1000000 in
theorem setDigits_any (b d n : Nat) (p : Int) (Z : Array UInt8) (w : World) (hZ : Z.size = n) (hH : Holds encB w b 0 Z) (h1 : 1 ≤ n) (h2 : n ≤ 32) (hd : d < 10 ^ n) (hd64 : d < 18446744073709551616) (p0 : -1000 ≤ p) (p1 : p ≤ 1000) :
    Calls Tryz.prog 69 #[.slice (some ⟨b, 0, none⟩) 32 32, .int .u64 d, .int .i64 p, .int .i64 n] w (SetPost b d n p w) := by
  have c96 := Tryz.internal_strconv_formatBase10 b 0 32 d Z w hH (by rw [hZ]; exact hd) hd64 (by omega)
  rw [hZ] at c96
  have AC := Lib.hid c96
  have AH := Lib.hid hH
  have AZ := Lib.hid hZ
  clear c96 hH hZ hd
  go_enter Tryz.func69, Tryz.ntmps69
  go_wp2_with fail
  refine AC.out.mono ?_
  rintro e w' ⟨rfl, q, v', dk, hw, hI⟩
  have hs : dk.size = n := hI.size
  have hdk : ∀ t, t < n → dk[t]! = dg d (n - 1 - t) := fun t ht => hI.done t (Nat.zero_le _) ht
  have hHold : Holds encB w' b 0 dk := by rw [hw]; exact holds_putRow encB w b 0 Z dk AH.out (by rw [hs, AZ.out])
  have hcell : ∀ t, t < n → w'.cell? ⟨b, t, none⟩ = some (.int .u8 ((dg d (n - 1 - t)).toNat : Int)) := fun t ht => by
    have := (hHold t (by omega)).1
    rw [hdk t ht] at this
    simpa using this
  have HC := Lib.hid hcell
  have HW : Hid (∃ (q : Nat) (dk : Array UInt8), w' = (putRow encB w b 0 dk).drewN q ∧ dk.size = n ∧ ∀ t, t < n → dk[t]! = dg d (n - 1 - t)) := ⟨q, dk, hw, hs, hdk⟩
  clear hw hI hs hdk hHold hcell
  go_wp2_with fail
  go_loop [3] (fun v => ∃ k : Nat, k ≤ n ∧ v = .int .i64 k ∧ Hid (nz d n k = nz d n n)) (fun v => (RowKit.intOf v).toNat)
  case atStart => exact ⟨n, Nat.le_refl _, rfl, rfl⟩
  case round =>
    obtain ⟨k, hk, rfl, hz⟩ := hrel
    cases k with
    | zero =>
      go_wp2_with fail
      go_ret2
      exact ⟨by rw [← hz.out]; rfl, HW.out⟩
    | succ j =>
      have hc := HC.out j (by omega)
      by_cases h48 : dg d (n - 1 - j) = 48
      · have e48 : ((dg d (n - 1 - j)).toNat : Int) = 48 := by rw [h48]; rfl
        have hz' : Hid (nz d n j = nz d n n) := (nz_succ_pos d n j h48).symm.trans hz.out
        rw [e48] at hc
        clear e48 h48 hz
        go_wp2_with fail
        go_round
        case rel => exact ⟨j, by omega, by go_num, hz'⟩
        case measure => simp [RowKit.intOf]
      · have e48 : (((dg d (n - 1 - j)).toNat : Int) == 48) = false := by
          rw [beq_eq_false_iff_ne]; intro h; exact h48 (u8_48 _ (by omega))
        have hz' : Hid (j + 1 = nz d n n) := ((nz_succ_neg d n j h48).symm.trans hz.out)
        clear h48 hz
        generalize ((dg d (n - 1 - j)).toNat : Int) = D at *
        go_wp2_with fail
        go_ret2
        exact ⟨by rw [← hz'.out]; rfl, HW.out⟩
end Ff
end Go.Proofs.YtapnlopeipdjmaaGreatDoor
