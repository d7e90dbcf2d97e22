/- The document's own Number. -/
import Derived.Test.YtapnlopeipdjmaaGreatDoorRefA
import Derived.Test.YtapnlopeipdjmaaGreatDoorSta0
namespace Go.Proofs.YtapnlopeipdjmaaGreatDoor
open Go.RowKit
namespace Tk

def RNum (l : Bs) (w : World) (e : Ending) (w' : World) : Prop := e = .returned (.tuple #[.int .i64 (numL l).1, .int .i64 (numL l).2]) ∧ w = w'

theorem valFrom_snoc (a : Nat) (l : Bs) (c : UInt8) : valFrom a (l ++ [c]) = valFrom a l * 10 + (c.toNat - 48) := by simp [valFrom]
theorem valFrom_take (l : Bs) (i : Nat) : valFrom 0 (l.take i) ≤ valFrom 0 l := by
  have e : l = l.take i ++ l.drop i := (List.take_append_drop i l).symm
  have := valFrom_ge (l.drop i) (valFrom 0 (l.take i))
  rw [← valFrom_append, ← e] at this
  exact this

set_option maxRecDepth 100000 in
set_option maxHeartbeats 4000000 in
theorem rnumber_any (s : ByteArray) (w : World) (hs : s.size ≤ 1099511627776) :
    Calls Tryz.prog 10 #[.string s] w (RNum (bs s) w) := by
  by_cases h0 : s.size = 0
  · have hb : bs s = [] := List.eq_nil_of_length_eq_zero (by rw [length_bs]; exact h0)
    have he : s.toList.isEmpty = true := by rw [toList_bs, hb]; rfl
    have HB := Lib.hid hb
    clear hb h0
    go_enter Tryz.func10, Tryz.ntmps10
    go_wp2_with fail
    go_ret2
    exact ⟨by rw [HB.out]; rfl, rfl⟩
  · have hb : bs s ≠ [] := fun e => h0 (by rw [← length_bs, e]; rfl)
    have he : s.toList.isEmpty = false := by rw [toList_bs]; simpa using hb
    have hnum : numL (bs s) = numGo 0 (bs s) := by unfold numL; rw [if_neg hb]
    have hbad := numGo_bad (bs s) 0
    have hval := numGo_val (bs s) 0
    rw [← hnum] at hbad hval
    have HBad := Lib.hid hbad
    have HVal := Lib.hid hval
    have HL := Lib.hid (length_bs s)
    clear hnum hb h0 hbad hval
    go_enter Tryz.func10, Tryz.ntmps10
    go_wp2_with fail
    go_loop [4] (fun vi => ∃ i : Nat, i ≤ s.size ∧ vi = .int .i64 i ∧ Hid (∀ x ∈ (bs s).take i, isDig x = true)) (fun vi => s.size - (RowKit.intOf vi).toNat)
    case atStart => exact ⟨0, Nat.zero_le _, rfl, fun x hx => by simp at hx⟩
    case round =>
      obtain ⟨i, hi, rfl, hI⟩ := hrel
      by_cases hlt : i < s.size
      · have HC := rDigit_any s[i] w
        have hmem : s[i] ∈ bs s := by
          have e := getD_bs s i hlt
          rw [← e, List.getD, List.getElem?_eq_getElem (by rw [length_bs]; exact hlt)]
          exact List.getElem_mem _
        cases hk : isDig s[i]
        · rw [hk] at HC
          have HF := Lib.hid (HBad.out ⟨_, hmem, hk⟩)
          have HC2 := Lib.hid HC
          clear HC hk hmem
          go_wp2_with fail
          refine HC2.out.mono ?_
          rintro e w' ⟨rfl, rfl⟩
          go_wp2_with fail
          go_ret2
          exact ⟨by rw [HF.out]; rfl, rfl⟩
        · rw [hk] at HC
          have hI2 : Hid (∀ x ∈ (bs s).take (i + 1), isDig x = true) := by
            intro x hx
            rw [take_snoc (bs s) i (by rw [length_bs]; exact hlt), getD_bs s i hlt, List.mem_append, List.mem_singleton] at hx
            rcases hx with hx | rfl
            · exact hI.out x hx
            · exact hk
          have HC2 := Lib.hid HC
          clear HC hk hmem
          go_wp2_with fail
          refine HC2.out.mono ?_
          rintro e w' ⟨rfl, rfl⟩
          go_wp2_with fail
          exact ⟨⟨i + 1, by omega, by go_num, hI2⟩, by simp [RowKit.intOf]; omega⟩
      · have hall : ∀ x ∈ bs s, isDig x = true := by
          have := hI.out
          rw [List.take_of_length_le (by rw [length_bs]; omega)] at this
          exact this
        have HA := Lib.hid hall
        have HV := Lib.hid (HVal.out hall)
        clear hall hI
        go_wp2_with fail
        go_loop [5, 6] (fun vn vi => ∃ (n i : Nat), n ≤ 9007199254740991 ∧ i ≤ s.size ∧ vn = .int .i64 n ∧ vi = .int .i64 i ∧ Hid (valFrom 0 ((bs s).take i) = n)) (fun _ vi => s.size - (RowKit.intOf vi).toNat)
        case atStart => exact ⟨0, 0, by omega, by omega, rfl, rfl, rfl⟩
        case round =>
          obtain ⟨n, i, hn, hi, rfl, rfl, hd⟩ := hrel
          by_cases hlt2 : i < s.size
          · have hdg := HA.out s[i] (by
              have e := getD_bs s i hlt2
              rw [← e, List.getD, List.getElem?_eq_getElem (by rw [length_bs]; exact hlt2)]
              exact List.getElem_mem _)
            obtain ⟨d0, d1⟩ := dig_bd _ hdg
            have hnx : valFrom 0 ((bs s).take (i + 1)) = n * 10 + (s[i].toNat - 48) := by
              rw [take_snoc (bs s) i (by rw [length_bs]; exact hlt2), getD_bs s i hlt2, valFrom_snoc, hd.out]
            have hle := valFrom_take (bs s) (i + 1)
            rw [hnx] at hle
            have HNX := Lib.hid hnx
            have HLe := Lib.hid hle
            have k0 : (48 : Int) ≤ (s[i].toNat : Int) := by omega
            have k1 : (s[i].toNat : Int) ≤ 57 := by omega
            clear hnx hle hdg d0 d1
            go_wp2_with fail
            · have hx : (9007199254740991 - ((s[i].toNat : Int) - 48)) / 10 < (n : Int) := by assumption
              go_ret2
              have hbig := HLe.out
              exact ⟨by rw [HV.out, if_pos (show maxN < _ by unfold maxN; omega)]; rfl, rfl⟩
            · have hx : (n : Int) ≤ (9007199254740991 - ((s[i].toNat : Int) - 48)) / 10 := by assumption
              refine ⟨⟨n * 10 + (s[i].toNat - 48), i + 1, by omega, by omega, ?_, by go_num, HNX⟩, by simp [RowKit.intOf]; omega⟩
              congr 1
              omega
          · have hfin : valFrom 0 (bs s) = n := by
              have := hd.out
              rw [List.take_of_length_le (by rw [length_bs]; omega)] at this
              exact this
            have HF := Lib.hid hfin
            clear hfin
            go_wp2_with fail
            go_ret2
            exact ⟨by rw [HV.out, HF.out, if_neg (show ¬ maxN < n by unfold maxN; omega)]; rfl, rfl⟩
end Tk
end Go.Proofs.YtapnlopeipdjmaaGreatDoor
