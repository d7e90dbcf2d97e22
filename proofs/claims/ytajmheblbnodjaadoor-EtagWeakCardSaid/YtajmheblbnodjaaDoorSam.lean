/- token.lower, token.Same. -/
import Derived.Test.YtajmheblbnodjaaDoorCln
namespace Go.Proofs.YtajmheblbnodjaaDoor
open Go.RowKit
namespace Tk

set_option maxHeartbeats 400000 in
theorem lower_any (c : UInt8) (w : World) :
    Calls Tryd.prog 91 #[.int .u8 (c.toNat : Int)] w fun r w' => r = .returned (.int .u8 ((lowB c).toNat : Int)) ∧ w = w' := by
  have hlt := c.toNat_lt
  by_cases h0 : 65 ≤ c.toNat
  · by_cases h1 : c.toNat ≤ 90
    · have HU := Lib.hid (lowB_up c h0 h1)
      generalize c.toNat = n at *
      go_enter Tryd.func91, Tryd.ntmps91
      go_wp2_with fail
      go_ret
      exact ⟨by rw [HU.out]; rfl, rfl⟩
    · have HU := Lib.hid (lowB_same c (by omega))
      go_enter Tryd.func91, Tryd.ntmps91
      go_wp2_with fail
      go_ret
      exact ⟨by rw [HU.out]; rfl, rfl⟩
  · have HU := Lib.hid (lowB_same c (by omega))
    go_enter Tryd.func91, Tryd.ntmps91
    go_wp2_with fail
    go_ret
    exact ⟨by rw [HU.out]; rfl, rfl⟩

set_option maxRecDepth 100000 in
set_option maxHeartbeats 1000000 in
theorem tsame_any (s t : ByteArray) (w : World) (hs : s.size ≤ 1099511627776) (_ht : t.size ≤ 1099511627776) :
    Calls Tryd.prog 76 #[.string s, .string t] w fun r w' => r = .returned (.bool (decide (lowL (bs s) = lowL (bs t)))) ∧ ∃ n, w' = w.drewN n := by
  have HL := Lib.hid (length_bs s)
  have HM := Lib.hid (length_bs t)
  by_cases hne : s.size = t.size
  · have hb : ((s.size : Int) != (t.size : Int)) = false := by rw [hne]; simp
    have HN := Lib.hid hne
    clear hne
    go_enter Tryd.func76, Tryd.ntmps76
    go_wp2_with fail
    go_loopw [13, 5] (fun v _ wr => ∃ (j : Nat), j ≤ s.size ∧ v = .int .i64 j ∧ Hid (∃ n, wr = w.drewN n) ∧ Hid (decide (lowL (bs s) = lowL (bs t)) = decide (lowL ((bs s).drop j) = lowL ((bs t).drop j)))) (fun v _ _ => s.size - (RowKit.intOf v).toNat)
    case atStart => exact ⟨0, Nat.zero_le _, rfl, ⟨0, rfl⟩, rfl⟩
    case round =>
      obtain ⟨j, hj, rfl, HW, hd⟩ := hrel
      rename World => W
      by_cases hlt : j < s.size
      · have hlt2 : j < t.size := by have := HN.out; omega
        have hdr := drop_cons (bs s) j (by rw [HL.out]; exact hlt)
        rw [getD_bs s j hlt] at hdr
        have hdr2 := drop_cons (bs t) j (by rw [HM.out]; exact hlt2)
        rw [getD_bs t j hlt2] at hdr2
        have HD := Lib.hid hdr
        have HD2 := Lib.hid hdr2
        clear hdr hdr2
        have hI : (j : Int) < (s.size : Int) := by omega
        have hI2 : (j : Int) < (t.size : Int) := by omega
        go_wp2_with fail
        go_quiet ((go_at_call 91; exact Calls.quiet_of_same ((lower_any _ _).mono fun _ _ h => ⟨h.1, h.2.symm⟩)))
        obtain ⟨n, hW⟩ := HW.out
        have HW2 : Hid (∃ m, W.drewN nq = w.drewN m) := ⟨n + nq, by rw [hW, World.drewN_drewN]⟩
        clear hW
        go_wp2_with fail
        · have hx : (((lowB s[j]).toNat : Int) != ((lowB t[j]).toNat : Int)) = true := by assumption
          have hne : lowB s[j] ≠ lowB t[j] := fun e => by rw [e] at hx; simp at hx
          have fin : decide (lowL (bs s) = lowL (bs t)) = false := by
            rw [hd.out, HD.out, HD2.out]; simp [lowL, hne]
          go_ret
          exact ⟨by rw [fin]; rfl, HW2.out⟩
        · have hx : (((lowB s[j]).toNat : Int) != ((lowB t[j]).toNat : Int)) = false := by assumption
          have he : lowB s[j] = lowB t[j] := UInt8.toNat_inj.1 (by rw [bne_eq_false_iff_eq] at hx; omega)
          refine ⟨⟨j + 1, by omega, by go_num, HW2, ?_⟩, by simp [RowKit.intOf]; omega⟩
          show _ = _
          rw [hd.out, HD.out, HD2.out]; simp [lowL, he]
      · have fin : decide (lowL (bs s) = lowL (bs t)) = true := by
          have := HN.out
          rw [hd.out, List.drop_eq_nil_of_le (by rw [HL.out]; omega), List.drop_eq_nil_of_le (by rw [HM.out]; omega)]; simp
        have HF := Lib.hid fin
        clear fin
        go_wp2_with fail
        go_ret
        exact ⟨by rw [HF.out]; rfl, HW.out⟩
  · have hb : ((s.size : Int) != (t.size : Int)) = true := by simp; omega
    have hf : decide (lowL (bs s) = lowL (bs t)) = false := by
      simp only [decide_eq_false_iff_not]
      intro e
      have := congrArg List.length e
      rw [length_lowL, length_lowL, length_bs, length_bs] at this
      exact hne this
    have HF := Lib.hid hf
    clear hf hne
    go_enter Tryd.func76, Tryd.ntmps76
    go_wp2_with fail
    go_ret
    exact ⟨by rw [HF.out]; rfl, 0, rfl⟩
end Tk
end Go.Proofs.YtajmheblbnodjaaDoor
