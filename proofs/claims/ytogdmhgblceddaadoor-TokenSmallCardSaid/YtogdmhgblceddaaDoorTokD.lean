/- quotes. -/
import Derived.Test.YtogdmhgblceddaaDoorSam
namespace Go.Proofs.YtogdmhgblceddaaDoor
open Go.RowKit
namespace Tk

set_option maxHeartbeats 1000000 in
theorem quotes_any (s : ByteArray) (w : World) (hs : s.size ≤ 1099511627776) :
    Calls Tryd.prog 27 #[.string s] w fun r w' => r = .returned (.bool (hasQ (bs s))) ∧ w = w' := by
  have HL := Lib.hid (length_bs s)
  go_enter Tryd.func27, Tryd.ntmps27
  go_wp2_with fail
  go_loop [3] (fun v => ∃ i : Nat, i ≤ s.size ∧ v = .int .i64 i ∧ Hid (hasQ (bs s) = hasQ ((bs s).drop i))) (fun v => s.size - (RowKit.intOf v).toNat)
  case atStart => exact ⟨0, Nat.zero_le _, rfl, rfl⟩
  case round =>
    obtain ⟨i, hi, rfl, hd⟩ := hrel
    by_cases hlt : i < s.size
    · have hdr := drop_cons (bs s) i (by rw [HL.out]; exact hlt)
      rw [getD_bs s i hlt] at hdr
      have HD := Lib.hid hdr
      clear hdr
      go_wp2_with fail
      · have h34 : ((s[i].toNat : Int) == 34) = true := by assumption
        have e := u8_is s[i] 34 (by omega) h34
        have fin : hasQ (bs s) = true := by rw [hd.out, HD.out, e]; rfl
        go_ret
        exact ⟨by rw [fin]; rfl, rfl⟩
      · have h34 : ((s[i].toNat : Int) == 34) = false := by assumption
        have n34 := u8_not s[i] 34 h34 (by omega)
        refine ⟨⟨i + 1, by omega, by go_num, ?_⟩, by simp [RowKit.intOf]; omega⟩
        show _ = _
        rw [hd.out, HD.out]
        unfold hasQ
        have e34 : ((34 : UInt8) == s[i]) = false := beq_eq_false_iff_ne.2 (fun e => n34 e.symm)
        rw [List.contains_cons, e34, Bool.false_or]
    · have fin : hasQ (bs s) = false := by rw [hd.out, List.drop_eq_nil_of_le (by rw [HL.out]; omega)]; rfl
      have HF := Lib.hid fin
      clear fin
      go_wp2_with fail
      go_ret
      exact ⟨by rw [HF.out]; rfl, rfl⟩

end Tk
end Go.Proofs.YtogdmhgblceddaaDoor
