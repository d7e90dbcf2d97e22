/- token.Trim, closing, appendPart, Split. -/
import Derived.Test.YtogdmhgblceddaaDoorTok0
import Derived.Test.YtogdmhgblceddaaDoorFfE
import Derived.Shelf.Strings.SlTrimAscii
namespace Go.Proofs.YtogdmhgblceddaaDoor
open Go.RowKit
namespace Tk
open Ff (grown_refl grown_trans grown_below grown_alloc)

def StrPost (text : Bs) (w : World) (r : Ending) (w' : World) : Prop := r = .returned (.string (mkS text)) ∧ Below w.heap.size w w'

set_option maxHeartbeats 400000 in
theorem clone_any (s : ByteArray) (w : World) (h : s.size ≤ 1099511627776) :
    Calls Tryd.prog 71 #[.string s] w (StrPost (bs s) w) := by
  have H := Lib.hid (Tryd.stringslite_Clone s w (by omega))
  go_enter Tryd.func71, Tryd.ntmps71
  go_wp2_with fail
  refine H.out.mono ?_
  rintro e w' ⟨rfl, hb⟩
  have HB := Lib.hid hb
  clear hb
  go_wp2_with fail
  go_ret
  exact ⟨by rw [mkS_bs]; rfl, HB.out⟩

theorem asciiZero : (Tryd.prog.info? 108).map (fun i => (i.zero, i.size)) = some (some (.agg (Array.replicate 256 (.bool false))), 256) := by kernel_rfl

set_option maxHeartbeats 400000 in
theorem trim_any (s : ByteArray) (w : World) (h : s.size ≤ 1099511627776) :
    Calls Tryd.prog 25 #[.string s] w (StrPost (trimL (bs s)) w) := by
  have h1 := Any.strings_Trim_laid Tryd.lays160 asciiZero s ⟨#[32, 9]⟩ w (by omega) (by decide) (ascii_of_all (by decide))
  have H := Lib.hid (show Calls Tryd.prog 72 #[.string s, .string ⟨#[32, 9]⟩] w fun e w' => e = .returned (.string (mkS (trimL (bs s)))) ∧ Below w.heap.size w w' from h1)
  have hl := trim_sublist (bs s)
  rw [length_bs] at hl
  clear h1
  go_enter Tryd.func25, Tryd.ntmps25
  go_wp2_with fail
  refine H.out.mono ?_
  rintro e w' ⟨rfl, hb⟩
  have HB := Lib.hid hb
  clear hb
  go_wp2_with fail
  refine (clone_any (mkS (trimL (bs s))) _ (by rw [size_mkS]; omega)).mono ?_
  rintro e w2 ⟨rfl, hb⟩
  have HB2 := Lib.hid hb
  clear hb
  go_wp2_with fail
  go_ret
  exact ⟨rfl, HB.out.trans (HB2.out.mono HB.out.size)⟩

def closing (l : Bs) (i : Nat) : Nat := i + 1 + closeLen (l.drop (i + 1))

set_option maxHeartbeats 400000 in
theorem closing_any (s : ByteArray) (i : Nat) (w : World) (h : s.size ≤ 1099511627776) (hi : i < s.size) :
    Calls Tryd.prog 68 #[.string s, .int .i64 i] w fun r w' => r = .returned (.int .i64 (closing (bs s) i)) ∧ w = w' := by
  have hlen := length_bs s
  have HL := Lib.hid hlen
  clear hlen
  go_enter Tryd.func68, Tryd.ntmps68
  go_wp2_with fail
  go_step3
  go_wp2_with fail
  go_step3
  go_wp2_with fail
  go_loop [5] (fun v => ∃ k : Nat, k ≤ s.size + 1 ∧ v = .int .i64 k ∧ Hid (closing (bs s) i = k + closeLen ((bs s).drop k))) (fun v => (s.size + 2 - (RowKit.intOf v).toNat))
  case atStart => exact ⟨i + 1, by omega, by go_num, rfl⟩
  case round =>
    obtain ⟨k, hk, rfl, hR⟩ := hrel
    by_cases hlt : k < s.size
    · have hdr := drop_cons (bs s) k (by rw [HL.out]; exact hlt)
      rw [getD_bs s k hlt] at hdr
      have HD := Lib.hid hdr
      clear hdr
      go_wp2_with fail
      · have h92 : ((s[k].toNat : Int) == 92) = true := by assumption
        have e := u8_is s[k] 92 (by omega) h92
        refine ⟨⟨k + 2, by omega, by go_num, ?_⟩, by simp [RowKit.intOf]; omega⟩
        show _ = _
        rw [hR.out, closeLen_bs _ (by rw [HD.out, e]; rfl), List.drop_drop]
        omega
      · have h34 : ((s[k].toNat : Int) == 34) = true := by assumption
        have e := u8_is s[k] 34 (by omega) h34
        have fin : closing (bs s) i = k := by
          rw [hR.out, HD.out, e]
          exact (congrArg (k + ·) (closeLen_q _))
        go_ret
        exact ⟨by rw [fin]; rfl, rfl⟩
      · have h92 : ((s[k].toNat : Int) == 92) = false := by assumption
        have h34 : ((s[k].toNat : Int) == 34) = false := by assumption
        refine ⟨⟨k + 1, by omega, by go_num, ?_⟩, by simp [RowKit.intOf]; omega⟩
        show _ = _
        rw [hR.out, HD.out, closeLen_o _ _ (u8_not _ 92 h92 (by omega)) (u8_not _ 34 h34 (by omega))]
        omega
    · have hdr : (bs s).drop k = [] := List.drop_eq_nil_of_le (by rw [HL.out]; omega)
      have fin : closing (bs s) i = k := by rw [hR.out, hdr]; rfl
      have HF := Lib.hid fin
      clear fin hdr
      go_wp2_with fail
      go_ret
      exact ⟨by rw [HF.out]; rfl, rfl⟩
end Tk
end Go.Proofs.YtogdmhgblceddaaDoor
