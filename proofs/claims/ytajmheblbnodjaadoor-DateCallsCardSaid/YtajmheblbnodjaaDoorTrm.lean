/- token.Trim. -/
import Derived.Test.YtajmheblbnodjaaDoorCln
import Derived.Shelf.Strings.SlTrimAscii
namespace Go.Proofs.YtajmheblbnodjaaDoor
open Go.RowKit
namespace Tk

theorem asciiZero : (Tryd.prog.info? 98).map (fun i => (i.zero, i.size)) = some (some (.agg (Array.replicate 256 (.bool false))), 256) := by kernel_rfl

set_option maxHeartbeats 400000 in
theorem trim_any (s : ByteArray) (w : World) (h : s.size ≤ 1099511627776) :
    Calls Tryd.prog 58 #[.string s] w (StrPost (trimL (bs s)) w) := by
  have h1 := Any.strings_Trim_laid Tryd.lays160 asciiZero s ⟨#[32, 9]⟩ w (by omega) (by decide) (ascii_of_all (by decide))
  have H := Lib.hid (show Calls Tryd.prog 74 #[.string s, .string ⟨#[32, 9]⟩] w fun e w' => e = .returned (.string (mkS (trimL (bs s)))) ∧ Below w.heap.size w w' from h1)
  have hl := trim_sublist (bs s)
  rw [length_bs] at hl
  clear h1
  go_enter Tryd.func58, Tryd.ntmps58
  go_wp2_with fail
  refine H.out.mono ?_
  rintro e w' ⟨rfl, hb⟩
  have HB := Lib.hid hb
  clear hb
  go_wp2_with fail
  refine (clone_any (mkS (trimL (bs s))) _ (by rw [size_mkS]; omega)).mono ?_
  rintro e w2 ⟨rfl, hb⟩
  have HB2 := Lib.hid hb
  clear hb
  go_wp2_with fail
  go_ret
  exact ⟨rfl, HB.out.trans (HB2.out.mono HB.out.size)⟩
end Tk
end Go.Proofs.YtajmheblbnodjaaDoor
