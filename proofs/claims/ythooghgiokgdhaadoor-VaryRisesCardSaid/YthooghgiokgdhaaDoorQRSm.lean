/- The document's own sameness of two texts. -/
import Derived.Test.YthooghgiokgdhaaDoorQRefL
namespace Go.Proofs.YthooghgiokgdhaaDoor
open Go.RowKit
namespace Tk

theorem beq_mkR (a b : Bs) : ((mkS a).toList == (mkS b).toList) = decide (a = b) := by
  rw [toList_bs, toList_bs, bs_mkS, bs_mkS]
  by_cases h : a = b <;> simp [h]

set_option maxHeartbeats 1000000 in
theorem rsm_any (a b : ByteArray) (w : World) (ha : a.size ≤ 1099511627776) (hb : b.size ≤ 1099511627776) :
    Calls Tryd.prog 53 #[.string a, .string b] w fun e w' => e = .returned (.bool (decide (lowL (bs a) = lowL (bs b)))) ∧ Below w.heap.size w w' := by
  have HA := Lib.hid (fun W => show Calls Tryd.prog 19 #[.string a] W (fun e w' => e = .returned (.string (mkS (lowL (bs a)))) ∧ Below W.heap.size W w') from refLower_any a W ha)
  have HB := Lib.hid (fun W => show Calls Tryd.prog 19 #[.string b] W (fun e w' => e = .returned (.string (mkS (lowL (bs b)))) ∧ Below W.heap.size W w') from refLower_any b W hb)
  have HE := Lib.hid (beq_mkR (lowL (bs a)) (lowL (bs b)))
  generalize decide (lowL (bs a) = lowL (bs b)) = d at *
  generalize mkS (lowL (bs a)) = x at *
  generalize mkS (lowL (bs b)) = y at *
  go_enter Tryd.func53, Tryd.ntmps53
  go_wp2_with fail
  refine (HA.out _).mono ?_
  rintro e w1 ⟨rfl, hb1⟩
  have HB1 := Lib.hid hb1
  clear hb1
  go_wp2_with fail
  refine (HB.out _).mono ?_
  rintro e w2 ⟨rfl, hb2⟩
  have HB2 := Lib.hid (HB1.out.trans (hb2.mono HB1.out.size))
  clear hb2
  go_wp2_with fail
  go_ret
  exact ⟨by rw [← HE.out]; rfl, HB2.out⟩
end Tk
end Go.Proofs.YthooghgiokgdhaaDoor
