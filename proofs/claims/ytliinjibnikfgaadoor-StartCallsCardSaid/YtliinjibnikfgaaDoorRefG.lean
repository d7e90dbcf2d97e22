/- The document's own targets. -/
import Derived.Test.YtliinjibnikfgaaDoorRefI
import Derived.Test.YtliinjibnikfgaaDoorRefS
import Derived.Test.YtliinjibnikfgaaDoorRefL
import Derived.Test.YtliinjibnikfgaaDoorStaV
import Derived.Deep.Cut
namespace Go.Proofs.YtliinjibnikfgaaDoor
open Go.RowKit
namespace Tk

theorem beq_mkS (a b : Bs) : ((mkS a).toList == (mkS b).toList) = decide (a = b) := by
  rw [toList_bs, toList_bs, bs_mkS, bs_mkS]
  by_cases h : a = b <;> simp [h]

set_option maxHeartbeats 1000000 in
theorem rsame_is (a b : ByteArray) (w : World) (ha : a.size ≤ 1099511627) (hb : b.size ≤ 1099511627) :
    Calls Tryd.prog 80 #[.string a, .string b] w fun e w' => e = .returned (.bool (decide (lowL (bs a) = lowL (bs b)))) ∧ Below w.heap.size w w' := by
  have HA := Lib.hid (fun W => show Calls Tryd.prog 50 #[.string a] W (fun e w' => e = .returned (.string (mkS (lowL (bs a)))) ∧ Below W.heap.size W w') from refLower_any a W (by omega))
  have HB := Lib.hid (fun W => show Calls Tryd.prog 50 #[.string b] W (fun e w' => e = .returned (.string (mkS (lowL (bs b)))) ∧ Below W.heap.size W w') from refLower_any b W (by omega))
  have HE := Lib.hid (beq_mkS (lowL (bs a)) (lowL (bs b)))
  generalize decide (lowL (bs a) = lowL (bs b)) = d at *
  generalize mkS (lowL (bs a)) = x at *
  generalize mkS (lowL (bs b)) = y at *
  go_enter Tryd.func80, Tryd.ntmps80
  go_wp2_with fail
  refine (HA.out _).mono ?_
  rintro e w1 ⟨rfl, hb1⟩
  have HB1 := Lib.hid hb1
  clear hb1
  go_wp2_with fail
  refine (HB.out _).mono ?_
  rintro e w2 ⟨rfl, hb2⟩
  have HB2 := Lib.hid (HB1.out.trans (hb2.mono HB1.out.size))
  clear hb2
  go_wp2_with fail
  go_ret
  exact ⟨retB2 (by rw [← HE.out]), HB2.out⟩

/-- bad, as far as the first i bytes tell -/
def hashAt (b : Bool) (l : Bs) (i : Nat) : Bool := b || (l.take i).contains 35
theorem hashAt_0 (b : Bool) (l : Bs) : hashAt b l 0 = b := by unfold hashAt; simp
theorem hashAt_next (b : Bool) (s : ByteArray) (i : Nat) (h : i < s.size) : hashAt b (bs s) (i + 1) = (hashAt b (bs s) i || (s[i] == 35)) := by
  unfold hashAt
  rw [take_snoc (bs s) i (by rw [length_bs]; exact h), getD_bs s i h, List.contains_eq_any_beq, List.contains_eq_any_beq, List.any_append, Bool.or_assoc]
  have e : (s[i] == (35 : UInt8)) = ((35 : UInt8) == s[i]) := by rw [Bool.eq_iff_iff, beq_iff_eq, beq_iff_eq]; exact eq_comm
  rw [e]
  simp
theorem hashAt_end (s : ByteArray) : hashAt (!someL vis (bs s)) (bs s) s.size = !tgtOk (bs s) := by
  unfold hashAt tgtOk
  rw [List.take_of_length_le (by rw [length_bs]; exact Nat.le_refl _)]
  cases someL vis (bs s) <;> simp
end Tk
end Go.Proofs.YtliinjibnikfgaaDoor
