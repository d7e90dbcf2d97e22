/- lives: the chapter's examples that each statement asks first. -/
import Derived.Test.YtapnlopeipdjmaaGreatDoorSame
import Derived.Test.YtapnlopeipdjmaaGreatDoorWtB
namespace Go.Proofs.YtapnlopeipdjmaaGreatDoor
open Go.RowKit
namespace Tk
open Ff

def exText : Bs := [97, 44, 32, 34, 98, 44, 99, 34, 32, 44, 44, 32, 100]
def exParts : List Bs := [[97], [34, 98, 44, 99, 34], [100]]
theorem ex_split : splitL exText = exParts := by decide +kernel
set_option maxRecDepth 100000 in
theorem ex_w1 : ktext (gk (qn 4598175219545276416) 1000) = [48, 46, 50, 53] := by decide +kernel
set_option maxRecDepth 100000 in
theorem ex_w0 : ktext (gk (qn 0) 1000) = [48] := by decide +kernel

def Yes (w : World) (r : Ending) (w' : World) : Prop := r = .returned (.bool true) ∧ Below w.heap.size w w'

set_option maxHeartbeats 1000000 in
theorem lives_any (w : World) (hT : Tabs w) : Calls Tryz.prog 4 #[] w (Yes w) := by
  have HT := Lib.hid hT
  have hbig := hT.pows.big
  have h18 := split_any ⟨#[97, 44, 32, 34, 98, 44, 99, 34, 32, 44, 44, 32, 100]⟩ w (by decide)
  rw [show bs ⟨#[97, 44, 32, 34, 98, 44, 99, 34, 32, 44, 44, 32, 100]⟩ = exText from rfl, ex_split] at h18
  have H18 := Lib.hid h18
  clear hT h18
  go_enter Tryz.func4, Tryz.ntmps4
  go_wp2_with fail
  refine H18.out.mono ?_
  rintro e w1 ⟨v, rfl, ho, hb⟩
  have HO := Lib.hid ho
  have HB := Lib.hid hb
  have hsz := hb.size
  clear ho hb
  go_wp2_with fail
  refine (same_any v _ exParts exParts _ (isStrs_alloc HO.out _) (isStrs_lit w1 exParts _ _ 3 rfl) (by decide) (by decide)).mono ?_
  rintro e w2 ⟨rfl, n, rfl⟩
  have hd : decide (exParts = exParts) = true := by decide
  have hT2 : Tabs ((w1.alloc (.cells (strs exParts).toArray 9)).drewN n) := HT.out.later (below_drewN (HB.out.alloc hsz _) n) hbig
  have B2 : Below w.heap.size w ((w1.alloc (.cells (strs exParts).toArray 9)).drewN n) := below_drewN (HB.out.alloc hsz _) n
  have HB2 := Lib.hid B2
  clear B2
  have w25 := weightText_any 4598175219545276416 _ hT2 (.inr (by omega))
  rw [ex_w1] at w25
  have HT2 := Lib.hid hT2
  have W25 := Lib.hid w25
  clear hT2 w25
  go_wp2_with fail
  refine W25.out.mono ?_
  rintro e w3 ⟨rfl, hb3⟩
  have hT3 : Tabs w3 := HT2.out.later hb3 (by have := HB2.out.size; omega)
  have HB3 := Lib.hid hb3
  have w00 := weightText_any 0 w3 hT3 (.inr (by omega))
  rw [ex_w0] at w00
  have W00 := Lib.hid w00
  clear hT3 w00 hb3
  have e25 : ((⟨List.toArray [48, 46, 50, 53]⟩ : ByteArray).toList == (⟨#[48, 46, 50, 53]⟩ : ByteArray).toList) = true := by simp
  go_wp2_with fail
  refine W00.out.mono ?_
  rintro e w4 ⟨rfl, hb4⟩
  have HB4 := Lib.hid hb4
  clear hb4
  go_wp2_with fail
  go_ret
  have b3 := HB2.out.trans (HB3.out.mono HB2.out.size)
  exact ⟨rfl, b3.trans (HB4.out.mono b3.size)⟩
end Tk
end Go.Proofs.YtapnlopeipdjmaaGreatDoor
