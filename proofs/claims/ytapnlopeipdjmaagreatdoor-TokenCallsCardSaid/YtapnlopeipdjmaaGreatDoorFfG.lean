/- strconv.FormatFloat at the letter f and the least number of digits. -/
import Derived.Test.YtapnlopeipdjmaaGreatDoorFfF
namespace Go.Proofs.YtapnlopeipdjmaaGreatDoor
open Go.RowKit Go.Sort Go.Lib
namespace Ff

def zero24 : Array Value := Array.replicate 24 (.int .u8 0)
theorem run_make24 (w : World) : (Instr.makeSlice 41 (.int .i64 0) (.int .i64 24)).run Tryz.prog w = .ok (.slice (some ⟨w.heap.size, 0, none⟩) 0 24) (w.alloc (.cells zero24 5)) := by kernel_rfl

set_option maxRecDepth 100000 in
set_option maxHeartbeats 1000000 in
theorem format_inner (q : Nat) (text : List UInt8) (w : World) (hF : Fok q text) (hT : Tabs w) :
    Calls Tryz.prog 51 #[.float .f64 q, .int .u8 102, .int .i64 (-1), .int .i64 64] w (StrPost text w) := by
  have hmk := run_make24
  have hmx : max (3 : Int) 24 = 24 := by decide
  have HF := Lib.hid hF
  have HT := Lib.hid hT
  have hbig := hT.pows.big
  clear hF hT
  go_enter Tryz.func51, Tryz.ntmps51
  go_wp2_with fail
  refine (HF.out w.heap.size w.heap.size 24 _ (HT.out.later ((Below.refl _ _).alloc (Nat.le_refl _) _) hbig) hbig (by simp) (by omega) (World.ownsRow_made w zero24 24 (Nat.le_refl _) (by decide) rfl)).mono ?_
  rintro e w' ⟨rfl, ho, hg'⟩
  have hb : Below w.heap.size w w' := ((Below.refl _ _).alloc (Nat.le_refl _) _).trans (grown_below hg' (by simp))
  have hcv := run_convert_bytes_back (P := Tryz.prog) w' 41 9 5 ⟨w.heap.size, 0, none⟩ 24 text Tryz.underlying41 Tryz.underlying5 Tryz.underlying9 (fun j hj => ho.cells (g := w.heap.size) rfl j _ (by simp [Lib.byteCells, hj]))
  have HB := Lib.hid hb
  clear hb ho hg'
  go_wp2_with fail
  go_ret
  exact ⟨rfl, HB.out⟩

set_option maxHeartbeats 1000000 in
theorem format_float (q : Nat) (text : List UInt8) (w : World) (hF : Fok q text) (hT : Tabs w) :
    Calls Tryz.prog 41 #[.float .f64 q, .int .u8 102, .int .i64 (-1), .int .i64 64] w (StrPost text w) := by
  have H := Lib.hid (format_inner q text w hF hT)
  clear hF hT
  go_enter Tryz.func41, Tryz.ntmps41
  go_wp2_with fail
  refine H.out.mono ?_
  rintro e w' ⟨rfl, hb⟩
  have HB := Lib.hid hb
  clear hb
  go_wp2_with fail
  go_ret
  exact ⟨rfl, HB.out⟩
end Ff
end Go.Proofs.YtapnlopeipdjmaaGreatDoor
