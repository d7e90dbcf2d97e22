/- internal/strconv.prescale and shortFloat[float64] where the table's second word is nought. -/
import Derived.Test.YtapnlopeipdjmaaGreatDoorFfA
namespace Go.Proofs.YtapnlopeipdjmaaGreatDoor
open Go.RowKit
namespace Ff

/-- The four rows of the table that are read: 10^16 to 10^19. -/
def thi (p : Int) : Nat := if p = 16 then 10240000000000000000 else if p = 17 then 12800000000000000000 else if p = 18 then 16000000000000000000 else 9999999999999999999 + 1
structure Pows (w : World) : Prop where
  big : 5 < w.heap.size
  h16 : w.cell? ⟨5, 728, none⟩ = some (.int .u64 (thi 16))
  l16 : w.cell? ⟨5, 729, none⟩ = some (.int .u64 0)
  h17 : w.cell? ⟨5, 730, none⟩ = some (.int .u64 (thi 17))
  l17 : w.cell? ⟨5, 731, none⟩ = some (.int .u64 0)
  h18 : w.cell? ⟨5, 732, none⟩ = some (.int .u64 (thi 18))
  l18 : w.cell? ⟨5, 733, none⟩ = some (.int .u64 0)
  h19 : w.cell? ⟨5, 734, none⟩ = some (.int .u64 (thi 19))
  l19 : w.cell? ⟨5, 735, none⟩ = some (.int .u64 0)

def scaler (a b c : Value) : Obj := .cells #[a, b, c] 106

set_option maxHeartbeats 400000 in
theorem prescale_any (e p lp : Int) (w : World) (hP : Pows w) (hp : p = 16 ∨ p = 17 ∨ p = 18 ∨ p = 19) (h0 : -2000 ≤ e) (h1 : e ≤ 2000) (h2 : -2000 ≤ lp) (h3 : lp ≤ 2000) :
    Calls Tryz.prog 85 #[.pointer (some ⟨w.heap.size, 0, none⟩), .int .i64 e, .int .i64 p, .int .i64 lp] (w.alloc (.cells #[.int .u64 0, .int .u64 0, .int .i64 0] 106)) fun r w' => r = .returned (.tuple #[]) ∧ w.alloc (.cells #[.int .u64 (thi p), .int .u64 0, .int .i64 (-(e + lp + 3))] 106) = w' := by
  obtain ⟨hb, a16, b16, a17, b17, a18, b18, a19, b19⟩ := hP
  generalize e16 : thi 16 = T16 at *
  generalize e17 : thi 17 = T17 at *
  generalize e18 : thi 18 = T18 at *
  generalize e19 : thi 19 = T19 at *
  have E16 := Lib.hid e16; have E17 := Lib.hid e17; have E18 := Lib.hid e18; have E19 := Lib.hid e19
  clear e16 e17 e18 e19
  have hg : 5 < w.heap.size := by omega
  rcases hp with rfl | rfl | rfl | rfl
  all_goals
    go_enter Tryz.func85, Tryz.ntmps85
    go_wp2
    go_end0
    refine ⟨rfl, ?_⟩
    first | rw [E16.out] | rw [E17.out] | rw [E18.out] | rw [E19.out]
end Ff
end Go.Proofs.YtapnlopeipdjmaaGreatDoor
