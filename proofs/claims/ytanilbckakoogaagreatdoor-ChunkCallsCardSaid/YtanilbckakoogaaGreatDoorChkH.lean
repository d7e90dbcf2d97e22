/- chunk: what Feed defers. -/
import Derived.Test.YtanilbckakoogaaGreatDoorChkG
import Derived.Recover
namespace Go.Proofs.YtanilbckakoogaaGreatDoor
open Go.RowKit
namespace Tk

theorem asserted (v : Value) (xT : TypeId) (w : World) : (Instr.typeAssert (.iface 62 v) xT 62 true).run Tryz.prog w = .ok (.tuple #[v, .bool true]) w := by
  simp [Instr.typeAssert, run_underlying Tryz.underlying62]

set_option maxHeartbeats 2000000 in
set_option maxRecDepth 100000 in
theorem catch_flaw (b gd gs n : Nat) (x y : Int) (older : List PanicEntry) (w : World) (hd : w.cell? ⟨gd, 0, none⟩ = some (.pointer (some ⟨b, 0, none⟩))) (h6 : w.cell? ⟨b, 6, none⟩ = some (.int .i64 x)) (f6 : w.frozen? ⟨b, 6, none⟩ = false) (hs : w.cell? ⟨gs, 0, none⟩ = some (.int .i64 y)) (fs : w.frozen? ⟨gs, 0, none⟩ = false) :
    CallsD Tryz.prog 28 #[.pointer (some ⟨gd, 0, none⟩), .pointer (some ⟨gs, 0, none⟩)] (.panicking ({ v := .iface 62 (.int .i64 n), recovered := false } :: older)) w fun e u' w' =>
      e = .returned (.tuple #[]) ∧ u' = .panicking ({ v := .iface 62 (.int .i64 n), recovered := true } :: older) ∧ w' = (w.setCell ⟨b, 6, none⟩ (.int .i64 n)).setCell ⟨gs, 0, none⟩ (.int .i64 n) := by
  refine callsD_of_wpS Tryz.func28 rfl fun c₀ cs hu => ?_
  apply wpS_seq
  apply wpS_region
  simp [wpOpsS, go_sem, recoverD, hu, Tryz.ntmps28, Exit.thenS]
  have ha := asserted
  refine wpS_of_wp ?_
  clear hu
  go_wp2
  simp [bodyPostS, results, Tryz.results28]
theorem catch_idle (bd bs : Nat) (w : World) :
    CallsD Tryz.prog 28 #[.pointer (some ⟨bd, 0, none⟩), .pointer (some ⟨bs, 0, none⟩)] .returning w fun e u' w' => e = .returned (.tuple #[]) ∧ u' = .returning ∧ w' = w := by
  refine callsD_of_wpS Tryz.func28 rfl fun c₀ cs hu => ?_
  apply wpS_seq
  apply wpS_region
  simp [wpOpsS, go_sem, recoverD, hu, Tryz.ntmps28, Exit.thenS]
  refine wpS_of_wp ?_
  go_wp2
  all_goals
    cases c₀
    simp_all [bodyPostS, results, Tryz.results28]
end Tk
end Go.Proofs.YtanilbckakoogaaGreatDoor
