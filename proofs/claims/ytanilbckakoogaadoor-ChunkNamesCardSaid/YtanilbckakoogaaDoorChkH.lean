/- chunk: what Feed defers. -/
import Derived.Test.YtanilbckakoogaaDoorChkG
import Derived.Recover
namespace Go.Proofs.YtanilbckakoogaaDoor
open Go.RowKit
namespace Tk

theorem asserted (v : Value) (xT : TypeId) (w : World) : (Instr.typeAssert (.iface 98 v) xT 98 true).run Tryd.prog w = .ok (.tuple #[v, .bool true]) w := by
  simp [Instr.typeAssert, run_underlying Tryd.underlying98]

set_option maxHeartbeats 2000000 in
set_option maxRecDepth 100000 in
theorem catch_flaw (b gd gs n : Nat) (x y : Int) (older : List PanicEntry) (w : World) (hd : w.cell? ⟨gd, 0, none⟩ = some (.pointer (some ⟨b, 0, none⟩))) (h6 : w.cell? ⟨b, 6, none⟩ = some (.int .i64 x)) (f6 : w.frozen? ⟨b, 6, none⟩ = false) (hs : w.cell? ⟨gs, 0, none⟩ = some (.int .i64 y)) (fs : w.frozen? ⟨gs, 0, none⟩ = false) :
    CallsD Tryd.prog 78 #[.pointer (some ⟨gd, 0, none⟩), .pointer (some ⟨gs, 0, none⟩)] (.panicking ({ v := .iface 98 (.int .i64 n), recovered := false } :: older)) w fun e u' w' =>
      e = .returned (.tuple #[]) ∧ u' = .panicking ({ v := .iface 98 (.int .i64 n), recovered := true } :: older) ∧ w' = (w.setCell ⟨b, 6, none⟩ (.int .i64 n)).setCell ⟨gs, 0, none⟩ (.int .i64 n) := by
  refine callsD_of_wpS Tryd.func78 rfl fun c₀ cs hu => ?_
  apply wpS_seq
  apply wpS_region
  simp [wpOpsS, go_sem, recoverD, hu, Tryd.ntmps78, Exit.thenS]
  have ha := asserted
  refine wpS_of_wp ?_
  clear hu
  go_wp2
  simp [bodyPostS, results, Tryd.results78]
theorem catch_idle (bd bs : Nat) (w : World) :
    CallsD Tryd.prog 78 #[.pointer (some ⟨bd, 0, none⟩), .pointer (some ⟨bs, 0, none⟩)] .returning w fun e u' w' => e = .returned (.tuple #[]) ∧ u' = .returning ∧ w' = w := by
  refine callsD_of_wpS Tryd.func78 rfl fun c₀ cs hu => ?_
  apply wpS_seq
  apply wpS_region
  simp [wpOpsS, go_sem, recoverD, hu, Tryd.ntmps78, Exit.thenS]
  refine wpS_of_wp ?_
  go_wp2
  all_goals
    cases c₀
    simp_all [bodyPostS, results, Tryd.results78]
end Tk
end Go.Proofs.YtanilbckakoogaaDoor
