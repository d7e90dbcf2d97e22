/- An argument that is a civil time; texts within the reach. -/
import Derived.Test.YtajmheblbnodjaaDoorDtB
import Derived.Lib.SmallJoins
import Derived.SizedLaws
import Derived.ProofKit
import Derived.OpenShut
import Derived.Carry
namespace Go.Proofs.YtajmheblbnodjaaDoor
open Go.RowKit Go.ChangeShapes Go.WideShapes Go.Deep Go.Joins
namespace Tk

theorem laidOut : laidOutB Tryd.prog = true := by kernel_rfl
theorem cellsCv : Tryd.prog.cellsOf 23 = 7 := by kernel_rfl
theorem array7 {cs : Array Value} (h : cs.size = 7) : ∃ a b c d e f g, cs = #[a, b, c, d, e, f, g] := by
  obtain ⟨l⟩ := cs
  match l, h with
  | [a, b, c, d, e, f, g], _ => exact ⟨a, b, c, d, e, f, g, rfl⟩
theorem list7 {α : Type} {l : List α} (h : l.length = 7) : ∃ a b c d e f g, l = [a, b, c, d, e, f, g] := by
  match l, h with
  | [a, b, c, d, e, f, g], _ => exact ⟨a, b, c, d, e, f, g, rfl⟩
theorem sized_text {H : Type} {ts : List TypeId} {ds : List (DataW H)} (h : (DataW.weightsEach Tryd.prog ts ds).all (· ≤ reachBytes) = true) {j : Nat} {x : List UInt8} (ht : ts[j]? = some 9) (hd : ds[j]? = some (.lit (.string x))) : x.length ≤ 140737488351232 := by
  have := of_decide_eq_true (List.all_eq_true.1 h x.length (DataW.weights_mem_each ht hd x.length (by simp [DataW.weights])))
  exact this

set_option maxRecDepth 100000 in
theorem civ_arg {H : Type} {enc : TypeId × Value → H} {W : World} {r : Reach} {b0 : Nat} {v : Value} {d : DataW H} {p : List MemPlace} (hv : Value.okWide Tryd.prog W r b0 23 v)
    (h : DataW.Trod enc Tryd.prog W 0 (fun _ => true) true 23 v d p) :
    ∃ c : Cv, v = cvV c ∧ (Lit.int .i64 c.y).wf = true ∧ (Lit.int .i64 c.m).wf = true ∧ (Lit.int .i64 c.d).wf = true ∧ (Lit.int .i64 c.h).wf = true ∧ (Lit.int .i64 c.n).wf = true ∧ (Lit.int .i64 c.s).wf = true ∧ (Lit.int .i64 c.w).wf = true := by
  obtain ⟨cs, rfl, hcz⟩ := okWide_struct Tryd.underlying23 hv
  obtain ⟨c0, c1, c2, c3, c4, c5, c6, rfl⟩ := array7 (hcz.trans cellsCv)
  obtain ⟨fuel, hf⟩ := h
  obtain ⟨xs, n, -, hx, -, hxl, hfs⟩ := DataW.trod_struct Tryd.underlying23 hf
  obtain ⟨y0, y1, y2, y3, y4, y5, y6, rfl⟩ := list7 hxl
  have g0 := hfs 0 _ rfl
  have g1 := hfs 1 _ rfl
  have g2 := hfs 2 _ rfl
  have g3 := hfs 3 _ rfl
  have g4 := hfs 4 _ rfl
  have g5 := hfs 5 _ rfl
  have g6 := hfs 6 _ rfl
  have k2 : Tryd.prog.cellsOf 3 = 1 := by kernel_rfl
  simp [Value.cells, k2] at g0 g1 g2 g3 g4 g5 g6
  obtain ⟨s0, e0, -, w0⟩ := DataW.trod_int Tryd.underlying3 g0
  obtain ⟨s1, e1, -, w1⟩ := DataW.trod_int Tryd.underlying3 g1
  obtain ⟨s2, e2, -, w2⟩ := DataW.trod_int Tryd.underlying3 g2
  obtain ⟨s3, e3, -, w3⟩ := DataW.trod_int Tryd.underlying3 g3
  obtain ⟨s4, e4, -, w4⟩ := DataW.trod_int Tryd.underlying3 g4
  obtain ⟨s5, e5, -, w5⟩ := DataW.trod_int Tryd.underlying3 g5
  obtain ⟨s6, e6, -, w6⟩ := DataW.trod_int Tryd.underlying3 g6
  simp only [List.cons.injEq, and_true] at e0 e1 e2 e3 e4 e5 e6
  subst e0 e1 e2 e3 e4 e5 e6
  exact ⟨⟨s0, s1, s2, s3, s4, s5, s6⟩, rfl, w0, w1, w2, w3, w4, w5, w6⟩
end Tk
end Go.Proofs.YtajmheblbnodjaaDoor
