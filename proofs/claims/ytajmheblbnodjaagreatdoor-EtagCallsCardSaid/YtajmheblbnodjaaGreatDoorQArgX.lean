/- Arguments that are checks; cards of seven arguments. -/
import Derived.Test.YtajmheblbnodjaaGreatDoorQArgT
import Derived.Test.YtajmheblbnodjaaGreatDoorQE
import Derived.SizedLaws
namespace Go.Proofs.YtajmheblbnodjaaGreatDoor
open Go.RowKit Go.ChangeShapes Go.WideShapes Go.Deep Go.Joins
namespace Tk

theorem cellsX : Tryz.prog.cellsOf 89 = 5 := by kernel_rfl
theorem cellsI64X : Tryz.prog.cellsOf 2 = 1 := by kernel_rfl
theorem array5X {cs : Array Value} (h : cs.size = 5) : ∃ a b c d e, cs = #[a, b, c, d, e] := by
  obtain ⟨l⟩ := cs
  match l, h with
  | [a, b, c, d, e], _ => exact ⟨a, b, c, d, e, rfl⟩
theorem list4X {α : Type} {l : List α} (h : l.length = 4) : ∃ a b c d, l = [a, b, c, d] := by
  match l, h with
  | [a, b, c, d], _ => exact ⟨a, b, c, d, rfl⟩
theorem sized_chk {H : Type} {ts : List TypeId} {ds : List (DataW H)} (h : (DataW.weightsEach Tryz.prog ts ds).all (· ≤ reachBytes) = true) {j : Nat} {b c e : Bool} {a : Int} {x : List UInt8} (ht : ts[j]? = some 89)
    (hd : ds[j]? = some (.agg [.agg [.lit (.bool b), .lit (.string x)], .lit (.bool c), .lit (.int .i64 a), .lit (.bool e)])) : x.length ≤ 140737488351232 := by
  have hp : (DataW.weightsEach Tryz.prog [81, 4, 2, 4] ([.agg [.lit (.bool b), .lit (.string x)], .lit (.bool c), .lit (.int .i64 a), .lit (.bool e)] : List (DataW H))).all (· ≤ reachBytes) = true := by
    rw [List.all_eq_true]
    intro n hn
    refine List.all_eq_true.1 h _ (DataW.weights_mem_each ht hd n ?_)
    simpa [DataW.weights, Tryz.underlying89] using hn
  exact sized_tag hp (j := 0) rfl rfl

set_option maxRecDepth 100000 in
theorem chk_arg {H : Type} {enc : TypeId × Value → H} {W : World} {r : Reach} {b0 : Nat} {v : Value} {d : DataW H} {p : List MemPlace} (hv : Value.okWide Tryz.prog W r b0 89 v)
    (h : DataW.Trod enc Tryz.prog W 0 (fun _ => true) true 89 v d p) :
    ∃ x : Ck, v = ckV x ∧ d = .agg [.agg [.lit (.bool x.w), .lit (.string x.v)], .lit (.bool x.h), .lit (.int .i64 x.a), .lit (.bool x.b)] ∧ (Lit.int .i64 x.a).wf = true := by
  obtain ⟨cs, rfl, hcz⟩ := okWide_struct Tryz.underlying89 hv
  obtain ⟨c0, c1, c2, c3, c4, rfl⟩ := array5X (hcz.trans cellsX)
  obtain ⟨fuel, hf⟩ := h
  obtain ⟨xs, n, -, hx, -, hxl, hfs⟩ := DataW.trod_struct Tryz.underlying89 hf
  obtain ⟨y0, y1, y2, y3, rfl⟩ := list4X hxl
  have g0 := hfs 0 _ rfl
  have g1 := hfs 1 _ rfl
  have g2 := hfs 2 _ rfl
  have g3 := hfs 3 _ rfl
  simp [Value.cells, cellsTg, cellsBoolT, cellsI64X] at g0 g1 g2 g3
  obtain ⟨xs', n', -, hx', -, hxl', hfs'⟩ := DataW.trod_struct Tryz.underlying81 g0
  obtain ⟨u0, u1, rfl⟩ := list2T hxl'
  have k0 := hfs' 0 _ rfl
  have k1 := hfs' 1 _ rfl
  simp [cellsBoolT, cellsStr] at k0 k1
  obtain ⟨s0, e0, x0⟩ := DataW.trod_bool Tryz.underlying4 k0
  obtain ⟨s1, e1, x1, -⟩ := DataW.trod_string Tryz.underlying9 k1
  obtain ⟨s2, e2, x2⟩ := DataW.trod_bool Tryz.underlying4 g1
  obtain ⟨s3, e3, x3, w3⟩ := DataW.trod_int Tryz.underlying2 g2
  obtain ⟨s4, e4, x4⟩ := DataW.trod_bool Tryz.underlying4 g3
  simp only [List.cons.injEq, and_true] at e0 e1 e2 e3 e4
  subst e0 e1 e2 e3 e4
  subst x0 x1 x2 x3 x4
  simp only [List.map_cons, List.map_nil] at hx'
  rw [hx'] at hx
  simp only [Prod.mk.injEq, List.map_cons, List.map_nil] at hx
  obtain ⟨rfl, -⟩ := hx
  exact ⟨⟨s0, bs s1, s2, s3, s4⟩, by unfold ckV ckA; simp only [mkS_bs], rfl, w3⟩

section
variable {H : Type} {enc : TypeId × Value → H} {P : Program} {w : World} {base : Nat} {spare : Nat → Bool} {held : Bool}
theorem trodAll_seven {t0 t1 t2 t3 t4 t5 t6 : TypeId} {args : Array Value} {ds : List (DataW H)} {ps : List MemPlace} (h : DataW.TrodAll enc P w base spare held [t0, t1, t2, t3, t4, t5, t6] args.toList ds ps) :
    ∃ v0 v1 v2 v3 v4 v5 v6 d0 d1 d2 d3 d4 d5 d6 p0 p1 p2 p3 p4 p5 p6, args = #[v0, v1, v2, v3, v4, v5, v6] ∧ ds = [d0, d1, d2, d3, d4, d5, d6] ∧ ps = p0 ++ p1 ++ p2 ++ p3 ++ p4 ++ p5 ++ p6 ∧ DataW.Trod enc P w base spare held t0 v0 d0 p0 ∧ DataW.Trod enc P w base spare held t1 v1 d1 p1 ∧ DataW.Trod enc P w base spare held t2 v2 d2 p2 ∧ DataW.Trod enc P w base spare held t3 v3 d3 p3 ∧ DataW.Trod enc P w base spare held t4 v4 d4 p4 ∧ DataW.Trod enc P w base spare held t5 v5 d5 p5 ∧ DataW.Trod enc P w base spare held t6 v6 d6 p6 := by
  obtain ⟨v0, a0, d0, e0, p0, q0, hargs, rfl, rfl, h0, r0⟩ := trodAll_cons h
  obtain ⟨v1, a1, d1, e1, p1, q1, rfl, rfl, rfl, h1, r1⟩ := trodAll_cons r0
  obtain ⟨v2, a2, d2, e2, p2, q2, rfl, rfl, rfl, h2, r2⟩ := trodAll_cons r1
  obtain ⟨v3, a3, d3, e3, p3, q3, rfl, rfl, rfl, h3, r3⟩ := trodAll_cons r2
  obtain ⟨v4, a4, d4, e4, p4, q4, rfl, rfl, rfl, h4, r4⟩ := trodAll_cons r3
  obtain ⟨v5, a5, d5, e5, p5, q5, rfl, rfl, rfl, h5, r5⟩ := trodAll_cons r4
  obtain ⟨v6, a6, d6, e6, p6, q6, rfl, rfl, rfl, h6, r6⟩ := trodAll_cons r5
  obtain ⟨rfl, rfl, rfl⟩ := trodAll_nil r6
  exact ⟨v0, v1, v2, v3, v4, v5, v6, d0, d1, d2, d3, d4, d5, d6, p0, p1, p2, p3, p4, p5, p6, by cases args; simp_all, rfl, by simp, h0, h1, h2, h3, h4, h5, h6⟩
theorem trodAll_mk7 {t0 t1 t2 t3 t4 t5 t6 : TypeId} {v0 v1 v2 v3 v4 v5 v6 : Value} {d0 d1 d2 d3 d4 d5 d6 : DataW H} {p0 p1 p2 p3 p4 p5 p6 : List MemPlace} (h0 : DataW.Trod enc P w base spare held t0 v0 d0 p0) (h1 : DataW.Trod enc P w base spare held t1 v1 d1 p1)
    (h2 : DataW.Trod enc P w base spare held t2 v2 d2 p2) (h3 : DataW.Trod enc P w base spare held t3 v3 d3 p3) (h4 : DataW.Trod enc P w base spare held t4 v4 d4 p4) (h5 : DataW.Trod enc P w base spare held t5 v5 d5 p5) (h6 : DataW.Trod enc P w base spare held t6 v6 d6 p6) :
    DataW.TrodAll enc P w base spare held [t0, t1, t2, t3, t4, t5, t6] [v0, v1, v2, v3, v4, v5, v6] [d0, d1, d2, d3, d4, d5, d6] (p0 ++ (p1 ++ (p2 ++ (p3 ++ (p4 ++ (p5 ++ p6)))))) :=
  ⟨p0, _, h0, ⟨p1, _, h1, ⟨p2, _, h2, ⟨p3, _, h3, trodAll_mk3 h4 h5 h6, rfl⟩, rfl⟩, rfl⟩, rfl⟩
end
end Tk
end Go.Proofs.YtajmheblbnodjaaGreatDoor
