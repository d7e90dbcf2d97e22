/- Arguments that are tags, lists of tags, checks; texts within the reach. -/
import Derived.Test.YtajmheblbnodjaaGreatDoorQC
import Derived.Test.YtajmheblbnodjaaGreatDoorQArgF
import Derived.Lib.SmallJoins
import Derived.SizedLaws
import Derived.ProofKit
import Derived.OpenShut
import Derived.Carry
namespace Go.Proofs.YtajmheblbnodjaaGreatDoor
open Go.RowKit Go.ChangeShapes Go.WideShapes Go.Deep Go.Joins
namespace Tk

theorem cellsTg : Tryz.prog.cellsOf 81 = 2 := by kernel_rfl
theorem bytesTg : Tryz.prog.bytesOf 81 = 24 := by kernel_rfl
theorem cellsBoolT : Tryz.prog.cellsOf 4 = 1 := by kernel_rfl
theorem array2T {cs : Array Value} (h : cs.size = 2) : ∃ a b, cs = #[a, b] := by
  obtain ⟨l⟩ := cs
  match l, h with
  | [a, b], _ => exact ⟨a, b, rfl⟩
theorem list2T {α : Type} {l : List α} (h : l.length = 2) : ∃ a b, l = [a, b] := by
  match l, h with
  | [a, b], _ => exact ⟨a, b, rfl⟩
theorem sized_text {H : Type} {ts : List TypeId} {ds : List (DataW H)} (h : (DataW.weightsEach Tryz.prog ts ds).all (· ≤ reachBytes) = true) {j : Nat} {x : List UInt8} (ht : ts[j]? = some 9) (hd : ds[j]? = some (.lit (.string x))) : x.length ≤ 140737488351232 := by
  have := of_decide_eq_true (List.all_eq_true.1 h x.length (DataW.weights_mem_each ht hd x.length (by simp [DataW.weights])))
  exact this
theorem sized_tag {H : Type} {ts : List TypeId} {ds : List (DataW H)} (h : (DataW.weightsEach Tryz.prog ts ds).all (· ≤ reachBytes) = true) {j : Nat} {b : Bool} {x : List UInt8} (ht : ts[j]? = some 81) (hd : ds[j]? = some (.agg [.lit (.bool b), .lit (.string x)])) : x.length ≤ 140737488351232 := by
  have hp : (DataW.weightsEach Tryz.prog [4, 9] ([.lit (.bool b), .lit (.string x)] : List (DataW H))).all (· ≤ reachBytes) = true := by
    rw [List.all_eq_true]
    intro n hn
    refine List.all_eq_true.1 h _ (DataW.weights_mem_each ht hd n ?_)
    simpa [DataW.weights, Tryz.underlying81] using hn
  exact sized_text hp (j := 1) rfl rfl

set_option maxRecDepth 100000 in
theorem tag_arg {H : Type} {enc : TypeId × Value → H} {W : World} {r : Reach} {b0 : Nat} {v : Value} {d : DataW H} {p : List MemPlace} (hv : Value.okWide Tryz.prog W r b0 81 v)
    (h : DataW.Trod enc Tryz.prog W 0 (fun _ => true) true 81 v d p) :
    ∃ t : Tg, v = tgVal t ∧ d = .agg [.lit (.bool t.1), .lit (.string t.2)] := by
  obtain ⟨cs, rfl, hcz⟩ := okWide_struct Tryz.underlying81 hv
  obtain ⟨c0, c1, rfl⟩ := array2T (hcz.trans cellsTg)
  obtain ⟨fuel, hf⟩ := h
  obtain ⟨xs, n, -, hx, -, hxl, hfs⟩ := DataW.trod_struct Tryz.underlying81 hf
  obtain ⟨y0, y1, rfl⟩ := list2T hxl
  have g0 := hfs 0 _ rfl
  have g1 := hfs 1 _ rfl
  simp [Value.cells, cellsBoolT, cellsStr] at g0 g1
  obtain ⟨s0, e0, x0⟩ := DataW.trod_bool Tryz.underlying4 g0
  obtain ⟨s1, e1, x1, -⟩ := DataW.trod_string Tryz.underlying9 g1
  simp only [List.cons.injEq, and_true] at e0 e1
  subst e0 e1
  have x0' := x0
  subst x0' x1
  simp only [Prod.mk.injEq, List.map_cons, List.map_nil] at hx
  obtain ⟨rfl, -⟩ := hx
  exact ⟨(s0, bs s1), by unfold tgVal; rw [mkS_bs], rfl⟩

/-- the reach, of the text of a tag inside a list of tags -/
theorem sized_tgs {H : Type} {P : Program} {ts : List TypeId} {ds : List (DataW H)} (h : (DataW.weightsEach P ts ds).all (· ≤ reachBytes) = true) {j : Nat} {t e : TypeId} {elems spare : List (DataW H)} {f0 f1 : Field} {x : Bool} {y : List UInt8}
    (ht : ts[j]? = some t) (hd : ds[j]? = some (.slice elems spare)) (hu : P.underlying t = some (.slice e)) (he : P.underlying e = some (.struct #[f0, f1])) (hx : DataW.agg [.lit (.bool x), .lit (.string y)] ∈ elems) : y.length ≤ 140737488351232 := by
  have key : ∀ n ∈ DataW.weights P e (.agg [.lit (.bool x), .lit (.string y)] : DataW H), n ≤ reachBytes := fun n hn => by
    refine of_decide_eq_true (List.all_eq_true.1 h _ (DataW.weights_mem_each ht hd n ?_))
    simp only [DataW.weights, hu, List.mem_cons, List.mem_append]
    exact Or.inr (Or.inl (all_mem hx _ hn))
  exact key y.length (by simp [DataW.weights, he, DataW.weightsEach])

def tgD {H : Type} (f : Tg) : DataW H := .agg [.lit (.bool f.1), .lit (.string f.2)]

theorem tgs_arg {H : Type} {enc : TypeId × Value → H} {W : World} {v : Value} {d : DataW H} {p : List MemPlace} {a0 : Option Addr} {n0 c0 : Nat} (hv : v = .slice a0 n0 c0)
    (h : DataW.Trod enc Tryz.prog W 0 (fun _ => true) true 85 v d p) :
    ∃ l : List Tg, IsTgs W v l ∧ (l = [] ∨ ∃ spare, d = .slice (l.map tgD) spare) := by
  subst hv
  obtain ⟨fuel, hf⟩ := h
  rcases open_slice_pairs Tryz.underlying85 Tryz.underlying81 cellsTg rfl rfl cellsBoolT cellsStr hf with ⟨hcs, hx⟩ | ⟨a, len, cap, m, n, V0, V1, D0, D1, P0, P1, hcs, _, hl, hm, hmm, hx, hcell⟩
  · simp [Value.cells] at hcs
    obtain ⟨rfl, rfl, rfl⟩ := hcs
    exact ⟨[], ⟨none, 0, rfl, Nat.le_refl _, fun j t hj => by simp at hj⟩, .inl rfl⟩
  · simp [Value.cells] at hcs
    obtain ⟨rfl, rfl, rfl⟩ := hcs
    simp only [if_true] at hmm
    subst hmm
    simp only [Prod.mk.injEq] at hx
    have each : ∀ i, i < m → ∃ q : Bool × ByteArray, V0 i = .bool q.1 ∧ V1 i = .string q.2 ∧ D0 i = .lit (.bool q.1) ∧ D1 i = .lit (.string q.2.data.toList) := by
      intro i hi
      obtain ⟨-, -, t0, t1⟩ := hcell i hi
      obtain ⟨s0, e0, x0⟩ := DataW.trod_bool Tryz.underlying4 t0
      obtain ⟨s1, e1, x1, -⟩ := DataW.trod_string Tryz.underlying9 t1
      simp only [Prod.mk.injEq] at x0 x1
      exact ⟨(s0, s1), by simpa using e0, by simpa using e1, x0.1, x1.1⟩
    obtain ⟨Q, hQ⟩ := choose_lt each
    refine ⟨(List.range n0).map fun i => ((Q i).1, bs (Q i).2), ⟨some a, m, by simp, by simpa using hl, fun j t hj => ?_⟩, ?_⟩
    · have hjl : j < n0 := by
        have := (List.getElem?_eq_some_iff.1 hj).1
        simpa using this
      rw [List.getElem?_map, List.getElem?_range hjl] at hj
      injection hj with hj
      subst hj
      obtain ⟨b, o, spot⟩ := a
      obtain ⟨h0, h1, -, -⟩ := hcell j (by omega)
      have hsp : spot = none := by
        have := World.cell?_spot (hcell 0 (by omega)).1
        simpa [Addr.add] using this
      subst hsp
      obtain ⟨v0, v1, -, -⟩ := hQ j (by omega)
      refine ⟨b, o, rfl, ?_, ?_⟩
      · rw [← add_plain, h0, v0]
      · rw [mkS_bs, ← v1, ← h1, add_plain, Nat.add_assoc]
    · refine .inr ⟨_, hx.1.trans (congrArg (fun z => DataW.slice z _) ?_)⟩
      rw [List.map_map]
      refine List.map_congr_left fun i hi => ?_
      obtain ⟨-, -, d0, d1⟩ := hQ i (by have := List.mem_range.1 hi; omega)
      rw [d0, d1]; rfl
end Tk
end Go.Proofs.YtajmheblbnodjaaGreatDoor
