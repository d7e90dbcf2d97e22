/- Arguments that are lists of fields: what the row's reading says of them. -/
import Derived.Test.YthooghgiokgdhaaGreatDoorQB
import Derived.Test.YthooghgiokgdhaaGreatDoorQArgs0
import Derived.Deep.SlicePairs
namespace Go.Proofs.YthooghgiokgdhaaGreatDoor
open Go.RowKit Go.ChangeShapes Go.WideShapes Go.Deep
namespace Tk

theorem cellsFld : Tryz.prog.cellsOf 31 = 2 := by kernel_rfl
theorem bytesFld : Tryz.prog.bytesOf 31 = 32 := by kernel_rfl

/-- the reach, of the texts of a field inside a list of fields -/
theorem sized_fld {H : Type} {P : Program} {ts : List TypeId} {ds : List (DataW H)} (h : (DataW.weightsEach P ts ds).all (· ≤ reachBytes) = true) {j : Nat} {t e : TypeId} {elems spare : List (DataW H)} {f0 f1 : Field} {x y : List UInt8}
    (ht : ts[j]? = some t) (hd : ds[j]? = some (.slice elems spare)) (hu : P.underlying t = some (.slice e)) (he : P.underlying e = some (.struct #[f0, f1])) (hx : DataW.agg [.lit (.string x), .lit (.string y)] ∈ elems) : x.length ≤ 140737488351232 ∧ y.length ≤ 140737488351232 := by
  have key : ∀ n ∈ DataW.weights P e (.agg [.lit (.string x), .lit (.string y)] : DataW H), n ≤ reachBytes := fun n hn => by
    refine of_decide_eq_true (List.all_eq_true.1 h _ (DataW.weights_mem_each ht hd n ?_))
    simp only [DataW.weights, hu, List.mem_cons, List.mem_append]
    exact Or.inr (Or.inl (all_mem hx _ hn))
  exact ⟨key x.length (by simp [DataW.weights, he, DataW.weightsEach]), key y.length (by simp [DataW.weights, he, DataW.weightsEach])⟩

def fldD {H : Type} (f : Bs × Bs) : DataW H := .agg [.lit (.string f.1), .lit (.string f.2)]

theorem flds_arg {H : Type} {enc : TypeId × Value → H} {W : World} {v : Value} {d : DataW H} {p : List MemPlace} {a0 : Option Addr} {n0 c0 : Nat} (hv : v = .slice a0 n0 c0)
    (h : DataW.Trod enc Tryz.prog W 0 (fun _ => true) true 22 v d p) :
    ∃ l : List (Bs × Bs), IsFlds W v l ∧ (l = [] ∨ ∃ spare, d = .slice (l.map fldD) spare) := by
  subst hv
  obtain ⟨fuel, hf⟩ := h
  rcases open_slice_pairs Tryz.underlying22 Tryz.underlying31 cellsFld rfl rfl cellsStr cellsStr hf with ⟨hcs, hx⟩ | ⟨a, len, cap, m, n, V0, V1, D0, D1, P0, P1, hcs, _, hl, hm, hmm, hx, hcell⟩
  · simp [Value.cells] at hcs
    obtain ⟨rfl, rfl, rfl⟩ := hcs
    exact ⟨[], ⟨none, 0, rfl, Nat.le_refl _, fun j t hj => by simp at hj⟩, .inl rfl⟩
  · simp [Value.cells] at hcs
    obtain ⟨rfl, rfl, rfl⟩ := hcs
    simp only [if_true] at hmm
    subst hmm
    simp only [Prod.mk.injEq] at hx
    have each : ∀ i, i < m → ∃ q : ByteArray × ByteArray, V0 i = .string q.1 ∧ V1 i = .string q.2 ∧ D0 i = .lit (.string q.1.data.toList) ∧ D1 i = .lit (.string q.2.data.toList) := by
      intro i hi
      obtain ⟨-, -, t0, t1⟩ := hcell i hi
      obtain ⟨s0, e0, x0, -⟩ := DataW.trod_string Tryz.underlying9 t0
      obtain ⟨s1, e1, x1, -⟩ := DataW.trod_string Tryz.underlying9 t1
      simp only [Prod.mk.injEq] at x0 x1
      exact ⟨(s0, s1), by simpa using e0, by simpa using e1, x0.1, x1.1⟩
    obtain ⟨Q, hQ⟩ := choose_lt each
    refine ⟨(List.range n0).map fun i => (bs (Q i).1, bs (Q i).2), ⟨some a, m, by simp, by simpa using hl, fun j t hj => ?_⟩, ?_⟩
    · have hjl : j < n0 := by
        have := (List.getElem?_eq_some_iff.1 hj).1
        simpa using this
      rw [List.getElem?_map, List.getElem?_range hjl] at hj
      injection hj with hj
      subst hj
      obtain ⟨b, o, spot⟩ := a
      obtain ⟨h0, h1, -, -⟩ := hcell j (by omega)
      have hsp : spot = none := by
        have := World.cell?_spot (hcell 0 (by omega)).1
        simpa [Addr.add] using this
      subst hsp
      obtain ⟨v0, v1, -, -⟩ := hQ j (by omega)
      refine ⟨b, o, rfl, ?_, ?_⟩
      · rw [mkS_bs, ← add_plain, h0, v0]
      · rw [mkS_bs, ← v1, ← h1, add_plain, Nat.add_assoc]
    · refine .inr ⟨_, hx.1.trans (congrArg (fun z => DataW.slice z _) ?_)⟩
      rw [List.map_map]
      refine List.map_congr_left fun i hi => ?_
      obtain ⟨-, -, d0, d1⟩ := hQ i (by have := List.mem_range.1 hi; omega)
      rw [d0, d1]; rfl
/-- a nil list of fields holds no room -/
theorem flds_nil {H : Type} {enc : TypeId × Value → H} {W : World} {v : Value} {d : DataW H} {p : List MemPlace}
    (h : DataW.Trod enc Tryz.prog W 0 (fun _ => true) true 22 v d p) : ∀ n c, v = .slice none n c → c = 0 := by
  rintro n0 c0 rfl
  obtain ⟨fuel, hf⟩ := h
  rcases open_slice_pairs Tryz.underlying22 Tryz.underlying31 cellsFld rfl rfl cellsStr cellsStr hf with ⟨hcs, -⟩ | ⟨a, len, cap, m, n, V0, V1, D0, D1, P0, P1, hcs, -⟩
  · simp [Value.cells] at hcs
    exact hcs.2
  · simp [Value.cells] at hcs
end Tk
end Go.Proofs.YthooghgiokgdhaaGreatDoor
