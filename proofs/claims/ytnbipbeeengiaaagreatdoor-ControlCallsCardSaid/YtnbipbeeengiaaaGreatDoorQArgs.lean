/- Arguments that are lists of texts: what the row's reading says of them. -/
import Derived.Test.YtnbipbeeengiaaaGreatDoorQF
import Derived.Test.YtnbipbeeengiaaaGreatDoorQArgs0
import Derived.Deep.Strs
import Derived.SizedLaws
import Derived.Carry
namespace Go.Proofs.YtnbipbeeengiaaaGreatDoor
open Go.RowKit Go.ChangeShapes Go.WideShapes Go.Deep
namespace Tk

/-- the reach, of a text inside a list of texts -/
theorem sized_in {H : Type} {P : Program} {ts : List TypeId} {ds : List (DataW H)} (h : (DataW.weightsEach P ts ds).all (· ≤ reachBytes) = true) {j : Nat} {t e : TypeId} {elems spare : List (DataW H)} {bytes : List UInt8}
    (ht : ts[j]? = some t) (hd : ds[j]? = some (.slice elems spare)) (hu : P.underlying t = some (.slice e)) (hx : DataW.lit (.string bytes) ∈ elems) : bytes.length ≤ 140737488351232 := by
  refine of_decide_eq_true (p := bytes.length ≤ reachBytes) (List.all_eq_true.1 h _ (DataW.weights_mem_each ht hd _ ?_))
  simp only [DataW.weights, hu, List.mem_cons, List.mem_append]
  exact Or.inr (Or.inl (all_mem hx _ (by simp [DataW.weights])))

theorem strs_arg {H : Type} {enc : TypeId × Value → H} {W : World} {v : Value} {d : DataW H} {p : List MemPlace} {a0 : Option Addr} {n0 c0 : Nat} (hv : v = .slice a0 n0 c0)
    (h : DataW.Trod enc Tryz.prog W 0 (fun _ => true) true 26 v d p) :
    ∃ l : List Bs, IsStrs W v l ∧ (l = [] ∨ ∃ spare, d = .slice (l.map fun t => .lit (.string t)) spare) := by
  subst hv
  obtain ⟨fuel, hf⟩ := h
  rcases open_strs Tryz.underlying26 Tryz.underlying9 cellsStr hf with ⟨hcs, hx⟩ | ⟨a, len, cap, m, Sx, hcs, _, hl, hm, hmm, hx, hcell⟩
  · simp [Value.cells] at hcs
    obtain ⟨rfl, rfl, rfl⟩ := hcs
    exact ⟨[], ⟨none, 0, rfl, fun j t hj => by simp at hj⟩, .inl rfl⟩
  · simp [Value.cells] at hcs
    obtain ⟨rfl, rfl, rfl⟩ := hcs
    simp only [if_true] at hmm
    subst hmm
    simp only [Prod.mk.injEq] at hx
    refine ⟨(List.range n0).map fun i => bs (Sx i), ⟨some a, m, by simp, fun j t hj => ?_⟩, ?_⟩
    · have hjl : j < n0 := by
        have := (List.getElem?_eq_some_iff.1 hj).1
        simpa using this
      rw [List.getElem?_map, List.getElem?_range hjl] at hj
      injection hj with hj
      subst hj
      obtain ⟨b, o, spot⟩ := a
      have h0 := (hcell 0 (by omega)).1
      have hsp : spot = none := by simpa [Addr.add] using World.cell?_spot h0
      subst hsp
      refine ⟨b, o, rfl, ?_⟩
      rw [mkS_bs, ← Go.WideShapes.add_plain]
      exact (hcell j (by omega)).1
    · refine .inr ⟨_, hx.1.trans (congrArg (fun z => DataW.slice z _) ?_)⟩
      simp [List.map_map, Function.comp_def, bs]
end Tk
end Go.Proofs.YtnbipbeeengiaaaGreatDoor
