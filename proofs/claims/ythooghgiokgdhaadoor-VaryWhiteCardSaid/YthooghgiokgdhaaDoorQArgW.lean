/- Arguments that are lists of bytes. -/
import Derived.Test.YthooghgiokgdhaaDoorQArgs0
import Derived.Test.YthooghgiokgdhaaDoorQC
import Derived.Lib.SmallJoins
import Derived.ProofKit
import Derived.OpenShut
namespace Go.Proofs.YthooghgiokgdhaaDoor
open Go.RowKit Go.ChangeShapes Go.WideShapes Go.Joins
namespace Tk

theorem cellsU8W : Tryd.prog.cellsOf 5 = 1 := by kernel_rfl
/-- a slice that holds these bytes -/
def IsU8s (w : World) (v : Value) (l : List Int) : Prop :=
  ∃ (a : Option Addr) (c : Nat), v = .slice a l.length c ∧ ∀ j, j < l.length → ∃ b o, a = some ⟨b, o, none⟩ ∧ w.cell? ⟨b, o + j, none⟩ = some (.int .u8 (l.getD j 0))
theorem isU8s_below {w w' : World} {v : Value} {l : List Int} (h : IsU8s w v l) (hb : Below w.heap.size w w') : IsU8s w' v l := by
  obtain ⟨a, c, rfl, hc⟩ := h
  refine ⟨a, c, rfl, fun j hj => ?_⟩
  obtain ⟨b, o, rfl, h1⟩ := hc j hj
  refine ⟨b, o, rfl, (hb.cell (p := ⟨b, o + j, none⟩) ?_).trans h1⟩
  refine Nat.lt_of_not_le fun hle => ?_
  simp only [World.cell?, Array.getElem?_eq_none hle] at h1
  cases h1
theorem u8s_arg {H : Type} {enc : TypeId × Value → H} {W : World} {v : Value} {d : DataW H} {p : List MemPlace} {a0 : Option Addr} {n0 c0 : Nat} (hv : v = .slice a0 n0 c0)
    (h : DataW.Trod enc Tryd.prog W 0 (fun _ => true) true 42 v d p) : ∃ l : List Int, IsU8s W v l ∧ ∀ x ∈ l, 0 ≤ x ∧ x < 256 := by
  subst hv
  obtain ⟨fuel, hf⟩ := h
  rcases open_ints Tryd.underlying42 Tryd.underlying5 cellsU8W hf with ⟨hcs, hx⟩ | ⟨a, len, cap, zs, hcs, _, hl, hm, hz, hx, hcell, hw⟩
  · simp [Value.cells] at hcs
    obtain ⟨rfl, rfl, rfl⟩ := hcs
    exact ⟨[], ⟨none, 0, rfl, fun j hj => by simp at hj⟩, by simp⟩
  · simp [Value.cells] at hcs
    obtain ⟨rfl, rfl, rfl⟩ := hcs
    simp only [if_true] at hz
    refine ⟨zs.take n0, ⟨some a, _, by rw [List.length_take, Nat.min_eq_left (by omega)], fun j hj => ?_⟩, fun x hx => ?_⟩
    · rw [List.length_take, Nat.min_eq_left (by omega)] at hj
      obtain ⟨b, o, spot⟩ := a
      have h0 := hcell 0 (by omega)
      have hsp : spot = none := by simpa [Addr.add] using World.cell?_spot h0
      subst hsp
      refine ⟨b, o, rfl, ?_⟩
      rw [← Go.WideShapes.add_plain, hcell j (by omega)]
      simp [List.getD, hj]
    · have h1 := hw x (List.mem_of_mem_take hx)
      have h2 : IntKind.u8.min ≤ x ∧ x ≤ IntKind.u8.max := by simpa [Lit.wf] using h1
      have e1 : IntKind.u8.min = 0 := by decide
      have e2 : IntKind.u8.max = 255 := by decide
      omega
end Tk
end Go.Proofs.YthooghgiokgdhaaDoor
