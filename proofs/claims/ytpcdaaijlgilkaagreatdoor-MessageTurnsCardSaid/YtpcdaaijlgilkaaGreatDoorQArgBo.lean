/- Arguments that are lists of truth values. -/
import Derived.Test.YtpcdaaijlgilkaaGreatDoorQL
import Derived.Test.YtpcdaaijlgilkaaGreatDoorQArgL
namespace Go.Proofs.YtpcdaaijlgilkaaGreatDoor
open Go.RowKit Go.ChangeShapes Go.WideShapes Go.Joins
namespace Tk

theorem cellsBool : Tryz.prog.cellsOf 4 = 1 := by kernel_rfl
theorem bools_arg {H : Type} {enc : TypeId × Value → H} {W : World} {v : Value} {d : DataW H} {p : List MemPlace} {a0 : Option Addr} {n0 c0 : Nat} (hv : v = .slice a0 n0 c0)
    (h : DataW.Trod enc Tryz.prog W 0 (fun _ => true) true 55 v d p) : ∃ l : List Bool, IsBools W v l := by
  subst hv
  obtain ⟨fuel, hf⟩ := h
  rcases DataW.trod_slice Tryz.underlying55 hf with ⟨hcs, hx⟩ | ⟨a, len, cap, elems, rest, n, _, hcs, _, hb, hl, hm, hlen, hel, hsp, hns⟩
  · simp [Value.cells] at hcs
    obtain ⟨rfl, rfl, rfl⟩ := hcs
    exact ⟨[], none, 0, rfl, fun j hj => by simp at hj⟩
  · simp [Value.cells] at hcs
    obtain ⟨rfl, rfl, rfl⟩ := hcs
    have each : ∀ j, j < n0 → ∃ b, W.cell? (a.add j) = some (.bool b) := by
      intro j hj
      have h1 := hel j hj
      rw [List.getElem?_eq_getElem (by omega)] at h1
      rw [cellsBool, Nat.mul_one, Option.bind_eq_some_iff] at h1
      obtain ⟨cs', hcs, hy'⟩ := h1
      obtain ⟨b, rfl, _⟩ := DataW.trod_bool Tryz.underlying4 hy'
      exact ⟨b, cell_of_cells?_one hcs⟩
    refine ⟨(List.range n0).map fun j => (match W.cell? (a.add j) with | some (.bool b) => b | _ => false), some a, c0, by simp, fun j hj => ?_⟩
    simp only [List.length_map, List.length_range] at hj
    obtain ⟨b0, h0⟩ := each 0 (by omega)
    obtain ⟨blk, o, spot⟩ := a
    have hsp2 : spot = none := by simpa [Addr.add] using World.cell?_spot h0
    subst hsp2
    refine ⟨blk, o, rfl, ?_⟩
    obtain ⟨bj, hj2⟩ := each j hj
    rw [← Go.WideShapes.add_plain, hj2]
    simp [List.getD, hj, hj2]
end Tk
end Go.Proofs.YtpcdaaijlgilkaaGreatDoor
