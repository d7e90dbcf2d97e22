/- An argument that is a control; the capacity of a list; the table of powers of ten in a card. -/
import Derived.Test.YtnbipbeeengiaaaGreatDoorQJ
import Derived.Test.YtnbipbeeengiaaaGreatDoorQArgs
import Derived.Lib.LaidTab
import Derived.Lib.SmallJoins
import Derived.SizedLaws
import Derived.ProofKit
import Derived.OpenShut
import Derived.Carry
namespace Go.Proofs.YtnbipbeeengiaaaGreatDoor
open Go.RowKit Go.ChangeShapes Go.WideShapes Go.Deep Go.Joins
namespace Tk

theorem laid_atC {P : Program} {W : World} : ∀ {l : List (String × DataW Unit)} {ps : List MemPlace}, DataW.LaidVars P W l ps → ∀ (n : String) (d : DataW Unit), (n, d) ∈ l →
    ∃ g t cs fuel p, P.globalNamed n = some g ∧ (P.globals[g]?).map (·.type) = some t ∧ W.var? P n = some cs ∧ DataW.trod (fun _ => ()) P W 0 (fun _ => true) false fuel t cs.toList = some (d, p)
  | [], _, _, n, d, h => by simp at h
  | (m, e) :: r, ps, h, n, d, hm => by
    obtain ⟨g, t, cs, fuel, p, q, h1, h2, h3, h4, h5, -⟩ := h
    rcases List.mem_cons.1 hm with hm | hm
    · injection hm with a b
      subst a b
      exact ⟨g, t, cs, fuel, p, h1, h2, h3, h4⟩
    · exact laid_atC h5 n d hm
theorem gTenTypeC : (Tryz.prog.globals[0]?).map (·.type) = some 204 := by kernel_rfl
theorem cellsU64C : Tryz.prog.cellsOf 183 = 1 := by kernel_rfl
theorem cellsTensC : Tryz.prog.cellsOf 204 = 20 := by kernel_rfl
theorem tenC_of {l : List (String × DataW Unit)} {W : World} (h : laidMet Tryz.prog l W) (h2 : ("internal/strconv.uint64pow10", Lib.tabData .u64 Lib.pow10Tab) ∈ l) : TenC W := by
  obtain ⟨ps, hl, -⟩ := h
  obtain ⟨g', t', cs', fuel', p', b1, b2, b3, b4⟩ := laid_atC hl _ _ h2
  obtain rfl := Option.some.inj (gTenC.symm.trans b1)
  obtain rfl := Option.some.inj (gTenTypeC.symm.trans b2)
  have hcs := Lib.cells_of_tab Tryz.underlying204 Tryz.underlying183 cellsU64C cellsTensC b4
  refine ⟨?_, by unfold Lib.TabIs; rw [b3, ← hcs]⟩
  refine Nat.lt_of_not_le fun hle => ?_
  have h0 : W.cell? ⟨0, 0, none⟩ = cs'[0]? := World.var?_cell gTenC b3 0
  rw [← Array.getElem?_toList, hcs] at h0
  simp only [World.cell?, Array.getElem?_eq_none hle] at h0
  cases h0
theorem strs_cap {H : Type} {enc : TypeId × Value → H} {W : World} {a0 : Option Addr} {n0 c0 : Nat} {d : DataW H} {p : List MemPlace}
    (h : DataW.Trod enc Tryz.prog W 0 (fun _ => true) true 26 (.slice a0 n0 c0) d p) : n0 ≤ c0 := by
  obtain ⟨fuel, hf⟩ := h
  rcases open_strs Tryz.underlying26 Tryz.underlying9 cellsStr hf with ⟨hcs, hx⟩ | ⟨a, len, cap, m, Sx, hcs, _, hl, -⟩
  · simp [Value.cells] at hcs
    obtain ⟨rfl, rfl, rfl⟩ := hcs
    exact Nat.le_refl _
  · simp [Value.cells] at hcs
    obtain ⟨rfl, rfl, rfl⟩ := hcs
    exact hl
theorem cellsCtl : Tryz.prog.cellsOf 63 = 15 := by kernel_rfl
theorem array15 {cs : Array Value} (h : cs.size = 15) : ∃ x0 x1 x2 x3 x4 x5 x6 x7 x8 x9 x10 x11 x12 x13 x14, cs = #[x0, x1, x2, x3, x4, x5, x6, x7, x8, x9, x10, x11, x12, x13, x14] := by
  obtain ⟨l⟩ := cs
  match l, h with
  | [x0, x1, x2, x3, x4, x5, x6, x7, x8, x9, x10, x11, x12, x13, x14], _ => exact ⟨x0, x1, x2, x3, x4, x5, x6, x7, x8, x9, x10, x11, x12, x13, x14, rfl⟩
theorem list15 {α : Type} {l : List α} (h : l.length = 15) : ∃ x0 x1 x2 x3 x4 x5 x6 x7 x8 x9 x10 x11 x12 x13 x14, l = [x0, x1, x2, x3, x4, x5, x6, x7, x8, x9, x10, x11, x12, x13, x14] := by
  match l, h with
  | [x0, x1, x2, x3, x4, x5, x6, x7, x8, x9, x10, x11, x12, x13, x14], _ => exact ⟨x0, x1, x2, x3, x4, x5, x6, x7, x8, x9, x10, x11, x12, x13, x14, rfl⟩

set_option maxRecDepth 100000 in
theorem ctl_arg {H : Type} {enc : TypeId × Value → H} {W : World} {r : Reach} {b0 : Nat} {v : Value} {d : DataW H} {p : List MemPlace} (hv : Value.okWide Tryz.prog W r b0 63 v)
    (h : DataW.Trod enc Tryz.prog W 0 (fun _ => true) true 63 v d p) :
    ∃ c : Ctl, v = .agg (ctlA c) ∧ i64C c := by
  obtain ⟨cs, rfl, hcz⟩ := okWide_struct Tryz.underlying63 hv
  obtain ⟨c0, c1, c2, c3, c4, c5, c6, c7, c8, c9, c10, c11, c12, c13, c14, rfl⟩ := array15 (hcz.trans cellsCtl)
  obtain ⟨fuel, hf⟩ := h
  obtain ⟨xs, n, -, hx, -, hxl, hfs⟩ := DataW.trod_struct Tryz.underlying63 hf
  obtain ⟨y0, y1, y2, y3, y4, y5, y6, y7, y8, y9, y10, y11, y12, y13, y14, rfl⟩ := list15 hxl
  have g0 := hfs 0 _ rfl
  have g1 := hfs 1 _ rfl
  have g2 := hfs 2 _ rfl
  have g3 := hfs 3 _ rfl
  have g4 := hfs 4 _ rfl
  have g5 := hfs 5 _ rfl
  have g6 := hfs 6 _ rfl
  have g7 := hfs 7 _ rfl
  have g8 := hfs 8 _ rfl
  have g9 := hfs 9 _ rfl
  have g10 := hfs 10 _ rfl
  have g11 := hfs 11 _ rfl
  have g12 := hfs 12 _ rfl
  have g13 := hfs 13 _ rfl
  have g14 := hfs 14 _ rfl
  have k2 : Tryz.prog.cellsOf 2 = 1 := by kernel_rfl
  have k3 : Tryz.prog.cellsOf 4 = 1 := by kernel_rfl
  simp [Value.cells, k2] at g0 g1 g2 g3 g4 g5
  simp [Value.cells, k3] at g6 g7 g8 g9 g10 g11 g12 g13 g14
  obtain ⟨s0, e0, -, w0⟩ := DataW.trod_int Tryz.underlying2 g0
  obtain ⟨s1, e1, -, w1⟩ := DataW.trod_int Tryz.underlying2 g1
  obtain ⟨s2, e2, -, w2⟩ := DataW.trod_int Tryz.underlying2 g2
  obtain ⟨s3, e3, -, w3⟩ := DataW.trod_int Tryz.underlying2 g3
  obtain ⟨s4, e4, -, w4⟩ := DataW.trod_int Tryz.underlying2 g4
  obtain ⟨s5, e5, -, w5⟩ := DataW.trod_int Tryz.underlying2 g5
  obtain ⟨s6, e6, -⟩ := DataW.trod_bool Tryz.underlying4 g6
  obtain ⟨s7, e7, -⟩ := DataW.trod_bool Tryz.underlying4 g7
  obtain ⟨s8, e8, -⟩ := DataW.trod_bool Tryz.underlying4 g8
  obtain ⟨s9, e9, -⟩ := DataW.trod_bool Tryz.underlying4 g9
  obtain ⟨s10, e10, -⟩ := DataW.trod_bool Tryz.underlying4 g10
  obtain ⟨s11, e11, -⟩ := DataW.trod_bool Tryz.underlying4 g11
  obtain ⟨s12, e12, -⟩ := DataW.trod_bool Tryz.underlying4 g12
  obtain ⟨s13, e13, -⟩ := DataW.trod_bool Tryz.underlying4 g13
  obtain ⟨s14, e14, -⟩ := DataW.trod_bool Tryz.underlying4 g14
  simp only [List.cons.injEq, and_true] at e0 e1 e2 e3 e4 e5 e6 e7 e8 e9 e10 e11 e12 e13 e14
  subst e0 e1 e2 e3 e4 e5 e6 e7 e8 e9 e10 e11 e12 e13 e14
  have bb0 := bounds_i64 w0
  have b1 := bounds_i64 w1
  have b2 := bounds_i64 w2
  have b3 := bounds_i64 w3
  have b4 := bounds_i64 w4
  have b5 := bounds_i64 w5
  exact ⟨⟨s0, s1, s2, s3, s4, s5, s6, s7, s8, s9, s10, s11, s12, s13, s14⟩, rfl, bb0.2, b1.2, b2.2, b3.2, b4.2, b5.2⟩
end Tk
end Go.Proofs.YtnbipbeeengiaaaGreatDoor
