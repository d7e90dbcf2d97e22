/- Arguments that are limits, or lists of numbers; the variable strconv.ErrSyntax off what a row lists. -/
import Derived.Test.YtpcdaaijlgilkaaGreatDoorQArgs0
import Derived.Test.YtpcdaaijlgilkaaGreatDoorQB
import Derived.Lib.SmallJoins
import Derived.Stop.LaidErr
import Derived.ProofKit
import Derived.OpenShut
namespace Go.Proofs.YtpcdaaijlgilkaaGreatDoor
open Go.RowKit Go.ChangeShapes Go.WideShapes Go.Joins
namespace Tk

theorem cellsLim : Tryz.prog.cellsOf 24 = 4 := by kernel_rfl
theorem cellsInt : Tryz.prog.cellsOf 3 = 1 := by kernel_rfl
theorem bytesInt : Tryz.prog.bytesOf 3 = 8 := by kernel_rfl

set_option maxRecDepth 100000 in
theorem lims_arg {H : Type} {enc : TypeId × Value → H} {W : World} {r : Reach} {b0 : Nat} {v : Value} {d : DataW H} {p : List MemPlace} (hv : Value.okWide Tryz.prog W r b0 24 v)
    (h : DataW.Trod enc Tryz.prog W 0 (fun _ => true) true 24 v d p) :
    ∃ L X C M : Int, v = .agg #[.int .i64 L, .int .i64 X, .int .i64 C, .int .i64 M] ∧ d = .agg [.lit (.int .i64 L), .lit (.int .i64 X), .lit (.int .i64 C), .lit (.int .i64 M)] ∧ p = [] ∧
      (Lit.int .i64 L).wf = true ∧ (Lit.int .i64 X).wf = true ∧ (Lit.int .i64 C).wf = true ∧ (Lit.int .i64 M).wf = true := by
  obtain ⟨v0, v1, v2, v3, y0, y1, y2, y3, n, rfl, rfl, rfl, h0, h1, h2, h3⟩ := open_agg4 Tryz.underlying24 (by kernel_rfl) cellsLim hv h
  obtain ⟨L, e0, rfl, w0⟩ := DataW.trod_int Tryz.underlying3 h0
  obtain ⟨X, e1, rfl, w1⟩ := DataW.trod_int Tryz.underlying3 h1
  obtain ⟨C, e2, rfl, w2⟩ := DataW.trod_int Tryz.underlying3 h2
  obtain ⟨M, e3, rfl, w3⟩ := DataW.trod_int Tryz.underlying3 h3
  simp only [List.cons.injEq, and_true] at e0 e1 e2 e3
  subst e0 e1 e2 e3
  exact ⟨L, X, C, M, rfl, rfl, rfl, w0, w1, w2, w3⟩
theorem lims_shut {H : Type} {enc : TypeId × Value → H} {W : World} {base : Nat} {spare : Nat → Bool} {held : Bool} {L X C M : Int} (w0 : (Lit.int .i64 L).wf = true) (w1 : (Lit.int .i64 X).wf = true) (w2 : (Lit.int .i64 C).wf = true) (w3 : (Lit.int .i64 M).wf = true) :
    DataW.Trod enc Tryz.prog W base spare held 24 (.agg #[.int .i64 L, .int .i64 X, .int .i64 C, .int .i64 M]) (.agg [.lit (.int .i64 L), .lit (.int .i64 X), .lit (.int .i64 C), .lit (.int .i64 M)]) [] :=
  shut_agg4 (y0 := (_, [])) (y1 := (_, [])) (y2 := (_, [])) (y3 := (_, [])) Tryz.underlying24 (by kernel_rfl) cellsLim (field_of_Trod (shut_int Tryz.underlying3 w0) rfl) (field_of_Trod (shut_int Tryz.underlying3 w1) rfl) (field_of_Trod (shut_int Tryz.underlying3 w2) rfl) (field_of_Trod (shut_int Tryz.underlying3 w3) rfl)

/-- a slice that holds these numbers -/
def IsInts (w : World) (v : Value) (l : List Int) : Prop :=
  ∃ (a : Option Addr) (c : Nat), v = .slice a l.length c ∧ ∀ j, j < l.length → ∃ b o, a = some ⟨b, o, none⟩ ∧ w.cell? ⟨b, o + j, none⟩ = some (.int .i64 (l.getD j 0))
theorem isInts_below {w w' : World} {v : Value} {l : List Int} (h : IsInts w v l) (hb : Below w.heap.size w w') : IsInts w' v l := by
  obtain ⟨a, c, rfl, hc⟩ := h
  refine ⟨a, c, rfl, fun j hj => ?_⟩
  obtain ⟨b, o, rfl, h1⟩ := hc j hj
  refine ⟨b, o, rfl, (hb.cell (p := ⟨b, o + j, none⟩) ?_).trans h1⟩
  refine Nat.lt_of_not_le fun hle => ?_
  simp only [World.cell?, Array.getElem?_eq_none hle] at h1
  cases h1
theorem ints_arg {H : Type} {enc : TypeId × Value → H} {W : World} {v : Value} {d : DataW H} {p : List MemPlace} {a0 : Option Addr} {n0 c0 : Nat} (hv : v = .slice a0 n0 c0)
    (h : DataW.Trod enc Tryz.prog W 0 (fun _ => true) true 45 v d p) : ∃ l : List Int, IsInts W v l ∧ ∀ x ∈ l, (Lit.int .i64 x).wf = true := by
  subst hv
  obtain ⟨fuel, hf⟩ := h
  rcases open_ints Tryz.underlying45 Tryz.underlying3 cellsInt hf with ⟨hcs, hx⟩ | ⟨a, len, cap, zs, hcs, _, hl, hm, hz, hx, hcell, hw⟩
  · simp [Value.cells] at hcs
    obtain ⟨rfl, rfl, rfl⟩ := hcs
    exact ⟨[], ⟨none, 0, rfl, fun j hj => by simp at hj⟩, by simp⟩
  · simp [Value.cells] at hcs
    obtain ⟨rfl, rfl, rfl⟩ := hcs
    simp only [if_true] at hz

    refine ⟨zs.take n0, ⟨some a, _, by rw [List.length_take, Nat.min_eq_left (by omega)], fun j hj => ?_⟩, fun x hx => hw x (List.mem_of_mem_take hx)⟩
    rw [List.length_take, Nat.min_eq_left (by omega)] at hj
    obtain ⟨b, o, spot⟩ := a
    have h0 := hcell 0 (by omega)
    have hsp : spot = none := by simpa [Addr.add] using World.cell?_spot h0
    subst hsp
    refine ⟨b, o, rfl, ?_⟩
    rw [← Go.WideShapes.add_plain, hcell j (by omega)]
    simp [List.getD, hj]

theorem gErr : Tryz.prog.globalNamed "strconv.ErrSyntax" = some 6 := by kernel_rfl
theorem gErrType : (Tryz.prog.globals[6]?).map (·.type) = some 74 := by kernel_rfl
theorem star : "*" ++ "errors.errorString" = "*errors.errorString" := by decide
theorem errRow (u : TypeId) (h : Tryz.prog.typeName? 3 u = some "*errors.errorString") : u = 204 :=
  typeName_ptr_named (nm := "errors.errorString") (by rw [star]; kernel_rfl) (by kernel_rfl) (by decide) u (by rw [star]; exact h)
theorem cellsErr : Tryz.prog.cellsOf 206 = 1 := by kernel_rfl

theorem errv_of {W : World} {text : List UInt8} {r : List (String × DataW Unit)} (h : laidMet Tryz.prog (("strconv.ErrSyntax", .iface "*errors.errorString" (.ptr (.agg [.lit (.string text)]))) :: r) W) : ErrV W.heap.size W := by
  obtain ⟨a1, s1, hv1, hc1, hs1, hz1⟩ := laid_sentinel h gErr gErrType Tryz.underlying74 errRow Tryz.underlying204 Tryz.underlying206 rfl rfl Tryz.underlying9 cellsErr cellsStr
  have hg1 : W.cell? ⟨6, 0, none⟩ = some (.iface 204 (.pointer (some a1))) := by simpa using World.var?_cell gErr hv1 0
  exact ⟨World.block_lt_of_cell? _ _ hg1, Nat.le_refl _, _, _, hg1⟩
end Tk
end Go.Proofs.YtpcdaaijlgilkaaGreatDoor
