/- Args0 ArgL ArgF, put together. -/
import Derived.Test.YtanilbckakoogaaGreatDoorBase
import Derived.SizedLaws
import Derived.Carry
import Derived.Test.YtanilbckakoogaaGreatDoorChkT
import Derived.Lib.SmallJoins
import Derived.Stop.LaidErr
import Derived.ProofKit
import Derived.OpenShut
import Derived.Test.YtanilbckakoogaaGreatDoorFldM
import Derived.Deep.SlicePairs
namespace Go.Proofs.YtanilbckakoogaaGreatDoor
open Go.RowKit Go.ChangeShapes Go.WideShapes
namespace Tk

theorem all_mem {H : Type} {P : Program} {e : TypeId} : ∀ {l : List (DataW H)} {d : DataW H}, d ∈ l → ∀ n ∈ d.weights P e, n ∈ DataW.weightsAll P e l
  | d' :: r, d, hd, n, hn => by
    simp only [DataW.weightsAll, List.mem_append]
    rcases List.mem_cons.1 hd with rfl | h
    · exact Or.inl hn
    · exact Or.inr (all_mem h n hn)

theorem laidOut : laidOutB Tryz.prog = true := by kernel_rfl
theorem cellsStr : Tryz.prog.cellsOf 9 = 1 := by kernel_rfl
theorem bytesStr : Tryz.prog.bytesOf 9 = 16 := by kernel_rfl

end Tk
end Go.Proofs.YtanilbckakoogaaGreatDoor
namespace Go.Proofs.YtanilbckakoogaaGreatDoor
open Go.RowKit Go.ChangeShapes Go.WideShapes Go.Joins
namespace Tk

theorem cellsLim : Tryz.prog.cellsOf 34 = 4 := by kernel_rfl
theorem cellsInt : Tryz.prog.cellsOf 3 = 1 := by kernel_rfl
theorem bytesInt : Tryz.prog.bytesOf 3 = 8 := by kernel_rfl

set_option maxRecDepth 100000 in
theorem lims_arg {H : Type} {enc : TypeId × Value → H} {W : World} {r : Reach} {b0 : Nat} {v : Value} {d : DataW H} {p : List MemPlace} (hv : Value.okWide Tryz.prog W r b0 34 v)
    (h : DataW.Trod enc Tryz.prog W 0 (fun _ => true) true 34 v d p) :
    ∃ L X C M : Int, v = .agg #[.int .i64 L, .int .i64 X, .int .i64 C, .int .i64 M] ∧ d = .agg [.lit (.int .i64 L), .lit (.int .i64 X), .lit (.int .i64 C), .lit (.int .i64 M)] ∧ p = [] ∧
      (Lit.int .i64 L).wf = true ∧ (Lit.int .i64 X).wf = true ∧ (Lit.int .i64 C).wf = true ∧ (Lit.int .i64 M).wf = true := by
  obtain ⟨v0, v1, v2, v3, y0, y1, y2, y3, n, rfl, rfl, rfl, h0, h1, h2, h3⟩ := open_agg4 Tryz.underlying34 (by kernel_rfl) cellsLim hv h
  obtain ⟨L, e0, rfl, w0⟩ := DataW.trod_int Tryz.underlying3 h0
  obtain ⟨X, e1, rfl, w1⟩ := DataW.trod_int Tryz.underlying3 h1
  obtain ⟨C, e2, rfl, w2⟩ := DataW.trod_int Tryz.underlying3 h2
  obtain ⟨M, e3, rfl, w3⟩ := DataW.trod_int Tryz.underlying3 h3
  simp only [List.cons.injEq, and_true] at e0 e1 e2 e3
  subst e0 e1 e2 e3
  exact ⟨L, X, C, M, rfl, rfl, rfl, w0, w1, w2, w3⟩
theorem lims_shut {H : Type} {enc : TypeId × Value → H} {W : World} {base : Nat} {spare : Nat → Bool} {held : Bool} {L X C M : Int} (w0 : (Lit.int .i64 L).wf = true) (w1 : (Lit.int .i64 X).wf = true) (w2 : (Lit.int .i64 C).wf = true) (w3 : (Lit.int .i64 M).wf = true) :
    DataW.Trod enc Tryz.prog W base spare held 34 (.agg #[.int .i64 L, .int .i64 X, .int .i64 C, .int .i64 M]) (.agg [.lit (.int .i64 L), .lit (.int .i64 X), .lit (.int .i64 C), .lit (.int .i64 M)]) [] :=
  shut_agg4 (y0 := (_, [])) (y1 := (_, [])) (y2 := (_, [])) (y3 := (_, [])) Tryz.underlying34 (by kernel_rfl) cellsLim (field_of_Trod (shut_int Tryz.underlying3 w0) rfl) (field_of_Trod (shut_int Tryz.underlying3 w1) rfl) (field_of_Trod (shut_int Tryz.underlying3 w2) rfl) (field_of_Trod (shut_int Tryz.underlying3 w3) rfl)

/-- a slice that holds these numbers -/
def IsInts (w : World) (v : Value) (l : List Int) : Prop :=
  ∃ (a : Option Addr) (c : Nat), v = .slice a l.length c ∧ ∀ j, j < l.length → ∃ b o, a = some ⟨b, o, none⟩ ∧ w.cell? ⟨b, o + j, none⟩ = some (.int .i64 (l.getD j 0))
theorem isInts_below {w w' : World} {v : Value} {l : List Int} (h : IsInts w v l) (hb : Below w.heap.size w w') : IsInts w' v l := by
  obtain ⟨a, c, rfl, hc⟩ := h
  refine ⟨a, c, rfl, fun j hj => ?_⟩
  obtain ⟨b, o, rfl, h1⟩ := hc j hj
  refine ⟨b, o, rfl, (hb.cell (p := ⟨b, o + j, none⟩) ?_).trans h1⟩
  refine Nat.lt_of_not_le fun hle => ?_
  simp only [World.cell?, Array.getElem?_eq_none hle] at h1
  cases h1
theorem gErr : Tryz.prog.globalNamed "strconv.ErrSyntax" = some 2 := by kernel_rfl
theorem gErrType : (Tryz.prog.globals[2]?).map (·.type) = some 47 := by kernel_rfl
theorem star : "*" ++ "errors.errorString" = "*errors.errorString" := by decide
theorem errRow (u : TypeId) (h : Tryz.prog.typeName? 3 u = some "*errors.errorString") : u = 112 :=
  typeName_ptr_named (nm := "errors.errorString") (by rw [star]; kernel_rfl) (by kernel_rfl) (by decide) u (by rw [star]; exact h)
theorem cellsErr : Tryz.prog.cellsOf 114 = 1 := by kernel_rfl

theorem errv_of {W : World} {text : List UInt8} {r : List (String × DataW Unit)} (h : laidMet Tryz.prog (("strconv.ErrSyntax", .iface "*errors.errorString" (.ptr (.agg [.lit (.string text)]))) :: r) W) : ErrV W.heap.size W := by
  obtain ⟨a1, s1, hv1, hc1, hs1, hz1⟩ := laid_sentinel h gErr gErrType Tryz.underlying47 errRow Tryz.underlying112 Tryz.underlying114 rfl rfl Tryz.underlying9 cellsErr cellsStr
  have hg1 : W.cell? ⟨2, 0, none⟩ = some (.iface 112 (.pointer (some a1))) := by simpa using World.var?_cell gErr hv1 0
  exact ⟨World.block_lt_of_cell? _ _ hg1, Nat.le_refl _, _, _, hg1⟩
end Tk
end Go.Proofs.YtanilbckakoogaaGreatDoor
namespace Go.Proofs.YtanilbckakoogaaGreatDoor
open Go.RowKit Go.ChangeShapes Go.WideShapes Go.Deep
namespace Tk

theorem cellsFld : Tryz.prog.cellsOf 40 = 2 := by kernel_rfl
theorem bytesFld : Tryz.prog.bytesOf 40 = 32 := by kernel_rfl

/-- the reach, of the texts of a field inside a list of fields -/
theorem sized_fld {H : Type} {P : Program} {ts : List TypeId} {ds : List (DataW H)} (h : (DataW.weightsEach P ts ds).all (· ≤ reachBytes) = true) {j : Nat} {t e : TypeId} {elems spare : List (DataW H)} {f0 f1 : Field} {x y : List UInt8}
    (ht : ts[j]? = some t) (hd : ds[j]? = some (.slice elems spare)) (hu : P.underlying t = some (.slice e)) (he : P.underlying e = some (.struct #[f0, f1])) (hx : DataW.agg [.lit (.string x), .lit (.string y)] ∈ elems) : x.length ≤ 140737488351232 ∧ y.length ≤ 140737488351232 := by
  have key : ∀ n ∈ DataW.weights P e (.agg [.lit (.string x), .lit (.string y)] : DataW H), n ≤ reachBytes := fun n hn => by
    refine of_decide_eq_true (List.all_eq_true.1 h _ (DataW.weights_mem_each ht hd n ?_))
    simp only [DataW.weights, hu, List.mem_cons, List.mem_append]
    exact Or.inr (Or.inl (all_mem hx _ hn))
  exact ⟨key x.length (by simp [DataW.weights, he, DataW.weightsEach]), key y.length (by simp [DataW.weights, he, DataW.weightsEach])⟩

def fldD {H : Type} (f : Bs × Bs) : DataW H := .agg [.lit (.string f.1), .lit (.string f.2)]

theorem flds_arg {H : Type} {enc : TypeId × Value → H} {W : World} {v : Value} {d : DataW H} {p : List MemPlace} {a0 : Option Addr} {n0 c0 : Nat} (hv : v = .slice a0 n0 c0)
    (h : DataW.Trod enc Tryz.prog W 0 (fun _ => true) true 22 v d p) :
    ∃ l : List (Bs × Bs), IsFlds W v l ∧ (l = [] ∨ ∃ spare, d = .slice (l.map fldD) spare) := by
  subst hv
  obtain ⟨fuel, hf⟩ := h
  rcases open_slice_pairs Tryz.underlying22 Tryz.underlying40 cellsFld rfl rfl cellsStr cellsStr hf with ⟨hcs, hx⟩ | ⟨a, len, cap, m, n, V0, V1, D0, D1, P0, P1, hcs, _, hl, hm, hmm, hx, hcell⟩
  · simp [Value.cells] at hcs
    obtain ⟨rfl, rfl, rfl⟩ := hcs
    exact ⟨[], ⟨none, 0, rfl, Nat.le_refl _, fun j t hj => by simp at hj⟩, .inl rfl⟩
  · simp [Value.cells] at hcs
    obtain ⟨rfl, rfl, rfl⟩ := hcs
    simp only [if_true] at hmm
    subst hmm
    simp only [Prod.mk.injEq] at hx
    have each : ∀ i, i < m → ∃ q : ByteArray × ByteArray, V0 i = .string q.1 ∧ V1 i = .string q.2 ∧ D0 i = .lit (.string q.1.data.toList) ∧ D1 i = .lit (.string q.2.data.toList) := by
      intro i hi
      obtain ⟨-, -, t0, t1⟩ := hcell i hi
      obtain ⟨s0, e0, x0, -⟩ := DataW.trod_string Tryz.underlying9 t0
      obtain ⟨s1, e1, x1, -⟩ := DataW.trod_string Tryz.underlying9 t1
      simp only [Prod.mk.injEq] at x0 x1
      exact ⟨(s0, s1), by simpa using e0, by simpa using e1, x0.1, x1.1⟩
    obtain ⟨Q, hQ⟩ := choose_lt each
    refine ⟨(List.range n0).map fun i => (bs (Q i).1, bs (Q i).2), ⟨some a, m, by simp, by simpa using hl, fun j t hj => ?_⟩, ?_⟩
    · have hjl : j < n0 := by
        have := (List.getElem?_eq_some_iff.1 hj).1
        simpa using this
      rw [List.getElem?_map, List.getElem?_range hjl] at hj
      injection hj with hj
      subst hj
      obtain ⟨b, o, spot⟩ := a
      obtain ⟨h0, h1, -, -⟩ := hcell j (by omega)
      have hsp : spot = none := by
        have := World.cell?_spot (hcell 0 (by omega)).1
        simpa [Addr.add] using this
      subst hsp
      obtain ⟨v0, v1, -, -⟩ := hQ j (by omega)
      refine ⟨b, o, rfl, ?_, ?_⟩
      · rw [mkS_bs, ← add_plain, h0, v0]
      · rw [mkS_bs, ← v1, ← h1, add_plain, Nat.add_assoc]
    · refine .inr ⟨_, hx.1.trans (congrArg (fun z => DataW.slice z _) ?_)⟩
      rw [List.map_map]
      refine List.map_congr_left fun i hi => ?_
      obtain ⟨-, -, d0, d1⟩ := hQ i (by have := List.mem_range.1 hi; omega)
      rw [d0, d1]; rfl
/-- a nil list of fields holds no room -/
theorem flds_nil {H : Type} {enc : TypeId × Value → H} {W : World} {v : Value} {d : DataW H} {p : List MemPlace}
    (h : DataW.Trod enc Tryz.prog W 0 (fun _ => true) true 22 v d p) : ∀ n c, v = .slice none n c → c = 0 := by
  rintro n0 c0 rfl
  obtain ⟨fuel, hf⟩ := h
  rcases open_slice_pairs Tryz.underlying22 Tryz.underlying40 cellsFld rfl rfl cellsStr cellsStr hf with ⟨hcs, -⟩ | ⟨a, len, cap, m, n, V0, V1, D0, D1, P0, P1, hcs, -⟩
  · simp [Value.cells] at hcs
    exact hcs.2
  · simp [Value.cells] at hcs
end Tk
end Go.Proofs.YtanilbckakoogaaGreatDoor
