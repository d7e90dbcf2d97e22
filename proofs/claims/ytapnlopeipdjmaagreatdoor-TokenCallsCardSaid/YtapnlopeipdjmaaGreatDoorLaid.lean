/- From what a row lists of the library's tables to what the walks ask. -/
import Derived.Test.YtapnlopeipdjmaaGreatDoorFfF
import Derived.Lib.LaidTab
import Derived.ProofKit
namespace Go.Proofs.YtapnlopeipdjmaaGreatDoor
open Go.RowKit Go.ChangeShapes
namespace Ff

/-- one variable off the list -/
theorem laid_at {P : Program} {W : World} : ∀ {l : List (String × DataW Unit)} {ps : List MemPlace}, DataW.LaidVars P W l ps → ∀ (n : String) (d : DataW Unit), (n, d) ∈ l →
    ∃ g t cs fuel p, P.globalNamed n = some g ∧ (P.globals[g]?).map (·.type) = some t ∧ W.var? P n = some cs ∧ DataW.trod (fun _ => ()) P W 0 (fun _ => true) false fuel t cs.toList = some (d, p)
  | [], _, _, n, d, h => by simp at h
  | (m, e) :: r, ps, h, n, d, hm => by
    obtain ⟨g, t, cs, fuel, p, q, h1, h2, h3, h4, h5, -⟩ := h
    rcases List.mem_cons.1 hm with hm | hm
    · injection hm with a b
      subst a b
      exact ⟨g, t, cs, fuel, p, h1, h2, h3, h4⟩
    · exact laid_at h5 n d hm

/-- a table of pairs of numbers: what its cells hold -/
theorem pair_at {P : Program} {W : World} {fuel : Nat} {t e f : TypeId} {n : Nat} {F0 F1 : Field} {cs : List Value} {rows : List (Nat × Nat)} {p : List MemPlace}
    (ht : P.underlying t = some (.array n e)) (he : P.underlying e = some (.struct #[F0, F1])) (hf : P.underlying f = some (.int .u64)) (f0 : F0.type = f) (f1 : F1.type = f) (o0 : F0.offset = 0) (o1 : F1.offset = 1)
    (hce : P.cellsOf e = 2) (hcf : P.cellsOf f = 1)
    (h : DataW.trod (fun _ => ()) P W 0 (fun _ => true) false fuel t cs = some (.agg (rows.map fun x => .agg [.lit (.int .u64 x.1), .lit (.int .u64 x.2)]), p)) (i a b : Nat) (hi : i < n) (hr : rows[i]? = some (a, b)) :
    cs[2 * i]? = some (.int .u64 a) ∧ cs[2 * i + 1]? = some (.int .u64 b) := by
  cases fuel with
  | zero => simp [DataW.trod] at h
  | succ fuel =>
    simp only [DataW.trod, ht, hce] at h
    split at h
    · obtain ⟨xs, hm, hx⟩ := Option.map_eq_some_iff.1 h
      have hxs : xs.map (·.1) = rows.map fun x => (DataW.agg [.lit (.int .u64 x.1), .lit (.int .u64 x.2)] : DataW Unit) := by
        have := congrArg Prod.fst hx
        simpa using this
      obtain ⟨y, hy, hfy⟩ := Lib.mapM_at hm i i (by simp [hi])
      have h2 : (xs.map (·.1))[i]? = some (DataW.agg [.lit (.int .u64 a), .lit (.int .u64 b)] : DataW Unit) := by rw [hxs]; simp [hr]
      have hy1 : y.1 = DataW.agg [.lit (.int .u64 a), .lit (.int .u64 b)] := by
        rw [List.getElem?_map, hy] at h2
        simpa using h2
      obtain ⟨y0, y1, m, rfl, hl, t0, t1⟩ := trod_struct2 he hfy
      rw [f0, o0, hcf] at t0
      rw [f1, o1, hcf] at t1
      obtain ⟨n0, c0, rfl, -⟩ := DataW.trod_int hf t0
      obtain ⟨n1, c1, rfl, -⟩ := DataW.trod_int hf t1
      simp only [DataW.agg.injEq, List.cons.injEq, DataW.lit.injEq, Lit.int.injEq, true_and, and_true] at hy1
      obtain ⟨rfl, rfl⟩ := hy1
      have g0 := congrArg (·[0]?) c0
      have g1 := congrArg (·[0]?) c1
      simp only [List.getElem?_take, List.getElem?_drop, List.getElem?_cons_zero] at g0 g1
      constructor
      · rw [show 2 * i = i * 2 + (0 + 0) by omega]; simpa using g0
      · rw [show 2 * i + 1 = i * 2 + (1 + 0) by omega]; simpa using g1
    · cases h

set_option maxRecDepth 100000 in
theorem rows16 : Go.Pinned.pow10Rows[364]? = some (thi 16, 0) ∧ Go.Pinned.pow10Rows[365]? = some (thi 17, 0) ∧ Go.Pinned.pow10Rows[366]? = some (thi 18, 0) ∧ Go.Pinned.pow10Rows[367]? = some (thi 19, 0) := by decide +kernel

theorem gPow : Tryz.prog.globalNamed "internal/strconv.pow10Tab" = some 5 := by kernel_rfl
theorem gPowType : (Tryz.prog.globals[5]?).map (·.type) = some 125 := by kernel_rfl
theorem gTensType : (Tryz.prog.globals[3]?).map (·.type) = some 115 := by kernel_rfl
theorem cellsPair : Tryz.prog.cellsOf 124 = 2 := by kernel_rfl
theorem cellsU64 : Tryz.prog.cellsOf 73 = 1 := by kernel_rfl
theorem cellsTens : Tryz.prog.cellsOf 115 = 20 := by kernel_rfl

theorem tabs_of {l : List (String × DataW Unit)} {W : World} (h : laidMet Tryz.prog l W) (h1 : ("internal/strconv.pow10Tab", Go.Pinned.pow10Tab) ∈ l) (h2 : ("internal/strconv.uint64pow10", Lib.tabData .u64 Lib.pow10Tab) ∈ l) : Tabs W := by
  obtain ⟨ps, hl, -⟩ := h
  obtain ⟨g, t, cs, fuel, p, a1, a2, a3, a4⟩ := laid_at hl _ _ h1
  obtain rfl := Option.some.inj (gPow.symm.trans a1)
  obtain rfl := Option.some.inj (gPowType.symm.trans a2)
  obtain ⟨g', t', cs', fuel', p', b1, b2, b3, b4⟩ := laid_at hl _ _ h2
  obtain rfl := Option.some.inj (gTens.symm.trans b1)
  obtain rfl := Option.some.inj (gTensType.symm.trans b2)
  have key : ∀ (i a b : Nat), i < 696 → Go.Pinned.pow10Rows[i]? = some (a, b) → W.cell? ⟨5, 2 * i, none⟩ = some (.int .u64 a) ∧ W.cell? ⟨5, 2 * i + 1, none⟩ = some (.int .u64 b) := by
    intro i a b hi hr
    have := pair_at Tryz.underlying125 Tryz.underlying124 Tryz.underlying73 rfl rfl rfl rfl cellsPair cellsU64 a4 i a b hi hr
    rw [World.var?_cell gPow a3, World.var?_cell gPow a3]
    simpa using this
  obtain ⟨r16, r17, r18, r19⟩ := rows16
  have k16 := key 364 _ _ (by omega) r16
  have k17 := key 365 _ _ (by omega) r17
  have k18 := key 366 _ _ (by omega) r18
  have k19 := key 367 _ _ (by omega) r19
  have hbig : 5 < W.heap.size := by
    refine Nat.lt_of_not_le fun hle => ?_
    have h0 := k16.1
    simp only [World.cell?, Array.getElem?_eq_none hle] at h0
    cases h0
  refine ⟨⟨hbig, k16.1, k16.2, k17.1, k17.2, k18.1, k18.2, k19.1, k19.2⟩, ?_⟩
  unfold Lib.TabIs
  rw [b3, ← Lib.cells_of_tab Tryz.underlying115 Tryz.underlying73 cellsU64 cellsTens b4]
end Ff
end Go.Proofs.YtapnlopeipdjmaaGreatDoor
