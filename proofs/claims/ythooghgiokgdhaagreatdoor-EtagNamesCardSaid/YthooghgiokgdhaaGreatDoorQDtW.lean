/- date: the tables' premise in a card, with the world's shape. -/
import Derived.Test.YthooghgiokgdhaaGreatDoorQL
import Derived.Lib.LaidTab
import Derived.Shelf.Vars
import Derived.SizedLaws
import Derived.ProofKit
import Derived.LaidMore
namespace Go.Proofs.YthooghgiokgdhaaGreatDoor
open Go.RowKit Go.ChangeShapes Go.WideShapes
namespace Tk

theorem laid_atD {P : Program} {W : World} : ∀ {l : List (String × DataW Unit)} {ps : List MemPlace}, DataW.LaidVars P W l ps → ∀ (n : String) (d : DataW Unit), (n, d) ∈ l →
    ∃ g t cs fuel p, P.globalNamed n = some g ∧ (P.globals[g]?).map (·.type) = some t ∧ W.var? P n = some cs ∧ DataW.trod (fun _ => ()) P W 0 (fun _ => true) false fuel t cs.toList = some (d, p)
  | [], _, _, n, d, h => by simp at h
  | (m, e) :: r, ps, h, n, d, hm => by
    obtain ⟨g, t, cs, fuel, p, q, h1, h2, h3, h4, h5, -⟩ := h
    rcases List.mem_cons.1 hm with hm | hm
    · injection hm with a b
      subst a b
      exact ⟨g, t, cs, fuel, p, h1, h2, h3, h4⟩
    · exact laid_atD h5 n d hm
/-- an array of texts that reads as these texts holds them, cell for cell -/
theorem cells_of_strs {H : Type} {enc : TypeId × Value → H} {P : Program} {w : World} {base : Nat} {sp : Nat → Bool} {held : Bool} {fuel : Nat} {t e : TypeId} {n : Nat} {cs : List Value} {zs : List Bs} {p : List MemPlace}
    (ht : P.underlying t = some (.array n e)) (he : P.underlying e = some .string) (hce : P.cellsOf e = 1) (hct : P.cellsOf t = n)
    (h : DataW.trod enc P w base sp held fuel t cs = some (.agg (zs.map fun z => .lit (.string z)), p)) : cs = zs.map fun z => Value.string (mkS z) := by
  cases fuel with
  | zero => simp [DataW.trod] at h
  | succ fuel =>
    simp only [DataW.trod, ht, hce, hct, Nat.mul_one] at h
    split at h
    · rename_i hl
      obtain ⟨xs, hm, hx⟩ := Option.map_eq_some_iff.1 h
      have hxs : xs.map (·.1) = zs.map fun z => (DataW.lit (.string z) : DataW H) := by
        have := congrArg Prod.fst hx
        simpa using this
      have hxl : xs.length = n := by simpa using Lib.mapM_length hm
      have hzl : zs.length = n := by
        have := congrArg List.length hxs
        simp at this
        omega
      apply List.ext_getElem?
      intro i
      by_cases hi : i < n
      · obtain ⟨b, hb, hf⟩ := Lib.mapM_at hm i i (by simp [hi])
        obtain ⟨s, hc, rfl, _⟩ := DataW.trod_string he hf
        have h1 : cs[i]? = some (.string s) := by
          have := congrArg (·[0]?) hc
          simpa [List.getElem?_take, List.getElem?_drop] using this
        have h2 : (xs.map (·.1))[i]? = some (DataW.lit (.string s.data.toList) : DataW H) := by simp [hb]
        rw [hxs] at h2
        simp only [List.getElem?_map, Option.map_eq_some_iff, DataW.lit.injEq, Lit.string.injEq] at h2
        obtain ⟨z', hz', hz2⟩ := h2
        rw [List.getElem?_map, hz', h1, hz2]
        show some (Value.string s) = some (Value.string (mkS (bs s)))
        rw [mkS_bs]
      · rw [List.getElem?_eq_none (by omega), List.getElem?_eq_none (by simp; omega)]
    · cases h

def strsD (l : List Bs) : DataW Unit := .agg (l.map fun z => .lit (.string z))
theorem heap_of_var {P : Program} {w : World} {n : String} {g : Nat} {cs : Array Value} (hg : P.globalNamed n = some g) (h : w.var? P n = some cs) : ∃ t fr, w.heap[g]? = some (.cells cs t fr) := by
  simp only [World.var?, hg, Option.bind_some] at h
  split at h
  · rename_i c t fr hh
    obtain rfl := Option.some.inj h
    exact ⟨t, fr, hh⟩
  · cases h
theorem gDay : Tryz.prog.globalNamed "halfwayhouse/date.dayNames" = some 0 := by kernel_rfl
theorem gMon : Tryz.prog.globalNamed "halfwayhouse/date.monthNames" = some 1 := by kernel_rfl
theorem gTenTypeD : (Tryz.prog.globals[2]?).map (·.type) = some 277 := by kernel_rfl
theorem gDayType : (Tryz.prog.globals[0]?).map (·.type) = some 247 := by kernel_rfl
theorem gMonType : (Tryz.prog.globals[1]?).map (·.type) = some 248 := by kernel_rfl
theorem cellsU64D : Tryz.prog.cellsOf 239 = 1 := by kernel_rfl
theorem cellsTensD : Tryz.prog.cellsOf 277 = 20 := by kernel_rfl
theorem cellsStrD : Tryz.prog.cellsOf 9 = 1 := by kernel_rfl
theorem cellsDayD : Tryz.prog.cellsOf 247 = 7 := by kernel_rfl
theorem cellsMonD : Tryz.prog.cellsOf 248 = 12 := by kernel_rfl

theorem namH_of {l : List (String × DataW Unit)} {W : World} (h : laidMet Tryz.prog l W) (h1 : ("internal/strconv.uint64pow10", Lib.tabData .u64 Lib.pow10Tab) ∈ l) (h2 : ("halfwayhouse/date.dayNames", strsD dN) ∈ l) (h3 : ("halfwayhouse/date.monthNames", strsD mN) ∈ l) (hsh : W.ShapedOpen Tryz.prog) : NamH W := by
  obtain ⟨ps, hl, -⟩ := h
  have hx := cell_of_shapedOpen_int (g := 3) (zero := #[.int .i64 0]) (t := 3) hsh (of_decide_eq_true (by kernel_rfl)) (by kernel_rfl) rfl (by kernel_rfl) (by kernel_rfl) Tryz.underlying3
  obtain ⟨g', t', cs', fuel', p', b1, b2, b3, b4⟩ := laid_atD hl _ _ h1
  obtain rfl := Option.some.inj (gTenD.symm.trans b1)
  obtain rfl := Option.some.inj (gTenTypeD.symm.trans b2)
  have hcs := Lib.cells_of_tab Tryz.underlying277 Tryz.underlying239 cellsU64D cellsTensD b4
  obtain ⟨_, _, hh⟩ := heap_of_var b1 b3
  obtain ⟨g2, t2, cs2, fuel2, p2, d1, d2, d3, d4⟩ := laid_atD hl _ _ h2
  obtain rfl := Option.some.inj (gDay.symm.trans d1)
  obtain rfl := Option.some.inj (gDayType.symm.trans d2)
  have hcd := cells_of_strs Tryz.underlying247 Tryz.underlying9 cellsStrD cellsDayD d4
  obtain ⟨td, fd, hd⟩ := heap_of_var d1 d3
  obtain ⟨g3, t3, cs3, fuel3, p3, m1, m2, m3, m4⟩ := laid_atD hl _ _ h3
  obtain rfl := Option.some.inj (gMon.symm.trans m1)
  obtain rfl := Option.some.inj (gMonType.symm.trans m2)
  have hcm := cells_of_strs Tryz.underlying248 Tryz.underlying9 cellsStrD cellsMonD m4
  obtain ⟨tm, fm, hm⟩ := heap_of_var m1 m3
  have q : ∀ {g : Nat} {o : Obj}, W.heap[g]? = some o → g < W.heap.size := fun e => (Array.getElem?_eq_some_iff.1 e).1
  refine ⟨⟨q hh, q hd, q hm, ?_⟩, by unfold Lib.TabIs; rw [b3, ← hcs], ⟨td, fd, ?_⟩, ⟨tm, fm, ?_⟩, hx⟩
  · obtain ⟨m, hx⟩ := hx
    refine Nat.lt_of_not_le fun hle => ?_
    simp only [World.cell?, Array.getElem?_eq_none hle] at hx
    cases hx
  · rw [hd, ← hcd]
  · rw [hm, ← hcm]

/-- the wrap of a change with a premise of its own on the world, the world's shape kept -/
theorem wrap_shaped {H : Type} {enc : TypeId × Value → H} {a : Assume} {C : Checked} {os : Os} {f : FuncId} {fn : Func} {s : ChangeSpec} {conds : List PathCond} {apart fresh handsOn again : Bool} {X : World → Array Value → Prop}
    (hX : ∀ (w w' : World) (args : Array Value), w.heap = w'.heap → X w args → X w' args)
    (own : ownKnob C.prog.godebug = none) (started : os.Started) (noInit : C.prog.inits.idxOf? f = none) (hfn : C.prog.funcs[f]? = some fn)
    (witness : ∃ (w : World) (tape : Tape) (i : Input), w.os = os ∧ (w.forCall tape i).Shaped C.prog ∧ i.vars = [] ∧ Input.okWide C.prog (w.forCall tape i) .any w.heap.size f i ∧
      ((s.pre enc C.prog fn conds apart (w.forCall tape i).memory i.args ∧ X (w.forCall tape i).memory i.args) ∧ sizedMet enc C.prog fn (OpenSpec.ofChange s) apart (w.forCall tape i).memory i.args) ∧ a.holds C.prog (lone (Frame.enter C.prog f i.args .normal) [] (w.forCall tape i)))
    (contract : ∀ (W : World) (base : Nat) (args : Array Value) (ds gs : List (DataW H)) (before : List MemPlace),
      (∀ (j : Nat) t v, fn.params[j]? = some t → args[j]? = some v → Value.okWide C.prog W .any base t v) →
      DataW.Whole enc C.prog fn.params.toList s.vars apart W args.toList ds gs before →
      conds.all (PathCond.test C.prog ⟨fn.params.toList, ds, s.plain.varTypes C.prog, gs⟩) = true →
      (DataW.weightsEach C.prog (fn.params.toList ++ s.plain.varTypes C.prog) (ds ++ gs)).all (· ≤ reachBytes) = true → X W args → W.ShapedOpen C.prog →
      Calls C.prog f args W fun e W' => ∃ v, e = .returned v ∧ s.post enc C.prog fn apart fresh handsOn again W args v W') :
    ReturnsInHanded a C os f .any (fun w args => (s.pre enc C.prog fn conds apart w args ∧ X w args) ∧ sizedMet enc C.prog fn (OpenSpec.ofChange s) apart w args) (s.post enc C.prog fn apart fresh handsOn again) := by
  refine returnsInHanded_of_calls own started noInit witness ?_
  intro w tape i _ hsh _ hok hpre hholds
  obtain ⟨_, _, _, fn', hfn', _, _, _, _, hval⟩ := hok
  have e : fn' = fn := Option.some.inj (hfn'.symm.trans hfn)
  subst e
  obtain ⟨⟨⟨ds, gs, before, hw, hc⟩, hx⟩, hz⟩ := hpre
  have hw' := DataW.Whole.of_heap (w' := w.forCall tape i) (by rfl) hw
  refine (contract (w.forCall tape i) w.heap.size i.args ds gs before hval hw' hc (hz.weights hw) (hX _ _ _ (by rfl) hx) hsh).mono fun e W' ⟨v, he, hp⟩ => ?_
  subst he
  exact ChangeSpec.post_blind hp
end Tk
end Go.Proofs.YthooghgiokgdhaaGreatDoor
