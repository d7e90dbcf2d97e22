/- ControlBack: what is written is read as the same; what is read is valid; values apart and together give the same. -/
import Derived.Test.YtdmjpfmjfffmiaaDoorCtI
import Derived.Deep.Cut
namespace Go.Proofs.YtdmjpfmjfffmiaaDoor
open Go.RowKit
namespace Tk

theorem run_part {a : Option Addr} {b o : Nat} (w : World) (n c i : Nat) (ha : a = some ⟨b, o, none⟩) (hi : i < n) (hc : n ≤ c) :
    (Instr.slice 38 (.slice a n c) (some (.int .i64 (i : Int))) (some (.int .i64 ((i : Int) + 1))) none).run Tryd.prog w = .ok (.slice (some ⟨b, o + i, none⟩) 1 (c - i)) w := by
  subst ha
  have h1 : (0 : Int) ≤ (i : Int) := by omega
  have h2 : (i : Int) + 1 ≤ (c : Int) := by omega
  have h3 : (0 : Int) ≤ (i : Int) + 1 := by omega
  have h4 : ((i : Int) + 1).toNat = i + 1 := by omega
  have h6 : ¬ c = i := by omega
  have h8 : i + 1 - i = 1 := by omega
  simp [Instr.slice, run_underlying Tryd.underlying38, Instr.sliceBounds, Instr.sliceBound, asIntOf, go_sem, h1, h2, h3, h4, h6, h8, Tryd.sizeOf9]
theorem exec_part {ρ : Operand → Value} {o : Oper} {w : World} (x l h : Operand) (ho : o.op = .slice 38 x (some l) (some h) none) {a : Option Addr} {b f : Nat} (n c i : Nat)
    (hx : ρ x = .slice a n c) (hl : ρ l = .int .i64 (i : Int)) (hh : ρ h = .int .i64 ((i : Int) + 1)) (ha : a = some ⟨b, f, none⟩) (hi : i < n) (hc : n ≤ c) :
    (execOp ρ o).run Tryd.prog w = .ok (.value (.slice (some ⟨b, f + i, none⟩) 1 (c - i))) w := by
  have hrun := run_part w n c i ha hi hc
  have h2 : (Instr.sliceAt 38 (.slice a n c) (some (.int .i64 (i : Int))) (some (.int .i64 ((i : Int) + 1))) none).run Tryd.prog w = .ok (.slice (some ⟨b, f + i, none⟩) 1 (c - i)) w := by
    unfold Instr.sliceAt
    simp [hrun]
  simp [execOp, ho, hx, hl, hh, h2, Result.andThen]

theorem stepC_load_row {P : Program} {ops : Array Oper} {o : Oper} {a : Act} {w : World} {K : Act → World → Prop} {Q : Exit → Act → World → Prop} {E : Prop} (hgd : o.guard = none) (ty : TypeId) (x : Operand) (ho : o.op = .load ty x)
    (g : Nat) (hx : a.eval x = .pointer (some ⟨g, 0, none⟩)) (t : TypeId) (cs : Array Value) (fr : Nat × Nat) (d : TypeDesc) (hg : w.heap[g]? = some (.cells cs t fr))
    (hu : P.underlying ty = some d) (hd : (match d with | .struct _ | .array _ _ => true | _ => false) = true) (hi : (P.info? ty).map (·.size) = some cs.size)
    (h : K (a.put o.dst (.agg cs)) w) : if Region.wanted o (yielded ops a.tmps) = true then o.wp P a w K Q else E := by
  have hw : Region.wanted o (yielded ops a.tmps) = true := by simp [Region.wanted, hgd]
  rw [if_pos hw]
  exact wp_load_row ty x ho g hx t cs fr d hg hu hd hi h

theorem exec_neq {P : Program} {ρ : Operand → Value} {o : Oper} {w : World} {t t2 : TypeId} (x y : Operand) (ho : o.op = .binOp .neq t x y t2) (xs ys : Array Value) (b : Bool) (hx : ρ x = .agg xs) (hy : ρ y = .agg ys)
    (h : (binOp .neq t (.agg xs) (.agg ys)).run P w = .ok (.bool b) w) (hm : P.eqGuardType P.depth t = false) : (execOp ρ o).run P w = .ok (.value (.bool b)) w := by
  simp [execOp, ho, hx, hy, h, run_eqGuard_agg (P := P) w BinOp.neq t x y xs ys hm, Result.andThen]
theorem exec_eql {P : Program} {ρ : Operand → Value} {o : Oper} {w : World} {t t2 : TypeId} (x y : Operand) (ho : o.op = .binOp .eql t x y t2) (xs ys : Array Value) (b : Bool) (hx : ρ x = .agg xs) (hy : ρ y = .agg ys)
    (h : (binOp .eql t (.agg xs) (.agg ys)).run P w = .ok (.bool b) w) (hm : P.eqGuardType P.depth t = false) : (execOp ρ o).run P w = .ok (.value (.bool b)) w := by
  simp [execOp, ho, hx, hy, h, run_eqGuard_agg (P := P) w BinOp.eql t x y xs ys hm, Result.andThen]
theorem guardC : Tryd.prog.eqGuardType Tryd.prog.depth 36 = false := by kernel_rfl

set_option maxHeartbeats 16000000 in
set_option maxRecDepth 100000 in
theorem back10_any (c : Ctl) (v : Value) (L : List Bs) (w : World) (hs : IsStrs w v L) (hcap : ∀ a n k, v = .slice a n k → n ≤ k) (hz : ∀ x ∈ L, x.length ≤ 140737488351232) (hl : L.length ≤ 140737488351232) (hi : i64C c) (hT : TenC w) :
    Calls Tryd.prog 5 #[.agg (ctlA c), v] w fun e w' => e = .returned (.bool true) ∧ Below w.heap.size w w' := by
  have HLv : Hid (∀ W : World, Calls Tryd.prog 19 #[] W fun e w' => e = .returned (.bool true) ∧ Below W.heap.size W w') := lives10_any
  have HLt : Hid (∀ W : World, Below w.heap.size w W → Calls Tryd.prog 27 #[v, .int .i64 20, .int .i64 600] W fun e w' => e = .returned (.bool (lightX 20 600 L)) ∧ W = w') := fun W hb => lightX_any 20 600 v L W (by decide) (by decide) (isStrsC_below hs hb) hz hl
  have HCk : Hid (∀ (x : Ctl) (W : World), Calls Tryd.prog 24 #[.agg (ctlA x)] W fun e w' => e = .returned (.int .i64 (chkE x)) ∧ Below W.heap.size W w') := ccheck_any
  have HTx : Hid (∀ (x : Ctl) (W : World), Below w.heap.size w W → i64C x → Calls Tryd.prog 23 #[.agg (ctlA x)] W fun e w' => e = .returned (.string (mkS (textC x))) ∧ Below W.heap.size W w') := fun x W hb hx => ctext_any x W (hT.later hb) hx
  have HP1 : Hid (∀ (x : Ctl) (W : World), i64C x → Calls Tryd.prog 20 #[.slice (some ⟨W.heap.size, 0, none⟩) 1 1] (W.alloc (.cells #[.string (mkS (textC x))] 9)) fun e w' => e = .returned (.agg (ctlA (parseL [textC x]))) ∧ Below W.heap.size W w') := fun x W hx => parse1_any _ W (by have := text_len x hx; omega)
  have HJo : Hid (∀ (x y : Ctl) (W : World), Below w.heap.size w W → vC x → vC y → Calls Tryd.prog 26 #[.agg (ctlA x), .agg (ctlA y)] W fun e w' => e = .returned (.agg (ctlA (joinC x y))) ∧ Below W.heap.size W w') := fun x y W hb hx hy => by
    have h := cjoin_any x y W (hT.later hb) (v_i64 hx) (v_i64 hy)
    rw [parse_texts x y hx hy] at h
    exact h
  have HN : Hid (∀ W : World, Calls Tryd.prog 21 #[] W fun e w' => e = .returned (.agg (ctlA noneC)) ∧ Below W.heap.size W w') := cnone_any
  have HI := Lib.hid hi
  have HS := Lib.hid hs
  obtain ⟨a, cap, rfl⟩ : ∃ a cap, v = .slice a L.length cap := by obtain ⟨a, c, h, -⟩ := hs; exact ⟨a, c, h⟩
  have hcp : L.length ≤ cap := hcap a L.length cap rfl
  have hX0 : Bx (w.alloc (.cells #[.int .i64 c.a0, .int .i64 c.a1, .int .i64 c.a2, .int .i64 c.a3, .int .i64 c.a4, .int .i64 c.a5, .bool c.b0, .bool c.b1, .bool c.b2, .bool c.b3, .bool c.b4, .bool c.b5, .bool c.b6, .bool c.b7, .bool c.b8] 36)) w.heap.size 36 (ctlA c) := Bx.new w 36 (ctlA c)
  have hb0 : Below w.heap.size w (w.alloc (.cells #[.int .i64 c.a0, .int .i64 c.a1, .int .i64 c.a2, .int .i64 c.a3, .int .i64 c.a4, .int .i64 c.a5, .bool c.b0, .bool c.b1, .bool c.b2, .bool c.b3, .bool c.b4, .bool c.b5, .bool c.b6, .bool c.b7, .bool c.b8] 36)) := below_allocC _ _
  clear hs hcap hz hl hi hT
  cases hlx : lightX 20 600 L
  · rw [hlx] at HLt
    have HX0 := Lib.hid hX0
    have HB0 := Lib.hid hb0
    clear hlx hX0 hb0
    unfold ctlA
    go_enter Tryd.func5, Tryd.ntmps5
    go_wp2_with fail
    refine (HLv.out _).mono ?_
    rintro e w1 ⟨rfl, hb1⟩
    have HB1 := Lib.hid (HB0.out.trans (hb1.mono HB0.out.size))
    clear hb1
    go_wp2_with fail
    refine (HLt.out _ HB1.out).mono ?_
    rintro e w2 ⟨rfl, rfl⟩
    go_wp2_with fail
    go_ret
    exact ⟨rfl, HB1.out⟩
  · rw [hlx] at HLt
    obtain ⟨hl20, -, hx600⟩ := light_lens hlx
    have HZ := Lib.hid hx600
    have hn20 := hl20
    have HPl : Hid (∀ W : World, Below w.heap.size w W → Calls Tryd.prog 20 #[.slice a L.length cap] W fun e w' => e = .returned (.agg (ctlA (parseL L))) ∧ Below W.heap.size W w') := fun W hb => parse_any _ L W (isStrsC_below HS.out hb) (by omega) (fun x hx => by have := HZ.out x hx; omega)
    have HPt : Hid (∀ (i : Nat) (W : World), i < L.length → Below w.heap.size w W → ∃ b o, a = some ⟨b, o, none⟩ ∧ Calls Tryd.prog 20 #[.slice (some ⟨b, o + i, none⟩) 1 (cap - i)] W fun e w' => e = .returned (.agg (ctlA (parseL [L.getD i []]))) ∧ Below W.heap.size W w') := fun i W hi hb => by
      obtain ⟨b, o, ha, hst⟩ := isStrs_part (isStrsC_below HS.out hb) i hi
      exact ⟨b, o, ha, parse_any _ [L.getD i []] W hst (by simp) (fun x hx => by
        rw [List.mem_singleton] at hx
        have := HZ.out x (by rw [hx]; simp [List.getD, hi])
        omega)⟩
    have HTk : Hid (∀ i, i < L.length → joinC (parseL (L.take i)) (parseL [L.getD i []]) = parseL (L.take (i + 1))) := fun i hi => by
      rw [← parse_app, List.take_succ_eq_append_getElem hi]
      simp [List.getD, hi]
    have HV : Hid (∀ l, vC (parseL l)) := v_parse
    have HX0 := Lib.hid hX0
    have HB0 := Lib.hid hb0
    clear hlx hX0 hb0 hl20 hx600
    have HC0 : Hid ((okC15 c = true ∧ chkE c = 0 ∧ parseL [textC c] = c) ∨ chkE c = 2) := by
      by_cases h : okC15 c = true
      · exact .inl ⟨h, okC_v ((okC15_v c).1 h), parse_text c ((okC15_v c).1 h)⟩
      · right; unfold chkE; rw [if_neg h]
    unfold ctlA
    go_enter Tryd.func5, Tryd.ntmps5
    go_wp2_with fail
    refine (HLv.out _).mono ?_
    rintro e w1 ⟨rfl, hb1⟩
    have HB1 := Lib.hid (HB0.out.trans (hb1.mono HB0.out.size))
    have HX1 := Lib.hid (HX0.out.later hb1)
    clear hb1 HX0 HB0
    go_wp2_with fail
    refine (HLt.out _ HB1.out).mono ?_
    rintro e w2 ⟨rfl, rfl⟩
    go_wp2_with fail
    go_cut [23] from 13 (fun v23 wr => v23 = .bool false ∧ Hid (Below w.heap.size w wr))
    case first =>
      have HXd := Lib.hid (HX1.out.later (Below.refl _ _).drew)
      have hHeld0 : (fun Wz : World => Bx Wz w.heap.size 36 (ctlA c) ∧ Below w.heap.size w Wz) w1.drew := ⟨HXd.out, HB1.out.drew⟩
      rcases HC0.out with ⟨h1, h2, h3⟩ | h2

      · have HE := Lib.hid h2
        have HPE := Lib.hid h3
        clear h1 h2 h3
        refine wp_region_held_drew (S := (fun Wz : World => Bx Wz w.heap.size 36 (ctlA c) ∧ Below w.heap.size w Wz)) (by kernel_rfl) hHeld0 (fun hHeld => ?_)
        refine wpAnyH_take (i := 0) (v := .agg (ctlA c)) rfl (by kernel_rfl) (by kernel_rfl) (by kernel_rfl) (fun _ _ _ h => h) (Or.inl ⟨by kernel_rfl, ?_⟩) (by assumption) ?_
        case refine_1 => exact fun Wz hSw => exec_load_row _ _ (by rfl) w.heap.size _ (ctlA c) (0, 0) _ (by rfl) hSw.1 Tryd.underlying36 rfl (ctl_size c)
        try simp only [Act.put, List.getElem_toArray, List.getElem_cons_zero, List.setIfInBounds_toArray, List.set_cons_zero, List.set_cons_succ]
        refine wpAnyH_ready (rs := [1]) (by kernel_rfl) (by simp) ?_
        refine AllReadyH.cons rfl (fun K hK => ?_) AllReadyH.nil
        go_simp
        refine (HCk.out c _).mono ?_
        rintro e w5 ⟨rfl, hbb⟩
        have hHeld5 : (fun Wz : World => Bx Wz w.heap.size 36 (ctlA c) ∧ Below w.heap.size w Wz) w5 := ⟨hHeld0.1.later hbb, hHeld0.2.trans (hbb.mono hHeld0.2.size)⟩
        clear hbb
        rw [HE.out]
        go_simp
        refine hK.out _ _ hHeld5 (fun hHeld2 => ?_)
        clear hK K hHeld2
        try simp only [Act.put, List.getElem_toArray, List.getElem_cons_succ, List.getElem_cons_zero, List.setIfInBounds_toArray, List.set_cons_zero, List.set_cons_succ]
        refine wpAnyH_take (i := 2) (v := .bool true) rfl (by kernel_rfl) (by kernel_rfl) (by kernel_rfl) (fun _ _ _ h => h) (Or.inl ⟨by kernel_rfl, ?_⟩) (by assumption) ?_
        case refine_1 => (intro Wz hSw; go_simp; try with_reducible rfl)
        try simp only [Act.put, List.getElem_toArray, List.getElem_cons_succ, List.getElem_cons_zero, List.setIfInBounds_toArray, List.set_cons_zero, List.set_cons_succ]
        refine wpAnyH_take (i := 3) (v := ?_) rfl (by kernel_rfl) (by kernel_rfl) (by kernel_rfl) (fun _ _ _ h => h) (Or.inl ⟨by kernel_rfl, ?_⟩) (by assumption) ?_
        case refine_2 => (intro Wz hSw; go_simp; try with_reducible rfl)
        try simp only [Act.put, List.getElem_toArray, List.getElem_cons_succ, List.getElem_cons_zero, List.setIfInBounds_toArray, List.set_cons_zero, List.set_cons_succ]
        refine wpAnyH_take (i := 4) (v := .agg (ctlA c)) rfl (by kernel_rfl) (by kernel_rfl) (by kernel_rfl) (fun _ _ _ h => h) (Or.inl ⟨by kernel_rfl, ?_⟩) (by assumption) ?_
        case refine_1 => exact fun Wz hSw => exec_load_row _ _ (by rfl) w.heap.size _ (ctlA c) (0, 0) _ (by rfl) hSw.1 Tryd.underlying36 rfl (ctl_size c)
        try simp only [Act.put, List.getElem_toArray, List.getElem_cons_succ, List.getElem_cons_zero, List.setIfInBounds_toArray, List.set_cons_zero, List.set_cons_succ]
        refine wpAnyH_take (i := 8) (v := .agg (ctlA c)) rfl (by kernel_rfl) (by kernel_rfl) (by kernel_rfl) (fun _ _ _ h => h) (Or.inl ⟨by kernel_rfl, ?_⟩) (by assumption) ?_
        case refine_1 => exact fun Wz hSw => exec_load_row _ _ (by rfl) w.heap.size _ (ctlA c) (0, 0) _ (by rfl) hSw.1 Tryd.underlying36 rfl (ctl_size c)
        try simp only [Act.put, List.getElem_toArray, List.getElem_cons_succ, List.getElem_cons_zero, List.setIfInBounds_toArray, List.set_cons_zero, List.set_cons_succ]
        refine wpAnyH_ready (rs := [5]) (by kernel_rfl) (by simp) ?_
        refine AllReadyH.cons rfl (fun K hK => ?_) AllReadyH.nil
        go_simp
        refine (HTx.out c _ hHeld5.2 HI.out).mono ?_
        rintro e w6 ⟨rfl, hbb⟩
        have hHeld6 : (fun Wz : World => Bx Wz w.heap.size 36 (ctlA c) ∧ Below w.heap.size w Wz) w6 := ⟨hHeld5.1.later hbb, hHeld5.2.trans (hbb.mono hHeld5.2.size)⟩
        clear hbb
        go_simp
        refine hK.out _ _ hHeld6 (fun hHeld2 => ?_)
        clear hK K hHeld2
        try simp only [Act.put, List.getElem_toArray, List.getElem_cons_succ, List.getElem_cons_zero, List.setIfInBounds_toArray, List.set_cons_zero, List.set_cons_succ]
        refine wpAnyH_ready (rs := [6]) (by kernel_rfl) (by simp) ?_
        refine AllReadyH.cons rfl (fun K hK => ?_) AllReadyH.nil
        go_simp
        have hHeld7 : (fun Wz : World => Bx Wz w.heap.size 36 (ctlA c) ∧ Below w.heap.size w Wz) (w6.alloc (Obj.cells #[.string (mkS (textC c))] 9)) := ⟨hHeld6.1.later (below_allocC _ _), hHeld6.2.alloc hHeld6.2.size _⟩
        refine hK.out _ _ hHeld7 (fun hHeld2 => ?_)
        clear hK K hHeld2
        try simp only [Act.put, List.getElem_toArray, List.getElem_cons_succ, List.getElem_cons_zero, List.setIfInBounds_toArray, List.set_cons_zero, List.set_cons_succ]
        refine wpAnyH_ready (rs := [7]) (by kernel_rfl) (by simp) ?_
        refine AllReadyH.cons rfl (fun K hK => ?_) AllReadyH.nil
        go_simp
        refine (HP1.out c w6 HI.out).mono ?_
        rintro e w8 ⟨rfl, hbb⟩
        have hHeld8 : (fun Wz : World => Bx Wz w.heap.size 36 (ctlA c) ∧ Below w.heap.size w Wz) w8 := ⟨hHeld6.1.later hbb, hHeld6.2.trans (hbb.mono hHeld6.2.size)⟩
        clear hbb
        rw [HPE.out]
        go_simp
        refine hK.out _ _ hHeld8 (fun hHeld2 => ?_)
        clear hK K hHeld2
        try simp only [Act.put, List.getElem_toArray, List.getElem_cons_succ, List.getElem_cons_zero, List.setIfInBounds_toArray, List.set_cons_zero, List.set_cons_succ]
        refine wpAnyH_take (i := 9) (v := .bool false) rfl (by kernel_rfl) (by kernel_rfl) (by kernel_rfl) (fun _ _ _ h => h) (Or.inl ⟨by kernel_rfl, ?_⟩) (by assumption) ?_
        case refine_1 => exact fun Wz hSw => exec_neq _ _ (by rfl) (ctlA c) (ctlA c) false (by rfl) (by rfl) (ctl_neq Wz c) guardC
        try simp only [Act.put, List.getElem_toArray, List.getElem_cons_succ, List.getElem_cons_zero, List.setIfInBounds_toArray, List.set_cons_zero, List.set_cons_succ]
        refine wpAnyH_take (i := 10) (v := .bool false) rfl (by kernel_rfl) (by kernel_rfl) (by kernel_rfl) (fun _ _ _ h => h) (Or.inl ⟨by kernel_rfl, ?_⟩) (by assumption) ?_
        case refine_1 => (intro Wz hSw; go_simp; try with_reducible rfl)
        try simp only [Act.put, List.getElem_toArray, List.getElem_cons_succ, List.getElem_cons_zero, List.setIfInBounds_toArray, List.set_cons_zero, List.set_cons_succ]
        refine wpAnyH_done (by kernel_rfl) ?_ _
        go_wp2_with fail
        go_meet
        exact ⟨rfl, hHeld8.2⟩

      · have HE := Lib.hid h2
        clear h2
        refine wp_region_held_drew (S := (fun Wz : World => Bx Wz w.heap.size 36 (ctlA c) ∧ Below w.heap.size w Wz)) (by kernel_rfl) hHeld0 (fun hHeld => ?_)
        refine wpAnyH_take (i := 0) (v := .agg (ctlA c)) rfl (by kernel_rfl) (by kernel_rfl) (by kernel_rfl) (fun _ _ _ h => h) (Or.inl ⟨by kernel_rfl, ?_⟩) (by assumption) ?_
        case refine_1 => exact fun Wz hSw => exec_load_row _ _ (by rfl) w.heap.size _ (ctlA c) (0, 0) _ (by rfl) hSw.1 Tryd.underlying36 rfl (ctl_size c)
        try simp only [Act.put, List.getElem_toArray, List.getElem_cons_zero, List.setIfInBounds_toArray, List.set_cons_zero, List.set_cons_succ]
        refine wpAnyH_ready (rs := [1]) (by kernel_rfl) (by simp) ?_
        refine AllReadyH.cons rfl (fun K hK => ?_) AllReadyH.nil
        go_simp
        refine (HCk.out c _).mono ?_
        rintro e w5 ⟨rfl, hbb⟩
        have hHeld5 : (fun Wz : World => Bx Wz w.heap.size 36 (ctlA c) ∧ Below w.heap.size w Wz) w5 := ⟨hHeld0.1.later hbb, hHeld0.2.trans (hbb.mono hHeld0.2.size)⟩
        clear hbb
        rw [HE.out]
        go_simp
        refine hK.out _ _ hHeld5 (fun hHeld2 => ?_)
        clear hK K hHeld2
        try simp only [Act.put, List.getElem_toArray, List.getElem_cons_succ, List.getElem_cons_zero, List.setIfInBounds_toArray, List.set_cons_zero, List.set_cons_succ]
        refine wpAnyH_take (i := 2) (v := .bool false) rfl (by kernel_rfl) (by kernel_rfl) (by kernel_rfl) (fun _ _ _ h => h) (Or.inl ⟨by kernel_rfl, ?_⟩) (by assumption) ?_
        case refine_1 => (intro Wz hSw; go_simp; try with_reducible rfl)
        try simp only [Act.put, List.getElem_toArray, List.getElem_cons_succ, List.getElem_cons_zero, List.setIfInBounds_toArray, List.set_cons_zero, List.set_cons_succ]
        refine wpAnyH_take (i := 3) (v := ?_) rfl (by kernel_rfl) (by kernel_rfl) (by kernel_rfl) (fun _ _ _ h => h) (Or.inl ⟨by kernel_rfl, ?_⟩) (by assumption) ?_
        case refine_2 => (intro Wz hSw; go_simp; try with_reducible rfl)
        try simp only [Act.put, List.getElem_toArray, List.getElem_cons_succ, List.getElem_cons_zero, List.setIfInBounds_toArray, List.set_cons_zero, List.set_cons_succ]
        refine wpAnyH_take (i := 4) (v := undef) rfl (by kernel_rfl) (by kernel_rfl) (by kernel_rfl) (fun _ _ _ h => h) (Or.inr ⟨by kernel_rfl, rfl⟩) (by assumption) ?_
        try simp only [Act.put, List.getElem_toArray, List.getElem_cons_succ, List.getElem_cons_zero, List.setIfInBounds_toArray, List.set_cons_zero, List.set_cons_succ]
        refine wpAnyH_take (i := 5) (v := undef) rfl (by kernel_rfl) (by kernel_rfl) (by kernel_rfl) (fun _ _ _ h => h) (Or.inr ⟨by kernel_rfl, rfl⟩) (by assumption) ?_
        try simp only [Act.put, List.getElem_toArray, List.getElem_cons_succ, List.getElem_cons_zero, List.setIfInBounds_toArray, List.set_cons_zero, List.set_cons_succ]
        refine wpAnyH_take (i := 6) (v := undef) rfl (by kernel_rfl) (by kernel_rfl) (by kernel_rfl) (fun _ _ _ h => h) (Or.inr ⟨by kernel_rfl, rfl⟩) (by assumption) ?_
        try simp only [Act.put, List.getElem_toArray, List.getElem_cons_succ, List.getElem_cons_zero, List.setIfInBounds_toArray, List.set_cons_zero, List.set_cons_succ]
        refine wpAnyH_take (i := 7) (v := undef) rfl (by kernel_rfl) (by kernel_rfl) (by kernel_rfl) (fun _ _ _ h => h) (Or.inr ⟨by kernel_rfl, rfl⟩) (by assumption) ?_
        try simp only [Act.put, List.getElem_toArray, List.getElem_cons_succ, List.getElem_cons_zero, List.setIfInBounds_toArray, List.set_cons_zero, List.set_cons_succ]
        refine wpAnyH_take (i := 8) (v := undef) rfl (by kernel_rfl) (by kernel_rfl) (by kernel_rfl) (fun _ _ _ h => h) (Or.inr ⟨by kernel_rfl, rfl⟩) (by assumption) ?_
        try simp only [Act.put, List.getElem_toArray, List.getElem_cons_succ, List.getElem_cons_zero, List.setIfInBounds_toArray, List.set_cons_zero, List.set_cons_succ]
        refine wpAnyH_take (i := 9) (v := undef) rfl (by kernel_rfl) (by kernel_rfl) (by kernel_rfl) (fun _ _ _ h => h) (Or.inr ⟨by kernel_rfl, rfl⟩) (by assumption) ?_
        try simp only [Act.put, List.getElem_toArray, List.getElem_cons_succ, List.getElem_cons_zero, List.setIfInBounds_toArray, List.set_cons_zero, List.set_cons_succ]
        refine wpAnyH_take (i := 10) (v := .bool false) rfl (by kernel_rfl) (by kernel_rfl) (by kernel_rfl) (fun _ _ _ h => h) (Or.inl ⟨by kernel_rfl, ?_⟩) (by assumption) ?_
        case refine_1 => (intro Wz hSw; go_simp; try with_reducible rfl)
        try simp only [Act.put, List.getElem_toArray, List.getElem_cons_succ, List.getElem_cons_zero, List.setIfInBounds_toArray, List.set_cons_zero, List.set_cons_succ]
        refine wpAnyH_done (by kernel_rfl) ?_ _
        go_wp2_with fail
        go_meet
        exact ⟨rfl, hHeld5.2⟩

    case rest =>
      obtain ⟨rfl, HB3⟩ := hcut
      go_wp2_with fail
      refine (HPl.out _ HB3.out).mono ?_
      rintro e w4 ⟨rfl, hb4⟩
      have hB4 := HB3.out.trans (hb4.mono HB3.out.size)
      have hx5 : Bx (w4.alloc (.cells #[.int .i64 0, .int .i64 0, .int .i64 0, .int .i64 0, .int .i64 0, .int .i64 0, .bool false, .bool false, .bool false, .bool false, .bool false, .bool false, .bool false, .bool false, .bool false] 36)) w4.heap.size 36 (ctlA zeroC) := Bx.new w4 36 (ctlA zeroC)
      have hB5 : Below w.heap.size w (w4.alloc (.cells #[.int .i64 0, .int .i64 0, .int .i64 0, .int .i64 0, .int .i64 0, .int .i64 0, .bool false, .bool false, .bool false, .bool false, .bool false, .bool false, .bool false, .bool false, .bool false] 36)) := hB4.alloc hB4.size _
      have hg4 : w.heap.size ≤ w4.heap.size := hB4.size
      clear hb4 hB4
      go_wp2_with (refine wpListC_store_row rfl _ _ _ rfl w4.heap.size _ (ctlA zeroC) (ctlA (parseL L)) rfl rfl hx5 (ctl_size _) rfl (ctl_one _) ?_)
      have hx6 := hx5.row (cs := ctlA (parseL L))
      have hB6 := below_setRowC hB5 (ctlA (parseL L)) hg4
      generalize (w4.alloc (.cells #[.int .i64 0, .int .i64 0, .int .i64 0, .int .i64 0, .int .i64 0, .int .i64 0, .bool false, .bool false, .bool false, .bool false, .bool false, .bool false, .bool false, .bool false, .bool false] 36)).setRow w4.heap.size (ctlA (parseL L)) = w6 at *
      generalize w4.heap.size = gx at *
      have HX6 := Lib.hid hx6
      have HB6 := Lib.hid hB6
      clear hx5 hB5 hx6 hB6
      refine (HN.out _).mono ?_
      rintro e w7 ⟨rfl, hb7⟩
      have hx7 := HX6.out.later hb7
      have hB7 := HB6.out.trans (hb7.mono HB6.out.size)
      have hy8 : Bx (w7.alloc (.cells #[.int .i64 0, .int .i64 0, .int .i64 0, .int .i64 0, .int .i64 0, .int .i64 0, .bool false, .bool false, .bool false, .bool false, .bool false, .bool false, .bool false, .bool false, .bool false] 36)) w7.heap.size 36 (ctlA zeroC) := Bx.new w7 36 (ctlA zeroC)
      have hx8 : Bx (w7.alloc (.cells #[.int .i64 0, .int .i64 0, .int .i64 0, .int .i64 0, .int .i64 0, .int .i64 0, .bool false, .bool false, .bool false, .bool false, .bool false, .bool false, .bool false, .bool false, .bool false] 36)) gx 36 (ctlA (parseL L)) := hx7.later (below_allocC _ _)
      have hB8 : Below w.heap.size w (w7.alloc (.cells #[.int .i64 0, .int .i64 0, .int .i64 0, .int .i64 0, .int .i64 0, .int .i64 0, .bool false, .bool false, .bool false, .bool false, .bool false, .bool false, .bool false, .bool false, .bool false] 36)) := hB7.alloc hB7.size _
      have hg7 : w.heap.size ≤ w7.heap.size := hB7.size
      have hgxy : gx < w7.heap.size := hx7.lt
      clear hb7 hB7 hx7
      go_wp2_with (refine wpListC_store_row rfl _ _ _ rfl w7.heap.size _ (ctlA zeroC) (ctlA noneC) rfl rfl hy8 (ctl_size _) rfl (ctl_one _) ?_)
      have hy9 := hy8.row (cs := ctlA noneC)
      have hx9 : Bx ((w7.alloc (.cells #[.int .i64 0, .int .i64 0, .int .i64 0, .int .i64 0, .int .i64 0, .int .i64 0, .bool false, .bool false, .bool false, .bool false, .bool false, .bool false, .bool false, .bool false, .bool false] 36)).setRow w7.heap.size (ctlA noneC)) gx 36 (ctlA (parseL L)) := hx8.same (setRow_other _ _ _ _ (by omega))
      have hB9 := below_setRowC hB8 (ctlA noneC) hg7
      generalize (w7.alloc (.cells #[.int .i64 0, .int .i64 0, .int .i64 0, .int .i64 0, .int .i64 0, .int .i64 0, .bool false, .bool false, .bool false, .bool false, .bool false, .bool false, .bool false, .bool false, .bool false] 36)).setRow w7.heap.size (ctlA noneC) = w9 at *
      generalize w7.heap.size = gy at *
      have HX9 := Lib.hid hx9
      have HY9 := Lib.hid hy9
      have HB9 := Lib.hid hB9
      clear hy8 hx8 hB8 hy9 hx9 hB9
      go_loopw [7] (fun vi wr => ∃ i : Nat, i ≤ L.length ∧ vi = .int .i64 i ∧ Hid (Below w.heap.size w wr) ∧ Hid (Bx wr gx 36 (ctlA (parseL L))) ∧ Hid (Bx wr gy 36 (ctlA (parseL (L.take i))))) (fun vi _ => L.length - (RowKit.intOf vi).toNat)
      case atStart => exact ⟨0, Nat.zero_le _, rfl, HB9.out, HX9.out, HY9.out⟩
      case round =>
        obtain ⟨i, hi, rfl, HB, HX, HY⟩ := hrel
        rename World => W
        by_cases hlt : i < L.length
        · obtain ⟨b, o, ha, -⟩ := HPt.out i W hlt HB.out
          have HPp : Hid (∀ W2, Below w.heap.size w W2 → Calls Tryd.prog 20 #[.slice (some ⟨b, o + i, none⟩) 1 (cap - i)] W2 fun e w' => e = .returned (.agg (ctlA (parseL [L.getD i []]))) ∧ Below W2.heap.size W2 w') := fun W2 hb => by
            obtain ⟨b2, o2, ha2, h⟩ := HPt.out i W2 hlt hb
            have e : some (⟨b, o, none⟩ : Addr) = some ⟨b2, o2, none⟩ := ha.symm.trans ha2
            have e3 : (⟨b2, o2 + i, none⟩ : Addr) = ⟨b, o + i, none⟩ := by
              injection e with e
              injection e with e1 e2
              rw [e1, e2]
            rw [e3] at h
            exact h
          have HA := Lib.hid ha
          have hwi : IntKind.i64.wrap ((i : Int) + 1) = (i : Int) + 1 := IntWalk.i64_in _ (by omega)
          clear ha
          have hj := HTk.out i hlt
          have hvy := HV.out (L.take i)
          have hvp := HV.out [L.getD i []]
          have hjoin : Hid (∀ W2, Below w.heap.size w W2 → Calls Tryd.prog 26 #[.agg (ctlA (parseL (L.take i))), .agg (ctlA (parseL [L.getD i []]))] W2 fun e w' => e = .returned (.agg (ctlA (parseL (L.take (i + 1))))) ∧ Below W2.heap.size W2 w') := fun W2 hb => by
            have h := HJo.out _ _ W2 hb hvy hvp
            rw [hj] at h
            exact h
          have hlt2 : (i : Int) < (L.length : Int) := by omega
          clear hj hvy hvp
          generalize parseL (L.take i) = y at *
          generalize hy2 : parseL (L.take (i + 1)) = y2 at *
          have HY2 := Lib.hid hy2
          clear hy2
          generalize parseL [L.getD i []] = pz at *
          go_wp2_with fail
          have HXd := Lib.hid (HX.out.later (Below.refl _ _).drew)
          have HYd := Lib.hid (HY.out.later (Below.refl _ _).drew)
          have hHeld0 : (fun Wz : World => Bx Wz gx 36 (ctlA (parseL L)) ∧ Below w.heap.size w Wz) W.drew := ⟨HXd.out, HB.out.drew⟩
          refine wp_region_held_drew (S := (fun Wz : World => Bx Wz gx 36 (ctlA (parseL L)) ∧ Below w.heap.size w Wz)) (by kernel_rfl) hHeld0 (fun hHeld => ?_)
          refine wpAnyH_take (i := 1) (v := .slice a L.length cap) rfl (by kernel_rfl) (by kernel_rfl) (by kernel_rfl) (fun _ _ _ h => h) (Or.inl ⟨by kernel_rfl, ?_⟩) (by assumption) ?_
          case refine_1 => (intro Wz hSw; go_simp; try with_reducible rfl)
          try simp only [Act.put, List.getElem_toArray, List.getElem_cons_succ, List.getElem_cons_zero, List.setIfInBounds_toArray, List.set_cons_zero, List.set_cons_succ]
          refine wpAnyH_take (i := 2) (v := ?_) rfl (by kernel_rfl) (by kernel_rfl) (by kernel_rfl) (fun _ _ _ h => h) (Or.inl ⟨by kernel_rfl, ?_⟩) (by assumption) ?_
          case refine_2 => (intro Wz hSw; go_simp; try with_reducible rfl)
          try simp only [Act.put, List.getElem_toArray, List.getElem_cons_succ, List.getElem_cons_zero, List.setIfInBounds_toArray, List.set_cons_zero, List.set_cons_succ]
          refine wpAnyH_take (i := 3) (v := ?_) rfl (by kernel_rfl) (by kernel_rfl) (by kernel_rfl) (fun _ _ _ h => h) (Or.inl ⟨by kernel_rfl, ?_⟩) (by assumption) ?_
          case refine_2 => (intro Wz hSw; go_simp; try with_reducible rfl)
          try simp only [Act.put, List.getElem_toArray, List.getElem_cons_succ, List.getElem_cons_zero, List.setIfInBounds_toArray, List.set_cons_zero, List.set_cons_succ]
          refine wpAnyH_take (i := 4) (v := .int .i64 ((i : Int) + 1)) rfl (by kernel_rfl) (by kernel_rfl) (by kernel_rfl) (fun _ _ _ h => h) (Or.inl ⟨by kernel_rfl, ?_⟩) (by assumption) ?_
          case refine_1 => (intro Wz hSw; go_simp; try with_reducible rfl)
          try simp only [Act.put, List.getElem_toArray, List.getElem_cons_succ, List.getElem_cons_zero, List.setIfInBounds_toArray, List.set_cons_zero, List.set_cons_succ]
          refine wpAnyH_take (i := 5) (v := .slice (some ⟨b, o + i, none⟩) 1 (cap - i)) rfl (by kernel_rfl) (by kernel_rfl) (by kernel_rfl) (fun _ _ _ h => h) (Or.inl ⟨by kernel_rfl, ?_⟩) (by assumption) ?_
          case refine_1 => exact fun Wz hSw => exec_part _ _ _ (by rfl) L.length cap i (by rfl) (by rfl) (by rfl) HA.out hlt hcp
          try simp only [Act.put, List.getElem_toArray, List.getElem_cons_succ, List.getElem_cons_zero, List.setIfInBounds_toArray, List.set_cons_zero, List.set_cons_succ]
          refine wpAnyH_ready (rs := [0, 6]) (by kernel_rfl) (by simp) ?_
          refine AllReadyH.cons rfl (fun K hK => ?_) (AllReadyH.cons rfl (fun K hK => ?_) AllReadyH.nil)
          · refine stepC_load_row (by rfl) _ _ (by rfl) gy (by rfl) _ (ctlA y) (0, 0) _ HYd.out Tryd.underlying36 rfl (ctl_size y) ?_
            refine hK.out _ _ hHeld0 (fun hHeld2 => ?_)
            clear hK K hHeld2
            try simp only [Act.put, List.getElem_toArray, List.getElem_cons_zero, List.setIfInBounds_toArray, List.set_cons_zero, List.set_cons_succ]
            refine wpAnyH_ready (rs := [6]) (by kernel_rfl) (by simp) ?_
            refine AllReadyH.cons rfl (fun K hK => ?_) AllReadyH.nil
            go_simp
            refine (HPp.out _ hHeld0.2).mono ?_
            rintro e w6 ⟨rfl, hbb⟩
            have hHeld6 : (fun Wz : World => Bx Wz gx 36 (ctlA (parseL L)) ∧ Below w.heap.size w Wz) w6 := ⟨hHeld0.1.later hbb, hHeld0.2.trans (hbb.mono hHeld0.2.size)⟩
            have hy6 := HYd.out.later hbb
            clear hbb
            go_simp
            refine hK.out _ _ hHeld6 (fun hHeld2 => ?_)
            clear hK K hHeld2
            try simp only [Act.put, List.getElem_toArray, List.getElem_cons_succ, List.getElem_cons_zero, List.setIfInBounds_toArray, List.set_cons_zero, List.set_cons_succ]
            refine wpAnyH_ready (rs := [7]) (by kernel_rfl) (by simp) ?_
            refine AllReadyH.cons rfl (fun K hK => ?_) AllReadyH.nil
            go_simp
            refine (hjoin.out _ hHeld6.2).mono ?_
            rintro e w7 ⟨rfl, hbb⟩
            have hHeld7 : (fun Wz : World => Bx Wz gx 36 (ctlA (parseL L)) ∧ Below w.heap.size w Wz) w7 := ⟨hHeld6.1.later hbb, hHeld6.2.trans (hbb.mono hHeld6.2.size)⟩
            have hy7 := hy6.later hbb
            clear hbb
            go_simp
            refine hK.out _ _ hHeld7 (fun hHeld2 => ?_)
            clear hK K hHeld2
            try simp only [Act.put, List.getElem_toArray, List.getElem_cons_succ, List.getElem_cons_zero, List.setIfInBounds_toArray, List.set_cons_zero, List.set_cons_succ]
            refine wpAnyH_ready (rs := [8]) (by kernel_rfl) (by simp) ?_
            refine AllReadyH.cons rfl (fun K hK => ?_) AllReadyH.nil
            refine stepC_store_row (by rfl) _ _ _ (by rfl) gy _ (ctlA y) (ctlA y2) (by rfl) (by rfl) hy7 (ctl_size y2) rfl (ctl_one y2) ?_
            have hHeld8 : (fun Wz : World => Bx Wz gx 36 (ctlA (parseL L)) ∧ Below w.heap.size w Wz) (w7.setRow gy (ctlA y2)) := ⟨hHeld7.1.same (setRow_other _ _ _ _ (by omega)), below_setRowC hHeld7.2 (ctlA y2) (by omega)⟩
            have HY8 := Lib.hid (hy7.row (cs := ctlA y2))
            have HX8 := Lib.hid hHeld8.1
            have HB8 := Lib.hid hHeld8.2
            refine hK.out _ _ hHeld8 (fun hHeld2 => ?_)
            clear hK K hHeld2
            try simp only [Act.put, List.getElem_toArray, List.getElem_cons_succ, List.getElem_cons_zero]
            refine wpAnyH_done (by kernel_rfl) ?_ _
            generalize w7.setRow gy (ctlA y2) = w8 at *
            clear hHeld8 hHeld7 hHeld6 hHeld0 hHeld hy7
            go_wp2_with fail
            go_roundw
            case rel => exact ⟨i + 1, hlt, by go_num, HB8, HX8, (show Bx _ _ _ _ by rw [HY2.out]; exact HY8.out)⟩
            case measure => simp [RowKit.intOf]; omega
          · go_simp
            refine (HPp.out _ hHeld0.2).mono ?_
            rintro e w6 ⟨rfl, hbb⟩
            have hHeld6 : (fun Wz : World => Bx Wz gx 36 (ctlA (parseL L)) ∧ Below w.heap.size w Wz) w6 := ⟨hHeld0.1.later hbb, hHeld0.2.trans (hbb.mono hHeld0.2.size)⟩
            have hy6 := HYd.out.later hbb
            clear hbb
            go_simp
            refine hK.out _ _ hHeld6 (fun hHeld2 => ?_)
            clear hK K hHeld2
            try simp only [Act.put, List.getElem_toArray, List.getElem_cons_succ, List.getElem_cons_zero, List.setIfInBounds_toArray, List.set_cons_zero, List.set_cons_succ]
            refine wpAnyH_ready (rs := [0]) (by kernel_rfl) (by simp) ?_
            refine AllReadyH.cons rfl (fun K hK => ?_) AllReadyH.nil
            refine stepC_load_row (by rfl) _ _ (by rfl) gy (by rfl) _ (ctlA y) (0, 0) _ hy6 Tryd.underlying36 rfl (ctl_size y) ?_
            refine hK.out _ _ hHeld6 (fun hHeld2 => ?_)
            clear hK K hHeld2
            try simp only [Act.put, List.getElem_toArray, List.getElem_cons_zero, List.setIfInBounds_toArray, List.set_cons_zero, List.set_cons_succ]
            refine wpAnyH_ready (rs := [7]) (by kernel_rfl) (by simp) ?_
            refine AllReadyH.cons rfl (fun K hK => ?_) AllReadyH.nil
            go_simp
            refine (hjoin.out _ hHeld6.2).mono ?_
            rintro e w7 ⟨rfl, hbb⟩
            have hHeld7 : (fun Wz : World => Bx Wz gx 36 (ctlA (parseL L)) ∧ Below w.heap.size w Wz) w7 := ⟨hHeld6.1.later hbb, hHeld6.2.trans (hbb.mono hHeld6.2.size)⟩
            have hy7 := hy6.later hbb
            clear hbb
            go_simp
            refine hK.out _ _ hHeld7 (fun hHeld2 => ?_)
            clear hK K hHeld2
            try simp only [Act.put, List.getElem_toArray, List.getElem_cons_succ, List.getElem_cons_zero, List.setIfInBounds_toArray, List.set_cons_zero, List.set_cons_succ]
            refine wpAnyH_ready (rs := [8]) (by kernel_rfl) (by simp) ?_
            refine AllReadyH.cons rfl (fun K hK => ?_) AllReadyH.nil
            refine stepC_store_row (by rfl) _ _ _ (by rfl) gy _ (ctlA y) (ctlA y2) (by rfl) (by rfl) hy7 (ctl_size y2) rfl (ctl_one y2) ?_
            have hHeld8 : (fun Wz : World => Bx Wz gx 36 (ctlA (parseL L)) ∧ Below w.heap.size w Wz) (w7.setRow gy (ctlA y2)) := ⟨hHeld7.1.same (setRow_other _ _ _ _ (by omega)), below_setRowC hHeld7.2 (ctlA y2) (by omega)⟩
            have HY8 := Lib.hid (hy7.row (cs := ctlA y2))
            have HX8 := Lib.hid hHeld8.1
            have HB8 := Lib.hid hHeld8.2
            refine hK.out _ _ hHeld8 (fun hHeld2 => ?_)
            clear hK K hHeld2
            try simp only [Act.put, List.getElem_toArray, List.getElem_cons_succ, List.getElem_cons_zero]
            refine wpAnyH_done (by kernel_rfl) ?_ _
            generalize w7.setRow gy (ctlA y2) = w8 at *
            clear hHeld8 hHeld7 hHeld6 hHeld0 hHeld hy7
            go_wp2_with fail
            go_roundw
            case rel => exact ⟨i + 1, hlt, by go_num, HB8, HX8, (show Bx _ _ _ _ by rw [HY2.out]; exact HY8.out)⟩
            case measure => simp [RowKit.intOf]; omega
        · obtain rfl : i = L.length := by omega
          have hY := HY.out
          rw [List.take_length] at hY
          have hvL := HV.out L
          have hE := okC_v hvL
          have hPT := parse_text (parseL L) hvL
          have hI6 := v_i64 hvL
          have HE := Lib.hid hE
          have HPT := Lib.hid hPT
          have HI6 := Lib.hid hI6
          have HX0' := HX
          clear hvL hE hPT hI6
          generalize parseL L = x at *
          have hlt3 : ¬ (L.length : Int) < (L.length : Int) := by omega
          have HXd := Lib.hid (HX.out.later (Below.refl _ _).drew)
          have HYd := Lib.hid (hY.later (Below.refl _ _).drew)
          clear hY
          go_wp2_with fail
          have hHeld0 : (fun Wz : World => Bx Wz gx 36 (ctlA x) ∧ Bx Wz gy 36 (ctlA x) ∧ Below w.heap.size w Wz) W.drew := ⟨HXd.out, HYd.out, HB.out.drew⟩
          refine wp_region_held_drew (S := (fun Wz : World => Bx Wz gx 36 (ctlA x) ∧ Bx Wz gy 36 (ctlA x) ∧ Below w.heap.size w Wz)) (by kernel_rfl) hHeld0 (fun hHeld => ?_)
          refine wpAnyH_take (i := 0) (v := .agg (ctlA x)) rfl (by kernel_rfl) (by kernel_rfl) (by kernel_rfl) (fun _ _ _ h => h) (Or.inl ⟨by kernel_rfl, ?_⟩) (by assumption) ?_
          case refine_1 => exact fun Wz hSw => exec_load_row _ _ (by rfl) gx _ (ctlA x) (0, 0) _ (by rfl) hSw.1 Tryd.underlying36 rfl (ctl_size x)
          try simp only [Act.put, List.getElem_toArray, List.getElem_cons_zero, List.setIfInBounds_toArray, List.set_cons_zero, List.set_cons_succ]
          refine wpAnyH_ready (rs := [1]) (by kernel_rfl) (by simp) ?_
          refine AllReadyH.cons rfl (fun K hK => ?_) AllReadyH.nil
          go_simp
          refine (HCk.out x _).mono ?_
          rintro e w5 ⟨rfl, hbb⟩
          have hHeld5 : (fun Wz : World => Bx Wz gx 36 (ctlA x) ∧ Bx Wz gy 36 (ctlA x) ∧ Below w.heap.size w Wz) w5 := ⟨hHeld0.1.later hbb, hHeld0.2.1.later hbb, hHeld0.2.2.trans (hbb.mono hHeld0.2.2.size)⟩
          clear hbb
          rw [HE.out]
          go_simp
          refine hK.out _ _ hHeld5 (fun hHeld2 => ?_)
          clear hK K hHeld2
          try simp only [Act.put, List.getElem_toArray, List.getElem_cons_succ, List.getElem_cons_zero, List.setIfInBounds_toArray, List.set_cons_zero, List.set_cons_succ]
          refine wpAnyH_take (i := 2) (v := .bool true) rfl (by kernel_rfl) (by kernel_rfl) (by kernel_rfl) (fun _ _ _ h => h) (Or.inl ⟨by kernel_rfl, ?_⟩) (by assumption) ?_
          case refine_1 => (intro Wz hSw; go_simp; try with_reducible rfl)
          try simp only [Act.put, List.getElem_toArray, List.getElem_cons_succ, List.getElem_cons_zero, List.setIfInBounds_toArray, List.set_cons_zero, List.set_cons_succ]
          refine wpAnyH_take (i := 3) (v := ?_) rfl (by kernel_rfl) (by kernel_rfl) (by kernel_rfl) (fun _ _ _ h => h) (Or.inl ⟨by kernel_rfl, ?_⟩) (by assumption) ?_
          case refine_2 => (intro Wz hSw; go_simp; try with_reducible rfl)
          try simp only [Act.put, List.getElem_toArray, List.getElem_cons_succ, List.getElem_cons_zero, List.setIfInBounds_toArray, List.set_cons_zero, List.set_cons_succ]
          refine wpAnyH_take (i := 4) (v := .agg (ctlA x)) rfl (by kernel_rfl) (by kernel_rfl) (by kernel_rfl) (fun _ _ _ h => h) (Or.inl ⟨by kernel_rfl, ?_⟩) (by assumption) ?_
          case refine_1 => exact fun Wz hSw => exec_load_row _ _ (by rfl) gx _ (ctlA x) (0, 0) _ (by rfl) hSw.1 Tryd.underlying36 rfl (ctl_size x)
          try simp only [Act.put, List.getElem_toArray, List.getElem_cons_succ, List.getElem_cons_zero, List.setIfInBounds_toArray, List.set_cons_zero, List.set_cons_succ]
          refine wpAnyH_take (i := 5) (v := .agg (ctlA x)) rfl (by kernel_rfl) (by kernel_rfl) (by kernel_rfl) (fun _ _ _ h => h) (Or.inl ⟨by kernel_rfl, ?_⟩) (by assumption) ?_
          case refine_1 => exact fun Wz hSw => exec_load_row _ _ (by rfl) gy _ (ctlA x) (0, 0) _ (by rfl) hSw.2.1 Tryd.underlying36 rfl (ctl_size x)
          try simp only [Act.put, List.getElem_toArray, List.getElem_cons_succ, List.getElem_cons_zero, List.setIfInBounds_toArray, List.set_cons_zero, List.set_cons_succ]
          refine wpAnyH_take (i := 6) (v := .bool true) rfl (by kernel_rfl) (by kernel_rfl) (by kernel_rfl) (fun _ _ _ h => h) (Or.inl ⟨by kernel_rfl, ?_⟩) (by assumption) ?_
          case refine_1 => exact fun Wz hSw => exec_eql _ _ (by rfl) (ctlA x) (ctlA x) true (by rfl) (by rfl) (ctl_eql Wz x) guardC
          try simp only [Act.put, List.getElem_toArray, List.getElem_cons_succ, List.getElem_cons_zero, List.setIfInBounds_toArray, List.set_cons_zero, List.set_cons_succ]
          refine wpAnyH_take (i := 7) (v := .bool true) rfl (by kernel_rfl) (by kernel_rfl) (by kernel_rfl) (fun _ _ _ h => h) (Or.inl ⟨by kernel_rfl, ?_⟩) (by assumption) ?_
          case refine_1 => (intro Wz hSw; go_simp; try with_reducible rfl)
          try simp only [Act.put, List.getElem_toArray, List.getElem_cons_succ, List.getElem_cons_zero, List.setIfInBounds_toArray, List.set_cons_zero, List.set_cons_succ]
          refine wpAnyH_take (i := 8) (v := ?_) rfl (by kernel_rfl) (by kernel_rfl) (by kernel_rfl) (fun _ _ _ h => h) (Or.inl ⟨by kernel_rfl, ?_⟩) (by assumption) ?_
          case refine_2 => (intro Wz hSw; go_simp; try with_reducible rfl)
          try simp only [Act.put, List.getElem_toArray, List.getElem_cons_succ, List.getElem_cons_zero, List.setIfInBounds_toArray, List.set_cons_zero, List.set_cons_succ]
          refine wpAnyH_take (i := 9) (v := .agg (ctlA x)) rfl (by kernel_rfl) (by kernel_rfl) (by kernel_rfl) (fun _ _ _ h => h) (Or.inl ⟨by kernel_rfl, ?_⟩) (by assumption) ?_
          case refine_1 => exact fun Wz hSw => exec_load_row _ _ (by rfl) gx _ (ctlA x) (0, 0) _ (by rfl) hSw.1 Tryd.underlying36 rfl (ctl_size x)
          try simp only [Act.put, List.getElem_toArray, List.getElem_cons_succ, List.getElem_cons_zero, List.setIfInBounds_toArray, List.set_cons_zero, List.set_cons_succ]
          refine wpAnyH_take (i := 13) (v := .agg (ctlA x)) rfl (by kernel_rfl) (by kernel_rfl) (by kernel_rfl) (fun _ _ _ h => h) (Or.inl ⟨by kernel_rfl, ?_⟩) (by assumption) ?_
          case refine_1 => exact fun Wz hSw => exec_load_row _ _ (by rfl) gx _ (ctlA x) (0, 0) _ (by rfl) hSw.1 Tryd.underlying36 rfl (ctl_size x)
          try simp only [Act.put, List.getElem_toArray, List.getElem_cons_succ, List.getElem_cons_zero, List.setIfInBounds_toArray, List.set_cons_zero, List.set_cons_succ]
          refine wpAnyH_ready (rs := [10]) (by kernel_rfl) (by simp) ?_
          refine AllReadyH.cons rfl (fun K hK => ?_) AllReadyH.nil
          go_simp
          refine (HTx.out x _ hHeld5.2.2 HI6.out).mono ?_
          rintro e w6 ⟨rfl, hbb⟩
          have hHeld6 : (fun Wz : World => Bx Wz gx 36 (ctlA x) ∧ Bx Wz gy 36 (ctlA x) ∧ Below w.heap.size w Wz) w6 := ⟨hHeld5.1.later hbb, hHeld5.2.1.later hbb, hHeld5.2.2.trans (hbb.mono hHeld5.2.2.size)⟩
          clear hbb
          go_simp
          refine hK.out _ _ hHeld6 (fun hHeld2 => ?_)
          clear hK K hHeld2
          try simp only [Act.put, List.getElem_toArray, List.getElem_cons_succ, List.getElem_cons_zero, List.setIfInBounds_toArray, List.set_cons_zero, List.set_cons_succ]
          refine wpAnyH_ready (rs := [11]) (by kernel_rfl) (by simp) ?_
          refine AllReadyH.cons rfl (fun K hK => ?_) AllReadyH.nil
          go_simp
          have hHeld7 : (fun Wz : World => Bx Wz gx 36 (ctlA x) ∧ Bx Wz gy 36 (ctlA x) ∧ Below w.heap.size w Wz) (w6.alloc (Obj.cells #[.string (mkS (textC x))] 9)) := ⟨hHeld6.1.later (below_allocC _ _), hHeld6.2.1.later (below_allocC _ _), hHeld6.2.2.alloc hHeld6.2.2.size _⟩
          refine hK.out _ _ hHeld7 (fun hHeld2 => ?_)
          clear hK K hHeld2
          try simp only [Act.put, List.getElem_toArray, List.getElem_cons_succ, List.getElem_cons_zero, List.setIfInBounds_toArray, List.set_cons_zero, List.set_cons_succ]
          refine wpAnyH_ready (rs := [12]) (by kernel_rfl) (by simp) ?_
          refine AllReadyH.cons rfl (fun K hK => ?_) AllReadyH.nil
          go_simp
          refine (HP1.out x w6 HI6.out).mono ?_
          rintro e w8 ⟨rfl, hbb⟩
          have hHeld8 : (fun Wz : World => Bx Wz gx 36 (ctlA x) ∧ Bx Wz gy 36 (ctlA x) ∧ Below w.heap.size w Wz) w8 := ⟨hHeld6.1.later hbb, hHeld6.2.1.later hbb, hHeld6.2.2.trans (hbb.mono hHeld6.2.2.size)⟩
          clear hbb
          rw [HPT.out]
          go_simp
          refine hK.out _ _ hHeld8 (fun hHeld2 => ?_)
          clear hK K hHeld2
          try simp only [Act.put, List.getElem_toArray, List.getElem_cons_succ, List.getElem_cons_zero, List.setIfInBounds_toArray, List.set_cons_zero, List.set_cons_succ]
          refine wpAnyH_take (i := 14) (v := .bool true) rfl (by kernel_rfl) (by kernel_rfl) (by kernel_rfl) (fun _ _ _ h => h) (Or.inl ⟨by kernel_rfl, ?_⟩) (by assumption) ?_
          case refine_1 => exact fun Wz hSw => exec_eql _ _ (by rfl) (ctlA x) (ctlA x) true (by rfl) (by rfl) (ctl_eql Wz x) guardC
          try simp only [Act.put, List.getElem_toArray, List.getElem_cons_succ, List.getElem_cons_zero, List.setIfInBounds_toArray, List.set_cons_zero, List.set_cons_succ]
          refine wpAnyH_take (i := 15) (v := .bool true) rfl (by kernel_rfl) (by kernel_rfl) (by kernel_rfl) (fun _ _ _ h => h) (Or.inl ⟨by kernel_rfl, ?_⟩) (by assumption) ?_
          case refine_1 => (intro Wz hSw; go_simp; try with_reducible rfl)
          try simp only [Act.put, List.getElem_toArray, List.getElem_cons_succ, List.getElem_cons_zero, List.setIfInBounds_toArray, List.set_cons_zero, List.set_cons_succ]
          refine wpAnyH_take (i := 16) (v := ?_) rfl (by kernel_rfl) (by kernel_rfl) (by kernel_rfl) (fun _ _ _ h => h) (Or.inl ⟨by kernel_rfl, ?_⟩) (by assumption) ?_
          case refine_2 => (intro Wz hSw; go_simp; try with_reducible rfl)
          try simp only [Act.put, List.getElem_toArray, List.getElem_cons_succ, List.getElem_cons_zero, List.setIfInBounds_toArray, List.set_cons_zero, List.set_cons_succ]
          refine wpAnyH_done (by kernel_rfl) ?_ _
          go_wp2_with fail
          go_ret
          exact ⟨rfl, hHeld8.2.2⟩

end Tk
end Go.Proofs.YtdmjpfmjfffmiaaDoor
