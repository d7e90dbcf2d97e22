/- LawCx, put together. -/
import Derived.Test.YtnbipbeeengiaaaGreatDoorQS
import Derived.Test.YtnbipbeeengiaaaGreatDoorQJ
import Derived.Test.YtnbipbeeengiaaaGreatDoorQO
import Derived.Deep.Cut
import Derived.Deep.RegionHeld
namespace Go.Proofs.YtnbipbeeengiaaaGreatDoor
open Go.RowKit
namespace Tk

theorem addP_run {W : World} {o : Oper} {a : Act} {K : Act → World → Prop} {Q : Exit → Act → World → Prop} (s x : Operand)
    (ho : o.op = .call { callee := .builtin .append, args := #[s, x], argTypes := #[65, 65] })
    (base : Nat) (v : Value) (P : List (Bs × Bs)) (t : Bs × Bs) (hs : a.eval s = v) (hx : a.eval x = .slice (some ⟨W.heap.size, 0, none⟩) 1 1) (h1 : W.ownsRow base 72 2 v P.length (pcells P)) (hB : base ≤ W.heap.size) (hP : P.length ≤ 1048576)
    (h : ∀ v' w', w'.ownsRow base 72 2 v' (P ++ [t]).length (pcells (P ++ [t])) → (W.alloc (.cells #[.string (mkS t.1), .string (mkS t.2)] 72)).grownBy w' v.ownBlock → K (a.put o.dst v') w') :
    o.wp Tryz.prog a (W.alloc (.cells #[.string (mkS t.1), .string (mkS t.2)] 72)) K Q := by
  obtain ⟨i0, hi, hz0, hz1, hz2⟩ := info_parts prInfo
  refine wp_append_own (P := Tryz.prog) _ s x 65 ho base 72 i0 (.agg #[.string .empty, .string .empty]) 2 32 Tryz.underlying65 hi hz0 hz1 hz2 rfl (by decide) v P.length (pcells P) hs (h1.alloc _) ⟨W.heap.size, 0, none⟩ 1 1 [.string (mkS t.1), .string (mkS t.2)] hx rfl (cell_two_newC _ _ _ _) (by simp [Value.oneCell']) (by unfold maxLen; omega) (by omega) (by simp; omega) ?_
  intro v' w' ho' hg' _
  refine h v' w' ?_ hg'
  rw [List.length_append, pcells_app]
  exact ho'
theorem step_addP {ops : Array Oper} {W : World} {o : Oper} {a : Act} {K : Act → World → Prop} {Q : Exit → Act → World → Prop} {E : Prop} (hgd : o.guard = none) (s x : Operand)
    (ho : o.op = .call { callee := .builtin .append, args := #[s, x], argTypes := #[65, 65] })
    (base : Nat) (v : Value) (P : List (Bs × Bs)) (t : Bs × Bs) (hs : a.eval s = v) (hx : a.eval x = .slice (some ⟨W.heap.size, 0, none⟩) 1 1) (h1 : W.ownsRow base 72 2 v P.length (pcells P)) (hB : base ≤ W.heap.size) (hP : P.length ≤ 1048576)
    (h : ∀ v' w', w'.ownsRow base 72 2 v' (P ++ [t]).length (pcells (P ++ [t])) → (W.alloc (.cells #[.string (mkS t.1), .string (mkS t.2)] 72)).grownBy w' v.ownBlock → K (a.put o.dst v') w') :
    if Region.wanted o (yielded ops a.tmps) = true then Oper.wp Tryz.prog o a (W.alloc (.cells #[.string (mkS t.1), .string (mkS t.2)] 72)) K Q else E := by
  have hw : Region.wanted o (yielded ops a.tmps) = true := by simp [Region.wanted, hgd]
  rw [if_pos hw]
  exact addP_run s x ho base v P t hs hx h1 hB hP h
theorem exec_eqlX {P : Program} {ρ : Operand → Value} {o : Oper} {w : World} {t t2 : TypeId} (x y : Operand) (ho : o.op = .binOp .eql t x y t2) (xs ys : Array Value) (b : Bool) (hx : ρ x = .agg xs) (hy : ρ y = .agg ys)
    (h : (binOp .eql t (.agg xs) (.agg ys)).run P w = .ok (.bool b) w) (hm : P.eqGuardType P.depth t = false) : (execOp ρ o).run P w = .ok (.value (.bool b)) w := by
  simp [execOp, ho, hx, hy, h, run_eqGuard_agg (P := P) w BinOp.eql t x y xs ys hm, Result.andThen]
theorem guardX : Tryz.prog.eqGuardType Tryz.prog.depth 63 = false := by kernel_rfl
theorem isDirs_below {w w' : World} {v : Value} {L : List Dir} (h : IsDirs w v L) (hb : Below w.heap.size w w') : IsDirs w' v L := by
  obtain ⟨a, c, rfl, h⟩ := h
  refine ⟨a, c, rfl, fun j f hj => ?_⟩
  obtain ⟨b, o, rfl, h1, h2, h3⟩ := h j f hj
  exact ⟨b, o, rfl, (hb.cell (p := ⟨b, o + j * 3, none⟩) (cell_in (p := ⟨b, o + j * 3, none⟩) h1)).trans h1, (hb.cell (p := ⟨b, o + j * 3 + 1, none⟩) (cell_in (p := ⟨b, o + j * 3 + 1, none⟩) h2)).trans h2, (hb.cell (p := ⟨b, o + j * 3 + 2, none⟩) (cell_in (p := ⟨b, o + j * 3 + 2, none⟩) h3)).trans h3⟩
def pairD (d : Dir) : Bs × Bs := (d.1, d.2.1)
theorem pair_take (D : List Dir) (i : Nat) (h : i < D.length) : (D.take (i + 1)).map pairD = (D.take i).map pairD ++ [pairD (D.getD i ([], [], false))] := by
  rw [List.take_succ_eq_append_getElem h, List.map_append]
  simp [List.getD, h]

set_option maxHeartbeats 32000000 in
set_option maxRecDepth 100000 in
theorem ccalls10_any (v : Value) (L : List Bs) (a b : Ctl) (w : World) (hs : IsStrs w v L) (hz : ∀ x ∈ L, x.length ≤ 140737488351232) (hl : L.length ≤ 140737488351232) (ha : i64C a) (hb : i64C b) (hT : TenC w) :
    Calls Tryz.prog 6 #[v, .agg (ctlA a), .agg (ctlA b)] w fun e w' => e = .returned (.bool true) ∧ Below w.heap.size w w' := by
  have HLv : Hid (∀ W : World, Calls Tryz.prog 29 #[] W fun e w' => e = .returned (.bool true) ∧ Below W.heap.size W w') := lives10_any
  have HLt : Hid (∀ W : World, Below w.heap.size w W → Calls Tryz.prog 30 #[v, .int .i64 20, .int .i64 600] W fun e w' => e = .returned (.bool (lightX 20 600 L)) ∧ W = w') := fun W hb => lightX_any 20 600 v L W (by decide) (by decide) (isStrsC_below hs hb) hz hl
  have hA1 := Bx.new w 63 (ctlA a)
  have hb1 := below_allocC w (.cells (ctlA a) 63)
  have hz1 : (w.alloc (.cells (ctlA a) 63)).heap.size = w.heap.size + 1 := by simp
  have hB2 := Bx.new (w.alloc (.cells (ctlA a) 63)) 63 (ctlA b)
  have hb2 := below_allocC (w.alloc (.cells (ctlA a) 63)) (.cells (ctlA b) 63)
  have hA2 := hA1.later hb2
  have hw2 := hb1.trans (hb2.mono hb1.size)
  rw [hz1] at hB2
  have HXa := Lib.hid hA2
  have HXb := Lib.hid hB2
  have HW2 := Lib.hid hw2
  have HI := Lib.hid (And.intro ha hb)
  have HT := Lib.hid hT
  have HS := Lib.hid hs
  clear hA1 hb1 hB2 hb2 hz1 hA2 hw2 ha hb hT hs hl
  by_cases hlight : lightX 20 600 L = true
  · obtain ⟨hl20, hlen, hz6⟩ := light_lens hlight
    have hdl := dirsL_len L
    have hpl : (pairsL L).length ≤ 700 := by unfold pairsL; rw [List.length_map]; omega
    have HEa : Hid (∀ W : World, Below w.heap.size w W → Calls Tryz.prog 31 #[v] W (EachedPost L W)) := fun W hb => leach_any v L W (isStrsC_below HS.out hb) (fun x hx => by have := hz6 x hx; omega) (by omega) hpl
    have HEr : Hid (∀ W : World, Below w.heap.size w W → Calls Tryz.prog 32 #[v] W (RDirs (dirsL L) W)) := fun W hb => reach10_any v L W (isStrsC_below HS.out hb) (fun x hx => by have := hz6 x hx; omega) (by omega) (by omega)
    have HPa : Hid (∀ W : World, Below w.heap.size w W → Calls Tryz.prog 34 #[v] W fun e w' => e = .returned (.agg (ctlA (parseL L))) ∧ Below W.heap.size W w') := fun W hb => parse_any v L W (isStrsC_below HS.out hb) (by omega) (fun x hx => by have := hz6 x hx; omega)
    have HPr : Hid (∀ W : World, Below w.heap.size w W → Calls Tryz.prog 35 #[v] W fun e w' => e = .returned (.agg (ctlA (parseL L))) ∧ Below W.heap.size W w') := fun W hb => rparse10_any v L W (isStrsC_below HS.out hb) (fun x hx => by have := hz6 x hx; omega) (by omega) (by omega)
    have HNo : Hid (∀ W : World, Calls Tryz.prog 36 #[] W fun e w' => e = .returned (.agg (ctlA noneC)) ∧ Below W.heap.size W w') := cnone_any
    have HNr : Hid (∀ W : World, Calls Tryz.prog 37 #[] W fun e w' => e = .returned (.agg (ctlA noneC)) ∧ Below W.heap.size W w') := rcnone_any
    have HTx : Hid (∀ W : World, Below w.heap.size w W → Calls Tryz.prog 38 #[.agg (ctlA a)] W fun e w' => e = .returned (.string (mkS (textC a))) ∧ Below W.heap.size W w') := fun W h => ctext_any a W (HT.out.later h) HI.out.1
    have HTr : Hid (∀ W : World, Calls Tryz.prog 39 #[.agg (ctlA a)] W fun e w' => e = .returned (.string (mkS (textC a))) ∧ Below W.heap.size W w') := fun W => rtext10_any a W HI.out.1
    have HCk : Hid (∀ W : World, Calls Tryz.prog 40 #[.agg (ctlA a)] W fun e w' => e = .returned (.int .i64 (chkE a)) ∧ Below W.heap.size W w') := fun W => ccheck_any a W
    have HCr : Hid (∀ W : World, Calls Tryz.prog 41 #[.agg (ctlA a)] W fun e w' => e = .returned (.int .i64 (chkE a)) ∧ Below W.heap.size W w') := fun W => rccheck_any a W
    have HJo : Hid (∀ W : World, Below w.heap.size w W → Calls Tryz.prog 42 #[.agg (ctlA a), .agg (ctlA b)] W fun e w' => e = .returned (.agg (ctlA (parseL [textC a, textC b]))) ∧ Below W.heap.size W w') := fun W h => cjoin_any a b W (HT.out.later h) HI.out.1 HI.out.2
    have HJr : Hid (∀ W : World, Calls Tryz.prog 43 #[.agg (ctlA a), .agg (ctlA b)] W fun e w' => e = .returned (.agg (ctlA (parseL [textC a, textC b]))) ∧ Below W.heap.size W w') := fun W => rjoin10_any a b W HI.out.1 HI.out.2
    have HSk : Hid (∀ (v1 v2 : Value) (W : World), IsPrs W v1 (pairsL L) → IsPrs W v2 (pairsL L) → Calls Tryz.prog 33 #[v1, v2] W fun e w' => e = .returned (.bool true) ∧ Below W.heap.size W w') := fun v1 v2 W h1 h2 => psame_self v1 v2 _ W h1 h2 (by omega)
    have HPD := Lib.hid (show (dirsL L).map pairD = pairsL L from rfl)
    have hdz : (dirsL L).length ≤ 700 := by unfold pairsL at hpl; rw [List.length_map] at hpl; exact hpl
    unfold EachedPost at HEa
    unfold RDirs at HEr
    rw [hlight] at HLt
    clear hlight hl20 hlen hz6 hdl hpl hz HS HT HI
    generalize pairsL L = PL at *
    generalize dirsL L = DL at *
    generalize parseL L = cp at *
    generalize parseL [textC a, textC b] = cj at *
    generalize textC a = ta at *
    generalize textC b = tb at *
    generalize chkE a = ck at *
    go_enter Tryz.func6, Tryz.ntmps6
    go_wp2_with fail
    generalize (w.alloc (.cells (ctlA a) 63)).alloc (.cells (ctlA b) 63) = W2 at *
    generalize hga : w.heap.size + 1 = gb at *
    refine (HLv.out _).mono ?_
    rintro e w3 ⟨rfl, hb3⟩
    have HW3 := Lib.hid (HW2.out.trans (hb3.mono HW2.out.size))
    have HXa3 := Lib.hid (HXa.out.later hb3)
    have HXb3 := Lib.hid (HXb.out.later hb3)
    clear hb3 HW2 HXa HXb HLv
    go_wp2_with fail
    refine (HLt.out _ HW3.out).mono ?_
    rintro e w4 ⟨rfl, rfl⟩
    go_wp2_with fail
    refine (HEa.out _ HW3.out).mono ?_
    rintro e w5 ⟨vg, rfl, hog, hb5⟩
    have HW5 := Lib.hid (HW3.out.trans (hb5.mono HW3.out.size))
    have HXa5 := Lib.hid (HXa3.out.later hb5)
    have HXb5 := Lib.hid (HXb3.out.later hb5)
    have HG5 := Lib.hid (isPrs_own hog)
    clear hb5 hog HW3 HXa3 HXb3 HEa HLt
    go_wp2_with fail
    refine (HEr.out _ HW5.out).mono ?_
    rintro e w6 ⟨vd, rfl, hod, hb6⟩
    have HW6 := Lib.hid (HW5.out.trans (hb6.mono HW5.out.size))
    have HXa6 := Lib.hid (HXa5.out.later hb6)
    have HXb6 := Lib.hid (HXb5.out.later hb6)
    have HG6 := Lib.hid (isPrs_below HG5.out hb6)
    have HD6 := Lib.hid (isDirs_own hod)
    obtain ⟨ad, cd, rfl⟩ : ∃ a c, vd = .slice a DL.length c := by obtain ⟨a, c, h, -⟩ := isDirs_own hod; exact ⟨a, c, h⟩
    clear hb6 hod HW5 HXa5 HXb5 HG5 HEr
    go_wp2_with fail
    go_loopw [10, 11] (fun v10 v11 wr => ∃ i : Nat, i ≤ DL.length ∧ v11 = .int .i64 i ∧ Hid (Below w6.heap.size w6 wr) ∧ Hid (wr.ownsRow w6.heap.size 72 2 v10 ((DL.take i).map pairD).length (pcells ((DL.take i).map pairD)))) (fun _ v11 _ => DL.length - (RowKit.intOf v11).toNat)
    case atStart => exact ⟨0, Nat.zero_le _, rfl, Below.refl _ _, World.ownsRow_nil _ _ _ _⟩
    case round =>
      obtain ⟨i, hi, rfl, HB, HO⟩ := hrel
      rename World => W
      by_cases hlt : i < DL.length
      · obtain ⟨a', c', he, hcs⟩ := HD6.out
        injection he with he1 he9 he2
        clear he9
        subst he1 he2
        obtain ⟨bd, od, rfl, e1, e2, -⟩ := hcs i (DL.getD i ([], [], false)) (by simp [List.getD, hlt])
        have hst := pair_take DL i hlt
        have hpl : ((DL.take i).map pairD).length ≤ 700 := by rw [List.length_map, List.length_take]; omega
        have f1 := (HB.out.cell (p := ⟨bd, od + i * 3, none⟩) (cell_in (p := ⟨bd, od + i * 3, none⟩) e1)).trans e1
        have f2 := (HB.out.cell (p := ⟨bd, od + i * 3 + 1, none⟩) (cell_in (p := ⟨bd, od + i * 3 + 1, none⟩) e2)).trans e2
        have HLow := Lib.hid (⟨cell_in (p := ⟨bd, od + i * 3, none⟩) e1, e1, e2⟩ : bd < w6.heap.size ∧ _ ∧ _)
        clear hcs e1 e2
        have hpd : pairD (DL.getD i ([], [], false)) = ((DL.getD i ([], [], false)).1, (DL.getD i ([], [], false)).2.1) := rfl
        rw [hpd] at hst
        clear hpd
        generalize (DL.getD i ([], [], false)).1 = nm at *
        generalize (DL.getD i ([], [], false)).2.1 = tx at *
        generalize (DL.take i).map pairD = Q at *
        have HSt := Lib.hid hst
        have HQl := Lib.hid hpl
        have g0 : (0 : Int) ≤ (i : Int) := by omega
        have g1 : (i : Int) < (DL.length : Int) := by omega
        have g2 : (DL.length : Int) ≤ 700 := by omega
        clear hst hpl
        have hHeld0 : (fun Wz : World => Wz.cell? ⟨bd, od + i * 3, none⟩ = some (.string (mkS nm)) ∧ Wz.cell? ⟨bd, od + i * 3 + 1, none⟩ = some (.string (mkS tx)) ∧ Below w6.heap.size w6 Wz) W.drew := ⟨f1, f2, HB.out.drew⟩
        have HOd := Lib.hid (own_laterD HO.out (Below.refl _ _).drew)
        clear f1 f2
        go_wp2_with fail
        refine wp_region_held_drew (S := (fun Wz : World => Wz.cell? ⟨bd, od + i * 3, none⟩ = some (.string (mkS nm)) ∧ Wz.cell? ⟨bd, od + i * 3 + 1, none⟩ = some (.string (mkS tx)) ∧ Below w6.heap.size w6 Wz)) (by kernel_rfl) hHeld0 (fun hHeld => ?_)
        refine wpAnyH_take (i := 0) (v := ?_) rfl (by kernel_rfl) (by kernel_rfl) (by kernel_rfl) (fun _ _ _ h => h) (Or.inl ⟨by kernel_rfl, ?_⟩) (by assumption) ?_
        case refine_2 => (intro Wz hSw; go_simp; try with_reducible rfl)
        try simp only [Act.put, List.getElem_toArray, List.getElem_cons_zero, List.setIfInBounds_toArray, List.set_cons_zero, List.set_cons_succ]
        refine wpAnyH_take (i := 1) (v := ?_) rfl (by kernel_rfl) (by kernel_rfl) (by kernel_rfl) (fun _ _ _ h => h) (Or.inl ⟨by kernel_rfl, ?_⟩) (by assumption) ?_
        case refine_2 => (intro Wz hSw; go_simp; try with_reducible rfl)
        try simp only [Act.put, List.getElem_toArray, List.getElem_cons_succ, List.getElem_cons_zero, List.setIfInBounds_toArray, List.set_cons_zero, List.set_cons_succ]
        refine wpAnyH_take (i := 2) (v := ?_) rfl (by kernel_rfl) (by kernel_rfl) (by kernel_rfl) (fun _ _ _ h => h) (Or.inl ⟨by kernel_rfl, ?_⟩) (by assumption) ?_
        case refine_2 => (intro Wz hSw; go_simp; try with_reducible rfl)
        try simp only [Act.put, List.getElem_toArray, List.getElem_cons_succ, List.getElem_cons_zero, List.setIfInBounds_toArray, List.set_cons_zero, List.set_cons_succ]
        refine wpAnyH_take (i := 3) (v := ?_) rfl (by kernel_rfl) (by kernel_rfl) (by kernel_rfl) (fun _ _ _ h => h) (Or.inl ⟨by kernel_rfl, ?_⟩) (by assumption) ?_
        case refine_2 => (intro Wz hSw; go_simp; try with_reducible rfl)
        try simp only [Act.put, List.getElem_toArray, List.getElem_cons_succ, List.getElem_cons_zero, List.setIfInBounds_toArray, List.set_cons_zero, List.set_cons_succ]
        refine wpAnyH_take (i := 4) (v := ?_) rfl (by kernel_rfl) (by kernel_rfl) (by kernel_rfl) (fun _ _ _ h => h) (Or.inl ⟨by kernel_rfl, ?_⟩) (by assumption) ?_
        case refine_2 => (intro Wz hSw; go_simp; try with_reducible rfl)
        try simp only [Act.put, List.getElem_toArray, List.getElem_cons_succ, List.getElem_cons_zero, List.setIfInBounds_toArray, List.set_cons_zero, List.set_cons_succ]
        refine wpAnyH_take (i := 5) (v := .string (mkS nm)) rfl (by kernel_rfl) (by kernel_rfl) (by kernel_rfl) (fun _ _ _ h => h) (Or.inl ⟨by kernel_rfl, ?_⟩) (by assumption) ?_
        case refine_1 => (intro Wz hSw; have u := hSw.1; go_simp; try with_reducible rfl)
        try simp only [Act.put, List.getElem_toArray, List.getElem_cons_succ, List.getElem_cons_zero, List.setIfInBounds_toArray, List.set_cons_zero, List.set_cons_succ]
        refine wpAnyH_take (i := 6) (v := ?_) rfl (by kernel_rfl) (by kernel_rfl) (by kernel_rfl) (fun _ _ _ h => h) (Or.inl ⟨by kernel_rfl, ?_⟩) (by assumption) ?_
        case refine_2 => (intro Wz hSw; go_simp; try with_reducible rfl)
        try simp only [Act.put, List.getElem_toArray, List.getElem_cons_succ, List.getElem_cons_zero, List.setIfInBounds_toArray, List.set_cons_zero, List.set_cons_succ]
        refine wpAnyH_take (i := 7) (v := ?_) rfl (by kernel_rfl) (by kernel_rfl) (by kernel_rfl) (fun _ _ _ h => h) (Or.inl ⟨by kernel_rfl, ?_⟩) (by assumption) ?_
        case refine_2 => (intro Wz hSw; go_simp; try with_reducible rfl)
        try simp only [Act.put, List.getElem_toArray, List.getElem_cons_succ, List.getElem_cons_zero, List.setIfInBounds_toArray, List.set_cons_zero, List.set_cons_succ]
        refine wpAnyH_take (i := 8) (v := ?_) rfl (by kernel_rfl) (by kernel_rfl) (by kernel_rfl) (fun _ _ _ h => h) (Or.inl ⟨by kernel_rfl, ?_⟩) (by assumption) ?_
        case refine_2 => (intro Wz hSw; go_simp; try with_reducible rfl)
        try simp only [Act.put, List.getElem_toArray, List.getElem_cons_succ, List.getElem_cons_zero, List.setIfInBounds_toArray, List.set_cons_zero, List.set_cons_succ]
        refine wpAnyH_take (i := 9) (v := ?_) rfl (by kernel_rfl) (by kernel_rfl) (by kernel_rfl) (fun _ _ _ h => h) (Or.inl ⟨by kernel_rfl, ?_⟩) (by assumption) ?_
        case refine_2 => (intro Wz hSw; go_simp; try with_reducible rfl)
        try simp only [Act.put, List.getElem_toArray, List.getElem_cons_succ, List.getElem_cons_zero, List.setIfInBounds_toArray, List.set_cons_zero, List.set_cons_succ]
        refine wpAnyH_take (i := 10) (v := .string (mkS tx)) rfl (by kernel_rfl) (by kernel_rfl) (by kernel_rfl) (fun _ _ _ h => h) (Or.inl ⟨by kernel_rfl, ?_⟩) (by assumption) ?_
        case refine_1 => (intro Wz hSw; have u := hSw.2.1; go_simp; try with_reducible rfl)
        try simp only [Act.put, List.getElem_toArray, List.getElem_cons_succ, List.getElem_cons_zero, List.setIfInBounds_toArray, List.set_cons_zero, List.set_cons_succ]
        refine wpAnyH_take (i := 11) (v := .agg #[.string (mkS nm), .string (mkS tx)]) rfl (by kernel_rfl) (by kernel_rfl) (by kernel_rfl) (fun _ _ _ h => h) (Or.inl ⟨by kernel_rfl, ?_⟩) (by assumption) ?_
        case refine_1 => (intro Wz hSw; go_simp; try with_reducible rfl)
        try simp only [Act.put, List.getElem_toArray, List.getElem_cons_succ, List.getElem_cons_zero, List.setIfInBounds_toArray, List.set_cons_zero, List.set_cons_succ]
        refine wpAnyH_ready (rs := [12]) (by kernel_rfl) (by simp) ?_
        refine AllReadyH.cons rfl (fun K hK => ?_) AllReadyH.nil
        go_simp
        have hHeld5 : (fun Wz : World => Wz.cell? ⟨bd, od + i * 3, none⟩ = some (.string (mkS nm)) ∧ Wz.cell? ⟨bd, od + i * 3 + 1, none⟩ = some (.string (mkS tx)) ∧ Below w6.heap.size w6 Wz) (W.drew.alloc (Obj.cells #[.string (mkS nm), .string (mkS tx)] 72)) := ⟨(below_allocC W.drew _).cell (p := ⟨bd, od + i * 3, none⟩) (cell_in (p := ⟨bd, od + i * 3, none⟩) hHeld0.1) |>.trans hHeld0.1, (below_allocC W.drew _).cell (p := ⟨bd, od + i * 3 + 1, none⟩) (cell_in (p := ⟨bd, od + i * 3 + 1, none⟩) hHeld0.2.1) |>.trans hHeld0.2.1, hHeld0.2.2.alloc hHeld0.2.2.size _⟩
        refine hK.out _ _ hHeld5 (fun hHeld2 => ?_)
        clear hK K hHeld2
        try simp only [Act.put, List.getElem_toArray, List.getElem_cons_succ, List.getElem_cons_zero, List.setIfInBounds_toArray, List.set_cons_zero, List.set_cons_succ]
        refine wpAnyH_ready (rs := [13]) (by kernel_rfl) (by simp) ?_
        refine AllReadyH.cons rfl (fun K hK => ?_) AllReadyH.nil
        refine step_addP (by rfl) _ _ (by rfl) w6.heap.size _ Q (nm, tx) (by rfl) (by rfl) HOd.out hHeld0.2.2.size (by have := HQl.out; omega) ?_
        intro v7 w7 ho7 hg7
        have hb7 : Below w6.heap.size w6 w7 := hHeld5.2.2.trans (below_of_grownD hg7 (HOd.out.alloc _) hHeld5.2.2.size)
        have hrow : W.drew.heap.size ≤ w7.heap.size := by have := hg7.size; simp at this ⊢; omega
        have kc : ∀ (p : Addr) (x : Value), p.block < w6.heap.size → w6.cell? p = some x → w7.cell? p = some x := fun p x hp hx => (hb7.cell (p := p) hp).trans hx
        have HB7 := Lib.hid hb7
        have HO7 : Hid (w7.ownsRow w6.heap.size 72 2 v7 ((DL.take (i + 1)).map pairD).length (pcells ((DL.take (i + 1)).map pairD))) := by show World.ownsRow _ _ _ _ _ _ _; rw [HSt.out]; exact ho7
        have hHeld7 : (fun Wz : World => Wz.cell? ⟨bd, od + i * 3, none⟩ = some (.string (mkS nm)) ∧ Wz.cell? ⟨bd, od + i * 3 + 1, none⟩ = some (.string (mkS tx)) ∧ Below w6.heap.size w6 Wz) w7 := ⟨kc _ _ (HLow.out.1) HLow.out.2.1, kc _ _ (HLow.out.1) HLow.out.2.2, hb7⟩
        clear kc hrow hb7 ho7 hg7
        refine hK.out _ _ hHeld7 (fun hHeld2 => ?_)
        clear hK K hHeld2
        try simp only [Act.put, List.getElem_toArray, List.getElem_cons_succ, List.getElem_cons_zero, List.setIfInBounds_toArray, List.set_cons_zero, List.set_cons_succ]
        refine wpAnyH_take (i := 14) (v := ?_) rfl (by kernel_rfl) (by kernel_rfl) (by kernel_rfl) (fun _ _ _ h => h) (Or.inl ⟨by kernel_rfl, ?_⟩) (by assumption) ?_
        case refine_2 => (intro Wz hSw; go_simp; try with_reducible rfl)
        try simp only [Act.put, List.getElem_toArray, List.getElem_cons_succ, List.getElem_cons_zero, List.setIfInBounds_toArray, List.set_cons_zero, List.set_cons_succ]
        refine wpAnyH_done (by kernel_rfl) ?_ _
        clear hHeld0 hHeld5 hHeld7 hHeld
        go_wp2_with fail
        exact ⟨⟨i + 1, by omega, by go_num, HB7, HO7⟩, by simp [RowKit.intOf]; omega⟩
      · obtain rfl : i = DL.length := by omega
        rw [List.take_length, HPD.out] at HO
        have HBW := Lib.hid (HW6.out.trans (HB.out.mono HW6.out.size))
        have HXaW := Lib.hid (HXa6.out.later HB.out)
        have HXbW := Lib.hid (HXb6.out.later HB.out)
        have HGW := Lib.hid (isPrs_below HG6.out HB.out)
        have HPW := Lib.hid (isPrs_own HO.out)
        clear HO HB HXa6 HXb6 HG6 HD6 HW6 HPD
        have hHeld0 : (fun Wz : World => Below w.heap.size w Wz ∧ Below W.heap.size W Wz) W.drew := ⟨HBW.out.drew, (Below.refl _ _).drew⟩
        go_wp2_with fail
        refine wp_region_held_drew (S := (fun Wz : World => Below w.heap.size w Wz ∧ Below W.heap.size W Wz)) (by kernel_rfl) hHeld0 (fun hHeld => ?_)
        refine wpAnyH_take (i := 0) (v := ?_) rfl (by kernel_rfl) (by kernel_rfl) (by kernel_rfl) (fun _ _ _ h => h) (Or.inl ⟨by kernel_rfl, ?_⟩) (by assumption) ?_
        case refine_2 => (intro Wz hSw; go_simp; try with_reducible rfl)
        try simp only [Act.put, List.getElem_toArray, List.getElem_cons_zero, List.setIfInBounds_toArray, List.set_cons_zero, List.set_cons_succ]
        refine wpAnyH_take (i := 1) (v := ?_) rfl (by kernel_rfl) (by kernel_rfl) (by kernel_rfl) (fun _ _ _ h => h) (Or.inl ⟨by kernel_rfl, ?_⟩) (by assumption) ?_
        case refine_2 => (intro Wz hSw; go_simp; try with_reducible rfl)
        try simp only [Act.put, List.getElem_toArray, List.getElem_cons_succ, List.getElem_cons_zero, List.setIfInBounds_toArray, List.set_cons_zero, List.set_cons_succ]
        refine wpAnyH_take (i := 2) (v := ?_) rfl (by kernel_rfl) (by kernel_rfl) (by kernel_rfl) (fun _ _ _ h => h) (Or.inl ⟨by kernel_rfl, ?_⟩) (by assumption) ?_
        case refine_2 => (intro Wz hSw; go_simp; try with_reducible rfl)
        try simp only [Act.put, List.getElem_toArray, List.getElem_cons_succ, List.getElem_cons_zero, List.setIfInBounds_toArray, List.set_cons_zero, List.set_cons_succ]
        refine wpAnyH_take (i := 3) (v := ?_) rfl (by kernel_rfl) (by kernel_rfl) (by kernel_rfl) (fun _ _ _ h => h) (Or.inl ⟨by kernel_rfl, ?_⟩) (by assumption) ?_
        case refine_2 => (intro Wz hSw; go_simp; try with_reducible rfl)
        try simp only [Act.put, List.getElem_toArray, List.getElem_cons_succ, List.getElem_cons_zero, List.setIfInBounds_toArray, List.set_cons_zero, List.set_cons_succ]
        refine wpAnyH_ready (rs := [4]) (by kernel_rfl) (by simp) ?_
        refine AllReadyH.cons rfl (fun K hK => ?_) AllReadyH.nil
        go_simp
        refine (HSk.out _ _ _ (isPrs_below HGW.out hHeld0.2) (isPrs_below HPW.out hHeld0.2)).mono ?_
        rintro e w104 ⟨rfl, hbb⟩
        have hHeld4 : (fun Wz : World => Below w.heap.size w Wz ∧ Below W.heap.size W Wz) w104 := ⟨hHeld0.1.trans (hbb.mono hHeld0.1.size), hHeld0.2.trans (hbb.mono hHeld0.2.size)⟩
        clear hbb
        go_simp
        refine hK.out _ _ hHeld4 (fun hHeld2 => ?_)
        clear hK K hHeld2
        try simp only [Act.put, List.getElem_toArray, List.getElem_cons_succ, List.getElem_cons_zero, List.setIfInBounds_toArray, List.set_cons_zero, List.set_cons_succ]
        refine wpAnyH_take (i := 5) (v := .bool true) rfl (by kernel_rfl) (by kernel_rfl) (by kernel_rfl) (fun _ _ _ h => h) (Or.inl ⟨by kernel_rfl, ?_⟩) (by assumption) ?_
        case refine_1 => (intro Wz hSw; go_simp; try with_reducible rfl)
        try simp only [Act.put, List.getElem_toArray, List.getElem_cons_succ, List.getElem_cons_zero, List.setIfInBounds_toArray, List.set_cons_zero, List.set_cons_succ]
        refine wpAnyH_take (i := 6) (v := ?_) rfl (by kernel_rfl) (by kernel_rfl) (by kernel_rfl) (fun _ _ _ h => h) (Or.inl ⟨by kernel_rfl, ?_⟩) (by assumption) ?_
        case refine_2 => (intro Wz hSw; go_simp; try with_reducible rfl)
        try simp only [Act.put, List.getElem_toArray, List.getElem_cons_succ, List.getElem_cons_zero, List.setIfInBounds_toArray, List.set_cons_zero, List.set_cons_succ]
        refine wpAnyH_take (i := 7) (v := ?_) rfl (by kernel_rfl) (by kernel_rfl) (by kernel_rfl) (fun _ _ _ h => h) (Or.inl ⟨by kernel_rfl, ?_⟩) (by assumption) ?_
        case refine_2 => (intro Wz hSw; go_simp; try with_reducible rfl)
        try simp only [Act.put, List.getElem_toArray, List.getElem_cons_succ, List.getElem_cons_zero, List.setIfInBounds_toArray, List.set_cons_zero, List.set_cons_succ]
        refine wpAnyH_take (i := 9) (v := ?_) rfl (by kernel_rfl) (by kernel_rfl) (by kernel_rfl) (fun _ _ _ h => h) (Or.inl ⟨by kernel_rfl, ?_⟩) (by assumption) ?_
        case refine_2 => (intro Wz hSw; go_simp; try with_reducible rfl)
        try simp only [Act.put, List.getElem_toArray, List.getElem_cons_succ, List.getElem_cons_zero, List.setIfInBounds_toArray, List.set_cons_zero, List.set_cons_succ]
        refine wpAnyH_ready (rs := [8]) (by kernel_rfl) (by simp) ?_
        refine AllReadyH.cons rfl (fun K hK => ?_) AllReadyH.nil
        go_simp
        refine (HPa.out _ hHeld4.1).mono ?_
        rintro e w108 ⟨rfl, hbb⟩
        have hHeld8 : (fun Wz : World => Below w.heap.size w Wz ∧ Below W.heap.size W Wz) w108 := ⟨hHeld4.1.trans (hbb.mono hHeld4.1.size), hHeld4.2.trans (hbb.mono hHeld4.2.size)⟩
        clear hbb
        go_simp
        refine hK.out _ _ hHeld8 (fun hHeld2 => ?_)
        clear hK K hHeld2
        try simp only [Act.put, List.getElem_toArray, List.getElem_cons_succ, List.getElem_cons_zero, List.setIfInBounds_toArray, List.set_cons_zero, List.set_cons_succ]
        refine wpAnyH_ready (rs := [10]) (by kernel_rfl) (by simp) ?_
        refine AllReadyH.cons rfl (fun K hK => ?_) AllReadyH.nil
        go_simp
        refine (HPr.out _ hHeld8.1).mono ?_
        rintro e w110 ⟨rfl, hbb⟩
        have hHeld10 : (fun Wz : World => Below w.heap.size w Wz ∧ Below W.heap.size W Wz) w110 := ⟨hHeld8.1.trans (hbb.mono hHeld8.1.size), hHeld8.2.trans (hbb.mono hHeld8.2.size)⟩
        clear hbb
        go_simp
        refine hK.out _ _ hHeld10 (fun hHeld2 => ?_)
        clear hK K hHeld2
        try simp only [Act.put, List.getElem_toArray, List.getElem_cons_succ, List.getElem_cons_zero, List.setIfInBounds_toArray, List.set_cons_zero, List.set_cons_succ]
        refine wpAnyH_take (i := 11) (v := .bool true) rfl (by kernel_rfl) (by kernel_rfl) (by kernel_rfl) (fun _ _ _ h => h) (Or.inl ⟨by kernel_rfl, ?_⟩) (by assumption) ?_
        case refine_1 => exact fun Wz hSw => exec_eqlX _ _ (by rfl) (ctlA cp) (ctlA cp) true (by rfl) (by rfl) (ctl_eql Wz cp) guardX
        try simp only [Act.put, List.getElem_toArray, List.getElem_cons_succ, List.getElem_cons_zero, List.setIfInBounds_toArray, List.set_cons_zero, List.set_cons_succ]
        refine wpAnyH_take (i := 12) (v := .bool true) rfl (by kernel_rfl) (by kernel_rfl) (by kernel_rfl) (fun _ _ _ h => h) (Or.inl ⟨by kernel_rfl, ?_⟩) (by assumption) ?_
        case refine_1 => (intro Wz hSw; go_simp; try with_reducible rfl)
        try simp only [Act.put, List.getElem_toArray, List.getElem_cons_succ, List.getElem_cons_zero, List.setIfInBounds_toArray, List.set_cons_zero, List.set_cons_succ]
        refine wpAnyH_take (i := 13) (v := ?_) rfl (by kernel_rfl) (by kernel_rfl) (by kernel_rfl) (fun _ _ _ h => h) (Or.inl ⟨by kernel_rfl, ?_⟩) (by assumption) ?_
        case refine_2 => (intro Wz hSw; go_simp; try with_reducible rfl)
        try simp only [Act.put, List.getElem_toArray, List.getElem_cons_succ, List.getElem_cons_zero, List.setIfInBounds_toArray, List.set_cons_zero, List.set_cons_succ]
        refine wpAnyH_ready (rs := [14]) (by kernel_rfl) (by simp) ?_
        refine AllReadyH.cons rfl (fun K hK => ?_) AllReadyH.nil
        go_simp
        refine (HNo.out _).mono ?_
        rintro e w114 ⟨rfl, hbb⟩
        have hHeld14 : (fun Wz : World => Below w.heap.size w Wz ∧ Below W.heap.size W Wz) w114 := ⟨hHeld10.1.trans (hbb.mono hHeld10.1.size), hHeld10.2.trans (hbb.mono hHeld10.2.size)⟩
        clear hbb
        go_simp
        refine hK.out _ _ hHeld14 (fun hHeld2 => ?_)
        clear hK K hHeld2
        try simp only [Act.put, List.getElem_toArray, List.getElem_cons_succ, List.getElem_cons_zero, List.setIfInBounds_toArray, List.set_cons_zero, List.set_cons_succ]
        refine wpAnyH_ready (rs := [15]) (by kernel_rfl) (by simp) ?_
        refine AllReadyH.cons rfl (fun K hK => ?_) AllReadyH.nil
        go_simp
        refine (HNr.out _).mono ?_
        rintro e w115 ⟨rfl, hbb⟩
        have hHeld15 : (fun Wz : World => Below w.heap.size w Wz ∧ Below W.heap.size W Wz) w115 := ⟨hHeld14.1.trans (hbb.mono hHeld14.1.size), hHeld14.2.trans (hbb.mono hHeld14.2.size)⟩
        clear hbb
        go_simp
        refine hK.out _ _ hHeld15 (fun hHeld2 => ?_)
        clear hK K hHeld2
        try simp only [Act.put, List.getElem_toArray, List.getElem_cons_succ, List.getElem_cons_zero, List.setIfInBounds_toArray, List.set_cons_zero, List.set_cons_succ]
        refine wpAnyH_take (i := 16) (v := .bool true) rfl (by kernel_rfl) (by kernel_rfl) (by kernel_rfl) (fun _ _ _ h => h) (Or.inl ⟨by kernel_rfl, ?_⟩) (by assumption) ?_
        case refine_1 => exact fun Wz hSw => exec_eqlX _ _ (by rfl) (ctlA noneC) (ctlA noneC) true (by rfl) (by rfl) (ctl_eql Wz noneC) guardX
        try simp only [Act.put, List.getElem_toArray, List.getElem_cons_succ, List.getElem_cons_zero, List.setIfInBounds_toArray, List.set_cons_zero, List.set_cons_succ]
        refine wpAnyH_take (i := 17) (v := .bool true) rfl (by kernel_rfl) (by kernel_rfl) (by kernel_rfl) (fun _ _ _ h => h) (Or.inl ⟨by kernel_rfl, ?_⟩) (by assumption) ?_
        case refine_1 => (intro Wz hSw; go_simp; try with_reducible rfl)
        try simp only [Act.put, List.getElem_toArray, List.getElem_cons_succ, List.getElem_cons_zero, List.setIfInBounds_toArray, List.set_cons_zero, List.set_cons_succ]
        refine wpAnyH_take (i := 18) (v := ?_) rfl (by kernel_rfl) (by kernel_rfl) (by kernel_rfl) (fun _ _ _ h => h) (Or.inl ⟨by kernel_rfl, ?_⟩) (by assumption) ?_
        case refine_2 => (intro Wz hSw; go_simp; try with_reducible rfl)
        try simp only [Act.put, List.getElem_toArray, List.getElem_cons_succ, List.getElem_cons_zero, List.setIfInBounds_toArray, List.set_cons_zero, List.set_cons_succ]
        refine wpAnyH_take (i := 19) (v := .agg (ctlA a)) rfl (by kernel_rfl) (by kernel_rfl) (by kernel_rfl) (fun _ _ _ h => h) (Or.inl ⟨by kernel_rfl, ?_⟩) (by assumption) ?_
        case refine_1 => exact fun Wz hSw => exec_load_row _ _ (by rfl) w.heap.size _ (ctlA a) (0, 0) _ (by rfl) (HXaW.out.later hSw.2) Tryz.underlying63 rfl (ctl_size a)
        try simp only [Act.put, List.getElem_toArray, List.getElem_cons_succ, List.getElem_cons_zero, List.setIfInBounds_toArray, List.set_cons_zero, List.set_cons_succ]
        refine wpAnyH_take (i := 21) (v := .agg (ctlA a)) rfl (by kernel_rfl) (by kernel_rfl) (by kernel_rfl) (fun _ _ _ h => h) (Or.inl ⟨by kernel_rfl, ?_⟩) (by assumption) ?_
        case refine_1 => exact fun Wz hSw => exec_load_row _ _ (by rfl) w.heap.size _ (ctlA a) (0, 0) _ (by rfl) (HXaW.out.later hSw.2) Tryz.underlying63 rfl (ctl_size a)
        try simp only [Act.put, List.getElem_toArray, List.getElem_cons_succ, List.getElem_cons_zero, List.setIfInBounds_toArray, List.set_cons_zero, List.set_cons_succ]
        refine wpAnyH_ready (rs := [20]) (by kernel_rfl) (by simp) ?_
        refine AllReadyH.cons rfl (fun K hK => ?_) AllReadyH.nil
        go_simp
        refine (HTx.out _ hHeld15.1).mono ?_
        rintro e w120 ⟨rfl, hbb⟩
        have hHeld20 : (fun Wz : World => Below w.heap.size w Wz ∧ Below W.heap.size W Wz) w120 := ⟨hHeld15.1.trans (hbb.mono hHeld15.1.size), hHeld15.2.trans (hbb.mono hHeld15.2.size)⟩
        clear hbb
        go_simp
        refine hK.out _ _ hHeld20 (fun hHeld2 => ?_)
        clear hK K hHeld2
        try simp only [Act.put, List.getElem_toArray, List.getElem_cons_succ, List.getElem_cons_zero, List.setIfInBounds_toArray, List.set_cons_zero, List.set_cons_succ]
        refine wpAnyH_ready (rs := [22]) (by kernel_rfl) (by simp) ?_
        refine AllReadyH.cons rfl (fun K hK => ?_) AllReadyH.nil
        go_simp
        refine (HTr.out _).mono ?_
        rintro e w122 ⟨rfl, hbb⟩
        have hHeld22 : (fun Wz : World => Below w.heap.size w Wz ∧ Below W.heap.size W Wz) w122 := ⟨hHeld20.1.trans (hbb.mono hHeld20.1.size), hHeld20.2.trans (hbb.mono hHeld20.2.size)⟩
        clear hbb
        go_simp
        refine hK.out _ _ hHeld22 (fun hHeld2 => ?_)
        clear hK K hHeld2
        try simp only [Act.put, List.getElem_toArray, List.getElem_cons_succ, List.getElem_cons_zero, List.setIfInBounds_toArray, List.set_cons_zero, List.set_cons_succ]
        refine wpAnyH_take (i := 23) (v := .bool true) rfl (by kernel_rfl) (by kernel_rfl) (by kernel_rfl) (fun _ _ _ h => h) (Or.inl ⟨by kernel_rfl, ?_⟩) (by assumption) ?_
        case refine_1 => (intro Wz hSw; go_simp; try with_reducible rfl)
        try simp only [Act.put, List.getElem_toArray, List.getElem_cons_succ, List.getElem_cons_zero, List.setIfInBounds_toArray, List.set_cons_zero, List.set_cons_succ]
        refine wpAnyH_take (i := 24) (v := .bool true) rfl (by kernel_rfl) (by kernel_rfl) (by kernel_rfl) (fun _ _ _ h => h) (Or.inl ⟨by kernel_rfl, ?_⟩) (by assumption) ?_
        case refine_1 => (intro Wz hSw; go_simp; try with_reducible rfl)
        try simp only [Act.put, List.getElem_toArray, List.getElem_cons_succ, List.getElem_cons_zero, List.setIfInBounds_toArray, List.set_cons_zero, List.set_cons_succ]
        refine wpAnyH_take (i := 25) (v := ?_) rfl (by kernel_rfl) (by kernel_rfl) (by kernel_rfl) (fun _ _ _ h => h) (Or.inl ⟨by kernel_rfl, ?_⟩) (by assumption) ?_
        case refine_2 => (intro Wz hSw; go_simp; try with_reducible rfl)
        try simp only [Act.put, List.getElem_toArray, List.getElem_cons_succ, List.getElem_cons_zero, List.setIfInBounds_toArray, List.set_cons_zero, List.set_cons_succ]
        refine wpAnyH_take (i := 26) (v := .agg (ctlA a)) rfl (by kernel_rfl) (by kernel_rfl) (by kernel_rfl) (fun _ _ _ h => h) (Or.inl ⟨by kernel_rfl, ?_⟩) (by assumption) ?_
        case refine_1 => exact fun Wz hSw => exec_load_row _ _ (by rfl) w.heap.size _ (ctlA a) (0, 0) _ (by rfl) (HXaW.out.later hSw.2) Tryz.underlying63 rfl (ctl_size a)
        try simp only [Act.put, List.getElem_toArray, List.getElem_cons_succ, List.getElem_cons_zero, List.setIfInBounds_toArray, List.set_cons_zero, List.set_cons_succ]
        refine wpAnyH_take (i := 28) (v := .agg (ctlA a)) rfl (by kernel_rfl) (by kernel_rfl) (by kernel_rfl) (fun _ _ _ h => h) (Or.inl ⟨by kernel_rfl, ?_⟩) (by assumption) ?_
        case refine_1 => exact fun Wz hSw => exec_load_row _ _ (by rfl) w.heap.size _ (ctlA a) (0, 0) _ (by rfl) (HXaW.out.later hSw.2) Tryz.underlying63 rfl (ctl_size a)
        try simp only [Act.put, List.getElem_toArray, List.getElem_cons_succ, List.getElem_cons_zero, List.setIfInBounds_toArray, List.set_cons_zero, List.set_cons_succ]
        refine wpAnyH_ready (rs := [27]) (by kernel_rfl) (by simp) ?_
        refine AllReadyH.cons rfl (fun K hK => ?_) AllReadyH.nil
        go_simp
        refine (HCk.out _).mono ?_
        rintro e w127 ⟨rfl, hbb⟩
        have hHeld27 : (fun Wz : World => Below w.heap.size w Wz ∧ Below W.heap.size W Wz) w127 := ⟨hHeld22.1.trans (hbb.mono hHeld22.1.size), hHeld22.2.trans (hbb.mono hHeld22.2.size)⟩
        clear hbb
        go_simp
        refine hK.out _ _ hHeld27 (fun hHeld2 => ?_)
        clear hK K hHeld2
        try simp only [Act.put, List.getElem_toArray, List.getElem_cons_succ, List.getElem_cons_zero, List.setIfInBounds_toArray, List.set_cons_zero, List.set_cons_succ]
        refine wpAnyH_ready (rs := [29]) (by kernel_rfl) (by simp) ?_
        refine AllReadyH.cons rfl (fun K hK => ?_) AllReadyH.nil
        go_simp
        refine (HCr.out _).mono ?_
        rintro e w129 ⟨rfl, hbb⟩
        have hHeld29 : (fun Wz : World => Below w.heap.size w Wz ∧ Below W.heap.size W Wz) w129 := ⟨hHeld27.1.trans (hbb.mono hHeld27.1.size), hHeld27.2.trans (hbb.mono hHeld27.2.size)⟩
        clear hbb
        go_simp
        refine hK.out _ _ hHeld29 (fun hHeld2 => ?_)
        clear hK K hHeld2
        try simp only [Act.put, List.getElem_toArray, List.getElem_cons_succ, List.getElem_cons_zero, List.setIfInBounds_toArray, List.set_cons_zero, List.set_cons_succ]
        refine wpAnyH_take (i := 30) (v := .bool true) rfl (by kernel_rfl) (by kernel_rfl) (by kernel_rfl) (fun _ _ _ h => h) (Or.inl ⟨by kernel_rfl, ?_⟩) (by assumption) ?_
        case refine_1 => (intro Wz hSw; go_simp; try with_reducible rfl)
        try simp only [Act.put, List.getElem_toArray, List.getElem_cons_succ, List.getElem_cons_zero, List.setIfInBounds_toArray, List.set_cons_zero, List.set_cons_succ]
        refine wpAnyH_take (i := 31) (v := .bool true) rfl (by kernel_rfl) (by kernel_rfl) (by kernel_rfl) (fun _ _ _ h => h) (Or.inl ⟨by kernel_rfl, ?_⟩) (by assumption) ?_
        case refine_1 => (intro Wz hSw; go_simp; try with_reducible rfl)
        try simp only [Act.put, List.getElem_toArray, List.getElem_cons_succ, List.getElem_cons_zero, List.setIfInBounds_toArray, List.set_cons_zero, List.set_cons_succ]
        refine wpAnyH_take (i := 32) (v := ?_) rfl (by kernel_rfl) (by kernel_rfl) (by kernel_rfl) (fun _ _ _ h => h) (Or.inl ⟨by kernel_rfl, ?_⟩) (by assumption) ?_
        case refine_2 => (intro Wz hSw; go_simp; try with_reducible rfl)
        try simp only [Act.put, List.getElem_toArray, List.getElem_cons_succ, List.getElem_cons_zero, List.setIfInBounds_toArray, List.set_cons_zero, List.set_cons_succ]
        refine wpAnyH_take (i := 33) (v := .agg (ctlA a)) rfl (by kernel_rfl) (by kernel_rfl) (by kernel_rfl) (fun _ _ _ h => h) (Or.inl ⟨by kernel_rfl, ?_⟩) (by assumption) ?_
        case refine_1 => exact fun Wz hSw => exec_load_row _ _ (by rfl) w.heap.size _ (ctlA a) (0, 0) _ (by rfl) (HXaW.out.later hSw.2) Tryz.underlying63 rfl (ctl_size a)
        try simp only [Act.put, List.getElem_toArray, List.getElem_cons_succ, List.getElem_cons_zero, List.setIfInBounds_toArray, List.set_cons_zero, List.set_cons_succ]
        refine wpAnyH_take (i := 34) (v := .agg (ctlA b)) rfl (by kernel_rfl) (by kernel_rfl) (by kernel_rfl) (fun _ _ _ h => h) (Or.inl ⟨by kernel_rfl, ?_⟩) (by assumption) ?_
        case refine_1 => exact fun Wz hSw => exec_load_row _ _ (by rfl) gb _ (ctlA b) (0, 0) _ (by rfl) (HXbW.out.later hSw.2) Tryz.underlying63 rfl (ctl_size b)
        try simp only [Act.put, List.getElem_toArray, List.getElem_cons_succ, List.getElem_cons_zero, List.setIfInBounds_toArray, List.set_cons_zero, List.set_cons_succ]
        refine wpAnyH_take (i := 36) (v := .agg (ctlA a)) rfl (by kernel_rfl) (by kernel_rfl) (by kernel_rfl) (fun _ _ _ h => h) (Or.inl ⟨by kernel_rfl, ?_⟩) (by assumption) ?_
        case refine_1 => exact fun Wz hSw => exec_load_row _ _ (by rfl) w.heap.size _ (ctlA a) (0, 0) _ (by rfl) (HXaW.out.later hSw.2) Tryz.underlying63 rfl (ctl_size a)
        try simp only [Act.put, List.getElem_toArray, List.getElem_cons_succ, List.getElem_cons_zero, List.setIfInBounds_toArray, List.set_cons_zero, List.set_cons_succ]
        refine wpAnyH_take (i := 37) (v := .agg (ctlA b)) rfl (by kernel_rfl) (by kernel_rfl) (by kernel_rfl) (fun _ _ _ h => h) (Or.inl ⟨by kernel_rfl, ?_⟩) (by assumption) ?_
        case refine_1 => exact fun Wz hSw => exec_load_row _ _ (by rfl) gb _ (ctlA b) (0, 0) _ (by rfl) (HXbW.out.later hSw.2) Tryz.underlying63 rfl (ctl_size b)
        try simp only [Act.put, List.getElem_toArray, List.getElem_cons_succ, List.getElem_cons_zero, List.setIfInBounds_toArray, List.set_cons_zero, List.set_cons_succ]
        refine wpAnyH_ready (rs := [35]) (by kernel_rfl) (by simp) ?_
        refine AllReadyH.cons rfl (fun K hK => ?_) AllReadyH.nil
        go_simp
        refine (HJo.out _ hHeld29.1).mono ?_
        rintro e w135 ⟨rfl, hbb⟩
        have hHeld35 : (fun Wz : World => Below w.heap.size w Wz ∧ Below W.heap.size W Wz) w135 := ⟨hHeld29.1.trans (hbb.mono hHeld29.1.size), hHeld29.2.trans (hbb.mono hHeld29.2.size)⟩
        clear hbb
        go_simp
        refine hK.out _ _ hHeld35 (fun hHeld2 => ?_)
        clear hK K hHeld2
        try simp only [Act.put, List.getElem_toArray, List.getElem_cons_succ, List.getElem_cons_zero, List.setIfInBounds_toArray, List.set_cons_zero, List.set_cons_succ]
        refine wpAnyH_ready (rs := [38]) (by kernel_rfl) (by simp) ?_
        refine AllReadyH.cons rfl (fun K hK => ?_) AllReadyH.nil
        go_simp
        refine (HJr.out _).mono ?_
        rintro e w138 ⟨rfl, hbb⟩
        have hHeld38 : (fun Wz : World => Below w.heap.size w Wz ∧ Below W.heap.size W Wz) w138 := ⟨hHeld35.1.trans (hbb.mono hHeld35.1.size), hHeld35.2.trans (hbb.mono hHeld35.2.size)⟩
        clear hbb
        go_simp
        refine hK.out _ _ hHeld38 (fun hHeld2 => ?_)
        clear hK K hHeld2
        try simp only [Act.put, List.getElem_toArray, List.getElem_cons_succ, List.getElem_cons_zero, List.setIfInBounds_toArray, List.set_cons_zero, List.set_cons_succ]
        refine wpAnyH_take (i := 39) (v := .bool true) rfl (by kernel_rfl) (by kernel_rfl) (by kernel_rfl) (fun _ _ _ h => h) (Or.inl ⟨by kernel_rfl, ?_⟩) (by assumption) ?_
        case refine_1 => exact fun Wz hSw => exec_eqlX _ _ (by rfl) (ctlA cj) (ctlA cj) true (by rfl) (by rfl) (ctl_eql Wz cj) guardX
        try simp only [Act.put, List.getElem_toArray, List.getElem_cons_succ, List.getElem_cons_zero, List.setIfInBounds_toArray, List.set_cons_zero, List.set_cons_succ]
        refine wpAnyH_take (i := 40) (v := .bool true) rfl (by kernel_rfl) (by kernel_rfl) (by kernel_rfl) (fun _ _ _ h => h) (Or.inl ⟨by kernel_rfl, ?_⟩) (by assumption) ?_
        case refine_1 => (intro Wz hSw; go_simp; try with_reducible rfl)
        try simp only [Act.put, List.getElem_toArray, List.getElem_cons_succ, List.getElem_cons_zero, List.setIfInBounds_toArray, List.set_cons_zero, List.set_cons_succ]
        refine wpAnyH_take (i := 41) (v := ?_) rfl (by kernel_rfl) (by kernel_rfl) (by kernel_rfl) (fun _ _ _ h => h) (Or.inl ⟨by kernel_rfl, ?_⟩) (by assumption) ?_
        case refine_2 => (intro Wz hSw; go_simp; try with_reducible rfl)
        try simp only [Act.put, List.getElem_toArray, List.getElem_cons_succ, List.getElem_cons_zero, List.setIfInBounds_toArray, List.set_cons_zero, List.set_cons_succ]
        refine wpAnyH_done (by kernel_rfl) ?_ _
        go_wp2_with fail
        go_ret
        exact ⟨rfl, hHeld38.1⟩
  · have hlf : lightX 20 600 L = false := by simpa using hlight
    rw [hlf] at HLt
    clear hlight hlf hz HS HT HI HXa HXb
    go_enter Tryz.func6, Tryz.ntmps6
    go_wp2_with fail
    generalize (w.alloc (.cells (ctlA a) 63)).alloc (.cells (ctlA b) 63) = W2 at *
    refine (HLv.out _).mono ?_
    rintro e w3 ⟨rfl, hb3⟩
    have HW3 := Lib.hid (HW2.out.trans (hb3.mono HW2.out.size))
    clear hb3 HW2 HLv
    go_wp2_with fail
    refine (HLt.out _ HW3.out).mono ?_
    rintro e w4 ⟨rfl, rfl⟩
    go_wp2_with fail
    go_ret
    exact ⟨rfl, HW3.out⟩
end Tk
end Go.Proofs.YtnbipbeeengiaaaGreatDoor
