/- control.Join; the law's own example. -/
import Derived.Test.YtdmjpfmjfffmiaaDoorCtG
namespace Go.Proofs.YtdmjpfmjfffmiaaDoor
open Go.RowKit
namespace Tk

theorem wpC_store_row {P : Program} {o : Oper} {a : Act} {w : World} {K : Act → World → Prop} {Q : Exit → Act → World → Prop} (ty : TypeId) (x y : Operand) (ho : o.op = .store ty x y)
    (g : Nat) (t : TypeId) (old cells : Array Value) (hx : a.eval x = .pointer (some ⟨g, 0, none⟩)) (hy : a.eval y = .agg cells) (hg : w.heap[g]? = some (.cells old t (0, 0))) (hi : (P.info? ty).map (·.size) = some cells.size)
    (hs : old.size = cells.size) (h1 : cells.all (·.oneCell') = true) (h : K (a.put o.dst undef) (w.setRow g cells)) : o.wp P a w K Q := by
  have hrun := run_storeVar_row (P := P) w g t ty old cells hg hi hs h1
  unfold Oper.wp
  simp [execOp, ho, hx, hy, Instr.storeAt, Instr.sureAddr, hrun, Result.andThen, Oper.upon]
  exact h
theorem stepC_store_row {P : Program} {ops : Array Oper} {o : Oper} {a : Act} {w : World} {K : Act → World → Prop} {Q : Exit → Act → World → Prop} {E : Prop} (hgd : o.guard = none) (ty : TypeId) (x y : Operand) (ho : o.op = .store ty x y)
    (g : Nat) (t : TypeId) (old cells : Array Value) (hx : a.eval x = .pointer (some ⟨g, 0, none⟩)) (hy : a.eval y = .agg cells) (hg : w.heap[g]? = some (.cells old t (0, 0))) (hi : (P.info? ty).map (·.size) = some cells.size)
    (hs : old.size = cells.size) (h1 : cells.all (·.oneCell') = true) (h : K (a.put o.dst undef) (w.setRow g cells)) : if Region.wanted o (yielded ops a.tmps) = true then o.wp P a w K Q else E := by
  have hw : Region.wanted o (yielded ops a.tmps) = true := by simp [Region.wanted, hgd]
  rw [if_pos hw]
  exact wpC_store_row ty x y ho g t old cells hx hy hg hi hs h1 h
theorem wpListC_store_row {P : Program} {ops : Array Oper} {rest : List Oper} {o : Oper} {a : Act} {w : World} {Q : Exit → Act → World → Prop} (hgd : o.guard = none) (ty : TypeId) (x y : Operand) (ho : o.op = .store ty x y)
    (g : Nat) (t : TypeId) (old cells : Array Value) (hx : a.eval x = .pointer (some ⟨g, 0, none⟩)) (hy : a.eval y = .agg cells) (hg : w.heap[g]? = some (.cells old t (0, 0))) (hi : (P.info? ty).map (·.size) = some cells.size)
    (hs : old.size = cells.size) (h1 : cells.all (·.oneCell') = true) (h : wpList P ops Q rest (a.put o.dst undef) (w.setRow g cells)) : wpList P ops Q (o :: rest) a w :=
  wpList_plain hgd fun _ hK => wpC_store_row ty x y ho g t old cells hx hy hg hi hs h1 (hK _ _ h)
theorem exec_load_row {P : Program} {ρ : Operand → Value} {o : Oper} {w : World} (ty : TypeId) (x : Operand) (ho : o.op = .load ty x) (g : Nat) (t : TypeId) (cs : Array Value) (fr : Nat × Nat) (d : TypeDesc)
    (hx : ρ x = .pointer (some ⟨g, 0, none⟩)) (hg : w.heap[g]? = some (.cells cs t fr)) (hu : P.underlying ty = some d) (hd : (match d with | .struct _ | .array _ _ => true | _ => false) = true) (hi : (P.info? ty).map (·.size) = some cs.size) :
    (execOp ρ o).run P w = .ok (.value (.agg cs)) w := by
  have hrun := run_loadVar_row (P := P) w g t ty cs fr d hg hu hd hi
  simp [execOp, ho, hx, Instr.loadAt, Instr.sureAddr, hrun, Result.andThen]
theorem below_setRowC {w W : World} {B g : Nat} (h : Below B w W) (cs : Array Value) (hg : B ≤ g) : Below B w (W.setRow g cs) :=
  ⟨h.os, h.tape, h.output, by rw [size_setRow]; exact h.size, fun k hk => (setRow_other _ _ _ _ (by omega)).trans (h.block k hk)⟩
theorem parse2_any (x y : Bs) (W : World) (hx : x.length ≤ 1000000) (hy : y.length ≤ 1000000) :
    Calls Tryd.prog 20 #[.slice (some ⟨W.heap.size, 0, none⟩) 2 2] (W.alloc (.cells #[.string (mkS x), .string (mkS y)] 9)) fun e w' => e = .returned (.agg (ctlA (parseL [x, y]))) ∧ Below W.heap.size W w' := by
  refine (parse_any _ [x, y] _ (isStrs_lit W [x, y] _ _ _ rfl) (by simp) (by intro z hz; simp at hz; rcases hz with rfl | rfl <;> assumption)).mono ?_
  rintro e w' ⟨he, hb⟩
  exact ⟨he, (below_allocC _ _).trans (hb.mono (by simp))⟩
theorem parse1_any (x : Bs) (W : World) (hx : x.length ≤ 1000000) :
    Calls Tryd.prog 20 #[.slice (some ⟨W.heap.size, 0, none⟩) 1 1] (W.alloc (.cells #[.string (mkS x)] 9)) fun e w' => e = .returned (.agg (ctlA (parseL [x]))) ∧ Below W.heap.size W w' := by
  refine (parse_any _ [x] _ (isStrs_lit W [x] _ _ _ rfl) (by simp) (by intro z hz; simp at hz; rcases hz with rfl; assumption)).mono ?_
  rintro e w' ⟨he, hb⟩
  exact ⟨he, (below_allocC _ _).trans (hb.mono (by simp))⟩

set_option maxHeartbeats 8000000 in
set_option maxRecDepth 100000 in
theorem cjoin_any (a b : Ctl) (w : World) (hT : TenC w) (ha : i64C a) (hb : i64C b) : Calls Tryd.prog 26 #[.agg (ctlA a), .agg (ctlA b)] w (CtlPost (parseL [textC a, textC b]) w) := by
  have HTa : Hid (∀ W : World, Below w.heap.size w W → Calls Tryd.prog 23 #[.agg (ctlA a)] W fun e w' => e = .returned (.string (mkS (textC a))) ∧ Below W.heap.size W w') := fun W h => ctext_any a W (hT.later h) ha
  have HTb : Hid (∀ W : World, Below w.heap.size w W → Calls Tryd.prog 23 #[.agg (ctlA b)] W fun e w' => e = .returned (.string (mkS (textC b))) ∧ Below W.heap.size W w') := fun W h => ctext_any b W (hT.later h) hb
  have HP : Hid (∀ W : World, Calls Tryd.prog 20 #[.slice (some ⟨W.heap.size, 0, none⟩) 2 2] (W.alloc (.cells #[.string (mkS (textC a)), .string (mkS (textC b))] 9)) fun e w' => e = .returned (.agg (ctlA (parseL [textC a, textC b]))) ∧ Below W.heap.size W w') := fun W => parse2_any _ _ W (by have := text_len a ha; omega) (by have := text_len b hb; omega)
  generalize parseL [textC a, textC b] = r at *
  generalize textC a = ta at *
  generalize textC b = tb at *
  have hA1 := Bx.new w 36 (ctlA a)
  have hb1 := below_allocC w (.cells (ctlA a) 36)
  have hz1 : (w.alloc (.cells (ctlA a) 36)).heap.size = w.heap.size + 1 := by simp
  have hB2 := Bx.new (w.alloc (.cells (ctlA a) 36)) 36 (ctlA b)
  have hb2 := below_allocC (w.alloc (.cells (ctlA a) 36)) (.cells (ctlA b) 36)
  have hz2 : ((w.alloc (.cells (ctlA a) 36)).alloc (.cells (ctlA b) 36)).heap.size = w.heap.size + 1 + 1 := by simp
  have hR3 := Bx.new ((w.alloc (.cells (ctlA a) 36)).alloc (.cells (ctlA b) 36)) 36 (ctlA zeroC)
  have hb3 := below_allocC ((w.alloc (.cells (ctlA a) 36)).alloc (.cells (ctlA b) 36)) (.cells (ctlA zeroC) 36)
  have hA3 := (hA1.later hb2).later hb3
  have hB3 := hB2.later hb3
  have hw3 := (hb1.trans (hb2.mono hb1.size)).trans (hb3.mono (hb1.trans (hb2.mono hb1.size)).size)
  rw [hz1] at hB3
  rw [hz2] at hR3
  clear hA1 hb1 hB2 hb2 hb3 hz1 hz2 ha hb hT
  unfold ctlA zeroC at *
  unfold CtlPost ctlA
  go_enter Tryd.func26, Tryd.ntmps26
  go_wp2_with fail

  generalize ((w.alloc (Obj.cells #[.int .i64 a.a0, .int .i64 a.a1, .int .i64 a.a2, .int .i64 a.a3, .int .i64 a.a4, .int .i64 a.a5, .bool a.b0, .bool a.b1, .bool a.b2, .bool a.b3, .bool a.b4, .bool a.b5, .bool a.b6, .bool a.b7, .bool a.b8] 36)).alloc (Obj.cells #[.int .i64 b.a0, .int .i64 b.a1, .int .i64 b.a2, .int .i64 b.a3, .int .i64 b.a4, .int .i64 b.a5, .bool b.b0, .bool b.b1, .bool b.b2, .bool b.b3, .bool b.b4, .bool b.b5, .bool b.b6, .bool b.b7, .bool b.b8] 36)).alloc (Obj.cells #[.int .i64 0, .int .i64 0, .int .i64 0, .int .i64 0, .int .i64 0, .int .i64 0, .bool false, .bool false, .bool false, .bool false, .bool false, .bool false, .bool false, .bool false, .bool false] 36) = W at *
  change Bx W w.heap.size 36 (ctlA a) at hA3
  change Bx W (w.heap.size + 1) 36 (ctlA b) at hB3
  change Bx W (w.heap.size + 1 + 1) 36 (ctlA zeroC) at hR3
  have HR3 := Lib.hid hR3
  clear hR3
  have hHeld0 : (fun Wz : World => Bx Wz w.heap.size 36 (ctlA a) ∧ Bx Wz (w.heap.size + 1) 36 (ctlA b) ∧ Below w.heap.size w Wz) W.drew := ⟨hA3.later (Below.refl _ _).drew, hB3.later (Below.refl _ _).drew, hw3.drew⟩
  have HR0 := Lib.hid (HR3.out.later (Below.refl _ _).drew)
  clear hA3 hB3 hw3 HR3
  refine wp_region_held_drew (S := (fun Wz : World => Bx Wz w.heap.size 36 (ctlA a) ∧ Bx Wz (w.heap.size + 1) 36 (ctlA b) ∧ Below w.heap.size w Wz)) (by kernel_rfl) hHeld0 (fun hHeld => ?_)
  refine wpAnyH_take (i := 0) (v := .agg (ctlA a)) rfl (by kernel_rfl) (by kernel_rfl) (by kernel_rfl) (fun _ _ _ h => h) (Or.inl ⟨by kernel_rfl, ?_⟩) (by assumption) ?_
  case refine_1 => exact fun Wz hSw => exec_load_row _ _ (by rfl) w.heap.size _ (ctlA a) (0, 0) _ (by rfl) hSw.1 Tryd.underlying36 rfl (ctl_size a)
  try simp only [Act.put, List.getElem_toArray, List.getElem_cons_zero, List.setIfInBounds_toArray, List.set_cons_zero, List.set_cons_succ]
  refine wpAnyH_take (i := 2) (v := .agg (ctlA b)) rfl (by kernel_rfl) (by kernel_rfl) (by kernel_rfl) (fun _ _ _ h => h) (Or.inl ⟨by kernel_rfl, ?_⟩) (by assumption) ?_
  case refine_1 => exact fun Wz hSw => exec_load_row _ _ (by rfl) (w.heap.size + 1) _ (ctlA b) (0, 0) _ (by rfl) hSw.2.1 Tryd.underlying36 rfl (ctl_size b)
  try simp only [Act.put, List.getElem_toArray, List.getElem_cons_succ, List.getElem_cons_zero, List.setIfInBounds_toArray, List.set_cons_zero, List.set_cons_succ]
  refine wpAnyH_ready (rs := [1]) (by kernel_rfl) (by simp) ?_
  refine AllReadyH.cons rfl (fun K hK => ?_) AllReadyH.nil
  go_simp
  refine (HTa.out _ hHeld0.2.2).mono ?_
  rintro e w5 ⟨rfl, hbb⟩
  have hHeld5 : (fun Wz : World => Bx Wz w.heap.size 36 (ctlA a) ∧ Bx Wz (w.heap.size + 1) 36 (ctlA b) ∧ Below w.heap.size w Wz) w5 := ⟨hHeld0.1.later hbb, hHeld0.2.1.later hbb, hHeld0.2.2.trans (hbb.mono hHeld0.2.2.size)⟩
  have HR5 := Lib.hid (HR0.out.later hbb)
  clear hbb
  go_simp
  refine hK.out _ _ hHeld5 (fun hHeld2 => ?_)
  clear hK K hHeld2
  try simp only [Act.put, List.getElem_toArray, List.getElem_cons_succ, List.getElem_cons_zero, List.setIfInBounds_toArray, List.set_cons_zero, List.set_cons_succ]
  refine wpAnyH_ready (rs := [3]) (by kernel_rfl) (by simp) ?_
  refine AllReadyH.cons rfl (fun K hK => ?_) AllReadyH.nil
  go_simp
  refine (HTb.out _ hHeld5.2.2).mono ?_
  rintro e w6 ⟨rfl, hbb⟩
  have hHeld6 : (fun Wz : World => Bx Wz w.heap.size 36 (ctlA a) ∧ Bx Wz (w.heap.size + 1) 36 (ctlA b) ∧ Below w.heap.size w Wz) w6 := ⟨hHeld5.1.later hbb, hHeld5.2.1.later hbb, hHeld5.2.2.trans (hbb.mono hHeld5.2.2.size)⟩
  have HR6 := Lib.hid (HR5.out.later hbb)
  clear hbb
  go_simp
  refine hK.out _ _ hHeld6 (fun hHeld2 => ?_)
  clear hK K hHeld2
  try simp only [Act.put, List.getElem_toArray, List.getElem_cons_succ, List.getElem_cons_zero, List.setIfInBounds_toArray, List.set_cons_zero, List.set_cons_succ]
  refine wpAnyH_ready (rs := [4]) (by kernel_rfl) (by simp) ?_
  refine AllReadyH.cons rfl (fun K hK => ?_) AllReadyH.nil
  go_simp
  have hHeld7 : (fun Wz : World => Bx Wz w.heap.size 36 (ctlA a) ∧ Bx Wz (w.heap.size + 1) 36 (ctlA b) ∧ Below w.heap.size w Wz) (w6.alloc (Obj.cells #[.string (mkS ta), .string (mkS tb)] 9)) := ⟨hHeld6.1.later (below_allocC _ _), hHeld6.2.1.later (below_allocC _ _), hHeld6.2.2.alloc hHeld6.2.2.size _⟩
  refine hK.out _ _ hHeld7 (fun hHeld2 => ?_)
  clear hK K hHeld2
  try simp only [Act.put, List.getElem_toArray, List.getElem_cons_succ, List.getElem_cons_zero, List.setIfInBounds_toArray, List.set_cons_zero, List.set_cons_succ]
  refine wpAnyH_ready (rs := [5]) (by kernel_rfl) (by simp) ?_
  refine AllReadyH.cons rfl (fun K hK => ?_) AllReadyH.nil
  go_simp
  refine (HP.out w6).mono ?_
  rintro e w8 ⟨rfl, hbb⟩
  have hHeld8 : (fun Wz : World => Bx Wz w.heap.size 36 (ctlA a) ∧ Bx Wz (w.heap.size + 1) 36 (ctlA b) ∧ Below w.heap.size w Wz) w8 := ⟨hHeld6.1.later hbb, hHeld6.2.1.later hbb, hHeld6.2.2.trans (hbb.mono hHeld6.2.2.size)⟩
  have hR8 := HR6.out.later hbb
  clear hbb
  go_simp
  refine hK.out _ _ hHeld8 (fun hHeld2 => ?_)
  clear hK K hHeld2
  try simp only [Act.put, List.getElem_toArray, List.getElem_cons_succ, List.getElem_cons_zero, List.setIfInBounds_toArray, List.set_cons_zero, List.set_cons_succ]
  refine wpAnyH_ready (rs := [6]) (by kernel_rfl) (by simp) ?_
  refine AllReadyH.cons rfl (fun K hK => ?_) AllReadyH.nil
  refine stepC_store_row (by rfl) _ _ _ (by rfl) (w.heap.size + 1 + 1) _ (ctlA zeroC) (ctlA r) (by rfl) (by rfl) hR8 (ctl_size r) rfl (ctl_one r) ?_
  have hR9 := hR8.row (cs := ctlA r)
  have hHeld9 : (fun Wz : World => Bx Wz w.heap.size 36 (ctlA a) ∧ Bx Wz (w.heap.size + 1) 36 (ctlA b) ∧ Below w.heap.size w Wz) (w8.setRow (w.heap.size + 1 + 1) (ctlA r)) := ⟨hHeld8.1.same (setRow_other _ _ _ _ (by omega)), hHeld8.2.1.same (setRow_other _ _ _ _ (by omega)), below_setRowC hHeld8.2.2 (ctlA r) (by omega)⟩
  have HB9 := Lib.hid hHeld9.2.2
  refine hK.out _ _ hHeld9 (fun hHeld2 => ?_)
  clear hK K hHeld2
  try simp only [Act.put, List.getElem_toArray, List.getElem_cons_succ, List.getElem_cons_zero]
  refine wpAnyH_done (by kernel_rfl) ?_ _
  generalize w8.setRow (w.heap.size + 1 + 1) (ctlA r) = w9 at *
  clear hHeld0 hHeld hHeld5 hHeld6 hHeld7 hHeld8 hHeld9
  go_wp2_with fail
  refine bodyPost_ret (v := .agg (ctlA r)) ?_ rfl ⟨rfl, HB9.out⟩
  exact results_cell_row rfl _ _ (w.heap.size + 1 + 1) 36 _ (0, 0) _ rfl hR9 Tryd.underlying36 rfl (ctl_size r)

/-! the law's own example -/
def exC0 : Bs := [109, 97, 120, 45, 97, 103, 101, 61, 53, 44, 32, 77, 65, 88, 45, 65, 71, 69, 61, 51]
def exC1 : Bs := [110, 111, 45, 99, 97, 99, 104, 101, 61, 34, 120, 34]
theorem exC_parse : parseL [exC0, exC1] = { noneC with a0 := 3, b0 := true } := by decide +kernel

set_option maxHeartbeats 4000000 in
set_option maxRecDepth 100000 in
theorem lives10_any (w : World) : Calls Tryd.prog 19 #[] w fun e w' => e = .returned (.bool true) ∧ Below w.heap.size w w' := by
  have HP : Hid (∀ W : World, Calls Tryd.prog 20 #[.slice (some ⟨W.heap.size, 0, none⟩) 2 2] (W.alloc (.cells #[.string (mkS exC0), .string (mkS exC1)] 9)) fun e w' => e = .returned (.agg (ctlA (parseL [exC0, exC1]))) ∧ Below W.heap.size W w') := fun W => parse2_any _ _ W (by decide) (by decide)
  rw [exC_parse] at HP
  have HP2 : Hid (Calls Tryd.prog 20 #[.slice (some ⟨w.heap.size, 0, none⟩) 2 2] (w.alloc (.cells #[.string ⟨#[109, 97, 120, 45, 97, 103, 101, 61, 53, 44, 32, 77, 65, 88, 45, 65, 71, 69, 61, 51]⟩, .string ⟨#[110, 111, 45, 99, 97, 99, 104, 101, 61, 34, 120, 34]⟩] 9)) fun e w' => e = .returned (.agg #[.int .i64 3, .int .i64 (-1), .int .i64 (-1), .int .i64 (-1), .int .i64 (-1), .int .i64 (-1), .bool true, .bool false, .bool false, .bool false, .bool false, .bool false, .bool false, .bool false, .bool false]) ∧ Below w.heap.size w w') := HP.out w
  clear HP
  go_enter Tryd.func19, Tryd.ntmps19
  go_wp2_with fail
  refine HP2.out.mono ?_
  rintro e w1 ⟨rfl, hb⟩
  have hB := Bx.new w1 36 #[.int .i64 3, .int .i64 (-1), .int .i64 (-1), .int .i64 (-1), .int .i64 (-1), .int .i64 (-1), .bool true, .bool false, .bool false, .bool false, .bool false, .bool false, .bool false, .bool false, .bool false]
  have c0 := hB.cell 0 _ rfl
  have c1 := hB.cell 1 _ rfl
  have c6 := hB.cell 6 _ rfl
  have c7 := hB.cell 7 _ rfl
  have HB := Lib.hid (hb.alloc hb.size (.cells #[.int .i64 3, .int .i64 (-1), .int .i64 (-1), .int .i64 (-1), .int .i64 (-1), .int .i64 (-1), .bool true, .bool false, .bool false, .bool false, .bool false, .bool false, .bool false, .bool false, .bool false] 36))
  clear hB hb
  go_wp2_with fail
  go_ret
  exact ⟨rfl, HB.out⟩
end Tk
end Go.Proofs.YtdmjpfmjfffmiaaDoor
