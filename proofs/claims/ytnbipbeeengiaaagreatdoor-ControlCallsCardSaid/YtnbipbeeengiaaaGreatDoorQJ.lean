/- CtH LtT CtI RcA, put together. -/
import Derived.Test.YtnbipbeeengiaaaGreatDoorQI
import Derived.Test.YtnbipbeeengiaaaGreatDoorQF
import Derived.Laws.StructEq
import Derived.Test.YtnbipbeeengiaaaGreatDoorQH
namespace Go.Proofs.YtnbipbeeengiaaaGreatDoor
open Go.RowKit
namespace Tk

theorem wpC_store_row {P : Program} {o : Oper} {a : Act} {w : World} {K : Act → World → Prop} {Q : Exit → Act → World → Prop} (ty : TypeId) (x y : Operand) (ho : o.op = .store ty x y)
    (g : Nat) (t : TypeId) (old cells : Array Value) (hx : a.eval x = .pointer (some ⟨g, 0, none⟩)) (hy : a.eval y = .agg cells) (hg : w.heap[g]? = some (.cells old t (0, 0))) (hi : (P.info? ty).map (·.size) = some cells.size)
    (hs : old.size = cells.size) (h1 : cells.all (·.oneCell') = true) (h : K (a.put o.dst undef) (w.setRow g cells)) : o.wp P a w K Q := by
  have hrun := run_storeVar_row (P := P) w g t ty old cells hg hi hs h1
  unfold Oper.wp
  simp [execOp, ho, hx, hy, Instr.storeAt, Instr.sureAddr, hrun, Result.andThen, Oper.upon]
  exact h
theorem stepC_store_row {P : Program} {ops : Array Oper} {o : Oper} {a : Act} {w : World} {K : Act → World → Prop} {Q : Exit → Act → World → Prop} {E : Prop} (hgd : o.guard = none) (ty : TypeId) (x y : Operand) (ho : o.op = .store ty x y)
    (g : Nat) (t : TypeId) (old cells : Array Value) (hx : a.eval x = .pointer (some ⟨g, 0, none⟩)) (hy : a.eval y = .agg cells) (hg : w.heap[g]? = some (.cells old t (0, 0))) (hi : (P.info? ty).map (·.size) = some cells.size)
    (hs : old.size = cells.size) (h1 : cells.all (·.oneCell') = true) (h : K (a.put o.dst undef) (w.setRow g cells)) : if Region.wanted o (yielded ops a.tmps) = true then o.wp P a w K Q else E := by
  have hw : Region.wanted o (yielded ops a.tmps) = true := by simp [Region.wanted, hgd]
  rw [if_pos hw]
  exact wpC_store_row ty x y ho g t old cells hx hy hg hi hs h1 h
theorem wpListC_store_row {P : Program} {ops : Array Oper} {rest : List Oper} {o : Oper} {a : Act} {w : World} {Q : Exit → Act → World → Prop} (hgd : o.guard = none) (ty : TypeId) (x y : Operand) (ho : o.op = .store ty x y)
    (g : Nat) (t : TypeId) (old cells : Array Value) (hx : a.eval x = .pointer (some ⟨g, 0, none⟩)) (hy : a.eval y = .agg cells) (hg : w.heap[g]? = some (.cells old t (0, 0))) (hi : (P.info? ty).map (·.size) = some cells.size)
    (hs : old.size = cells.size) (h1 : cells.all (·.oneCell') = true) (h : wpList P ops Q rest (a.put o.dst undef) (w.setRow g cells)) : wpList P ops Q (o :: rest) a w :=
  wpList_plain hgd fun _ hK => wpC_store_row ty x y ho g t old cells hx hy hg hi hs h1 (hK _ _ h)
theorem exec_load_row {P : Program} {ρ : Operand → Value} {o : Oper} {w : World} (ty : TypeId) (x : Operand) (ho : o.op = .load ty x) (g : Nat) (t : TypeId) (cs : Array Value) (fr : Nat × Nat) (d : TypeDesc)
    (hx : ρ x = .pointer (some ⟨g, 0, none⟩)) (hg : w.heap[g]? = some (.cells cs t fr)) (hu : P.underlying ty = some d) (hd : (match d with | .struct _ | .array _ _ => true | _ => false) = true) (hi : (P.info? ty).map (·.size) = some cs.size) :
    (execOp ρ o).run P w = .ok (.value (.agg cs)) w := by
  have hrun := run_loadVar_row (P := P) w g t ty cs fr d hg hu hd hi
  simp [execOp, ho, hx, Instr.loadAt, Instr.sureAddr, hrun, Result.andThen]
theorem below_setRowC {w W : World} {B g : Nat} (h : Below B w W) (cs : Array Value) (hg : B ≤ g) : Below B w (W.setRow g cs) :=
  ⟨h.os, h.tape, h.output, by rw [size_setRow]; exact h.size, fun k hk => (setRow_other _ _ _ _ (by omega)).trans (h.block k hk)⟩
theorem parse2_any (x y : Bs) (W : World) (hx : x.length ≤ 1000000) (hy : y.length ≤ 1000000) :
    Calls Tryz.prog 34 #[.slice (some ⟨W.heap.size, 0, none⟩) 2 2] (W.alloc (.cells #[.string (mkS x), .string (mkS y)] 9)) fun e w' => e = .returned (.agg (ctlA (parseL [x, y]))) ∧ Below W.heap.size W w' := by
  refine (parse_any _ [x, y] _ (isStrs_lit W [x, y] _ _ _ rfl) (by simp) (by intro z hz; simp at hz; rcases hz with rfl | rfl <;> assumption)).mono ?_
  rintro e w' ⟨he, hb⟩
  exact ⟨he, (below_allocC _ _).trans (hb.mono (by simp))⟩
theorem parse1_any (x : Bs) (W : World) (hx : x.length ≤ 1000000) :
    Calls Tryz.prog 34 #[.slice (some ⟨W.heap.size, 0, none⟩) 1 1] (W.alloc (.cells #[.string (mkS x)] 9)) fun e w' => e = .returned (.agg (ctlA (parseL [x]))) ∧ Below W.heap.size W w' := by
  refine (parse_any _ [x] _ (isStrs_lit W [x] _ _ _ rfl) (by simp) (by intro z hz; simp at hz; rcases hz with rfl; assumption)).mono ?_
  rintro e w' ⟨he, hb⟩
  exact ⟨he, (below_allocC _ _).trans (hb.mono (by simp))⟩

set_option maxHeartbeats 8000000 in
set_option maxRecDepth 100000 in
theorem cjoin_any (a b : Ctl) (w : World) (hT : TenC w) (ha : i64C a) (hb : i64C b) : Calls Tryz.prog 42 #[.agg (ctlA a), .agg (ctlA b)] w (CtlPost (parseL [textC a, textC b]) w) := by
  have HTa : Hid (∀ W : World, Below w.heap.size w W → Calls Tryz.prog 38 #[.agg (ctlA a)] W fun e w' => e = .returned (.string (mkS (textC a))) ∧ Below W.heap.size W w') := fun W h => ctext_any a W (hT.later h) ha
  have HTb : Hid (∀ W : World, Below w.heap.size w W → Calls Tryz.prog 38 #[.agg (ctlA b)] W fun e w' => e = .returned (.string (mkS (textC b))) ∧ Below W.heap.size W w') := fun W h => ctext_any b W (hT.later h) hb
  have HP : Hid (∀ W : World, Calls Tryz.prog 34 #[.slice (some ⟨W.heap.size, 0, none⟩) 2 2] (W.alloc (.cells #[.string (mkS (textC a)), .string (mkS (textC b))] 9)) fun e w' => e = .returned (.agg (ctlA (parseL [textC a, textC b]))) ∧ Below W.heap.size W w') := fun W => parse2_any _ _ W (by have := text_len a ha; omega) (by have := text_len b hb; omega)
  generalize parseL [textC a, textC b] = r at *
  generalize textC a = ta at *
  generalize textC b = tb at *
  have hA1 := Bx.new w 63 (ctlA a)
  have hb1 := below_allocC w (.cells (ctlA a) 63)
  have hz1 : (w.alloc (.cells (ctlA a) 63)).heap.size = w.heap.size + 1 := by simp
  have hB2 := Bx.new (w.alloc (.cells (ctlA a) 63)) 63 (ctlA b)
  have hb2 := below_allocC (w.alloc (.cells (ctlA a) 63)) (.cells (ctlA b) 63)
  have hz2 : ((w.alloc (.cells (ctlA a) 63)).alloc (.cells (ctlA b) 63)).heap.size = w.heap.size + 1 + 1 := by simp
  have hR3 := Bx.new ((w.alloc (.cells (ctlA a) 63)).alloc (.cells (ctlA b) 63)) 63 (ctlA zeroC)
  have hb3 := below_allocC ((w.alloc (.cells (ctlA a) 63)).alloc (.cells (ctlA b) 63)) (.cells (ctlA zeroC) 63)
  have hA3 := (hA1.later hb2).later hb3
  have hB3 := hB2.later hb3
  have hw3 := (hb1.trans (hb2.mono hb1.size)).trans (hb3.mono (hb1.trans (hb2.mono hb1.size)).size)
  rw [hz1] at hB3
  rw [hz2] at hR3
  clear hA1 hb1 hB2 hb2 hb3 hz1 hz2 ha hb hT
  unfold ctlA zeroC at *
  unfold CtlPost ctlA
  go_enter Tryz.func42, Tryz.ntmps42
  go_wp2_with fail

  generalize ((w.alloc (Obj.cells #[.int .i64 a.a0, .int .i64 a.a1, .int .i64 a.a2, .int .i64 a.a3, .int .i64 a.a4, .int .i64 a.a5, .bool a.b0, .bool a.b1, .bool a.b2, .bool a.b3, .bool a.b4, .bool a.b5, .bool a.b6, .bool a.b7, .bool a.b8] 63)).alloc (Obj.cells #[.int .i64 b.a0, .int .i64 b.a1, .int .i64 b.a2, .int .i64 b.a3, .int .i64 b.a4, .int .i64 b.a5, .bool b.b0, .bool b.b1, .bool b.b2, .bool b.b3, .bool b.b4, .bool b.b5, .bool b.b6, .bool b.b7, .bool b.b8] 63)).alloc (Obj.cells #[.int .i64 0, .int .i64 0, .int .i64 0, .int .i64 0, .int .i64 0, .int .i64 0, .bool false, .bool false, .bool false, .bool false, .bool false, .bool false, .bool false, .bool false, .bool false] 63) = W at *
  change Bx W w.heap.size 63 (ctlA a) at hA3
  change Bx W (w.heap.size + 1) 63 (ctlA b) at hB3
  change Bx W (w.heap.size + 1 + 1) 63 (ctlA zeroC) at hR3
  have HR3 := Lib.hid hR3
  clear hR3
  have hHeld0 : (fun Wz : World => Bx Wz w.heap.size 63 (ctlA a) ∧ Bx Wz (w.heap.size + 1) 63 (ctlA b) ∧ Below w.heap.size w Wz) W.drew := ⟨hA3.later (Below.refl _ _).drew, hB3.later (Below.refl _ _).drew, hw3.drew⟩
  have HR0 := Lib.hid (HR3.out.later (Below.refl _ _).drew)
  clear hA3 hB3 hw3 HR3
  refine wp_region_held_drew (S := (fun Wz : World => Bx Wz w.heap.size 63 (ctlA a) ∧ Bx Wz (w.heap.size + 1) 63 (ctlA b) ∧ Below w.heap.size w Wz)) (by kernel_rfl) hHeld0 (fun hHeld => ?_)
  refine wpAnyH_take (i := 0) (v := .agg (ctlA a)) rfl (by kernel_rfl) (by kernel_rfl) (by kernel_rfl) (fun _ _ _ h => h) (Or.inl ⟨by kernel_rfl, ?_⟩) (by assumption) ?_
  case refine_1 => exact fun Wz hSw => exec_load_row _ _ (by rfl) w.heap.size _ (ctlA a) (0, 0) _ (by rfl) hSw.1 Tryz.underlying63 rfl (ctl_size a)
  try simp only [Act.put, List.getElem_toArray, List.getElem_cons_zero, List.setIfInBounds_toArray, List.set_cons_zero, List.set_cons_succ]
  refine wpAnyH_take (i := 2) (v := .agg (ctlA b)) rfl (by kernel_rfl) (by kernel_rfl) (by kernel_rfl) (fun _ _ _ h => h) (Or.inl ⟨by kernel_rfl, ?_⟩) (by assumption) ?_
  case refine_1 => exact fun Wz hSw => exec_load_row _ _ (by rfl) (w.heap.size + 1) _ (ctlA b) (0, 0) _ (by rfl) hSw.2.1 Tryz.underlying63 rfl (ctl_size b)
  try simp only [Act.put, List.getElem_toArray, List.getElem_cons_succ, List.getElem_cons_zero, List.setIfInBounds_toArray, List.set_cons_zero, List.set_cons_succ]
  refine wpAnyH_ready (rs := [1]) (by kernel_rfl) (by simp) ?_
  refine AllReadyH.cons rfl (fun K hK => ?_) AllReadyH.nil
  go_simp
  refine (HTa.out _ hHeld0.2.2).mono ?_
  rintro e w5 ⟨rfl, hbb⟩
  have hHeld5 : (fun Wz : World => Bx Wz w.heap.size 63 (ctlA a) ∧ Bx Wz (w.heap.size + 1) 63 (ctlA b) ∧ Below w.heap.size w Wz) w5 := ⟨hHeld0.1.later hbb, hHeld0.2.1.later hbb, hHeld0.2.2.trans (hbb.mono hHeld0.2.2.size)⟩
  have HR5 := Lib.hid (HR0.out.later hbb)
  clear hbb
  go_simp
  refine hK.out _ _ hHeld5 (fun hHeld2 => ?_)
  clear hK K hHeld2
  try simp only [Act.put, List.getElem_toArray, List.getElem_cons_succ, List.getElem_cons_zero, List.setIfInBounds_toArray, List.set_cons_zero, List.set_cons_succ]
  refine wpAnyH_ready (rs := [3]) (by kernel_rfl) (by simp) ?_
  refine AllReadyH.cons rfl (fun K hK => ?_) AllReadyH.nil
  go_simp
  refine (HTb.out _ hHeld5.2.2).mono ?_
  rintro e w6 ⟨rfl, hbb⟩
  have hHeld6 : (fun Wz : World => Bx Wz w.heap.size 63 (ctlA a) ∧ Bx Wz (w.heap.size + 1) 63 (ctlA b) ∧ Below w.heap.size w Wz) w6 := ⟨hHeld5.1.later hbb, hHeld5.2.1.later hbb, hHeld5.2.2.trans (hbb.mono hHeld5.2.2.size)⟩
  have HR6 := Lib.hid (HR5.out.later hbb)
  clear hbb
  go_simp
  refine hK.out _ _ hHeld6 (fun hHeld2 => ?_)
  clear hK K hHeld2
  try simp only [Act.put, List.getElem_toArray, List.getElem_cons_succ, List.getElem_cons_zero, List.setIfInBounds_toArray, List.set_cons_zero, List.set_cons_succ]
  refine wpAnyH_ready (rs := [4]) (by kernel_rfl) (by simp) ?_
  refine AllReadyH.cons rfl (fun K hK => ?_) AllReadyH.nil
  go_simp
  have hHeld7 : (fun Wz : World => Bx Wz w.heap.size 63 (ctlA a) ∧ Bx Wz (w.heap.size + 1) 63 (ctlA b) ∧ Below w.heap.size w Wz) (w6.alloc (Obj.cells #[.string (mkS ta), .string (mkS tb)] 9)) := ⟨hHeld6.1.later (below_allocC _ _), hHeld6.2.1.later (below_allocC _ _), hHeld6.2.2.alloc hHeld6.2.2.size _⟩
  refine hK.out _ _ hHeld7 (fun hHeld2 => ?_)
  clear hK K hHeld2
  try simp only [Act.put, List.getElem_toArray, List.getElem_cons_succ, List.getElem_cons_zero, List.setIfInBounds_toArray, List.set_cons_zero, List.set_cons_succ]
  refine wpAnyH_ready (rs := [5]) (by kernel_rfl) (by simp) ?_
  refine AllReadyH.cons rfl (fun K hK => ?_) AllReadyH.nil
  go_simp
  refine (HP.out w6).mono ?_
  rintro e w8 ⟨rfl, hbb⟩
  have hHeld8 : (fun Wz : World => Bx Wz w.heap.size 63 (ctlA a) ∧ Bx Wz (w.heap.size + 1) 63 (ctlA b) ∧ Below w.heap.size w Wz) w8 := ⟨hHeld6.1.later hbb, hHeld6.2.1.later hbb, hHeld6.2.2.trans (hbb.mono hHeld6.2.2.size)⟩
  have hR8 := HR6.out.later hbb
  clear hbb
  go_simp
  refine hK.out _ _ hHeld8 (fun hHeld2 => ?_)
  clear hK K hHeld2
  try simp only [Act.put, List.getElem_toArray, List.getElem_cons_succ, List.getElem_cons_zero, List.setIfInBounds_toArray, List.set_cons_zero, List.set_cons_succ]
  refine wpAnyH_ready (rs := [6]) (by kernel_rfl) (by simp) ?_
  refine AllReadyH.cons rfl (fun K hK => ?_) AllReadyH.nil
  refine stepC_store_row (by rfl) _ _ _ (by rfl) (w.heap.size + 1 + 1) _ (ctlA zeroC) (ctlA r) (by rfl) (by rfl) hR8 (ctl_size r) rfl (ctl_one r) ?_
  have hR9 := hR8.row (cs := ctlA r)
  have hHeld9 : (fun Wz : World => Bx Wz w.heap.size 63 (ctlA a) ∧ Bx Wz (w.heap.size + 1) 63 (ctlA b) ∧ Below w.heap.size w Wz) (w8.setRow (w.heap.size + 1 + 1) (ctlA r)) := ⟨hHeld8.1.same (setRow_other _ _ _ _ (by omega)), hHeld8.2.1.same (setRow_other _ _ _ _ (by omega)), below_setRowC hHeld8.2.2 (ctlA r) (by omega)⟩
  have HB9 := Lib.hid hHeld9.2.2
  refine hK.out _ _ hHeld9 (fun hHeld2 => ?_)
  clear hK K hHeld2
  try simp only [Act.put, List.getElem_toArray, List.getElem_cons_succ, List.getElem_cons_zero]
  refine wpAnyH_done (by kernel_rfl) ?_ _
  generalize w8.setRow (w.heap.size + 1 + 1) (ctlA r) = w9 at *
  clear hHeld0 hHeld hHeld5 hHeld6 hHeld7 hHeld8 hHeld9
  go_wp2_with fail
  refine bodyPost_ret (v := .agg (ctlA r)) ?_ rfl ⟨rfl, HB9.out⟩
  exact results_cell_row rfl _ _ (w.heap.size + 1 + 1) 63 _ (0, 0) _ rfl hR9 Tryz.underlying63 rfl (ctl_size r)

/-! the law's own example -/
def exC0 : Bs := [109, 97, 120, 45, 97, 103, 101, 61, 53, 44, 32, 77, 65, 88, 45, 65, 71, 69, 61, 51]
def exC1 : Bs := [110, 111, 45, 99, 97, 99, 104, 101, 61, 34, 120, 34]
theorem exC_parse : parseL [exC0, exC1] = { noneC with a0 := 3, b0 := true } := by decide +kernel

set_option maxHeartbeats 4000000 in
set_option maxRecDepth 100000 in
theorem lives10_any (w : World) : Calls Tryz.prog 29 #[] w fun e w' => e = .returned (.bool true) ∧ Below w.heap.size w w' := by
  have HP : Hid (∀ W : World, Calls Tryz.prog 34 #[.slice (some ⟨W.heap.size, 0, none⟩) 2 2] (W.alloc (.cells #[.string (mkS exC0), .string (mkS exC1)] 9)) fun e w' => e = .returned (.agg (ctlA (parseL [exC0, exC1]))) ∧ Below W.heap.size W w') := fun W => parse2_any _ _ W (by decide) (by decide)
  rw [exC_parse] at HP
  have HP2 : Hid (Calls Tryz.prog 34 #[.slice (some ⟨w.heap.size, 0, none⟩) 2 2] (w.alloc (.cells #[.string ⟨#[109, 97, 120, 45, 97, 103, 101, 61, 53, 44, 32, 77, 65, 88, 45, 65, 71, 69, 61, 51]⟩, .string ⟨#[110, 111, 45, 99, 97, 99, 104, 101, 61, 34, 120, 34]⟩] 9)) fun e w' => e = .returned (.agg #[.int .i64 3, .int .i64 (-1), .int .i64 (-1), .int .i64 (-1), .int .i64 (-1), .int .i64 (-1), .bool true, .bool false, .bool false, .bool false, .bool false, .bool false, .bool false, .bool false, .bool false]) ∧ Below w.heap.size w w') := HP.out w
  clear HP
  go_enter Tryz.func29, Tryz.ntmps29
  go_wp2_with fail
  refine HP2.out.mono ?_
  rintro e w1 ⟨rfl, hb⟩
  have hB := Bx.new w1 63 #[.int .i64 3, .int .i64 (-1), .int .i64 (-1), .int .i64 (-1), .int .i64 (-1), .int .i64 (-1), .bool true, .bool false, .bool false, .bool false, .bool false, .bool false, .bool false, .bool false, .bool false]
  have c0 := hB.cell 0 _ rfl
  have c1 := hB.cell 1 _ rfl
  have c6 := hB.cell 6 _ rfl
  have c7 := hB.cell 7 _ rfl
  have HB := Lib.hid (hb.alloc hb.size (.cells #[.int .i64 3, .int .i64 (-1), .int .i64 (-1), .int .i64 (-1), .int .i64 (-1), .int .i64 (-1), .bool true, .bool false, .bool false, .bool false, .bool false, .bool false, .bool false, .bool false, .bool false] 63))
  clear hB hb
  go_wp2_with fail
  go_ret
  exact ⟨rfl, HB.out⟩
end Tk
end Go.Proofs.YtnbipbeeengiaaaGreatDoor
namespace Go.Proofs.YtnbipbeeengiaaaGreatDoor
open Go.RowKit
namespace Tk

/-- may the texts be gone through: so many bytes together -/
def txGo (b : Nat) : Nat → List Bs → Bool
  | _, [] => true
  | n, x :: t => if b < n + x.length then false else txGo b (n + x.length) t
def lightX (M b : Nat) (l : List Bs) : Bool := decide (l.length ≤ M) && txGo b 0 l
theorem txGo_each (b : Nat) : ∀ (l : List Bs) (n : Nat), txGo b n l = true → ∀ x ∈ l, x.length ≤ b
  | [], _, _, x, hx => by simp at hx
  | y :: t, n, h, x, hx => by
    unfold txGo at h
    split at h
    · cases h
    · rcases List.mem_cons.1 hx with rfl | hx
      · omega
      · exact txGo_each b t _ h x hx
theorem lightX_parts (M b : Nat) (l : List Bs) (h : lightX M b l = true) : l.length ≤ M ∧ ∀ x ∈ l, x.length ≤ b := by
  unfold lightX at h
  rw [Bool.and_eq_true, decide_eq_true_eq] at h
  exact ⟨h.1, txGo_each b l 0 h.2⟩

set_option maxHeartbeats 2000000 in
set_option maxRecDepth 100000 in
theorem lightX_any (M b : Nat) (v : Value) (l : List Bs) (w : World) (hM : M ≤ 1000000) (hb : b ≤ 1000000) (hs : IsStrs w v l) (hz : ∀ x ∈ l, x.length ≤ 140737488351232) (hl : l.length ≤ 140737488351232) :
    Calls Tryz.prog 30 #[v, .int .i64 (M : Int), .int .i64 (b : Int)] w fun e w' => e = .returned (.bool (lightX M b l)) ∧ w = w' := by
  obtain ⟨a, c, rfl, hc⟩ := hs
  have HC := Lib.hid hc
  have HZ := Lib.hid hz
  clear hc hz
  by_cases h20 : M < l.length
  · have fin : lightX M b l = false := by unfold lightX; rw [decide_eq_false (by omega)]; rfl
    have HF := Lib.hid fin
    have h' : (M : Int) < (l.length : Int) := by omega
    clear fin
    go_enter Tryz.func30, Tryz.ntmps30
    go_wp2_with fail
    go_ret
    exact ⟨by rw [HF.out]; rfl, rfl⟩
  · have fin : lightX M b l = txGo b 0 l := by unfold lightX; rw [decide_eq_true (by omega)]; rfl
    have HF := Lib.hid fin
    have h' : ¬ (M : Int) < (l.length : Int) := by omega
    clear fin
    go_enter Tryz.func30, Tryz.ntmps30
    go_wp2_with fail
    go_loop [7, 8] (fun vn vi => ∃ (i n : Nat), i ≤ l.length ∧ n ≤ b ∧ vi = .int .i64 i ∧ vn = .int .i64 n ∧ Hid (lightX M b l = txGo b n (l.drop i))) (fun _ vi => l.length - (RowKit.intOf vi).toNat)
    case atStart => exact ⟨0, 0, by omega, by omega, rfl, rfl, HF.out⟩
    case round =>
      obtain ⟨i, n, hi, hn, rfl, rfl, hd⟩ := hrel
      by_cases hlt : i < l.length
      · obtain ⟨bb, o, rfl, hcell⟩ := HC.out i (l.getD i []) (by simp [List.getD, hlt])
        have hxl := HZ.out (l.getD i []) (by simp [List.getD, hlt])
        have hdr : l.drop i = l.getD i [] :: l.drop (i + 1) := by rw [List.drop_eq_getElem_cons hlt]; simp [List.getD, hlt]
        have HD := Lib.hid hdr
        have hsz : (mkS (l.getD i [])).size = (l.getD i []).length := size_mkS _
        clear hdr
        generalize l.getD i [] = x at *
        have HS := Lib.hid hsz
        have hxz : (mkS x).size ≤ 140737488351232 := by omega
        clear hsz
        by_cases hbb : b < n + (mkS x).size
        · have fin : lightX M b l = false := by
            rw [hd.out, HD.out, txGo, if_pos (by rw [← HS.out]; exact hbb)]
          have HF2 := Lib.hid fin
          have hb' : (b : Int) < (n : Int) + ((mkS x).size : Int) := by omega
          clear fin
          generalize mkS x = s at *
          go_wp2_with fail
          go_ret
          exact ⟨by rw [HF2.out]; rfl, rfl⟩
        · have nx : lightX M b l = txGo b (n + (mkS x).size) (l.drop (i + 1)) := by
            rw [hd.out, HD.out, txGo, if_neg (by rw [← HS.out]; exact hbb), HS.out]
          have HN := Lib.hid nx
          have hb' : ¬ (b : Int) < (n : Int) + ((mkS x).size : Int) := by omega
          clear nx
          generalize mkS x = s at *
          go_wp2_with fail
          exact ⟨⟨i + 1, n + s.size, by omega, by omega, by go_num, by go_num, HN⟩, by simp [RowKit.intOf]; omega⟩
      · have fin : lightX M b l = true := by rw [hd.out, List.drop_eq_nil_of_le (by omega)]; rfl
        have HF2 := Lib.hid fin
        clear fin
        go_wp2_with fail
        go_ret
        exact ⟨by rw [HF2.out]; rfl, rfl⟩
end Tk
end Go.Proofs.YtnbipbeeengiaaaGreatDoor
namespace Go.Proofs.YtnbipbeeengiaaaGreatDoor
open Go.RowKit
namespace Tk

theorem noStandC : Tryz.prog.stoodInHeld 63 = false := by kernel_rfl
theorem ctl_eql (W : World) (c : Ctl) : (binOp .eql 63 (.agg (ctlA c)) (.agg (ctlA c))).run Tryz.prog W = .ok (.bool true) W := by
  rw [run_eql_struct, run_equalIn_agg _ _ _ _ _ (by simp [Program.fieldsOf, Tryz.underlying63]) noStandC]
  simp [Program.fieldsOf, Tryz.underlying63, Op.eqFields, go_sem, ctlA]
theorem ctl_neq (W : World) (c : Ctl) : (binOp .neq 63 (.agg (ctlA c)) (.agg (ctlA c))).run Tryz.prog W = .ok (.bool false) W := by
  rw [run_neq_struct, run_equalIn_agg _ _ _ _ _ (by simp [Program.fieldsOf, Tryz.underlying63]) noStandC]
  simp [Program.fieldsOf, Tryz.underlying63, Op.eqFields, go_sem, ctlA]
theorem lens_light {b : Nat} : ∀ (l : List Bs) (n : Nat), txGo b n l = true → n ≤ b → n + Lib.lens l ≤ b
  | [], n, _, hn => by simpa [Lib.lens] using hn
  | x :: t, n, h, hn => by
    unfold txGo at h
    split at h
    · cases h
    · have := lens_light t (n + x.length) h (by omega)
      simp [Lib.lens] at *
      omega
theorem light_lens {M b : Nat} {l : List Bs} (h : lightX M b l = true) : l.length ≤ M ∧ Lib.lens l ≤ b ∧ ∀ x ∈ l, x.length ≤ b := by
  have h1 := lightX_parts M b l h
  unfold lightX at h
  rw [Bool.and_eq_true] at h
  have h2 := lens_light l 0 h.2 (by omega)
  exact ⟨h1.1, by omega, h1.2⟩
theorem v_i64 {c : Ctl} (h : vC c) : i64C c := by
  obtain ⟨⟨-, h0⟩, ⟨-, h1⟩, ⟨-, h2⟩, ⟨-, h3⟩, ⟨-, h4⟩, -, h5⟩ := h
  unfold mxD at *
  exact ⟨by omega, by omega, by omega, by omega, by omega, by omega⟩
theorem okC_v {c : Ctl} (h : vC c) : chkE c = 0 := by unfold chkE; rw [if_pos ((okC15_v c).2 h)]
/-- one value of a list, as a list -/
theorem isStrs_part {w : World} {a : Option Addr} {c : Nat} {L : List Bs} (h : IsStrs w (.slice a L.length c) L) (i : Nat) (hi : i < L.length) :
    ∃ b o, a = some ⟨b, o, none⟩ ∧ IsStrs w (.slice (some ⟨b, o + i, none⟩) 1 (c - i)) [L.getD i []] := by
  obtain ⟨a', c', e, hcs⟩ := h
  injection e with e1 _ e3
  subst e1 e3
  obtain ⟨b, o, rfl, hcell⟩ := hcs i (L.getD i []) (by simp [List.getD, hi])
  refine ⟨b, o, rfl, some ⟨b, o + i, none⟩, c - i, rfl, fun j t hj => ?_⟩
  cases j with
  | zero =>
    simp at hj
    subst hj
    exact ⟨b, o + i, rfl, by simpa using hcell⟩
  | succ j => simp at hj
end Tk
end Go.Proofs.YtnbipbeeengiaaaGreatDoor
namespace Go.Proofs.YtnbipbeeengiaaaGreatDoor
open Go.RowKit
namespace Tk

def leastR (a b : Int) : Int := if a < 0 ∨ (b ≥ 0 ∧ b < a) then b else a
theorem leastR_eq {a b : Int} (ha : vNc a) (hb : vNc b) : leastR a b = leastI a b := by
  obtain ⟨h1, -⟩ := ha
  obtain ⟨h2, -⟩ := hb
  unfold leastR leastI
  split <;> split <;> (try split) <;> omega

set_option maxHeartbeats 1000000 in
theorem rcleast_any (a b : Int) (w : World) : Calls Tryz.prog 69 #[.int .i64 a, .int .i64 b] w fun e w' => e = .returned (.int .i64 (leastR a b)) ∧ w = w' := by
  have HL : Hid (leastR a b = if a < 0 ∨ (b ≥ 0 ∧ b < a) then b else a) := rfl
  by_cases h1 : a < 0
  · have d1 := decide_eq_true h1
    rw [show leastR a b = b by rw [HL.out, if_pos (.inl h1)]]
    clear HL
    go_enter Tryz.func69, Tryz.ntmps69
    go_wp2_with fail
    go_ret
    exact ⟨rfl, rfl⟩
  · have d1 := decide_eq_false h1
    by_cases h2 : b ≥ 0
    · have d2 := decide_eq_true h2
      by_cases h3 : b < a
      · have d3 := decide_eq_true h3
        rw [show leastR a b = b by rw [HL.out, if_pos (.inr ⟨h2, h3⟩)]]
        clear HL
        go_enter Tryz.func69, Tryz.ntmps69
        go_wp2_with fail
        go_ret
        exact ⟨rfl, rfl⟩
      · have d3 := decide_eq_false h3
        rw [show leastR a b = a by rw [HL.out, if_neg (by omega)]]
        clear HL
        go_enter Tryz.func69, Tryz.ntmps69
        go_wp2_with fail
        go_ret
        exact ⟨rfl, rfl⟩
    · have d2 := decide_eq_false h2
      rw [show leastR a b = a by rw [HL.out, if_neg (by omega)]]
      clear HL
      go_enter Tryz.func69, Tryz.ntmps69
      go_wp2_with fail
      go_ret
      exact ⟨rfl, rfl⟩

set_option maxHeartbeats 1000000 in
set_option maxRecDepth 100000 in
theorem rcnone_any (w : World) : Calls Tryz.prog 37 #[] w fun e w' => e = .returned (.agg (ctlA noneC)) ∧ Below w.heap.size w w' := by
  have hx : Bx (w.alloc (.cells #[.int .i64 0, .int .i64 0, .int .i64 0, .int .i64 0, .int .i64 0, .int .i64 0, .bool false, .bool false, .bool false, .bool false, .bool false, .bool false, .bool false, .bool false, .bool false] 63)) w.heap.size 63 (ctlA zeroC) := Bx.new w 63 (ctlA zeroC)
  have hb := below_setRow (below_allocC w (.cells #[.int .i64 0, .int .i64 0, .int .i64 0, .int .i64 0, .int .i64 0, .int .i64 0, .bool false, .bool false, .bool false, .bool false, .bool false, .bool false, .bool false, .bool false, .bool false] 63)) (ctlA noneC)
  go_enter Tryz.func37, Tryz.ntmps37
  go_wp2_with (refine wpListC_store_row rfl _ _ _ rfl w.heap.size _ (ctlA zeroC) (ctlA noneC) rfl rfl hx (ctl_size _) rfl (ctl_one _) ?_)
  have hr := hx.row (cs := ctlA noneC)
  refine bodyPost_ret (v := .agg (ctlA noneC)) ?_ rfl ⟨rfl, hb⟩
  exact results_cell_row rfl _ _ w.heap.size 63 _ (0, 0) _ rfl hr Tryz.underlying63 rfl (ctl_size _)

set_option maxHeartbeats 4000000 in
set_option maxRecDepth 100000 in
theorem rccheck_any (c : Ctl) (w : World) : Calls Tryz.prog 41 #[.agg (ctlA c)] w fun e w' => e = .returned (.int .i64 (chkE c)) ∧ Below w.heap.size w w' := by
  have hB := Bx.new w 63 (ctlA c)
  have hb := below_allocC w (.cells (ctlA c) 63)
  have hB1 := Bx.new (w.alloc (.cells (ctlA c) 63)) 2 #[.int .i64 c.a0, .int .i64 c.a1, .int .i64 c.a2, .int .i64 c.a3, .int .i64 c.a4, .int .i64 c.a5]
  have hcell : Hid (∀ i, i < 6 → (#[.int .i64 c.a0, .int .i64 c.a1, .int .i64 c.a2, .int .i64 c.a3, .int .i64 c.a4, .int .i64 c.a5] : Array Value)[i]? = some (.int .i64 ((numsL c).getD i ([], 0)).2)) := fun i hi => by
    rcases (by omega : i = 0 ∨ i = 1 ∨ i = 2 ∨ i = 3 ∨ i = 4 ∨ i = 5) with rfl | rfl | rfl | rfl | rfl | rfl <;> rfl
  have HOk := Lib.hid (show okC15 c = (numsL c).all fun d => okN d.2 from rfl)
  have hlen : (numsL c).length = 6 := rfl
  have k0 := hB.cell 0 _ rfl
  have k1 := hB.cell 1 _ rfl
  have k2 := hB.cell 2 _ rfl
  have k3 := hB.cell 3 _ rfl
  have k4 := hB.cell 4 _ rfl
  have k5 := hB.cell 5 _ rfl
  have HBx := Lib.hid hB1
  have HB0 := Lib.hid (hb.trans ((below_allocC _ (.cells #[.int .i64 c.a0, .int .i64 c.a1, .int .i64 c.a2, .int .i64 c.a3, .int .i64 c.a4, .int .i64 c.a5] 2)).mono hb.size))
  clear hB hb hB1
  have HQ : Hid ((okC15 c = true → chkE c = 0) ∧ (okC15 c = false → chkE c = 2)) := ⟨fun h => by unfold chkE; rw [if_pos h], fun h => by unfold chkE; rw [if_neg (by rw [h]; decide)]⟩
  generalize chkE c = q at *
  generalize okC15 c = ok at *
  generalize numsL c = L at *
  go_enter Tryz.func41, Tryz.ntmps41
  unfold ctlA at *
  go_wp2_with fail
  clear k0 k1 k2 k3 k4 k5
  go_loopw [19] (fun vi wr => ∃ i : Nat, i ≤ 6 ∧ vi = .int .i64 i ∧ Hid (Bx wr (w.heap.size + 1) 2 #[.int .i64 c.a0, .int .i64 c.a1, .int .i64 c.a2, .int .i64 c.a3, .int .i64 c.a4, .int .i64 c.a5]) ∧ Hid (Below w.heap.size w wr) ∧ Hid ((L.take i).all (fun d => okN d.2) = true)) (fun vi _ => 6 - (RowKit.intOf vi).toNat)
  case atStart => exact ⟨0, Nat.zero_le _, rfl, (by have := HBx.out; rw [World.size_alloc] at this; exact this), HB0.out, rfl⟩
  case round =>
    obtain ⟨i, hi, rfl, HX, HB, HA⟩ := hrel
    rename World => W
    by_cases hlt : i < 6
    · have hcl := HX.out.cell i _ (hcell.out i hlt)
      have hstep := all_take (fun d : Bs × Int => okN d.2) L i ([], 0) (by omega) HA.out
      have hbad := all_bad (fun d : Bs × Int => okN d.2) L i ([], 0) (by omega)
      generalize L.getD i ([], 0) = d at *
      obtain ⟨nm, a⟩ := d
      simp only at hcl hstep hbad
      have hokd : okN a = !(decide (a < -1) || decide (mxD < a)) := rfl
      have HSt := Lib.hid hstep
      have HBad := Lib.hid hbad
      have g0 : (0 : Int) ≤ (i : Int) := by omega
      have g1 : (i : Int) < 6 := by omega
      clear hstep hbad
      by_cases h1 : a < -1
      · have hf : okN a = false := by rw [hokd, decide_eq_true h1]; rfl
        have HF := Lib.hid (HBad.out hf)
        rw [← HOk.out] at HF
        clear hokd hf
        go_wp2_with fail
        go_ret
        refine ⟨?_, HB.out⟩
        rw [HQ.out.2 HF.out]; rfl
      · by_cases h2 : (2147483648 : Int) < a
        · have hf : okN a = false := by rw [hokd, decide_eq_false h1, decide_eq_true (show mxD < a from h2)]; rfl
          have HF := Lib.hid (HBad.out hf)
          rw [← HOk.out] at HF
          clear hokd hf
          go_wp2_with fail
          go_ret
          refine ⟨?_, HB.out⟩
          rw [HQ.out.2 HF.out]; rfl
        · have hf : okN a = true := by rw [hokd, decide_eq_false h1, decide_eq_false (show ¬ mxD < a from h2)]; rfl
          have HF := Lib.hid (HSt.out.trans hf)
          clear hokd hf
          go_wp2_with fail
          exact ⟨⟨i + 1, hlt, by go_num, HX, HB, HF⟩, by simp [RowKit.intOf]; omega⟩
    · obtain rfl : i = 6 := by omega
      have hA := HA.out
      rw [← hlen, List.take_length, ← HOk.out] at hA
      have HF := Lib.hid hA
      clear hA
      go_wp2_with fail
      go_ret
      refine ⟨?_, HB.out⟩
      rw [HQ.out.1 HF.out]; rfl
end Tk
end Go.Proofs.YtnbipbeeengiaaaGreatDoor
