/- RcF, put together. -/
import Derived.Test.YtnbipbeeengiaaaGreatDoorQQ
import Derived.Test.YtnbipbeeengiaaaGreatDoorQR
namespace Go.Proofs.YtnbipbeeengiaaaGreatDoor
open Go.RowKit
namespace Tk

theorem rparse2_any (x y : Bs) (W : World) (hx : x.length ≤ 1000) (hy : y.length ≤ 1000) :
    Calls Tryz.prog 35 #[.slice (some ⟨W.heap.size, 0, none⟩) 2 2] (W.alloc (.cells #[.string (mkS x), .string (mkS y)] 9)) fun e w' => e = .returned (.agg (ctlA (parseL [x, y]))) ∧ Below W.heap.size W w' := by
  refine (rparse10_any _ [x, y] _ (isStrs_lit W [x, y] _ _ _ rfl) (by intro z hz; simp at hz; rcases hz with rfl | rfl <;> omega) (by simp) (by simp [Lib.lens]; omega)).mono ?_
  rintro e w' ⟨he, hb⟩
  exact ⟨he, (below_allocC _ _).trans (hb.mono (by simp))⟩

set_option maxHeartbeats 8000000 in
set_option maxRecDepth 100000 in
theorem rjoin10_any (a b : Ctl) (w : World) (ha : i64C a) (hb : i64C b) : Calls Tryz.prog 43 #[.agg (ctlA a), .agg (ctlA b)] w (CtlPost (parseL [textC a, textC b]) w) := by
  have HTa : Hid (∀ W : World, Below w.heap.size w W → Calls Tryz.prog 39 #[.agg (ctlA a)] W fun e w' => e = .returned (.string (mkS (textC a))) ∧ Below W.heap.size W w') := fun W _ => rtext10_any a W ha
  have HTb : Hid (∀ W : World, Below w.heap.size w W → Calls Tryz.prog 39 #[.agg (ctlA b)] W fun e w' => e = .returned (.string (mkS (textC b))) ∧ Below W.heap.size W w') := fun W _ => rtext10_any b W hb
  have HP : Hid (∀ W : World, Calls Tryz.prog 35 #[.slice (some ⟨W.heap.size, 0, none⟩) 2 2] (W.alloc (.cells #[.string (mkS (textC a)), .string (mkS (textC b))] 9)) fun e w' => e = .returned (.agg (ctlA (parseL [textC a, textC b]))) ∧ Below W.heap.size W w') := fun W => rparse2_any _ _ W (text_len a ha) (text_len b hb)
  generalize parseL [textC a, textC b] = r at *
  generalize textC a = ta at *
  generalize textC b = tb at *
  have hA1 := Bx.new w 63 (ctlA a)
  have hb1 := below_allocC w (.cells (ctlA a) 63)
  have hz1 : (w.alloc (.cells (ctlA a) 63)).heap.size = w.heap.size + 1 := by simp
  have hB2 := Bx.new (w.alloc (.cells (ctlA a) 63)) 63 (ctlA b)
  have hb2 := below_allocC (w.alloc (.cells (ctlA a) 63)) (.cells (ctlA b) 63)
  have hz2 : ((w.alloc (.cells (ctlA a) 63)).alloc (.cells (ctlA b) 63)).heap.size = w.heap.size + 1 + 1 := by simp
  have hR3 := Bx.new ((w.alloc (.cells (ctlA a) 63)).alloc (.cells (ctlA b) 63)) 63 (ctlA zeroC)
  have hb3 := below_allocC ((w.alloc (.cells (ctlA a) 63)).alloc (.cells (ctlA b) 63)) (.cells (ctlA zeroC) 63)
  have hA3 := (hA1.later hb2).later hb3
  have hB3 := hB2.later hb3
  have hw3 := (hb1.trans (hb2.mono hb1.size)).trans (hb3.mono (hb1.trans (hb2.mono hb1.size)).size)
  rw [hz1] at hB3
  rw [hz2] at hR3
  clear hA1 hb1 hB2 hb2 hb3 hz1 hz2 ha hb
  unfold ctlA zeroC at *
  unfold CtlPost ctlA
  go_enter Tryz.func43, Tryz.ntmps43
  go_wp2_with fail

  generalize ((w.alloc (Obj.cells #[.int .i64 a.a0, .int .i64 a.a1, .int .i64 a.a2, .int .i64 a.a3, .int .i64 a.a4, .int .i64 a.a5, .bool a.b0, .bool a.b1, .bool a.b2, .bool a.b3, .bool a.b4, .bool a.b5, .bool a.b6, .bool a.b7, .bool a.b8] 63)).alloc (Obj.cells #[.int .i64 b.a0, .int .i64 b.a1, .int .i64 b.a2, .int .i64 b.a3, .int .i64 b.a4, .int .i64 b.a5, .bool b.b0, .bool b.b1, .bool b.b2, .bool b.b3, .bool b.b4, .bool b.b5, .bool b.b6, .bool b.b7, .bool b.b8] 63)).alloc (Obj.cells #[.int .i64 0, .int .i64 0, .int .i64 0, .int .i64 0, .int .i64 0, .int .i64 0, .bool false, .bool false, .bool false, .bool false, .bool false, .bool false, .bool false, .bool false, .bool false] 63) = W at *
  change Bx W w.heap.size 63 (ctlA a) at hA3
  change Bx W (w.heap.size + 1) 63 (ctlA b) at hB3
  change Bx W (w.heap.size + 1 + 1) 63 (ctlA zeroC) at hR3
  have HR3 := Lib.hid hR3
  clear hR3
  have hHeld0 : (fun Wz : World => Bx Wz w.heap.size 63 (ctlA a) ∧ Bx Wz (w.heap.size + 1) 63 (ctlA b) ∧ Below w.heap.size w Wz) W.drew := ⟨hA3.later (Below.refl _ _).drew, hB3.later (Below.refl _ _).drew, hw3.drew⟩
  have HR0 := Lib.hid (HR3.out.later (Below.refl _ _).drew)
  clear hA3 hB3 hw3 HR3
  refine wp_region_held_drew (S := (fun Wz : World => Bx Wz w.heap.size 63 (ctlA a) ∧ Bx Wz (w.heap.size + 1) 63 (ctlA b) ∧ Below w.heap.size w Wz)) (by kernel_rfl) hHeld0 (fun hHeld => ?_)
  refine wpAnyH_take (i := 0) (v := .agg (ctlA a)) rfl (by kernel_rfl) (by kernel_rfl) (by kernel_rfl) (fun _ _ _ h => h) (Or.inl ⟨by kernel_rfl, ?_⟩) (by assumption) ?_
  case refine_1 => exact fun Wz hSw => exec_load_row _ _ (by rfl) w.heap.size _ (ctlA a) (0, 0) _ (by rfl) hSw.1 Tryz.underlying63 rfl (ctl_size a)
  try simp only [Act.put, List.getElem_toArray, List.getElem_cons_zero, List.setIfInBounds_toArray, List.set_cons_zero, List.set_cons_succ]
  refine wpAnyH_take (i := 2) (v := .agg (ctlA b)) rfl (by kernel_rfl) (by kernel_rfl) (by kernel_rfl) (fun _ _ _ h => h) (Or.inl ⟨by kernel_rfl, ?_⟩) (by assumption) ?_
  case refine_1 => exact fun Wz hSw => exec_load_row _ _ (by rfl) (w.heap.size + 1) _ (ctlA b) (0, 0) _ (by rfl) hSw.2.1 Tryz.underlying63 rfl (ctl_size b)
  try simp only [Act.put, List.getElem_toArray, List.getElem_cons_succ, List.getElem_cons_zero, List.setIfInBounds_toArray, List.set_cons_zero, List.set_cons_succ]
  refine wpAnyH_ready (rs := [1]) (by kernel_rfl) (by simp) ?_
  refine AllReadyH.cons rfl (fun K hK => ?_) AllReadyH.nil
  go_simp
  refine (HTa.out _ hHeld0.2.2).mono ?_
  rintro e w5 ⟨rfl, hbb⟩
  have hHeld5 : (fun Wz : World => Bx Wz w.heap.size 63 (ctlA a) ∧ Bx Wz (w.heap.size + 1) 63 (ctlA b) ∧ Below w.heap.size w Wz) w5 := ⟨hHeld0.1.later hbb, hHeld0.2.1.later hbb, hHeld0.2.2.trans (hbb.mono hHeld0.2.2.size)⟩
  have HR5 := Lib.hid (HR0.out.later hbb)
  clear hbb
  go_simp
  refine hK.out _ _ hHeld5 (fun hHeld2 => ?_)
  clear hK K hHeld2
  try simp only [Act.put, List.getElem_toArray, List.getElem_cons_succ, List.getElem_cons_zero, List.setIfInBounds_toArray, List.set_cons_zero, List.set_cons_succ]
  refine wpAnyH_ready (rs := [3]) (by kernel_rfl) (by simp) ?_
  refine AllReadyH.cons rfl (fun K hK => ?_) AllReadyH.nil
  go_simp
  refine (HTb.out _ hHeld5.2.2).mono ?_
  rintro e w6 ⟨rfl, hbb⟩
  have hHeld6 : (fun Wz : World => Bx Wz w.heap.size 63 (ctlA a) ∧ Bx Wz (w.heap.size + 1) 63 (ctlA b) ∧ Below w.heap.size w Wz) w6 := ⟨hHeld5.1.later hbb, hHeld5.2.1.later hbb, hHeld5.2.2.trans (hbb.mono hHeld5.2.2.size)⟩
  have HR6 := Lib.hid (HR5.out.later hbb)
  clear hbb
  go_simp
  refine hK.out _ _ hHeld6 (fun hHeld2 => ?_)
  clear hK K hHeld2
  try simp only [Act.put, List.getElem_toArray, List.getElem_cons_succ, List.getElem_cons_zero, List.setIfInBounds_toArray, List.set_cons_zero, List.set_cons_succ]
  refine wpAnyH_ready (rs := [4]) (by kernel_rfl) (by simp) ?_
  refine AllReadyH.cons rfl (fun K hK => ?_) AllReadyH.nil
  go_simp
  have hHeld7 : (fun Wz : World => Bx Wz w.heap.size 63 (ctlA a) ∧ Bx Wz (w.heap.size + 1) 63 (ctlA b) ∧ Below w.heap.size w Wz) (w6.alloc (Obj.cells #[.string (mkS ta), .string (mkS tb)] 9)) := ⟨hHeld6.1.later (below_allocC _ _), hHeld6.2.1.later (below_allocC _ _), hHeld6.2.2.alloc hHeld6.2.2.size _⟩
  refine hK.out _ _ hHeld7 (fun hHeld2 => ?_)
  clear hK K hHeld2
  try simp only [Act.put, List.getElem_toArray, List.getElem_cons_succ, List.getElem_cons_zero, List.setIfInBounds_toArray, List.set_cons_zero, List.set_cons_succ]
  refine wpAnyH_ready (rs := [5]) (by kernel_rfl) (by simp) ?_
  refine AllReadyH.cons rfl (fun K hK => ?_) AllReadyH.nil
  go_simp
  refine (HP.out w6).mono ?_
  rintro e w8 ⟨rfl, hbb⟩
  have hHeld8 : (fun Wz : World => Bx Wz w.heap.size 63 (ctlA a) ∧ Bx Wz (w.heap.size + 1) 63 (ctlA b) ∧ Below w.heap.size w Wz) w8 := ⟨hHeld6.1.later hbb, hHeld6.2.1.later hbb, hHeld6.2.2.trans (hbb.mono hHeld6.2.2.size)⟩
  have hR8 := HR6.out.later hbb
  clear hbb
  go_simp
  refine hK.out _ _ hHeld8 (fun hHeld2 => ?_)
  clear hK K hHeld2
  try simp only [Act.put, List.getElem_toArray, List.getElem_cons_succ, List.getElem_cons_zero, List.setIfInBounds_toArray, List.set_cons_zero, List.set_cons_succ]
  refine wpAnyH_ready (rs := [6]) (by kernel_rfl) (by simp) ?_
  refine AllReadyH.cons rfl (fun K hK => ?_) AllReadyH.nil
  refine stepC_store_row (by rfl) _ _ _ (by rfl) (w.heap.size + 1 + 1) _ (ctlA zeroC) (ctlA r) (by rfl) (by rfl) hR8 (ctl_size r) rfl (ctl_one r) ?_
  have hR9 := hR8.row (cs := ctlA r)
  have hHeld9 : (fun Wz : World => Bx Wz w.heap.size 63 (ctlA a) ∧ Bx Wz (w.heap.size + 1) 63 (ctlA b) ∧ Below w.heap.size w Wz) (w8.setRow (w.heap.size + 1 + 1) (ctlA r)) := ⟨hHeld8.1.same (setRow_other _ _ _ _ (by omega)), hHeld8.2.1.same (setRow_other _ _ _ _ (by omega)), below_setRowC hHeld8.2.2 (ctlA r) (by omega)⟩
  have HB9 := Lib.hid hHeld9.2.2
  refine hK.out _ _ hHeld9 (fun hHeld2 => ?_)
  clear hK K hHeld2
  try simp only [Act.put, List.getElem_toArray, List.getElem_cons_succ, List.getElem_cons_zero]
  refine wpAnyH_done (by kernel_rfl) ?_ _
  generalize w8.setRow (w.heap.size + 1 + 1) (ctlA r) = w9 at *
  clear hHeld0 hHeld hHeld5 hHeld6 hHeld7 hHeld8 hHeld9
  go_wp2_with fail
  refine bodyPost_ret (v := .agg (ctlA r)) ?_ rfl ⟨rfl, HB9.out⟩
  exact results_cell_row rfl _ _ (w.heap.size + 1 + 1) 63 _ (0, 0) _ rfl hR9 Tryz.underlying63 rfl (ctl_size r)

end Tk
end Go.Proofs.YtnbipbeeengiaaaGreatDoor
