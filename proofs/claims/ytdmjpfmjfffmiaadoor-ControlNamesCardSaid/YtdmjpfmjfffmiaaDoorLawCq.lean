/- ControlNames: the chapter's examples. -/
import Derived.Test.YtdmjpfmjfffmiaaDoorCnm
import Derived.Test.YtdmjpfmjfffmiaaDoorCtJ
import Derived.Deep.Cut
namespace Go.Proofs.YtdmjpfmjfffmiaaDoor
open Go.RowKit
namespace Tk

section
variable {P : Program} {ops : Array Oper} {rest : List Oper} {o : Oper} {a : Act} {w : World} {Q : Exit → Act → World → Prop}
theorem wpN_val {K : Act → World → Prop} (v : Value) (h : (execOp a.eval o).run P w = .ok (.value v) w) (k : K (a.put o.dst v) w) : o.wp P a w K Q := by
  unfold Oper.wp
  rw [h]
  exact k
theorem wplN_val (hg : o.guard = none) (v : Value) (h : (execOp a.eval o).run P w = .ok (.value v) w) (k : wpList P ops Q rest (a.put o.dst v) w) : wpList P ops Q (o :: rest) a w :=
  wpList_plain hg fun _ hK => wpN_val v h (hK _ _ k)
theorem wplN_on (hw : Region.wanted o (yielded ops a.tmps) = true) (v : Value) (h : (execOp a.eval o).run P w = .ok (.value v) w) (k : wpList P ops Q rest (a.put o.dst v) w) : wpList P ops Q (o :: rest) a w :=
  BigFrame.wpList_want hw fun _ hK => wpN_val v h (hK _ _ k)
theorem wplN_nil (h : Q .normal a w) : wpList P ops Q [] a w := h
theorem thenN {K : Act → World → Prop} {R : Exit → Act → World → Prop} (h : K a w) : Exit.then K R .normal a w := h
end
theorem isPrs_litN (W : World) (l : List (Bs × Bs)) (cs : Array Value) (h : cs.toList = pcells l) (hm : l.length ≤ 1000) (hs : cs.size = l.length * 2) : IsPrs (W.alloc (.cells cs 46)) (.slice (some ⟨W.heap.size, 0, none⟩) l.length l.length) l := by
  have h1 := World.ownsRow_lit (base := W.heap.size) (e := 46) (size := 2) W cs l.length (Nat.le_refl _) (by unfold maxLen; omega) hs
  rw [h] at h1
  exact isPrs_own h1

theorem field2N (W : World) (x : Array Value) (v : Value) (h : x[2]? = some v) : (Instr.field 36 (.agg x) 2).run Tryd.prog W = .ok v W := by
  simp [Instr.field, run_underlying Tryd.underlying36, part, asAgg, go_sem, h]
theorem field3N (W : World) (x : Array Value) (v : Value) (h : x[3]? = some v) : (Instr.field 36 (.agg x) 3).run Tryd.prog W = .ok v W := by
  simp [Instr.field, run_underlying Tryd.underlying36, part, asAgg, go_sem, h]
theorem field7N (W : World) (x : Array Value) (v : Value) (h : x[7]? = some v) : (Instr.field 36 (.agg x) 7).run Tryd.prog W = .ok v W := by
  simp [Instr.field, run_underlying Tryd.underlying36, part, asAgg, go_sem, h]

set_option maxHeartbeats 32000000 in
set_option maxRecDepth 100000 in
theorem names10_any (w : World) (hT : TenC w) : Calls Tryd.prog 4 #[] w fun e w' => e = .returned (.bool true) ∧ Below w.heap.size w w' := by
  have HLv : Hid (∀ W : World, Calls Tryd.prog 19 #[] W fun e w' => e = .returned (.bool true) ∧ Below W.heap.size W w') := lives10_any
  have HN : Hid (∀ W : World, Calls Tryd.prog 21 #[] W fun e w' => e = .returned (.agg (ctlA noneC)) ∧ Below W.heap.size W w') := cnone_any
  have HP1 : Hid (∀ W : World, Calls Tryd.prog 20 #[.slice (some ⟨W.heap.size, 0, none⟩) 2 2] (W.alloc (.cells #[.string (mkS s1N), .string (mkS s2N)] 9)) fun e w' => e = .returned (.agg (ctlA cN)) ∧ Below W.heap.size W w') := fun W => by
    have h := parse2_any s1N s2N W (by decide) (by decide)
    rw [p12N] at h; exact h
  have HP4 : Hid (∀ W : World, Calls Tryd.prog 20 #[.slice (some ⟨W.heap.size, 0, none⟩) 1 1] (W.alloc (.cells #[.string (mkS s4N)] 9)) fun e w' => e = .returned (.agg #[.int .i64 (-1), .int .i64 (-1), .int .i64 9, .int .i64 (-1), .int .i64 (-1), .int .i64 (-1), .bool false, .bool false, .bool false, .bool false, .bool false, .bool false, .bool false, .bool false, .bool false]) ∧ Below W.heap.size W w') := fun W => by
    have h := parse1_any s4N W (by decide)
    rw [p4N] at h; exact h
  have HP5 : Hid (∀ W : World, Calls Tryd.prog 20 #[.slice (some ⟨W.heap.size, 0, none⟩) 1 1] (W.alloc (.cells #[.string (mkS s5N)] 9)) fun e w' => e = .returned (.agg #[.int .i64 (-1), .int .i64 (-1), .int .i64 (-1), .int .i64 (-1), .int .i64 (-1), .int .i64 (-1), .bool false, .bool true, .bool false, .bool false, .bool false, .bool false, .bool false, .bool false, .bool false]) ∧ Below W.heap.size W w') := fun W => by
    have h := parse1_any s5N W (by decide)
    rw [p5N] at h; exact h
  have HP6 : Hid (∀ W : World, Calls Tryd.prog 20 #[.slice (some ⟨W.heap.size, 0, none⟩) 1 1] (W.alloc (.cells #[.string (mkS s6N)] 9)) fun e w' => e = .returned (.agg #[.int .i64 (-1), .int .i64 (-1), .int .i64 (-1), .int .i64 (-1), .int .i64 (-1), .int .i64 (-1), .bool false, .bool false, .bool false, .bool false, .bool false, .bool false, .bool false, .bool false, .bool false]) ∧ Below W.heap.size W w') := fun W => by
    have h := parse1_any s6N W (by decide)
    rw [p6N] at h; exact h
  have HE : Hid (∀ W : World, Calls Tryd.prog 22 #[.slice (some ⟨W.heap.size, 0, none⟩) 1 1] (W.alloc (.cells #[.string (mkS s3N)] 9)) fun e w' => ∃ a c, e = .returned (.tuple #[.slice a 3 c, .bool true]) ∧ IsPrs w' (.slice a 3 c) pN ∧ Below W.heap.size W w') := fun W => by
    have h := leach_any (.slice (some ⟨W.heap.size, 0, none⟩) 1 1) [s3N] (W.alloc (.cells #[.string (mkS s3N)] 9)) (isStrs_lit W [s3N] _ _ _ rfl) (by decide) (by decide) (by rw [prN]; decide)
    unfold EachedPost at h
    rw [prN] at h
    refine h.mono ?_
    rintro e w' ⟨v', rfl, ho, hb⟩
    have hi := isPrs_own ho
    obtain ⟨a, c, rfl⟩ : ∃ a c, v' = .slice a 3 c := by obtain ⟨a, c, h, -⟩ := hi; exact ⟨a, c, h⟩
    exact ⟨a, c, rfl, hi, (below_allocC W _).trans (hb.mono (by simp))⟩
  have hvc : vC cN := by have h := v_parse [s1N, s2N]; rw [p12N] at h; exact h
  have hv5 : vC ⟨-1, -1, -1, -1, -1, -1, false, true, false, false, false, false, false, false, false⟩ := by have h := v_parse [s5N]; rw [p5N] at h; exact h
  have HT0 : Hid (∀ W : World, Below w.heap.size w W → Calls Tryd.prog 23 #[.agg (ctlA noneC)] W fun e w' => e = .returned (.string { data := #[] }) ∧ Below W.heap.size W w') := fun W hb => by
    have h := ctext_any noneC W (hT.later hb) (v_i64 v_none)
    unfold StrPost at h
    rw [t0N] at h; exact h
  have HTc : Hid (∀ W : World, Below w.heap.size w W → Calls Tryd.prog 23 #[.agg (ctlA cN)] W fun e w' => e = .returned (.string { data := ([115, 45, 109, 97, 120, 97, 103, 101, 61, 48, 44, 32, 109, 97, 120, 45, 115, 116, 97, 108, 101, 44, 32, 109, 105, 110, 45, 102, 114, 101, 115, 104, 61, 55, 44, 32, 115, 116, 97, 108, 101, 45, 119, 104, 105, 108, 101, 45, 114, 101, 118, 97].append [108, 105, 100, 97, 116, 101, 61, 50, 49, 52, 55, 52, 56, 51, 54, 52, 56, 44, 32, 115, 116, 97, 108, 101, 45, 105, 102, 45, 101, 114, 114, 111, 114, 61, 48, 44, 32, 112, 117, 98, 108, 105, 99, 44, 32, 112, 114, 105, 118, 97, 116, 101]).toArray }) ∧ Below W.heap.size W w') := fun W hb => by
    have h := ctext_any cN W (hT.later hb) (v_i64 hvc)
    unfold StrPost at h
    rw [tN] at h; exact h
  have HK1 : Hid (∀ W : World, Calls Tryd.prog 24 #[.agg (ctlA cN)] W fun e w' => e = .returned (.int .i64 0) ∧ Below W.heap.size W w') := fun W => by
    have h := ccheck_any cN W
    rw [k1N] at h; exact h
  have HK2 : Hid (∀ W : World, Calls Tryd.prog 24 #[.agg (ctlA badN)] W fun e w' => e = .returned (.int .i64 2) ∧ Below W.heap.size W w') := fun W => by
    have h := ccheck_any badN W
    rw [k2N] at h; exact h
  have HJ : Hid (∀ W : World, Below w.heap.size w W → Calls Tryd.prog 26 #[.agg (ctlA cN), .agg #[.int .i64 (-1), .int .i64 (-1), .int .i64 (-1), .int .i64 (-1), .int .i64 (-1), .int .i64 (-1), .bool false, .bool true, .bool false, .bool false, .bool false, .bool false, .bool false, .bool false, .bool false]] W fun e w' => e = .returned (.agg #[.int .i64 (-1), .int .i64 0, .int .i64 2147483648, .int .i64 7, .int .i64 2147483648, .int .i64 0, .bool false, .bool true, .bool false, .bool false, .bool false, .bool false, .bool false, .bool true, .bool true]) ∧ Below W.heap.size W w') := fun W hb => by
    have h := cjoin_any cN ⟨-1, -1, -1, -1, -1, -1, false, true, false, false, false, false, false, false, false⟩ W (hT.later hb) (v_i64 hvc) (v_i64 hv5)
    rw [parse_texts cN ⟨-1, -1, -1, -1, -1, -1, false, true, false, false, false, false, false, false, false⟩ hvc hv5, show joinC cN ⟨-1, -1, -1, -1, -1, -1, false, true, false, false, false, false, false, false, false⟩ = ⟨-1, 0, 2147483648, 7, 2147483648, 0, false, true, false, false, false, false, false, true, true⟩ from ctl_ext (by decide +kernel)] at h
    exact h
  clear hvc hv5 hT
  go_enter Tryd.func4, Tryd.ntmps4
  go_wp2_with fail
  refine (HLv.out _).mono ?_
  rintro e w1 ⟨rfl, hb1⟩
  have HB1 := Lib.hid hb1
  clear hb1
  go_wp2_with fail
  refine (HP1.out w1).mono ?_
  rintro e w2 ⟨rfl, hb2⟩
  have HB2 := Lib.hid (HB1.out.trans (hb2.mono HB1.out.size))
  clear hb2
  have hx2 : Bx (w2.alloc (.cells #[.int .i64 0, .int .i64 0, .int .i64 0, .int .i64 0, .int .i64 0, .int .i64 0, .bool false, .bool false, .bool false, .bool false, .bool false, .bool false, .bool false, .bool false, .bool false] 36)) w2.heap.size 36 (ctlA zeroC) := Bx.new w2 36 (ctlA zeroC)
  have hB2 := below_setRowC (HB2.out.alloc HB2.out.size (.cells #[.int .i64 0, .int .i64 0, .int .i64 0, .int .i64 0, .int .i64 0, .int .i64 0, .bool false, .bool false, .bool false, .bool false, .bool false, .bool false, .bool false, .bool false, .bool false] 36)) (ctlA cN) HB2.out.size
  go_upto_region 4 with (refine wpListC_store_row rfl _ _ _ rfl w2.heap.size _ (ctlA zeroC) (ctlA cN) rfl rfl hx2 (ctl_size _) rfl (ctl_one _) ?_)
  have HX3 := Lib.hid (hx2.row (cs := ctlA cN))
  have HB3 := Lib.hid hB2
  generalize (w2.alloc (.cells #[.int .i64 0, .int .i64 0, .int .i64 0, .int .i64 0, .int .i64 0, .int .i64 0, .bool false, .bool false, .bool false, .bool false, .bool false, .bool false, .bool false, .bool false, .bool false] 36)).setRow w2.heap.size (ctlA cN) = w3 at *
  generalize w2.heap.size = gx at *
  clear hx2 hB2
  go_wp2_with fail
  refine (HN.out w3).mono ?_
  rintro e w4 ⟨rfl, hb4⟩
  have HB4 := Lib.hid (HB3.out.trans (hb4.mono HB3.out.size))
  have hX4 := HX3.out.later hb4
  have hxn : gx < w4.heap.size := hX4.lt
  clear hb4
  have hx4 : Bx (w4.alloc (.cells #[.int .i64 0, .int .i64 0, .int .i64 0, .int .i64 0, .int .i64 0, .int .i64 0, .bool false, .bool false, .bool false, .bool false, .bool false, .bool false, .bool false, .bool false, .bool false] 36)) w4.heap.size 36 (ctlA zeroC) := Bx.new w4 36 (ctlA zeroC)
  have hB4 := below_setRowC (HB4.out.alloc HB4.out.size (.cells #[.int .i64 0, .int .i64 0, .int .i64 0, .int .i64 0, .int .i64 0, .int .i64 0, .bool false, .bool false, .bool false, .bool false, .bool false, .bool false, .bool false, .bool false, .bool false] 36)) (ctlA noneC) HB4.out.size
  have hX5 := (hX4.later (below_setRowC (below_allocC w4 (.cells #[.int .i64 0, .int .i64 0, .int .i64 0, .int .i64 0, .int .i64 0, .int .i64 0, .bool false, .bool false, .bool false, .bool false, .bool false, .bool false, .bool false, .bool false, .bool false] 36)) (ctlA noneC) (Nat.le_refl _)))
  go_upto_region 5 with (refine wpListC_store_row rfl _ _ _ rfl w4.heap.size _ (ctlA zeroC) (ctlA noneC) rfl rfl hx4 (ctl_size _) rfl (ctl_one _) ?_)
  have HN5 := Lib.hid (hx4.row (cs := ctlA noneC))
  have HX5 := Lib.hid hX5
  have HB5 := Lib.hid hB4
  generalize (w4.alloc (.cells #[.int .i64 0, .int .i64 0, .int .i64 0, .int .i64 0, .int .i64 0, .int .i64 0, .bool false, .bool false, .bool false, .bool false, .bool false, .bool false, .bool false, .bool false, .bool false] 36)).setRow w4.heap.size (ctlA noneC) = w5 at *
  generalize w4.heap.size = gn at *
  clear hx4 hB4 hX5 hX4
  go_wp2_with fail
  refine (HE.out w5).mono ?_
  rintro e w6 ⟨aE, cE, rfl, hi6, hb6⟩
  have HB6 := Lib.hid (HB5.out.trans (hb6.mono HB5.out.size))
  have HX6 := Lib.hid (HX5.out.later hb6)
  have HN6 := Lib.hid (HN5.out.later hb6)
  have HI6 := Lib.hid hi6
  clear hb6 hi6
  have hx6 : Bx (w6.alloc (.cells #[.int .i64 0, .int .i64 0, .int .i64 0, .int .i64 0, .int .i64 0, .int .i64 0, .bool false, .bool false, .bool false, .bool false, .bool false, .bool false, .bool false, .bool false, .bool false] 36)) w6.heap.size 36 (ctlA zeroC) := Bx.new w6 36 (ctlA zeroC)
  have hbd := below_setRowC (below_allocC w6 (.cells #[.int .i64 0, .int .i64 0, .int .i64 0, .int .i64 0, .int .i64 0, .int .i64 0, .bool false, .bool false, .bool false, .bool false, .bool false, .bool false, .bool false, .bool false, .bool false] 36)) (ctlA noneC) (Nat.le_refl _)
  have hxb : gx < w6.heap.size := HX6.out.lt
  have hnb : gn < w6.heap.size := HN6.out.lt
  go_upto_region 7 with (first
    | (refine wplN_val rfl (.agg (ctlA noneC)) (exec_load_row _ _ rfl gn _ (ctlA noneC) (0, 0) _ rfl HN6.out Tryd.underlying36 rfl (ctl_size _)) ?_)
    | (refine wpListC_store_row rfl _ _ _ rfl w6.heap.size _ (ctlA zeroC) (ctlA noneC) rfl rfl hx6 (ctl_size _) rfl (ctl_one _) ?_))
  have HD7 := Lib.hid (hx6.row (cs := ctlA noneC))
  have HX7 := Lib.hid (HX6.out.later hbd)
  have HN7 := Lib.hid (HN6.out.later hbd)
  have HI7 := Lib.hid (isPrs_below HI6.out hbd)
  have HB7 := Lib.hid (HB6.out.trans (hbd.mono HB6.out.size))
  have hwb : w.heap.size ≤ w6.heap.size := HB6.out.size
  have HS7 := Lib.hid (show Below w6.heap.size w6 ((w6.alloc (.cells #[.int .i64 0, .int .i64 0, .int .i64 0, .int .i64 0, .int .i64 0, .int .i64 0, .bool false, .bool false, .bool false, .bool false, .bool false, .bool false, .bool false, .bool false, .bool false] 36)).setRow w6.heap.size (ctlA noneC)) from hbd)
  generalize (w6.alloc (.cells #[.int .i64 0, .int .i64 0, .int .i64 0, .int .i64 0, .int .i64 0, .int .i64 0, .bool false, .bool false, .bool false, .bool false, .bool false, .bool false, .bool false, .bool false, .bool false] 36)).setRow w6.heap.size (ctlA noneC) = w7 at *
  have HI8 := Lib.hid (isPrs_below HI6.out (HS7.out.setCell (p := ⟨w6.heap.size, 0, none⟩) (Nat.le_refl _) (.int .i64 (-2))))
  generalize w6.heap.size = gb at *
  clear hx6 hbd
  have hk0 := HD7.out.cell 0 _ rfl
  have hf0 := HD7.out.frozen 0
  have HD8 := Lib.hid (show Bx (w7.setCell ⟨gb, 0, none⟩ (.int .i64 (-2))) gb 36 (ctlA badN) from HD7.out.set 0 _)
  have HX8 := Lib.hid (HX7.out.grown (grown_setC w7 gb 0 (.int .i64 (-2))) (by intro e; injection e with e; omega))
  have HN8 := Lib.hid (HN7.out.grown (grown_setC w7 gb 0 (.int .i64 (-2))) (by intro e; injection e with e; omega))
  have HB8 := Lib.hid (HB7.out.setCell (p := ⟨gb, 0, none⟩) hwb (.int .i64 (-2)))
  go_upto_region 8 with fail
  clear hk0 hf0
  generalize w7.setCell ⟨gb, 0, none⟩ (.int .i64 (-2)) = w8 at *
  have HXd := Lib.hid (HX8.out.later (Below.refl _ _).drew)
  have HNd := Lib.hid (HN8.out.later (Below.refl _ _).drew)
  have HDd := Lib.hid (HD8.out.later (Below.refl _ _).drew)
  have hHeld0 : (fun Wz : World => Bx Wz gx 36 (ctlA cN) ∧ Bx Wz gn 36 (ctlA noneC) ∧ Bx Wz gb 36 (ctlA badN) ∧ IsPrs Wz (.slice aE 3 cE) pN ∧ Below w.heap.size w Wz) w8.drew := ⟨HXd.out, HNd.out, HDd.out, isPrs_below HI8.out (Below.refl _ _).drew, HB8.out.drew⟩
  clear HLv HN HP1 HE HXd HNd HDd HX8 HN8 HD8 HI8 HB8 HI6 HI7 HX6 HN6 HX7 HN7 HD7 HB7 HS7 HB6 HB5 HB4 HB3 HB2 HB1 HX3 HX5 HN5
  simp only [List.append_eq, List.cons_append, List.nil_append]
  refine wp_region_held_drew (S := (fun Wz : World => Bx Wz gx 36 (ctlA cN) ∧ Bx Wz gn 36 (ctlA noneC) ∧ Bx Wz gb 36 (ctlA badN) ∧ IsPrs Wz (.slice aE 3 cE) pN ∧ Below w.heap.size w Wz)) (by kernel_rfl) hHeld0 (fun hHeld => ?_)
  refine wpAnyH_take (i := 0) (v := .pointer (some ⟨gx, 2, none⟩)) rfl (by kernel_rfl) (by kernel_rfl) (by kernel_rfl) (fun _ _ _ h => h) (Or.inl ⟨by kernel_rfl, ?_⟩) (by assumption) ?_
  case refine_1 => (intro Wz hSw; go_simp; try with_reducible rfl)
  try simp only [Act.put, List.getElem_toArray, List.getElem_cons_zero, List.setIfInBounds_toArray, List.set_cons_zero, List.set_cons_succ]
  refine wpAnyH_take (i := 1) (v := .int .i64 2147483648) rfl (by kernel_rfl) (by kernel_rfl) (by kernel_rfl) (fun _ _ _ h => h) (Or.inl ⟨by kernel_rfl, ?_⟩) (by assumption) ?_
  case refine_1 => (intro Wz hSw; have hc : Wz.cell? ⟨gx, 2, none⟩ = some (.int .i64 2147483648) := hSw.1.cell 2 _ rfl; go_simp; try with_reducible rfl)
  try simp only [Act.put, List.getElem_toArray, List.getElem_cons_succ, List.getElem_cons_zero, List.setIfInBounds_toArray, List.set_cons_zero, List.set_cons_succ]
  refine wpAnyH_take (i := 2) (v := .bool true) rfl (by kernel_rfl) (by kernel_rfl) (by kernel_rfl) (fun _ _ _ h => h) (Or.inl ⟨by kernel_rfl, ?_⟩) (by assumption) ?_
  case refine_1 => (intro Wz hSw; go_simp; try with_reducible rfl)
  try simp only [Act.put, List.getElem_toArray, List.getElem_cons_succ, List.getElem_cons_zero, List.setIfInBounds_toArray, List.set_cons_zero, List.set_cons_succ]
  refine wpAnyH_take (i := 3) (v := .bool true) rfl (by kernel_rfl) (by kernel_rfl) (by kernel_rfl) (fun _ _ _ h => h) (Or.inl ⟨by kernel_rfl, ?_⟩) (by assumption) ?_
  case refine_1 => (intro Wz hSw; go_simp; try with_reducible rfl)
  try simp only [Act.put, List.getElem_toArray, List.getElem_cons_succ, List.getElem_cons_zero, List.setIfInBounds_toArray, List.set_cons_zero, List.set_cons_succ]
  refine wpAnyH_take (i := 4) (v := .pointer (some ⟨gx, 3, none⟩)) rfl (by kernel_rfl) (by kernel_rfl) (by kernel_rfl) (fun _ _ _ h => h) (Or.inl ⟨by kernel_rfl, ?_⟩) (by assumption) ?_
  case refine_1 => (intro Wz hSw; go_simp; try with_reducible rfl)
  try simp only [Act.put, List.getElem_toArray, List.getElem_cons_succ, List.getElem_cons_zero, List.setIfInBounds_toArray, List.set_cons_zero, List.set_cons_succ]
  refine wpAnyH_take (i := 5) (v := .int .i64 7) rfl (by kernel_rfl) (by kernel_rfl) (by kernel_rfl) (fun _ _ _ h => h) (Or.inl ⟨by kernel_rfl, ?_⟩) (by assumption) ?_
  case refine_1 => (intro Wz hSw; have hc : Wz.cell? ⟨gx, 3, none⟩ = some (.int .i64 7) := hSw.1.cell 3 _ rfl; go_simp; try with_reducible rfl)
  try simp only [Act.put, List.getElem_toArray, List.getElem_cons_succ, List.getElem_cons_zero, List.setIfInBounds_toArray, List.set_cons_zero, List.set_cons_succ]
  refine wpAnyH_take (i := 6) (v := .bool true) rfl (by kernel_rfl) (by kernel_rfl) (by kernel_rfl) (fun _ _ _ h => h) (Or.inl ⟨by kernel_rfl, ?_⟩) (by assumption) ?_
  case refine_1 => (intro Wz hSw; go_simp; try with_reducible rfl)
  try simp only [Act.put, List.getElem_toArray, List.getElem_cons_succ, List.getElem_cons_zero, List.setIfInBounds_toArray, List.set_cons_zero, List.set_cons_succ]
  refine wpAnyH_take (i := 7) (v := .bool true) rfl (by kernel_rfl) (by kernel_rfl) (by kernel_rfl) (fun _ _ _ h => h) (Or.inl ⟨by kernel_rfl, ?_⟩) (by assumption) ?_
  case refine_1 => (intro Wz hSw; go_simp; try with_reducible rfl)
  try simp only [Act.put, List.getElem_toArray, List.getElem_cons_succ, List.getElem_cons_zero, List.setIfInBounds_toArray, List.set_cons_zero, List.set_cons_succ]
  refine wpAnyH_take (i := 8) (v := .bool true) rfl (by kernel_rfl) (by kernel_rfl) (by kernel_rfl) (fun _ _ _ h => h) (Or.inl ⟨by kernel_rfl, ?_⟩) (by assumption) ?_
  case refine_1 => (intro Wz hSw; go_simp; try with_reducible rfl)
  try simp only [Act.put, List.getElem_toArray, List.getElem_cons_succ, List.getElem_cons_zero, List.setIfInBounds_toArray, List.set_cons_zero, List.set_cons_succ]
  refine wpAnyH_take (i := 9) (v := .pointer (some ⟨gx, 1, none⟩)) rfl (by kernel_rfl) (by kernel_rfl) (by kernel_rfl) (fun _ _ _ h => h) (Or.inl ⟨by kernel_rfl, ?_⟩) (by assumption) ?_
  case refine_1 => (intro Wz hSw; go_simp; try with_reducible rfl)
  try simp only [Act.put, List.getElem_toArray, List.getElem_cons_succ, List.getElem_cons_zero, List.setIfInBounds_toArray, List.set_cons_zero, List.set_cons_succ]
  refine wpAnyH_take (i := 10) (v := .int .i64 0) rfl (by kernel_rfl) (by kernel_rfl) (by kernel_rfl) (fun _ _ _ h => h) (Or.inl ⟨by kernel_rfl, ?_⟩) (by assumption) ?_
  case refine_1 => (intro Wz hSw; have hc : Wz.cell? ⟨gx, 1, none⟩ = some (.int .i64 0) := hSw.1.cell 1 _ rfl; go_simp; try with_reducible rfl)
  try simp only [Act.put, List.getElem_toArray, List.getElem_cons_succ, List.getElem_cons_zero, List.setIfInBounds_toArray, List.set_cons_zero, List.set_cons_succ]
  refine wpAnyH_take (i := 11) (v := .bool true) rfl (by kernel_rfl) (by kernel_rfl) (by kernel_rfl) (fun _ _ _ h => h) (Or.inl ⟨by kernel_rfl, ?_⟩) (by assumption) ?_
  case refine_1 => (intro Wz hSw; go_simp; try with_reducible rfl)
  try simp only [Act.put, List.getElem_toArray, List.getElem_cons_succ, List.getElem_cons_zero, List.setIfInBounds_toArray, List.set_cons_zero, List.set_cons_succ]
  refine wpAnyH_take (i := 12) (v := .bool true) rfl (by kernel_rfl) (by kernel_rfl) (by kernel_rfl) (fun _ _ _ h => h) (Or.inl ⟨by kernel_rfl, ?_⟩) (by assumption) ?_
  case refine_1 => (intro Wz hSw; go_simp; try with_reducible rfl)
  try simp only [Act.put, List.getElem_toArray, List.getElem_cons_succ, List.getElem_cons_zero, List.setIfInBounds_toArray, List.set_cons_zero, List.set_cons_succ]
  refine wpAnyH_take (i := 13) (v := .bool true) rfl (by kernel_rfl) (by kernel_rfl) (by kernel_rfl) (fun _ _ _ h => h) (Or.inl ⟨by kernel_rfl, ?_⟩) (by assumption) ?_
  case refine_1 => (intro Wz hSw; go_simp; try with_reducible rfl)
  try simp only [Act.put, List.getElem_toArray, List.getElem_cons_succ, List.getElem_cons_zero, List.setIfInBounds_toArray, List.set_cons_zero, List.set_cons_succ]
  refine wpAnyH_take (i := 14) (v := .pointer (some ⟨gx, 4, none⟩)) rfl (by kernel_rfl) (by kernel_rfl) (by kernel_rfl) (fun _ _ _ h => h) (Or.inl ⟨by kernel_rfl, ?_⟩) (by assumption) ?_
  case refine_1 => (intro Wz hSw; go_simp; try with_reducible rfl)
  try simp only [Act.put, List.getElem_toArray, List.getElem_cons_succ, List.getElem_cons_zero, List.setIfInBounds_toArray, List.set_cons_zero, List.set_cons_succ]
  refine wpAnyH_take (i := 15) (v := .int .i64 2147483648) rfl (by kernel_rfl) (by kernel_rfl) (by kernel_rfl) (fun _ _ _ h => h) (Or.inl ⟨by kernel_rfl, ?_⟩) (by assumption) ?_
  case refine_1 => (intro Wz hSw; have hc : Wz.cell? ⟨gx, 4, none⟩ = some (.int .i64 2147483648) := hSw.1.cell 4 _ rfl; go_simp; try with_reducible rfl)
  try simp only [Act.put, List.getElem_toArray, List.getElem_cons_succ, List.getElem_cons_zero, List.setIfInBounds_toArray, List.set_cons_zero, List.set_cons_succ]
  refine wpAnyH_take (i := 16) (v := .bool true) rfl (by kernel_rfl) (by kernel_rfl) (by kernel_rfl) (fun _ _ _ h => h) (Or.inl ⟨by kernel_rfl, ?_⟩) (by assumption) ?_
  case refine_1 => (intro Wz hSw; go_simp; try with_reducible rfl)
  try simp only [Act.put, List.getElem_toArray, List.getElem_cons_succ, List.getElem_cons_zero, List.setIfInBounds_toArray, List.set_cons_zero, List.set_cons_succ]
  refine wpAnyH_take (i := 17) (v := .bool true) rfl (by kernel_rfl) (by kernel_rfl) (by kernel_rfl) (fun _ _ _ h => h) (Or.inl ⟨by kernel_rfl, ?_⟩) (by assumption) ?_
  case refine_1 => (intro Wz hSw; go_simp; try with_reducible rfl)
  try simp only [Act.put, List.getElem_toArray, List.getElem_cons_succ, List.getElem_cons_zero, List.setIfInBounds_toArray, List.set_cons_zero, List.set_cons_succ]
  refine wpAnyH_take (i := 18) (v := .bool true) rfl (by kernel_rfl) (by kernel_rfl) (by kernel_rfl) (fun _ _ _ h => h) (Or.inl ⟨by kernel_rfl, ?_⟩) (by assumption) ?_
  case refine_1 => (intro Wz hSw; go_simp; try with_reducible rfl)
  try simp only [Act.put, List.getElem_toArray, List.getElem_cons_succ, List.getElem_cons_zero, List.setIfInBounds_toArray, List.set_cons_zero, List.set_cons_succ]
  refine wpAnyH_take (i := 19) (v := .pointer (some ⟨gx, 5, none⟩)) rfl (by kernel_rfl) (by kernel_rfl) (by kernel_rfl) (fun _ _ _ h => h) (Or.inl ⟨by kernel_rfl, ?_⟩) (by assumption) ?_
  case refine_1 => (intro Wz hSw; go_simp; try with_reducible rfl)
  try simp only [Act.put, List.getElem_toArray, List.getElem_cons_succ, List.getElem_cons_zero, List.setIfInBounds_toArray, List.set_cons_zero, List.set_cons_succ]
  refine wpAnyH_take (i := 20) (v := .int .i64 0) rfl (by kernel_rfl) (by kernel_rfl) (by kernel_rfl) (fun _ _ _ h => h) (Or.inl ⟨by kernel_rfl, ?_⟩) (by assumption) ?_
  case refine_1 => (intro Wz hSw; have hc : Wz.cell? ⟨gx, 5, none⟩ = some (.int .i64 0) := hSw.1.cell 5 _ rfl; go_simp; try with_reducible rfl)
  try simp only [Act.put, List.getElem_toArray, List.getElem_cons_succ, List.getElem_cons_zero, List.setIfInBounds_toArray, List.set_cons_zero, List.set_cons_succ]
  refine wpAnyH_take (i := 21) (v := .bool true) rfl (by kernel_rfl) (by kernel_rfl) (by kernel_rfl) (fun _ _ _ h => h) (Or.inl ⟨by kernel_rfl, ?_⟩) (by assumption) ?_
  case refine_1 => (intro Wz hSw; go_simp; try with_reducible rfl)
  try simp only [Act.put, List.getElem_toArray, List.getElem_cons_succ, List.getElem_cons_zero, List.setIfInBounds_toArray, List.set_cons_zero, List.set_cons_succ]
  refine wpAnyH_take (i := 22) (v := .bool true) rfl (by kernel_rfl) (by kernel_rfl) (by kernel_rfl) (fun _ _ _ h => h) (Or.inl ⟨by kernel_rfl, ?_⟩) (by assumption) ?_
  case refine_1 => (intro Wz hSw; go_simp; try with_reducible rfl)
  try simp only [Act.put, List.getElem_toArray, List.getElem_cons_succ, List.getElem_cons_zero, List.setIfInBounds_toArray, List.set_cons_zero, List.set_cons_succ]
  refine wpAnyH_take (i := 23) (v := .bool true) rfl (by kernel_rfl) (by kernel_rfl) (by kernel_rfl) (fun _ _ _ h => h) (Or.inl ⟨by kernel_rfl, ?_⟩) (by assumption) ?_
  case refine_1 => (intro Wz hSw; go_simp; try with_reducible rfl)
  try simp only [Act.put, List.getElem_toArray, List.getElem_cons_succ, List.getElem_cons_zero, List.setIfInBounds_toArray, List.set_cons_zero, List.set_cons_succ]
  refine wpAnyH_take (i := 24) (v := .pointer (some ⟨gx, 14, none⟩)) rfl (by kernel_rfl) (by kernel_rfl) (by kernel_rfl) (fun _ _ _ h => h) (Or.inl ⟨by kernel_rfl, ?_⟩) (by assumption) ?_
  case refine_1 => (intro Wz hSw; go_simp; try with_reducible rfl)
  try simp only [Act.put, List.getElem_toArray, List.getElem_cons_succ, List.getElem_cons_zero, List.setIfInBounds_toArray, List.set_cons_zero, List.set_cons_succ]
  refine wpAnyH_take (i := 25) (v := .bool true) rfl (by kernel_rfl) (by kernel_rfl) (by kernel_rfl) (fun _ _ _ h => h) (Or.inl ⟨by kernel_rfl, ?_⟩) (by assumption) ?_
  case refine_1 => (intro Wz hSw; have hc : Wz.cell? ⟨gx, 14, none⟩ = some (.bool true) := hSw.1.cell 14 _ rfl; go_simp; try with_reducible rfl)
  try simp only [Act.put, List.getElem_toArray, List.getElem_cons_succ, List.getElem_cons_zero, List.setIfInBounds_toArray, List.set_cons_zero, List.set_cons_succ]
  refine wpAnyH_take (i := 26) (v := .bool true) rfl (by kernel_rfl) (by kernel_rfl) (by kernel_rfl) (fun _ _ _ h => h) (Or.inl ⟨by kernel_rfl, ?_⟩) (by assumption) ?_
  case refine_1 => (intro Wz hSw; go_simp; try with_reducible rfl)
  try simp only [Act.put, List.getElem_toArray, List.getElem_cons_succ, List.getElem_cons_zero, List.setIfInBounds_toArray, List.set_cons_zero, List.set_cons_succ]
  refine wpAnyH_take (i := 27) (v := .bool true) rfl (by kernel_rfl) (by kernel_rfl) (by kernel_rfl) (fun _ _ _ h => h) (Or.inl ⟨by kernel_rfl, ?_⟩) (by assumption) ?_
  case refine_1 => (intro Wz hSw; go_simp; try with_reducible rfl)
  try simp only [Act.put, List.getElem_toArray, List.getElem_cons_succ, List.getElem_cons_zero, List.setIfInBounds_toArray, List.set_cons_zero, List.set_cons_succ]
  refine wpAnyH_take (i := 28) (v := .pointer (some ⟨gx, 13, none⟩)) rfl (by kernel_rfl) (by kernel_rfl) (by kernel_rfl) (fun _ _ _ h => h) (Or.inl ⟨by kernel_rfl, ?_⟩) (by assumption) ?_
  case refine_1 => (intro Wz hSw; go_simp; try with_reducible rfl)
  try simp only [Act.put, List.getElem_toArray, List.getElem_cons_succ, List.getElem_cons_zero, List.setIfInBounds_toArray, List.set_cons_zero, List.set_cons_succ]
  refine wpAnyH_take (i := 29) (v := .bool true) rfl (by kernel_rfl) (by kernel_rfl) (by kernel_rfl) (fun _ _ _ h => h) (Or.inl ⟨by kernel_rfl, ?_⟩) (by assumption) ?_
  case refine_1 => (intro Wz hSw; have hc : Wz.cell? ⟨gx, 13, none⟩ = some (.bool true) := hSw.1.cell 13 _ rfl; go_simp; try with_reducible rfl)
  try simp only [Act.put, List.getElem_toArray, List.getElem_cons_succ, List.getElem_cons_zero, List.setIfInBounds_toArray, List.set_cons_zero, List.set_cons_succ]
  refine wpAnyH_take (i := 30) (v := .bool true) rfl (by kernel_rfl) (by kernel_rfl) (by kernel_rfl) (fun _ _ _ h => h) (Or.inl ⟨by kernel_rfl, ?_⟩) (by assumption) ?_
  case refine_1 => (intro Wz hSw; go_simp; try with_reducible rfl)
  try simp only [Act.put, List.getElem_toArray, List.getElem_cons_succ, List.getElem_cons_zero, List.setIfInBounds_toArray, List.set_cons_zero, List.set_cons_succ]
  refine wpAnyH_take (i := 31) (v := .bool true) rfl (by kernel_rfl) (by kernel_rfl) (by kernel_rfl) (fun _ _ _ h => h) (Or.inl ⟨by kernel_rfl, ?_⟩) (by assumption) ?_
  case refine_1 => (intro Wz hSw; go_simp; try with_reducible rfl)
  try simp only [Act.put, List.getElem_toArray, List.getElem_cons_succ, List.getElem_cons_zero, List.setIfInBounds_toArray, List.set_cons_zero, List.set_cons_succ]
  refine wpAnyH_take (i := 32) (v := .pointer (some ⟨gx, 6, none⟩)) rfl (by kernel_rfl) (by kernel_rfl) (by kernel_rfl) (fun _ _ _ h => h) (Or.inl ⟨by kernel_rfl, ?_⟩) (by assumption) ?_
  case refine_1 => (intro Wz hSw; go_simp; try with_reducible rfl)
  try simp only [Act.put, List.getElem_toArray, List.getElem_cons_succ, List.getElem_cons_zero, List.setIfInBounds_toArray, List.set_cons_zero, List.set_cons_succ]
  refine wpAnyH_take (i := 33) (v := .bool false) rfl (by kernel_rfl) (by kernel_rfl) (by kernel_rfl) (fun _ _ _ h => h) (Or.inl ⟨by kernel_rfl, ?_⟩) (by assumption) ?_
  case refine_1 => (intro Wz hSw; have hc : Wz.cell? ⟨gx, 6, none⟩ = some (.bool false) := hSw.1.cell 6 _ rfl; go_simp; try with_reducible rfl)
  try simp only [Act.put, List.getElem_toArray, List.getElem_cons_succ, List.getElem_cons_zero, List.setIfInBounds_toArray, List.set_cons_zero, List.set_cons_succ]
  refine wpAnyH_take (i := 34) (v := .bool true) rfl (by kernel_rfl) (by kernel_rfl) (by kernel_rfl) (fun _ _ _ h => h) (Or.inl ⟨by kernel_rfl, ?_⟩) (by assumption) ?_
  case refine_1 => (intro Wz hSw; go_simp; try with_reducible rfl)
  try simp only [Act.put, List.getElem_toArray, List.getElem_cons_succ, List.getElem_cons_zero, List.setIfInBounds_toArray, List.set_cons_zero, List.set_cons_succ]
  refine wpAnyH_take (i := 35) (v := .bool true) rfl (by kernel_rfl) (by kernel_rfl) (by kernel_rfl) (fun _ _ _ h => h) (Or.inl ⟨by kernel_rfl, ?_⟩) (by assumption) ?_
  case refine_1 => (intro Wz hSw; go_simp; try with_reducible rfl)
  try simp only [Act.put, List.getElem_toArray, List.getElem_cons_succ, List.getElem_cons_zero, List.setIfInBounds_toArray, List.set_cons_zero, List.set_cons_succ]
  refine wpAnyH_take (i := 36) (v := .bool true) rfl (by kernel_rfl) (by kernel_rfl) (by kernel_rfl) (fun _ _ _ h => h) (Or.inl ⟨by kernel_rfl, ?_⟩) (by assumption) ?_
  case refine_1 => (intro Wz hSw; go_simp; try with_reducible rfl)
  try simp only [Act.put, List.getElem_toArray, List.getElem_cons_succ, List.getElem_cons_zero, List.setIfInBounds_toArray, List.set_cons_zero, List.set_cons_succ]
  refine wpAnyH_take (i := 37) (v := .pointer (some ⟨gn, 0, none⟩)) rfl (by kernel_rfl) (by kernel_rfl) (by kernel_rfl) (fun _ _ _ h => h) (Or.inl ⟨by kernel_rfl, ?_⟩) (by assumption) ?_
  case refine_1 => (intro Wz hSw; go_simp; try with_reducible rfl)
  try simp only [Act.put, List.getElem_toArray, List.getElem_cons_succ, List.getElem_cons_zero, List.setIfInBounds_toArray, List.set_cons_zero, List.set_cons_succ]
  refine wpAnyH_take (i := 38) (v := .int .i64 (-1)) rfl (by kernel_rfl) (by kernel_rfl) (by kernel_rfl) (fun _ _ _ h => h) (Or.inl ⟨by kernel_rfl, ?_⟩) (by assumption) ?_
  case refine_1 => (intro Wz hSw; have hc : Wz.cell? ⟨gn, 0, none⟩ = some (.int .i64 (-1)) := hSw.2.1.cell 0 _ rfl; go_simp; try with_reducible rfl)
  try simp only [Act.put, List.getElem_toArray, List.getElem_cons_succ, List.getElem_cons_zero, List.setIfInBounds_toArray, List.set_cons_zero, List.set_cons_succ]
  refine wpAnyH_take (i := 39) (v := .bool true) rfl (by kernel_rfl) (by kernel_rfl) (by kernel_rfl) (fun _ _ _ h => h) (Or.inl ⟨by kernel_rfl, ?_⟩) (by assumption) ?_
  case refine_1 => (intro Wz hSw; go_simp; try with_reducible rfl)
  try simp only [Act.put, List.getElem_toArray, List.getElem_cons_succ, List.getElem_cons_zero, List.setIfInBounds_toArray, List.set_cons_zero, List.set_cons_succ]
  refine wpAnyH_take (i := 40) (v := .bool true) rfl (by kernel_rfl) (by kernel_rfl) (by kernel_rfl) (fun _ _ _ h => h) (Or.inl ⟨by kernel_rfl, ?_⟩) (by assumption) ?_
  case refine_1 => (intro Wz hSw; go_simp; try with_reducible rfl)
  try simp only [Act.put, List.getElem_toArray, List.getElem_cons_succ, List.getElem_cons_zero, List.setIfInBounds_toArray, List.set_cons_zero, List.set_cons_succ]
  refine wpAnyH_take (i := 41) (v := .bool true) rfl (by kernel_rfl) (by kernel_rfl) (by kernel_rfl) (fun _ _ _ h => h) (Or.inl ⟨by kernel_rfl, ?_⟩) (by assumption) ?_
  case refine_1 => (intro Wz hSw; go_simp; try with_reducible rfl)
  try simp only [Act.put, List.getElem_toArray, List.getElem_cons_succ, List.getElem_cons_zero, List.setIfInBounds_toArray, List.set_cons_zero, List.set_cons_succ]
  refine wpAnyH_take (i := 42) (v := .agg (ctlA noneC)) rfl (by kernel_rfl) (by kernel_rfl) (by kernel_rfl) (fun _ _ _ h => h) (Or.inl ⟨by kernel_rfl, ?_⟩) (by assumption) ?_
  case refine_1 => exact fun Wz hSw => exec_load_row _ _ (by rfl) gn _ (ctlA noneC) (0, 0) _ (by rfl) hSw.2.1 Tryd.underlying36 rfl (ctl_size noneC)
  try simp only [Act.put, List.getElem_toArray, List.getElem_cons_succ, List.getElem_cons_zero, List.setIfInBounds_toArray, List.set_cons_zero, List.set_cons_succ]
  refine wpAnyH_ready (rs := [43]) (by kernel_rfl) (by simp) ?_
  refine AllReadyH.cons rfl (fun K hK => ?_) AllReadyH.nil
  go_simp
  refine (HT0.out w8.drew hHeld0.2.2.2.2).mono ?_
  rintro e z1 ⟨rfl, hbb⟩
  have hHeld1 : (fun Wz : World => Bx Wz gx 36 (ctlA cN) ∧ Bx Wz gn 36 (ctlA noneC) ∧ Bx Wz gb 36 (ctlA badN) ∧ IsPrs Wz (.slice aE 3 cE) pN ∧ Below w.heap.size w Wz) z1 := ⟨hHeld0.1.later hbb, hHeld0.2.1.later hbb, hHeld0.2.2.1.later hbb, isPrs_below hHeld0.2.2.2.1 hbb, hHeld0.2.2.2.2.trans (hbb.mono hHeld0.2.2.2.2.size)⟩
  clear hbb
  go_simp
  refine hK.out _ _ hHeld1 (fun hHeld2 => ?_)
  clear hK K hHeld2
  try simp only [Act.put, List.getElem_toArray, List.getElem_cons_succ, List.getElem_cons_zero, List.setIfInBounds_toArray, List.set_cons_zero, List.set_cons_succ]
  refine wpAnyH_take (i := 44) (v := .bool true) rfl (by kernel_rfl) (by kernel_rfl) (by kernel_rfl) (fun _ _ _ h => h) (Or.inl ⟨by kernel_rfl, ?_⟩) (by assumption) ?_
  case refine_1 => (intro Wz hSw; go_simp; try with_reducible rfl)
  try simp only [Act.put, List.getElem_toArray, List.getElem_cons_succ, List.getElem_cons_zero, List.setIfInBounds_toArray, List.set_cons_zero, List.set_cons_succ]
  refine wpAnyH_take (i := 45) (v := .bool true) rfl (by kernel_rfl) (by kernel_rfl) (by kernel_rfl) (fun _ _ _ h => h) (Or.inl ⟨by kernel_rfl, ?_⟩) (by assumption) ?_
  case refine_1 => (intro Wz hSw; go_simp; try with_reducible rfl)
  try simp only [Act.put, List.getElem_toArray, List.getElem_cons_succ, List.getElem_cons_zero, List.setIfInBounds_toArray, List.set_cons_zero, List.set_cons_succ]
  refine wpAnyH_take (i := 46) (v := .bool true) rfl (by kernel_rfl) (by kernel_rfl) (by kernel_rfl) (fun _ _ _ h => h) (Or.inl ⟨by kernel_rfl, ?_⟩) (by assumption) ?_
  case refine_1 => (intro Wz hSw; go_simp; try with_reducible rfl)
  try simp only [Act.put, List.getElem_toArray, List.getElem_cons_succ, List.getElem_cons_zero, List.setIfInBounds_toArray, List.set_cons_zero, List.set_cons_succ]
  refine wpAnyH_take (i := 47) (v := .agg (ctlA cN)) rfl (by kernel_rfl) (by kernel_rfl) (by kernel_rfl) (fun _ _ _ h => h) (Or.inl ⟨by kernel_rfl, ?_⟩) (by assumption) ?_
  case refine_1 => exact fun Wz hSw => exec_load_row _ _ (by rfl) gx _ (ctlA cN) (0, 0) _ (by rfl) hSw.1 Tryd.underlying36 rfl (ctl_size cN)
  try simp only [Act.put, List.getElem_toArray, List.getElem_cons_succ, List.getElem_cons_zero, List.setIfInBounds_toArray, List.set_cons_zero, List.set_cons_succ]
  refine wpAnyH_ready (rs := [48]) (by kernel_rfl) (by simp) ?_
  refine AllReadyH.cons rfl (fun K hK => ?_) AllReadyH.nil
  go_simp
  refine (HTc.out z1 hHeld1.2.2.2.2).mono ?_
  rintro e z2 ⟨rfl, hbb⟩
  have hHeld2 : (fun Wz : World => Bx Wz gx 36 (ctlA cN) ∧ Bx Wz gn 36 (ctlA noneC) ∧ Bx Wz gb 36 (ctlA badN) ∧ IsPrs Wz (.slice aE 3 cE) pN ∧ Below w.heap.size w Wz) z2 := ⟨hHeld1.1.later hbb, hHeld1.2.1.later hbb, hHeld1.2.2.1.later hbb, isPrs_below hHeld1.2.2.2.1 hbb, hHeld1.2.2.2.2.trans (hbb.mono hHeld1.2.2.2.2.size)⟩
  clear hbb
  go_simp
  refine hK.out _ _ hHeld2 (fun hHeld2 => ?_)
  clear hK K hHeld2
  try simp only [Act.put, List.getElem_toArray, List.getElem_cons_succ, List.getElem_cons_zero, List.setIfInBounds_toArray, List.set_cons_zero, List.set_cons_succ]
  refine wpAnyH_take (i := 49) (v := .bool true) rfl (by kernel_rfl) (by kernel_rfl) (by kernel_rfl) (fun _ _ _ h => h) (Or.inl ⟨by kernel_rfl, ?_⟩) (by assumption) ?_
  case refine_1 => (intro Wz hSw; go_simp; try with_reducible rfl)
  try simp only [Act.put, List.getElem_toArray, List.getElem_cons_succ, List.getElem_cons_zero, List.setIfInBounds_toArray, List.set_cons_zero, List.set_cons_succ]
  refine wpAnyH_take (i := 50) (v := .bool true) rfl (by kernel_rfl) (by kernel_rfl) (by kernel_rfl) (fun _ _ _ h => h) (Or.inl ⟨by kernel_rfl, ?_⟩) (by assumption) ?_
  case refine_1 => (intro Wz hSw; go_simp; try with_reducible rfl)
  try simp only [Act.put, List.getElem_toArray, List.getElem_cons_succ, List.getElem_cons_zero, List.setIfInBounds_toArray, List.set_cons_zero, List.set_cons_succ]
  refine wpAnyH_take (i := 51) (v := .bool true) rfl (by kernel_rfl) (by kernel_rfl) (by kernel_rfl) (fun _ _ _ h => h) (Or.inl ⟨by kernel_rfl, ?_⟩) (by assumption) ?_
  case refine_1 => (intro Wz hSw; go_simp; try with_reducible rfl)
  try simp only [Act.put, List.getElem_toArray, List.getElem_cons_succ, List.getElem_cons_zero, List.setIfInBounds_toArray, List.set_cons_zero, List.set_cons_succ]
  refine wpAnyH_take (i := 52) (v := .agg (ctlA cN)) rfl (by kernel_rfl) (by kernel_rfl) (by kernel_rfl) (fun _ _ _ h => h) (Or.inl ⟨by kernel_rfl, ?_⟩) (by assumption) ?_
  case refine_1 => exact fun Wz hSw => exec_load_row _ _ (by rfl) gx _ (ctlA cN) (0, 0) _ (by rfl) hSw.1 Tryd.underlying36 rfl (ctl_size cN)
  try simp only [Act.put, List.getElem_toArray, List.getElem_cons_succ, List.getElem_cons_zero, List.setIfInBounds_toArray, List.set_cons_zero, List.set_cons_succ]
  refine wpAnyH_ready (rs := [53]) (by kernel_rfl) (by simp) ?_
  refine AllReadyH.cons rfl (fun K hK => ?_) AllReadyH.nil
  go_simp
  refine (HK1.out z2).mono ?_
  rintro e z3 ⟨rfl, hbb⟩
  have hHeld3 : (fun Wz : World => Bx Wz gx 36 (ctlA cN) ∧ Bx Wz gn 36 (ctlA noneC) ∧ Bx Wz gb 36 (ctlA badN) ∧ IsPrs Wz (.slice aE 3 cE) pN ∧ Below w.heap.size w Wz) z3 := ⟨hHeld2.1.later hbb, hHeld2.2.1.later hbb, hHeld2.2.2.1.later hbb, isPrs_below hHeld2.2.2.2.1 hbb, hHeld2.2.2.2.2.trans (hbb.mono hHeld2.2.2.2.2.size)⟩
  clear hbb
  go_simp
  refine hK.out _ _ hHeld3 (fun hHeld2 => ?_)
  clear hK K hHeld2
  try simp only [Act.put, List.getElem_toArray, List.getElem_cons_succ, List.getElem_cons_zero, List.setIfInBounds_toArray, List.set_cons_zero, List.set_cons_succ]
  refine wpAnyH_take (i := 54) (v := .bool true) rfl (by kernel_rfl) (by kernel_rfl) (by kernel_rfl) (fun _ _ _ h => h) (Or.inl ⟨by kernel_rfl, ?_⟩) (by assumption) ?_
  case refine_1 => (intro Wz hSw; go_simp; try with_reducible rfl)
  try simp only [Act.put, List.getElem_toArray, List.getElem_cons_succ, List.getElem_cons_zero, List.setIfInBounds_toArray, List.set_cons_zero, List.set_cons_succ]
  refine wpAnyH_take (i := 55) (v := .bool true) rfl (by kernel_rfl) (by kernel_rfl) (by kernel_rfl) (fun _ _ _ h => h) (Or.inl ⟨by kernel_rfl, ?_⟩) (by assumption) ?_
  case refine_1 => (intro Wz hSw; go_simp; try with_reducible rfl)
  try simp only [Act.put, List.getElem_toArray, List.getElem_cons_succ, List.getElem_cons_zero, List.setIfInBounds_toArray, List.set_cons_zero, List.set_cons_succ]
  refine wpAnyH_take (i := 56) (v := .bool true) rfl (by kernel_rfl) (by kernel_rfl) (by kernel_rfl) (fun _ _ _ h => h) (Or.inl ⟨by kernel_rfl, ?_⟩) (by assumption) ?_
  case refine_1 => (intro Wz hSw; go_simp; try with_reducible rfl)
  try simp only [Act.put, List.getElem_toArray, List.getElem_cons_succ, List.getElem_cons_zero, List.setIfInBounds_toArray, List.set_cons_zero, List.set_cons_succ]
  refine wpAnyH_take (i := 57) (v := .agg (ctlA badN)) rfl (by kernel_rfl) (by kernel_rfl) (by kernel_rfl) (fun _ _ _ h => h) (Or.inl ⟨by kernel_rfl, ?_⟩) (by assumption) ?_
  case refine_1 => exact fun Wz hSw => exec_load_row _ _ (by rfl) gb _ (ctlA badN) (0, 0) _ (by rfl) hSw.2.2.1 Tryd.underlying36 rfl (ctl_size badN)
  try simp only [Act.put, List.getElem_toArray, List.getElem_cons_succ, List.getElem_cons_zero, List.setIfInBounds_toArray, List.set_cons_zero, List.set_cons_succ]
  refine wpAnyH_ready (rs := [58]) (by kernel_rfl) (by simp) ?_
  refine AllReadyH.cons rfl (fun K hK => ?_) AllReadyH.nil
  go_simp
  refine (HK2.out z3).mono ?_
  rintro e z4 ⟨rfl, hbb⟩
  have hHeld4 : (fun Wz : World => Bx Wz gx 36 (ctlA cN) ∧ Bx Wz gn 36 (ctlA noneC) ∧ Bx Wz gb 36 (ctlA badN) ∧ IsPrs Wz (.slice aE 3 cE) pN ∧ Below w.heap.size w Wz) z4 := ⟨hHeld3.1.later hbb, hHeld3.2.1.later hbb, hHeld3.2.2.1.later hbb, isPrs_below hHeld3.2.2.2.1 hbb, hHeld3.2.2.2.2.trans (hbb.mono hHeld3.2.2.2.2.size)⟩
  clear hbb
  go_simp
  refine hK.out _ _ hHeld4 (fun hHeld2 => ?_)
  clear hK K hHeld2
  try simp only [Act.put, List.getElem_toArray, List.getElem_cons_succ, List.getElem_cons_zero, List.setIfInBounds_toArray, List.set_cons_zero, List.set_cons_succ]
  refine wpAnyH_take (i := 59) (v := .bool true) rfl (by kernel_rfl) (by kernel_rfl) (by kernel_rfl) (fun _ _ _ h => h) (Or.inl ⟨by kernel_rfl, ?_⟩) (by assumption) ?_
  case refine_1 => (intro Wz hSw; go_simp; try with_reducible rfl)
  try simp only [Act.put, List.getElem_toArray, List.getElem_cons_succ, List.getElem_cons_zero, List.setIfInBounds_toArray, List.set_cons_zero, List.set_cons_succ]
  refine wpAnyH_take (i := 60) (v := .bool true) rfl (by kernel_rfl) (by kernel_rfl) (by kernel_rfl) (fun _ _ _ h => h) (Or.inl ⟨by kernel_rfl, ?_⟩) (by assumption) ?_
  case refine_1 => (intro Wz hSw; go_simp; try with_reducible rfl)
  try simp only [Act.put, List.getElem_toArray, List.getElem_cons_succ, List.getElem_cons_zero, List.setIfInBounds_toArray, List.set_cons_zero, List.set_cons_succ]
  refine wpAnyH_take (i := 61) (v := .bool true) rfl (by kernel_rfl) (by kernel_rfl) (by kernel_rfl) (fun _ _ _ h => h) (Or.inl ⟨by kernel_rfl, ?_⟩) (by assumption) ?_
  case refine_1 => (intro Wz hSw; go_simp; try with_reducible rfl)
  try simp only [Act.put, List.getElem_toArray, List.getElem_cons_succ, List.getElem_cons_zero, List.setIfInBounds_toArray, List.set_cons_zero, List.set_cons_succ]
  refine wpAnyH_take (i := 62) (v := .bool true) rfl (by kernel_rfl) (by kernel_rfl) (by kernel_rfl) (fun _ _ _ h => h) (Or.inl ⟨by kernel_rfl, ?_⟩) (by assumption) ?_
  case refine_1 => (intro Wz hSw; go_simp; try with_reducible rfl)
  try simp only [Act.put, List.getElem_toArray, List.getElem_cons_succ, List.getElem_cons_zero, List.setIfInBounds_toArray, List.set_cons_zero, List.set_cons_succ]
  refine wpAnyH_take (i := 63) (v := .bool true) rfl (by kernel_rfl) (by kernel_rfl) (by kernel_rfl) (fun _ _ _ h => h) (Or.inl ⟨by kernel_rfl, ?_⟩) (by assumption) ?_
  case refine_1 => (intro Wz hSw; go_simp; try with_reducible rfl)
  try simp only [Act.put, List.getElem_toArray, List.getElem_cons_succ, List.getElem_cons_zero, List.setIfInBounds_toArray, List.set_cons_zero, List.set_cons_succ]
  refine wpAnyH_take (i := 64) (v := .bool true) rfl (by kernel_rfl) (by kernel_rfl) (by kernel_rfl) (fun _ _ _ h => h) (Or.inl ⟨by kernel_rfl, ?_⟩) (by assumption) ?_
  case refine_1 => (intro Wz hSw; go_simp; try with_reducible rfl)
  try simp only [Act.put, List.getElem_toArray, List.getElem_cons_succ, List.getElem_cons_zero, List.setIfInBounds_toArray, List.set_cons_zero, List.set_cons_succ]
  refine wpAnyH_take (i := 65) (v := .slice aE 3 cE) rfl (by kernel_rfl) (by kernel_rfl) (by kernel_rfl) (fun _ _ _ h => h) (Or.inl ⟨by kernel_rfl, ?_⟩) (by assumption) ?_
  case refine_1 => (intro Wz hSw; go_simp; try with_reducible rfl)
  try simp only [Act.put, List.getElem_toArray, List.getElem_cons_succ, List.getElem_cons_zero, List.setIfInBounds_toArray, List.set_cons_zero, List.set_cons_succ]
  refine wpAnyH_take (i := 66) (v := ?_) rfl (by kernel_rfl) (by kernel_rfl) (by kernel_rfl) (fun _ _ _ h => h) (Or.inl ⟨by kernel_rfl, ?_⟩) (by assumption) ?_
  case refine_2 => (intro Wz hSw; go_simp; try with_reducible rfl)
  try simp only [Act.put, List.getElem_toArray, List.getElem_cons_succ, List.getElem_cons_zero, List.setIfInBounds_toArray, List.set_cons_zero, List.set_cons_succ]
  refine wpAnyH_take (i := 67) (v := ?_) rfl (by kernel_rfl) (by kernel_rfl) (by kernel_rfl) (fun _ _ _ h => h) (Or.inl ⟨by kernel_rfl, ?_⟩) (by assumption) ?_
  case refine_2 => (intro Wz hSw; go_simp; try with_reducible rfl)
  try simp only [Act.put, List.getElem_toArray, List.getElem_cons_succ, List.getElem_cons_zero, List.setIfInBounds_toArray, List.set_cons_zero, List.set_cons_succ]
  refine wpAnyH_take (i := 68) (v := ?_) rfl (by kernel_rfl) (by kernel_rfl) (by kernel_rfl) (fun _ _ _ h => h) (Or.inl ⟨by kernel_rfl, ?_⟩) (by assumption) ?_
  case refine_2 => (intro Wz hSw; go_simp; try with_reducible rfl)
  try simp only [Act.put, List.getElem_toArray, List.getElem_cons_succ, List.getElem_cons_zero, List.setIfInBounds_toArray, List.set_cons_zero, List.set_cons_succ]
  refine wpAnyH_ready (rs := [69]) (by kernel_rfl) (by simp) ?_
  refine AllReadyH.cons rfl (fun K hK => ?_) AllReadyH.nil
  go_simp
  have hbb := below_allocC z4 (Obj.cells #[.string (mkS [97]), .string (mkS [120, 32, 121]), .string (mkS [98]), .string (mkS []), .string (mkS [100]), .string (mkS [])] 46)
  have hHeld5 : (fun Wz : World => Bx Wz gx 36 (ctlA cN) ∧ Bx Wz gn 36 (ctlA noneC) ∧ Bx Wz gb 36 (ctlA badN) ∧ IsPrs Wz (.slice aE 3 cE) pN ∧ Below w.heap.size w Wz) (z4.alloc (Obj.cells #[.string (mkS [97]), .string (mkS [120, 32, 121]), .string (mkS [98]), .string (mkS []), .string (mkS [100]), .string (mkS [])] 46)) := ⟨hHeld4.1.later hbb, hHeld4.2.1.later hbb, hHeld4.2.2.1.later hbb, isPrs_below hHeld4.2.2.2.1 hbb, hHeld4.2.2.2.2.trans (hbb.mono hHeld4.2.2.2.2.size)⟩
  clear hbb
  refine hK.out _ _ hHeld5 (fun hHeld2 => ?_)
  clear hK K hHeld2
  try simp only [Act.put, List.getElem_toArray, List.getElem_cons_succ, List.getElem_cons_zero, List.setIfInBounds_toArray, List.set_cons_zero, List.set_cons_succ]
  refine wpAnyH_ready (rs := [70]) (by kernel_rfl) (by simp) ?_
  refine AllReadyH.cons rfl (fun K hK => ?_) AllReadyH.nil
  go_simp
  refine (psame_self _ _ pN _ hHeld5.2.2.2.1 (isPrs_litN z4 pN _ rfl (by decide) rfl) (by decide)).mono ?_
  rintro e z6 ⟨rfl, hbb⟩
  have hHeld6 : (fun Wz : World => Bx Wz gx 36 (ctlA cN) ∧ Bx Wz gn 36 (ctlA noneC) ∧ Bx Wz gb 36 (ctlA badN) ∧ IsPrs Wz (.slice aE 3 cE) pN ∧ Below w.heap.size w Wz) z6 := ⟨hHeld5.1.later hbb, hHeld5.2.1.later hbb, hHeld5.2.2.1.later hbb, isPrs_below hHeld5.2.2.2.1 hbb, hHeld5.2.2.2.2.trans (hbb.mono hHeld5.2.2.2.2.size)⟩
  clear hbb
  go_simp
  refine hK.out _ _ hHeld6 (fun hHeld2 => ?_)
  clear hK K hHeld2
  try simp only [Act.put, List.getElem_toArray, List.getElem_cons_succ, List.getElem_cons_zero, List.setIfInBounds_toArray, List.set_cons_zero, List.set_cons_succ]
  refine wpAnyH_take (i := 71) (v := .bool true) rfl (by kernel_rfl) (by kernel_rfl) (by kernel_rfl) (fun _ _ _ h => h) (Or.inl ⟨by kernel_rfl, ?_⟩) (by assumption) ?_
  case refine_1 => (intro Wz hSw; go_simp; try with_reducible rfl)
  try simp only [Act.put, List.getElem_toArray, List.getElem_cons_succ, List.getElem_cons_zero, List.setIfInBounds_toArray, List.set_cons_zero, List.set_cons_succ]
  refine wpAnyH_take (i := 72) (v := .bool true) rfl (by kernel_rfl) (by kernel_rfl) (by kernel_rfl) (fun _ _ _ h => h) (Or.inl ⟨by kernel_rfl, ?_⟩) (by assumption) ?_
  case refine_1 => (intro Wz hSw; go_simp; try with_reducible rfl)
  try simp only [Act.put, List.getElem_toArray, List.getElem_cons_succ, List.getElem_cons_zero, List.setIfInBounds_toArray, List.set_cons_zero, List.set_cons_succ]
  refine wpAnyH_ready (rs := [73]) (by kernel_rfl) (by simp) ?_
  refine AllReadyH.cons rfl (fun K hK => ?_) AllReadyH.nil
  go_simp
  have hbb := below_allocC z6 (Obj.cells #[.string (mkS s4N)] 9)
  have hHeld7 : (fun Wz : World => Bx Wz gx 36 (ctlA cN) ∧ Bx Wz gn 36 (ctlA noneC) ∧ Bx Wz gb 36 (ctlA badN) ∧ IsPrs Wz (.slice aE 3 cE) pN ∧ Below w.heap.size w Wz) (z6.alloc (Obj.cells #[.string (mkS s4N)] 9)) := ⟨hHeld6.1.later hbb, hHeld6.2.1.later hbb, hHeld6.2.2.1.later hbb, isPrs_below hHeld6.2.2.2.1 hbb, hHeld6.2.2.2.2.trans (hbb.mono hHeld6.2.2.2.2.size)⟩
  clear hbb
  refine hK.out _ _ hHeld7 (fun hHeld2 => ?_)
  clear hK K hHeld2
  try simp only [Act.put, List.getElem_toArray, List.getElem_cons_succ, List.getElem_cons_zero, List.setIfInBounds_toArray, List.set_cons_zero, List.set_cons_succ]
  refine wpAnyH_ready (rs := [74]) (by kernel_rfl) (by simp) ?_
  refine AllReadyH.cons rfl (fun K hK => ?_) AllReadyH.nil
  go_simp
  refine (HP4.out z6).mono ?_
  rintro e z8 ⟨rfl, hbb⟩
  have hHeld8 : (fun Wz : World => Bx Wz gx 36 (ctlA cN) ∧ Bx Wz gn 36 (ctlA noneC) ∧ Bx Wz gb 36 (ctlA badN) ∧ IsPrs Wz (.slice aE 3 cE) pN ∧ Below w.heap.size w Wz) z8 := ⟨hHeld6.1.later hbb, hHeld6.2.1.later hbb, hHeld6.2.2.1.later hbb, isPrs_below hHeld6.2.2.2.1 hbb, hHeld6.2.2.2.2.trans (hbb.mono hHeld6.2.2.2.2.size)⟩
  clear hbb
  go_simp
  refine hK.out _ _ hHeld8 (fun hHeld2 => ?_)
  clear hK K hHeld2
  try simp only [Act.put, List.getElem_toArray, List.getElem_cons_succ, List.getElem_cons_zero, List.setIfInBounds_toArray, List.set_cons_zero, List.set_cons_succ]
  refine wpAnyH_take (i := 75) (v := .int .i64 9) rfl (by kernel_rfl) (by kernel_rfl) (by kernel_rfl) (fun _ _ _ h => h) (Or.inl ⟨by kernel_rfl, ?_⟩) (by assumption) ?_
  case refine_1 => (intro Wz hSw; have hf := field2N Wz #[.int .i64 (-1), .int .i64 (-1), .int .i64 9, .int .i64 (-1), .int .i64 (-1), .int .i64 (-1), .bool false, .bool false, .bool false, .bool false, .bool false, .bool false, .bool false, .bool false, .bool false] (.int .i64 9) rfl; go_simp; try with_reducible rfl)
  try simp only [Act.put, List.getElem_toArray, List.getElem_cons_succ, List.getElem_cons_zero, List.setIfInBounds_toArray, List.set_cons_zero, List.set_cons_succ]
  refine wpAnyH_take (i := 76) (v := .bool true) rfl (by kernel_rfl) (by kernel_rfl) (by kernel_rfl) (fun _ _ _ h => h) (Or.inl ⟨by kernel_rfl, ?_⟩) (by assumption) ?_
  case refine_1 => (intro Wz hSw; go_simp; try with_reducible rfl)
  try simp only [Act.put, List.getElem_toArray, List.getElem_cons_succ, List.getElem_cons_zero, List.setIfInBounds_toArray, List.set_cons_zero, List.set_cons_succ]
  refine wpAnyH_take (i := 77) (v := .bool true) rfl (by kernel_rfl) (by kernel_rfl) (by kernel_rfl) (fun _ _ _ h => h) (Or.inl ⟨by kernel_rfl, ?_⟩) (by assumption) ?_
  case refine_1 => (intro Wz hSw; go_simp; try with_reducible rfl)
  try simp only [Act.put, List.getElem_toArray, List.getElem_cons_succ, List.getElem_cons_zero, List.setIfInBounds_toArray, List.set_cons_zero, List.set_cons_succ]
  refine wpAnyH_take (i := 78) (v := .bool true) rfl (by kernel_rfl) (by kernel_rfl) (by kernel_rfl) (fun _ _ _ h => h) (Or.inl ⟨by kernel_rfl, ?_⟩) (by assumption) ?_
  case refine_1 => (intro Wz hSw; go_simp; try with_reducible rfl)
  try simp only [Act.put, List.getElem_toArray, List.getElem_cons_succ, List.getElem_cons_zero, List.setIfInBounds_toArray, List.set_cons_zero, List.set_cons_succ]
  refine wpAnyH_take (i := 79) (v := .agg (ctlA cN)) rfl (by kernel_rfl) (by kernel_rfl) (by kernel_rfl) (fun _ _ _ h => h) (Or.inl ⟨by kernel_rfl, ?_⟩) (by assumption) ?_
  case refine_1 => exact fun Wz hSw => exec_load_row _ _ (by rfl) gx _ (ctlA cN) (0, 0) _ (by rfl) hSw.1 Tryd.underlying36 rfl (ctl_size cN)
  try simp only [Act.put, List.getElem_toArray, List.getElem_cons_succ, List.getElem_cons_zero, List.setIfInBounds_toArray, List.set_cons_zero, List.set_cons_succ]
  as_aux_lemma =>
    refine wpAnyH_ready (rs := [80]) (by kernel_rfl) (by simp) ?_
    refine AllReadyH.cons rfl (fun K hK => ?_) AllReadyH.nil
    go_simp
    have hbb := below_allocC z8 (Obj.cells #[.string (mkS s5N)] 9)
    have hHeld9 : (fun Wz : World => Bx Wz gx 36 (ctlA cN) ∧ Bx Wz gn 36 (ctlA noneC) ∧ Bx Wz gb 36 (ctlA badN) ∧ IsPrs Wz (.slice aE 3 cE) pN ∧ Below w.heap.size w Wz) (z8.alloc (Obj.cells #[.string (mkS s5N)] 9)) := ⟨hHeld8.1.later hbb, hHeld8.2.1.later hbb, hHeld8.2.2.1.later hbb, isPrs_below hHeld8.2.2.2.1 hbb, hHeld8.2.2.2.2.trans (hbb.mono hHeld8.2.2.2.2.size)⟩
    clear hbb
    refine hK.out _ _ hHeld9 (fun hHeld2 => ?_)
    clear hK K hHeld2
    try simp only [Act.put, List.getElem_toArray, List.getElem_cons_succ, List.getElem_cons_zero, List.setIfInBounds_toArray, List.set_cons_zero, List.set_cons_succ]
    refine wpAnyH_ready (rs := [81]) (by kernel_rfl) (by simp) ?_
    refine AllReadyH.cons rfl (fun K hK => ?_) AllReadyH.nil
    go_simp
    refine (HP5.out z8).mono ?_
    rintro e z10 ⟨rfl, hbb⟩
    have hHeld10 : (fun Wz : World => Bx Wz gx 36 (ctlA cN) ∧ Bx Wz gn 36 (ctlA noneC) ∧ Bx Wz gb 36 (ctlA badN) ∧ IsPrs Wz (.slice aE 3 cE) pN ∧ Below w.heap.size w Wz) z10 := ⟨hHeld8.1.later hbb, hHeld8.2.1.later hbb, hHeld8.2.2.1.later hbb, isPrs_below hHeld8.2.2.2.1 hbb, hHeld8.2.2.2.2.trans (hbb.mono hHeld8.2.2.2.2.size)⟩
    clear hbb
    go_simp
    refine hK.out _ _ hHeld10 (fun hHeld2 => ?_)
    clear hK K hHeld2
    try simp only [Act.put, List.getElem_toArray, List.getElem_cons_succ, List.getElem_cons_zero, List.setIfInBounds_toArray, List.set_cons_zero, List.set_cons_succ]
    refine wpAnyH_ready (rs := [82]) (by kernel_rfl) (by simp) ?_
    refine AllReadyH.cons rfl (fun K hK => ?_) AllReadyH.nil
    go_simp
    refine (HJ.out z10 hHeld10.2.2.2.2).mono ?_
    rintro e z11 ⟨rfl, hbb⟩
    have hHeld11 : (fun Wz : World => Bx Wz gx 36 (ctlA cN) ∧ Bx Wz gn 36 (ctlA noneC) ∧ Bx Wz gb 36 (ctlA badN) ∧ IsPrs Wz (.slice aE 3 cE) pN ∧ Below w.heap.size w Wz) z11 := ⟨hHeld10.1.later hbb, hHeld10.2.1.later hbb, hHeld10.2.2.1.later hbb, isPrs_below hHeld10.2.2.2.1 hbb, hHeld10.2.2.2.2.trans (hbb.mono hHeld10.2.2.2.2.size)⟩
    clear hbb
    go_simp
    refine hK.out _ _ hHeld11 (fun hHeld2 => ?_)
    clear hK K hHeld2
    try simp only [Act.put, List.getElem_toArray, List.getElem_cons_succ, List.getElem_cons_zero, List.setIfInBounds_toArray, List.set_cons_zero, List.set_cons_succ]
    refine wpAnyH_take (i := 83) (v := .bool true) rfl (by kernel_rfl) (by kernel_rfl) (by kernel_rfl) (fun _ _ _ h => h) (Or.inl ⟨by kernel_rfl, ?_⟩) (by assumption) ?_
    case refine_1 => (intro Wz hSw; have hf := field7N Wz #[.int .i64 (-1), .int .i64 0, .int .i64 2147483648, .int .i64 7, .int .i64 2147483648, .int .i64 0, .bool false, .bool true, .bool false, .bool false, .bool false, .bool false, .bool false, .bool true, .bool true] (.bool true) rfl; go_simp; try with_reducible rfl)
    try simp only [Act.put, List.getElem_toArray, List.getElem_cons_succ, List.getElem_cons_zero, List.setIfInBounds_toArray, List.set_cons_zero, List.set_cons_succ]
    refine wpAnyH_take (i := 84) (v := .bool true) rfl (by kernel_rfl) (by kernel_rfl) (by kernel_rfl) (fun _ _ _ h => h) (Or.inl ⟨by kernel_rfl, ?_⟩) (by assumption) ?_
    case refine_1 => (intro Wz hSw; go_simp; try with_reducible rfl)
    try simp only [Act.put, List.getElem_toArray, List.getElem_cons_succ, List.getElem_cons_zero, List.setIfInBounds_toArray, List.set_cons_zero, List.set_cons_succ]
    refine wpAnyH_take (i := 85) (v := .bool true) rfl (by kernel_rfl) (by kernel_rfl) (by kernel_rfl) (fun _ _ _ h => h) (Or.inl ⟨by kernel_rfl, ?_⟩) (by assumption) ?_
    case refine_1 => (intro Wz hSw; go_simp; try with_reducible rfl)
    try simp only [Act.put, List.getElem_toArray, List.getElem_cons_succ, List.getElem_cons_zero, List.setIfInBounds_toArray, List.set_cons_zero, List.set_cons_succ]
    refine wpAnyH_ready (rs := [86]) (by kernel_rfl) (by simp) ?_
    refine AllReadyH.cons rfl (fun K hK => ?_) AllReadyH.nil
    go_simp
    have hbb := below_allocC z11 (Obj.cells #[.string (mkS s6N)] 9)
    have hHeld12 : (fun Wz : World => Bx Wz gx 36 (ctlA cN) ∧ Bx Wz gn 36 (ctlA noneC) ∧ Bx Wz gb 36 (ctlA badN) ∧ IsPrs Wz (.slice aE 3 cE) pN ∧ Below w.heap.size w Wz) (z11.alloc (Obj.cells #[.string (mkS s6N)] 9)) := ⟨hHeld11.1.later hbb, hHeld11.2.1.later hbb, hHeld11.2.2.1.later hbb, isPrs_below hHeld11.2.2.2.1 hbb, hHeld11.2.2.2.2.trans (hbb.mono hHeld11.2.2.2.2.size)⟩
    clear hbb
    refine hK.out _ _ hHeld12 (fun hHeld2 => ?_)
    clear hK K hHeld2
    try simp only [Act.put, List.getElem_toArray, List.getElem_cons_succ, List.getElem_cons_zero, List.setIfInBounds_toArray, List.set_cons_zero, List.set_cons_succ]
    refine wpAnyH_ready (rs := [87]) (by kernel_rfl) (by simp) ?_
    refine AllReadyH.cons rfl (fun K hK => ?_) AllReadyH.nil
    go_simp
    refine (HP6.out z11).mono ?_
    rintro e z13 ⟨rfl, hbb⟩
    have hHeld13 : (fun Wz : World => Bx Wz gx 36 (ctlA cN) ∧ Bx Wz gn 36 (ctlA noneC) ∧ Bx Wz gb 36 (ctlA badN) ∧ IsPrs Wz (.slice aE 3 cE) pN ∧ Below w.heap.size w Wz) z13 := ⟨hHeld11.1.later hbb, hHeld11.2.1.later hbb, hHeld11.2.2.1.later hbb, isPrs_below hHeld11.2.2.2.1 hbb, hHeld11.2.2.2.2.trans (hbb.mono hHeld11.2.2.2.2.size)⟩
    clear hbb
    go_simp
    refine hK.out _ _ hHeld13 (fun hHeld2 => ?_)
    clear hK K hHeld2
    try simp only [Act.put, List.getElem_toArray, List.getElem_cons_succ, List.getElem_cons_zero, List.setIfInBounds_toArray, List.set_cons_zero, List.set_cons_succ]
    refine wpAnyH_take (i := 88) (v := .int .i64 (-1)) rfl (by kernel_rfl) (by kernel_rfl) (by kernel_rfl) (fun _ _ _ h => h) (Or.inl ⟨by kernel_rfl, ?_⟩) (by assumption) ?_
    case refine_1 => (intro Wz hSw; have hf := field3N Wz #[.int .i64 (-1), .int .i64 (-1), .int .i64 (-1), .int .i64 (-1), .int .i64 (-1), .int .i64 (-1), .bool false, .bool false, .bool false, .bool false, .bool false, .bool false, .bool false, .bool false, .bool false] (.int .i64 (-1)) rfl; go_simp; try with_reducible rfl)
    try simp only [Act.put, List.getElem_toArray, List.getElem_cons_succ, List.getElem_cons_zero, List.setIfInBounds_toArray, List.set_cons_zero, List.set_cons_succ]
    refine wpAnyH_take (i := 89) (v := .bool true) rfl (by kernel_rfl) (by kernel_rfl) (by kernel_rfl) (fun _ _ _ h => h) (Or.inl ⟨by kernel_rfl, ?_⟩) (by assumption) ?_
    case refine_1 => (intro Wz hSw; go_simp; try with_reducible rfl)
    try simp only [Act.put, List.getElem_toArray, List.getElem_cons_succ, List.getElem_cons_zero, List.setIfInBounds_toArray, List.set_cons_zero, List.set_cons_succ]
    refine wpAnyH_take (i := 90) (v := .bool true) rfl (by kernel_rfl) (by kernel_rfl) (by kernel_rfl) (fun _ _ _ h => h) (Or.inl ⟨by kernel_rfl, ?_⟩) (by assumption) ?_
    case refine_1 => (intro Wz hSw; go_simp; try with_reducible rfl)
    try simp only [Act.put, List.getElem_toArray, List.getElem_cons_succ, List.getElem_cons_zero, List.setIfInBounds_toArray, List.set_cons_zero, List.set_cons_succ]
    refine wpAnyH_take (i := 91) (v := .bool true) rfl (by kernel_rfl) (by kernel_rfl) (by kernel_rfl) (fun _ _ _ h => h) (Or.inl ⟨by kernel_rfl, ?_⟩) (by assumption) ?_
    case refine_1 => (intro Wz hSw; go_simp; try with_reducible rfl)
    try simp only [Act.put, List.getElem_toArray, List.getElem_cons_succ, List.getElem_cons_zero, List.setIfInBounds_toArray, List.set_cons_zero]
    refine wpAnyH_done (by kernel_rfl) ?_ _
    go_wp2_with fail
    go_ret
    exact ⟨rfl, hHeld13.2.2.2.2⟩
end Tk
end Go.Proofs.YtdmjpfmjfffmiaaDoor
