/- CtF Join, put together. -/
import Derived.Test.YtnbipbeeengiaaaGreatDoorQG
import Derived.Test.YtnbipbeeengiaaaGreatDoorQF
import Derived.Laws.AppendOwnNone
import Derived.BigFrame
namespace Go.Proofs.YtnbipbeeengiaaaGreatDoor
open Go.RowKit
namespace Tk

def numsL (c : Ctl) : List (Bs × Int) := [(dn0, c.a0), (dn1, c.a1), (dn2, c.a2), (dn3, c.a3), (dn4, c.a4), (dn5, c.a5)]
def flagsL (c : Ctl) : List (Bs × Bool) := [(dn6, c.b0), (dn7, c.b1), (dn8, c.b2), (dn9, c.b3), (dn10, c.b4), (dn11, c.b5), (dn12, c.b6), (dn13, c.b7), (dn14, c.b8)]
def numA (c : Ctl) : Array Value := #[.string (mkS dn0), .int .i64 c.a0, .string (mkS dn1), .int .i64 c.a1, .string (mkS dn2), .int .i64 c.a2, .string (mkS dn3), .int .i64 c.a3, .string (mkS dn4), .int .i64 c.a4, .string (mkS dn5), .int .i64 c.a5]
def flgA (c : Ctl) : Array Value := #[.string (mkS dn6), .bool c.b0, .string (mkS dn7), .bool c.b1, .string (mkS dn8), .bool c.b2, .string (mkS dn9), .bool c.b3, .string (mkS dn10), .bool c.b4, .string (mkS dn11), .bool c.b5, .string (mkS dn12), .bool c.b6, .string (mkS dn13), .bool c.b7, .string (mkS dn14), .bool c.b8]

set_option maxHeartbeats 4000000 in
set_option maxRecDepth 100000 in
theorem numbers_any (c : Ctl) (w : World) : Calls Tryz.prog 70 #[.agg (ctlA c)] w fun e w' => e = .returned (.agg (numA c)) ∧ Below w.heap.size w w' := by
  have hb := ((Below.refl w.heap.size w).alloc (Nat.le_refl _) (.cells (ctlA c) 63)).alloc (by simp) (.cells (numA c) 122)
  have hB := Bx.new (w.alloc (.cells (ctlA c) 63)) 122 (numA c)
  have hz : (w.alloc (.cells (ctlA c) 63)).heap.size = w.heap.size + 1 := by simp
  rw [hz] at hB
  have HB := Lib.hid hB
  have Hb := Lib.hid hb
  clear hb hB hz
  have hX := Bx.new w 63 (ctlA c)
  go_enter Tryz.func70, Tryz.ntmps70
  unfold ctlA at *
  go_wp2_with fail
  refine bodyPost_ret (v := .agg (numA c)) ?_ rfl ⟨rfl, Hb.out⟩
  exact results_cell_row rfl _ _ (w.heap.size + 1) 122 _ (0, 0) _ rfl HB.out Tryz.underlying122 rfl (by kernel_rfl)

set_option maxHeartbeats 4000000 in
set_option maxRecDepth 100000 in
theorem flags_any (c : Ctl) (w : World) : Calls Tryz.prog 72 #[.agg (ctlA c)] w fun e w' => e = .returned (.agg (flgA c)) ∧ Below w.heap.size w w' := by
  have hb := ((Below.refl w.heap.size w).alloc (Nat.le_refl _) (.cells (ctlA c) 63)).alloc (by simp) (.cells (flgA c) 127)
  have hB := Bx.new (w.alloc (.cells (ctlA c) 63)) 127 (flgA c)
  have hz : (w.alloc (.cells (ctlA c) 63)).heap.size = w.heap.size + 1 := by simp
  rw [hz] at hB
  have HB := Lib.hid hB
  have Hb := Lib.hid hb
  clear hb hB hz
  have hX := Bx.new w 63 (ctlA c)
  go_enter Tryz.func72, Tryz.ntmps72
  unfold ctlA at *
  go_wp2_with fail
  refine bodyPost_ret (v := .agg (flgA c)) ?_ rfl ⟨rfl, Hb.out⟩
  exact results_cell_row rfl _ _ (w.heap.size + 1) 127 _ (0, 0) _ rfl HB.out Tryz.underlying127 rfl (by kernel_rfl)

theorem idx_num (c : Ctl) (k : Nat) (hk : k < 6) (w : World) : (Instr.index 122 (.agg (numA c)) (.int .i64 (k : Int))).run Tryz.prog w = .ok (.agg #[.string (mkS ((numsL c).getD k ([], 0)).1), .int .i64 ((numsL c).getD k ([], 0)).2]) w := by
  have e : (numA c).extract (k * 2) (k * 2 + 2) = #[.string (mkS ((numsL c).getD k ([], 0)).1), .int .i64 ((numsL c).getD k ([], 0)).2] := by
    rcases (by omega : k = 0 ∨ k = 1 ∨ k = 2 ∨ k = 3 ∨ k = 4 ∨ k = 5) with rfl | rfl | rfl | rfl | rfl | rfl <;> rfl
  simp [Instr.index, asIntOf, run_underlying Tryz.underlying122, part, Tryz.isAgg121, Tryz.sizeOf121, hk, e]

theorem idx_flg (c : Ctl) (k : Nat) (hk : k < 9) (w : World) : (Instr.index 127 (.agg (flgA c)) (.int .i64 (k : Int))).run Tryz.prog w = .ok (.agg #[.string (mkS ((flagsL c).getD k ([], false)).1), .bool ((flagsL c).getD k ([], false)).2]) w := by
  have e : (flgA c).extract (k * 2) (k * 2 + 2) = #[.string (mkS ((flagsL c).getD k ([], false)).1), .bool ((flagsL c).getD k ([], false)).2] := by
    rcases (by omega : k = 0 ∨ k = 1 ∨ k = 2 ∨ k = 3 ∨ k = 4 ∨ k = 5 ∨ k = 6 ∨ k = 7 ∨ k = 8) with rfl | rfl | rfl | rfl | rfl | rfl | rfl | rfl | rfl <;> rfl
  simp [Instr.index, asIntOf, run_underlying Tryz.underlying127, part, Tryz.isAgg126, Tryz.sizeOf126, hk, e]

/-- a control's numbers are in their ranges -/
def okN (a : Int) : Bool := !(decide (a < -1) || decide (mxD < a))
def okC15 (c : Ctl) : Bool := (numsL c).all fun d => okN d.2
def chkE (c : Ctl) : Int := if okC15 c = true then 0 else 2
theorem okC15_v (c : Ctl) : okC15 c = true ↔ vC c := by
  unfold okC15 numsL vC vNc okN
  simp [List.all_cons, List.all_nil]
theorem all_take {α : Type} (p : α → Bool) (l : List α) (k : Nat) (d : α) (hk : k < l.length) (h : (l.take k).all p = true) : (l.take (k + 1)).all p = p (l.getD k d) := by
  rw [List.take_succ_eq_append_getElem hk, List.all_append, h]
  simp [List.getD, hk]
theorem all_bad {α : Type} (p : α → Bool) (l : List α) (k : Nat) (d : α) (hk : k < l.length) (h : p (l.getD k d) = false) : l.all p = false := by
  rw [List.all_eq_false]
  refine ⟨l[k], List.getElem_mem hk, ?_⟩
  simp [List.getD, hk] at h
  simp [h]

set_option maxHeartbeats 4000000 in
set_option maxRecDepth 100000 in
theorem ccheck_any (c : Ctl) (w : World) : Calls Tryz.prog 40 #[.agg (ctlA c)] w fun e w' => e = .returned (.int .i64 (chkE c)) ∧ Below w.heap.size w w' := by
  have hB := Bx.new w 63 (ctlA c)
  have hb := below_allocC w (.cells (ctlA c) 63)
  have HN : Hid (∀ W : World, Calls Tryz.prog 70 #[.agg (ctlA c)] W fun e w' => e = .returned (.agg (numA c)) ∧ Below W.heap.size W w') := fun W => numbers_any c W
  have HI := Lib.hid (idx_num c)
  have HOk := Lib.hid (show okC15 c = (numsL c).all fun d => okN d.2 from rfl)
  have hlen : (numsL c).length = 6 := rfl
  have HBx := Lib.hid hB
  have HB0 := Lib.hid hb
  have hsz : w.heap.size ≤ (w.alloc (.cells (ctlA c) 63)).heap.size := by simp
  clear hB hb
  generalize numsL c = L at *
  generalize numA c = A at *
  have HQ : Hid ((okC15 c = true → chkE c = 0) ∧ (okC15 c = false → chkE c = 2)) := ⟨fun h => by unfold chkE; rw [if_pos h], fun h => by unfold chkE; rw [if_neg (by rw [h]; decide)]⟩
  generalize chkE c = q at *
  generalize okC15 c = ok at *
  go_enter Tryz.func40, Tryz.ntmps40
  unfold ctlA at *
  go_wp2_with fail
  refine (HN.out _).mono ?_
  rintro e w1 ⟨rfl, hb1⟩
  have HB1 := Lib.hid (HB0.out.trans (hb1.mono hsz))
  clear hb1
  go_wp2_with fail
  go_loopw [2, 7] (fun _ vi wr => ∃ i : Nat, i ≤ 6 ∧ vi = .int .i64 i ∧ Hid (Below w.heap.size w wr) ∧ Hid ((L.take i).all (fun d => okN d.2) = true)) (fun _ vi _ => 6 - (RowKit.intOf vi).toNat)
  case atStart => exact ⟨0, Nat.zero_le _, rfl, HB1.out, rfl⟩
  case round =>
    obtain ⟨i, hi, rfl, HB, HA⟩ := hrel
    rename World => W
    by_cases hlt : i < 6
    · have hidx := HI.out i hlt W
      have hstep := all_take (fun d : Bs × Int => okN d.2) L i ([], 0) (by omega) HA.out
      have hbad := all_bad (fun d : Bs × Int => okN d.2) L i ([], 0) (by omega)
      have hzW := HB.out.size
      generalize L.getD i ([], 0) = d at *
      obtain ⟨nm, a⟩ := d
      simp only at hidx hstep hbad
      have hBW := Bx.new W 121 #[.string (mkS nm), .int .i64 a]
      have c0 := hBW.cell 0 _ rfl
      have c1 := hBW.cell 1 _ rfl
      have HB2 := Lib.hid (HB.out.alloc hzW (.cells #[.string (mkS nm), .int .i64 a] 121))
      have hokd : okN a = !(decide (a < -1) || decide (mxD < a)) := rfl
      have HSt := Lib.hid hstep
      have HBad := Lib.hid hbad
      clear hstep hbad hBW
      by_cases h1 : a < -1
      · have hf : okN a = false := by rw [hokd, decide_eq_true h1]; rfl
        have HF := Lib.hid (HBad.out hf)
        rw [← HOk.out] at HF
        clear hokd hf
        go_wp2_with fail
        go_ret
        refine ⟨?_, HB2.out⟩
        rw [HQ.out.2 HF.out]; rfl
      · by_cases h2 : (2147483648 : Int) < a
        · have hf : okN a = false := by rw [hokd, decide_eq_false h1, decide_eq_true (show mxD < a from h2)]; rfl
          have HF := Lib.hid (HBad.out hf)
          rw [← HOk.out] at HF
          clear hokd hf
          go_wp2_with fail
          go_ret
          refine ⟨?_, HB2.out⟩
          rw [HQ.out.2 HF.out]; rfl
        · have hf : okN a = true := by rw [hokd, decide_eq_false h1, decide_eq_false (show ¬ mxD < a from h2)]; rfl
          have HF := Lib.hid (HSt.out.trans hf)
          clear hokd hf
          go_wp2_with fail
          exact ⟨⟨i + 1, hlt, by go_num, HB2, HF⟩, by simp [RowKit.intOf]; omega⟩
    · obtain rfl : i = 6 := by omega
      have hall := HA.out
      rw [List.take_of_length_le (by omega), ← HOk.out] at hall
      have HAl := Lib.hid hall
      clear hall
      go_wp2_with fail
      go_ret
      refine ⟨?_, HB.out⟩
      rw [HQ.out.1 HAl.out]; rfl
end Tk
end Go.Proofs.YtnbipbeeengiaaaGreatDoor
namespace Go.Proofs.YtnbipbeeengiaaaGreatDoor
open Go.RowKit
namespace Tk

/-- an owned row in a later world -/
theorem own_later {w w' : World} {B : Nat} {v : Value} {n : Nat} {xs : List Value} {e : TypeId} (h : w.ownsRow B e 1 v n xs) (hb : Below w.heap.size w w') : w'.ownsRow B e 1 v n xs :=
  World.ownsRow.kept h (row := none) ⟨hb.os, hb.tape, hb.output, hb.size, fun k hk _ => hb.block k hk⟩ (by cases h : v.ownBlock <;> simp)

theorem join_run (w : World) (o : Oper) (a : Act) (K : Act → World → Prop) (Q : Exit → Act → World → Prop) (s x : Operand)
    (ho : o.op = .call { callee := .builtin .append, args := #[s, x], argTypes := #[26, 26] })
    (base base2 : Nat) (v v2 : Value) (P R : List Bs) (hs : a.eval s = v) (hx : a.eval x = v2) (h1 : w.ownsRow base 9 1 v P.length (strs P)) (h2 : w.ownsRow base2 9 1 v2 R.length (strs R))
    (hB : base ≤ w.heap.size) (hP : P.length ≤ 1048576) (hR : R.length ≤ 1048576)
    (h : ∀ v' w', w'.ownsRow base 9 1 v' (P ++ R).length (strs (P ++ R)) → Below base w w' → K (a.put o.dst v') w') : o.wp Tryz.prog a w K Q := by
  obtain ⟨i0, hi, hz0, hz1, hz2⟩ := info_parts strInfo
  rcases h2.2 with ⟨hv, hn⟩ | ⟨g, cap, cur, hv, hb, hg, hc⟩
  · have hrun := run_append_owned_none (P := Tryz.prog) (w := w) base 26 o.type 9 i0 1 Tryz.underlying26 hi v P.length (strs P) h1
    have hR0 : R = [] := List.eq_nil_of_length_eq_zero hn
    subst hR0
    unfold Oper.wp
    simp [execOp, ho, resolve, invoke, builtin, hs, hx, hv, hrun, Result.andThen]
    exact h v w (by simpa using h1) (Below.refl _ _)
  · refine wp_append_own (P := Tryz.prog) w s x 26 ho base 9 i0 (.string .empty) 1 16 Tryz.underlying26 hi hz0 hz1 hz2 rfl (by decide) v P.length (strs P) hs h1 ⟨g, 0, none⟩ R.length cap (strs R) (by rw [hx, hv]) (by simp [strs])
      (h2.cells (g := g) (by rw [hv]; rfl)) (fun u hu => by
        simp only [strs, List.mem_map] at hu
        obtain ⟨t, -, rfl⟩ := hu
        rfl) (by unfold maxLen; omega) (by omega) hB ?_
    intro v' w' ho' hg' _
    refine h v' w' ?_ (below_of_grown hg' h1 hB)
    rw [List.length_append, strs_append]
    exact ho'

theorem join_guarded {ops : Array Oper} {rest : List Oper} {w : World} {o : Oper} {a : Act} {Q : Exit → Act → World → Prop} (hw : Region.wanted o (yielded ops a.tmps) = true) (s x : Operand)
    (ho : o.op = .call { callee := .builtin .append, args := #[s, x], argTypes := #[26, 26] })
    (base base2 : Nat) (v v2 : Value) (P R : List Bs) (hs : a.eval s = v) (hx : a.eval x = v2) (h1 : w.ownsRow base 9 1 v P.length (strs P)) (h2 : w.ownsRow base2 9 1 v2 R.length (strs R))
    (hB : base ≤ w.heap.size) (hP : P.length ≤ 1048576) (hR : R.length ≤ 1048576)
    (h : ∀ v' w', w'.ownsRow base 9 1 v' (P ++ R).length (strs (P ++ R)) → Below base w w' → wpList Tryz.prog ops Q rest (a.put o.dst v') w') : wpList Tryz.prog ops Q (o :: rest) a w :=
  BigFrame.wpList_want hw fun K hK => join_run w o a K Q s x ho base base2 v v2 P R hs hx h1 h2 hB hP hR fun v' w' a b => hK _ _ (h v' w' a b)
end Tk
end Go.Proofs.YtnbipbeeengiaaaGreatDoor
