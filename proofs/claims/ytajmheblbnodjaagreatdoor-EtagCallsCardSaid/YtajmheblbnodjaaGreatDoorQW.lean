/- DrH, put together. -/
import Derived.Test.YtajmheblbnodjaaGreatDoorQS
import Derived.Test.YtajmheblbnodjaaGreatDoorQT
import Derived.Test.YtajmheblbnodjaaGreatDoorQV
import Derived.Deep.Cut
import Derived.OrdersHeld
import Derived.Deep.RegionHeld3
namespace Go.Proofs.YtajmheblbnodjaaGreatDoor
open Go.RowKit
namespace Tk

theorem wpAnyH_more {P : Program} {md : Region.Mode} {ops : Array Oper} {Q : Exit → Act → World → Prop} {S S' : World → Prop} (hS : ∀ w, S' w → S w) : ∀ (fuel : Nat) (listed : Array Bool) (a : Act) (w : World), wpAnyH P md ops Q S' fuel listed a w → wpAnyH P md ops Q S fuel listed a w
  | 0, _, _, _, h => h
  | fuel + 1, _, _, _, h => ⟨h.1, fun i hi => wpOp_mono (fun a' w' h' => ⟨hS _ h'.1, wpAnyH_more hS fuel _ a' w' h'.2⟩) (h.2 i hi)⟩
theorem exec_addS {ρ : Operand → Value} {o : Oper} {w : World} (x y : Operand) (ho : o.op = .binOp .add 9 x y 9) (a b : Bs) (hx : ρ x = .string (mkS a)) (hy : ρ y = .string (mkS b)) (hz : a.length + b.length ≤ 100000) :
    (execOp ρ o).run Tryz.prog w = .ok (.value (.string (mkS (a ++ b)))) w := by
  have h1 : (mkS a).size + (mkS b).size ≤ 9223372036854775807 := by rw [size_mkS, size_mkS]; omega
  have hrun : (binOp .add 9 (.string (mkS a)) (.string (mkS b))).run Tryz.prog w = .ok (.string (mkS (a ++ b))) w := by
    rw [← mkS_append]
    simp [binOp, go_sem, h1]
  simp [execOp, ho, hx, hy, eqGuard, hrun, Result.andThen]
theorem exec_take3 {ρ : Operand → Value} {o : Oper} {w : World} (x : Operand) (ho : o.op = .slice 9 x none (some (.const (.int .i64 3))) none) (a : Bs) (hx : ρ x = .string (mkS a)) (hc : ρ (.const (.int .i64 3)) = .int .i64 3) (hz : 3 ≤ a.length) :
    (execOp ρ o).run Tryz.prog w = .ok (.value (.string (mkS (a.take 3)))) w := by
  have e : (mkS a).extract 0 3 = mkS (a.take 3) := by rw [extract_mkS, bs_mkS]; rfl
  have h1 : (3 : Int) ≤ ((mkS a).size : Int) := by rw [size_mkS]; omega
  have hrun : (Instr.slice 9 (.string (mkS a)) none (some (.int .i64 3)) none).run Tryz.prog w = .ok (.string (mkS (a.take 3))) w := by
    rw [← e]
    simp [Instr.slice, run_underlying Tryz.underlying9, Instr.sliceBounds, Instr.sliceBound, asIntOf, go_sem, h1]
  have h2 : (Instr.sliceAt 9 (.string (mkS a)) none (some (.int .i64 3)) none).run Tryz.prog w = .ok (.string (mkS (a.take 3))) w := by
    unfold Instr.sliceAt
    simp [hrun]
  simp [execOp, ho, hx, hc, h2, Result.andThen]

/-- the box of a civil time, and what lay before -/
structure HF (w : World) (g : Nat) (v0 v1 v2 v3 v4 v5 v6 : Int) (Wz : World) : Prop where
  bx : Wz.heap[g]? = some (.cells #[.int .i64 v0, .int .i64 v1, .int .i64 v2, .int .i64 v3, .int .i64 v4, .int .i64 v5, .int .i64 v6] 194 (0, 0))
  bl : Below g w Wz
theorem HF.later {w W W' : World} {g : Nat} {v0 v1 v2 v3 v4 v5 v6 : Int} (h : HF w g v0 v1 v2 v3 v4 v5 v6 W) (hb : Below W.heap.size W W') : HF w g v0 v1 v2 v3 v4 v5 v6 W' :=
  ⟨Bx.later (T := 194) h.bx hb, h.bl.trans (hb.mono (Nat.le_of_lt (Bx.lt (T := 194) h.bx)))⟩
theorem HF.drew {w W : World} {g : Nat} {v0 v1 v2 v3 v4 v5 v6 : Int} (h : HF w g v0 v1 v2 v3 v4 v5 v6 W) : HF w g v0 v1 v2 v3 v4 v5 v6 W.drew := ⟨h.bx, h.bl.drew⟩
theorem HF.cell {w W : World} {g : Nat} {v0 v1 v2 v3 v4 v5 v6 : Int} (h : HF w g v0 v1 v2 v3 v4 v5 v6 W) (i : Nat) (v : Value) (hv : (#[.int .i64 v0, .int .i64 v1, .int .i64 v2, .int .i64 v3, .int .i64 v4, .int .i64 v5, .int .i64 v6] : Array Value)[i]? = some v) : W.cell? ⟨g, i, none⟩ = some v := Bx.cell (T := 194) h.bx i v hv
theorem hf_new (w : World) (v0 v1 v2 v3 v4 v5 v6 : Int) : HF w w.heap.size v0 v1 v2 v3 v4 v5 v6 (w.alloc (.cells #[.int .i64 v0, .int .i64 v1, .int .i64 v2, .int .i64 v3, .int .i64 v4, .int .i64 v5, .int .i64 v6] 194)) := ⟨heap_alloc_last w _, (Below.refl _ _).alloc (Nat.le_refl _) _⟩

set_option maxHeartbeats 16000000 in
set_option maxRecDepth 100000 in
theorem rforms_any (c : Cv) (w : World) (hr : Rg c) :
    Calls Tryz.prog 176 #[cvV c] w (ListNPost [fA c, fB c, fC c] w) := by
  obtain ⟨v0, v1, v2, v3, v4, v5, v6⟩ := c
  have r0 := hr.y; have r1 := hr.m; have r2 := hr.d; have r6 := hr.w
  simp only at r0 r1 r2 r6
  have HH := Lib.hid (hf_new w v0 v1 v2 v3 v4 v5 v6)
  have HTw := Lib.hid (fun (n : Int) (W : World) (hn0 : 0 ≤ n) (hn1 : n ≤ 99) => rtwo_any n W ⟨hn0, hn1⟩)
  have HCk := Lib.hid (fun (W : World) => rclock_any ⟨v0, v1, v2, v3, v4, v5, v6⟩ W hr)
  have HA := Lib.hid (show fA ⟨v0, v1, v2, v3, v4, v5, v6⟩ = (dnm v6).take 3 ++ [44, 32] ++ two v2 ++ [32] ++ mnm v1 ++ [32] ++ (two (v0 / 100) ++ two (v0 % 100)) ++ [32] ++ clk ⟨v0, v1, v2, v3, v4, v5, v6⟩ ++ [32, 71, 77, 84] from rfl)
  have HB := Lib.hid (show fB ⟨v0, v1, v2, v3, v4, v5, v6⟩ = dnm v6 ++ [44, 32] ++ two v2 ++ [45] ++ mnm v1 ++ [45] ++ two (v0 % 100) ++ [32] ++ clk ⟨v0, v1, v2, v3, v4, v5, v6⟩ ++ [32, 71, 77, 84] from rfl)
  have HC := Lib.hid (show fC ⟨v0, v1, v2, v3, v4, v5, v6⟩ = (dnm v6).take 3 ++ [32] ++ mnm v1 ++ [32] ++ dC v2 ++ [32] ++ clk ⟨v0, v1, v2, v3, v4, v5, v6⟩ ++ [32] ++ (two (v0 / 100) ++ two (v0 % 100)) from rfl)
  have HDs : Hid (v2 < 10 → (⟨#[32]⟩ : ByteArray) ++ (mkS (two v2)).extract 1 2 = mkS (dC v2)) := fun hd => by
    rw [extract_mkS, bs_mkS, show (⟨#[32]⟩ : ByteArray) = mkS [32] from rfl, mkS_append]
    unfold dC two
    rw [if_pos hd, show v2 % 10 = v2 by omega]; rfl
  have HDb : Hid (¬ v2 < 10 → mkS (two v2) = mkS (dC v2)) := fun hd => by unfold dC; rw [if_neg hd]
  have HD : Hid (∀ W : World, Calls Tryz.prog 225 #[] W fun e W' => ∃ gd, e = .returned (.slice (some ⟨gd, 0, none⟩) 7 7) ∧ W'.cell? ⟨gd, v6.toNat, none⟩ = some (.string (mkS (dnm v6))) ∧ (∀ W2, Below W'.heap.size W' W2 → W2.cell? ⟨gd, v6.toNat, none⟩ = some (.string (mkS (dnm v6)))) ∧ Below W.heap.size W W') := by
    intro W
    refine (rdaysL_any W).mono ?_
    rintro e W' ⟨gd, he, hg1, hg2, hst, hb⟩
    have hc := hst.cell v6.toNat (by show v6.toNat < 7; omega)
    exact ⟨gd, he, hc, fun W2 hb2 => (hb2.cell (p := ⟨gd, v6.toNat, none⟩) hg2).trans hc, hb⟩
  obtain ⟨u1, hu1⟩ : ∃ u1, u1 = v1 - 1 := ⟨_, rfl⟩
  have hw : IntKind.i64.wrap (v1 - 1) = u1 := by rw [hu1]; exact IntWalk.i64_in _ (by omega)
  have hu0 : (0 : Int) ≤ u1 := by omega
  have hu2 : u1 < 12 := by omega
  have hx0 : (0 : Int) ≤ v6 := by omega
  have hx2 : v6 < 7 := by omega
  have HM : Hid (∀ W : World, Calls Tryz.prog 226 #[] W fun e W' => ∃ gm, e = .returned (.slice (some ⟨gm, 0, none⟩) 12 12) ∧ W'.cell? ⟨gm, u1.toNat, none⟩ = some (.string (mkS (mnm v1))) ∧ Below W.heap.size W W') := by
    intro W
    refine (rmonthsL_any W).mono ?_
    rintro e W' ⟨gm, he, hg1, hg2, hst, hb⟩
    have hc := hst.cell u1.toNat (by show u1.toNat < 12; omega)
    exact ⟨gm, he, by unfold mnm; rw [← hu1]; exact hc, hb⟩
  have lND : 6 ≤ (dnm v6).length ∧ (dnm v6).length ≤ 9 := dnm_len v6 r6
  have lNM : (mnm v1).length = 3 := by obtain ⟨p, q, r, hm, -⟩ := mnm_three v1 r1; rw [hm]; rfl
  have lCK : (clk ⟨v0, v1, v2, v3, v4, v5, v6⟩).length = 8 := rfl
  have lDD : (dC v2).length = 2 := by obtain ⟨x, y, h⟩ := dC_two v2; rw [h]; rfl
  have lT : ∀ n : Int, (two n).length = 2 := fun n => rfl
  obtain ⟨y1, hy1⟩ : ∃ y1, y1 = v0 / 100 := ⟨_, rfl⟩
  obtain ⟨y2, hy2⟩ : ∃ y2, y2 = v0 % 100 := ⟨_, rfl⟩
  have hq0 : IntKind.i64.wrap (v0.tdiv 100) = y1 := by rw [hy1]; exact IntWalk.i64_quo _ _ (by omega)
  have hq : v0.tmod 100 = y2 := by rw [hy2]; exact IntWalk.rem_in _ _ (by omega)
  have hq2 : IntKind.i64.wrap y2 = y2 := IntWalk.i64_in _ (by omega)
  have g1 : 0 ≤ y1 ∧ y1 ≤ 99 := by omega
  have g2 : 0 ≤ y2 ∧ y2 ≤ 99 := by omega
  have g3 : 0 ≤ v2 ∧ v2 ≤ 99 := by omega
  rw [← hy1, ← hy2] at HA HC
  rw [← hy2] at HB
  have HQ1 := Lib.hid hq0
  have HQ2 := Lib.hid hq
  have HQ3 := Lib.hid hq2
  have HW := Lib.hid hw
  have HT1 := Lib.hid (fun W => HTw.out y1 W g1.1 g1.2)
  have HT2 := Lib.hid (fun W => HTw.out y2 W g2.1 g2.2)
  have HT3 := Lib.hid (fun W => HTw.out v2 W g3.1 g3.2)
  have t1 := lT y1
  have t2 := lT y2
  have t3 := lT v2
  unfold cvV at HCk ⊢
  unfold ListNPost
  simp only at HCk
  have HLb : Hid (∀ L : List Bs, L = [fA ⟨v0, v1, v2, v3, v4, v5, v6⟩, fB ⟨v0, v1, v2, v3, v4, v5, v6⟩, fC ⟨v0, v1, v2, v3, v4, v5, v6⟩] → L.length = 3) := fun L h => by rw [h]; rfl
  clear hr hu1 hw hy1 hy2 hq0 hq hq2 lT HTw
  generalize fA ⟨v0, v1, v2, v3, v4, v5, v6⟩ = FA at *
  generalize fB ⟨v0, v1, v2, v3, v4, v5, v6⟩ = FB at *
  generalize fC ⟨v0, v1, v2, v3, v4, v5, v6⟩ = FC at *
  generalize clk ⟨v0, v1, v2, v3, v4, v5, v6⟩ = CK at *
  generalize dnm v6 = ND at *
  generalize mnm v1 = NM at *
  generalize dC v2 = DD at *
  generalize two y1 = Y1 at *
  generalize two y2 = Y2 at *
  generalize two v2 = D2 at *
  obtain ⟨X3, hX3⟩ : ∃ X3 : Bs, X3 = ND.take 3 := ⟨_, rfl⟩
  have lX3 : X3.length ≤ 3 := by rw [hX3]; simp <;> omega
  have HX3 := Lib.hid hX3
  obtain ⟨YY, hYY⟩ : ∃ YY : Bs, YY = Y1 ++ Y2 := ⟨_, rfl⟩
  have lYY : YY.length ≤ 4 := by rw [hYY]; simp <;> omega
  have HYY := Lib.hid hYY
  obtain ⟨A1, hA1⟩ : ∃ A1 : Bs, A1 = X3 ++ [44, 32] := ⟨_, rfl⟩
  have lA1 : A1.length ≤ 100 := by rw [hA1]; simp <;> omega
  have HA1 := Lib.hid hA1
  obtain ⟨A2, hA2⟩ : ∃ A2 : Bs, A2 = A1 ++ D2 := ⟨_, rfl⟩
  have lA2 : A2.length ≤ 200 := by rw [hA2]; simp <;> omega
  have HA2 := Lib.hid hA2
  obtain ⟨A3, hA3⟩ : ∃ A3 : Bs, A3 = A2 ++ [32] := ⟨_, rfl⟩
  have lA3 : A3.length ≤ 300 := by rw [hA3]; simp <;> omega
  have HA3 := Lib.hid hA3
  obtain ⟨A4, hA4⟩ : ∃ A4 : Bs, A4 = A3 ++ NM := ⟨_, rfl⟩
  have lA4 : A4.length ≤ 400 := by rw [hA4]; simp <;> omega
  have HA4 := Lib.hid hA4
  obtain ⟨A5, hA5⟩ : ∃ A5 : Bs, A5 = A4 ++ [32] := ⟨_, rfl⟩
  have lA5 : A5.length ≤ 500 := by rw [hA5]; simp <;> omega
  have HA5 := Lib.hid hA5
  obtain ⟨A6, hA6⟩ : ∃ A6 : Bs, A6 = A5 ++ YY := ⟨_, rfl⟩
  have lA6 : A6.length ≤ 600 := by rw [hA6]; simp <;> omega
  have HA6 := Lib.hid hA6
  obtain ⟨A7, hA7⟩ : ∃ A7 : Bs, A7 = A6 ++ [32] := ⟨_, rfl⟩
  have lA7 : A7.length ≤ 700 := by rw [hA7]; simp <;> omega
  have HA7 := Lib.hid hA7
  obtain ⟨A8, hA8⟩ : ∃ A8 : Bs, A8 = A7 ++ CK := ⟨_, rfl⟩
  have lA8 : A8.length ≤ 800 := by rw [hA8]; simp <;> omega
  have HA8 := Lib.hid hA8
  obtain ⟨A9, hA9⟩ : ∃ A9 : Bs, A9 = A8 ++ [32, 71, 77, 84] := ⟨_, rfl⟩
  have lA9 : A9.length ≤ 900 := by rw [hA9]; simp <;> omega
  have HA9 := Lib.hid hA9
  obtain ⟨B1, hB1⟩ : ∃ B1 : Bs, B1 = ND ++ [44, 32] := ⟨_, rfl⟩
  have lB1 : B1.length ≤ 100 := by rw [hB1]; simp <;> omega
  have HB1 := Lib.hid hB1
  obtain ⟨B2, hB2⟩ : ∃ B2 : Bs, B2 = B1 ++ D2 := ⟨_, rfl⟩
  have lB2 : B2.length ≤ 200 := by rw [hB2]; simp <;> omega
  have HB2 := Lib.hid hB2
  obtain ⟨B3, hB3⟩ : ∃ B3 : Bs, B3 = B2 ++ [45] := ⟨_, rfl⟩
  have lB3 : B3.length ≤ 300 := by rw [hB3]; simp <;> omega
  have HB3 := Lib.hid hB3
  obtain ⟨B4, hB4⟩ : ∃ B4 : Bs, B4 = B3 ++ NM := ⟨_, rfl⟩
  have lB4 : B4.length ≤ 400 := by rw [hB4]; simp <;> omega
  have HB4 := Lib.hid hB4
  obtain ⟨B5, hB5⟩ : ∃ B5 : Bs, B5 = B4 ++ [45] := ⟨_, rfl⟩
  have lB5 : B5.length ≤ 500 := by rw [hB5]; simp <;> omega
  have HB5 := Lib.hid hB5
  obtain ⟨B6, hB6⟩ : ∃ B6 : Bs, B6 = B5 ++ Y2 := ⟨_, rfl⟩
  have lB6 : B6.length ≤ 600 := by rw [hB6]; simp <;> omega
  have HB6 := Lib.hid hB6
  obtain ⟨B7, hB7⟩ : ∃ B7 : Bs, B7 = B6 ++ [32] := ⟨_, rfl⟩
  have lB7 : B7.length ≤ 700 := by rw [hB7]; simp <;> omega
  have HB7 := Lib.hid hB7
  obtain ⟨B8, hB8⟩ : ∃ B8 : Bs, B8 = B7 ++ CK := ⟨_, rfl⟩
  have lB8 : B8.length ≤ 800 := by rw [hB8]; simp <;> omega
  have HB8 := Lib.hid hB8
  obtain ⟨B9, hB9⟩ : ∃ B9 : Bs, B9 = B8 ++ [32, 71, 77, 84] := ⟨_, rfl⟩
  have lB9 : B9.length ≤ 900 := by rw [hB9]; simp <;> omega
  have HB9 := Lib.hid hB9
  obtain ⟨C1, hC1⟩ : ∃ C1 : Bs, C1 = X3 ++ [32] := ⟨_, rfl⟩
  have lC1 : C1.length ≤ 100 := by rw [hC1]; simp <;> omega
  have HC1 := Lib.hid hC1
  obtain ⟨C2, hC2⟩ : ∃ C2 : Bs, C2 = C1 ++ NM := ⟨_, rfl⟩
  have lC2 : C2.length ≤ 200 := by rw [hC2]; simp <;> omega
  have HC2 := Lib.hid hC2
  obtain ⟨C3, hC3⟩ : ∃ C3 : Bs, C3 = C2 ++ [32] := ⟨_, rfl⟩
  have lC3 : C3.length ≤ 300 := by rw [hC3]; simp <;> omega
  have HC3 := Lib.hid hC3
  obtain ⟨C4, hC4⟩ : ∃ C4 : Bs, C4 = C3 ++ DD := ⟨_, rfl⟩
  have lC4 : C4.length ≤ 400 := by rw [hC4]; simp <;> omega
  have HC4 := Lib.hid hC4
  obtain ⟨C5, hC5⟩ : ∃ C5 : Bs, C5 = C4 ++ [32] := ⟨_, rfl⟩
  have lC5 : C5.length ≤ 500 := by rw [hC5]; simp <;> omega
  have HC5 := Lib.hid hC5
  obtain ⟨C6, hC6⟩ : ∃ C6 : Bs, C6 = C5 ++ CK := ⟨_, rfl⟩
  have lC6 : C6.length ≤ 600 := by rw [hC6]; simp <;> omega
  have HC6 := Lib.hid hC6
  obtain ⟨C7, hC7⟩ : ∃ C7 : Bs, C7 = C6 ++ [32] := ⟨_, rfl⟩
  have lC7 : C7.length ≤ 700 := by rw [hC7]; simp <;> omega
  have HC7 := Lib.hid hC7
  obtain ⟨C8, hC8⟩ : ∃ C8 : Bs, C8 = C7 ++ YY := ⟨_, rfl⟩
  have lC8 : C8.length ≤ 800 := by rw [hC8]; simp <;> omega
  have HC8 := Lib.hid hC8
  have HA9e : Hid (FA = A9) := by show _ = _; rw [HA.out, hA9, hA8, hA7, hA6, hA5, hA4, hA3, hA2, hA1, hX3, hYY]
  have HB9e : Hid (FB = B9) := by show _ = _; rw [HB.out, hB9, hB8, hB7, hB6, hB5, hB4, hB3, hB2, hB1]
  have HC8e : Hid (FC = C8) := by show _ = _; rw [HC.out, hC8, hC7, hC6, hC5, hC4, hC3, hC2, hC1, hX3, hYY]
  clear hX3 hYY hA1 hA2 hA3 hA4 hA5 hA6 hA7 hA8 hA9 hB1 hB2 hB3 hB4 hB5 hB6 hB7 hB8 hB9 hC1 hC2 hC3 hC4 hC5 hC6 hC7 hC8 HA HB HC
  go_enter Tryz.func176, Tryz.ntmps176
  go_upto_region 1 with (fail)
  generalize w.alloc (.cells #[.int .i64 v0, .int .i64 v1, .int .i64 v2, .int .i64 v3, .int .i64 v4, .int .i64 v5, .int .i64 v6] 194) = w1 at *

  have hHeld0 : (fun Wz : World => HF w w.heap.size v0 v1 v2 v3 v4 v5 v6 Wz) w1.drew := HH.out.drew
  refine wp_region_held_drew (S := (fun Wz : World => HF w w.heap.size v0 v1 v2 v3 v4 v5 v6 Wz)) (by kernel_rfl) hHeld0 (fun hHeld => ?_)
  refine wpAnyH_take (i := 1) (v := ?_) rfl (by kernel_rfl) (by kernel_rfl) (by kernel_rfl) (fun _ _ _ h => h) (Or.inl ⟨by kernel_rfl, ?_⟩) (by assumption) ?_
  case refine_2 => (intro Wz hSw; go_simp; try with_reducible rfl)
  try simp only [Act.put, List.getElem_toArray, List.getElem_cons_succ, List.getElem_cons_zero, List.setIfInBounds_toArray, List.set_cons_zero, List.set_cons_succ]
  refine wpAnyH_take (i := 2) (v := .int .i64 v6) rfl (by kernel_rfl) (by kernel_rfl) (by kernel_rfl) (fun _ _ _ h => h) (Or.inl ⟨by kernel_rfl, ?_⟩) (by assumption) ?_
  case refine_1 => (intro Wz hSw; have u := hSw.cell 6 _ rfl; go_simp; try with_reducible rfl)
  try simp only [Act.put, List.getElem_toArray, List.getElem_cons_succ, List.getElem_cons_zero, List.setIfInBounds_toArray, List.set_cons_zero, List.set_cons_succ]
  refine wpAnyH_take (i := 6) (v := ?_) rfl (by kernel_rfl) (by kernel_rfl) (by kernel_rfl) (fun _ _ _ h => h) (Or.inl ⟨by kernel_rfl, ?_⟩) (by assumption) ?_
  case refine_2 => (intro Wz hSw; go_simp; try with_reducible rfl)
  try simp only [Act.put, List.getElem_toArray, List.getElem_cons_succ, List.getElem_cons_zero, List.setIfInBounds_toArray, List.set_cons_zero, List.set_cons_succ]
  refine wpAnyH_take (i := 7) (v := .int .i64 v1) rfl (by kernel_rfl) (by kernel_rfl) (by kernel_rfl) (fun _ _ _ h => h) (Or.inl ⟨by kernel_rfl, ?_⟩) (by assumption) ?_
  case refine_1 => (intro Wz hSw; have u := hSw.cell 1 _ rfl; go_simp; try with_reducible rfl)
  try simp only [Act.put, List.getElem_toArray, List.getElem_cons_succ, List.getElem_cons_zero, List.setIfInBounds_toArray, List.set_cons_zero, List.set_cons_succ]
  refine wpAnyH_take (i := 8) (v := .int .i64 u1) rfl (by kernel_rfl) (by kernel_rfl) (by kernel_rfl) (fun _ _ _ h => h) (Or.inl ⟨by kernel_rfl, ?_⟩) (by assumption) ?_
  case refine_1 => (intro Wz hSw; have u := HW.out; go_simp; try with_reducible rfl)
  try simp only [Act.put, List.getElem_toArray, List.getElem_cons_succ, List.getElem_cons_zero, List.setIfInBounds_toArray, List.set_cons_zero, List.set_cons_succ]
  refine wpAnyH_ready (rs := [0]) (by kernel_rfl) (by simp) ?_
  refine AllReadyH.cons rfl (fun K hK => ?_) AllReadyH.nil
  go_simp
  refine (HD.out _).mono ?_
  rintro e w2 ⟨gd, rfl, kcd0, kcd, hbb⟩
  have hHeld2 : (fun Wz : World => HF w w.heap.size v0 v1 v2 v3 v4 v5 v6 Wz) w2 := hHeld0.later hbb
  clear hbb
  go_simp
  refine hK.out _ _ hHeld2 (fun hHeldX => ?_)
  clear hK K hHeldX
  try simp only [Act.put, List.getElem_toArray, List.getElem_cons_zero, List.setIfInBounds_toArray, List.set_cons_zero, List.set_cons_succ]

  have hH3 : (HF w w.heap.size v0 v1 v2 v3 v4 v5 v6 w2) ∧ w2.cell? ⟨gd, v6.toNat, none⟩ = some (.string (mkS ND)) := ⟨hHeld2, kcd0⟩
  refine wpAnyH_more (S' := (fun Wz => (HF w w.heap.size v0 v1 v2 v3 v4 v5 v6 Wz) ∧ Wz.cell? ⟨gd, v6.toNat, none⟩ = some (.string (mkS ND)))) (fun _ h => h.1) _ _ _ _ ?_
  refine wpAnyH_take (i := 3) (v := ?_) rfl (by kernel_rfl) (by kernel_rfl) (by kernel_rfl) (fun _ _ _ h => h) (Or.inl ⟨by kernel_rfl, ?_⟩) (by assumption) ?_
  case refine_2 => (intro Wz hSw; go_simp; try with_reducible rfl)
  try simp only [Act.put, List.getElem_toArray, List.getElem_cons_succ, List.getElem_cons_zero, List.setIfInBounds_toArray, List.set_cons_zero, List.set_cons_succ]
  refine wpAnyH_take (i := 4) (v := .string (mkS ND)) rfl (by kernel_rfl) (by kernel_rfl) (by kernel_rfl) (fun _ _ _ h => h) (Or.inl ⟨by kernel_rfl, ?_⟩) (by assumption) ?_
  case refine_1 => (intro Wz hSw; obtain ⟨-, qc⟩ := hSw; go_simp; try with_reducible rfl)
  try simp only [Act.put, List.getElem_toArray, List.getElem_cons_succ, List.getElem_cons_zero, List.setIfInBounds_toArray, List.set_cons_zero, List.set_cons_succ]
  refine wpAnyH_ready (rs := [5]) (by kernel_rfl) (by simp) ?_
  refine AllReadyH.cons rfl (fun K hK => ?_) AllReadyH.nil
  go_simp
  refine (HM.out _).mono ?_
  rintro e w3 ⟨gm, rfl, kcm, hbm⟩
  have hH4 : (HF w w.heap.size v0 v1 v2 v3 v4 v5 v6 w3) ∧ w3.cell? ⟨gd, v6.toNat, none⟩ = some (.string (mkS ND)) := ⟨hHeld2.later hbm, kcd _ hbm⟩
  go_simp
  refine hK.out _ _ hH4 (fun hHeldX => ?_)
  clear hK K hHeldX
  try simp only [Act.put, List.getElem_toArray, List.getElem_cons_succ, List.getElem_cons_zero, List.setIfInBounds_toArray, List.set_cons_zero, List.set_cons_succ]
  have hH6 : ((HF w w.heap.size v0 v1 v2 v3 v4 v5 v6 w3) ∧ w3.cell? ⟨gd, v6.toNat, none⟩ = some (.string (mkS ND))) ∧ w3.cell? ⟨gm, u1.toNat, none⟩ = some (.string (mkS NM)) := ⟨hH4, kcm⟩
  refine wpAnyH_more (S' := (fun Wz => ((HF w w.heap.size v0 v1 v2 v3 v4 v5 v6 Wz) ∧ Wz.cell? ⟨gd, v6.toNat, none⟩ = some (.string (mkS ND))) ∧ Wz.cell? ⟨gm, u1.toNat, none⟩ = some (.string (mkS NM)))) (fun _ h => h.1) _ _ _ _ ?_
  refine wpAnyH_take (i := 9) (v := ?_) rfl (by kernel_rfl) (by kernel_rfl) (by kernel_rfl) (fun _ _ _ h => h) (Or.inl ⟨by kernel_rfl, ?_⟩) (by assumption) ?_
  case refine_2 => (intro Wz hSw; go_simp; try with_reducible rfl)
  try simp only [Act.put, List.getElem_toArray, List.getElem_cons_succ, List.getElem_cons_zero, List.setIfInBounds_toArray, List.set_cons_zero, List.set_cons_succ]
  refine wpAnyH_take (i := 10) (v := .string (mkS NM)) rfl (by kernel_rfl) (by kernel_rfl) (by kernel_rfl) (fun _ _ _ h => h) (Or.inl ⟨by kernel_rfl, ?_⟩) (by assumption) ?_
  case refine_1 => (intro Wz hSw; obtain ⟨-, qc⟩ := hSw; go_simp; try with_reducible rfl)
  try simp only [Act.put, List.getElem_toArray, List.getElem_cons_succ, List.getElem_cons_zero, List.setIfInBounds_toArray, List.set_cons_zero, List.set_cons_succ]
  refine wpAnyH_take (i := 11) (v := ?_) rfl (by kernel_rfl) (by kernel_rfl) (by kernel_rfl) (fun _ _ _ h => h) (Or.inl ⟨by kernel_rfl, ?_⟩) (by assumption) ?_
  case refine_2 => (intro Wz hSw; go_simp; try with_reducible rfl)
  try simp only [Act.put, List.getElem_toArray, List.getElem_cons_succ, List.getElem_cons_zero, List.setIfInBounds_toArray, List.set_cons_zero, List.set_cons_succ]
  refine wpAnyH_take (i := 12) (v := ?_) rfl (by kernel_rfl) (by kernel_rfl) (by kernel_rfl) (fun _ _ _ h => h) (Or.inl ⟨by kernel_rfl, ?_⟩) (by assumption) ?_
  case refine_2 => (intro Wz hSw; go_simp; try with_reducible rfl)
  try simp only [Act.put, List.getElem_toArray, List.getElem_cons_succ, List.getElem_cons_zero, List.setIfInBounds_toArray, List.set_cons_zero, List.set_cons_succ]
  refine wpAnyH_done (by kernel_rfl) ?_ _
  have HH3 := Lib.hid hH4.1
  clear hHeld0 hHeld hHeld2 hH3 hH4 hH6 kcd kcd0 kcm hbm HD HM
  go_upto_region 2 with (fail)
  have hHeld0 : (fun Wz : World => HF w w.heap.size v0 v1 v2 v3 v4 v5 v6 Wz) w3.drew := HH3.out.drew
  refine wp_region_held_drew (S := (fun Wz : World => HF w w.heap.size v0 v1 v2 v3 v4 v5 v6 Wz)) (by kernel_rfl) hHeld0 (fun hHeld => ?_)
  refine wpAnyH_take (i := 0) (v := ?_) rfl (by kernel_rfl) (by kernel_rfl) (by kernel_rfl) (fun _ _ _ h => h) (Or.inl ⟨by kernel_rfl, ?_⟩) (by assumption) ?_
  case refine_2 => (intro Wz hSw; go_simp; try with_reducible rfl)
  try simp only [Act.put, List.getElem_toArray, List.getElem_cons_zero, List.setIfInBounds_toArray, List.set_cons_zero, List.set_cons_succ]
  refine wpAnyH_take (i := 1) (v := .int .i64 v0) rfl (by kernel_rfl) (by kernel_rfl) (by kernel_rfl) (fun _ _ _ h => h) (Or.inl ⟨by kernel_rfl, ?_⟩) (by assumption) ?_
  case refine_1 => (intro Wz hSw; have u := hSw.cell 0 _ rfl; go_simp; try with_reducible rfl)
  try simp only [Act.put, List.getElem_toArray, List.getElem_cons_succ, List.getElem_cons_zero, List.setIfInBounds_toArray, List.set_cons_zero, List.set_cons_succ]
  refine wpAnyH_take (i := 2) (v := .int .i64 y1) rfl (by kernel_rfl) (by kernel_rfl) (by kernel_rfl) (fun _ _ _ h => h) (Or.inl ⟨by kernel_rfl, ?_⟩) (by assumption) ?_
  case refine_1 => (intro Wz hSw; have u := HQ1.out; go_simp; try with_reducible rfl)
  try simp only [Act.put, List.getElem_toArray, List.getElem_cons_succ, List.getElem_cons_zero, List.setIfInBounds_toArray, List.set_cons_zero, List.set_cons_succ]
  refine wpAnyH_take (i := 4) (v := ?_) rfl (by kernel_rfl) (by kernel_rfl) (by kernel_rfl) (fun _ _ _ h => h) (Or.inl ⟨by kernel_rfl, ?_⟩) (by assumption) ?_
  case refine_2 => (intro Wz hSw; go_simp; try with_reducible rfl)
  try simp only [Act.put, List.getElem_toArray, List.getElem_cons_succ, List.getElem_cons_zero, List.setIfInBounds_toArray, List.set_cons_zero, List.set_cons_succ]
  refine wpAnyH_take (i := 5) (v := .int .i64 v0) rfl (by kernel_rfl) (by kernel_rfl) (by kernel_rfl) (fun _ _ _ h => h) (Or.inl ⟨by kernel_rfl, ?_⟩) (by assumption) ?_
  case refine_1 => (intro Wz hSw; have u := hSw.cell 0 _ rfl; go_simp; try with_reducible rfl)
  try simp only [Act.put, List.getElem_toArray, List.getElem_cons_succ, List.getElem_cons_zero, List.setIfInBounds_toArray, List.set_cons_zero, List.set_cons_succ]
  refine wpAnyH_take (i := 6) (v := .int .i64 y2) rfl (by kernel_rfl) (by kernel_rfl) (by kernel_rfl) (fun _ _ _ h => h) (Or.inl ⟨by kernel_rfl, ?_⟩) (by assumption) ?_
  case refine_1 => (intro Wz hSw; have u := HQ2.out; have u2 := HQ3.out; go_simp; try with_reducible rfl)
  try simp only [Act.put, List.getElem_toArray, List.getElem_cons_succ, List.getElem_cons_zero, List.setIfInBounds_toArray, List.set_cons_zero, List.set_cons_succ]
  refine wpAnyH_ready (rs := [3]) (by kernel_rfl) (by simp) ?_
  refine AllReadyH.cons rfl (fun K hK => ?_) AllReadyH.nil
  go_simp
  refine (HT1.out _).mono ?_
  rintro e w4 ⟨rfl, hbb⟩
  have hHeldw4 : (fun Wz : World => HF w w.heap.size v0 v1 v2 v3 v4 v5 v6 Wz) w4 := hHeld0.later hbb
  clear hbb
  go_simp
  refine hK.out _ _ hHeldw4 (fun hHeld2 => ?_)
  clear hK K hHeld2
  try simp only [Act.put, List.getElem_toArray, List.getElem_cons_succ, List.getElem_cons_zero, List.setIfInBounds_toArray, List.set_cons_zero, List.set_cons_succ]
  refine wpAnyH_ready (rs := [7]) (by kernel_rfl) (by simp) ?_
  refine AllReadyH.cons rfl (fun K hK => ?_) AllReadyH.nil
  go_simp
  refine (HT2.out _).mono ?_
  rintro e w5 ⟨rfl, hbb⟩
  have hHeldw5 : (fun Wz : World => HF w w.heap.size v0 v1 v2 v3 v4 v5 v6 Wz) w5 := hHeldw4.later hbb
  clear hbb
  go_simp
  refine hK.out _ _ hHeldw5 (fun hHeld2 => ?_)
  clear hK K hHeld2
  try simp only [Act.put, List.getElem_toArray, List.getElem_cons_succ, List.getElem_cons_zero, List.setIfInBounds_toArray, List.set_cons_zero, List.set_cons_succ]
  refine wpAnyH_take (i := 8) (v := .string (mkS YY)) rfl (by kernel_rfl) (by kernel_rfl) (by kernel_rfl) (fun _ _ _ h => h) (Or.inl ⟨by kernel_rfl, ?_⟩) (by assumption) ?_
  case refine_1 => exact fun Wz hSw => by rw [HYY.out]; exact exec_addS _ _ (by rfl) _ _ (by rfl) (by rfl) (by first | omega | (simp only [List.length_cons, List.length_nil]; omega))
  try simp only [Act.put, List.getElem_toArray, List.getElem_cons_succ, List.getElem_cons_zero, List.setIfInBounds_toArray, List.set_cons_zero, List.set_cons_succ]
  refine wpAnyH_take (i := 9) (v := ?_) rfl (by kernel_rfl) (by kernel_rfl) (by kernel_rfl) (fun _ _ _ h => h) (Or.inl ⟨by kernel_rfl, ?_⟩) (by assumption) ?_
  case refine_2 => (intro Wz hSw; go_simp; try with_reducible rfl)
  try simp only [Act.put, List.getElem_toArray, List.getElem_cons_succ, List.getElem_cons_zero, List.setIfInBounds_toArray, List.set_cons_zero, List.set_cons_succ]
  refine wpAnyH_done (by kernel_rfl) ?_ _
  have HH5 := Lib.hid hHeldw5
  have d2 := hHeldw5.cell 2 _ rfl
  clear hHeld0 hHeld hHeldw4 hHeldw5 HH3

  go_wp2_with fail
  refine (HT3.out _).mono ?_
  rintro e w6 ⟨rfl, hbb⟩
  have HH6 := Lib.hid (HH5.out.later hbb)
  have d6 := HH6.out.cell 2 _ rfl
  clear hbb d2 HH5
  have hdcs : (v2 < 10 ∧ Hid ((⟨#[32]⟩ : ByteArray) ++ (mkS D2).extract 1 2 = mkS DD)) ∨ (¬ v2 < 10 ∧ Hid (mkS D2 = mkS DD)) := by
    by_cases hd : v2 < 10
    · exact .inl ⟨hd, HDs.out hd⟩
    · exact .inr ⟨hd, HDb.out (by omega)⟩
  clear HDs HDb
  have hz2 : (mkS D2).size = 2 := by rw [size_mkS]; exact t3
  rcases hdcs with ⟨hd10, HQ⟩ | ⟨hd10, HQ⟩
  all_goals
    go_upto_region 6 with (fail)
    rw [HQ.out]
    clear HQ hd10 hz2
    have hHeld0 : (fun Wz : World => HF w w.heap.size v0 v1 v2 v3 v4 v5 v6 Wz) w6.drew := HH6.out.drew
    refine wp_region_held_drew (S := (fun Wz : World => HF w w.heap.size v0 v1 v2 v3 v4 v5 v6 Wz)) (by kernel_rfl) hHeld0 (fun hHeld => ?_)
    refine wpAnyH_take (i := 0) (v := ?_) rfl (by kernel_rfl) (by kernel_rfl) (by kernel_rfl) (fun _ _ _ h => h) (Or.inl ⟨by kernel_rfl, ?_⟩) (by assumption) ?_
    case refine_2 => (intro Wz hSw; go_simp; try with_reducible rfl)
    try simp only [Act.put, List.getElem_toArray, List.getElem_cons_zero, List.setIfInBounds_toArray, List.set_cons_zero, List.set_cons_succ]
    refine wpAnyH_take (i := 1) (v := .string (mkS X3)) rfl (by kernel_rfl) (by kernel_rfl) (by kernel_rfl) (fun _ _ _ h => h) (Or.inl ⟨by kernel_rfl, ?_⟩) (by assumption) ?_
    case refine_1 => exact fun Wz hSw => by rw [HX3.out]; exact exec_take3 _ (by rfl) _ (by rfl) rfl (by omega)
    try simp only [Act.put, List.getElem_toArray, List.getElem_cons_succ, List.getElem_cons_zero, List.setIfInBounds_toArray, List.set_cons_zero, List.set_cons_succ]
    refine wpAnyH_take (i := 2) (v := .string (mkS A1)) rfl (by kernel_rfl) (by kernel_rfl) (by kernel_rfl) (fun _ _ _ h => h) (Or.inl ⟨by kernel_rfl, ?_⟩) (by assumption) ?_
    case refine_1 => exact fun Wz hSw => by rw [HA1.out]; exact exec_addS _ _ (by rfl) _ _ (by rfl) (by rfl) (by first | omega | (simp only [List.length_cons, List.length_nil]; omega))
    try simp only [Act.put, List.getElem_toArray, List.getElem_cons_succ, List.getElem_cons_zero, List.setIfInBounds_toArray, List.set_cons_zero, List.set_cons_succ]
    refine wpAnyH_take (i := 3) (v := ?_) rfl (by kernel_rfl) (by kernel_rfl) (by kernel_rfl) (fun _ _ _ h => h) (Or.inl ⟨by kernel_rfl, ?_⟩) (by assumption) ?_
    case refine_2 => (intro Wz hSw; go_simp; try with_reducible rfl)
    try simp only [Act.put, List.getElem_toArray, List.getElem_cons_succ, List.getElem_cons_zero, List.setIfInBounds_toArray, List.set_cons_zero, List.set_cons_succ]
    refine wpAnyH_take (i := 4) (v := .int .i64 v2) rfl (by kernel_rfl) (by kernel_rfl) (by kernel_rfl) (fun _ _ _ h => h) (Or.inl ⟨by kernel_rfl, ?_⟩) (by assumption) ?_
    case refine_1 => (intro Wz hSw; have u := hSw.cell 2 _ rfl; go_simp; try with_reducible rfl)
    try simp only [Act.put, List.getElem_toArray, List.getElem_cons_succ, List.getElem_cons_zero, List.setIfInBounds_toArray, List.set_cons_zero, List.set_cons_succ]
    refine wpAnyH_take (i := 8) (v := ?_) rfl (by kernel_rfl) (by kernel_rfl) (by kernel_rfl) (fun _ _ _ h => h) (Or.inl ⟨by kernel_rfl, ?_⟩) (by assumption) ?_
    case refine_2 => (intro Wz hSw; go_simp; try with_reducible rfl)
    try simp only [Act.put, List.getElem_toArray, List.getElem_cons_succ, List.getElem_cons_zero, List.setIfInBounds_toArray, List.set_cons_zero, List.set_cons_succ]
    refine wpAnyH_take (i := 11) (v := ?_) rfl (by kernel_rfl) (by kernel_rfl) (by kernel_rfl) (fun _ _ _ h => h) (Or.inl ⟨by kernel_rfl, ?_⟩) (by assumption) ?_
    case refine_2 => (intro Wz hSw; go_simp; try with_reducible rfl)
    try simp only [Act.put, List.getElem_toArray, List.getElem_cons_succ, List.getElem_cons_zero, List.setIfInBounds_toArray, List.set_cons_zero, List.set_cons_succ]
    refine wpAnyH_take (i := 14) (v := .agg #[.int .i64 v0, .int .i64 v1, .int .i64 v2, .int .i64 v3, .int .i64 v4, .int .i64 v5, .int .i64 v6]) rfl (by kernel_rfl) (by kernel_rfl) (by kernel_rfl) (fun _ _ _ h => h) (Or.inl ⟨by kernel_rfl, ?_⟩) (by assumption) ?_
    case refine_1 => exact fun Wz hSw => exec_loadE _ _ (by rfl) _ _ #[.int .i64 v0, .int .i64 v1, .int .i64 v2, .int .i64 v3, .int .i64 v4, .int .i64 v5, .int .i64 v6] (0, 0) _ (by rfl) hSw.bx Tryz.underlying194 rfl (by kernel_rfl)
    try simp only [Act.put, List.getElem_toArray, List.getElem_cons_succ, List.getElem_cons_zero, List.setIfInBounds_toArray, List.set_cons_zero, List.set_cons_succ]
    refine wpAnyH_take (i := 18) (v := ?_) rfl (by kernel_rfl) (by kernel_rfl) (by kernel_rfl) (fun _ _ _ h => h) (Or.inl ⟨by kernel_rfl, ?_⟩) (by assumption) ?_
    case refine_2 => (intro Wz hSw; go_simp; try with_reducible rfl)
    try simp only [Act.put, List.getElem_toArray, List.getElem_cons_succ, List.getElem_cons_zero, List.setIfInBounds_toArray, List.set_cons_zero, List.set_cons_succ]
    refine wpAnyH_take (i := 19) (v := .string (mkS B1)) rfl (by kernel_rfl) (by kernel_rfl) (by kernel_rfl) (fun _ _ _ h => h) (Or.inl ⟨by kernel_rfl, ?_⟩) (by assumption) ?_
    case refine_1 => exact fun Wz hSw => by rw [HB1.out]; exact exec_addS _ _ (by rfl) _ _ (by rfl) (by rfl) (by first | omega | (simp only [List.length_cons, List.length_nil]; omega))
    try simp only [Act.put, List.getElem_toArray, List.getElem_cons_succ, List.getElem_cons_zero, List.setIfInBounds_toArray, List.set_cons_zero, List.set_cons_succ]
    refine wpAnyH_take (i := 20) (v := ?_) rfl (by kernel_rfl) (by kernel_rfl) (by kernel_rfl) (fun _ _ _ h => h) (Or.inl ⟨by kernel_rfl, ?_⟩) (by assumption) ?_
    case refine_2 => (intro Wz hSw; go_simp; try with_reducible rfl)
    try simp only [Act.put, List.getElem_toArray, List.getElem_cons_succ, List.getElem_cons_zero, List.setIfInBounds_toArray, List.set_cons_zero, List.set_cons_succ]
    refine wpAnyH_take (i := 21) (v := .int .i64 v2) rfl (by kernel_rfl) (by kernel_rfl) (by kernel_rfl) (fun _ _ _ h => h) (Or.inl ⟨by kernel_rfl, ?_⟩) (by assumption) ?_
    case refine_1 => (intro Wz hSw; have u := hSw.cell 2 _ rfl; go_simp; try with_reducible rfl)
    try simp only [Act.put, List.getElem_toArray, List.getElem_cons_succ, List.getElem_cons_zero, List.setIfInBounds_toArray, List.set_cons_zero, List.set_cons_succ]
    refine wpAnyH_take (i := 25) (v := ?_) rfl (by kernel_rfl) (by kernel_rfl) (by kernel_rfl) (fun _ _ _ h => h) (Or.inl ⟨by kernel_rfl, ?_⟩) (by assumption) ?_
    case refine_2 => (intro Wz hSw; go_simp; try with_reducible rfl)
    try simp only [Act.put, List.getElem_toArray, List.getElem_cons_succ, List.getElem_cons_zero, List.setIfInBounds_toArray, List.set_cons_zero, List.set_cons_succ]
    refine wpAnyH_take (i := 28) (v := ?_) rfl (by kernel_rfl) (by kernel_rfl) (by kernel_rfl) (fun _ _ _ h => h) (Or.inl ⟨by kernel_rfl, ?_⟩) (by assumption) ?_
    case refine_2 => (intro Wz hSw; go_simp; try with_reducible rfl)
    try simp only [Act.put, List.getElem_toArray, List.getElem_cons_succ, List.getElem_cons_zero, List.setIfInBounds_toArray, List.set_cons_zero, List.set_cons_succ]
    refine wpAnyH_take (i := 29) (v := .int .i64 v0) rfl (by kernel_rfl) (by kernel_rfl) (by kernel_rfl) (fun _ _ _ h => h) (Or.inl ⟨by kernel_rfl, ?_⟩) (by assumption) ?_
    case refine_1 => (intro Wz hSw; have u := hSw.cell 0 _ rfl; go_simp; try with_reducible rfl)
    try simp only [Act.put, List.getElem_toArray, List.getElem_cons_succ, List.getElem_cons_zero, List.setIfInBounds_toArray, List.set_cons_zero, List.set_cons_succ]
    refine wpAnyH_take (i := 30) (v := .int .i64 y2) rfl (by kernel_rfl) (by kernel_rfl) (by kernel_rfl) (fun _ _ _ h => h) (Or.inl ⟨by kernel_rfl, ?_⟩) (by assumption) ?_
    case refine_1 => (intro Wz hSw; have u := HQ2.out; have u2 := HQ3.out; go_simp; try with_reducible rfl)
    try simp only [Act.put, List.getElem_toArray, List.getElem_cons_succ, List.getElem_cons_zero, List.setIfInBounds_toArray, List.set_cons_zero, List.set_cons_succ]
    refine wpAnyH_take (i := 34) (v := .agg #[.int .i64 v0, .int .i64 v1, .int .i64 v2, .int .i64 v3, .int .i64 v4, .int .i64 v5, .int .i64 v6]) rfl (by kernel_rfl) (by kernel_rfl) (by kernel_rfl) (fun _ _ _ h => h) (Or.inl ⟨by kernel_rfl, ?_⟩) (by assumption) ?_
    case refine_1 => exact fun Wz hSw => exec_loadE _ _ (by rfl) _ _ #[.int .i64 v0, .int .i64 v1, .int .i64 v2, .int .i64 v3, .int .i64 v4, .int .i64 v5, .int .i64 v6] (0, 0) _ (by rfl) hSw.bx Tryz.underlying194 rfl (by kernel_rfl)
    try simp only [Act.put, List.getElem_toArray, List.getElem_cons_succ, List.getElem_cons_zero, List.setIfInBounds_toArray, List.set_cons_zero, List.set_cons_succ]
    refine wpAnyH_take (i := 38) (v := ?_) rfl (by kernel_rfl) (by kernel_rfl) (by kernel_rfl) (fun _ _ _ h => h) (Or.inl ⟨by kernel_rfl, ?_⟩) (by assumption) ?_
    case refine_2 => (intro Wz hSw; go_simp; try with_reducible rfl)
    try simp only [Act.put, List.getElem_toArray, List.getElem_cons_succ, List.getElem_cons_zero, List.setIfInBounds_toArray, List.set_cons_zero, List.set_cons_succ]
    refine wpAnyH_take (i := 39) (v := .string (mkS X3)) rfl (by kernel_rfl) (by kernel_rfl) (by kernel_rfl) (fun _ _ _ h => h) (Or.inl ⟨by kernel_rfl, ?_⟩) (by assumption) ?_
    case refine_1 => exact fun Wz hSw => by rw [HX3.out]; exact exec_take3 _ (by rfl) _ (by rfl) rfl (by omega)
    try simp only [Act.put, List.getElem_toArray, List.getElem_cons_succ, List.getElem_cons_zero, List.setIfInBounds_toArray, List.set_cons_zero, List.set_cons_succ]
    refine wpAnyH_take (i := 40) (v := .string (mkS C1)) rfl (by kernel_rfl) (by kernel_rfl) (by kernel_rfl) (fun _ _ _ h => h) (Or.inl ⟨by kernel_rfl, ?_⟩) (by assumption) ?_
    case refine_1 => exact fun Wz hSw => by rw [HC1.out]; exact exec_addS _ _ (by rfl) _ _ (by rfl) (by rfl) (by first | omega | (simp only [List.length_cons, List.length_nil]; omega))
    try simp only [Act.put, List.getElem_toArray, List.getElem_cons_succ, List.getElem_cons_zero, List.setIfInBounds_toArray, List.set_cons_zero, List.set_cons_succ]
    refine wpAnyH_take (i := 41) (v := ?_) rfl (by kernel_rfl) (by kernel_rfl) (by kernel_rfl) (fun _ _ _ h => h) (Or.inl ⟨by kernel_rfl, ?_⟩) (by assumption) ?_
    case refine_2 => (intro Wz hSw; go_simp; try with_reducible rfl)
    try simp only [Act.put, List.getElem_toArray, List.getElem_cons_succ, List.getElem_cons_zero, List.setIfInBounds_toArray, List.set_cons_zero, List.set_cons_succ]
    refine wpAnyH_take (i := 42) (v := .string (mkS C2)) rfl (by kernel_rfl) (by kernel_rfl) (by kernel_rfl) (fun _ _ _ h => h) (Or.inl ⟨by kernel_rfl, ?_⟩) (by assumption) ?_
    case refine_1 => exact fun Wz hSw => by rw [HC2.out]; exact exec_addS _ _ (by rfl) _ _ (by rfl) (by rfl) (by first | omega | (simp only [List.length_cons, List.length_nil]; omega))
    try simp only [Act.put, List.getElem_toArray, List.getElem_cons_succ, List.getElem_cons_zero, List.setIfInBounds_toArray, List.set_cons_zero, List.set_cons_succ]
    refine wpAnyH_take (i := 43) (v := .string (mkS C3)) rfl (by kernel_rfl) (by kernel_rfl) (by kernel_rfl) (fun _ _ _ h => h) (Or.inl ⟨by kernel_rfl, ?_⟩) (by assumption) ?_
    case refine_1 => exact fun Wz hSw => by rw [HC3.out]; exact exec_addS _ _ (by rfl) _ _ (by rfl) (by rfl) (by first | omega | (simp only [List.length_cons, List.length_nil]; omega))
    try simp only [Act.put, List.getElem_toArray, List.getElem_cons_succ, List.getElem_cons_zero, List.setIfInBounds_toArray, List.set_cons_zero, List.set_cons_succ]
    refine wpAnyH_take (i := 44) (v := ?_) rfl (by kernel_rfl) (by kernel_rfl) (by kernel_rfl) (fun _ _ _ h => h) (Or.inl ⟨by kernel_rfl, ?_⟩) (by assumption) ?_
    case refine_2 => (intro Wz hSw; go_simp; try with_reducible rfl)
    try simp only [Act.put, List.getElem_toArray, List.getElem_cons_succ, List.getElem_cons_zero, List.setIfInBounds_toArray, List.set_cons_zero, List.set_cons_succ]
    refine wpAnyH_take (i := 45) (v := .string (mkS C4)) rfl (by kernel_rfl) (by kernel_rfl) (by kernel_rfl) (fun _ _ _ h => h) (Or.inl ⟨by kernel_rfl, ?_⟩) (by assumption) ?_
    case refine_1 => exact fun Wz hSw => by rw [HC4.out]; exact exec_addS _ _ (by rfl) _ _ (by rfl) (by rfl) (by first | omega | (simp only [List.length_cons, List.length_nil]; omega))
    try simp only [Act.put, List.getElem_toArray, List.getElem_cons_succ, List.getElem_cons_zero, List.setIfInBounds_toArray, List.set_cons_zero, List.set_cons_succ]
    refine wpAnyH_take (i := 46) (v := .string (mkS C5)) rfl (by kernel_rfl) (by kernel_rfl) (by kernel_rfl) (fun _ _ _ h => h) (Or.inl ⟨by kernel_rfl, ?_⟩) (by assumption) ?_
    case refine_1 => exact fun Wz hSw => by rw [HC5.out]; exact exec_addS _ _ (by rfl) _ _ (by rfl) (by rfl) (by first | omega | (simp only [List.length_cons, List.length_nil]; omega))
    try simp only [Act.put, List.getElem_toArray, List.getElem_cons_succ, List.getElem_cons_zero, List.setIfInBounds_toArray, List.set_cons_zero, List.set_cons_succ]
    refine wpAnyH_take (i := 47) (v := .agg #[.int .i64 v0, .int .i64 v1, .int .i64 v2, .int .i64 v3, .int .i64 v4, .int .i64 v5, .int .i64 v6]) rfl (by kernel_rfl) (by kernel_rfl) (by kernel_rfl) (fun _ _ _ h => h) (Or.inl ⟨by kernel_rfl, ?_⟩) (by assumption) ?_
    case refine_1 => exact fun Wz hSw => exec_loadE _ _ (by rfl) _ _ #[.int .i64 v0, .int .i64 v1, .int .i64 v2, .int .i64 v3, .int .i64 v4, .int .i64 v5, .int .i64 v6] (0, 0) _ (by rfl) hSw.bx Tryz.underlying194 rfl (by kernel_rfl)
    try simp only [Act.put, List.getElem_toArray, List.getElem_cons_succ, List.getElem_cons_zero, List.setIfInBounds_toArray, List.set_cons_zero, List.set_cons_succ]
    refine wpAnyH_take (i := 51) (v := ?_) rfl (by kernel_rfl) (by kernel_rfl) (by kernel_rfl) (fun _ _ _ h => h) (Or.inl ⟨by kernel_rfl, ?_⟩) (by assumption) ?_
    case refine_2 => (intro Wz hSw; go_simp; try with_reducible rfl)
    try simp only [Act.put, List.getElem_toArray, List.getElem_cons_succ, List.getElem_cons_zero, List.setIfInBounds_toArray, List.set_cons_zero, List.set_cons_succ]
    refine wpAnyH_ready (rs := [5]) (by kernel_rfl) (by simp) ?_
    refine AllReadyH.cons rfl (fun K hK => ?_) AllReadyH.nil
    go_simp
    refine (HT3.out _).mono ?_
    rintro e q1 ⟨rfl, hbb⟩
    have hHeldq1 : (fun Wz : World => HF w w.heap.size v0 v1 v2 v3 v4 v5 v6 Wz) q1 := hHeld0.later hbb
    clear hbb
    go_simp
    refine hK.out _ _ hHeldq1 (fun hHeld2 => ?_)
    clear hK K hHeld2
    try simp only [Act.put, List.getElem_toArray, List.getElem_cons_succ, List.getElem_cons_zero, List.setIfInBounds_toArray, List.set_cons_zero, List.set_cons_succ]
    refine wpAnyH_take (i := 6) (v := .string (mkS A2)) rfl (by kernel_rfl) (by kernel_rfl) (by kernel_rfl) (fun _ _ _ h => h) (Or.inl ⟨by kernel_rfl, ?_⟩) (by assumption) ?_
    case refine_1 => exact fun Wz hSw => by rw [HA2.out]; exact exec_addS _ _ (by rfl) _ _ (by rfl) (by rfl) (by first | omega | (simp only [List.length_cons, List.length_nil]; omega))
    try simp only [Act.put, List.getElem_toArray, List.getElem_cons_succ, List.getElem_cons_zero, List.setIfInBounds_toArray, List.set_cons_zero, List.set_cons_succ]
    refine wpAnyH_take (i := 7) (v := .string (mkS A3)) rfl (by kernel_rfl) (by kernel_rfl) (by kernel_rfl) (fun _ _ _ h => h) (Or.inl ⟨by kernel_rfl, ?_⟩) (by assumption) ?_
    case refine_1 => exact fun Wz hSw => by rw [HA3.out]; exact exec_addS _ _ (by rfl) _ _ (by rfl) (by rfl) (by first | omega | (simp only [List.length_cons, List.length_nil]; omega))
    try simp only [Act.put, List.getElem_toArray, List.getElem_cons_succ, List.getElem_cons_zero, List.setIfInBounds_toArray, List.set_cons_zero, List.set_cons_succ]
    refine wpAnyH_take (i := 9) (v := .string (mkS A4)) rfl (by kernel_rfl) (by kernel_rfl) (by kernel_rfl) (fun _ _ _ h => h) (Or.inl ⟨by kernel_rfl, ?_⟩) (by assumption) ?_
    case refine_1 => exact fun Wz hSw => by rw [HA4.out]; exact exec_addS _ _ (by rfl) _ _ (by rfl) (by rfl) (by first | omega | (simp only [List.length_cons, List.length_nil]; omega))
    try simp only [Act.put, List.getElem_toArray, List.getElem_cons_succ, List.getElem_cons_zero, List.setIfInBounds_toArray, List.set_cons_zero, List.set_cons_succ]
    refine wpAnyH_take (i := 10) (v := .string (mkS A5)) rfl (by kernel_rfl) (by kernel_rfl) (by kernel_rfl) (fun _ _ _ h => h) (Or.inl ⟨by kernel_rfl, ?_⟩) (by assumption) ?_
    case refine_1 => exact fun Wz hSw => by rw [HA5.out]; exact exec_addS _ _ (by rfl) _ _ (by rfl) (by rfl) (by first | omega | (simp only [List.length_cons, List.length_nil]; omega))
    try simp only [Act.put, List.getElem_toArray, List.getElem_cons_succ, List.getElem_cons_zero, List.setIfInBounds_toArray, List.set_cons_zero, List.set_cons_succ]
    refine wpAnyH_take (i := 12) (v := .string (mkS A6)) rfl (by kernel_rfl) (by kernel_rfl) (by kernel_rfl) (fun _ _ _ h => h) (Or.inl ⟨by kernel_rfl, ?_⟩) (by assumption) ?_
    case refine_1 => exact fun Wz hSw => by rw [HA6.out]; exact exec_addS _ _ (by rfl) _ _ (by rfl) (by rfl) (by first | omega | (simp only [List.length_cons, List.length_nil]; omega))
    try simp only [Act.put, List.getElem_toArray, List.getElem_cons_succ, List.getElem_cons_zero, List.setIfInBounds_toArray, List.set_cons_zero, List.set_cons_succ]
    refine wpAnyH_take (i := 13) (v := .string (mkS A7)) rfl (by kernel_rfl) (by kernel_rfl) (by kernel_rfl) (fun _ _ _ h => h) (Or.inl ⟨by kernel_rfl, ?_⟩) (by assumption) ?_
    case refine_1 => exact fun Wz hSw => by rw [HA7.out]; exact exec_addS _ _ (by rfl) _ _ (by rfl) (by rfl) (by first | omega | (simp only [List.length_cons, List.length_nil]; omega))
    try simp only [Act.put, List.getElem_toArray, List.getElem_cons_succ, List.getElem_cons_zero, List.setIfInBounds_toArray, List.set_cons_zero, List.set_cons_succ]
    refine wpAnyH_ready (rs := [15]) (by kernel_rfl) (by simp) ?_
    refine AllReadyH.cons rfl (fun K hK => ?_) AllReadyH.nil
    go_simp
    refine (HCk.out _).mono ?_
    rintro e q2 ⟨rfl, hbb⟩
    have hHeldq2 : (fun Wz : World => HF w w.heap.size v0 v1 v2 v3 v4 v5 v6 Wz) q2 := hHeldq1.later hbb
    clear hbb
    go_simp
    refine hK.out _ _ hHeldq2 (fun hHeld2 => ?_)
    clear hK K hHeld2
    try simp only [Act.put, List.getElem_toArray, List.getElem_cons_succ, List.getElem_cons_zero, List.setIfInBounds_toArray, List.set_cons_zero, List.set_cons_succ]
    refine wpAnyH_take (i := 16) (v := .string (mkS A8)) rfl (by kernel_rfl) (by kernel_rfl) (by kernel_rfl) (fun _ _ _ h => h) (Or.inl ⟨by kernel_rfl, ?_⟩) (by assumption) ?_
    case refine_1 => exact fun Wz hSw => by rw [HA8.out]; exact exec_addS _ _ (by rfl) _ _ (by rfl) (by rfl) (by first | omega | (simp only [List.length_cons, List.length_nil]; omega))
    try simp only [Act.put, List.getElem_toArray, List.getElem_cons_succ, List.getElem_cons_zero, List.setIfInBounds_toArray, List.set_cons_zero, List.set_cons_succ]
    refine wpAnyH_take (i := 17) (v := .string (mkS A9)) rfl (by kernel_rfl) (by kernel_rfl) (by kernel_rfl) (fun _ _ _ h => h) (Or.inl ⟨by kernel_rfl, ?_⟩) (by assumption) ?_
    case refine_1 => exact fun Wz hSw => by rw [HA9.out]; exact exec_addS _ _ (by rfl) _ _ (by rfl) (by rfl) (by first | omega | (simp only [List.length_cons, List.length_nil]; omega))
    try simp only [Act.put, List.getElem_toArray, List.getElem_cons_succ, List.getElem_cons_zero, List.setIfInBounds_toArray, List.set_cons_zero, List.set_cons_succ]
    refine wpAnyH_ready (rs := [22]) (by kernel_rfl) (by simp) ?_
    refine AllReadyH.cons rfl (fun K hK => ?_) AllReadyH.nil
    go_simp
    refine (HT3.out _).mono ?_
    rintro e q3 ⟨rfl, hbb⟩
    have hHeldq3 : (fun Wz : World => HF w w.heap.size v0 v1 v2 v3 v4 v5 v6 Wz) q3 := hHeldq2.later hbb
    clear hbb
    go_simp
    refine hK.out _ _ hHeldq3 (fun hHeld2 => ?_)
    clear hK K hHeld2
    try simp only [Act.put, List.getElem_toArray, List.getElem_cons_succ, List.getElem_cons_zero, List.setIfInBounds_toArray, List.set_cons_zero, List.set_cons_succ]
    refine wpAnyH_take (i := 23) (v := .string (mkS B2)) rfl (by kernel_rfl) (by kernel_rfl) (by kernel_rfl) (fun _ _ _ h => h) (Or.inl ⟨by kernel_rfl, ?_⟩) (by assumption) ?_
    case refine_1 => exact fun Wz hSw => by rw [HB2.out]; exact exec_addS _ _ (by rfl) _ _ (by rfl) (by rfl) (by first | omega | (simp only [List.length_cons, List.length_nil]; omega))
    try simp only [Act.put, List.getElem_toArray, List.getElem_cons_succ, List.getElem_cons_zero, List.setIfInBounds_toArray, List.set_cons_zero, List.set_cons_succ]
    refine wpAnyH_take (i := 24) (v := .string (mkS B3)) rfl (by kernel_rfl) (by kernel_rfl) (by kernel_rfl) (fun _ _ _ h => h) (Or.inl ⟨by kernel_rfl, ?_⟩) (by assumption) ?_
    case refine_1 => exact fun Wz hSw => by rw [HB3.out]; exact exec_addS _ _ (by rfl) _ _ (by rfl) (by rfl) (by first | omega | (simp only [List.length_cons, List.length_nil]; omega))
    try simp only [Act.put, List.getElem_toArray, List.getElem_cons_succ, List.getElem_cons_zero, List.setIfInBounds_toArray, List.set_cons_zero, List.set_cons_succ]
    refine wpAnyH_take (i := 26) (v := .string (mkS B4)) rfl (by kernel_rfl) (by kernel_rfl) (by kernel_rfl) (fun _ _ _ h => h) (Or.inl ⟨by kernel_rfl, ?_⟩) (by assumption) ?_
    case refine_1 => exact fun Wz hSw => by rw [HB4.out]; exact exec_addS _ _ (by rfl) _ _ (by rfl) (by rfl) (by first | omega | (simp only [List.length_cons, List.length_nil]; omega))
    try simp only [Act.put, List.getElem_toArray, List.getElem_cons_succ, List.getElem_cons_zero, List.setIfInBounds_toArray, List.set_cons_zero, List.set_cons_succ]
    refine wpAnyH_take (i := 27) (v := .string (mkS B5)) rfl (by kernel_rfl) (by kernel_rfl) (by kernel_rfl) (fun _ _ _ h => h) (Or.inl ⟨by kernel_rfl, ?_⟩) (by assumption) ?_
    case refine_1 => exact fun Wz hSw => by rw [HB5.out]; exact exec_addS _ _ (by rfl) _ _ (by rfl) (by rfl) (by first | omega | (simp only [List.length_cons, List.length_nil]; omega))
    try simp only [Act.put, List.getElem_toArray, List.getElem_cons_succ, List.getElem_cons_zero, List.setIfInBounds_toArray, List.set_cons_zero, List.set_cons_succ]
    refine wpAnyH_ready (rs := [31]) (by kernel_rfl) (by simp) ?_
    refine AllReadyH.cons rfl (fun K hK => ?_) AllReadyH.nil
    go_simp
    refine (HT2.out _).mono ?_
    rintro e q4 ⟨rfl, hbb⟩
    have hHeldq4 : (fun Wz : World => HF w w.heap.size v0 v1 v2 v3 v4 v5 v6 Wz) q4 := hHeldq3.later hbb
    clear hbb
    go_simp
    refine hK.out _ _ hHeldq4 (fun hHeld2 => ?_)
    clear hK K hHeld2
    try simp only [Act.put, List.getElem_toArray, List.getElem_cons_succ, List.getElem_cons_zero, List.setIfInBounds_toArray, List.set_cons_zero, List.set_cons_succ]
    refine wpAnyH_take (i := 32) (v := .string (mkS B6)) rfl (by kernel_rfl) (by kernel_rfl) (by kernel_rfl) (fun _ _ _ h => h) (Or.inl ⟨by kernel_rfl, ?_⟩) (by assumption) ?_
    case refine_1 => exact fun Wz hSw => by rw [HB6.out]; exact exec_addS _ _ (by rfl) _ _ (by rfl) (by rfl) (by first | omega | (simp only [List.length_cons, List.length_nil]; omega))
    try simp only [Act.put, List.getElem_toArray, List.getElem_cons_succ, List.getElem_cons_zero, List.setIfInBounds_toArray, List.set_cons_zero, List.set_cons_succ]
    refine wpAnyH_take (i := 33) (v := .string (mkS B7)) rfl (by kernel_rfl) (by kernel_rfl) (by kernel_rfl) (fun _ _ _ h => h) (Or.inl ⟨by kernel_rfl, ?_⟩) (by assumption) ?_
    case refine_1 => exact fun Wz hSw => by rw [HB7.out]; exact exec_addS _ _ (by rfl) _ _ (by rfl) (by rfl) (by first | omega | (simp only [List.length_cons, List.length_nil]; omega))
    try simp only [Act.put, List.getElem_toArray, List.getElem_cons_succ, List.getElem_cons_zero, List.setIfInBounds_toArray, List.set_cons_zero, List.set_cons_succ]
    refine wpAnyH_ready (rs := [35]) (by kernel_rfl) (by simp) ?_
    refine AllReadyH.cons rfl (fun K hK => ?_) AllReadyH.nil
    go_simp
    refine (HCk.out _).mono ?_
    rintro e q5 ⟨rfl, hbb⟩
    have hHeldq5 : (fun Wz : World => HF w w.heap.size v0 v1 v2 v3 v4 v5 v6 Wz) q5 := hHeldq4.later hbb
    clear hbb
    go_simp
    refine hK.out _ _ hHeldq5 (fun hHeld2 => ?_)
    clear hK K hHeld2
    try simp only [Act.put, List.getElem_toArray, List.getElem_cons_succ, List.getElem_cons_zero, List.setIfInBounds_toArray, List.set_cons_zero, List.set_cons_succ]
    refine wpAnyH_take (i := 36) (v := .string (mkS B8)) rfl (by kernel_rfl) (by kernel_rfl) (by kernel_rfl) (fun _ _ _ h => h) (Or.inl ⟨by kernel_rfl, ?_⟩) (by assumption) ?_
    case refine_1 => exact fun Wz hSw => by rw [HB8.out]; exact exec_addS _ _ (by rfl) _ _ (by rfl) (by rfl) (by first | omega | (simp only [List.length_cons, List.length_nil]; omega))
    try simp only [Act.put, List.getElem_toArray, List.getElem_cons_succ, List.getElem_cons_zero, List.setIfInBounds_toArray, List.set_cons_zero, List.set_cons_succ]
    refine wpAnyH_take (i := 37) (v := .string (mkS B9)) rfl (by kernel_rfl) (by kernel_rfl) (by kernel_rfl) (fun _ _ _ h => h) (Or.inl ⟨by kernel_rfl, ?_⟩) (by assumption) ?_
    case refine_1 => exact fun Wz hSw => by rw [HB9.out]; exact exec_addS _ _ (by rfl) _ _ (by rfl) (by rfl) (by first | omega | (simp only [List.length_cons, List.length_nil]; omega))
    try simp only [Act.put, List.getElem_toArray, List.getElem_cons_succ, List.getElem_cons_zero, List.setIfInBounds_toArray, List.set_cons_zero, List.set_cons_succ]
    refine wpAnyH_ready (rs := [48]) (by kernel_rfl) (by simp) ?_
    refine AllReadyH.cons rfl (fun K hK => ?_) AllReadyH.nil
    go_simp
    refine (HCk.out _).mono ?_
    rintro e q6 ⟨rfl, hbb⟩
    have hHeldq6 : (fun Wz : World => HF w w.heap.size v0 v1 v2 v3 v4 v5 v6 Wz) q6 := hHeldq5.later hbb
    clear hbb
    go_simp
    refine hK.out _ _ hHeldq6 (fun hHeld2 => ?_)
    clear hK K hHeld2
    try simp only [Act.put, List.getElem_toArray, List.getElem_cons_succ, List.getElem_cons_zero, List.setIfInBounds_toArray, List.set_cons_zero, List.set_cons_succ]
    refine wpAnyH_take (i := 49) (v := .string (mkS C6)) rfl (by kernel_rfl) (by kernel_rfl) (by kernel_rfl) (fun _ _ _ h => h) (Or.inl ⟨by kernel_rfl, ?_⟩) (by assumption) ?_
    case refine_1 => exact fun Wz hSw => by rw [HC6.out]; exact exec_addS _ _ (by rfl) _ _ (by rfl) (by rfl) (by first | omega | (simp only [List.length_cons, List.length_nil]; omega))
    try simp only [Act.put, List.getElem_toArray, List.getElem_cons_succ, List.getElem_cons_zero, List.setIfInBounds_toArray, List.set_cons_zero, List.set_cons_succ]
    refine wpAnyH_take (i := 50) (v := .string (mkS C7)) rfl (by kernel_rfl) (by kernel_rfl) (by kernel_rfl) (fun _ _ _ h => h) (Or.inl ⟨by kernel_rfl, ?_⟩) (by assumption) ?_
    case refine_1 => exact fun Wz hSw => by rw [HC7.out]; exact exec_addS _ _ (by rfl) _ _ (by rfl) (by rfl) (by first | omega | (simp only [List.length_cons, List.length_nil]; omega))
    try simp only [Act.put, List.getElem_toArray, List.getElem_cons_succ, List.getElem_cons_zero, List.setIfInBounds_toArray, List.set_cons_zero, List.set_cons_succ]
    refine wpAnyH_take (i := 52) (v := .string (mkS C8)) rfl (by kernel_rfl) (by kernel_rfl) (by kernel_rfl) (fun _ _ _ h => h) (Or.inl ⟨by kernel_rfl, ?_⟩) (by assumption) ?_
    case refine_1 => exact fun Wz hSw => by rw [HC8.out]; exact exec_addS _ _ (by rfl) _ _ (by rfl) (by rfl) (by first | omega | (simp only [List.length_cons, List.length_nil]; omega))
    try simp only [Act.put, List.getElem_toArray, List.getElem_cons_succ, List.getElem_cons_zero, List.setIfInBounds_toArray, List.set_cons_zero, List.set_cons_succ]
    refine wpAnyH_ready (rs := [53]) (by kernel_rfl) (by simp) ?_
    refine AllReadyH.cons rfl (fun K hK => ?_) AllReadyH.nil
    go_simp
    have hHeldz : (fun Wz : World => HF w w.heap.size v0 v1 v2 v3 v4 v5 v6 Wz) (q6.alloc (Obj.cells #[.string (mkS (A9)), .string (mkS (B9)), .string (mkS (C8))] 9)) := hHeldq6.later ((Below.refl _ _).alloc (Nat.le_refl _) _)
    refine hK.out _ _ hHeldz (fun hHeld2 => ?_)
    clear hK K hHeld2
    try simp only [Act.put, List.getElem_toArray, List.getElem_cons_succ, List.getElem_cons_zero, List.setIfInBounds_toArray, List.set_cons_zero, List.set_cons_succ]
    refine wpAnyH_take (i := 54) (v := ?_) rfl (by kernel_rfl) (by kernel_rfl) (by kernel_rfl) (fun _ _ _ h => h) (Or.inl ⟨by kernel_rfl, ?_⟩) (by assumption) ?_
    case refine_2 => (intro Wz hSw; go_simp; try with_reducible rfl)
    try simp only [Act.put, List.getElem_toArray, List.getElem_cons_succ, List.getElem_cons_zero, List.setIfInBounds_toArray, List.set_cons_zero, List.set_cons_succ]
    refine wpAnyH_done (by kernel_rfl) ?_ _
    go_wp2_with fail
    go_ret
    refine ⟨q6.heap.size, rfl, hHeldq6.bl.size, (Array.getElem?_eq_some_iff.1 (heap_alloc_last _ _)).1, ?_, hHeldz.bl⟩
    rw [HA9e.out, HB9e.out, HC8e.out]
    exact heap_alloc_last _ _


set_option maxHeartbeats 4000000 in
set_option maxRecDepth 100000 in
theorem rformat_any (t : Int) (w : World) (ht : -9223372036854775808 ≤ t ∧ t ≤ 9223372036854775807) :
    Calls Tryz.prog 114 #[.int .i64 t] w (FmtPost t w) := by
  have hC := rcivil_any t w ht
  unfold CivPost at hC
  unfold FmtPost
  have HB0 : Hid (∀ c, ∀ w1, Below w.heap.size w w1 → Below w.heap.size w (w1.alloc (.cells (cvC c) 194))) := fun c w1 h => h.alloc h.size _
  cases hk : okT t
  · obtain ⟨h1, h2⟩ := civX_bad hk
    rw [h1, h2] at hC
    have HC := Lib.hid hC
    have HV := Lib.hid (show fmtL t = [] by unfold fmtL; rw [hk]; rfl)
    have HE := Lib.hid h2
    clear hC h1 h2 hk
    unfold cvV at HC
    unfold cvC at HB0
    go_enter Tryz.func114, Tryz.ntmps114
    go_wp2_with fail
    refine HC.out.mono ?_
    rintro e w1 ⟨rfl, hb⟩
    have HB := Lib.hid hb
    clear hb
    go_wp2_with fail
    go_ret2
    exact ⟨retSE (by rw [HV.out]; rfl) HE.out.symm, HB0.out ⟨0, 0, 0, 0, 0, 0, 0⟩ _ HB.out⟩
  · obtain ⟨h1, h2⟩ := civX_ok hk
    rw [h1, h2] at hC
    have hr := civ_rg ((okT_iff t).1 hk).1 ((okT_iff t).1 hk).2
    have HV := Lib.hid (show mkS (fmtL t) = mkS (fA (civ t)) by unfold fmtL; rw [if_pos hk])
    have HE := Lib.hid h2
    have HF : Hid (∀ w1, Below w.heap.size w w1 → Calls Tryz.prog 176 #[cvV (civ t)] (w1.alloc (.cells (cvC (civ t)) 194)) fun e w' => ∃ g, e = .returned (.slice (some ⟨g, 0, none⟩) 3 3) ∧ w'.cell? ⟨g, 0, none⟩ = some (.string (mkS (fA (civ t)))) ∧ Below w.heap.size w w') := by
      intro w1 hb
      have h := HB0.out (civ t) w1 hb
      refine (rforms_any (civ t) _ hr).mono ?_
      rintro e w' ⟨g, he, -, -, hst, hb2⟩
      exact ⟨g, he, hst.cell 0 (by show 0 < 3; omega), h.trans (hb2.mono h.size)⟩
    generalize civ t = c at *
    obtain ⟨v0, v1, v2, v3, v4, v5, v6⟩ := c
    unfold cvV at hC HF
    unfold cvC at HF
    dsimp only at hC HF
    have HC := Lib.hid hC
    clear hC h1 h2 hk hr HB0
    generalize mkS (fA ⟨v0, v1, v2, v3, v4, v5, v6⟩) = R at *
    go_enter Tryz.func114, Tryz.ntmps114
    go_wp2_with fail
    refine HC.out.mono ?_
    rintro e w1 ⟨rfl, hb⟩
    have HF1 := Lib.hid (HF.out _ hb)
    clear hb HF
    go_wp2_with fail
    refine HF1.out.mono ?_
    rintro e w2 ⟨g, rfl, hc0, hb⟩
    have HB := Lib.hid hb
    clear hb
    go_wp2_with fail
    go_ret2
    exact ⟨retSE HV.out.symm HE.out.symm, HB.out⟩
end Tk
end Go.Proofs.YtajmheblbnodjaaGreatDoor
