/- DtJ DtK DtG DtL, put together. -/
import Derived.Test.YthooghgiokgdhaaGreatDoorQM
import Derived.Deep.Cut
import Derived.Test.YthooghgiokgdhaaGreatDoorQA
namespace Go.Proofs.YthooghgiokgdhaaGreatDoor
open Go.RowKit
namespace Tk

theorem asctime_any (c : Cv) (w : World) (hT : NamH w) (hr : Rg c) :
    Calls Tryz.prog 270 #[cvV c] w fun e w' => e = .returned (.string (mkS (fC c))) ∧ Below w.heap.size w w' := by
  by_cases h : c.d < 10
  · exact asctimeS_any c w hT hr h
  · exact asctimeB_any c w hT hr (by omega)

theorem bdrN {B : Nat} {a w : World} (h : Below B a w) (n : Nat) : Below B a (w.drewN n) := h.trans ⟨rfl, rfl, rfl, Nat.le_refl _, fun _ _ => rfl⟩
def secX (c : Cv) : Int := if okC c = true then secC c else 0
def secE (c : Cv) : Int := if okC c = true then 0 else 2
theorem okC_split (c : Cv) : okC c = (okDay c.y c.m c.d && ((decide (0 ≤ c.h) && decide (c.h ≤ 23)) && ((decide (0 ≤ c.n) && decide (c.n ≤ 59)) && ((decide (0 ≤ c.s) && decide (c.s ≤ 59)) && decide (c.w = (dayN c.y c.m c.d + 4) % 7))))) := by
  unfold okC; simp only [Bool.and_assoc]
def SecPost (c : Cv) (w : World) (e : Ending) (w' : World) : Prop := e = .returned (.tuple #[.int .i64 (secX c), .int .i64 (secE c)]) ∧ Below w.heap.size w w'

/-- the text of a second -/
def fmtL (t : Int) : Bs := if okT t = true then fA (civ t) else []
theorem retSE {a b : ByteArray} {c d : Int} (h1 : a = b) (h2 : c = d) : Ending.returned (.tuple #[.string a, .int .i64 c]) = .returned (.tuple #[.string b, .int .i64 d]) := by rw [h1, h2]
def FmtPost (t : Int) (w : World) (e : Ending) (w' : World) : Prop := e = .returned (.tuple #[.string (mkS (fmtL t)), .int .i64 (civE t)]) ∧ Below w.heap.size w w'

set_option maxHeartbeats 4000000 in
set_option maxRecDepth 100000 in
theorem format_any (t : Int) (w : World) (ht : -9223372036854775808 ≤ t ∧ t ≤ 9223372036854775807) (hT : NamH w) :
    Calls Tryz.prog 109 #[.int .i64 t] w (FmtPost t w) := by
  have hC := civil_any t w ht
  unfold CivPost at hC
  unfold FmtPost
  have HB0 : Hid (∀ c, ∀ w1, Below w.heap.size w w1 → Below w.heap.size w (w1.alloc (.cells (cvC c) 204))) := fun c w1 h => h.alloc h.size _
  cases hk : okT t
  · obtain ⟨h1, h2⟩ := civX_bad hk
    rw [h1, h2] at hC
    have HC := Lib.hid hC
    have HV := Lib.hid (show fmtL t = [] by unfold fmtL; rw [hk]; rfl)
    have HE := Lib.hid h2
    clear hC h1 h2 hk
    unfold cvV at HC
    unfold cvC at HB0
    go_enter Tryz.func109, Tryz.ntmps109
    go_wp2_with fail
    refine HC.out.mono ?_
    rintro e w1 ⟨rfl, hb⟩
    have HB := Lib.hid hb
    clear hb
    go_wp2_with fail
    go_ret2
    exact ⟨retSE (by rw [HV.out]; rfl) HE.out.symm, HB0.out ⟨0, 0, 0, 0, 0, 0, 0⟩ _ HB.out⟩
  · obtain ⟨h1, h2⟩ := civX_ok hk
    rw [h1, h2] at hC
    have hr := civ_rg ((okT_iff t).1 hk).1 ((okT_iff t).1 hk).2
    have HV := Lib.hid (show mkS (fmtL t) = mkS (fA (civ t)) by unfold fmtL; rw [if_pos hk])
    have HE := Lib.hid h2
    have HF : Hid (∀ w1, Below w.heap.size w w1 → Calls Tryz.prog 179 #[cvV (civ t)] (w1.alloc (.cells (cvC (civ t)) 204)) fun e w' => e = .returned (.string (mkS (fA (civ t)))) ∧ Below w.heap.size w w') := by
      intro w1 hb
      have h := HB0.out (civ t) w1 hb
      refine (fixdate_any (civ t) _ (hT.later h) hr).mono ?_
      rintro e w' ⟨he, hb2⟩
      exact ⟨he, h.trans (hb2.mono h.size)⟩
    generalize civ t = c at *
    obtain ⟨v0, v1, v2, v3, v4, v5, v6⟩ := c
    unfold cvV at hC HF
    unfold cvC at HF
    dsimp only at hC HF
    have HC := Lib.hid hC
    clear hC h1 h2 hk hr hT HB0
    generalize mkS (fA ⟨v0, v1, v2, v3, v4, v5, v6⟩) = R at *
    go_enter Tryz.func109, Tryz.ntmps109
    go_wp2_with fail
    refine HC.out.mono ?_
    rintro e w1 ⟨rfl, hb⟩
    have HF1 := Lib.hid (HF.out _ hb)
    clear hb HF
    go_wp2_with fail
    refine HF1.out.mono ?_
    rintro e w2 ⟨rfl, hb⟩
    have HB := Lib.hid hb
    clear hb
    go_wp2_with fail
    go_ret2
    exact ⟨retSE HV.out.symm HE.out.symm, HB.out⟩
end Tk
end Go.Proofs.YthooghgiokgdhaaGreatDoor
namespace Go.Proofs.YthooghgiokgdhaaGreatDoor
open Go.RowKit
namespace Tk

theorem numP_small (l : Bs) (h : l.length ≤ 2) : 0 ≤ numP l ∧ numP l ≤ 99 := by
  unfold numP
  have hd : ∀ c : UInt8, isDig c = true → c.toNat ≤ 57 := fun c hc => by unfold isDig at hc; simp at hc; exact hc.2
  match l, h with
  | [], _ => exact ⟨by decide, by decide⟩
  | [c], _ =>
    simp only [numL, numGo]
    by_cases hc : isDig c = true
    · have := hd c hc
      rw [if_neg (by simp), if_pos hc, if_pos (show 0 ≤ maxN by decide), if_neg (by unfold maxN; omega)]
      dsimp only; omega
    · simp [hc]
  | [c, d], _ =>
    simp only [numL, numGo]
    by_cases hc : isDig c = true
    · by_cases he : isDig d = true
      · have := hd c hc
        have := hd d he
        have h1 : 0 * 10 + (c.toNat - 48) ≤ 9 := by omega
        rw [if_neg (by simp), if_pos hc, if_pos he, if_pos (show 0 ≤ maxN by decide), if_pos (show 0 * 10 + (c.toNat - 48) ≤ maxN by unfold maxN; omega)]
        rw [if_neg (by unfold maxN; omega)]
        dsimp only; omega
      · simp [hc, he]
    · simp [hc]
  | _ :: _ :: _ :: _, h => simp at h

/-- what a text function does -/
def TextF (F : FuncId) (f : Cv → Bs) : Prop :=
  (∀ args w, (callFunc F args).run Tryz.prog w = .ok (.enter F args) w) ∧ ∀ (c : Cv) (W : World), NamH W → Rg c → Calls Tryz.prog F #[cvV c] W fun e w' => e = .returned (.string (mkS (f c))) ∧ Below W.heap.size W w'
def optV (o : Option Int) : Int := o.getD 0
def optE (o : Option Int) : Int := if o.isSome then 0 else 4
def OptPost (o : Option Int) (w : World) (e : Ending) (w' : World) : Prop := e = .returned (.tuple #[.int .i64 (optV o), .int .i64 (optE o)]) ∧ Below w.heap.size w w'
theorem tmS_bs (T : ByteArray) (h : T.size = 8) : tmS (bs T) = numP (bs (T.extract 0 2)) * 3600 + numP (bs (T.extract 3 5)) * 60 + numP (bs (T.extract 6 8)) := by
  unfold tmS
  rw [bs_extract, bs_extract, bs_extract, List.drop_zero, List.take_of_length_le (l := (bs T).drop 6) (by rw [List.length_drop, length_bs]; omega)]

set_option maxHeartbeats 8000000 in
set_option maxRecDepth 100000 in
theorem written_any (F : FuncId) (f : Cv → Bs) (s M D T : ByteArray) (y : Int) (w : World) (hF : TextF F f) (hN : NamH w) (_hM : M.size ≤ 1000000) (hD : D.size ≤ 1000000) (hT : T.size = 8) :
    Calls Tryz.prog 266 #[.string s, .func (.func F) #[] #[], .int .i64 y, .string M, .string D, .string T] w (OptPost (wr f (bs s) y (bs M) (bs D) (bs T)) w) := by
  have hMn := fun W (hb : Below w.heap.size w W) => monthNumber_any M W (hN.later hb)
  have hDn := fun W => number1_any D W (by omega)
  have hDy := fun W => days_any y (monNo (bs M)) (numP (bs D)) W
  have hw : wr f (bs s) y (bs M) (bs D) (bs T) = if okDay y (monNo (bs M)) (numP (bs D)) = true ∧ dayN y (monNo (bs M)) (numP (bs D)) * 86400 + tmS (bs T) ≤ maxT ∧ f (civ (dayN y (monNo (bs M)) (numP (bs D)) * 86400 + tmS (bs T))) = bs s
      then some (dayN y (monNo (bs M)) (numP (bs D)) * 86400 + tmS (bs T)) else none := rfl
  have hrg := day_range y (monNo (bs M)) (numP (bs D))
  have HMn := Lib.hid (hMn w (Below.refl _ _))
  have HDn := Lib.hid hDn
  unfold OptPost
  generalize monNo (bs M) = mm at *
  generalize numP (bs D) = dd at *
  cases h0 : okDay y mm dd
  · have hd : dayV y mm dd = 0 ∧ dayE y mm dd = 2 := by unfold dayV dayE; rw [h0]; exact ⟨rfl, rfl⟩
    rw [hd.1, hd.2] at hDy
    rw [if_neg (fun h => by rw [h0] at h; exact absurd h.1 (by decide))] at hw
    have HV := Lib.hid hw
    have HDy := Lib.hid hDy
    clear hMn hDn hDy hw hrg hd h0 hF hN
    generalize wr f (bs s) y (bs M) (bs D) (bs T) = R at *
    go_enter Tryz.func266, Tryz.ntmps266
    go_wp2_with fail
    refine HMn.out.mono ?_
    rintro e w' ⟨rfl, rfl⟩
    go_wp2_with fail
    refine (HDn.out _).mono ?_
    rintro e w' ⟨rfl, rfl⟩
    go_wp2_with fail
    refine (HDy.out _).mono ?_
    rintro e w' ⟨rfl, rfl⟩
    go_wp2_with fail
    go_ret2
    exact ⟨ret2 (by rw [HV.out]; rfl) (by rw [HV.out]; rfl), Below.refl _ _⟩
  have hd : dayV y mm dd = dayN y mm dd ∧ dayE y mm dd = 0 := by unfold dayV dayE; rw [h0]; exact ⟨rfl, rfl⟩
  rw [hd.1, hd.2] at hDy
  obtain ⟨r1, r2, -⟩ := hrg h0
  rw [tmS_bs T hT] at hw
  have b1 := numP_small (bs (T.extract 0 2)) (by rw [length_bs, ByteArray.size_extract]; omega)
  have b2 := numP_small (bs (T.extract 3 5)) (by rw [length_bs, ByteArray.size_extract]; omega)
  have b3 := numP_small (bs (T.extract 6 8)) (by rw [length_bs, ByteArray.size_extract]; omega)
  have HNn := Lib.hid (fun X W hX => number1_any X W hX)
  have HDy := Lib.hid hDy
  have HEn := hF.1
  have HNm := Lib.hid (fun W (hb : Below w.heap.size w W) => hN.later hb)
  have HFt := Lib.hid hF.2
  clear hMn hDn hDy hrg hd hF hN
  generalize dayN y mm dd = N at *
  obtain ⟨t, ht⟩ : ∃ t, t = N * 86400 + (numP (bs (T.extract 0 2)) * 3600 + numP (bs (T.extract 3 5)) * 60 + numP (bs (T.extract 6 8))) := ⟨_, rfl⟩
  rw [← ht] at hw
  have hC := fun W => civil_any t W (by omega)
  unfold CivPost at hC
  cases hk : okT t
  · obtain ⟨h1, h2⟩ := civX_bad hk
    rw [h1, h2] at hC
    unfold cvV at hC
    dsimp only at hC
    rw [if_neg (fun h => by have := (okT_iff t).2 ⟨by omega, h.2.1⟩; rw [hk] at this; cases this)] at hw
    have HV := Lib.hid hw
    have HC := Lib.hid hC
    have HTt := Lib.hid ht
    clear hC h1 h2 hk hw h0
    generalize wr f (bs s) y (bs M) (bs D) (bs T) = R at *
    go_enter Tryz.func266, Tryz.ntmps266
    go_wp2_with fail
    refine HMn.out.mono ?_
    rintro e w' ⟨rfl, rfl⟩
    go_wp2_with fail
    refine (HDn.out _).mono ?_
    rintro e w' ⟨rfl, rfl⟩
    go_wp2_with fail
    refine (HDy.out _).mono ?_
    rintro e w' ⟨rfl, rfl⟩
    go_upto_region 4 with (fail)
    go_quiet ((go_at_call 267; exact Calls.quiet_of_same ((HNn.out _ _ (by rw [ByteArray.size_extract]; omega)).mono fun _ _ h => ⟨h.1, h.2.symm⟩)))
    go_wp2_with fail
    rw [← HTt.out]
    refine (HC.out _).mono ?_
    rintro e w1 ⟨rfl, hb⟩
    have HB := Lib.hid (show Below w.heap.size w w1 from (bdrN (Below.refl _ _) _).trans hb)
    clear hb
    go_wp2_with fail
    go_ret2
    exact ⟨ret2 (by rw [HV.out]; rfl) (by rw [HV.out]; rfl), HB.out.alloc HB.out.size _⟩
  · obtain ⟨h1, h2⟩ := civX_ok hk
    rw [h1, h2] at hC
    have hr := civ_rg ((okT_iff t).1 hk).1 ((okT_iff t).1 hk).2
    have HFc : Hid (∀ w1, Below w.heap.size w w1 → Calls Tryz.prog F #[cvV (civ t)] (w1.alloc (.cells (cvC (civ t)) 204)) fun e w' => e = .returned (.string (mkS (f (civ t)))) ∧ Below w.heap.size w w') := by
      intro w1 hb
      have h : Below w.heap.size w (w1.alloc (.cells (cvC (civ t)) 204)) := hb.alloc hb.size _
      refine (HFt.out (civ t) _ (HNm.out _ h) hr).mono ?_
      rintro e w' ⟨he, hb2⟩
      exact ⟨he, h.trans (hb2.mono h.size)⟩
    have hle : t ≤ maxT := ((okT_iff t).1 hk).2
    cases e7 : ((mkS (f (civ t))).toList == s.toList)
    · have hne : ¬ f (civ t) = bs s := fun e => by
        rw [e, mkS_bs] at e7
        simp at e7
      rw [if_neg (fun h => hne h.2.2)] at hw
      have HV := Lib.hid hw
      have HTt := Lib.hid ht
      clear h1 h2 hk hw h0 hr hle hne HNm HFt
      generalize civ t = c at *
      obtain ⟨v0, v1, v2, v3, v4, v5, v6⟩ := c
      unfold cvV at hC HFc
      unfold cvC at HFc
      dsimp only at hC HFc
      have HC := Lib.hid hC
      clear hC
      generalize mkS (f ⟨v0, v1, v2, v3, v4, v5, v6⟩) = A at *
      generalize wr f (bs s) y (bs M) (bs D) (bs T) = R at *
      go_enter Tryz.func266, Tryz.ntmps266
      go_wp2_with fail
      refine HMn.out.mono ?_
      rintro e w' ⟨rfl, rfl⟩
      go_wp2_with fail
      refine (HDn.out _).mono ?_
      rintro e w' ⟨rfl, rfl⟩
      go_wp2_with fail
      refine (HDy.out _).mono ?_
      rintro e w' ⟨rfl, rfl⟩
      go_upto_region 4 with (fail)
      go_quiet ((go_at_call 267; exact Calls.quiet_of_same ((HNn.out _ _ (by rw [ByteArray.size_extract]; omega)).mono fun _ _ h => ⟨h.1, h.2.symm⟩)))
      go_wp2_with fail
      rw [← HTt.out]
      refine (HC.out _).mono ?_
      rintro e w1 ⟨rfl, hb⟩
      have HF1 := Lib.hid (HFc.out w1 ((bdrN (Below.refl _ _) _).trans hb))
      clear hb
      go_wp2_with fail
      refine HF1.out.mono ?_
      rintro e w2 ⟨rfl, hb⟩
      have HB := Lib.hid hb
      clear hb
      go_wp2_with fail
      go_ret2
      exact ⟨ret2 (by rw [HV.out]; rfl) (by rw [HV.out]; rfl), HB.out⟩
    · have hne : f (civ t) = bs s := by
        rw [toList_bs, toList_bs, bs_mkS] at e7
        exact beq_iff_eq.1 e7
      rw [if_pos ⟨h0, hle, hne⟩] at hw
      have HV := Lib.hid hw
      have HTt := Lib.hid ht
      clear h1 h2 hk hw h0 hr hle hne HNm HFt
      generalize civ t = c at *
      obtain ⟨v0, v1, v2, v3, v4, v5, v6⟩ := c
      unfold cvV at hC HFc
      unfold cvC at HFc
      dsimp only at hC HFc
      have HC := Lib.hid hC
      clear hC
      generalize mkS (f ⟨v0, v1, v2, v3, v4, v5, v6⟩) = A at *
      generalize wr f (bs s) y (bs M) (bs D) (bs T) = R at *
      go_enter Tryz.func266, Tryz.ntmps266
      go_wp2_with fail
      refine HMn.out.mono ?_
      rintro e w' ⟨rfl, rfl⟩
      go_wp2_with fail
      refine (HDn.out _).mono ?_
      rintro e w' ⟨rfl, rfl⟩
      go_wp2_with fail
      refine (HDy.out _).mono ?_
      rintro e w' ⟨rfl, rfl⟩
      go_upto_region 4 with (fail)
      go_quiet ((go_at_call 267; exact Calls.quiet_of_same ((HNn.out _ _ (by rw [ByteArray.size_extract]; omega)).mono fun _ _ h => ⟨h.1, h.2.symm⟩)))
      go_wp2_with fail
      rw [← HTt.out]
      refine (HC.out _).mono ?_
      rintro e w1 ⟨rfl, hb⟩
      have HF1 := Lib.hid (HFc.out w1 ((bdrN (Below.refl _ _) _).trans hb))
      clear hb
      go_wp2_with fail
      refine HF1.out.mono ?_
      rintro e w2 ⟨rfl, hb⟩
      have HB := Lib.hid hb
      clear hb
      go_wp2_with fail
      go_ret2
      exact ⟨ret2 (by rw [HV.out]; exact HTt.out.symm) (by rw [HV.out]; rfl), HB.out⟩
end Tk
end Go.Proofs.YthooghgiokgdhaaGreatDoor
namespace Go.Proofs.YthooghgiokgdhaaGreatDoor
open Go.RowKit
namespace Tk

theorem fB_eqS (c : Cv) : mkS (dnm c.w) ++ ⟨#[44, 32]⟩ ++ mkS (two c.d) ++ ⟨#[45]⟩ ++ mkS (mnm c.m) ++ ⟨#[45]⟩ ++ mkS (two (c.y % 100)) ++ ⟨#[32]⟩ ++ mkS (clk c) ++ ⟨#[32, 71, 77, 84]⟩ = mkS (fB c) := by
  rw [show (⟨#[44, 32]⟩ : ByteArray) = mkS [44, 32] from rfl, show (⟨#[32]⟩ : ByteArray) = mkS [32] from rfl, show (⟨#[45]⟩ : ByteArray) = mkS [45] from rfl, show (⟨#[32, 71, 77, 84]⟩ : ByteArray) = mkS gmt from rfl]
  simp only [mkS_append]; rfl

set_option maxHeartbeats 16000000 in
set_option maxRecDepth 100000 in
theorem rfc850_any (c : Cv) (w : World) (hT : NamH w) (hr : Rg c) :
    Calls Tryz.prog 268 #[cvV c] w fun e w' => e = .returned (.string (mkS (fB c))) ∧ Below w.heap.size w w' := by
  obtain ⟨y2, hy2⟩ : ∃ y2, y2 = c.y % 100 := ⟨_, rfl⟩
  have hq : c.y.tmod 100 = y2 := by rw [hy2]; exact IntWalk.rem_in _ _ (by have := hr.y; omega)
  have hq2 : IntKind.i64.wrap y2 = y2 := IntWalk.i64_in _ (by omega)
  obtain ⟨w1, hw1⟩ : ∃ w1, w1 = w.alloc (.cells (cvC c) 204) := ⟨_, rfl⟩
  have hB1 : Below w.heap.size w w1 := hw1 ▸ (Below.refl _ _).alloc (Nat.le_refl _) _
  have hg : w1.heap[w.heap.size]? = some (.cells (cvC c) 204 (0, 0)) := hw1 ▸ heap_alloc_last w _
  have hlt : w.heap.size < w1.heap.size := (Array.getElem?_eq_some_iff.1 hg).1
  have r0 := hr.y; have r1 := hr.m; have r2 := hr.d; have r6 := hr.w
  have h0 : w1.cell? ⟨w.heap.size, 0, none⟩ = some (.int .i64 c.y) := by rw [Lib.cell_of_heap hg]; rfl
  have h1 : w1.cell? ⟨w.heap.size, 1, none⟩ = some (.int .i64 c.m) := by rw [Lib.cell_of_heap hg]; rfl
  have h2 : w1.cell? ⟨w.heap.size, 2, none⟩ = some (.int .i64 c.d) := by rw [Lib.cell_of_heap hg]; rfl
  have h3 : w1.cell? ⟨w.heap.size, 3, none⟩ = some (.int .i64 c.h) := by rw [Lib.cell_of_heap hg]; rfl
  have h4 : w1.cell? ⟨w.heap.size, 4, none⟩ = some (.int .i64 c.n) := by rw [Lib.cell_of_heap hg]; rfl
  have h5 : w1.cell? ⟨w.heap.size, 5, none⟩ = some (.int .i64 c.s) := by rw [Lib.cell_of_heap hg]; rfl
  have h6 : w1.cell? ⟨w.heap.size, 6, none⟩ = some (.int .i64 c.w) := by rw [Lib.cell_of_heap hg]; rfl
  have h7 : w1.cell? ⟨0, c.w.toNat, none⟩ = some (.string (mkS (dnm c.w))) := (hT.later hB1).dayC _ (by omega)
  obtain ⟨u1, hu1⟩ : ∃ u1, u1 = c.m - 1 := ⟨_, rfl⟩
  have h8 : w1.cell? ⟨1, u1.toNat, none⟩ = some (.string (mkS (mnm c.m))) := by
    unfold mnm; rw [← hu1]; exact (hT.later hB1).monC _ (by omega)
  have hw : IntKind.i64.wrap (c.m - 1) = u1 := by rw [hu1]; exact IntWalk.i64_in _ (by omega)
  have hu0 : (0 : Int) ≤ u1 := by omega
  have hu2 : u1 < 12 := by omega
  have hx0 : (0 : Int) ≤ c.w := by omega
  have hx2 : c.w < 7 := by omega
  have HD : Hid (∀ W : World, W.cell? ⟨w.heap.size, 0, none⟩ = some (.int .i64 c.y) ∧ W.cell? ⟨w.heap.size, 1, none⟩ = some (.int .i64 c.m) ∧ W.cell? ⟨w.heap.size, 2, none⟩ = some (.int .i64 c.d) ∧ W.cell? ⟨w.heap.size, 3, none⟩ = some (.int .i64 c.h) ∧ W.cell? ⟨w.heap.size, 4, none⟩ = some (.int .i64 c.n) ∧ W.cell? ⟨w.heap.size, 5, none⟩ = some (.int .i64 c.s) ∧ W.cell? ⟨w.heap.size, 6, none⟩ = some (.int .i64 c.w) ∧ W.cell? ⟨0, c.w.toNat, none⟩ = some (.string (mkS (dnm c.w))) ∧ W.cell? ⟨1, u1.toNat, none⟩ = some (.string (mkS (mnm c.m))) ∧ Below w1.heap.size w1 W → Calls Tryz.prog 228 #[.int .i64 c.d] W fun e W' => e = .returned (.string (mkS (two c.d))) ∧ W'.cell? ⟨w.heap.size, 0, none⟩ = some (.int .i64 c.y) ∧ W'.cell? ⟨w.heap.size, 1, none⟩ = some (.int .i64 c.m) ∧ W'.cell? ⟨w.heap.size, 2, none⟩ = some (.int .i64 c.d) ∧ W'.cell? ⟨w.heap.size, 3, none⟩ = some (.int .i64 c.h) ∧ W'.cell? ⟨w.heap.size, 4, none⟩ = some (.int .i64 c.n) ∧ W'.cell? ⟨w.heap.size, 5, none⟩ = some (.int .i64 c.s) ∧ W'.cell? ⟨w.heap.size, 6, none⟩ = some (.int .i64 c.w) ∧ W'.cell? ⟨0, c.w.toNat, none⟩ = some (.string (mkS (dnm c.w))) ∧ W'.cell? ⟨1, u1.toNat, none⟩ = some (.string (mkS (mnm c.m))) ∧ Below w1.heap.size w1 W') := by
    intro W hS
    obtain ⟨k0, k1, k2, k3, k4, k5, k6, k7, k8, kb⟩ := hS
    refine (two_any c.d W ((hT.later hB1).later kb) ⟨by omega, by omega⟩).mono ?_
    rintro e W' ⟨he, hb2⟩
    exact ⟨he, cv_keep hT hlt ⟨k0, k1, k2, k3, k4, k5, k6, k7, k8, kb⟩ hb2⟩
  have HY : Hid (∀ W : World, W.cell? ⟨w.heap.size, 0, none⟩ = some (.int .i64 c.y) ∧ W.cell? ⟨w.heap.size, 1, none⟩ = some (.int .i64 c.m) ∧ W.cell? ⟨w.heap.size, 2, none⟩ = some (.int .i64 c.d) ∧ W.cell? ⟨w.heap.size, 3, none⟩ = some (.int .i64 c.h) ∧ W.cell? ⟨w.heap.size, 4, none⟩ = some (.int .i64 c.n) ∧ W.cell? ⟨w.heap.size, 5, none⟩ = some (.int .i64 c.s) ∧ W.cell? ⟨w.heap.size, 6, none⟩ = some (.int .i64 c.w) ∧ W.cell? ⟨0, c.w.toNat, none⟩ = some (.string (mkS (dnm c.w))) ∧ W.cell? ⟨1, u1.toNat, none⟩ = some (.string (mkS (mnm c.m))) ∧ Below w1.heap.size w1 W → Calls Tryz.prog 228 #[.int .i64 y2] W fun e W' => e = .returned (.string (mkS (two y2))) ∧ W'.cell? ⟨w.heap.size, 0, none⟩ = some (.int .i64 c.y) ∧ W'.cell? ⟨w.heap.size, 1, none⟩ = some (.int .i64 c.m) ∧ W'.cell? ⟨w.heap.size, 2, none⟩ = some (.int .i64 c.d) ∧ W'.cell? ⟨w.heap.size, 3, none⟩ = some (.int .i64 c.h) ∧ W'.cell? ⟨w.heap.size, 4, none⟩ = some (.int .i64 c.n) ∧ W'.cell? ⟨w.heap.size, 5, none⟩ = some (.int .i64 c.s) ∧ W'.cell? ⟨w.heap.size, 6, none⟩ = some (.int .i64 c.w) ∧ W'.cell? ⟨0, c.w.toNat, none⟩ = some (.string (mkS (dnm c.w))) ∧ W'.cell? ⟨1, u1.toNat, none⟩ = some (.string (mkS (mnm c.m))) ∧ Below w1.heap.size w1 W') := by
    intro W hS
    obtain ⟨k0, k1, k2, k3, k4, k5, k6, k7, k8, kb⟩ := hS
    refine (two_any y2 W ((hT.later hB1).later kb) ⟨by omega, by omega⟩).mono ?_
    rintro e W' ⟨he, hb2⟩
    exact ⟨he, cv_keep hT hlt ⟨k0, k1, k2, k3, k4, k5, k6, k7, k8, kb⟩ hb2⟩
  have HC : Hid (∀ W : World, W.cell? ⟨w.heap.size, 0, none⟩ = some (.int .i64 c.y) ∧ W.cell? ⟨w.heap.size, 1, none⟩ = some (.int .i64 c.m) ∧ W.cell? ⟨w.heap.size, 2, none⟩ = some (.int .i64 c.d) ∧ W.cell? ⟨w.heap.size, 3, none⟩ = some (.int .i64 c.h) ∧ W.cell? ⟨w.heap.size, 4, none⟩ = some (.int .i64 c.n) ∧ W.cell? ⟨w.heap.size, 5, none⟩ = some (.int .i64 c.s) ∧ W.cell? ⟨w.heap.size, 6, none⟩ = some (.int .i64 c.w) ∧ W.cell? ⟨0, c.w.toNat, none⟩ = some (.string (mkS (dnm c.w))) ∧ W.cell? ⟨1, u1.toNat, none⟩ = some (.string (mkS (mnm c.m))) ∧ Below w1.heap.size w1 W → Calls Tryz.prog 229 #[.agg #[.int .i64 c.y, .int .i64 c.m, .int .i64 c.d, .int .i64 c.h, .int .i64 c.n, .int .i64 c.s, .int .i64 c.w]] W fun e W' => e = .returned (.string (mkS (clk c))) ∧ W'.cell? ⟨w.heap.size, 0, none⟩ = some (.int .i64 c.y) ∧ W'.cell? ⟨w.heap.size, 1, none⟩ = some (.int .i64 c.m) ∧ W'.cell? ⟨w.heap.size, 2, none⟩ = some (.int .i64 c.d) ∧ W'.cell? ⟨w.heap.size, 3, none⟩ = some (.int .i64 c.h) ∧ W'.cell? ⟨w.heap.size, 4, none⟩ = some (.int .i64 c.n) ∧ W'.cell? ⟨w.heap.size, 5, none⟩ = some (.int .i64 c.s) ∧ W'.cell? ⟨w.heap.size, 6, none⟩ = some (.int .i64 c.w) ∧ W'.cell? ⟨0, c.w.toNat, none⟩ = some (.string (mkS (dnm c.w))) ∧ W'.cell? ⟨1, u1.toNat, none⟩ = some (.string (mkS (mnm c.m))) ∧ Below w1.heap.size w1 W') := by
    intro W hS
    obtain ⟨k0, k1, k2, k3, k4, k5, k6, k7, k8, kb⟩ := hS
    refine (clock_any c W ((hT.later hB1).later kb) hr).mono ?_
    rintro e W' ⟨he, hb2⟩
    exact ⟨he, cv_keep hT hlt ⟨k0, k1, k2, k3, k4, k5, k6, k7, k8, kb⟩ hb2⟩
  have HB1 := Lib.hid hB1
  unfold cvV
  unfold cvC at hw1
  have HW1 := Lib.hid hw1
  have zd := two_size c.d
  have zc : (mkS (clk c)).size = 8 := by rw [size_mkS]; rfl
  have zn : 6 ≤ (mkS (dnm c.w)).size ∧ (mkS (dnm c.w)).size ≤ 9 := by rw [size_mkS]; exact dnm_len c.w r6
  have zm : (mkS (mnm c.m)).size = 3 := by
    obtain ⟨p, q, r, hm, -⟩ := mnm_three c.m r1
    rw [size_mkS, hm]; rfl
  have zy := two_size y2
  have HV := Lib.hid (fB_eqS c)
  rw [← hy2] at HV
  clear hy2
  have zn2 : (mkS (dnm c.w)).size = 6 ∨ (mkS (dnm c.w)).size = 7 ∨ (mkS (dnm c.w)).size = 8 ∨ (mkS (dnm c.w)).size = 9 := by omega
  clear zn
  clear hT hr hB1 hg hlt hw1 hu1 r0 r1 r2 r6
  generalize mkS (clk c) = CK at *
  generalize mkS (dnm c.w) = ND at *
  generalize mkS (mnm c.m) = NM at *
  generalize mkS (two c.d) = DD at *
  generalize mkS (two y2) = YY at *
  generalize mkS (fB c) = R at *
  generalize c.y = v0 at *
  generalize c.m = v1 at *
  generalize c.d = v2 at *
  generalize c.h = v3 at *
  generalize c.n = v4 at *
  generalize c.s = v5 at *
  generalize c.w = v6 at *
  rcases zn2 with zn2 | zn2 | zn2 | zn2
  all_goals
    go_enter Tryz.func268, Tryz.ntmps268
    go_upto_region 1 with (fail)
    rw [← HW1.out]
    have j0 : w1.drew.cell? ⟨w.heap.size, 0, none⟩ = some (.int .i64 v0) := h0
    have j1 : w1.drew.cell? ⟨w.heap.size, 1, none⟩ = some (.int .i64 v1) := h1
    have j2 : w1.drew.cell? ⟨w.heap.size, 2, none⟩ = some (.int .i64 v2) := h2
    have j3 : w1.drew.cell? ⟨w.heap.size, 3, none⟩ = some (.int .i64 v3) := h3
    have j4 : w1.drew.cell? ⟨w.heap.size, 4, none⟩ = some (.int .i64 v4) := h4
    have j5 : w1.drew.cell? ⟨w.heap.size, 5, none⟩ = some (.int .i64 v5) := h5
    have j6 : w1.drew.cell? ⟨w.heap.size, 6, none⟩ = some (.int .i64 v6) := h6
    have j7 : w1.drew.cell? ⟨0, v6.toNat, none⟩ = some (.string ND) := h7
    have j8 : w1.drew.cell? ⟨1, u1.toNat, none⟩ = some (.string NM) := h8
    have jb : Below w1.heap.size w1 w1.drew := (Below.refl _ _).drew
    go_region_held3 (fun w' => w'.cell? ⟨w.heap.size, 0, none⟩ = some (.int .i64 v0) ∧ w'.cell? ⟨w.heap.size, 1, none⟩ = some (.int .i64 v1) ∧ w'.cell? ⟨w.heap.size, 2, none⟩ = some (.int .i64 v2) ∧ w'.cell? ⟨w.heap.size, 3, none⟩ = some (.int .i64 v3) ∧ w'.cell? ⟨w.heap.size, 4, none⟩ = some (.int .i64 v4) ∧ w'.cell? ⟨w.heap.size, 5, none⟩ = some (.int .i64 v5) ∧ w'.cell? ⟨w.heap.size, 6, none⟩ = some (.int .i64 v6) ∧ w'.cell? ⟨0, v6.toNat, none⟩ = some (.string (ND)) ∧ w'.cell? ⟨1, u1.toNat, none⟩ = some (.string (NM)) ∧ Below w1.heap.size w1 w') (first | (refine ⟨?_, ?_, ?_, ?_, ?_, ?_, ?_, ?_, ?_, ?_⟩ <;> assumption)) (first
      | (go_at_call 228; refine (HD.out _ ⟨by assumption, by assumption, by assumption, by assumption, by assumption, by assumption, by assumption, by assumption, by assumption, by assumption⟩).mono ?_; rintro e w' ⟨rfl, k0, k1, k2, k3, k4, k5, k6, k7, k8, kb⟩)
      | (go_at_call 228; refine (HY.out _ ⟨by assumption, by assumption, by assumption, by assumption, by assumption, by assumption, by assumption, by assumption, by assumption, by assumption⟩).mono ?_; rintro e w' ⟨rfl, k0, k1, k2, k3, k4, k5, k6, k7, k8, kb⟩)
      | (go_at_call 229; refine (HC.out _ ⟨by assumption, by assumption, by assumption, by assumption, by assumption, by assumption, by assumption, by assumption, by assumption, by assumption⟩).mono ?_; rintro e w' ⟨rfl, k0, k1, k2, k3, k4, k5, k6, k7, k8, kb⟩))
    all_goals
      go_wp2_with fail
      go_ret
      exact ⟨retS HV.out, HB1.out.trans (Below.mono (by assumption) HB1.out.size)⟩
end Tk
end Go.Proofs.YthooghgiokgdhaaGreatDoor
namespace Go.Proofs.YthooghgiokgdhaaGreatDoor
open Go.RowKit
namespace Tk

theorem textA : TextF 179 fA := ⟨enters_of Tryz.func179 (by kernel_rfl) rfl, fun c W h hr => fixdate_any c W h hr⟩
theorem textB : TextF 268 fB := ⟨enters_of Tryz.func268 (by kernel_rfl) rfl, fun c W h hr => rfc850_any c W h hr⟩
theorem textC : TextF 270 fC := ⟨enters_of Tryz.func270 (by kernel_rfl) rfl, fun c W h hr => asctime_any c W h hr⟩

theorem wr_keep {F : FuncId} {f : Cv → Bs} (s : ByteArray) (w : World) (hF : TextF F f) (hN : NamH w) :
    ∀ (M D T : ByteArray) (y : Int) (W : World), Below w.heap.size w W → M.size ≤ 1000000 → D.size ≤ 1000000 → T.size = 8 →
      Calls Tryz.prog 266 #[.string s, .func (.func F) #[] #[], .int .i64 y, .string M, .string D, .string T] W fun e w' => e = .returned (.tuple #[.int .i64 (optV (wr f (bs s) y (bs M) (bs D) (bs T))), .int .i64 (optE (wr f (bs s) y (bs M) (bs D) (bs T)))]) ∧ Below w.heap.size w w' := by
  intro M D T y W hb hM hD hT
  exact (written_any F f s M D T y W hF (hN.later hb) hM hD hT).mono fun e w' ⟨he, hb2⟩ => ⟨he, hb.trans (hb2.mono hb.size)⟩

set_option maxHeartbeats 8000000 in
set_option maxRecDepth 100000 in
theorem parseFixdate_any (s : ByteArray) (now : Int) (w : World) (hN : NamH w) (_hs : s.size ≤ 1000000) :
    Calls Tryz.prog 218 #[.string s, .int .i64 now] w (OptPost (wrA (bs s)) w) := by
  unfold OptPost
  by_cases hl : s.size = 29
  · have hv : wrA (bs s) = wr fA (bs s) (numP (bs (s.extract 12 16))) (bs (s.extract 8 11)) (bs (s.extract 5 7)) (bs (s.extract 17 25)) := by
      unfold wrA; rw [if_pos (by rw [length_bs]; exact hl), bs_extract, bs_extract, bs_extract, bs_extract]
    have HV := Lib.hid hv
    have HWr := Lib.hid (wr_keep s w textA hN)
    have HNn := Lib.hid (fun X W hX => number1_any X W hX)
    have jb : Below w.heap.size w w.drew := (Below.refl _ _).drew
    clear hv hN
    generalize wrA (bs s) = R at *
    go_enter Tryz.func218, Tryz.ntmps218
    go_upto_region 3 with (fail)
    go_region_held3 (fun w' => Below w.heap.size w w') (first | assumption) (first
      | (go_at_call 267; refine (HNn.out _ _ (by rw [ByteArray.size_extract]; omega)).mono ?_; rintro e w' ⟨rfl, rfl⟩)
      | (go_at_call 266; refine (HWr.out _ _ _ _ _ (by assumption) (by rw [ByteArray.size_extract]; omega) (by rw [ByteArray.size_extract]; omega) (by rw [ByteArray.size_extract]; omega)).mono ?_; rintro e w' ⟨rfl, kb⟩))
    all_goals
      go_wp2_with fail
      go_ret2
      exact ⟨ret2 (by rw [HV.out]) (by rw [HV.out]), by assumption⟩
  · have e1 : ((s.size : Int) == 29) = false := by rw [beq_eq_false_iff_ne]; omega
    have HV := Lib.hid (show wrA (bs s) = none by unfold wrA; rw [if_neg (by rw [length_bs]; exact hl)])
    clear hN hl
    generalize wrA (bs s) = R at *
    go_enter Tryz.func218, Tryz.ntmps218
    go_wp2_with fail
    go_ret2
    exact ⟨ret2 (by rw [HV.out]; rfl) (by rw [HV.out]; rfl), Below.refl _ _⟩

set_option maxHeartbeats 8000000 in
set_option maxRecDepth 100000 in
theorem parseAsctime_any (s : ByteArray) (now : Int) (w : World) (hN : NamH w) (_hs : s.size ≤ 1000000) :
    Calls Tryz.prog 220 #[.string s, .int .i64 now] w (OptPost (wrC (bs s)) w) := by
  unfold OptPost
  by_cases hl : s.size = 24
  · have hv : wrC (bs s) = wr fC (bs s) (numP (bs (s.extract 20 24))) (bs (s.extract 4 7)) (bs (mkS (trimL (bs (s.extract 8 10))))) (bs (s.extract 11 19)) := by
      unfold wrC; rw [if_pos (by rw [length_bs]; exact hl), bs_extract, bs_extract, bs_extract, bs_extract, bs_mkS, List.take_of_length_le (l := (bs s).drop 20) (by rw [List.length_drop, length_bs]; omega)]
    have HV := Lib.hid hv
    have HWr := Lib.hid (wr_keep s w textC hN)
    have HNn := Lib.hid (fun X W hX => number1_any X W hX)
    have HTr : Hid (∀ (X : ByteArray) (W : World), Below w.heap.size w W → X.size ≤ 1000 → Calls Tryz.prog 217 #[.string X] W fun e w' => e = .returned (.string (mkS (trimL (bs X)))) ∧ Below w.heap.size w w') := by
      intro X W hb hX
      exact (show Calls Tryz.prog 217 #[.string X] W (fun e w' => e = .returned (.string (mkS (trimL (bs X)))) ∧ Below W.heap.size W w') from trim_any X W (by omega)).mono fun e w' ⟨he, hb2⟩ => ⟨he, hb.trans (hb2.mono hb.size)⟩
    have HTs : Hid ((mkS (trimL (bs (s.extract 8 10)))).size ≤ 1000000) := by
      show _ ≤ _
      have h2 : (bs (s.extract 8 10)).length ≤ 2 := by rw [length_bs, ByteArray.size_extract]; omega
      have h3 := trim_sublist (bs (s.extract 8 10))
      rw [size_mkS]; omega
    have jb : Below w.heap.size w w.drew := (Below.refl _ _).drew
    clear hv hN
    generalize wrC (bs s) = R at *
    go_enter Tryz.func220, Tryz.ntmps220
    go_upto_region 3 with (fail)
    go_region_held3 (fun w' => Below w.heap.size w w') (first | assumption) (first
      | (go_at_call 267; refine (HNn.out _ _ (by rw [ByteArray.size_extract]; omega)).mono ?_; rintro e w' ⟨rfl, rfl⟩)
      | (go_at_call 217; refine (HTr.out _ _ (by assumption) (by rw [ByteArray.size_extract]; omega)).mono ?_; rintro e w' ⟨rfl, kb⟩)
      | (go_at_call 266; refine (HWr.out _ _ _ _ _ (by assumption) (by rw [ByteArray.size_extract]; omega) HTs.out (by rw [ByteArray.size_extract]; omega)).mono ?_; rintro e w' ⟨rfl, kb⟩))
    all_goals
      go_wp2_with fail
      go_ret2
      exact ⟨ret2 (by rw [HV.out, bs_mkS]) (by rw [HV.out, bs_mkS]), by assumption⟩
  · have e1 : ((s.size : Int) == 24) = false := by rw [beq_eq_false_iff_ne]; omega
    have HV := Lib.hid (show wrC (bs s) = none by unfold wrC; rw [if_neg (by rw [length_bs]; exact hl)])
    clear hN hl
    generalize wrC (bs s) = R at *
    go_enter Tryz.func220, Tryz.ntmps220
    go_wp2_with fail
    go_ret2
    exact ⟨ret2 (by rw [HV.out]; rfl) (by rw [HV.out]; rfl), Below.refl _ _⟩

set_option maxHeartbeats 8000000 in
set_option maxRecDepth 100000 in
theorem parseRFC850_any (s : ByteArray) (now : Int) (w : World) (hN : NamH w) (hs : s.size ≤ 1000000) (hn : 1970 ≤ now ∧ now ≤ 9999) :
    Calls Tryz.prog 219 #[.string s, .int .i64 now] w (OptPost (wrB (bs s) now) w) := by
  obtain ⟨m, hm⟩ := hN.mxl
  have hC : Calls Tryz.prog 162 #[.string s, .string ⟨#[44, 32]⟩] w fun e w' => e = .returned (.tuple #[.string (mkS (Lib.cut (bs s) [44, 32]).1), .string (mkS (bhd (bs s))), .bool (Lib.cut (bs s) [44, 32]).2.2]) ∧ Below w.heap.size w w' :=
    (Tryz.strings_Cut s ⟨#[44, 32]⟩ m w (by omega) hm).mono fun e w' ⟨he, n, hw⟩ => ⟨he, hw ▸ bdrN (Below.refl _ _) n⟩
  have HC := Lib.hid hC
  have HK : Hid (∀ w1, Below w.heap.size w w1 → NamH w1) := fun w1 hb => hN.later hb
  have hB : wrB (bs s) now = if (bhd (bs s)).length = 22 then wr fB (bs s) (lateY (numP (((bhd (bs s)).drop 7).take 2)) now) (((bhd (bs s)).drop 3).take 3) ((bhd (bs s)).take 2) (((bhd (bs s)).drop 10).take 8) else none := rfl
  unfold OptPost
  clear hC hm hN
  generalize (Lib.cut (bs s) [44, 32]).1 = X1 at *
  generalize (Lib.cut (bs s) [44, 32]).2.2 = X3 at *
  generalize bhd (bs s) = Y at *
  obtain ⟨D, hD⟩ : ∃ D, D = mkS Y := ⟨_, rfl⟩
  have hy : bs D = Y := by rw [hD, bs_mkS]
  rw [← hD] at HC
  rw [← hy] at hB
  clear hD hy
  by_cases hl : D.size = 22
  · have hv : wrB (bs s) now = wr fB (bs s) (lateY (numP (bs (D.extract 7 9))) now) (bs (D.extract 3 6)) (bs (D.extract 0 2)) (bs (D.extract 10 18)) := by
      rw [hB, if_pos (by rw [length_bs]; exact hl), bs_extract, bs_extract, bs_extract, bs_extract]; rfl
    have HV := Lib.hid hv
    have HWr : Hid (∀ w1, Below w.heap.size w w1 → ∀ (M D T : ByteArray) (y : Int) (W : World), Below w1.heap.size w1 W → M.size ≤ 1000000 → D.size ≤ 1000000 → T.size = 8 →
      Calls Tryz.prog 266 #[.string s, .func (.func 268) #[] #[], .int .i64 y, .string M, .string D, .string T] W fun e w' => e = .returned (.tuple #[.int .i64 (optV (wr fB (bs s) y (bs M) (bs D) (bs T))), .int .i64 (optE (wr fB (bs s) y (bs M) (bs D) (bs T)))]) ∧ Below w1.heap.size w1 w') := fun w1 hb => wr_keep s w1 textB (HK.out w1 hb)
    have HNn := Lib.hid (fun X W hX => number1_any X W hX)
    have b1 := numP_small (bs (D.extract 7 9)) (by rw [length_bs, ByteArray.size_extract]; omega)
    have HFy := Lib.hid (fun W => fullYear_any (numP (bs (D.extract 7 9))) now W (by omega) (by omega))
    clear hv hB HK
    generalize wrB (bs s) now = R at *
    go_enter Tryz.func219, Tryz.ntmps219
    go_wp2_with fail
    refine HC.out.mono ?_
    rintro e w1 ⟨rfl, hb⟩
    have HB1 := Lib.hid hb
    have HW1 := Lib.hid (HWr.out w1 hb)
    have jb : Below w1.heap.size w1 w1.drew := (Below.refl _ _).drew
    clear hb HWr HC
    go_upto_region 4 with (fail)
    go_region_held3 (fun w' => Below w1.heap.size w1 w') (first | assumption) (first
      | (go_at_call 267; refine (HNn.out _ _ (by rw [ByteArray.size_extract]; omega)).mono ?_; rintro e w' ⟨rfl, rfl⟩)
      | (go_at_call 269; refine (HFy.out _).mono ?_; rintro e w' ⟨rfl, rfl⟩)
      | (go_at_call 266; refine (HW1.out _ _ _ _ _ (by assumption) (by rw [ByteArray.size_extract]; omega) (by rw [ByteArray.size_extract]; omega) (by rw [ByteArray.size_extract]; omega)).mono ?_; rintro e w' ⟨rfl, kb⟩))
    all_goals
      go_wp2_with fail
      go_ret2
      exact ⟨ret2 (by rw [HV.out]) (by rw [HV.out]), HB1.out.trans (Below.mono (by assumption) HB1.out.size)⟩
  · have e1 : ((D.size : Int) == 22) = false := by rw [beq_eq_false_iff_ne]; omega
    have HV := Lib.hid (show wrB (bs s) now = none by rw [hB, if_neg (by rw [length_bs]; exact hl)])
    clear hl hB HK
    generalize wrB (bs s) now = R at *
    go_enter Tryz.func219, Tryz.ntmps219
    go_wp2_with fail
    refine HC.out.mono ?_
    rintro e w1 ⟨rfl, hb⟩
    have HB1 := Lib.hid hb
    clear hb
    go_wp2_with fail
    go_ret2
    exact ⟨ret2 (by rw [HV.out]; rfl) (by rw [HV.out]; rfl), HB1.out⟩
end Tk
end Go.Proofs.YthooghgiokgdhaaGreatDoor
