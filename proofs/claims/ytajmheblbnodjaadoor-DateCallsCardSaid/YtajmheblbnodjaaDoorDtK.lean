/- date: written. -/
import Derived.Test.YtajmheblbnodjaaDoorDtJ
import Derived.Deep.Cut
namespace Go.Proofs.YtajmheblbnodjaaDoor
open Go.RowKit
namespace Tk

theorem numP_small (l : Bs) (h : l.length ≤ 2) : 0 ≤ numP l ∧ numP l ≤ 99 := by
  unfold numP
  have hd : ∀ c : UInt8, isDig c = true → c.toNat ≤ 57 := fun c hc => by unfold isDig at hc; simp at hc; exact hc.2
  match l, h with
  | [], _ => exact ⟨by decide, by decide⟩
  | [c], _ =>
    simp only [numL, numGo]
    by_cases hc : isDig c = true
    · have := hd c hc
      rw [if_neg (by simp), if_pos hc, if_pos (show 0 ≤ maxN by decide), if_neg (by unfold maxN; omega)]
      dsimp only; omega
    · simp [hc]
  | [c, d], _ =>
    simp only [numL, numGo]
    by_cases hc : isDig c = true
    · by_cases he : isDig d = true
      · have := hd c hc
        have := hd d he
        have h1 : 0 * 10 + (c.toNat - 48) ≤ 9 := by omega
        rw [if_neg (by simp), if_pos hc, if_pos he, if_pos (show 0 ≤ maxN by decide), if_pos (show 0 * 10 + (c.toNat - 48) ≤ maxN by unfold maxN; omega)]
        rw [if_neg (by unfold maxN; omega)]
        dsimp only; omega
      · simp [hc, he]
    · simp [hc]
  | _ :: _ :: _ :: _, h => simp at h

/-- what a text function does -/
def TextF (F : FuncId) (f : Cv → Bs) : Prop :=
  (∀ args w, (callFunc F args).run Tryd.prog w = .ok (.enter F args) w) ∧ ∀ (c : Cv) (W : World), NamH W → Rg c → Calls Tryd.prog F #[cvV c] W fun e w' => e = .returned (.string (mkS (f c))) ∧ Below W.heap.size W w'
def optV (o : Option Int) : Int := o.getD 0
def optE (o : Option Int) : Int := if o.isSome then 0 else 4
def OptPost (o : Option Int) (w : World) (e : Ending) (w' : World) : Prop := e = .returned (.tuple #[.int .i64 (optV o), .int .i64 (optE o)]) ∧ Below w.heap.size w w'
theorem tmS_bs (T : ByteArray) (h : T.size = 8) : tmS (bs T) = numP (bs (T.extract 0 2)) * 3600 + numP (bs (T.extract 3 5)) * 60 + numP (bs (T.extract 6 8)) := by
  unfold tmS
  rw [bs_extract, bs_extract, bs_extract, List.drop_zero, List.take_of_length_le (l := (bs T).drop 6) (by rw [List.length_drop, length_bs]; omega)]

set_option maxHeartbeats 8000000 in
set_option maxRecDepth 100000 in
theorem written_any (F : FuncId) (f : Cv → Bs) (s M D T : ByteArray) (y : Int) (w : World) (hF : TextF F f) (hN : NamH w) (_hM : M.size ≤ 1000000) (hD : D.size ≤ 1000000) (hT : T.size = 8) :
    Calls Tryd.prog 52 #[.string s, .func (.func F) #[] #[], .int .i64 y, .string M, .string D, .string T] w (OptPost (wr f (bs s) y (bs M) (bs D) (bs T)) w) := by
  have hMn := fun W (hb : Below w.heap.size w W) => monthNumber_any M W (hN.later hb)
  have hDn := fun W => number1_any D W (by omega)
  have hDy := fun W => days_any y (monNo (bs M)) (numP (bs D)) W
  have hw : wr f (bs s) y (bs M) (bs D) (bs T) = if okDay y (monNo (bs M)) (numP (bs D)) = true ∧ dayN y (monNo (bs M)) (numP (bs D)) * 86400 + tmS (bs T) ≤ maxT ∧ f (civ (dayN y (monNo (bs M)) (numP (bs D)) * 86400 + tmS (bs T))) = bs s
      then some (dayN y (monNo (bs M)) (numP (bs D)) * 86400 + tmS (bs T)) else none := rfl
  have hrg := day_range y (monNo (bs M)) (numP (bs D))
  have HMn := Lib.hid (hMn w (Below.refl _ _))
  have HDn := Lib.hid hDn
  unfold OptPost
  generalize monNo (bs M) = mm at *
  generalize numP (bs D) = dd at *
  cases h0 : okDay y mm dd
  · have hd : dayV y mm dd = 0 ∧ dayE y mm dd = 2 := by unfold dayV dayE; rw [h0]; exact ⟨rfl, rfl⟩
    rw [hd.1, hd.2] at hDy
    rw [if_neg (fun h => by rw [h0] at h; exact absurd h.1 (by decide))] at hw
    have HV := Lib.hid hw
    have HDy := Lib.hid hDy
    clear hMn hDn hDy hw hrg hd h0 hF hN
    generalize wr f (bs s) y (bs M) (bs D) (bs T) = R at *
    go_enter Tryd.func52, Tryd.ntmps52
    go_wp2_with fail
    refine HMn.out.mono ?_
    rintro e w' ⟨rfl, rfl⟩
    go_wp2_with fail
    refine (HDn.out _).mono ?_
    rintro e w' ⟨rfl, rfl⟩
    go_wp2_with fail
    refine (HDy.out _).mono ?_
    rintro e w' ⟨rfl, rfl⟩
    go_wp2_with fail
    go_ret2
    exact ⟨ret2 (by rw [HV.out]; rfl) (by rw [HV.out]; rfl), Below.refl _ _⟩
  have hd : dayV y mm dd = dayN y mm dd ∧ dayE y mm dd = 0 := by unfold dayV dayE; rw [h0]; exact ⟨rfl, rfl⟩
  rw [hd.1, hd.2] at hDy
  obtain ⟨r1, r2, -⟩ := hrg h0
  rw [tmS_bs T hT] at hw
  have b1 := numP_small (bs (T.extract 0 2)) (by rw [length_bs, ByteArray.size_extract]; omega)
  have b2 := numP_small (bs (T.extract 3 5)) (by rw [length_bs, ByteArray.size_extract]; omega)
  have b3 := numP_small (bs (T.extract 6 8)) (by rw [length_bs, ByteArray.size_extract]; omega)
  have HNn := Lib.hid (fun X W hX => number1_any X W hX)
  have HDy := Lib.hid hDy
  have HEn := hF.1
  have HNm := Lib.hid (fun W (hb : Below w.heap.size w W) => hN.later hb)
  have HFt := Lib.hid hF.2
  clear hMn hDn hDy hrg hd hF hN
  generalize dayN y mm dd = N at *
  obtain ⟨t, ht⟩ : ∃ t, t = N * 86400 + (numP (bs (T.extract 0 2)) * 3600 + numP (bs (T.extract 3 5)) * 60 + numP (bs (T.extract 6 8))) := ⟨_, rfl⟩
  rw [← ht] at hw
  have hC := fun W => civil_any t W (by omega)
  unfold CivPost at hC
  cases hk : okT t
  · obtain ⟨h1, h2⟩ := civX_bad hk
    rw [h1, h2] at hC
    unfold cvV at hC
    dsimp only at hC
    rw [if_neg (fun h => by have := (okT_iff t).2 ⟨by omega, h.2.1⟩; rw [hk] at this; cases this)] at hw
    have HV := Lib.hid hw
    have HC := Lib.hid hC
    have HTt := Lib.hid ht
    clear hC h1 h2 hk hw h0
    generalize wr f (bs s) y (bs M) (bs D) (bs T) = R at *
    go_enter Tryd.func52, Tryd.ntmps52
    go_wp2_with fail
    refine HMn.out.mono ?_
    rintro e w' ⟨rfl, rfl⟩
    go_wp2_with fail
    refine (HDn.out _).mono ?_
    rintro e w' ⟨rfl, rfl⟩
    go_wp2_with fail
    refine (HDy.out _).mono ?_
    rintro e w' ⟨rfl, rfl⟩
    go_upto_region 4 with (fail)
    go_quiet ((go_at_call 53; exact Calls.quiet_of_same ((HNn.out _ _ (by rw [ByteArray.size_extract]; omega)).mono fun _ _ h => ⟨h.1, h.2.symm⟩)))
    go_wp2_with fail
    rw [← HTt.out]
    refine (HC.out _).mono ?_
    rintro e w1 ⟨rfl, hb⟩
    have HB := Lib.hid (show Below w.heap.size w w1 from (bdrN (Below.refl _ _) _).trans hb)
    clear hb
    go_wp2_with fail
    go_ret2
    exact ⟨ret2 (by rw [HV.out]; rfl) (by rw [HV.out]; rfl), HB.out.alloc HB.out.size _⟩
  · obtain ⟨h1, h2⟩ := civX_ok hk
    rw [h1, h2] at hC
    have hr := civ_rg ((okT_iff t).1 hk).1 ((okT_iff t).1 hk).2
    have HFc : Hid (∀ w1, Below w.heap.size w w1 → Calls Tryd.prog F #[cvV (civ t)] (w1.alloc (.cells (cvC (civ t)) 23)) fun e w' => e = .returned (.string (mkS (f (civ t)))) ∧ Below w.heap.size w w') := by
      intro w1 hb
      have h : Below w.heap.size w (w1.alloc (.cells (cvC (civ t)) 23)) := hb.alloc hb.size _
      refine (HFt.out (civ t) _ (HNm.out _ h) hr).mono ?_
      rintro e w' ⟨he, hb2⟩
      exact ⟨he, h.trans (hb2.mono h.size)⟩
    have hle : t ≤ maxT := ((okT_iff t).1 hk).2
    cases e7 : ((mkS (f (civ t))).toList == s.toList)
    · have hne : ¬ f (civ t) = bs s := fun e => by
        rw [e, mkS_bs] at e7
        simp at e7
      rw [if_neg (fun h => hne h.2.2)] at hw
      have HV := Lib.hid hw
      have HTt := Lib.hid ht
      clear h1 h2 hk hw h0 hr hle hne HNm HFt
      generalize civ t = c at *
      obtain ⟨v0, v1, v2, v3, v4, v5, v6⟩ := c
      unfold cvV at hC HFc
      unfold cvC at HFc
      dsimp only at hC HFc
      have HC := Lib.hid hC
      clear hC
      generalize mkS (f ⟨v0, v1, v2, v3, v4, v5, v6⟩) = A at *
      generalize wr f (bs s) y (bs M) (bs D) (bs T) = R at *
      go_enter Tryd.func52, Tryd.ntmps52
      go_wp2_with fail
      refine HMn.out.mono ?_
      rintro e w' ⟨rfl, rfl⟩
      go_wp2_with fail
      refine (HDn.out _).mono ?_
      rintro e w' ⟨rfl, rfl⟩
      go_wp2_with fail
      refine (HDy.out _).mono ?_
      rintro e w' ⟨rfl, rfl⟩
      go_upto_region 4 with (fail)
      go_quiet ((go_at_call 53; exact Calls.quiet_of_same ((HNn.out _ _ (by rw [ByteArray.size_extract]; omega)).mono fun _ _ h => ⟨h.1, h.2.symm⟩)))
      go_wp2_with fail
      rw [← HTt.out]
      refine (HC.out _).mono ?_
      rintro e w1 ⟨rfl, hb⟩
      have HF1 := Lib.hid (HFc.out w1 ((bdrN (Below.refl _ _) _).trans hb))
      clear hb
      go_wp2_with fail
      refine HF1.out.mono ?_
      rintro e w2 ⟨rfl, hb⟩
      have HB := Lib.hid hb
      clear hb
      go_wp2_with fail
      go_ret2
      exact ⟨ret2 (by rw [HV.out]; rfl) (by rw [HV.out]; rfl), HB.out⟩
    · have hne : f (civ t) = bs s := by
        rw [toList_bs, toList_bs, bs_mkS] at e7
        exact beq_iff_eq.1 e7
      rw [if_pos ⟨h0, hle, hne⟩] at hw
      have HV := Lib.hid hw
      have HTt := Lib.hid ht
      clear h1 h2 hk hw h0 hr hle hne HNm HFt
      generalize civ t = c at *
      obtain ⟨v0, v1, v2, v3, v4, v5, v6⟩ := c
      unfold cvV at hC HFc
      unfold cvC at HFc
      dsimp only at hC HFc
      have HC := Lib.hid hC
      clear hC
      generalize mkS (f ⟨v0, v1, v2, v3, v4, v5, v6⟩) = A at *
      generalize wr f (bs s) y (bs M) (bs D) (bs T) = R at *
      go_enter Tryd.func52, Tryd.ntmps52
      go_wp2_with fail
      refine HMn.out.mono ?_
      rintro e w' ⟨rfl, rfl⟩
      go_wp2_with fail
      refine (HDn.out _).mono ?_
      rintro e w' ⟨rfl, rfl⟩
      go_wp2_with fail
      refine (HDy.out _).mono ?_
      rintro e w' ⟨rfl, rfl⟩
      go_upto_region 4 with (fail)
      go_quiet ((go_at_call 53; exact Calls.quiet_of_same ((HNn.out _ _ (by rw [ByteArray.size_extract]; omega)).mono fun _ _ h => ⟨h.1, h.2.symm⟩)))
      go_wp2_with fail
      rw [← HTt.out]
      refine (HC.out _).mono ?_
      rintro e w1 ⟨rfl, hb⟩
      have HF1 := Lib.hid (HFc.out w1 ((bdrN (Below.refl _ _) _).trans hb))
      clear hb
      go_wp2_with fail
      refine HF1.out.mono ?_
      rintro e w2 ⟨rfl, hb⟩
      have HB := Lib.hid hb
      clear hb
      go_wp2_with fail
      go_ret2
      exact ⟨ret2 (by rw [HV.out]; exact HTt.out.symm) (by rw [HV.out]; rfl), HB.out⟩
end Tk
end Go.Proofs.YtajmheblbnodjaaDoor
