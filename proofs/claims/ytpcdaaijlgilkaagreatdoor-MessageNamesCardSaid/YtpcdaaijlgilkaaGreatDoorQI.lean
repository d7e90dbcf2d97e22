/- MsgJ MsgK MsgL MsgM StaF MsgIR MsgLR MsgN, put together. -/
import Derived.Test.YtpcdaaijlgilkaaGreatDoorQH
import Derived.Test.YtpcdaaijlgilkaaGreatDoorQC
import Derived.Lib.AppendStr
import Derived.Deep.RegionLaw
import Derived.Test.YtpcdaaijlgilkaaGreatDoorQG
import Derived.Test.YtpcdaaijlgilkaaGreatDoorQA
import Derived.Deep.RegionHeld3
import Derived.Recover
namespace Go.Proofs.YtpcdaaijlgilkaaGreatDoor
open Go.RowKit
namespace Tk

variable {B b : Nat} {s : Pr} {q z lf : Nat} {V : PV} {w : World}
theorem stE_ret (s : Pr) (h : s.bad = 0 ∨ s.mode = 7) : ∃ X Y, stE s = .returned (.tuple #[X, Y]) := by
  unfold stE
  by_cases hb : s.bad = 0
  · rw [if_pos hb]; exact ⟨_, _, rfl⟩
  · rw [if_neg hb, if_pos (h.resolve_left hb)]; exact ⟨_, _, rfl⟩
theorem headEnd_end (s : Pr) (h : s.bad = 0) : (headEndP s).bad = 0 ∨ (headEndP s).mode = 7 := by
  unfold headEndP Pr.fl
  repeat' split
  all_goals first | exact .inr rfl | exact .inl h
theorem Par.grewFld {X : Nat → Prop} {w2 : World} {v' : Value} (h : Par B b s q z lf V w) (p : Bs × Bs) (n : Nat) (hn : n = s.msg.f.length) (a : Option Addr) (cap0 : Nat) (hv : V.f = .slice a n cap0) (ho : w2.ownsRow B 84 2 v' (n + 1) (fcells s.msg.f ++ [.string (mkS p.1), .string (mkS p.2)])) (hg : w.grownBy w2 (Value.slice a n cap0).ownBlock) (hst : Stay w (.slice a n cap0) v') :
    ∃ g cap, v' = .slice (some ⟨g, 0, none⟩) (n + 1) cap ∧ w2.cell? ⟨b, 17, none⟩ = some (.slice a n cap0) ∧ w2.frozen? ⟨b, 17, none⟩ = false ∧ Par B b { s with msg := { s.msg with f := s.msg.f ++ [p] } } q z lf { V with f := v' } (w2.setCell ⟨b, 17, none⟩ v') ∧ PTn b V { V with f := v' } X w (w2.setCell ⟨b, 17, none⟩ v') := by
  obtain ⟨g, cap, hv'⟩ : ∃ g cap, v' = .slice (some ⟨g, 0, none⟩) (n + 1) cap := by
    rcases ho.2 with ⟨_, h0⟩ | ⟨g, cap, cur, hv, _⟩
    · omega
    · exact ⟨g, cap, hv⟩
  have hk2 := (hg.block b h.lt (fun e => h.neB.2.2.1 (by rw [hv]; exact e.symm))).trans h.blk
  obtain ⟨hd, ht⟩ := h.putFld (X := X) p (hn ▸ ho) (by rw [hv]; exact hg) (by rw [hv]; exact hst)
  exact ⟨g, cap, hv', by rw [Lib.cell_of_heap hk2, ← hv]; rfl, Lib.frozen_of_heap hk2 17, hd, ht⟩

set_option maxHeartbeats 8000000 in
set_option maxRecDepth 100000 in
theorem pfield_any (g : Nat) (l : Bs) (h : Par B b s q 0 lf V w) (hi : Inp g l w) (hg : ¬ PMine b V g) (hm : s.mode = 3) (hr : Room s l) (hne : l ≠ []) :
    Calls Tryz.prog 53 #[ptr b, ptr g] w (StPost B b s q lf V g l w) := by
  have hb0 := (not_stop hr.go).2.1
  have hlen : 1 ≤ l.length := by cases l with
    | nil => exact absurd rfl hne
    | cons a t => simp
  have hm3 : s.mode ≤ 3 := by omega
  have hrd := readLine_any g l h hi hg hm3 hb0 (not_stop hr.go).2.2 (room_line hr).1 (room_line hr).2.1
  have HRd := Lib.hid hrd
  have HRoom := Lib.hid hr
  have HM := Lib.hid (⟨hm, hm3, hb0⟩ : _ ∧ _ ∧ _)
  have HLen := Lib.hid hlen
  have HG := Lib.hid (show g < w.heap.size ∧ ¬ PMine b V g from ⟨hi.lt, hg⟩)
  clear h hi hg hm hr hne hb0 hlen hm3 hrd
  unfold ptr at *
  go_enter Tryz.func53, Tryz.ntmps53
  go_wp2_with fail
  refine HRd.out.mono ?_
  rintro e w1 ⟨i, hi, he, hc⟩
  have HE := Lib.hid he
  rcases hc with ⟨hil, rfl, hp, hin⟩ | ⟨c, hc, ⟨hk, rfl, hp, hin⟩ | ⟨hk, rfl, hp, hin⟩ | ⟨hk, rfl, hp, hin⟩⟩
  · have HX := Lib.hid (show ∀ e, e = .returned (.tuple #[pstV 3, .nilIface]) → StPost B b s q lf V g l w e w1 from fun e' he' => by
      refine ⟨i, (s.puts (l.take i)).ate i, by have := HLen.out; omega, hi, HE.out, ?_, hp.ate _, by rw [hil, List.drop_length]; exact hin⟩
      rw [he', stE_ate]
      unfold stE
      rw [if_pos (by exact HM.out.2.2), show (s.puts (l.take i)).mode = 3 from HM.out.1])
    clear he hil hp hin hi
    go_wp2_with fail
    go_ret2
    exact HX.out _ rfl
  · have HK := Lib.hid hk
    have HC := Lib.hid hc
    have HP := Lib.hid hp
    have HIn := Lib.hid hin
    have hts := room_text HRoom.out i
    have hlt := getElem_lt hc
    have HEt := Lib.hid (rd_line HRoom.out HM.out.2.1 HE.out HC.out HK.out)
    have hf := (room_line HRoom.out).2.2
    have HLt := Lib.hid hlt
    clear hk hc hp hin he hi hlt
    have HS0 := Lib.hid (show ({ s.puts (l.take i) with line := [], head := (s.puts (l.take i)).head + 1 } : Pr).bad = 0 ∧ ({ s.puts (l.take i) with line := [], head := (s.puts (l.take i)).head + 1 } : Pr).mode = 3 ∧ ({ s.puts (l.take i) with line := [], head := (s.puts (l.take i)).head + 1 } : Pr).idle = false ∧ sumF ({ s.puts (l.take i) with line := [], head := (s.puts (l.take i)).head + 1 } : Pr).msg.f ≤ 1000000 from ⟨HM.out.2.2, HM.out.1, (not_stop HRoom.out.go).2.2, hf⟩)
    generalize ({ s.puts (l.take i) with line := [], head := (s.puts (l.take i)).head + 1 } : Pr) = s1 at *
    generalize (s.puts (l.take i)).line.dropLast = t at *
    clear hf HK HRd
    have hlp3 : lineP s1 t = if t = [] then headEndP s1 else fldP s1 t := by unfold lineP; rw [if_neg (by rw [HS0.out.2.1]; omega), if_neg (by rw [HS0.out.2.1]; omega), if_neg (by rw [HS0.out.2.1]; omega)]
    obtain ⟨V1, hp1, ht1⟩ := HP.out
    have HP1 := Lib.hid hp1
    have HT1 := Lib.hid ht1
    have HG1 := Lib.hid (ht1.not_mine HG.out)
    clear hp1 ht1
    by_cases ht0 : t = []
    · rw [if_pos ht0] at hlp3
      have HLP := Lib.hid hlp3
      have hhe := headEndA_any (X := fun _ => False) HP1.out HS0.out.2.2.1 HS0.out.2.2.2 HS0.out.1 (by rw [HS0.out.2.1]; omega)
      unfold HePost at hhe
      obtain ⟨XX, YY, hst⟩ := stE_ret (headEndP s1) (headEnd_end s1 HS0.out.1)
      have HST := Lib.hid hst
      rw [hst] at hhe
      have HHe := Lib.hid hhe
      rw [ht0]
      have hem : ((mkS []).toList == ([] : List UInt8)) = true := by rw [toList_bs, bs_mkS]; rfl
      clear ht0 hts hlp3 hhe hst
      unfold ptr at *
      go_wp2_with fail
      refine HHe.out.mono ?_
      rintro e w2 ⟨rfl, V2, hp2, ht2⟩
      have HX := Lib.hid (show ∀ e, e = .returned (.tuple #[XX, YY]) → StPost B b s q lf V g l w e w2 from fun e' he' => by
        refine ⟨i + 1, _, by omega, by have := HLt.out; omega, HEt.out, ?_, ⟨V2, ?_, HT1.out.trans (ht2.mono fun _ _ e => e.elim)⟩, inp_aside HIn.out HG1.out ht2 (fun e => e)⟩
        · rw [he', stE_ate, HLP.out, HST.out]
        · rw [HLP.out]; exact hp2.ate _)
      clear hp2 ht2
      go_wp2_with fail
      go_ret2
      exact HX.out _ rfl
    · rw [if_neg ht0] at hlp3
      have HLP := Lib.hid hlp3
      have hem : ((mkS t).toList == ([] : List UInt8)) = false := by rw [toList_bs, bs_mkS]; cases t with
        | nil => exact absurd rfl ht0
        | cons a r => rfl
      have HLn := Lib.hid (fun W : World => line_any (mkS t) W (by omega))
      rw [bs_mkS] at HLn
      unfold LinePost at HLn
      clear ht0 hts hlp3
      cases hlo : lineOk t
      · have HF0 := Lib.hid (show fldP s1 t = s1.fl 400 by unfold fldP; rw [hlo]; rfl)
        obtain ⟨n1, n2, n3⟩ := ln_no t hlo
        rw [n3] at HLn
        generalize lnN t = A at *
        generalize lnV t = Y at *
        clear hlo n1 n2 n3
        go_wp2_with fail
        refine (HLn.out _).mono ?_
        rintro e w2 ⟨rfl, hb⟩
        have hbf := (hb.trans ((Below.refl w1.heap.size w2).alloc hb.size (.cells #[.string (mkS A), .string (mkS Y)] 84)))
        have HX := Lib.hid (show ∀ e, e = .returned (.tuple #[.nilFunc, flV 400]) → StPost B b s q lf V g l w e (w2.alloc (.cells #[.string (mkS A), .string (mkS Y)] 84)) from fun e' he' => by
          refine ⟨i + 1, _, by omega, by have := HLt.out; omega, HEt.out, ?_, ⟨V1, ?_, HT1.out.trans (PTn.of hbf)⟩, ?_⟩
          · rw [he', stE_ate, HLP.out, HF0.out, stE_fl _ _ (by omega)]
          · rw [HLP.out, HF0.out]; exact ((HP1.out.below hbf).flaw 400).ate _
          · exact inp_aside HIn.out HG1.out (PTn.of (b := b) (V := V1) (X := fun _ => False) hbf) (fun e => e))
        clear hb hbf
        unfold flV at *
        go_wp2_with fail
        go_ret2
        exact HX.out _ rfl
      · obtain ⟨n1, n2, n3⟩ := ln_ok t hlo
        have hf0 : fldP s1 t = if s1.C ≤ s1.msg.f.length then s1.fl 431 else { s1 with msg := { s1.msg with f := s1.msg.f ++ [(lnN t, lnV t)] } } := by unfold fldP; rw [hlo, if_pos rfl, n1, n2]
        rw [n3] at HLn
        generalize lnN t = A at *
        generalize lnV t = Y at *
        obtain ⟨NT, hNT⟩ : ∃ N, N = s1.msg.f.length := ⟨_, rfl⟩
        have hsg := sumF_ge s1.msg.f
        have htl : NT ≤ 1048576 := by have := HS0.out.2.2.2; omega
        have HNT := Lib.hid hNT
        rw [← hNT] at hf0
        obtain ⟨a, cap, hva⟩ := HP1.out.vf
        rw [← hNT] at hva
        have HVa := Lib.hid hva
        obtain ⟨i0, hi, hz0, hz1, hz2⟩ := info_parts fldInfo
        clear hlo n1 n2 n3 hsg hNT hva
        go_wp2_with fail
        refine (HLn.out _).mono ?_
        rintro e w2 ⟨rfl, hb⟩
        have hbf : Below w1.heap.size w1 (w2.alloc (.cells #[.string (mkS A), .string (mkS Y)] 84)) := (hb.trans ((Below.refl w1.heap.size w2).alloc hb.size (.cells #[.string (mkS A), .string (mkS Y)] 84)))
        have HP5 := Lib.hid (HP1.out.below hbf)
        have HT5 := Lib.hid (HT1.out.trans (PTn.of (b := b) (V := V1) hbf))
        have HI5 := Lib.hid (inp_aside HIn.out HG1.out (PTn.of (b := b) (V := V1) (X := fun _ => False) hbf) (fun e => e))
        have HFw := Lib.hid (Two.new w2 84 (.string (mkS A)) (.string (mkS Y)))
        have HG5 := Lib.hid (HT5.out.not_mine HG.out)
        clear hb hbf HP HIn HLn
        by_cases hcn : s1.C ≤ NT
        · rw [if_pos hcn] at hf0
          have HF0 := Lib.hid hf0
          have icn : (s1.C : Int) ≤ (NT : Int) := by omega
          clear hf0 hcn
          go_wp2_with fail
          generalize w2.alloc (.cells #[.string (mkS A), .string (mkS Y)] 84) = w5 at *
          generalize w2.heap.size = g4 at *
          have k17 : w5.cell? ⟨b, 17, none⟩ = some (.slice a NT cap) := by rw [← HVa.out]; exact HP5.out.cell 17 _ rfl
          have k3 : w5.cell? ⟨b, 3, none⟩ = some (.int .i64 s1.C) := HP5.out.cell 3 _ rfl
          go_quiet (fail)
          have HX := Lib.hid (show ∀ e, e = .returned (.tuple #[.nilFunc, flV 431]) → StPost B b s q lf V g l w e (w5.drewN nq) from fun e' he' => by
            refine ⟨i + 1, _, by omega, by have := HLt.out; omega, HEt.out, ?_, ⟨V1, ?_, HT5.out.trans (PTn.draws nq)⟩, HI5.out⟩
            · rw [he', stE_ate, HLP.out, HF0.out, stE_fl _ _ (by omega)]
            · rw [HLP.out, HF0.out]; exact ((HP5.out.draws nq).flaw 431).ate _)
          unfold flV at *
          go_wp2_with fail
          go_ret2
          exact HX.out _ rfl
        · rw [if_neg hcn] at hf0
          have HF0 := Lib.hid hf0
          have icn : ¬ (s1.C : Int) ≤ (NT : Int) := by omega
          clear hf0 hcn
          go_wp2_with fail
          generalize w2.alloc (.cells #[.string (mkS A), .string (mkS Y)] 84) = w5 at *
          generalize w2.heap.size = g4 at *
          have k17 : w5.cell? ⟨b, 17, none⟩ = some (.slice a NT cap) := by rw [← HVa.out]; exact HP5.out.cell 17 _ rfl
          have k3 : w5.cell? ⟨b, 3, none⟩ = some (.int .i64 s1.C) := HP5.out.cell 3 _ rfl
          go_quiet (fail)
          have HD6 := Lib.hid (HP5.out.draws nq)
          have HT6 := Lib.hid (HT5.out.trans (PTn.draws nq))
          have HI6 := Lib.hid (show Inp g (l.drop (i + 1)) (w5.drewN nq) from HI5.out)
          have k17 : (w5.drewN nq).cell? ⟨b, 17, none⟩ = some (.slice a NT cap) := by rw [← HVa.out]; exact HD6.out.cell 17 _ rfl
          have hF6 := HFw.out.draws nq
          have q0 := hF6.c0
          have q1 := hF6.c1
          have HF6 := Lib.hid hF6
          clear hF6 HP5 HT5 HI5 HFw
          generalize w5.drewN nq = w6 at *
          go_wp2_with fail
          have HD7 := Lib.hid (show Par B b _ _ _ _ _ w6.drew from HD6.out.draws 1)
          have HT7 := Lib.hid (HT6.out.trans (show PTn b V1 V1 _ w6 w6.drew from PTn.draws 1))
          have HI7 := Lib.hid (show Inp g (l.drop (i + 1)) w6.drew from HI6.out)
          have k17 : w6.drew.cell? ⟨b, 17, none⟩ = some (.slice a NT cap) := by rw [← HVa.out]; exact HD7.out.cell 17 _ rfl
          obtain ⟨w7, hw7⟩ : ∃ W, W = w6.drew := ⟨_, rfl⟩
          rw [← hw7] at HD7 HT7 HI7 k17
          have hF7 := HF6.out.draws 1
          rw [show w6.drewN 1 = w7 from hw7.symm] at hF7
          have hw0 : Below w7.heap.size w7 (w7.alloc (.cells #[.string (mkS A), .string (mkS Y)] 84)) := (Below.refl _ _).alloc (Nat.le_refl _) _
          have HD8 := Lib.hid (HD7.out.below hw0)
          have HT8 := Lib.hid (HT7.out.trans (PTn.of (b := b) (V := V1) hw0))
          have HI8 := Lib.hid (inp_aside HI7.out (HT7.out.not_mine HG.out) (PTn.of (b := b) (V := V1) (X := fun _ => False) hw0) (fun e => e))
          have hBs : B ≤ (w7.alloc (.cells #[.string (mkS A), .string (mkS Y)] 84)).heap.size := by have := HD8.out.hB; have := HD8.out.lt; omega
          have hN7 := Two.new w7 84 (.string (mkS A)) (.string (mkS Y))
          have HO := Lib.hid (show (w7.alloc (.cells #[.string (mkS A), .string (mkS Y)] 84)).ownsRow B 84 2 (.slice a NT cap) NT (fcells s1.msg.f) by have := HD8.out.flds; rw [HVa.out, ← show NT = s1.msg.f.length from HNT.out] at this; exact this)
          have hF8 := hF7.later hw0
          have p0 := hF7.c0
          have p1 := hF7.c1
          have r0 := hF8.c0
          have r1 := hF8.c1
          have k12 : (w7.alloc (.cells #[.string (mkS A), .string (mkS Y)] 84)).cell? ⟨b, 17, none⟩ = some (.slice a NT cap) := by rw [← HVa.out]; exact HD8.out.cell 17 _ rfl
          have hc1 : ∀ j u, [Value.string (mkS A), Value.string (mkS Y)][j]? = some u → (w7.alloc (.cells #[.string (mkS A), .string (mkS Y)] 84)).cell? ((⟨w7.heap.size, 0, none⟩ : Addr).add j) = some u := by
            intro j u hj
            match j, hj with
            | 0, hj => simp at hj; subst hj; exact hN7.c0
            | 1, hj => simp at hj; subst hj; exact hN7.c1
          have hc2 : ∀ u ∈ [Value.string (mkS A), Value.string (mkS Y)], u.oneCell' = true := by intro u hu; simp at hu; rcases hu with rfl | rfl <;> rfl
          have hc3 : NT + 1 ≤ maxLen := by unfold maxLen; omega
          have hc4 : (NT + 1) * 32 ≤ 140737488355328 := by omega
          have HC1 := Lib.hid hc1
          have HC2 := Lib.hid hc2
          have HC3 := Lib.hid hc3
          have HC4 := Lib.hid hc4
          have HBS := Lib.hid hBs
          clear hw0 hF7 hF8 hc1 hc2 hc3 hc4 hBs htl
          subst hw7
          have k13 : (w6.alloc (.cells #[.string (mkS A), .string (mkS Y)] 84)).drew.cell? ⟨b, 17, none⟩ = some (.slice a NT cap) := k12
          go_region_law (first | (refine step_stay (by rfl) _ _ 30 (by rfl) B 84 i0 (.agg #[.string .empty, .string .empty]) 2 32 Tryz.underlying30 hi hz0 hz1 hz2 (by rfl) (by decide) _ _ _ (by rfl) HO.out ⟨w6.drew.heap.size, 0, none⟩ 1 1 [.string (mkS A), .string (mkS Y)] (by rfl) (by rfl) HC1.out HC2.out HC3.out HC4.out HBS.out ?_; intro v' w8 ho hg hst; obtain ⟨g2, cap2, rfl, j17, f17, hd, ht⟩ := HD8.out.grewFld (X := fun _ => False) (A, Y) NT HNT.out a cap HVa.out ho hg hst; have HR := Lib.hid (show PIn B b { s1 with msg := { s1.msg with f := s1.msg.f ++ [(A, Y)] } } q 0 lf V g (l.drop (i + 1)) w _ from ⟨⟨_, hd, HT8.out.trans (ht.mono fun _ _ e => e.elim)⟩, inp_aside HI8.out (HT8.out.not_mine HG.out) ht (fun e => e)⟩); clear hd ht ho hg hst))
          all_goals
            have HX := Lib.hid (show ∀ e, e = .returned (.tuple #[pstV 3, .nilIface]) → StPost B b s q lf V g l w e _ from fun e' he' => by
              refine ⟨i + 1, _, by omega, by have := HLt.out; omega, HEt.out, ?_, ?_⟩
              · rw [he', stE_ate, HLP.out, HF0.out]; unfold stE; rw [if_pos (by exact HS0.out.1), show ({ s1 with msg := { s1.msg with f := s1.msg.f ++ [(A, Y)] } } : Pr).mode = 3 from HS0.out.2.1]
              · rw [HLP.out, HF0.out]; exact ⟨HR.out.1.ate _, HR.out.2⟩)
            unfold pstV at *
            go_wp2_with fail
            go_ret2
            exact HX.out _ rfl
  · have hlt := getElem_lt hc
    have HX := Lib.hid (show ∀ e, e = .returned (.tuple #[.nilFunc, flV 431]) → StPost B b s q lf V g l w e w1 from fun e' he' => by
      refine ⟨i + 1, _, by omega, by omega, rd_long HRoom.out HM.out.2.1 HE.out hc hk, ?_, ?_, hin⟩
      · rw [he', stE_ate, stE_fl _ _ (by omega)]
      · obtain ⟨V', h1, h2⟩ := hp
        exact ⟨V', (h1.flaw 431).ate _, h2⟩)
    clear he hk hp hin hi hc hlt
    unfold flV at *
    go_wp2_with fail
    go_ret2
    exact HX.out _ rfl
  · have hlt := getElem_lt hc
    have hq := HM.out.1
    refine ⟨rfl, i + 1, _, by omega, by omega, rd_mal HRoom.out HM.out.2.1 HE.out hc hk, ?_, ?_, hin⟩
    · rw [stE_ate]
      unfold stE
      rw [if_neg (by show (400 : Nat) ≠ 0; omega), if_neg (by show s.mode ≠ 7; omega)]
    · obtain ⟨V', h1, h2⟩ := hp
      exact ⟨V', h1.as _ rfl rfl rfl rfl rfl rfl (fun e => absurd (show s.mode = 6 from e) (by omega)), h2⟩

end Tk
end Go.Proofs.YtpcdaaijlgilkaaGreatDoor
namespace Go.Proofs.YtpcdaaijlgilkaaGreatDoor
open Go.RowKit
namespace Tk

theorem run_append_stay_string {P : Program} (w : World) (base : Nat) (t u ty e : TypeId) (i : TypeInfo) (ht : P.underlying t = some (.slice e)) (hu : P.underlying u = some .string) (hi : P.info? e = some i) (hz : i.zero = some (.int .u8 0))
    (hsize : i.size = 1) (hby : i.bytes = 1) (v : Value) (n : Nat) (xs : List Value) (hown : w.ownsRow base e 1 v n xs) (s : ByteArray)
    (h63 : n + s.size ≤ maxLen) (hbytes : n + s.size ≤ 140737488355328) (hbase : base ≤ w.heap.size) :
    ∃ v' w', (Builtin.append_ #[t, u] ty #[v, .string s]).run P w = .ok v' w' ∧ w'.ownsRow base e 1 v' (n + s.size) (xs ++ Lib.strCells s) ∧ w.grownBy w' v.ownBlock ∧ Stay w v v' := by
  obtain ⟨v', w', hr, h2, h3, h4⟩ := Lib.run_append_own_string (P := P) w base t u ty e i ht hu hi hz hsize hby v n xs hown s h63 hbytes hbase
  refine ⟨v', w', hr, h2, h3, ?_⟩
  have hxl : xs.length = n := by simpa using hown.1
  have hsmall : n + s.size ≤ 9223372036854775807 := by simp only [maxLen] at h63; omega
  rcases hown.2 with ⟨rfl, rfl⟩ | ⟨g, cap, cur, rfl, hbg, hg, hnc, hcm, hcs, htake⟩
  · by_cases hm : s.size = 0
    · rw [h4.2 ⟨rfl, hm⟩]; intro k hk; cases hk
    · have hr2 := run_append_nil_string (P := P) w t u ty e i (.int .u8 0) ht hu hi hz s (by omega) (by omega) (by rw [hby]; omega)
      have hq := hr.symm.trans hr2
      injection hq with e1 e2
      subst e1
      intro k hk
      simp only [Value.ownBlock, Option.some.injEq] at hk
      exact .inr (by omega)
  · by_cases hroom : n + s.size ≤ cap
    · have hcs' : cur.size = cap := by simpa using hcs
      have hr2 := Lib.run_append_room_string (P := P) w t u ty e i ht hu hi hsize g n cap cur hg s hroom (by omega)
      have hq := hr.symm.trans hr2
      injection hq with e1 e2
      subst e1
      exact fun k hk => .inl hk
    · have holds : ∀ j u, xs[j]? = some u → w.cell? ((⟨g, 0, none⟩ : Addr).add j) = some u := hown.cells (g := g) rfl
      have hr2 := Lib.run_append_grow_string (P := P) w t u ty e i (.int .u8 0) ht hu hi hz ⟨g, 0, none⟩ n cap xs (by rw [hsize]; simpa using hxl) holds s (by omega) (by omega) (by rw [hby]; exact growslice_fits (by omega) (by omega))
      have hq := hr.symm.trans hr2
      injection hq with e1 e2
      subst e1
      intro k hk
      simp only [Value.ownBlock, Option.some.injEq] at hk
      exact .inr (by omega)
theorem step_stay_string {P : Program} {w : World} {ops : Array Oper} {o : Oper} {a : Act} {K : Act → World → Prop} {Q : Exit → Act → World → Prop} {E : Prop} (hgd : o.guard = none) (sl x : Operand) (t u : TypeId)
    (ho : o.op = .call { callee := .builtin .append, args := #[sl, x], argTypes := #[t, u] })
    (base : Nat) (e : TypeId) (i : TypeInfo) (ht : P.underlying t = some (.slice e)) (hu : P.underlying u = some .string) (hi : P.info? e = some i) (hz : i.zero = some (.int .u8 0))
    (hsize : i.size = 1) (hby : i.bytes = 1) (v : Value) (n : Nat) (xs : List Value) (hs : a.eval sl = v) (hown : w.ownsRow base e 1 v n xs) (s : ByteArray) (hx : a.eval x = .string s)
    (h63 : n + s.size ≤ maxLen) (hbytes : n + s.size ≤ 140737488355328) (hbase : base ≤ w.heap.size)
    (h : ∀ v' w', w'.ownsRow base e 1 v' (n + s.size) (xs ++ Lib.strCells s) → w.grownBy w' v.ownBlock → Stay w v v' → K (a.put o.dst v') w') :
    if Region.wanted o (yielded ops a.tmps) = true then Oper.wp P o a w K Q else E := by
  have hw : Region.wanted o (yielded ops a.tmps) = true := by simp [Region.wanted, hgd]
  rw [if_pos hw]
  obtain ⟨v', w', hr, h2, h3, h4⟩ := run_append_stay_string (P := P) w base t u o.type e i ht hu hi hz hsize hby v n xs hown s h63 hbytes hbase
  unfold Oper.wp execOp
  simp only [ho, resolve, invoke, builtin, Sem.run_bind, Sem.run_pure, Result.andThen_ok, List.map_toArray, List.map_cons, List.map_nil, hs, hx, hr]
  exact h v' w' h2 h3 h4

variable {B b : Nat} {s : Pr} {q z lf : Nat} {V : PV} {w : World}
theorem Par.grewBody {X : Nat → Prop} {w2 : World} {v' : Value} (h : Par B b s q z lf V w) (t : Bs) (k : Nat) (hk : k = t.length) (n : Nat) (hn : n = s.body.length) (a : Option Addr) (cap0 : Nat) (hv : V.y = .slice a n cap0) (ho : w2.ownsRow B 5 1 v' (n + k) (Lib.byteCells s.body ++ Lib.byteCells t)) (hg : w.grownBy w2 (Value.slice a n cap0).ownBlock) (hst : Stay w (.slice a n cap0) v') :
    ∃ a2 cap, v' = .slice a2 (n + k) cap ∧ w2.cell? ⟨b, 22, none⟩ = some (.slice a n cap0) ∧ w2.frozen? ⟨b, 22, none⟩ = false ∧ Par B b { s with body := s.body ++ t } q z lf { V with y := v' } (w2.setCell ⟨b, 22, none⟩ v') ∧ PTn b V { V with y := v' } X w (w2.setCell ⟨b, 22, none⟩ v') := by
  obtain ⟨g, cap, hv'⟩ : ∃ a2 cap, v' = .slice a2 (n + k) cap := by
    rcases ho.2 with ⟨e, h0⟩ | ⟨g, cap, cur, hv, _⟩
    · exact ⟨none, 0, by rw [e, h0]⟩
    · exact ⟨_, cap, hv⟩
  have hk2 := (hg.block b h.lt (fun e => h.neB.2.2.2.2 (by rw [hv]; exact e.symm))).trans h.blk
  obtain ⟨hd, ht⟩ := h.putBody (X := X) t (hn ▸ hk ▸ ho) (by rw [hv]; exact hg) (by rw [hv]; exact hst)
  exact ⟨g, cap, hv', by rw [Lib.cell_of_heap hk2, ← hv]; rfl, Lib.frozen_of_heap hk2 22, hd, ht⟩
theorem Par.vy (h : Par B b s q z lf V w) : ∃ a c, V.y = .slice a s.body.length c := by
  rcases h.body.2 with ⟨hv, h0⟩ | ⟨g, cap, cur, hv, _⟩
  · exact ⟨none, 0, by rw [hv, h0]⟩
  · exact ⟨_, _, hv⟩

set_option maxHeartbeats 2000000 in
set_option maxRecDepth 100000 in
theorem complete_any {X : Nat → Prop} (h : Par B b s q z lf V w) (hm : s.mode ≠ 6) :
    Calls Tryz.prog 35 #[ptr b] w fun e w' => e = .returned .nilFunc ∧ PTo B b { s with mode := 7, msg := { s.msg with body := s.body } } q z lf V X w w' := by
  have c22 : w.cell? ⟨b, 22, none⟩ = some V.y := h.cell 22 _ rfl
  have c18 : w.cell? ⟨b, 18, none⟩ = some (.string (mkS s.msg.body)) := h.cell 18 _ rfl
  have f18 := h.frz 18
  have hcv : ∃ a c, V.y = .slice a s.body.length c ∧ (convert 65 9 (.slice a s.body.length c)).run Tryz.prog w = .ok (.string (mkS s.body)) w := by
    rcases h.body.2 with ⟨hv, h0⟩ | ⟨g, cap, cur, hv, _⟩
    · refine ⟨none, 0, by rw [hv, h0], ?_⟩
      rw [run_convert_nil, List.eq_nil_of_length_eq_zero h0]; rfl
    · exact ⟨_, _, hv, run_convert_bytes_back (P := Tryz.prog) w 65 9 5 ⟨g, 0, none⟩ cap s.body Tryz.underlying65 Tryz.underlying5 Tryz.underlying9 (fun j hj => cells_str_at h.body hv j hj)⟩
  obtain ⟨a, c, hv, hc⟩ := hcv
  rw [hv] at c22
  have hd := h.set 18 (.string (mkS s.body)) { s with msg := { s.msg with body := s.body } } q z lf rfl rfl rfl rfl rfl rfl (fun e => absurd (show s.mode = 6 from e) hm)
  have HR := Lib.hid (show PTo B b { s with mode := 7, msg := { s.msg with body := s.body } } q z lf V X w _ from ⟨V, hd.as _ rfl rfl rfl rfl rfl rfl (fun e => by cases e), PTn.set 18 (.string (mkS s.body))⟩)
  clear h hd hv hm
  generalize s.body.length = n at *
  unfold ptr
  go_enter Tryz.func35, Tryz.ntmps35
  go_wp2_with fail
  go_ret
  exact ⟨rfl, HR.out⟩
end Tk
end Go.Proofs.YtpcdaaijlgilkaaGreatDoor
namespace Go.Proofs.YtpcdaaijlgilkaaGreatDoor
open Go.RowKit
namespace Tk

variable {B b : Nat} {s : Pr} {q z lf : Nat} {V : PV} {w : World}
theorem cells_str' (l t : Bs) : Lib.byteCells l ++ Lib.strCells (mkS t) = Lib.byteCells l ++ Lib.byteCells t := by
  simp [Lib.byteCells, Lib.strCells, mkS]
theorem count_end (s : Pr) (t : Bs) (h : ¬ s.body.length + t.length < s.len) : countP s t = { s with body := s.body ++ t, mode := 7, msg := { s.msg with body := s.body ++ t } } := by unfold countP; rw [if_neg h]
theorem count_more (s : Pr) (t : Bs) (h : s.body.length + t.length < s.len) : countP s t = { s with body := s.body ++ t } := by unfold countP; rw [if_pos h]

set_option maxHeartbeats 8000000 in
set_option maxRecDepth 100000 in
theorem pcounted_any (g : Nat) (l : Bs) (h : Par B b s q 0 lf V w) (hi : Inp g l w) (hg : ¬ PMine b V g) (hm : s.mode = 4) (hr : Room s l) (hne : l ≠ []) :
    Calls Tryz.prog 77 #[ptr b, ptr g] w (StPost B b s q lf V g l w) := by
  obtain ⟨i0, hif, hz0, hz1, hz2⟩ := info_parts byteInf
  have hb0 := (not_stop hr.go).2.1
  have hcnt := hr.ok.fit.cnt hm
  have hll := hr.ok.fit.len
  have hlen : 1 ≤ l.length := by cases l with
    | nil => exact absurd rfl hne
    | cons a t => simp
  obtain ⟨m, hmd⟩ : ∃ m, m = s.len - s.body.length := ⟨_, rfl⟩
  obtain ⟨t, htd⟩ : ∃ t, t = l.take m := ⟨_, rfl⟩
  obtain ⟨k, hkd⟩ : ∃ k, k = t.length := ⟨_, rfl⟩
  have hkm : k = min m l.length := by rw [hkd, htd]; simp
  have htk : l.take k = t := by rw [hkm, htd, ← List.take_eq_take_min]
  have hdk : l.drop m = l.drop k := by
    rw [hkm]
    by_cases hq : m ≤ l.length
    · rw [Nat.min_eq_left hq]
    · rw [Nat.min_eq_right (by omega), List.drop_length, List.drop_of_length_le (by omega)]
  have hk1 : 1 ≤ k := by omega
  have hkl : k ≤ l.length := by omega
  have hnm := hr.n
  have hbl := hr.ok.fit.body
  have hea : EatsP s t ((countP s t).ate k) := by
    have := eats_count t s hr.go hm (by intro e; rw [e] at hkd; simp at hkd; omega) (by omega)
    rw [← hkd] at this; exact this
  obtain ⟨n, hn⟩ : ∃ n, n = s.body.length := ⟨_, rfl⟩
  have HN := Lib.hid hn
  obtain ⟨a, cap, hva⟩ := h.vy
  rw [← hn] at hva
  have HVa := Lib.hid hva
  have HP := Lib.hid h
  have HI := Lib.hid hi
  have HG := Lib.hid (show g < w.heap.size ∧ ¬ PMine b V g from ⟨hi.lt, hg⟩)
  have HK := Lib.hid (⟨htk, hdk, hk1, hkl, hkd, hea⟩ : _ ∧ _ ∧ _ ∧ _ ∧ _ ∧ _)
  have HM := Lib.hid (⟨hm, hb0⟩ : _ ∧ _)
  have c22 : w.cell? ⟨b, 22, none⟩ = some (.slice a n cap) := by rw [← hva]; exact h.cell 22 _ rfl
  have c21 : w.cell? ⟨b, 21, none⟩ = some (.int .i64 s.len) := h.cell 21 _ rfl
  have hw : IntKind.i64.wrap ((s.len : Int) - (n : Int)) = (m : Int) := by rw [IntWalk.i64_in _ (by omega)]; omega
  have HTk := Lib.hid (fun W (hI : Inp g l W) => take_any g l m W hI)
  have htz := size_mkS t
  rw [← htd] at HTk
  have HB := Lib.hid (show n + k ≤ 1048576 by omega)
  have HSz := Lib.hid (htz.trans hkd.symm)
  have HMr := Lib.hid (show n + k = s.body.length + t.length by omega)
  clear h hi hg hm hr hne hb0 hcnt hll hlen hmd htd hkd hkm htk hdk hk1 hkl hnm hbl hea hn hva htz
  unfold ptr at *
  go_enter Tryz.func77, Tryz.ntmps77
  go_wp2_with fail
  go_quiet (fail)
  have HP1 := Lib.hid (HP.out.draws nq)
  have HT1 := Lib.hid (PTn.draws (b := b) (V := V) (X := (· = g)) (w := w) nq)
  have HI1 := Lib.hid (show Inp g l (w.drewN nq) from HI.out)
  have d22 : (w.drewN nq).cell? ⟨b, 22, none⟩ = some (.slice a n cap) := c22
  clear c22 c21
  generalize w.drewN nq = w1 at *
  go_wp2_with fail
  have HTa : Hid (Calls Tryz.prog 60 #[.pointer (some ⟨g, 0, none⟩), .int .i64 m] w1.drew fun e w' => e = .returned (.string (mkS t)) ∧ w'.cell? ⟨b, 22, none⟩ = some (.slice a n cap) ∧ Hid (Par B b s q 0 lf V w') ∧ Hid (PTn b V V (· = g) w w') ∧ Hid (Inp g (l.drop k) w') ∧ Hid (w'.ownsRow B 5 1 (.slice a n cap) n (Lib.byteCells s.body)) ∧ Hid (B ≤ w'.heap.size)) := by
    refine (HTk.out w1.drew HI1.out).mono ?_
    rintro e w' ⟨rfl, rfl⟩
    have hp : Par B b s q 0 lf V w1.drew := HP1.out.draws 1
    have ht : PTn b V V (· = g) w w1.drew := HT1.out.trans (PTn.draws 1)
    have hp2 := hp.aside (ht.not_mine HG.out) 0 (.string (mkS (l.drop m)))
    refine ⟨rfl, by rw [← HVa.out]; exact hp2.cell 22 _ rfl, hp2, ht.aside (.inl rfl) 0 _, by rw [← HK.out.2.1]; exact (show Inp g l w1.drew from HI1.out).put (l.drop m), ?_, ?_⟩
    · have := hp2.body
      rw [HVa.out, ← HN.out] at this
      exact this
    · have h1 := hp2.hB
      have h2 := hp2.lt
      exact Nat.le_of_lt (Nat.lt_of_le_of_lt h1 h2)
  have hc3 : n + (mkS t).size ≤ maxLen := by rw [HSz.out]; have := HB.out; unfold maxLen; omega
  have hc4 : n + (mkS t).size ≤ 140737488355328 := by rw [HSz.out]; have := HB.out; omega
  have HC3 := Lib.hid hc3
  have HC4 := Lib.hid hc4
  clear hc3 hc4 hw
  go_region_law (first
    | (refine step_stay_string (by rfl) _ _ 65 9 (by rfl) B 5 i0 Tryz.underlying65 Tryz.underlying9 hif hz0 hz1 hz2 _ _ _ (by rfl) HO.out (mkS t) (by rfl) HC3.out HC4.out HBs.out ?_; intro v' w3 ho hgr hst; obtain ⟨a2, cap2, rfl, k22, f22, hd, ht⟩ := HP2.out.grewBody (X := fun _ => False) t k HK.out.2.2.2.2.1 n HN.out a cap HVa.out (by rw [← cells_str', ← HSz.out]; exact ho) hgr hst; have HR := Lib.hid (show PIn B b { s with body := s.body ++ t } q 0 lf V g (l.drop k) w _ from ⟨⟨_, hd, HT2.out.trans (ht.mono fun _ _ e => e.elim)⟩, inp_aside HI2.out (HT2.out.not_mine HG.out) ht (fun e => e)⟩); have HD := Lib.hid hd; have HTt := Lib.hid ht; clear hd ht ho hgr hst)
    | (go_simp; go_at_call 60; refine HTa.out.mono ?_; rintro e w2 ⟨rfl, j22, HP2, HT2, HI2, HO, HBs⟩))
  all_goals
    have y22 : (w3.setCell ⟨b, 22, none⟩ (.slice a2 (n + k) cap2)).cell? ⟨b, 22, none⟩ = some (.slice a2 (n + k) cap2) := HD.out.cell 22 _ rfl
    have y21 : (w3.setCell ⟨b, 22, none⟩ (.slice a2 (n + k) cap2)).cell? ⟨b, 21, none⟩ = some (.int .i64 s.len) := HD.out.cell 21 _ rfl
    clear HD HTt k22 f22 j22 HP2 HT2 HI2 HO HBs HP1 HT1 HI1 d22 HTa hif hz0 hz1 hz2 HC3 HC4 HTk
    generalize (w3.setCell ⟨b, 22, none⟩ (.slice a2 (n + k) cap2)) = w4 at *
    obtain ⟨N2, hN2⟩ : ∃ N2, N2 = n + k := ⟨_, rfl⟩
    have HN2 := Lib.hid (show N2 = s.body.length + t.length by rw [hN2]; exact HMr.out)
    rw [← hN2] at y22
    rw [← hN2]
    clear hN2
    by_cases hlt : N2 < s.len
    · have hcp := count_more s t (by have := HN2.out; omega)
      have HCp := Lib.hid hcp
      have hlti : (N2 : Int) < (s.len : Int) := by omega
      have HX := Lib.hid (fun nq => (show ∀ e, e = .returned (.tuple #[pstV 4, .nilIface]) → StPost B b s q lf V g l w e (w4.drewN nq) from fun e' he' => by
        obtain ⟨V', p1, p2⟩ := HR.out.1
        refine ⟨k, _, HK.out.2.2.1, HK.out.2.2.2.1, by rw [HK.out.1]; exact HK.out.2.2.2.2.2, ?_, ⟨V', ?_, p2.trans (PTn.draws nq)⟩, HR.out.2⟩
        · rw [he', stE_ate, HCp.out]; unfold stE; rw [if_pos (by exact HM.out.2), show ({ s with body := s.body ++ t } : Pr).mode = 4 from HM.out.1]
        · rw [HCp.out]; exact (p1.draws nq).ate k))
      clear hlt hcp
      unfold pstV at *
      go_wp2_with fail
      go_quiet (fail)
      go_wp2_with fail
      go_ret2
      exact HX.out _ _ rfl
    · have hcp := count_end s t (by have := HN2.out; omega)
      have HCp := Lib.hid hcp
      have hlti : ¬ (N2 : Int) < (s.len : Int) := by omega
      have HX := Lib.hid (fun nq => (show Calls Tryz.prog 35 #[.pointer (some ⟨b, 0, none⟩)] (w4.drewN nq) fun e w' => e = .returned .nilFunc ∧ ∀ e, e = .returned (.tuple #[.nilFunc, .nilIface]) → StPost B b s q lf V g l w e w' from by
        obtain ⟨V', p1, p2⟩ := HR.out.1
        refine (complete_any (X := fun _ => False) (p1.draws nq) (by show s.mode ≠ 6; have := HM.out.1; omega)).mono ?_
        rintro e w5 ⟨rfl, V2, r1, r2⟩
        refine ⟨rfl, fun e' he' => ⟨k, _, HK.out.2.2.1, HK.out.2.2.2.1, by rw [HK.out.1]; exact HK.out.2.2.2.2.2, ?_, ⟨V2, ?_, (p2.trans (PTn.draws nq)).trans (r2.mono fun _ _ e => e.elim)⟩, inp_aside (show Inp g (l.drop k) (w4.drewN nq) from HR.out.2) (p2.not_mine HG.out) r2 (fun e => e)⟩⟩
        · rw [he', stE_ate, HCp.out]; unfold stE; rw [if_pos (by exact HM.out.2)]; rfl
        · rw [HCp.out]; exact r1.ate k))
      clear hlt hcp
      go_wp2_with fail
      go_quiet (fail)
      go_wp2_with fail
      refine (HX.out _).mono ?_
      rintro e w5 ⟨rfl, hX⟩
      have HX2 := Lib.hid hX
      clear hX
      go_wp2_with fail
      go_ret2
      exact HX2.out _ rfl
end Tk
end Go.Proofs.YtpcdaaijlgilkaaGreatDoor
namespace Go.Proofs.YtpcdaaijlgilkaaGreatDoor
open Go.RowKit
namespace Tk

variable {B b : Nat} {s : Pr} {q z lf : Nat} {V : PV} {w : World}
theorem Par.turn {X : Nat → Prop} {bd : Nat} {d : Dc} {w' : World} (h : Par B b s q z lf V w) (hc : V.c = ptr bd) (hv : V.d = some bd) (hd : DecTo B bd d V.dl V.db V.dt w w') :
    ∃ V', V'.c = ptr bd ∧ V'.d = some bd ∧ Dec B bd d V'.dl V'.db V'.dt w' ∧ Par B b { s with dc := d } q z lf V' w' ∧ PTn b V V' X w w' := by
  obtain ⟨x1, x2, x3, hd, ht⟩ := hd
  have hnm : ∀ k, OwnP b V k → ¬ Mine bd V.dl V.db V.dt k := fun k ho hm => h.apd k ⟨bd, hv, hm⟩ ho
  have hkeep : ∀ k, OwnP b V k → w'.heap[k]? = w.heap[k]? := fun k ho => ht.block k (h.mineLt k (.inl ho)).2 (hnm k ho)
  refine ⟨{ V with dl := x1, db := x2, dt := x3 }, hc, hv, hd, ⟨h.hB, (hkeep b (.inl rfl)).trans h.blk, Meth.heap h.meth fun k e => hkeep k (.inr (.inl e)), own_heap h.line fun k e => hkeep k (.inr (.inr (.inl e))), own_heap h.flds fun k e => hkeep k (.inr (.inr (.inr (.inl e)))), own_heap h.trl fun k e => hkeep k (.inr (.inr (.inr (.inr (.inl e))))), own_heap h.body fun k e => hkeep k (.inr (.inr (.inr (.inr (.inr e))))), h.lb, h.ft, fun _ => ⟨bd, hc, hv, hd⟩, ?_, ?_⟩, ⟨ht.os, ht.tape, ht.output, ht.size, fun k hk hm _ => ht.block k hk fun e => hm (.inr ⟨bd, hv, e⟩), ?_⟩⟩
  · rintro k ⟨bd', e1, e2⟩
    have : bd' = bd := by rw [show V.d = some bd' from e1] at hv; injection hv
    subst this
    exact hd.mineLt k e2
  · rintro k ⟨bd', e1, e2⟩ ho
    have : bd' = bd := by rw [show V.d = some bd' from e1] at hv; injection hv
    subst this
    rcases ht.new k e2 with h1 | h1
    · exact h.apd k ⟨_, hv, h1⟩ ho
    · have := (h.mineLt k (.inl ho)).2; omega
  · rintro k (e | ⟨bd', e1, e2⟩)
    · exact .inl (.inl e)
    · have : bd' = bd := by rw [show V.d = some bd' from e1] at hv; injection hv
      subst this
      rcases ht.new k e2 with h1 | h1
      · exact .inl (.inr ⟨_, hv, h1⟩)
      · exact .inr h1
theorem Par.doneMsg {X : Nat → Prop} {w2 : World} {v : Value} (h : Par B b s q z lf V w) (hb : Below w.heap.size w w2) (body : Bs) (tr : List (Bs × Bs)) (ho : w2.ownsRow w.heap.size 84 2 v tr.length (fcells tr)) :
    Par B b { s with mode := 7, msg := { s.msg with body := body, tr := tr } } q z lf { V with t := v } ((w2.setCell ⟨b, 18, none⟩ (.string (mkS body))).setCell ⟨b, 19, none⟩ v) ∧ PTn b V { V with t := v } X w ((w2.setCell ⟨b, 18, none⟩ (.string (mkS body))).setCell ⟨b, 19, none⟩ v) := by
  have h2 := h.below hb
  have hlt := h.lt
  obtain ⟨n1, n2, n3, n4, n5⟩ := h2.neB
  have hne : ∀ k, k ≠ b → ((w2.setCell ⟨b, 18, none⟩ (.string (mkS body))).setCell ⟨b, 19, none⟩ v).heap[k]? = w2.heap[k]? := fun k hk => (Below.heap_setCell _ _ _ _ hk).trans (Below.heap_setCell _ _ _ _ hk)
  have hB := h.hB
  have hoB : w2.ownsRow B 84 2 v tr.length (fcells tr) := by
    rcases ho.2 with hn | ⟨g, cap, cur, e, hb1, rest⟩
    · exact ⟨ho.1, .inl hn⟩
    · exact ⟨ho.1, .inr ⟨g, cap, cur, e, by omega, rest⟩⟩
  have hnew : ∀ k, v.ownBlock = some k → w.heap.size ≤ k := fun k e => (ho.lt k e).1
  refine ⟨⟨h.hB, ?_, Meth.heap h2.meth fun k e => hne k (fun e2 => n1 (e2 ▸ e)), own_heap h2.line fun k e => hne k (fun e2 => n2 (e2 ▸ e)), own_heap h2.flds fun k e => hne k (fun e2 => n3 (e2 ▸ e)), own_heap hoB fun k e => hne k (fun e2 => by have := hnew k e; omega), own_heap h2.body fun k e => hne k (fun e2 => n5 (e2 ▸ e)), h.lb, fun k hk hv => ?_, (fun e => by cases e), fun k e => ⟨(h2.dlt k e).1, by have := (h2.dlt k e).2; simpa using this⟩, fun k e hoo => ?_⟩, ⟨hb.os, hb.tape, hb.output, by have := hb.size; simpa using this, fun k hk hm _ => (hne k (fun e => hm (.inl (.inl e)))).trans (hb.block k hk), fun k hk => ?_⟩⟩
  · rw [heap_setCell_same _ b 19 _ _ _ (heap_setCell_same w2 b 18 _ _ _ h2.blk)]; rfl
  · have h1 := (h.flds.lt k hk).2
    have h3 := hnew k hv
    omega
  · have h1 := (h.dlt k e).2
    rcases hoo with e2 | e2 | e2 | e2 | e2 | e2
    · exact h.apd k e (.inl e2)
    · exact h.apd k e (.inr (.inl e2))
    · exact h.apd k e (.inr (.inr (.inl e2)))
    · exact h.apd k e (.inr (.inr (.inr (.inl e2))))
    · have := hnew k e2; omega
    · exact h.apd k e (.inr (.inr (.inr (.inr (.inr e2)))))
  · rcases hk with (e2 | e2 | e2 | e2 | e2 | e2) | e2
    · exact .inl (.inl (.inl e2))
    · exact .inl (.inl (.inr (.inl e2)))
    · exact .inl (.inl (.inr (.inr (.inl e2))))
    · exact .inl (.inl (.inr (.inr (.inr (.inl e2)))))
    · exact .inr (hnew k e2)
    · exact .inl (.inl (.inr (.inr (.inr (.inr (.inr e2))))))
    · exact .inl (.inr e2)
theorem chunk_bad (s : Pr) (d : Dc) (h : d.bad ≠ 0) : chunkP s d = { s with dc := d, bad := d.bad, mode := 7 } := by unfold chunkP; rw [if_pos h]
theorem chunk_end (s : Pr) (d : Dc) (h : d.bad = 0) (h2 : d.mode = 5) : chunkP s d = { s with dc := d, mode := 7, msg := { s.msg with body := d.body, tr := d.trl } } := by unfold chunkP; rw [if_neg (by omega), if_pos h2]
theorem chunk_more (s : Pr) (d : Dc) (h : d.bad = 0) (h2 : d.mode ≠ 5) : chunkP s d = { s with dc := d } := by unfold chunkP; rw [if_neg (by omega), if_neg h2]

set_option maxHeartbeats 8000000 in
set_option maxRecDepth 100000 in
theorem pchunked_any (g : Nat) (l : Bs) (h : Par B b s q 0 lf V w) (hi : Inp g l w) (hg : ¬ PMine b V g) (hm : s.mode = 6) (hr : Room s l) (hne : l ≠ []) (hv : ErrV B w) :
    Calls Tryz.prog 79 #[ptr b, ptr g] w (StPost B b s q lf V g l w) := by
  have hb0 := (not_stop hr.go).2.1
  have hst := hr.ok.fit.chk hm
  have hdf := hr.ok.fit.dc
  obtain ⟨l1, l2, l3, l4⟩ := hr.ok.fit.dlim hm
  have hlim : Lim s.dc := by
    obtain ⟨a1, a2, a3, a4⟩ := hr.ok.lim
    unfold Lim; rw [l1, l2, l3, l4]; exact ⟨a1, a2, a3, a4⟩
  have hnm := hr.n
  obtain ⟨bd, hc, hd, hD⟩ := h.dec hm
  have hea := eats_chunk l s hr.go hm hst hne
  have hle := feedD_le l s.dc
  have hpos : 1 ≤ (feedD s.dc l).1 := by
    cases l with
    | nil => exact absurd rfl hne
    | cons c t => rw [feedD_cons _ _ _ hst]; simp
  have hfit := feedD_fit l s.dc s.left hdf
  have hF : ∀ W, Below w.heap.size w W → Calls Tryz.prog 93 #[.pointer (some ⟨bd, 0, none⟩), .string (mkS l)] W (FeedPost B bd s.dc l V.dl V.db V.dt W) := by
    intro W hb
    have := feed_any (mkS l) (hD.below (hb.mono (Nat.le_refl _))) s.left hdf (by rw [size_mkS]; omega) hlim (hv.later (hb.mono hv.2.1))
    rw [bs_mkS] at this
    exact this
  unfold FeedPost at hF
  obtain ⟨n, hn⟩ : ∃ n, n = (feedD s.dc l).1 := ⟨_, rfl⟩
  obtain ⟨d, hdd⟩ : ∃ d, d = (feedD s.dc l).2 := ⟨_, rfl⟩
  rw [← hn, ← hdd] at hF hea
  rw [← hn] at hle hpos
  rw [← hdd] at hfit
  have c23 : w.cell? ⟨b, 23, none⟩ = some (.pointer (some ⟨bd, 0, none⟩)) := by rw [show Value.pointer (some ⟨bd, 0, none⟩) = V.c from hc.symm]; exact h.cell 23 _ rfl
  have cg0 := hi.cell
  have HP := Lib.hid h
  have HI := Lib.hid hi
  have HG := Lib.hid (show g < w.heap.size ∧ ¬ PMine b V g from ⟨hi.lt, hg⟩)
  have HK := Lib.hid (⟨hpos, hle, hea⟩ : _ ∧ _ ∧ _)
  have HM := Lib.hid (⟨hm, hb0⟩ : _ ∧ _)
  have HC := Lib.hid (⟨hc, hd⟩ : _ ∧ _)
  have HFt := Lib.hid hfit
  have HBd := Lib.hid (show s.left + l.length ≤ 100000 from hnm)
  have HFa : Hid (Calls Tryz.prog 93 #[.pointer (some ⟨bd, 0, none⟩), .string (mkS l)] w.drew fun e w' => e = .returned (.tuple #[.int .i64 n, .int .i64 d.bad]) ∧ w'.cell? ⟨b, 23, none⟩ = some (.pointer (some ⟨bd, 0, none⟩)) ∧ w'.cell? ⟨g, 0, none⟩ = some (.string (mkS l)) ∧ Hid (∃ V', V'.c = ptr bd ∧ V'.d = some bd ∧ Dec B bd d V'.dl V'.db V'.dt w' ∧ Par B b { s with dc := d } q 0 lf V' w' ∧ PTn b V V' (· = g) w w') ∧ Hid (Inp g l w')) := by
    refine (hF w.drew ((Below.refl _ _).drew)).mono ?_
    rintro e w' ⟨rfl, hdt⟩
    have hp := HP.out.draws 1
    obtain ⟨V', p3, p4, p5, p1, p2⟩ := hp.turn (X := fun _ => False) hc hd hdt
    have hin := inp_aside (show Inp g l (w.drewN 1) from HI.out) HG.out.2 p2 (fun e => e)
    have h23 : w'.cell? ⟨b, 23, none⟩ = some V'.c := p1.cell 23 _ rfl
    refine ⟨rfl, ?_, hin.cell, ⟨V', p3, p4, p5, p1, (PTn.draws 1).trans (p2.mono fun _ _ e => e.elim)⟩, hin⟩
    rw [h23, p3]; rfl
  clear h hi hg hm hr hne hv hb0 hst hdf l1 l2 l3 l4 hlim hnm hc hd hD hea hle hpos hfit hF hn hdd
  unfold ptr at *
  go_enter Tryz.func79, Tryz.ntmps79
  go_wp2_with fail
  (go_region_held3 (fun w' => w'.cell? ⟨b, 23, none⟩ = some (.pointer (some ⟨bd, 0, none⟩)) ∧ w'.cell? ⟨g, 0, none⟩ = some (.string (mkS l))) (first | (refine ⟨?_, ?_⟩ <;> assumption) | go_keep) (first
      | (go_at_call 93; refine HFa.out.mono ?_; rintro e w2 ⟨rfl, t23, tg, HPp, HIn⟩)))
  clear t23 tg
  obtain ⟨V2, q1, q2, q3, q4, q5⟩ := HPp.out
  have HTk := Lib.hid (take_any g l n w2 HIn.out)
  have hmine := q5.not_mine HG.out
  have HP3 := Lib.hid (q4.aside hmine 0 (.string (mkS (l.drop n))))
  have HT3 := Lib.hid (q5.aside (k := g) (.inl rfl) 0 (.string (mkS (l.drop n))))
  have HI3 := Lib.hid (HIn.out.put (l.drop n))
  have HC3 := Lib.hid (⟨q1, q2⟩ : _ ∧ _)
  have HD3 := Lib.hid (show Dec B bd d V2.dl V2.db V2.dt (w2.setCell ⟨g, 0, none⟩ (.string (mkS (l.drop n)))) from q3.aside (fun e => hmine (.inr ⟨bd, q2, e⟩)) 0 _)
  have hG3 := HT3.out.not_mine HG.out
  have HG3 := Lib.hid hG3
  clear q1 q2 q3 q4 q5 hmine HPp HIn hG3 c23 cg0 HFa
  unfold ptr at HTk
  go_wp2_with fail
  refine HTk.out.mono ?_
  rintro e w3 ⟨rfl, rfl⟩
  generalize w2.setCell ⟨g, 0, none⟩ (.string (mkS (l.drop n))) = w3 at *
  by_cases hbad : d.bad = 0
  · have e0 : ((d.bad : Int) != 0) = false := by simp [hbad]
    have k23 : w3.cell? ⟨b, 23, none⟩ = some (.pointer (some ⟨bd, 0, none⟩)) := by rw [show Value.pointer (some ⟨bd, 0, none⟩) = V2.c from HC3.out.1.symm]; exact HP3.out.cell 23 _ rfl
    have HDn := Lib.hid (done_any HD3.out HFt.out.mode)
    have HBad := Lib.hid hbad
    unfold ptr at HDn
    clear hbad
    by_cases hm5 : d.mode = 5
    · have HCp := Lib.hid (chunk_end s d HBad.out hm5)
      rw [decide_eq_true hm5] at HDn
      have hbod : ∀ W, Below w3.heap.size w3 W → Calls Tryz.prog 95 #[.pointer (some ⟨bd, 0, none⟩)] W fun e w' => e = .returned (.string (mkS d.body)) ∧ w' = W := fun W hb => body_any (HD3.out.below hb)
      have htrl : Calls Tryz.prog 96 #[.pointer (some ⟨bd, 0, none⟩)] w3.drew fun e w' => ∃ (a : Option Addr) (c : Nat), e = .returned (.slice a d.trl.length c) ∧ Below w3.heap.size w3 w' ∧ w'.cell? ⟨b, 23, none⟩ = some (.pointer (some ⟨bd, 0, none⟩)) ∧ w'.cell? ⟨b, 18, none⟩ = some (.string (mkS s.msg.body)) ∧ w'.frozen? ⟨b, 18, none⟩ = false ∧ w'.cell? ⟨b, 19, none⟩ = some V2.t ∧ w'.frozen? ⟨b, 19, none⟩ = false ∧ Hid (w'.ownsRow w3.heap.size 84 2 (.slice a d.trl.length c) d.trl.length (fcells d.trl)) := by
        refine (trailers_any (show Dec B bd d V2.dl V2.db V2.dt w3.drew from HD3.out.draws 1) (by have := HFt.out.trl; have := HBd.out; omega)).mono ?_
        rintro e w' ⟨v, rfl, ho, hb⟩
        have hb2 : Below w3.heap.size w3 w' := ((Below.refl _ _).drew).trans hb
        have hp := HP3.out.below hb2
        obtain ⟨a, c, hv, -⟩ := isFlds_own ho
        subst hv
        refine ⟨a, c, rfl, hb2, ?_, hp.cell 18 _ rfl, hp.frz 18, hp.cell 19 _ rfl, hp.frz 19, ho⟩
        rw [show Value.pointer (some ⟨bd, 0, none⟩) = V2.c from HC3.out.1.symm]; exact hp.cell 23 _ rfl
      have HBod := Lib.hid hbod
      have HTrl := Lib.hid htrl
      have hBd0 : Below w3.heap.size w3 w3.drew := (Below.refl _ _).drew
      clear hbod htrl hm5
      go_wp2_with fail
      refine HDn.out.mono ?_
      rintro e w4 ⟨rfl, rfl⟩
      go_wp2_with fail
      (go_region_held3 (fun w' => w'.cell? ⟨b, 23, none⟩ = some (.pointer (some ⟨bd, 0, none⟩))) (first | assumption | ((rw [World.cell?_setCell_other _ _ _ _ (by intro e; injection e with _ e2 _; cases e2)]); assumption) | ((rw [World.cell?_setCell_other _ _ _ _ (by intro e; injection e with _ e2 _; cases e2), World.cell?_setCell_other _ _ _ _ (by intro e; injection e with _ e2 _; cases e2)]); assumption)) (first
        | (go_at_call 95; refine (HBod.out _ (by assumption)).mono ?_; rintro e w5 ⟨rfl, rfl⟩)
        | (go_at_call 96; refine HTrl.out.mono ?_; rintro e w6 ⟨a6, c6, rfl, hb6, t23, k18, f18, k19, f19, HO6⟩)))
      all_goals
        have HX := Lib.hid (show ∀ e, e = .returned (.tuple #[.nilFunc, .nilIface]) → StPost B b s q lf V g l w e ((w6.setCell ⟨b, 18, none⟩ (.string (mkS d.body))).setCell ⟨b, 19, none⟩ (.slice a6 d.trl.length c6)) from fun e' he' => by
          obtain ⟨r1, r2⟩ := HP3.out.doneMsg (X := fun _ => False) hb6 d.body d.trl HO6.out
          refine ⟨n, _, HK.out.1, HK.out.2.1, HK.out.2.2, ?_, ⟨_, ?_, HT3.out.trans (r2.mono fun _ _ e => e.elim)⟩, inp_aside HI3.out HG3.out r2 (fun e => e)⟩
          · rw [he', stE_ate, HCp.out]; unfold stE; rw [if_pos (by exact HM.out.2)]; rfl
          · rw [HCp.out]; exact (r1.ate n).as _ rfl rfl rfl rfl rfl rfl (fun e => by cases e))
        go_wp2_with fail
        go_ret2
        exact HX.out _ rfl
    · have HCp := Lib.hid (chunk_more s d HBad.out hm5)
      rw [decide_eq_false hm5] at HDn
      have HX := Lib.hid (show ∀ e, e = .returned (.tuple #[pstV 6, .nilIface]) → StPost B b s q lf V g l w e w3 from fun e' he' => by
        refine ⟨n, _, HK.out.1, HK.out.2.1, HK.out.2.2, ?_, ⟨V2, ?_, HT3.out⟩, HI3.out⟩
        · rw [he', stE_ate, HCp.out]; unfold stE; rw [if_pos (by exact HM.out.2), show ({ s with dc := d } : Pr).mode = 6 from HM.out.1]
        · rw [HCp.out]; exact HP3.out.ate n)
      clear hm5
      unfold pstV at *
      go_wp2_with fail
      refine HDn.out.mono ?_
      rintro e w4 ⟨rfl, rfl⟩
      go_wp2_with fail
      go_ret2
      exact HX.out _ rfl
  · have e0 : ((d.bad : Int) != 0) = true := by simp [hbad]
    have HCp := Lib.hid (chunk_bad s d hbad)
    have HX := Lib.hid (show ∀ e, e = .returned (.tuple #[.nilFunc, flV d.bad]) → StPost B b s q lf V g l w e w3 from fun e' he' => by
      refine ⟨n, _, HK.out.1, HK.out.2.1, HK.out.2.2, ?_, ⟨V2, ?_, HT3.out⟩, HI3.out⟩
      · rw [he', stE_ate, HCp.out]; unfold stE; rw [if_neg (by exact hbad), if_pos rfl]
      · rw [HCp.out]; exact (HP3.out.ate n).as _ rfl rfl rfl rfl rfl rfl (fun e => by cases e))
    clear hbad
    unfold flV at *
    go_wp2_with fail
    go_ret2
    exact HX.out _ rfl
end Tk
end Go.Proofs.YtpcdaaijlgilkaaGreatDoor
namespace Go.Proofs.YtpcdaaijlgilkaaGreatDoor
open Go.RowKit
namespace Tk

theorem predChar : PredF 74 (fun c => decide (1 ≤ kindOf c.toNat)) := ⟨enters_of Tryz.func74 (by kernel_rfl) rfl, char_any⟩

def sInI (n : Int) (r : Bs) : Bool := decide (100 ≤ n) && decide (n ≤ 599) && r.all fun c => decide (1 ≤ kindOf c.toNat)
theorem sInI_nat (n : Nat) (r : Bs) : sInI (n : Int) r = sIn n r := by
  unfold sInI sIn
  congr 1
  congr 1
  · rw [Bool.eq_iff_iff]; simp; omega
  · rw [Bool.eq_iff_iff]; simp; omega

set_option maxHeartbeats 1000000 in
set_option maxRecDepth 100000 in
theorem inStatus_any (n : Int) (r : ByteArray) (w : World) (hr : r.size ≤ 1099511627776) :
    Calls Tryz.prog 65 #[.int .i64 n, .string r] w fun e w' => e = .returned (.bool (sInI n (bs r))) ∧ Below w.heap.size w w' := by
  have HS := Lib.hid (fun W => sall_any _ _ predChar r W hr)
  have hV : sInI n (bs r) = (decide (100 ≤ n) && decide (n ≤ 599) && (bs r).all fun c => decide (1 ≤ kindOf c.toNat)) := rfl
  generalize ((bs r).all fun c => decide (1 ≤ kindOf c.toNat)) = b at *
  by_cases h0 : 100 ≤ n
  · by_cases h1 : n ≤ 599
    · have HV := Lib.hid (show sInI n (bs r) = b by rw [hV, decide_eq_true h0, decide_eq_true h1]; rfl)
      clear hV
      go_enter Tryz.func65, Tryz.ntmps65
      go_wp2_with fail
      refine (HS.out _).mono ?_
      rintro e w2 ⟨rfl, hb⟩
      have HB := Lib.hid hb
      clear hb
      go_wp2_with fail
      go_ret
      exact ⟨retB (by rw [HV.out]), HB.out⟩
    · have HV := Lib.hid (show sInI n (bs r) = false by rw [hV, decide_eq_true h0, decide_eq_false h1]; rfl)
      clear hV
      go_enter Tryz.func65, Tryz.ntmps65
      go_wp2_with fail
      go_ret
      exact ⟨retB (by rw [HV.out]), Below.refl _ _⟩
  · have HV := Lib.hid (show sInI n (bs r) = false by rw [hV, decide_eq_false h0]; rfl)
    clear hV
    go_enter Tryz.func65, Tryz.ntmps65
    go_wp2_with fail
    go_ret
    exact ⟨retB (by rw [HV.out]), Below.refl _ _⟩

def StaPost (l : Bs) (w : World) (e : Ending) (w' : World) : Prop := e = .returned (.tuple #[.int .i64 (staM l), .int .i64 (staN l), .string (mkS (staR l)), .int .i64 (staE l)]) ∧ Below w.heap.size w w'
theorem sta_no (l : Bs) (h : sOk l = false) : staM l = 0 ∧ staN l = 0 ∧ staR l = [] ∧ staE l = 4 := by
  unfold staM staN staR staE
  rw [h]
  exact ⟨rfl, rfl, rfl, rfl⟩
theorem sta_yes (l : Bs) (h : sOk l = true) : staM l = vMi (sV l) ∧ staN l = (numL (sD l)).1 ∧ staR l = sR l ∧ staE l = 0 := by
  unfold staM staN staR staE
  rw [h]
  exact ⟨rfl, rfl, rfl, rfl⟩

set_option maxHeartbeats 8000000 in
set_option maxRecDepth 100000 in
theorem status_any (s : ByteArray) (w : World) (hs : s.size ≤ 1099511627) :
    Calls Tryz.prog 52 #[.string s] w (StaPost (bs s) w) := by
  have l1 := cutl1 32 (bs s)
  have l2 := cutl2 32 (bs s)
  have l3 := cutl1 32 (cutL 32 (bs s)).2.1
  have l4 := cutl2 32 (cutL 32 (bs s)).2.1
  rw [length_bs] at l1 l2
  have hc1 := cutB_any s 32 w (by omega)
  have hc2 := fun W => cutB_any (mkS (cutL 32 (bs s)).2.1) 32 W (by rw [size_mkS]; omega)
  rw [bs_mkS] at hc2
  have hv := fun W => version_any (mkS (sV (bs s))) W (by rw [size_mkS]; unfold sV; omega)
  unfold VerPost at hv
  have hnum := fun W => number_any (mkS (sD (bs s))) W (by rw [size_mkS]; unfold sD; omega)
  have hi := fun W => inStatus_any ((numL (sD (bs s))).1 : Int) (mkS (sR (bs s))) W (by rw [size_mkS]; unfold sR; omega)
  have hk := fun W => clone_any (mkS (sR (bs s))) W (by rw [size_mkS]; unfold sR; omega)
  rw [bs_mkS] at hv hnum hk
  rw [bs_mkS, sInI_nat] at hi
  have hz := size_mkS (sD (bs s))
  have hO : sOk (bs s) = (decide (vSt (sV (bs s)) = 0) && decide ((numL (sD (bs s))).2 = 0) && decide ((sD (bs s)).length = 3) && sB (bs s) && sIn (numL (sD (bs s))).1 (sR (bs s))) := rfl
  have hc1' : Calls Tryz.prog 62 #[.string s, .string ⟨#[32]⟩] w fun e w' => e = .returned (.tuple #[.string (mkS (sV (bs s))), .string (mkS (cutL 32 (bs s)).2.1), .bool (cutL 32 (bs s)).2.2]) ∧ Below w.heap.size w w' := hc1
  have hc2' : ∀ W, Calls Tryz.prog 62 #[.string (mkS (cutL 32 (bs s)).2.1), .string ⟨#[32]⟩] W fun e w' => e = .returned (.tuple #[.string (mkS (sD (bs s))), .string (mkS (sR (bs s))), .bool (sB (bs s))]) ∧ Below W.heap.size W w' := hc2
  have hbad := sta_no (bs s)
  have hgood := sta_yes (bs s)
  rw [hO] at hbad hgood
  clear l1 l2 l3 l4 hc1 hc2 hs hO
  have hcase : vSt (sV (bs s)) ≠ 0 ∨ (vSt (sV (bs s)) = 0 ∧ (numL (sD (bs s))).2 ≠ 0) ∨ (vSt (sV (bs s)) = 0 ∧ (numL (sD (bs s))).2 = 0 ∧ (sD (bs s)).length ≠ 3) ∨ (vSt (sV (bs s)) = 0 ∧ (numL (sD (bs s))).2 = 0 ∧ (sD (bs s)).length = 3 ∧ sB (bs s) = false) ∨ (vSt (sV (bs s)) = 0 ∧ (numL (sD (bs s))).2 = 0 ∧ (sD (bs s)).length = 3 ∧ sB (bs s) = true) := by
    cases sB (bs s) <;> simp <;> omega
  generalize mkS (cutL 32 (bs s)).2.1 = R at *
  generalize (cutL 32 (bs s)).2.2 = f1 at *
  have HC1 := Lib.hid hc1'
  have HV := Lib.hid hv
  have HN := Lib.hid hnum
  have HK := Lib.hid hk
  clear hc1' hv hnum hk
  rcases hcase with h1 | ⟨h1, h2⟩ | ⟨h1, h2, h3⟩ | ⟨h1, h2, h3, h4⟩ | ⟨h1, h2, h3, h4⟩
  · obtain ⟨b1, b2, b3, b4⟩ := hbad (by rw [decide_eq_false h1]; rfl)
    have e1 : ((vSt (sV (bs s)) : Int) != 0) = true := by rw [bne_iff_ne]; omega
    have H1 := Lib.hid b1
    have H2 := Lib.hid b2
    have H3 := Lib.hid b3
    have H4 := Lib.hid b4
    have HC2 := Lib.hid hc2'
    clear hbad hgood b1 b2 b3 b4 h1 hi hz hc2'
    generalize mkS (sV (bs s)) = V at *
    generalize mkS (sD (bs s)) = D at *
    generalize mkS (sR (bs s)) = Re at *
    generalize vMi (sV (bs s)) = vm at *
    generalize vSt (sV (bs s)) = st at *
    generalize numL (sD (bs s)) = nm at *
    generalize sB (bs s) = f2 at *
    go_enter Tryz.func52, Tryz.ntmps52
    go_wp2_with fail
    refine HC1.out.mono ?_
    rintro e w1 ⟨rfl, hb⟩
    have HB := Lib.hid hb
    clear hb
    go_wp2_with fail
    refine (HC2.out _).mono ?_
    rintro e w2 ⟨rfl, hb⟩
    have HB2 := Lib.hid (HB.out.trans (hb.mono HB.out.size))
    clear hb
    go_wp2_with fail
    refine (HV.out _).mono ?_
    rintro e w3 ⟨rfl, hb⟩
    have HB3 := Lib.hid (HB2.out.trans (hb.mono HB2.out.size))
    clear hb
    go_wp2_with fail
    refine (HN.out _).mono ?_
    rintro e w4 ⟨rfl, rfl⟩
    go_wp2_with fail
    try simp only [Exit.inBlock, Exit.then]
    refine bodyPost_ret (results_tmp4 rfl _ _ _) rfl ⟨?_, HB3.out⟩
    rw [H1.out, H2.out, H3.out, H4.out]; rfl
  · obtain ⟨b1, b2, b3, b4⟩ := hbad (by rw [decide_eq_false h2]; simp)
    have e1 : ((vSt (sV (bs s)) : Int) != 0) = false := by rw [bne_eq_false_iff_eq]; omega
    have e2 : (((numL (sD (bs s))).2 : Int) != 0) = true := by rw [bne_iff_ne]; omega
    have H1 := Lib.hid b1
    have H2 := Lib.hid b2
    have H3 := Lib.hid b3
    have H4 := Lib.hid b4
    have HC2 := Lib.hid hc2'
    clear hbad hgood b1 b2 b3 b4 h1 h2 hi hz hc2'
    generalize mkS (sV (bs s)) = V at *
    generalize mkS (sD (bs s)) = D at *
    generalize mkS (sR (bs s)) = Re at *
    generalize vMi (sV (bs s)) = vm at *
    generalize vSt (sV (bs s)) = st at *
    generalize numL (sD (bs s)) = nm at *
    generalize sB (bs s) = f2 at *
    go_enter Tryz.func52, Tryz.ntmps52
    go_wp2_with fail
    refine HC1.out.mono ?_
    rintro e w1 ⟨rfl, hb⟩
    have HB := Lib.hid hb
    clear hb
    go_wp2_with fail
    refine (HC2.out _).mono ?_
    rintro e w2 ⟨rfl, hb⟩
    have HB2 := Lib.hid (HB.out.trans (hb.mono HB.out.size))
    clear hb
    go_wp2_with fail
    refine (HV.out _).mono ?_
    rintro e w3 ⟨rfl, hb⟩
    have HB3 := Lib.hid (HB2.out.trans (hb.mono HB2.out.size))
    clear hb
    go_wp2_with fail
    refine (HN.out _).mono ?_
    rintro e w4 ⟨rfl, rfl⟩
    go_wp2_with fail
    try simp only [Exit.inBlock, Exit.then]
    refine bodyPost_ret (results_tmp4 rfl _ _ _) rfl ⟨?_, HB3.out⟩
    rw [H1.out, H2.out, H3.out, H4.out]; rfl
  · obtain ⟨b1, b2, b3, b4⟩ := hbad (by rw [decide_eq_false h3]; simp)
    have e1 : ((vSt (sV (bs s)) : Int) != 0) = false := by rw [bne_eq_false_iff_eq]; omega
    have e2 : (((numL (sD (bs s))).2 : Int) != 0) = false := by rw [bne_eq_false_iff_eq]; omega
    have e3 : (((mkS (sD (bs s))).size : Int) != 3) = true := by rw [bne_iff_ne]; omega
    have H1 := Lib.hid b1
    have H2 := Lib.hid b2
    have H3 := Lib.hid b3
    have H4 := Lib.hid b4
    have HC2 := Lib.hid hc2'
    clear hbad hgood b1 b2 b3 b4 h1 h2 h3 hi hz hc2'
    generalize mkS (sV (bs s)) = V at *
    generalize mkS (sD (bs s)) = D at *
    generalize mkS (sR (bs s)) = Re at *
    generalize vMi (sV (bs s)) = vm at *
    generalize vSt (sV (bs s)) = st at *
    generalize numL (sD (bs s)) = nm at *
    generalize sB (bs s) = f2 at *
    go_enter Tryz.func52, Tryz.ntmps52
    go_wp2_with fail
    refine HC1.out.mono ?_
    rintro e w1 ⟨rfl, hb⟩
    have HB := Lib.hid hb
    clear hb
    go_wp2_with fail
    refine (HC2.out _).mono ?_
    rintro e w2 ⟨rfl, hb⟩
    have HB2 := Lib.hid (HB.out.trans (hb.mono HB.out.size))
    clear hb
    go_wp2_with fail
    refine (HV.out _).mono ?_
    rintro e w3 ⟨rfl, hb⟩
    have HB3 := Lib.hid (HB2.out.trans (hb.mono HB2.out.size))
    clear hb
    go_wp2_with fail
    refine (HN.out _).mono ?_
    rintro e w4 ⟨rfl, rfl⟩
    go_wp2_with fail
    try simp only [Exit.inBlock, Exit.then]
    refine bodyPost_ret (results_tmp4 rfl _ _ _) rfl ⟨?_, HB3.out⟩
    rw [H1.out, H2.out, H3.out, H4.out]; rfl
  · rw [h4] at hc2' hbad
    obtain ⟨b1, b2, b3, b4⟩ := hbad (by simp)
    have e1 : ((vSt (sV (bs s)) : Int) != 0) = false := by rw [bne_eq_false_iff_eq]; omega
    have e2 : (((numL (sD (bs s))).2 : Int) != 0) = false := by rw [bne_eq_false_iff_eq]; omega
    have e3 : (((mkS (sD (bs s))).size : Int) != 3) = false := by rw [bne_eq_false_iff_eq]; omega
    have H1 := Lib.hid b1
    have H2 := Lib.hid b2
    have H3 := Lib.hid b3
    have H4 := Lib.hid b4
    have HC2 := Lib.hid hc2'
    clear hbad hgood b1 b2 b3 b4 h1 h2 h3 h4 hi hz hc2'
    generalize mkS (sV (bs s)) = V at *
    generalize mkS (sD (bs s)) = D at *
    generalize mkS (sR (bs s)) = Re at *
    generalize vMi (sV (bs s)) = vm at *
    generalize vSt (sV (bs s)) = st at *
    generalize numL (sD (bs s)) = nm at *
    go_enter Tryz.func52, Tryz.ntmps52
    go_wp2_with fail
    refine HC1.out.mono ?_
    rintro e w1 ⟨rfl, hb⟩
    have HB := Lib.hid hb
    clear hb
    go_wp2_with fail
    refine (HC2.out _).mono ?_
    rintro e w2 ⟨rfl, hb⟩
    have HB2 := Lib.hid (HB.out.trans (hb.mono HB.out.size))
    clear hb
    go_wp2_with fail
    refine (HV.out _).mono ?_
    rintro e w3 ⟨rfl, hb⟩
    have HB3 := Lib.hid (HB2.out.trans (hb.mono HB2.out.size))
    clear hb
    go_wp2_with fail
    refine (HN.out _).mono ?_
    rintro e w4 ⟨rfl, rfl⟩
    go_wp2_with fail
    try simp only [Exit.inBlock, Exit.then]
    refine bodyPost_ret (results_tmp4 rfl _ _ _) rfl ⟨?_, HB3.out⟩
    rw [H1.out, H2.out, H3.out, H4.out]; rfl
  · rw [h4] at hc2' hbad hgood
    have e1 : ((vSt (sV (bs s)) : Int) != 0) = false := by rw [bne_eq_false_iff_eq]; omega
    have e2 : (((numL (sD (bs s))).2 : Int) != 0) = false := by rw [bne_eq_false_iff_eq]; omega
    have e3 : (((mkS (sD (bs s))).size : Int) != 3) = false := by rw [bne_eq_false_iff_eq]; omega
    cases h5 : sIn (numL (sD (bs s))).1 (sR (bs s))
    · rw [h5] at hi hbad
      obtain ⟨b1, b2, b3, b4⟩ := hbad (by simp)
      have H1 := Lib.hid b1
      have H2 := Lib.hid b2
      have H3 := Lib.hid b3
      have H4 := Lib.hid b4
      have HC2 := Lib.hid hc2'
      have HI := Lib.hid hi
      clear hbad hgood b1 b2 b3 b4 h1 h2 h3 h4 h5 hi hz hc2'
      generalize mkS (sV (bs s)) = V at *
      generalize mkS (sD (bs s)) = D at *
      generalize mkS (sR (bs s)) = Re at *
      generalize vMi (sV (bs s)) = vm at *
      generalize vSt (sV (bs s)) = st at *
      generalize numL (sD (bs s)) = nm at *
      go_enter Tryz.func52, Tryz.ntmps52
      go_wp2_with fail
      refine HC1.out.mono ?_
      rintro e w1 ⟨rfl, hb⟩
      have HB := Lib.hid hb
      clear hb
      go_wp2_with fail
      refine (HC2.out _).mono ?_
      rintro e w2 ⟨rfl, hb⟩
      have HB2 := Lib.hid (HB.out.trans (hb.mono HB.out.size))
      clear hb
      go_wp2_with fail
      refine (HV.out _).mono ?_
      rintro e w3 ⟨rfl, hb⟩
      have HB3 := Lib.hid (HB2.out.trans (hb.mono HB2.out.size))
      clear hb
      go_wp2_with fail
      refine (HN.out _).mono ?_
      rintro e w4 ⟨rfl, rfl⟩
      go_wp2_with fail
      refine (HI.out _).mono ?_
      rintro e w5 ⟨rfl, hb⟩
      have HB5 := Lib.hid (HB3.out.trans (hb.mono HB3.out.size))
      clear hb
      go_wp2_with fail
      try simp only [Exit.inBlock, Exit.then]
      refine bodyPost_ret (results_tmp4 rfl _ _ _) rfl ⟨?_, HB5.out⟩
      rw [H1.out, H2.out, H3.out, H4.out]; rfl
    · rw [h5] at hi hgood
      obtain ⟨b1, b2, b3, b4⟩ := hgood (by rw [decide_eq_true h1, decide_eq_true h2, decide_eq_true h3]; rfl)
      have H1 := Lib.hid b1
      have H2 := Lib.hid b2
      have H3 := Lib.hid b3
      have H4 := Lib.hid b4
      have HC2 := Lib.hid hc2'
      have HI := Lib.hid hi
      clear hbad hgood b1 b2 b3 b4 h1 h2 h3 h4 h5 hi hz hc2'
      generalize mkS (sV (bs s)) = V at *
      generalize mkS (sD (bs s)) = D at *
      generalize vMi (sV (bs s)) = vm at *
      generalize vSt (sV (bs s)) = st at *
      generalize numL (sD (bs s)) = nm at *
      go_enter Tryz.func52, Tryz.ntmps52
      go_wp2_with fail
      refine HC1.out.mono ?_
      rintro e w1 ⟨rfl, hb⟩
      have HB := Lib.hid hb
      clear hb
      go_wp2_with fail
      refine (HC2.out _).mono ?_
      rintro e w2 ⟨rfl, hb⟩
      have HB2 := Lib.hid (HB.out.trans (hb.mono HB.out.size))
      clear hb
      go_wp2_with fail
      refine (HV.out _).mono ?_
      rintro e w3 ⟨rfl, hb⟩
      have HB3 := Lib.hid (HB2.out.trans (hb.mono HB2.out.size))
      clear hb
      go_wp2_with fail
      refine (HN.out _).mono ?_
      rintro e w4 ⟨rfl, rfl⟩
      go_wp2_with fail
      refine (HI.out _).mono ?_
      rintro e w5 ⟨rfl, hb⟩
      have HB5 := Lib.hid (HB3.out.trans (hb.mono HB3.out.size))
      clear hb
      go_wp2_with fail
      refine (HK.out _).mono ?_
      rintro e w6 ⟨rfl, hb⟩
      have HB6 := Lib.hid (HB5.out.trans (hb.mono HB5.out.size))
      clear hb
      go_wp2_with fail
      try simp only [Exit.inBlock, Exit.then]
      refine bodyPost_ret (results_tmp4 rfl _ _ _) rfl ⟨?_, HB6.out⟩
      rw [H1.out, H2.out, H3.out, H4.out]; rfl
end Tk
end Go.Proofs.YtpcdaaijlgilkaaGreatDoor
namespace Go.Proofs.YtpcdaaijlgilkaaGreatDoor
open Go.RowKit
namespace Tk

variable {B b : Nat} {s : Pr} {q z lf : Nat} {V : PV} {w : World}
theorem Inp.below {g : Nat} {l : Bs} {w w' : World} (h : Inp g l w) (hb : Below w.heap.size w w') : Inp g l w' := (hb.block g h.lt).trans h
set_option maxHeartbeats 8000000 in
set_option maxRecDepth 100000 in
theorem pstaline_any (g : Nat) (l : Bs) (h : Par B b s q 0 lf V w) (hi : Inp g l w) (hg : ¬ PMine b V g) (hm : s.mode = 2) (hr : Room s l) (hne : l ≠ []) :
    Calls Tryz.prog 41 #[ptr b, ptr g] w (StPost B b s q lf V g l w) := by
  have hb0 := (not_stop hr.go).2.1
  have hlen : 1 ≤ l.length := by cases l with
    | nil => exact absurd rfl hne
    | cons a t => simp
  have hm3 : s.mode ≤ 3 := by omega
  have hrd := readLine_any g l h hi hg hm3 hb0 (not_stop hr.go).2.2 (room_line hr).1 (room_line hr).2.1
  have HRd := Lib.hid hrd
  have HRoom := Lib.hid hr
  have HM := Lib.hid (⟨hm, hm3, hb0⟩ : _ ∧ _ ∧ _)
  have HLen := Lib.hid hlen
  have HG := Lib.hid (show g < w.heap.size ∧ ¬ PMine b V g from ⟨hi.lt, hg⟩)
  clear h hi hg hm hr hne hb0 hlen hm3 hrd
  unfold ptr at *
  go_enter Tryz.func41, Tryz.ntmps41
  go_wp2_with fail
  refine HRd.out.mono ?_
  rintro e w1 ⟨i, hi, he, hc⟩
  have HE := Lib.hid he
  rcases hc with ⟨hil, rfl, hp, hin⟩ | ⟨c, hc, ⟨hk, rfl, hp, hin⟩ | ⟨hk, rfl, hp, hin⟩ | ⟨hk, rfl, hp, hin⟩⟩
  · have HX := Lib.hid (show ∀ e, e = .returned (.tuple #[pstV 2, .nilIface]) → StPost B b s q lf V g l w e w1 from fun e' he' => by
      refine ⟨i, (s.puts (l.take i)).ate i, by have := HLen.out; omega, hi, HE.out, ?_, hp.ate _, by rw [hil, List.drop_length]; exact hin⟩
      rw [he', stE_ate]
      unfold stE
      rw [if_pos (by exact HM.out.2.2), show (s.puts (l.take i)).mode = 2 from HM.out.1])
    clear he hil hp hin hi
    go_wp2_with fail
    go_ret2
    exact HX.out _ rfl
  · have HK := Lib.hid hk
    have HC := Lib.hid hc
    have HP := Lib.hid hp
    have HIn := Lib.hid hin
    have hts := room_text HRoom.out i
    have hlt := getElem_lt hc
    have HEt := Lib.hid (rd_line HRoom.out HM.out.2.1 HE.out HC.out HK.out)
    have hf := (room_line HRoom.out).2.2
    have HLt := Lib.hid hlt
    clear hk hc hp hin he hi hlt
    have HS0 := Lib.hid (show ({ s.puts (l.take i) with line := [], head := (s.puts (l.take i)).head + 1 } : Pr).bad = 0 ∧ ({ s.puts (l.take i) with line := [], head := (s.puts (l.take i)).head + 1 } : Pr).mode = 2 ∧ ({ s.puts (l.take i) with line := [], head := (s.puts (l.take i)).head + 1 } : Pr).idle = false ∧ sumF ({ s.puts (l.take i) with line := [], head := (s.puts (l.take i)).head + 1 } : Pr).msg.f ≤ 1000000 from ⟨HM.out.2.2, HM.out.1, (not_stop HRoom.out.go).2.2, hf⟩)
    generalize ({ s.puts (l.take i) with line := [], head := (s.puts (l.take i)).head + 1 } : Pr) = s1 at *
    generalize (s.puts (l.take i)).line.dropLast = t at *
    clear hf HK HRd
    have HLP := Lib.hid (show lineP s1 t = staP s1 t by unfold lineP; rw [if_neg (by rw [HS0.out.2.1]; omega), if_neg (by rw [HS0.out.2.1]; omega), if_pos HS0.out.2.1])
    have hp := HP.out
    obtain ⟨V1, hp1, ht1⟩ := hp
    have hsta := status_any (mkS t) w1 (by omega)
    unfold StaPost at hsta
    rw [bs_mkS] at hsta
    have HSta := Lib.hid hsta
    have HP1 := Lib.hid hp1
    have HG1 := Lib.hid (ht1.not_mine HG.out)
    have HT1 := Lib.hid ht1
    clear hsta hp1 ht1 hts
    unfold ptr at *
    cases hk : sOk t
    · have hq : staP s1 t = s1.fl 400 := by unfold staP; rw [hk]; rfl
      have HQ := Lib.hid hq
      have hE : staE t = 4 := by unfold staE; rw [hk]; rfl
      rw [hE] at HSta
      clear hk hq hE
      go_wp2_with fail
      refine HSta.out.mono ?_
      rintro e w2 ⟨rfl, hb2⟩
      have HX := Lib.hid (show ∀ e, e = .returned (.tuple #[.nilFunc, flV 400]) → StPost B b s q lf V g l w e w2 from fun e' he' => by
        refine ⟨i + 1, _, by omega, by have := HLt.out; omega, HEt.out, ?_, ⟨V1, ?_, HT1.out.trans (PTn.of hb2)⟩, HIn.out.below hb2⟩
        · rw [he', stE_ate, HLP.out, HQ.out, stE_fl _ _ (by omega)]
        · rw [HLP.out, HQ.out]; exact ((HP1.out.below hb2).flaw 400).ate _)
      clear hb2
      unfold flV at *
      go_wp2_with fail
      go_ret2
      exact HX.out _ rfl
    · have hq : staP s1 t = { s1 with mode := 3, msg := { st := staN t, r := staR t, mi := staM t } } := by unfold staP; rw [hk]; rfl
      have HQ := Lib.hid hq
      have hE : staE t = 0 := by unfold staE; rw [hk]; rfl
      rw [hE] at HSta
      clear hk hq hE
      go_wp2_with fail
      refine HSta.out.mono ?_
      rintro e w2 ⟨rfl, hb2⟩
      have hp2 := HP1.out.below hb2
      have HT := Lib.hid (there_of_blk hp2.blk 12 8 (by show 20 ≤ 24; omega))
      have hn := hp2.newMsg (X := fun _ => False) { st := staN t, r := staR t, mi := staM t } rfl rfl
      have HN := Lib.hid hn
      have HX := Lib.hid (show ∀ e, e = .returned (.tuple #[pstV 3, .nilIface]) → StPost B b s q lf V g l w e (w2.setCells b 12 (msgL { st := staN t, r := staR t, mi := staM t } (.slice none 0 0) (.slice none 0 0))) from fun e' he' => by
        refine ⟨i + 1, _, by omega, by have := HLt.out; omega, HEt.out, ?_, ⟨_, ?_, (HT1.out.trans (PTn.of hb2)).trans (hn.2.mono fun _ _ e => e.elim)⟩, inp_aside (HIn.out.below hb2) (HG1.out) hn.2 (fun e => e)⟩
        · rw [he', stE_ate, HLP.out, HQ.out]; unfold stE; rw [if_pos (by exact HS0.out.1)]
        · rw [HLP.out, HQ.out]; exact Par.ate (hn.1.as { s1 with mode := 3, msg := { st := staN t, r := staR t, mi := staM t } } rfl rfl rfl rfl rfl rfl (fun e => absurd (show (3 : Nat) = 6 from e) (by omega))) _)
      clear hp2 hn hb2
      generalize hW : w2.setCells b 12 (msgL { st := staN t, r := staR t, mi := staM t } (.slice none 0 0) (.slice none 0 0)) = W2 at *
      have HW := Lib.hid hW
      clear hW
      unfold pstV at *
      go_wp2_with (refine wpList_store_to rfl 32 _ _ rfl b 12 (msgL { st := staN t, r := staR t, mi := staM t } (.slice none 0 0) (.slice none 0 0)).toArray rfl rfl HT.out (by kernel_rfl) (all_oneCell_toArray (List.all_eq_true.1 (by rfl))) HW.out ?_)
      go_ret2
      exact HX.out _ rfl

  · have hlt := getElem_lt hc
    have HX := Lib.hid (show ∀ e, e = .returned (.tuple #[.nilFunc, flV 431]) → StPost B b s q lf V g l w e w1 from fun e' he' => by
      refine ⟨i + 1, _, by omega, by omega, rd_long HRoom.out HM.out.2.1 HE.out hc hk, ?_, ?_, hin⟩
      · rw [he', stE_ate, stE_fl _ _ (by omega)]
      · obtain ⟨V', h1, h2⟩ := hp
        exact ⟨V', (h1.flaw 431).ate _, h2⟩)
    clear he hk hp hin hi hc hlt
    unfold flV at *
    go_wp2_with fail
    go_ret2
    exact HX.out _ rfl
  · have hlt := getElem_lt hc
    have hq := HM.out.1
    refine ⟨rfl, i + 1, _, by omega, by omega, rd_mal HRoom.out HM.out.2.1 HE.out hc hk, ?_, ?_, hin⟩
    · rw [stE_ate]
      unfold stE
      rw [if_neg (by show (400 : Nat) ≠ 0; omega), if_neg (by show s.mode ≠ 7; omega)]
    · obtain ⟨V', h1, h2⟩ := hp
      exact ⟨V', h1.as _ rfl rfl rfl rfl rfl rfl (fun e => absurd (show s.mode = 6 from e) (by omega)), h2⟩
end Tk
end Go.Proofs.YtpcdaaijlgilkaaGreatDoor
namespace Go.Proofs.YtpcdaaijlgilkaaGreatDoor
open Go.RowKit
namespace Tk

variable {B b : Nat} {s : Pr} {q z lf : Nat} {V : PV} {w : World}
set_option maxHeartbeats 8000000 in
set_option maxRecDepth 100000 in
theorem ptoend_any (g : Nat) (l : Bs) (h : Par B b s q 0 lf V w) (hi : Inp g l w) (hg : ¬ PMine b V g) (hm : s.mode = 5) (hr : Room s l) (hne : l ≠ []) :
    Calls Tryz.prog 80 #[ptr b, ptr g] w (StPost B b s q lf V g l w) := by
  obtain ⟨i0, hif, hz0, hz1, hz2⟩ := info_parts byteInf
  have hb0 := (not_stop hr.go).2.1
  have hcl := hr.ok.fit.close hm
  have hML : s.M ≤ 9223372036854775807 := hr.ok.lim.2.2.2
  have hlen : 1 ≤ l.length := by cases l with
    | nil => exact absurd rfl hne
    | cons a t => simp
  obtain ⟨m, hmd⟩ : ∃ m, m = s.M - s.body.length := ⟨_, rfl⟩
  obtain ⟨t, htd⟩ : ∃ t, t = l.take m := ⟨_, rfl⟩
  obtain ⟨k, hkd⟩ : ∃ k, k = t.length := ⟨_, rfl⟩
  have hkm : k = min m l.length := by rw [hkd, htd]; simp
  have htk : l.take k = t := by rw [hkm, htd, ← List.take_eq_take_min]
  have hdk : l.drop m = l.drop k := by
    rw [hkm]
    by_cases hq : m ≤ l.length
    · rw [Nat.min_eq_left hq]
    · rw [Nat.min_eq_right (by omega), List.drop_length, List.drop_of_length_le (by omega)]
  have hkl : k ≤ l.length := by omega
  have hnm := hr.n
  have hbl := hr.ok.fit.body
  have hea : EatsP s t (Pr.ate { s with body := s.body ++ t } k) := by
    have := eats_body t s hr.go hm (by omega)
    rw [← hkd] at this; exact this
  obtain ⟨n, hn⟩ : ∃ n, n = s.body.length := ⟨_, rfl⟩
  have HN := Lib.hid hn
  obtain ⟨a, cap, hva⟩ := h.vy
  rw [← hn] at hva
  have HVa := Lib.hid hva
  have HP := Lib.hid h
  have HI := Lib.hid hi
  have HG := Lib.hid (show g < w.heap.size ∧ ¬ PMine b V g from ⟨hi.lt, hg⟩)
  have HK := Lib.hid (⟨htk, hdk, hkl, hkd, hea⟩ : _ ∧ _ ∧ _ ∧ _ ∧ _)
  have HM := Lib.hid (⟨hm, hb0, hlen⟩ : _ ∧ _ ∧ _)
  -- where it does not end with these bytes
  have HF := Lib.hid (show ∀ c r, l.drop k = c :: r → EatsP s (l.take (k + 1)) (((Pr.ate { s with body := s.body ++ t } k).fl 413).ate 1) ∧ k + 1 ≤ l.length from fun c r hcr => by
    have hl2 : k < l.length := by
      refine Nat.lt_of_not_le fun h2 => ?_
      rw [List.drop_of_length_le h2] at hcr; cases hcr
    refine ⟨?_, by omega⟩
    have hst : stopP (Pr.ate { s with body := s.body ++ t } k) = false := is_go (not_stop hr.go).1 (not_stop hr.go).2.1 (not_stop hr.go).2.2
    have e1 := EatsP.one (c := c) hst
    rw [stepP_5 (Pr.ate { s with body := s.body ++ t } k) c hm, if_pos (by show s.M ≤ (s.body ++ t).length; rw [List.length_append]; omega)] at e1
    have e2 := hea.append e1
    rw [List.take_add, htk, hcr]
    exact e2)
  have c22 : w.cell? ⟨b, 22, none⟩ = some (.slice a n cap) := by rw [← hva]; exact h.cell 22 _ rfl
  have c4 : w.cell? ⟨b, 4, none⟩ = some (.int .i64 s.M) := h.cell 4 _ rfl
  have hw : IntKind.i64.wrap ((s.M : Int) - (n : Int)) = (m : Int) := by rw [IntWalk.i64_in _ (by omega)]; omega
  have HTk := Lib.hid (fun W (hI : Inp g l W) => take_any g l m W hI)
  have htz := size_mkS t
  rw [← htd] at HTk
  have HB := Lib.hid (show n + k ≤ 1048576 by omega)
  have HSz := Lib.hid (htz.trans hkd.symm)
  have HTa : Hid (Calls Tryz.prog 60 #[.pointer (some ⟨g, 0, none⟩), .int .i64 m] w.drew fun e w' => e = .returned (.string (mkS t)) ∧ w'.cell? ⟨b, 22, none⟩ = some (.slice a n cap) ∧ w'.cell? ⟨b, 4, none⟩ = some (.int .i64 s.M) ∧ Hid (Par B b s q 0 lf V w') ∧ Hid (PTn b V V (· = g) w w') ∧ Hid (Inp g (l.drop k) w') ∧ Hid (w'.ownsRow B 5 1 (.slice a n cap) n (Lib.byteCells s.body)) ∧ Hid (B ≤ w'.heap.size)) := by
    refine Lib.hid ((HTk.out w.drew (show Inp g l w.drew from hi)).mono ?_)
    rintro e w' ⟨rfl, rfl⟩
    have hp : Par B b s q 0 lf V w.drew := h.draws 1
    have ht : PTn b V V (· = g) w w.drew := PTn.draws 1
    have hp2 := hp.aside (ht.not_mine HG.out) 0 (.string (mkS (l.drop m)))
    refine ⟨rfl, by rw [← HVa.out]; exact hp2.cell 22 _ rfl, hp2.cell 4 _ rfl, Lib.hid hp2, Lib.hid (ht.aside (.inl rfl) 0 _), by rw [← HK.out.2.1]; exact Lib.hid ((show Inp g l w.drew from hi).put (l.drop m)), Lib.hid ?_, Lib.hid ?_⟩
    · have := hp2.body
      rw [HVa.out, ← HN.out] at this
      exact this
    · have h1 := hp2.hB
      have h2 := hp2.lt
      exact Nat.le_of_lt (Nat.lt_of_le_of_lt h1 h2)
  have hc3 : n + (mkS t).size ≤ maxLen := by rw [HSz.out]; have := HB.out; unfold maxLen; omega
  have hc4 : n + (mkS t).size ≤ 140737488355328 := by rw [HSz.out]; have := HB.out; omega
  have HC3 := Lib.hid hc3
  have HC4 := Lib.hid hc4
  clear h hi hg hm hr hne hb0 hcl hML hlen hmd htd hkd hkm htk hdk hkl hnm hbl hea hn hva htz hc3 hc4 HTk
  unfold ptr at *
  go_enter Tryz.func80, Tryz.ntmps80
  go_wp2_with fail
  go_region_law (first
    | (refine step_stay_string (by rfl) _ _ 65 9 (by rfl) B 5 i0 Tryz.underlying65 Tryz.underlying9 hif hz0 hz1 hz2 _ _ _ (by rfl) HO.out (mkS t) (by rfl) HC3.out HC4.out HBs.out ?_; intro v' w3 ho hgr hst; obtain ⟨a2, cap2, rfl, k22, f22, hd, ht⟩ := HP2.out.grewBody (X := fun _ => False) t k HK.out.2.2.2.1 n HN.out a cap HVa.out (by rw [← cells_str', ← HSz.out]; exact ho) hgr hst; have HR := Lib.hid (show PIn B b { s with body := s.body ++ t } q 0 lf V g (l.drop k) w _ from ⟨⟨_, hd, HT2.out.trans (ht.mono fun _ _ e => e.elim)⟩, inp_aside HI2.out (HT2.out.not_mine HG.out) ht (fun e => e)⟩); clear hd ht ho hgr hst)
    | (go_simp; go_at_call 60; refine HTa.out.mono ?_; rintro e w2 ⟨rfl, j22, j4, HP2, HT2, HI2, HO, HBs⟩))
  all_goals
    clear k22 f22 j22 j4 HP2 HT2 HI2 HO HBs HTa hif hz0 hz1 hz2 HC3 HC4
    generalize (w3.setCell ⟨b, 22, none⟩ (.slice a2 (n + k) cap2)) = w4 at *
    have hTk := take_any g (l.drop k) 1 w4 HR.out.2
    unfold ptr at hTk
    cases hl : l.drop k with
    | nil =>
      rw [hl] at hTk
      have HTk := Lib.hid hTk
      have hem : (mkS ([] : Bs)).toList.isEmpty = true := by rw [toList_bs, bs_mkS]; rfl
      have HX := Lib.hid (show ∀ e, e = .returned (.tuple #[pstV 5, .nilIface]) → StPost B b s q lf V g l w e (w4.setCell ⟨g, 0, none⟩ (.string (mkS (List.drop 1 ([] : Bs))))) from fun e' he' => by
        obtain ⟨V', p1, p2⟩ := HR.out.1
        have hkl2 : k = l.length := by
          have h1 := HK.out.2.2.1
          have h2 : (l.drop k).length = 0 := by rw [hl]; rfl
          rw [List.length_drop] at h2; omega
        refine ⟨k, _, by rw [hkl2]; exact HM.out.2.2, HK.out.2.2.1, by rw [HK.out.1]; exact HK.out.2.2.2.2, ?_, ⟨V', (p1.aside (p2.not_mine HG.out) 0 _).ate k, p2.aside (.inl rfl) 0 _⟩, ?_⟩
        · rw [he', stE_ate]; unfold stE; rw [if_pos (by exact HM.out.2.1), show ({ s with body := s.body ++ t } : Pr).mode = 5 from HM.out.1]
        · rw [hl]; exact (show Inp g [] w4 from by have := HR.out.2; rw [hl] at this; exact this).put [])
      clear hTk
      unfold pstV at *
      go_wp2_with fail
      refine HTk.out.mono ?_
      rintro e w5 ⟨rfl, rfl⟩
      go_wp2_with fail
      go_ret2
      exact HX.out _ rfl
    | cons c r =>
      rw [hl] at hTk
      have HTk := Lib.hid hTk
      have hem : (mkS [c]).toList.isEmpty = false := by rw [toList_bs, bs_mkS]; rfl
      have HX := Lib.hid (show ∀ e, e = .returned (.tuple #[.nilFunc, flV 413]) → StPost B b s q lf V g l w e (w4.setCell ⟨g, 0, none⟩ (.string (mkS (List.drop 1 (c :: r))))) from fun e' he' => by
        obtain ⟨V', p1, p2⟩ := HR.out.1
        obtain ⟨f1, f2⟩ := HF.out c r hl
        refine ⟨k + 1, _, by omega, f2, f1, ?_, ⟨V', ((((p1.aside (p2.not_mine HG.out) 0 _).ate k).flaw 413).ate 1), p2.aside (.inl rfl) 0 _⟩, ?_⟩
        · rw [he', stE_ate, stE_fl _ _ (by omega)]
        · rw [show l.drop (k + 1) = List.drop 1 (c :: r) by rw [← hl, List.drop_drop]]
          exact (show Inp g (c :: r) w4 from by have := HR.out.2; rw [hl] at this; exact this).put (List.drop 1 (c :: r)))
      clear hTk
      unfold flV at *
      go_wp2_with fail
      refine HTk.out.mono ?_
      rintro e w5 ⟨rfl, rfl⟩
      go_wp2_with fail
      go_ret2
      exact HX.out _ rfl
end Tk
end Go.Proofs.YtpcdaaijlgilkaaGreatDoor
namespace Go.Proofs.YtpcdaaijlgilkaaGreatDoor
open Go.RowKit
namespace Tk

variable {B b : Nat} {s : Pr} {q z lf : Nat} {V : PV} {w : World}
theorem headEnd_m5 {s : Pr} (hr : s.rsp = false) : (headEndP s).mode ≠ 5 := by
  have h4 : pK s ≠ 4 := by unfold pK; rw [hr]; exact frK_not4 _ _
  unfold headEndP Pr.fl
  rw [if_neg h4]
  repeat' split
  all_goals simp_all
theorem stepP_m5 {s : Pr} (c : UInt8) (hr : s.rsp = false) (h5 : s.mode ≠ 5) : (stepP s c).mode ≠ 5 := by
  unfold stepP stepQ
  show (if _ then _ else _ : Pr).mode ≠ 5
  split
  · split
    · exact h5
    · split
      · unfold lineP
        split
        · split
          · simp
          · unfold reqP Pr.fl; split <;> simp
        · split
          · unfold reqP Pr.fl; split <;> simp
          · split
            · unfold staP Pr.fl; split <;> simp
            · split
              · exact headEnd_m5 (s := { s with line := [], head := s.head + 1 }) hr
              · unfold fldP Pr.fl; repeat' split
                · simp
                · exact h5
                · simp
      · split
        · simp [Pr.fl]
        · exact h5
  · split
    · unfold countP; split
      · exact h5
      · simp
    · split
      · unfold chunkP; repeat' split
        · simp
        · simp
        · exact h5
      · exact h5
/-- a parser of requests: the states that it is never in -/
structure Rq (s : Pr) : Prop where
  rq : s.rsp = false
  m2 : s.mode ≠ 2
  m5 : s.mode ≠ 5
theorem feedP_rq : ∀ (l : Bs) (s : Pr), Rq s → Rq (feedP s l).2
  | [], s, h => h
  | c :: t, s, h => by
    cases hs : stopP s
    · rw [feedP_cons s c t hs]
      exact feedP_rq t _ ⟨(stepP_lim s c).2.2.2.2.1.trans h.rq, stepP_m2 c h.m2, stepP_m5 c h.rq h.m5⟩
    · rw [feedP_stop s _ hs]; exact h
theorem EatsP.rq {s s' : Pr} {a : Bs} (h : EatsP s a s') (hs : Rq s) : Rq s' := by
  have := feedP_rq a s hs
  unfold EatsP at h
  rw [h] at this
  exact this
theorem fresh_rq {s : Pr} (h : s.rsp = false) : Rq s.fresh := ⟨h, fresh_m2 h, by unfold Pr.fresh; rw [h]; simp⟩
theorem new_rq (L H C M : Nat) : Rq (newP L H C M false) := ⟨rfl, by simp [newP], by simp [newP]⟩

/-- the state that a parser is in -/
theorem pstate_any (g : Nat) (l : Bs) (h : Par B b s s.mode 0 lf V w) (hi : Inp g l w) (hg : ¬ PMine b V g) (hr : Room s l) (hne : l ≠ []) (hv : ErrV B w) :
    ∃ F, pstV s.mode = .func (.func F) #[] #[] ∧ (∀ args w, (callFunc F args).run Tryz.prog w = .ok (.enter F args) w) ∧ Calls Tryz.prog F #[.pointer (some ⟨b, 0, none⟩), .pointer (some ⟨g, 0, none⟩)] w (StPost B b s s.mode lf V g l w) := by
  have h7 := hr.ok.fit.mode
  have hn7 := (not_stop hr.go).1
  have hcase : s.mode = 0 ∨ s.mode = 1 ∨ s.mode = 2 ∨ s.mode = 3 ∨ s.mode = 4 ∨ s.mode = 5 ∨ s.mode = 6 := by omega
  rcases hcase with e | e | e | e | e | e | e
  · exact ⟨_, by rw [e]; rfl, enters_of Tryz.func40 (by kernel_rfl) rfl, pbefore_any g l h hi hg e hr hne⟩
  · exact ⟨_, by rw [e]; rfl, enters_of Tryz.func50 (by kernel_rfl) rfl, preqline_any g l h hi hg e hr hne⟩
  · exact ⟨_, by rw [e]; rfl, enters_of Tryz.func41 (by kernel_rfl) rfl, pstaline_any g l h hi hg e hr hne⟩
  · exact ⟨_, by rw [e]; rfl, enters_of Tryz.func53 (by kernel_rfl) rfl, pfield_any g l h hi hg e hr hne⟩
  · exact ⟨_, by rw [e]; rfl, enters_of Tryz.func77 (by kernel_rfl) rfl, pcounted_any g l h hi hg e hr hne⟩
  · exact ⟨_, by rw [e]; rfl, enters_of Tryz.func80 (by kernel_rfl) rfl, ptoend_any g l h hi hg e hr hne⟩
  · exact ⟨_, by rw [e]; rfl, enters_of Tryz.func79 (by kernel_rfl) rfl, pchunked_any g l h hi hg e hr hne hv⟩

/-- the boxes of Feed -/
structure Boxed (b gp gb gi gn gs : Nat) (g : Nat) (t : ByteArray) (rest : Bs) (w : World) : Prop where
  cp : w.cell? ⟨gp, 0, none⟩ = some (.pointer (some ⟨b, 0, none⟩))
  cb : w.cell? ⟨gb, 0, none⟩ = some (.string t)
  ci : w.cell? ⟨gi, 0, none⟩ = some (.pointer (some ⟨g, 0, none⟩))
  cr : w.cell? ⟨g, 0, none⟩ = some (.string (mkS rest))
  cn : w.cell? ⟨gn, 0, none⟩ = some (.int .i64 0)
  fn : w.frozen? ⟨gn, 0, none⟩ = false
  cs : w.cell? ⟨gs, 0, none⟩ = some (.int .i64 0)
  fs : w.frozen? ⟨gs, 0, none⟩ = false
  np : gp ≠ gn ∧ gp ≠ gs ∧ gp ≠ b
  nb : gb ≠ gn ∧ gb ≠ gs ∧ gb ≠ b
  ni : gi ≠ gn ∧ gi ≠ gs ∧ gi ≠ b
  nr : g ≠ gn ∧ g ≠ gs ∧ g ≠ b
  nn : gn ≠ gs ∧ gn ≠ b ∧ gs ≠ b

/-- what Feed's deferred part leaves -/
def FdPost (B b : Nat) (s : Pr) (q z lf : Nat) (V : PV) (gn gs k : Nat) (w w' : World) : Prop :=
  Par B b s q z (lf + k) V w' ∧ PTn b V V (fun x => x = gn ∨ x = gs) w w' ∧ w'.cell? ⟨gn, 0, none⟩ = some (.int .i64 k) ∧ w'.cell? ⟨gs, 0, none⟩ = some (.int .i64 z)
theorem wp_via {P : Program} {c : Code} {Q : Exit → Act → World → Prop} {a : Act} {w : World} (h : ∀ Q', (∀ e a' w', Q e a' w' → Q' e a' w') → c.wp P Q' a w) : c.wp P Q a w := h Q (fun _ _ _ h => h)
set_option maxHeartbeats 4000000 in
set_option maxRecDepth 100000 in
theorem feedEnd_idle (gp gb gi gn gs g : Nat) (t : ByteArray) (rest : Bs) (k : Nat) (h : Boxed b gp gb gi gn gs g t rest w) (hp : Par B b s q z lf V w) (hk : t.size = k + rest.length) (hl : lf + t.size ≤ 1099511627776) (hnm : ¬ PMine b V gn ∧ ¬ PMine b V gs) :
    CallsD Tryz.prog 29 #[.pointer (some ⟨gp, 0, none⟩), .pointer (some ⟨gb, 0, none⟩), .pointer (some ⟨gi, 0, none⟩), .pointer (some ⟨gn, 0, none⟩), .pointer (some ⟨gs, 0, none⟩)] .returning w fun e u' w' =>
      e = .returned (.tuple #[]) ∧ u' = .returning ∧ FdPost B b s q z lf V gn gs k w w' := by
  have HBx := Lib.hid h
  have HNm := Lib.hid hnm
  have hsz := size_mkS rest
  obtain ⟨tx, htx⟩ : ∃ tx, tx = mkS rest := ⟨_, rfl⟩
  rw [← htx] at hsz
  have HTx := Lib.hid htx
  have hsub : IntKind.i64.wrap ((t.size : Int) - (tx.size : Int)) = (k : Int) := by rw [IntWalk.i64_in _ (by omega)]; omega
  have hadd : IntKind.i64.wrap ((lf : Int) + (k : Int)) = ((lf + k : Nat) : Int) := by rw [IntWalk.i64_in _ (by omega)]; omega
  have HSub := Lib.hid hsub
  have HAdd := Lib.hid hadd
  have HP := Lib.hid hp
  clear h hp hk hl hsz htx hsub hadd hnm
  refine callsD_of_wpS Tryz.func29 rfl fun c₀ cs hu => ?_
  apply wpS_seq
  apply wpS_seq
  apply wpS_region
  simp [wpOpsS, go_sem, recoverD, hu, Tryz.ntmps29, Exit.thenS]
  refine wpS_of_wp ?_
  refine wp_via fun Q1 hQ1 => ?_
  have HQ1 := Lib.hid hQ1
  clear hQ1
  rw [show (#[Value.pointer (some ⟨gp, 0, none⟩), Value.pointer (some ⟨gb, 0, none⟩), Value.pointer (some ⟨gi, 0, none⟩), Value.pointer (some ⟨gn, 0, none⟩), Value.pointer (some ⟨gs, 0, none⟩)] ++ (Array.replicate 34 undef).setIfInBounds 3 Value.nilIface : Array Value) = #[Value.pointer (some ⟨gp, 0, none⟩), Value.pointer (some ⟨gb, 0, none⟩), Value.pointer (some ⟨gi, 0, none⟩), Value.pointer (some ⟨gn, 0, none⟩), Value.pointer (some ⟨gs, 0, none⟩), undef, undef, undef, Value.nilIface, undef, undef, undef, undef, undef, undef, undef, undef, undef, undef, undef, undef, undef, undef, undef, undef, undef, undef, undef, undef, undef, undef, undef, undef, undef, undef, undef, undef, undef, undef] from by kernel_rfl]
  have HU := Lib.hid hu
  clear hu
  go_wp2_with fail
  refine HQ1.out _ _ _ ?_
  clear HQ1
  simp only [Exit.thenS]
  refine wpS_of_wp ?_
  obtain ⟨c1, c2, c3, c4, c5, f5, c6, f6, ⟨n1, n2, n3⟩, ⟨n4, n5, n6⟩, ⟨n7, n8, n9⟩, ⟨n10, n11, n12⟩, ⟨n13, n14, n15⟩⟩ := HBx.out
  have c7 : w.cell? ⟨b, 7, none⟩ = some (.int .i64 z) := HP.out.cell 7 _ rfl
  have c9 : w.cell? ⟨b, 9, none⟩ = some (.int .i64 lf) := HP.out.cell 9 _ rfl
  have f9 := HP.out.frz 9
  rw [← HTx.out] at c4
  refine wp_via fun Q2 hQ2 => ?_
  have HQ2 := Lib.hid hQ2
  clear hQ2
  go_wp2_with fail
  have hsub := HSub.out
  have m1 := n1.symm
  have m2 := n2.symm
  have m4 := n4.symm
  have m5 := n5.symm
  have m7 := n7.symm
  have m8 := n8.symm
  have m10 := n10.symm
  have m11 := n11.symm
  have m13 := n13.symm
  have m14 := n14.symm
  have m15 := n15.symm
  (go_region_held3 (fun w' => w'.cell? ⟨gp, 0, none⟩ = some (.pointer (some ⟨b, 0, none⟩)) ∧ w'.cell? ⟨gb, 0, none⟩ = some (.string t) ∧ w'.cell? ⟨gi, 0, none⟩ = some (.pointer (some ⟨g, 0, none⟩)) ∧ w'.cell? ⟨g, 0, none⟩ = some (.string tx) ∧ w'.cell? ⟨b, 7, none⟩ = some (.int .i64 z)) (first | (refine ⟨?_, ?_, ?_, ?_, ?_⟩ <;> assumption) | go_keep) (first | fail))
  have HPW := Lib.hid (show Par B b s q z lf V ((w.setCell ⟨gn, 0, none⟩ (.int .i64 k)).setCell ⟨gs, 0, none⟩ (.int .i64 z)).drew from ((HP.out.aside HNm.out.1 0 _).aside HNm.out.2 0 _).draws 1)
  have HTW := Lib.hid (show PTn b V V (fun x => x = gn ∨ x = gs) w ((w.setCell ⟨gn, 0, none⟩ (.int .i64 k)).setCell ⟨gs, 0, none⟩ (.int .i64 z)).drew from (((PTn.refl).aside (.inl (.inl rfl)) 0 _).aside (.inl (.inr rfl)) 0 _).trans (PTn.draws 1))
  have y1 : ((w.setCell ⟨gn, 0, none⟩ (.int .i64 k)).setCell ⟨gs, 0, none⟩ (.int .i64 z)).drew.cell? ⟨gp, 0, none⟩ = some (.pointer (some ⟨b, 0, none⟩)) := by
    show ((w.setCell ⟨gn, 0, none⟩ (.int .i64 k)).setCell ⟨gs, 0, none⟩ (.int .i64 z)).cell? ⟨gp, 0, none⟩ = _
    rw [World.cell?_setCell_other _ _ _ _ (by intro e; injection e with e1 _ _; exact n2 e1.symm), World.cell?_setCell_other _ _ _ _ (by intro e; injection e with e1 _ _; exact n1 e1.symm)]; exact c1
  have yn : ((w.setCell ⟨gn, 0, none⟩ (.int .i64 k)).setCell ⟨gs, 0, none⟩ (.int .i64 z)).drew.cell? ⟨gn, 0, none⟩ = some (.int .i64 k) := by
    show ((w.setCell ⟨gn, 0, none⟩ (.int .i64 k)).setCell ⟨gs, 0, none⟩ (.int .i64 z)).cell? ⟨gn, 0, none⟩ = _
    rw [World.cell?_setCell_other _ _ _ _ (by intro e; injection e with e1 _ _; exact n13 e1.symm), World.cell?_setCell_same _ _ _ c5]
  have ys : ((w.setCell ⟨gn, 0, none⟩ (.int .i64 k)).setCell ⟨gs, 0, none⟩ (.int .i64 z)).drew.cell? ⟨gs, 0, none⟩ = some (.int .i64 z) := by
    show ((w.setCell ⟨gn, 0, none⟩ (.int .i64 k)).setCell ⟨gs, 0, none⟩ (.int .i64 z)).cell? ⟨gs, 0, none⟩ = _
    rw [World.cell?_setCell_same _ _ _ ((World.cell?_setCell_other _ _ _ _ (by intro e; injection e with e1 _ _; exact n13 e1)).trans c6)]
  have y9 : ((w.setCell ⟨gn, 0, none⟩ (.int .i64 k)).setCell ⟨gs, 0, none⟩ (.int .i64 z)).drew.cell? ⟨b, 9, none⟩ = some (.int .i64 lf) := HPW.out.cell 9 _ rfl
  have g9 := HPW.out.frz 9
  have hadd := HAdd.out
  have HYn := Lib.hid (⟨yn, ys⟩ : _ ∧ _)
  clear hsub c1 c2 c3 c4 c5 c6 f5 f6 c7 c9 f9 HBx m1 m2 m4 m5 m7 m8 m10 m11 m13
  generalize ((w.setCell ⟨gn, 0, none⟩ (.int .i64 k)).setCell ⟨gs, 0, none⟩ (.int .i64 z)).drew = W at *
  go_wp2_with fail
  go_region
  have HFin := Lib.hid (show FdPost B b s q z lf V gn gs k w (W.setCell ⟨b, 9, none⟩ (.int .i64 ((lf : Int) + (k : Int)))).drew from by
    have h9 := HPW.out.set 9 (.int .i64 ((lf : Int) + (k : Int))) s q z (lf + k) rfl rfl rfl rfl rfl rfl (fun e => ⟨e, rfl⟩)
    refine ⟨h9.draws 1, (HTW.out.trans (PTn.set 9 _)).trans (PTn.draws 1), ?_, ?_⟩
    · exact (World.cell?_setCell_other _ _ _ _ (by intro e; injection e with e1 _ _; exact n14 e1.symm)).trans HYn.out.1
    · exact (World.cell?_setCell_other _ _ _ _ (by intro e; injection e with e1 _ _; exact n15 e1.symm)).trans HYn.out.2)
  refine HQ2.out _ _ _ ?_
  have hu := HU.out
  have hFin := HFin.out
  clear HQ2 HFin HU HYn HPW HTW HAdd HSub HTx HNm HP n1 n2 n3 n4 n5 n6 n7 n8 n9 n10 n11 n12 n13 n14 n15 m14 m15 hadd y1 yn ys y9 g9
  cases c₀
  simp_all [bodyPostS, results, Tryz.results29, go_sem]
theorem asserted_mal (xT : TypeId) (w : World) : (Instr.typeAssert (.iface 62 (.agg #[])) xT 62 true).run Tryz.prog w = .ok (.tuple #[.agg #[], .bool true]) w := by
  simp [Instr.typeAssert, run_underlying Tryz.underlying62]
theorem Boxed.later {gp gb gi gn gs g : Nat} {t : ByteArray} {rest : Bs} {w' : World} (h : Boxed b gp gb gi gn gs g t rest w) (hb : Below w.heap.size w w') (i : Nat) (u : Value) : Boxed b gp gb gi gn gs g t rest (w'.setCell ⟨b, i, none⟩ u) := by
  obtain ⟨c1, c2, c3, c4, c5, f5, c6, f6, h1, h2, h3, h4, h5⟩ := h
  have hk : ∀ (k : Nat) (v : Value), k ≠ b → w.cell? ⟨k, 0, none⟩ = some v → (w'.setCell ⟨b, i, none⟩ u).cell? ⟨k, 0, none⟩ = some v := fun k v hne hc =>
    (World.cell?_setCell_other _ _ _ _ (by intro e; injection e with e1 _ _; exact hne e1.symm)).trans ((hb.cell (p := ⟨k, 0, none⟩) (cell_lt hc)).trans hc)
  have hf : ∀ (k : Nat) (v : Value), k ≠ b → w.cell? ⟨k, 0, none⟩ = some v → w.frozen? ⟨k, 0, none⟩ = false → (w'.setCell ⟨b, i, none⟩ u).frozen? ⟨k, 0, none⟩ = false := fun k v hne hc hf => by
    have h1 : w'.frozen? ⟨k, 0, none⟩ = false := (hb.frozen (p := ⟨k, 0, none⟩) (cell_lt hc)).trans hf
    rw [World.frozen?_of_block (w := w') (Below.heap_setCell _ _ _ _ hne)]; exact h1
  exact ⟨hk _ _ h1.2.2 c1, hk _ _ h2.2.2 c2, hk _ _ h3.2.2 c3, hk _ _ h4.2.2 c4, hk _ _ h5.2.1 c5, hf _ _ h5.2.1 c5 f5, hk _ _ h5.2.2 c6, hf _ _ h5.2.2 c6 f6, h1, h2, h3, h4, h5⟩
set_option maxHeartbeats 4000000 in
set_option maxRecDepth 100000 in
theorem feedEnd_mal (gp gb gi gn gs g : Nat) (t : ByteArray) (rest : Bs) (k : Nat) (h : Boxed b gp gb gi gn gs g t rest w) (hp : Par B b s q z lf V w) (hk : t.size = k + rest.length) (hl : lf + t.size ≤ 1099511627776) (hnm : ¬ PMine b V gn ∧ ¬ PMine b V gs) :
    CallsD Tryz.prog 29 #[.pointer (some ⟨gp, 0, none⟩), .pointer (some ⟨gb, 0, none⟩), .pointer (some ⟨gi, 0, none⟩), .pointer (some ⟨gn, 0, none⟩), .pointer (some ⟨gs, 0, none⟩)] (.panicking malP) w fun e u' w' =>
      e = .returned (.tuple #[]) ∧ u' = .panicking [{ v := .iface 62 (.agg #[]), recovered := true }] ∧ FdPost B b { s with bad := 400 } q 400 lf V gn gs k w w' := by
  unfold malP
  have HBx := Lib.hid h
  have HNm := Lib.hid hnm
  have hsz := size_mkS rest
  obtain ⟨tx, htx⟩ : ∃ tx, tx = mkS rest := ⟨_, rfl⟩
  rw [← htx] at hsz
  have HTx := Lib.hid htx
  have hsub : IntKind.i64.wrap ((t.size : Int) - (tx.size : Int)) = (k : Int) := by rw [IntWalk.i64_in _ (by omega)]; omega
  have hadd : IntKind.i64.wrap ((lf : Int) + (k : Int)) = ((lf + k : Nat) : Int) := by rw [IntWalk.i64_in _ (by omega)]; omega
  have HSub := Lib.hid hsub
  have HAdd := Lib.hid hadd
  have HP := Lib.hid hp
  clear h hp hk hl hsz htx hsub hadd hnm
  refine callsD_of_wpS Tryz.func29 rfl fun c₀ cs hu => ?_
  apply wpS_seq
  apply wpS_seq
  apply wpS_region
  simp [wpOpsS, go_sem, recoverD, hu, Tryz.ntmps29, Exit.thenS]
  refine wpS_of_wp ?_
  refine wp_via fun Q1 hQ1 => ?_
  have HQ1 := Lib.hid hQ1
  clear hQ1
  rw [show (#[Value.pointer (some ⟨gp, 0, none⟩), Value.pointer (some ⟨gb, 0, none⟩), Value.pointer (some ⟨gi, 0, none⟩), Value.pointer (some ⟨gn, 0, none⟩), Value.pointer (some ⟨gs, 0, none⟩)] ++ (Array.replicate 34 undef).setIfInBounds 3 (Value.iface 62 (.agg #[])) : Array Value) = #[Value.pointer (some ⟨gp, 0, none⟩), Value.pointer (some ⟨gb, 0, none⟩), Value.pointer (some ⟨gi, 0, none⟩), Value.pointer (some ⟨gn, 0, none⟩), Value.pointer (some ⟨gs, 0, none⟩), undef, undef, undef, (Value.iface 62 (.agg #[])), undef, undef, undef, undef, undef, undef, undef, undef, undef, undef, undef, undef, undef, undef, undef, undef, undef, undef, undef, undef, undef, undef, undef, undef, undef, undef, undef, undef, undef, undef] from by kernel_rfl]
  have HU := Lib.hid hu
  clear hu
  have ha := asserted_mal
  have hal : Below w.heap.size w (w.alloc (.cells #[] 62)) := (Below.refl _ _).alloc (Nat.le_refl _) _
  have hpa := HP.out.below hal
  have a1 : (w.alloc (.cells #[] 62)).cell? ⟨gp, 0, none⟩ = some (.pointer (some ⟨b, 0, none⟩)) := (hal.cell (p := ⟨gp, 0, none⟩) (cell_lt HBx.out.cp)).trans HBx.out.cp
  have a7 : (w.alloc (.cells #[] 62)).cell? ⟨b, 7, none⟩ = some (.int .i64 z) := hpa.cell 7 _ rfl
  have b7 := hpa.frz 7
  have hp1 := hpa.set 7 (.int .i64 400) { s with bad := 400 } q 400 lf rfl rfl rfl rfl rfl rfl (fun e => ⟨e, rfl⟩)
  have HP1 := Lib.hid hp1
  have HT1 := Lib.hid (show PTn b V V (fun x => x = gn ∨ x = gs) w ((w.alloc (.cells #[] 62)).setCell ⟨b, 7, none⟩ (.int .i64 400)) from (PTn.of hal).trans (PTn.set 7 _))
  have HB1 := Lib.hid (show Boxed b gp gb gi gn gs g t rest ((w.alloc (.cells #[] 62)).setCell ⟨b, 7, none⟩ (.int .i64 400)) from HBx.out.later hal 7 _)
  clear hal hpa hp1
  go_wp2_with fail
  generalize (w.alloc (.cells #[] 62)).setCell ⟨b, 7, none⟩ (.int .i64 400) = w1 at *
  clear a1 a7 b7
  refine HQ1.out _ _ _ ?_
  clear HQ1
  simp only [Exit.thenS]
  refine wpS_of_wp ?_
  obtain ⟨c1, c2, c3, c4, c5, f5, c6, f6, ⟨n1, n2, n3⟩, ⟨n4, n5, n6⟩, ⟨n7, n8, n9⟩, ⟨n10, n11, n12⟩, ⟨n13, n14, n15⟩⟩ := HB1.out
  have c7 : w1.cell? ⟨b, 7, none⟩ = some (.int .i64 400) := HP1.out.cell 7 _ rfl
  have c9 : w1.cell? ⟨b, 9, none⟩ = some (.int .i64 lf) := HP1.out.cell 9 _ rfl
  have f9 := HP1.out.frz 9
  rw [← HTx.out] at c4
  refine wp_via fun Q2 hQ2 => ?_
  have HQ2 := Lib.hid hQ2
  clear hQ2
  go_wp2_with fail
  have hsub := HSub.out
  have m1 := n1.symm
  have m2 := n2.symm
  have m4 := n4.symm
  have m5 := n5.symm
  have m7 := n7.symm
  have m8 := n8.symm
  have m10 := n10.symm
  have m11 := n11.symm
  have m13 := n13.symm
  have m14 := n14.symm
  have m15 := n15.symm
  (go_region_held3 (fun w' => w'.cell? ⟨gp, 0, none⟩ = some (.pointer (some ⟨b, 0, none⟩)) ∧ w'.cell? ⟨gb, 0, none⟩ = some (.string t) ∧ w'.cell? ⟨gi, 0, none⟩ = some (.pointer (some ⟨g, 0, none⟩)) ∧ w'.cell? ⟨g, 0, none⟩ = some (.string tx) ∧ w'.cell? ⟨b, 7, none⟩ = some (.int .i64 400)) (first | (refine ⟨?_, ?_, ?_, ?_, ?_⟩ <;> assumption) | go_keep) (first | fail))
  have HPW := Lib.hid (show Par B b { s with bad := 400 } q 400 lf V ((w1.setCell ⟨gn, 0, none⟩ (.int .i64 k)).setCell ⟨gs, 0, none⟩ (.int .i64 400)).drew from ((HP1.out.aside HNm.out.1 0 _).aside HNm.out.2 0 _).draws 1)
  have HTW := Lib.hid (show PTn b V V (fun x => x = gn ∨ x = gs) w1 ((w1.setCell ⟨gn, 0, none⟩ (.int .i64 k)).setCell ⟨gs, 0, none⟩ (.int .i64 400)).drew from (((PTn.refl).aside (.inl (.inl rfl)) 0 _).aside (.inl (.inr rfl)) 0 _).trans (PTn.draws 1))
  have y1 : ((w1.setCell ⟨gn, 0, none⟩ (.int .i64 k)).setCell ⟨gs, 0, none⟩ (.int .i64 400)).drew.cell? ⟨gp, 0, none⟩ = some (.pointer (some ⟨b, 0, none⟩)) := by
    show ((w1.setCell ⟨gn, 0, none⟩ (.int .i64 k)).setCell ⟨gs, 0, none⟩ (.int .i64 400)).cell? ⟨gp, 0, none⟩ = _
    rw [World.cell?_setCell_other _ _ _ _ (by intro e; injection e with e1 _ _; exact n2 e1.symm), World.cell?_setCell_other _ _ _ _ (by intro e; injection e with e1 _ _; exact n1 e1.symm)]; exact c1
  have yn : ((w1.setCell ⟨gn, 0, none⟩ (.int .i64 k)).setCell ⟨gs, 0, none⟩ (.int .i64 400)).drew.cell? ⟨gn, 0, none⟩ = some (.int .i64 k) := by
    show ((w1.setCell ⟨gn, 0, none⟩ (.int .i64 k)).setCell ⟨gs, 0, none⟩ (.int .i64 400)).cell? ⟨gn, 0, none⟩ = _
    rw [World.cell?_setCell_other _ _ _ _ (by intro e; injection e with e1 _ _; exact n13 e1.symm), World.cell?_setCell_same _ _ _ c5]
  have ys : ((w1.setCell ⟨gn, 0, none⟩ (.int .i64 k)).setCell ⟨gs, 0, none⟩ (.int .i64 400)).drew.cell? ⟨gs, 0, none⟩ = some (.int .i64 400) := by
    show ((w1.setCell ⟨gn, 0, none⟩ (.int .i64 k)).setCell ⟨gs, 0, none⟩ (.int .i64 400)).cell? ⟨gs, 0, none⟩ = _
    rw [World.cell?_setCell_same _ _ _ ((World.cell?_setCell_other _ _ _ _ (by intro e; injection e with e1 _ _; exact n13 e1)).trans c6)]
  have y9 : ((w1.setCell ⟨gn, 0, none⟩ (.int .i64 k)).setCell ⟨gs, 0, none⟩ (.int .i64 400)).drew.cell? ⟨b, 9, none⟩ = some (.int .i64 lf) := HPW.out.cell 9 _ rfl
  have g9 := HPW.out.frz 9
  have hadd := HAdd.out
  have HYn := Lib.hid (⟨yn, ys⟩ : _ ∧ _)
  clear hsub c1 c2 c3 c4 c5 c6 f5 f6 c7 c9 f9 HBx HB1 m1 m2 m4 m5 m7 m8 m10 m11 m13
  generalize ((w1.setCell ⟨gn, 0, none⟩ (.int .i64 k)).setCell ⟨gs, 0, none⟩ (.int .i64 400)).drew = W at *
  go_wp2_with fail
  go_region
  have HFin := Lib.hid (show FdPost B b { s with bad := 400 } q 400 lf V gn gs k w (W.setCell ⟨b, 9, none⟩ (.int .i64 ((lf : Int) + (k : Int)))).drew from by
    have h9 := HPW.out.set 9 (.int .i64 ((lf : Int) + (k : Int))) { s with bad := 400 } q 400 (lf + k) rfl rfl rfl rfl rfl rfl (fun e => ⟨e, rfl⟩)
    refine ⟨h9.draws 1, (HT1.out.trans (HTW.out.trans (PTn.set 9 _))).trans (PTn.draws 1), ?_, ?_⟩
    · exact (World.cell?_setCell_other _ _ _ _ (by intro e; injection e with e1 _ _; exact n14 e1.symm)).trans HYn.out.1
    · exact (World.cell?_setCell_other _ _ _ _ (by intro e; injection e with e1 _ _; exact n15 e1.symm)).trans HYn.out.2)
  refine HQ2.out _ _ _ ?_
  have hu := HU.out
  have hFin := HFin.out
  clear HQ2 HFin HU HYn HPW HTW HAdd HSub HTx HNm HP HP1 HT1 n1 n2 n3 n4 n5 n6 n7 n8 n9 n10 n11 n12 n13 n14 n15 m14 m15 hadd y1 yn ys y9 g9
  cases c₀
  simp_all [bodyPostS, results, Tryz.results29, go_sem]
end Tk
end Go.Proofs.YtpcdaaijlgilkaaGreatDoor
