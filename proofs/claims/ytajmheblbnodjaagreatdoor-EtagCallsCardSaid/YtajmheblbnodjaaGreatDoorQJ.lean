/- ReB EtD FldH JoinF, put together. -/
import Derived.Test.YtajmheblbnodjaaGreatDoorQI
import Derived.Test.YtajmheblbnodjaaGreatDoorQE
import Derived.Test.YtajmheblbnodjaaGreatDoorQD
import Derived.Test.YtajmheblbnodjaaGreatDoorQB
import Derived.Laws.AppendOwnNone
import Derived.Laws.OwnMore
import Derived.BigFrame
namespace Go.Proofs.YtajmheblbnodjaaGreatDoor
open Go.RowKit
namespace Tk

set_option maxHeartbeats 8000000 in
set_option maxRecDepth 100000 in
theorem rttags_any (v : Value) (L : List Bs) (w : World) (hs : IsStrs w v L) (hsum : Lib.lens L + L.length ≤ 1000000) :
    Calls Tryz.prog 61 #[v] w (TagsPost (prtL L) w) := by
  have HS := Lib.hid hs
  have hprt : prtL L = L.flatMap splitL := rfl
  have HPR := Lib.hid hprt
  have hLl : L.length ≤ 1048576 := by omega
  have hln2 : (L.flatMap splitL).length ≤ 1000000 := Nat.le_trans (flat_len L) hsum
  have hfl : Hid (∀ i, ((L.take i).flatMap splitL).length ≤ 1000000) := fun i => Nat.le_trans (flat_sub L i) hln2
  have hpc : Hid (∀ p ∈ L.flatMap splitL, p.length ≤ 1000000) := fun p hp => Nat.le_trans (flat_piece L p hp) (by omega)
  have hlx : Hid (∀ i, i < L.length → (L.getD i []).length ≤ 1000000) := by
    intro i hi
    have hm : L.getD i [] ∈ L := by simp [List.getD, hi]
    have : ∀ (M : List Bs) (p : Bs), p ∈ M → p.length ≤ Lib.lens M := by
      intro M p
      induction M with
      | nil => intro h; simp at h
      | cons x t ih =>
        intro h
        rcases List.mem_cons.1 h with rfl | h
        · simp [Lib.lens]
        · have := ih h; simp [Lib.lens] at *; omega
    exact Nat.le_trans (this L _ hm) (by omega)
  obtain ⟨a, cap, rfl⟩ : ∃ a cap, v = .slice a L.length cap := by obtain ⟨a, c, h, -⟩ := hs; exact ⟨a, c, h⟩
  clear hs hprt hsum
  obtain ⟨P, hPe⟩ : ∃ P, P = L.flatMap splitL := ⟨_, rfl⟩
  unfold TagsPost
  rw [HPR.out, ← hPe]
  rw [← hPe] at hpc
  have HPe := Lib.hid hPe
  rw [← hPe] at hln2
  clear HPR
  clear hPe
  go_enter Tryz.func61, Tryz.ntmps61
  go_wp2_with fail
  go_loopw [5, 6] (fun v5 vi wr => ∃ i : Nat, i ≤ L.length ∧ vi = .int .i64 i ∧ Hid (wr.ownsRow w.heap.size 9 1 v5 ((L.take i).flatMap splitL).length (strs ((L.take i).flatMap splitL))) ∧ Hid (Below w.heap.size w wr)) (fun _ vi _ => L.length - (RowKit.intOf vi).toNat)
  case atStart => exact ⟨0, Nat.zero_le _, rfl, World.ownsRow_nil _ _ _ _, Below.refl _ _⟩
  case round =>
    obtain ⟨i, hi, rfl, HO, HB⟩ := hrel
    rename World => W
    by_cases hlt : i < L.length
    · obtain ⟨a', c', e', hc⟩ := isStrs_belowE HS.out HB.out
      injection e' with e1 _ e2
      subst e1 e2
      obtain ⟨b, o, rfl, hc⟩ := hc i (L.getD i []) (by simp [List.getD, hlt])
      have hm := hlx.out i hlt
      have htk := take_flat L i hlt
      have HTK := Lib.hid htk
      have hf1 := hfl.out i
      have hsl := split_len (L.getD i [])
      clear htk
      generalize L.getD i [] = x at *
      have hxz := size_mkS x
      have hsp := fun W : World => rSplit_any (mkS x) W (by omega)
      rw [bs_mkS] at hsp
      have HSP := Lib.hid hsp
      have g0 : (0 : Int) ≤ (i : Int) := by omega
      have g1 : (i : Int) < (L.length : Int) := by omega
      clear hsp hxz
      have hk1 : ((L.take i).flatMap splitL).length ≤ 1048576 := by omega
      have hk2 : (splitL x).length ≤ 1048576 := by omega
      generalize (L.take i).flatMap splitL = R at *
      generalize splitL x = S at *
      go_wp2_with fail
      refine (HSP.out _).mono ?_
      rintro e w3 ⟨v3, rfl, ho3, hb3⟩
      have HO3 := Lib.hid (own_keep HO.out hb3)
      have HB3 := Lib.hid (HB.out.trans (hb3.mono HB.out.size))
      have HS3 := Lib.hid ho3
      clear ho3 hb3
      go_wp2_with (at_builtin; refine join_guarded (by rfl) _ _ rfl w.heap.size _ _ _ R S rfl rfl HO3.out HS3.out HB3.out.size hk1 hk2 ?_)
      intro v4 w4 ho4 hb4
      have HB4 := Lib.hid (HB3.out.trans hb4)
      have HO4 : Hid (w4.ownsRow w.heap.size 9 1 v4 ((L.take (i + 1)).flatMap splitL).length (strs ((L.take (i + 1)).flatMap splitL))) := by
        show World.ownsRow _ _ _ _ _ _ _
        rw [HTK.out, List.length_append]; exact ho4
      clear ho4 hb4
      go_wp2_with fail
      exact ⟨⟨i + 1, hlt, by go_num, HO4, HB4⟩, by simp [RowKit.intOf]; omega⟩
    · have hil : L.take i = L := List.take_of_length_le (by omega)
      rw [hil, ← HPe.out] at HO
      clear hfl hlx HS HPe
      have hst := isStrs_own HO.out
      obtain ⟨a5, c5, rfl⟩ : ∃ a c, u5 = .slice a P.length c := by obtain ⟨a, c, h, -⟩ := hst; exact ⟨a, c, h⟩
      have HST := Lib.hid hst
      by_cases hP1 : P = [[42]]
      · subst hP1
        obtain ⟨a', c', e', hc⟩ := hst
        injection e' with e1 _ e2
        subst e1 e2
        obtain ⟨b, o, rfl, hc2⟩ := hc 0 [42] rfl
        have hc3 : W.cell? ⟨b, o, none⟩ = some (.string ⟨#[42]⟩) := hc2
        clear hpc HST hc hc2
        go_wp2_with fail
        go_ret3
        exact ⟨_, tagsRet tagsF_star.1 tagsF_star.2.1, World.ownsRow_nil _ _ _ _, HB.out⟩
      · have HOk := Lib.hid (fun h0 => tagsF_ok P h0 hP1)
        have HBad := Lib.hid (fun h0 => tagsF_bad P h0 hP1)
        have HAB := Lib.hid (all_badT P)
        have HAS := Lib.hid (all_stepT P)
        have HLt := Lib.hid (fun k e => (HO.out.lt k e).2)
        have hln3 : P.length ≤ 1000000 := hln2
        have step : ∀ i, i < P.length → (P.getD i []).length ≤ 1000000 := fun i hi => hpc.out _ (by simp [List.getD, hi])
        have HStep := Lib.hid step
        clear step hpc
        by_cases hone : P.length = 1
        · have hone2 : ((P.length : Int) == 1) = true := by rw [hone]; rfl
          have h0lt : (0 : Int) < (P.length : Int) := by omega
          obtain ⟨a', c', e', hc⟩ := hst
          injection e' with e1 _ e2
          subst e1 e2
          obtain ⟨b, o, e3, hc2⟩ := hc 0 (P.getD 0 []) (by simp [List.getD, hone])
          subst e3
          have hy : P.getD 0 [] ≠ [42] := by
            intro e
            refine hP1 ?_
            match P, hone, e with
            | [x], _, e => simp at e; rw [e]
          generalize P.getD 0 [] = y at *
          have hc3 : W.cell? ⟨b, o, none⟩ = some (.string (mkS y)) := hc2
          have hy2 : ((mkS y).toList == [42]) = false := by rw [beq_eq_false_iff_ne, toList_bs, bs_mkS]; exact hy
          clear hc hc2 hone hP1 hy
          go_wp2_with fail
          go_loopw [7, 8] (fun v2 vi wr => ∃ i : Nat, i ≤ P.length ∧ vi = .int .i64 i ∧ Hid (wr.ownsRow W.heap.size 81 2 v2 ((P.take i).map tgG).length (tcells ((P.take i).map tgG))) ∧ Hid ((P.take i).all tgO = true) ∧ Hid (Below W.heap.size W wr)) (fun _ vi _ => P.length - (RowKit.intOf vi).toNat)
          case atStart => exact ⟨0, Nat.zero_le _, rfl, World.ownsRow_nil _ _ _ _, rfl, Below.refl _ _⟩
          case round =>
            obtain ⟨j, hj, rfl, HO2, HA, HB2⟩ := hrel
            rename_i W2 _
            clear HO
            by_cases hlt2 : j < P.length
            · obtain ⟨a', c', e', hc⟩ := isStrs_belowE HST.out HB2.out
              injection e' with e1 _ e2
              subst e1 e2
              obtain ⟨b2, o2, e3, hc4⟩ := hc j (P.getD j []) (by simp [List.getD, hlt2])
              injection e3 with e3; injection e3 with e4 e5; subst e4 e5
              have hm := HStep.out j hlt2
              have hab := HAB.out j hlt2
              have has := HAS.out j hlt2 HA.out
              clear hc
              have hlen1 : ((P.take j).map tgG).length ≤ 1048576 := by rw [List.length_map, List.length_take]; omega
              generalize P.getD j [] = x at *
              have hxz := size_mkS x
              have hC := fun W : World => rtparse_any (mkS x) W (by omega)
              rw [bs_mkS] at hC
              unfold TgPost at hC
              have HC := Lib.hid hC
              have HTN := Lib.hid (fun h => tg_no x h)
              have hE0 : tgO x = true → tgE x = 0 := fun h => by unfold tgE; rw [if_pos h]
              have HE0 := Lib.hid hE0
              have g0 : (0 : Int) ≤ (j : Int) := by omega
              have g1 : (j : Int) < (P.length : Int) := by omega
              have HAB2 := Lib.hid hab
              have HAS2 := Lib.hid has
              clear hC hxz hm hab has hE0
              generalize (P.take j).map tgG = R at *
              cases hk : tgO x
              · have HBd := Lib.hid (HBad.out (fun e => by rw [e] at hlt2; simp at hlt2) (HAB2.out hk))
                rw [(HTN.out hk).1, (HTN.out hk).2] at HC
                unfold tgVal at HC
                clear hk
                go_wp2_with fail
                refine (HC.out _).mono ?_
                rintro e w3 ⟨rfl, hb3⟩
                have HB3 := Lib.hid (HB.out.trans ((HB2.out.trans (hb3.mono HB2.out.size)).mono HB.out.size))
                have hs3 : w.heap.size ≤ w3.heap.size := HB3.out.size
                clear hb3
                go_wp2_with fail
                go_ret3
                refine ⟨_, tagsRet HBd.out.1 HBd.out.2.1, ?_, HB3.out.alloc hs3 _⟩
                rw [HBd.out.2.2]
                exact World.ownsRow_nil _ _ _ _
              · have HBd := Lib.hid (HAS2.out hk)
                rw [HE0.out hk] at HC
                clear hk
                generalize tgG x = t at *
                obtain ⟨tk, tv⟩ := t
                unfold tgVal at HC
                go_wp2_with fail
                refine (HC.out _).mono ?_
                rintro e w3 ⟨rfl, hb3⟩
                have HBz := Lib.hid (HB2.out.trans (hb3.mono HB2.out.size))
                have HO3 := Lib.hid (own_keepT HO2.out hb3)
                have hs3 : W.heap.size ≤ w3.heap.size := HBz.out.size
                clear hb3
                have hb4 : Below w3.heap.size w3 (w3.alloc (.cells #[.bool tk, .string (mkS tv)] 81)) := (Below.refl _ _).alloc (Nat.le_refl _) _
                have hb5 : Below (w3.alloc (.cells #[.bool tk, .string (mkS tv)] 81)).heap.size (w3.alloc (.cells #[.bool tk, .string (mkS tv)] 81)) ((w3.alloc (.cells #[.bool tk, .string (mkS tv)] 81)).alloc (.cells #[.bool tk, .string (mkS tv)] 81)) := (Below.refl _ _).alloc (Nat.le_refl _) _
                have HO5 := Lib.hid (own_keepT (own_keepT HO3.out hb4) hb5)
                have HT5 := Lib.hid (isTgs_lit (w3.alloc (.cells #[.bool tk, .string (mkS tv)] 81)) (tk, tv))
                have hz4 : (w3.alloc (.cells #[.bool tk, .string (mkS tv)] 81)).heap.size = w3.heap.size + 1 := by simp
                rw [hz4] at HT5
                have hs5 : W.heap.size ≤ ((w3.alloc (.cells #[.bool tk, .string (mkS tv)] 81)).alloc (.cells #[.bool tk, .string (mkS tv)] 81)).heap.size := by simp; omega
                have HBw := Lib.hid (HBz.out.trans ((hb4.trans (hb5.mono (by simp))).mono hs3))
                clear hb4 hb5 hz4
                go_wp2_with (at_builtin; refine joinT_guarded (by rfl) _ _ rfl W.heap.size _ _ R [(tk, tv)] rfl rfl HO5.out HT5.out (fun _ _ h => by injection h with h1; cases h1) hs5 hlen1 (by simp) ?_)
                intro v8 w8 ho8 hg8
                have HB8 := Lib.hid (HBw.out.trans (below_of_grownT hg8 HO5.out hs5))
                have HO8 : Hid (w8.ownsRow W.heap.size 81 2 v8 ((P.take (j + 1)).map tgG).length (tcells ((P.take (j + 1)).map tgG))) := by
                  show World.ownsRow _ _ _ _ _ _ _
                  rw [HBd.out.2, List.length_append]; exact ho8
                clear ho8 hg8
                go_wp2_with fail
                exact ⟨⟨j + 1, hlt2, by go_num, HO8, HBd.out.1, HB8⟩, by simp [RowKit.intOf]; omega⟩
            · obtain rfl : j = P.length := by omega
              have hall := HA.out
              rw [List.take_length] at hall HO2
              have HBz := Lib.hid (HB.out.trans (HB2.out.mono HB.out.size))
              have HOz := Lib.hid (World.ownsRow.mono HO2.out HB.out.size)
              obtain ⟨a7, c7, hv7⟩ : ∃ a c, u7 = .slice a (P.map tgG).length c := by obtain ⟨a, c, h, -⟩ := isTgs_own HO2.out; exact ⟨a, c, h⟩
              subst hv7
              by_cases hP0 : P = []
              · subst hP0
                clear hall
                go_wp2_with fail
                go_ret3
                exact ⟨_, tagsRet tagsF_nil.1 tagsF_nil.2.1, World.ownsRow_nil _ _ _ _, HBz.out⟩
              · have HG := Lib.hid (HOk.out hP0 hall)
                have hlm : (((P.map tgG).length : Int) == 0) = false := by
                  rw [beq_eq_false_iff_ne, List.length_map]; intro h; exact hP0 (List.eq_nil_of_length_eq_zero (by omega))
                clear hall hP0
                generalize P.map tgG = M at *
                go_wp2_with fail
                go_ret3
                refine ⟨_, tagsRet HG.out.1 HG.out.2.1, ?_, HBz.out⟩
                rw [HG.out.2.2]
                exact HOz.out
        · have hone2 : ((P.length : Int) == 1) = false := by rw [beq_eq_false_iff_ne]; omega
          clear hone hP1 hst
          go_wp2_with fail
          go_loopw [7, 8] (fun v2 vi wr => ∃ i : Nat, i ≤ P.length ∧ vi = .int .i64 i ∧ Hid (wr.ownsRow W.heap.size 81 2 v2 ((P.take i).map tgG).length (tcells ((P.take i).map tgG))) ∧ Hid ((P.take i).all tgO = true) ∧ Hid (Below W.heap.size W wr)) (fun _ vi _ => P.length - (RowKit.intOf vi).toNat)
          case atStart => exact ⟨0, Nat.zero_le _, rfl, World.ownsRow_nil _ _ _ _, rfl, Below.refl _ _⟩
          case round =>
            obtain ⟨j, hj, rfl, HO2, HA, HB2⟩ := hrel
            rename_i W2 _
            clear HO
            by_cases hlt2 : j < P.length
            · obtain ⟨a', c', e', hc⟩ := isStrs_belowE HST.out HB2.out
              injection e' with e1 _ e2
              subst e1 e2
              obtain ⟨b2, o2, e3, hc4⟩ := hc j (P.getD j []) (by simp [List.getD, hlt2])
              subst e3
              have hm := HStep.out j hlt2
              have hab := HAB.out j hlt2
              have has := HAS.out j hlt2 HA.out
              clear hc
              have hlen1 : ((P.take j).map tgG).length ≤ 1048576 := by rw [List.length_map, List.length_take]; omega
              generalize P.getD j [] = x at *
              have hxz := size_mkS x
              have hC := fun W : World => rtparse_any (mkS x) W (by omega)
              rw [bs_mkS] at hC
              unfold TgPost at hC
              have HC := Lib.hid hC
              have HTN := Lib.hid (fun h => tg_no x h)
              have hE0 : tgO x = true → tgE x = 0 := fun h => by unfold tgE; rw [if_pos h]
              have HE0 := Lib.hid hE0
              have g0 : (0 : Int) ≤ (j : Int) := by omega
              have g1 : (j : Int) < (P.length : Int) := by omega
              have HAB2 := Lib.hid hab
              have HAS2 := Lib.hid has
              clear hC hxz hm hab has hE0
              generalize (P.take j).map tgG = R at *
              cases hk : tgO x
              · have HBd := Lib.hid (HBad.out (fun e => by rw [e] at hlt2; simp at hlt2) (HAB2.out hk))
                rw [(HTN.out hk).1, (HTN.out hk).2] at HC
                unfold tgVal at HC
                clear hk
                go_wp2_with fail
                refine (HC.out _).mono ?_
                rintro e w3 ⟨rfl, hb3⟩
                have HB3 := Lib.hid (HB.out.trans ((HB2.out.trans (hb3.mono HB2.out.size)).mono HB.out.size))
                have hs3 : w.heap.size ≤ w3.heap.size := HB3.out.size
                clear hb3
                go_wp2_with fail
                go_ret3
                refine ⟨_, tagsRet HBd.out.1 HBd.out.2.1, ?_, HB3.out.alloc hs3 _⟩
                rw [HBd.out.2.2]
                exact World.ownsRow_nil _ _ _ _
              · have HBd := Lib.hid (HAS2.out hk)
                rw [HE0.out hk] at HC
                clear hk
                generalize tgG x = t at *
                obtain ⟨tk, tv⟩ := t
                unfold tgVal at HC
                go_wp2_with fail
                refine (HC.out _).mono ?_
                rintro e w3 ⟨rfl, hb3⟩
                have HBz := Lib.hid (HB2.out.trans (hb3.mono HB2.out.size))
                have HO3 := Lib.hid (own_keepT HO2.out hb3)
                have hs3 : W.heap.size ≤ w3.heap.size := HBz.out.size
                clear hb3
                have hb4 : Below w3.heap.size w3 (w3.alloc (.cells #[.bool tk, .string (mkS tv)] 81)) := (Below.refl _ _).alloc (Nat.le_refl _) _
                have hb5 : Below (w3.alloc (.cells #[.bool tk, .string (mkS tv)] 81)).heap.size (w3.alloc (.cells #[.bool tk, .string (mkS tv)] 81)) ((w3.alloc (.cells #[.bool tk, .string (mkS tv)] 81)).alloc (.cells #[.bool tk, .string (mkS tv)] 81)) := (Below.refl _ _).alloc (Nat.le_refl _) _
                have HO5 := Lib.hid (own_keepT (own_keepT HO3.out hb4) hb5)
                have HT5 := Lib.hid (isTgs_lit (w3.alloc (.cells #[.bool tk, .string (mkS tv)] 81)) (tk, tv))
                have hz4 : (w3.alloc (.cells #[.bool tk, .string (mkS tv)] 81)).heap.size = w3.heap.size + 1 := by simp
                rw [hz4] at HT5
                have hs5 : W.heap.size ≤ ((w3.alloc (.cells #[.bool tk, .string (mkS tv)] 81)).alloc (.cells #[.bool tk, .string (mkS tv)] 81)).heap.size := by simp; omega
                have HBw := Lib.hid (HBz.out.trans ((hb4.trans (hb5.mono (by simp))).mono hs3))
                clear hb4 hb5 hz4
                go_wp2_with (at_builtin; refine joinT_guarded (by rfl) _ _ rfl W.heap.size _ _ R [(tk, tv)] rfl rfl HO5.out HT5.out (fun _ _ h => by injection h with h1; cases h1) hs5 hlen1 (by simp) ?_)
                intro v8 w8 ho8 hg8
                have HB8 := Lib.hid (HBw.out.trans (below_of_grownT hg8 HO5.out hs5))
                have HO8 : Hid (w8.ownsRow W.heap.size 81 2 v8 ((P.take (j + 1)).map tgG).length (tcells ((P.take (j + 1)).map tgG))) := by
                  show World.ownsRow _ _ _ _ _ _ _
                  rw [HBd.out.2, List.length_append]; exact ho8
                clear ho8 hg8
                go_wp2_with fail
                exact ⟨⟨j + 1, hlt2, by go_num, HO8, HBd.out.1, HB8⟩, by simp [RowKit.intOf]; omega⟩
            · obtain rfl : j = P.length := by omega
              have hall := HA.out
              rw [List.take_length] at hall HO2
              have HBz := Lib.hid (HB.out.trans (HB2.out.mono HB.out.size))
              have HOz := Lib.hid (World.ownsRow.mono HO2.out HB.out.size)
              obtain ⟨a7, c7, hv7⟩ : ∃ a c, u7 = .slice a (P.map tgG).length c := by obtain ⟨a, c, h, -⟩ := isTgs_own HO2.out; exact ⟨a, c, h⟩
              subst hv7
              by_cases hP0 : P = []
              · subst hP0
                clear hall
                go_wp2_with fail
                go_ret3
                exact ⟨_, tagsRet tagsF_nil.1 tagsF_nil.2.1, World.ownsRow_nil _ _ _ _, HBz.out⟩
              · have HG := Lib.hid (HOk.out hP0 hall)
                have hlm : (((P.map tgG).length : Int) == 0) = false := by
                  rw [beq_eq_false_iff_ne, List.length_map]; intro h; exact hP0 (List.eq_nil_of_length_eq_zero (by omega))
                clear hall hP0
                generalize P.map tgG = M at *
                go_wp2_with fail
                go_ret3
                refine ⟨_, tagsRet HG.out.1 HG.out.2.1, ?_, HBz.out⟩
                rw [HG.out.2.2]
                exact HOz.out
end Tk
end Go.Proofs.YtajmheblbnodjaaGreatDoor
namespace Go.Proofs.YtajmheblbnodjaaGreatDoor
open Go.RowKit
namespace Tk

def nINM : Bs := [73, 102, 45, 78, 111, 110, 101, 45, 77, 97, 116, 99, 104]

theorem isFlds_litE (w : World) (n x : Bs) : IsFlds (w.alloc (.cells #[.string (mkS n), .string (mkS x)] 31)) (.slice (some ⟨w.heap.size, 0, none⟩) 1 1) [(n, x)] := by
  refine ⟨_, 1, rfl, Nat.le_refl _, fun j f hj => ?_⟩
  cases j with
  | zero =>
    simp at hj; subst hj
    refine ⟨w.heap.size, 0, rfl, ?_, ?_⟩
    · rw [Lib.cell_of_heap (heap_alloc_last w _)]; rfl
    · rw [Lib.cell_of_heap (heap_alloc_last w _)]; rfl
  | succ j => simp at hj

set_option maxHeartbeats 4000000 in
set_option maxRecDepth 100000 in
theorem unchT_any (v : Value) (l : List (Bs × Bs)) (c : Ck) (now : Int) (w : World) (hs : IsFlds w v l) (hz : sumF l ≤ 1000000) (hl : l.length ≤ 1048576) (hp : 0 < (allF l nINM).length) :
    Calls Tryz.prog 53 #[v, ckV c, .int .i64 now] w fun e w' => e = .returned (.bool (nmdB (allF l nINM) c)) ∧ Below w.heap.size w w' := by
  have hb0 : Below w.heap.size w (w.alloc (.cells (ckA c) 89)) := (Below.refl _ _).alloc (Nat.le_refl _) _
  have hBx := Bx.new w 89 (ckA c)
  have HA := Lib.hid (fall_any v l nINM _ (isFlds_below hs hb0) (sum_each l (by omega)) (by decide) hl)
  have hsum := sum_all nINM l
  unfold ListPost at HA
  obtain ⟨a, cap, rfl⟩ : ∃ a cap, v = .slice a l.length cap := by obtain ⟨a, c, h, -⟩ := hs; exact ⟨a, c, h⟩
  have HB0 := Lib.hid hb0
  have HBx := Lib.hid hBx
  have hsz : w.heap.size ≤ (w.alloc (.cells (ckA c) 89)).heap.size := by simp
  clear hb0 hBx hs
  generalize allF l nINM = P at *
  have HN := Lib.hid (fun (v : Value) (W : World) h => tnamed_any v P c W h (by omega))
  have hP : (0 : Int) < (P.length : Int) := by omega
  clear hsum
  generalize nmdB P c = q at *
  obtain ⟨cw, cv, ch, ca, cb⟩ := c
  unfold ckV ckA at *
  simp only at *
  unfold nINM mkS at HA
  go_enter Tryz.func53, Tryz.ntmps53
  go_wp2_with fail
  refine HA.out.mono ?_
  rintro e w1 ⟨v1, rfl, ho, hb⟩
  have hB1 := HBx.out.later hb
  have hst := isStrs_own ho
  obtain ⟨a1, c1, rfl⟩ : ∃ a c, v1 = .slice a P.length c := by obtain ⟨a, c, h, -⟩ := isStrs_own ho; exact ⟨a, c, h⟩
  have c0 := hB1.cell 0 _ rfl
  have c1 := hB1.cell 1 _ rfl
  have c2 := hB1.cell 2 _ rfl
  have c3 := hB1.cell 3 _ rfl
  have c4 := hB1.cell 4 _ rfl
  have HB1 := Lib.hid (HB0.out.trans (hb.mono hsz))
  have HN1 := Lib.hid (HN.out _ w1 hst)
  have HL := Lib.hid HB1.out.size
  clear hB1 ho hb hst
  go_wp2_with fail
  refine HN1.out.mono ?_
  rintro e w2 ⟨rfl, hb⟩
  have HB2 := Lib.hid (HB1.out.trans (hb.mono HL.out))
  clear hb
  go_wp2_with fail
  go_ret
  exact ⟨rfl, HB2.out⟩

set_option maxHeartbeats 1000000 in
set_option maxRecDepth 100000 in
theorem eone_any (n x : ByteArray) (w : World) :
    Calls Tryz.prog 51 #[.string n, .string x] w fun e w' => e = .returned (.agg #[.string n, .string x]) ∧ Below w.heap.size w w' := by
  have hT := Two.new w 31 (.string ⟨#[]⟩) (.string ⟨#[]⟩)
  have c0 := hT.c0
  have c1 := hT.c1
  have f0 := hT.f0
  have f1 := hT.f1
  have hT2 := Two.new w 31 (.string n) (.string x)
  have q0 := hT2.c0
  have q1 := hT2.c1
  clear hT hT2
  go_enter Tryz.func51, Tryz.ntmps51
  go_wp2_with fail
  refine bodyPost_ret (v := .agg #[.string n, .string x]) ?_ rfl ⟨rfl, (Below.refl _ _).alloc (Nat.le_refl _) _⟩
  simp [results, Tryz.results51, go_sem, q0, q1]

set_option maxHeartbeats 1000000 in
set_option maxRecDepth 100000 in
theorem estrong_any (v : ByteArray) (w : World) :
    Calls Tryz.prog 54 #[.string v] w fun e w' => e = .returned (.agg #[.bool false, .string v, .bool true, .int .i64 0, .bool false]) ∧ Below w.heap.size w w' := by
  have hT := Bx.new w 89 #[.bool false, .string ⟨#[]⟩, .bool false, .int .i64 0, .bool false]
  have f0 := hT.frozen 0
  have f1 := hT.frozen 1
  have f2 := hT.frozen 2
  have f3 := hT.frozen 3
  have f4 := hT.frozen 4
  have c0 := hT.cell 0 _ rfl
  have c1 := hT.cell 1 _ rfl
  have c2 := hT.cell 2 _ rfl
  have c3 := hT.cell 3 _ rfl
  have c4 := hT.cell 4 _ rfl
  have hT2 := Bx.new w 89 #[.bool false, .string v, .bool true, .int .i64 0, .bool false]
  have q0 := hT2.cell 0 _ rfl
  have q1 := hT2.cell 1 _ rfl
  have q2 := hT2.cell 2 _ rfl
  have q3 := hT2.cell 3 _ rfl
  have q4 := hT2.cell 4 _ rfl
  clear hT hT2
  go_enter Tryz.func54, Tryz.ntmps54
  go_wp2_with fail
  refine bodyPost_ret (v := .agg #[.bool false, .string v, .bool true, .int .i64 0, .bool false]) ?_ rfl ⟨rfl, (Below.refl _ _).alloc (Nat.le_refl _) _⟩
  simp [results, Tryz.results54, go_sem, q0, q1, q2, q3, q4]

/-- the example's value of If-None-Match -/
def exE : Bs := [34, 97, 34, 44, 32, 87, 47, 34, 98, 34]
theorem exE_all : allF [(nINM, exE)] nINM = [exE] := by decide +kernel
theorem exE_b : nmdB [exE] ⟨false, [98], true, 0, false⟩ = true := by decide +kernel
theorem exE_c : nmdB [exE] ⟨false, [99], true, 0, false⟩ = false := by decide +kernel

set_option maxHeartbeats 4000000 in
set_option maxRecDepth 100000 in
theorem lives11_any (w : World) : Calls Tryz.prog 46 #[] w fun e w' => e = .returned (.bool true) ∧ Below w.heap.size w w' := by
  have HO := Lib.hid (eone_any ⟨#[73, 102, 45, 78, 111, 110, 101, 45, 77, 97, 116, 99, 104]⟩ ⟨#[34, 97, 34, 44, 32, 87, 47, 34, 98, 34]⟩ w)
  have HS := Lib.hid (fun (v : ByteArray) (W : World) => estrong_any v W)
  have HU : Hid (∀ (v : Value) (W : World), IsFlds W v [(nINM, exE)] → Calls Tryz.prog 53 #[v, .agg #[.bool false, .string ⟨#[98]⟩, .bool true, .int .i64 0, .bool false], .int .i64 0] W fun e w' => e = .returned (.bool true) ∧ Below W.heap.size W w') := fun v W hs => by
    have := unchT_any v [(nINM, exE)] ⟨false, [98], true, 0, false⟩ 0 W hs (by decide) (by decide) (by rw [exE_all]; decide)
    rw [exE_all, exE_b] at this
    exact this
  have HU2 : Hid (∀ (v : Value) (W : World), IsFlds W v [(nINM, exE)] → Calls Tryz.prog 53 #[v, .agg #[.bool false, .string ⟨#[99]⟩, .bool true, .int .i64 0, .bool false], .int .i64 0] W fun e w' => e = .returned (.bool false) ∧ Below W.heap.size W w') := fun v W hs => by
    have := unchT_any v [(nINM, exE)] ⟨false, [99], true, 0, false⟩ 0 W hs (by decide) (by decide) (by rw [exE_all]; decide)
    rw [exE_all, exE_c] at this
    exact this
  go_enter Tryz.func46, Tryz.ntmps46
  go_wp2_with fail
  refine HO.out.mono ?_
  rintro e w1 ⟨rfl, hb⟩
  have hfl : IsFlds (w1.alloc (.cells #[.string ⟨#[73, 102, 45, 78, 111, 110, 101, 45, 77, 97, 116, 99, 104]⟩, .string ⟨#[34, 97, 34, 44, 32, 87, 47, 34, 98, 34]⟩] 31)) (.slice (some ⟨w1.heap.size, 0, none⟩) 1 1) [(nINM, exE)] := isFlds_litE w1 nINM exE
  have HF1 := Lib.hid hfl
  have HB1 := Lib.hid (hb.trans (((Below.refl w1.heap.size w1).alloc (Nat.le_refl _) (.cells #[.string ⟨#[73, 102, 45, 78, 111, 110, 101, 45, 77, 97, 116, 99, 104]⟩, .string ⟨#[34, 97, 34, 44, 32, 87, 47, 34, 98, 34]⟩] 31)).mono hb.size))
  clear hb hfl
  go_wp2_with fail
  refine (HS.out _ _).mono ?_
  rintro e w2 ⟨rfl, hb⟩
  have HF2 := Lib.hid (isFlds_below HF1.out hb)
  have HB2 := Lib.hid (HB1.out.trans (hb.mono HB1.out.size))
  clear hb
  go_wp2_with fail
  refine (HU.out _ _ HF2.out).mono ?_
  rintro e w3 ⟨rfl, hb⟩
  have HF3 := Lib.hid (isFlds_below HF2.out hb)
  have HB3 := Lib.hid (HB2.out.trans (hb.mono HB2.out.size))
  clear hb
  go_wp2_with fail
  refine (HS.out _ _).mono ?_
  rintro e w4 ⟨rfl, hb⟩
  have HF4 := Lib.hid (isFlds_below HF3.out hb)
  have HB4 := Lib.hid (HB3.out.trans (hb.mono HB3.out.size))
  clear hb
  go_wp2_with fail
  refine (HU2.out _ _ HF4.out).mono ?_
  rintro e w5 ⟨rfl, hb⟩
  have HB5 := Lib.hid (HB4.out.trans (hb.mono HB4.out.size))
  clear hb
  go_wp2_with fail
  go_ret
  exact ⟨rfl, HB5.out⟩
end Tk
end Go.Proofs.YtajmheblbnodjaaGreatDoor
namespace Go.Proofs.YtajmheblbnodjaaGreatDoor
open Go.RowKit
namespace Tk

/-- the function value that named returns -/
def namedV (g : Nat) : Value := .func (.func 213) #[] #[.pointer (some ⟨g, 0, none⟩)]
def HasN (w : World) (g : Nat) (name : Bs) : Prop := w.cell? ⟨g, 0, none⟩ = some (.string (mkS name))
theorem HasN.lt {w : World} {g : Nat} {name : Bs} (h : HasN w g name) : g < w.heap.size := cell_lt (p := ⟨g, 0, none⟩) h
theorem HasN.later {w w' : World} {g : Nat} {name : Bs} (h : HasN w g name) (hb : Below w.heap.size w w') : HasN w' g name := (hb.cell (p := ⟨g, 0, none⟩) h.lt).trans h

set_option maxHeartbeats 2000000 in
theorem named_any (name : Bs) (w : World) :
    Calls Tryz.prog 167 #[.string (mkS name)] w fun e w' => e = .returned (namedV w.heap.size) ∧ HasN w' w.heap.size name ∧ Below w.heap.size w w' := by
  go_enter Tryz.func167, Tryz.ntmps167
  go_wp2_with fail
  go_ret
  exact ⟨rfl, by unfold HasN; rw [Lib.cell_of_heap (heap_alloc_last w _)]; rfl, (Below.refl _ _).alloc (Nat.le_refl _) _⟩

set_option maxHeartbeats 2000000 in
set_option maxRecDepth 100000 in
theorem named1_any (g : Nat) (name n x : Bs) (w : World) (hc : HasN w g name) (hn : n.length ≤ 1099511627776) (hm : name.length ≤ 1099511627776) :
    Calls Tryz.prog 213 #[.agg #[.string (mkS n), .string (mkS x)], .pointer (some ⟨g, 0, none⟩)] w fun e w' => e = .returned (.bool (isN name (n, x))) ∧ Below w.heap.size w w' := by
  have HS := fun W : World => tsame_any (mkS n) (mkS name) W (by rw [size_mkS]; exact hn) (by rw [size_mkS]; exact hm)
  rw [bs_mkS, bs_mkS] at HS
  have hv : isN name (n, x) = decide (lowL n = lowL name) := rfl
  have HV := Lib.hid hv
  have HS2 := Lib.hid HS
  have hc0 : (w.alloc (Obj.cells #[.string (mkS n), .string (mkS x)] 31)).cell? ⟨g, 0, none⟩ = some (.string (mkS name)) := (World.cell?_alloc_lt w _ _ hc.lt).trans hc
  have hc1 : w.cell? ⟨g, 0, none⟩ = some (.string (mkS name)) := hc
  clear hv HS
  go_enter Tryz.func213, Tryz.ntmps213
  go_wp2_with fail
  refine (HS2.out _).mono ?_
  rintro e w' ⟨rfl, k, rfl⟩
  go_wp2_with fail
  go_ret
  exact ⟨by rw [HV.out]; rfl, below_some_draws ((Below.refl _ _).alloc (Nat.le_refl _) _) k⟩

/-- where the first field of this name is, or -1 -/
def idxF (name : Bs) (l : List (Bs × Bs)) : Int := if l.findIdx (isN name) < l.length then (l.findIdx (isN name) : Int) else -1
theorem idxF_hit (name : Bs) (l : List (Bs × Bs)) (i : Nat) (hi : i < l.length) (h1 : ∀ f ∈ l.take i, isN name f = false) (h2 : isN name (l.getD i ([], [])) = true) : l.findIdx (isN name) = i := by
  rw [List.findIdx_eq hi]
  refine ⟨by simpa [List.getD, hi] using h2, fun j hj => ?_⟩
  refine h1 _ ?_
  rw [List.mem_take_iff_getElem]
  exact ⟨j, by omega, rfl⟩
theorem idxF_no (name : Bs) (l : List (Bs × Bs)) (h1 : ∀ f ∈ l, isN name f = false) : l.findIdx (isN name) = l.length := by
  rw [List.findIdx_eq_length]; exact h1

set_option maxHeartbeats 4000000 in
set_option maxRecDepth 100000 in
theorem index_any (v : Value) (g : Nat) (name : Bs) (l : List (Bs × Bs)) (w : World) (hs : IsFlds w v l) (hg : HasN w g name) (hz : ∀ f ∈ l, f.1.length ≤ 1099511627776 ∧ f.2.length ≤ 1099511627776) (hn : name.length ≤ 1099511627776) (hl : l.length ≤ 1048576) :
    Calls Tryz.prog 212 #[v, namedV g] w fun e w' => e = .returned (.int .i64 (idxF name l)) ∧ Below w.heap.size w w' := by
  have HS := Lib.hid hs
  have HZ := Lib.hid hz
  have HG := Lib.hid hg
  obtain ⟨a, cap, rfl⟩ : ∃ a cap, v = .slice a l.length cap := by obtain ⟨a, c, h, -⟩ := hs; exact ⟨a, c, h⟩
  clear hs hz hg
  unfold namedV
  go_enter Tryz.func212, Tryz.ntmps212
  go_wp2_with fail
  go_loopw [5, 8] (fun _ vi wr => ∃ i : Nat, i ≤ l.length ∧ vi = .int .i64 i ∧ Hid (∀ f ∈ l.take i, isN name f = false) ∧ Hid (Below w.heap.size w wr)) (fun _ vi _ => l.length - (RowKit.intOf vi).toNat)
  case atStart => exact ⟨0, Nat.zero_le _, rfl, fun f hf => by simp at hf, Below.refl _ _⟩
  case round =>
    obtain ⟨i, hi, rfl, HA, HB⟩ := hrel
    rename World => W
    by_cases hlt : i < l.length
    · obtain ⟨a', c', e', hcap, hc⟩ := isFlds_below HS.out HB.out
      injection e' with e1 _ e2
      subst e1 e2
      obtain ⟨b, o, rfl, hc0, hc1⟩ := hc i (l.getD i ([], [])) (by simp [List.getD, hlt])
      have hm := HZ.out (l.getD i ([], [])) (by simp [List.getD, hlt])
      have hhit := idxF_hit name l i hlt HA.out
      have htk : l.take (i + 1) = l.take i ++ [l.getD i ([], [])] := by
        rw [List.take_succ_eq_append_getElem hlt]; simp [List.getD, hlt]
      have HTK := Lib.hid htk
      have HHit := Lib.hid hhit
      clear hc htk hhit
      generalize l.getD i ([], []) = f at *
      obtain ⟨n, x⟩ := f
      simp only at hm hc0 hc1
      have HC := named1_any g name n x W (HG.out.later HB.out) hm.1 hn
      have g0 : (0 : Int) ≤ (i : Int) := by omega
      have g1 : (i : Int) < (l.length : Int) := by omega
      cases hk : isN name (n, x)
      · rw [hk] at HC
        have HA2 : Hid (∀ f ∈ l.take (i + 1), isN name f = false) := by
          intro f hf
          rw [HTK.out, List.mem_append, List.mem_singleton] at hf
          rcases hf with hf | rfl
          · exact HA.out f hf
          · exact hk
        have HC2 := Lib.hid HC
        clear HC hk
        go_wp2_with fail
        refine HC2.out.mono ?_
        rintro e w' ⟨rfl, hb⟩
        have HB2 := Lib.hid (HB.out.trans (hb.mono HB.out.size))
        clear hb
        go_wp2_with fail
        exact ⟨⟨i + 1, hlt, by go_num, HA2, HB2⟩, by simp [RowKit.intOf]; omega⟩
      · rw [hk] at HC
        have hidx : idxF name l = (i : Int) := by unfold idxF; rw [HHit.out hk, if_pos hlt]
        have HX := Lib.hid hidx
        have HC2 := Lib.hid HC
        clear HC hk hidx
        go_wp2_with fail
        refine HC2.out.mono ?_
        rintro e w' ⟨rfl, hb⟩
        have HB2 := Lib.hid (HB.out.trans (hb.mono HB.out.size))
        clear hb
        go_wp2_with fail
        go_ret
        exact ⟨by rw [HX.out]; rfl, HB2.out⟩
    · have hil : l.take i = l := List.take_of_length_le (by omega)
      rw [hil] at HA
      have hidx : idxF name l = -1 := by unfold idxF; rw [idxF_no name l HA.out, if_neg (by omega)]
      have HX := Lib.hid hidx
      clear hidx hil
      go_wp2_with fail
      go_ret
      exact ⟨by rw [HX.out]; rfl, HB.out⟩
end Tk
end Go.Proofs.YtajmheblbnodjaaGreatDoor
namespace Go.Proofs.YtajmheblbnodjaaGreatDoor
open Go.RowKit
namespace Tk

def fcells (l : List (Bs × Bs)) : List Value := l.flatMap fun f => [.string (mkS f.1), .string (mkS f.2)]
theorem fcells_len : ∀ l, (fcells l).length = l.length * 2
  | [] => rfl
  | f :: t => by
    have := fcells_len t
    unfold fcells at *
    rw [List.flatMap_cons, List.length_append, this]; simp; omega
theorem fcells_app (a b : List (Bs × Bs)) : fcells (a ++ b) = fcells a ++ fcells b := by simp [fcells]
theorem fcells_at : ∀ (l : List (Bs × Bs)) (j : Nat) (u : Value), (fcells l)[j]? = some u → ∃ i f, l[i]? = some f ∧ ((j = i * 2 ∧ u = .string (mkS f.1)) ∨ (j = i * 2 + 1 ∧ u = .string (mkS f.2)))
  | [], j, u, h => by simp [fcells] at h
  | f :: t, 0, u, h => by
    simp [fcells] at h
    exact ⟨0, f, rfl, .inl ⟨rfl, h.symm⟩⟩
  | f :: t, 1, u, h => by
    simp [fcells] at h
    exact ⟨0, f, rfl, .inr ⟨rfl, h.symm⟩⟩
  | f :: t, j + 2, u, h => by
    have h2 : (fcells t)[j]? = some u := by
      unfold fcells at *
      rw [List.flatMap_cons] at h
      simpa using h
    obtain ⟨i, g, hg, hj⟩ := fcells_at t j u h2
    refine ⟨i + 1, g, by simpa using hg, ?_⟩
    rcases hj with ⟨hj, hu⟩ | ⟨hj, hu⟩
    · exact .inl ⟨by omega, hu⟩
    · exact .inr ⟨by omega, hu⟩
theorem fcells_get : ∀ (l : List (Bs × Bs)) (j : Nat) (f : Bs × Bs), l[j]? = some f → (fcells l)[j * 2]? = some (.string (mkS f.1)) ∧ (fcells l)[j * 2 + 1]? = some (.string (mkS f.2))
  | [], j, f, h => by simp at h
  | g :: t, 0, f, h => by
    simp at h; subst h
    exact ⟨by simp [fcells], by simp [fcells]⟩
  | g :: t, j + 1, f, h => by
    have := fcells_get t j f (by simpa using h)
    unfold fcells at *
    rw [List.flatMap_cons, show (j + 1) * 2 = j * 2 + 2 by omega]
    constructor
    · simpa using this.1
    · simpa using this.2
theorem fcells_one (l : List (Bs × Bs)) : ∀ u ∈ fcells l, u.oneCell' = true := by
  intro u hu
  unfold fcells at hu
  rw [List.mem_flatMap] at hu
  obtain ⟨f, -, hf⟩ := hu
  simp at hf
  rcases hf with rfl | rfl <;> rfl

theorem fldInfo : (Tryz.prog.info? 31).map (fun i => (i.zero, i.size, i.bytes)) = some (some (.agg #[.string .empty, .string .empty]), 2, 32) := by kernel_rfl

theorem below_of_grownF {a b : World} {B : Nat} {v : Value} {n : Nat} {xs : List Value} {e : TypeId} (h : a.grownBy b v.ownBlock) (ho : a.ownsRow B e 2 v n xs) (hB : B ≤ a.heap.size) : Below B a b :=
  (Below.refl B a).grown h hB fun k hk => (ho.lt k hk).1

set_option maxRecDepth 100000 in
theorem joinF_run (w : World) (o : Oper) (a : Act) (K : Act → World → Prop) (Q : Exit → Act → World → Prop) (s x : Operand)
    (ho : o.op = .call { callee := .builtin .append, args := #[s, x], argTypes := #[22, 22] })
    (base : Nat) (v v2 : Value) (P R : List (Bs × Bs)) (hs : a.eval s = v) (hx : a.eval x = v2) (h1 : w.ownsRow base 31 2 v P.length (fcells P)) (h2 : IsFlds w v2 R) (hnl : ∀ n c, v2 = .slice none n c → c = 0)
    (hB : base ≤ w.heap.size) (hP : P.length ≤ 1048576) (hR : R.length ≤ 1048576)
    (h : ∀ v' w', w'.ownsRow base 31 2 v' (P ++ R).length (fcells (P ++ R)) → w.grownBy w' v.ownBlock → K (a.put o.dst v') w') : o.wp Tryz.prog a w K Q := by
  obtain ⟨i0, hi, hz0, hz1, hz2⟩ := info_parts fldInfo
  obtain ⟨ad, cap, rfl, hcap, hc⟩ := h2
  rcases ad with _ | ad
  · have hR0 : R = [] := by
      cases R with
      | nil => rfl
      | cons f t => obtain ⟨b, o, e, -⟩ := hc 0 f rfl; cases e
    subst hR0
    have hcap0 := hnl _ _ rfl
    subst hcap0
    have hrun := run_append_owned_none (P := Tryz.prog) (w := w) base 22 o.type 31 i0 2 Tryz.underlying22 hi v P.length (fcells P) h1
    unfold Oper.wp
    simp only [List.length_nil] at hx
    simp [execOp, ho, resolve, invoke, builtin, hs, hx, hrun, Result.andThen]
    exact h v w (by simpa using h1) ⟨rfl, rfl, rfl, Nat.le_refl _, fun _ _ _ => rfl⟩
  · refine wp_append_own (P := Tryz.prog) w s x 22 ho base 31 i0 (.agg #[.string .empty, .string .empty]) 2 32 Tryz.underlying22 hi hz0 hz1 hz2 rfl (by decide) v P.length (fcells P) hs h1 ad R.length cap (fcells R) hx (fcells_len R)
      (fun j u hj => ?_) (fcells_one R) (by unfold maxLen; omega) (by omega) hB ?_
    · obtain ⟨i, f, hf, hju⟩ := fcells_at R j u hj
      obtain ⟨b, o, e, g0, g1⟩ := hc i f hf
      injection e with e
      subst e
      rw [Go.WideShapes.add_plain]
      rcases hju with ⟨rfl, rfl⟩ | ⟨rfl, rfl⟩
      · exact g0
      · rw [← Nat.add_assoc]; exact g1
    · intro v' w' ho' hg' _
      refine h v' w' ?_ hg'
      rw [List.length_append, fcells_app]
      exact ho'

theorem joinF_guarded {ops : Array Oper} {rest : List Oper} {w : World} {o : Oper} {a : Act} {Q : Exit → Act → World → Prop} (hw : Region.wanted o (yielded ops a.tmps) = true) (s x : Operand)
    (ho : o.op = .call { callee := .builtin .append, args := #[s, x], argTypes := #[22, 22] })
    (base : Nat) (v v2 : Value) (P R : List (Bs × Bs)) (hs : a.eval s = v) (hx : a.eval x = v2) (h1 : w.ownsRow base 31 2 v P.length (fcells P)) (h2 : IsFlds w v2 R) (hnl : ∀ n c, v2 = .slice none n c → c = 0)
    (hB : base ≤ w.heap.size) (hP : P.length ≤ 1048576) (hR : R.length ≤ 1048576)
    (h : ∀ v' w', w'.ownsRow base 31 2 v' (P ++ R).length (fcells (P ++ R)) → w.grownBy w' v.ownBlock → wpList Tryz.prog ops Q rest (a.put o.dst v') w') : wpList Tryz.prog ops Q (o :: rest) a w :=
  BigFrame.wpList_want hw fun K hK => joinF_run w o a K Q s x ho base v v2 P R hs hx h1 h2 hnl hB hP hR fun v' w' a b => hK _ _ (h v' w' a b)

theorem isFlds_own {w : World} {base : Nat} {v : Value} {l : List (Bs × Bs)} (h : w.ownsRow base 31 2 v l.length (fcells l)) : IsFlds w v l := by
  rcases h.2 with ⟨hv, hn⟩ | ⟨g, cap, cur, hv, hb, hg, hcap, -⟩
  · exact ⟨none, 0, by rw [hv, hn], by omega, fun j t hj => by simp [List.eq_nil_of_length_eq_zero hn] at hj⟩
  · refine ⟨some ⟨g, 0, none⟩, cap, hv, hcap, fun j f hj => ⟨g, 0, rfl, ?_, ?_⟩⟩
    · have := h.cells (g := g) (by rw [hv]; rfl) (j * 2) (.string (mkS f.1)) (fcells_get l j f hj).1
      rw [Go.WideShapes.add_plain] at this
      exact this
    · have := h.cells (g := g) (by rw [hv]; rfl) (j * 2 + 1) (.string (mkS f.2)) (fcells_get l j f hj).2
      rw [Go.WideShapes.add_plain, ← Nat.add_assoc] at this
      exact this

set_option maxHeartbeats 2000000 in
set_option maxRecDepth 100000 in
theorem own_any (v : Value) (l : List (Bs × Bs)) (w : World) (hs : IsFlds w v l) (hnl : ∀ n c, v = .slice none n c → c = 0) (hl : l.length ≤ 1048576) :
    Calls Tryz.prog 12 #[v] w fun e w' => ∃ v', e = .returned v' ∧ w'.ownsRow w.heap.size 31 2 v' l.length (fcells l) ∧ Below w.heap.size w w' := by
  have HS := Lib.hid hs
  have HNL := Lib.hid hnl
  obtain ⟨a, cap, rfl⟩ : ∃ a cap, v = .slice a l.length cap := by obtain ⟨a, c, h, -⟩ := hs; exact ⟨a, c, h⟩
  clear hs hnl
  go_enter Tryz.func12, Tryz.ntmps12
  have ho := World.ownsRow_lit (base := w.heap.size) (e := 31) (size := 2) w #[] 0 (Nat.le_refl _) (by decide) rfl
  have hb0 : Below w.heap.size w (w.alloc (Obj.cells #[] 31)) := (Below.refl _ _).alloc (Nat.le_refl _) _
  have HF := Lib.hid (isFlds_below HS.out hb0)
  have HB0 := Lib.hid hb0
  have HO := Lib.hid ho
  clear ho hb0
  go_wp2_with (at_builtin; refine joinF_guarded (by rfl) _ _ rfl w.heap.size _ _ [] l rfl rfl HO.out HF.out HNL.out ?c1 ?c2 ?c3 ?_)
  intro v' w' ho' hg'
  have HB1 := Lib.hid (HB0.out.trans (below_of_grownF hg' HO.out (by simp)))
  have HO1 := Lib.hid ho'
  clear ho' hg'
  go_wp2_with fail
  go_ret
  exact ⟨v', rfl, HO1.out, HB1.out⟩
end Tk
end Go.Proofs.YtajmheblbnodjaaGreatDoor
