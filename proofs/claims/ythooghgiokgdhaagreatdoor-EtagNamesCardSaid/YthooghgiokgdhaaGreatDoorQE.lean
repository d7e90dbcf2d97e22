/- EtB EtC RefL RSm, put together. -/
import Derived.Test.YthooghgiokgdhaaGreatDoorQC
import Derived.Test.YthooghgiokgdhaaGreatDoorQD
import Derived.Test.YthooghgiokgdhaaGreatDoorQA
namespace Go.Proofs.YthooghgiokgdhaaGreatDoor
open Go.RowKit
namespace Tk

theorem isStrs_belowE {w w' : World} {v : Value} {l : List Bs} (h : IsStrs w v l) (hb : Below w.heap.size w w') : IsStrs w' v l := by
  obtain ⟨a, c, rfl, hc⟩ := h
  refine ⟨a, c, rfl, fun j t hj => ?_⟩
  obtain ⟨b, o, rfl, h1⟩ := hc j t hj
  exact ⟨b, o, rfl, (hb.cell (p := ⟨b, o + j, none⟩) (cell_lt (p := ⟨b, o + j, none⟩) h1)).trans h1⟩
theorem own_keepT {w w' : World} {B : Nat} {v : Value} {n : Nat} {xs : List Value} {e : TypeId} {k : Nat} (h : w.ownsRow B e k v n xs) (hb : Below w.heap.size w w') : w'.ownsRow B e k v n xs :=
  World.ownsRow.kept h (row := none) ⟨hb.os, hb.tape, hb.output, hb.size, fun k hk _ => hb.block k hk⟩ (by cases h : v.ownBlock <;> simp)
theorem isTgs_lit (w : World) (t : Tg) : IsTgs (w.alloc (.cells #[.bool t.1, .string (mkS t.2)] 81)) (.slice (some ⟨w.heap.size, 0, none⟩) 1 1) [t] := by
  refine ⟨_, 1, rfl, Nat.le_refl _, fun j f hj => ?_⟩
  cases j with
  | zero =>
    simp at hj; subst hj
    refine ⟨w.heap.size, 0, rfl, ?_, ?_⟩
    · rw [Lib.cell_of_heap (heap_alloc_last w _)]; rfl
    · rw [Lib.cell_of_heap (heap_alloc_last w _)]; rfl
  | succ j => simp at hj
def TagsPost (P : List Bs) (w : World) (e : Ending) (w' : World) : Prop :=
  ∃ v', e = .returned (.tuple #[v', .bool (tagsS P), .int .i64 (tagsE P)]) ∧ w'.ownsRow w.heap.size 81 2 v' (tagsL P).length (tcells (tagsL P)) ∧ Below w.heap.size w w'
theorem tagsRet {v : Value} {a b : Bool} {e n : Int} (h1 : a = b) (h2 : e = n) : Ending.returned (.tuple #[v, .bool b, .int .i64 n]) = .returned (.tuple #[v, .bool a, .int .i64 e]) := by
  subst h1 h2; rfl
theorem tagsF_nil : tagsS [] = false ∧ tagsE [] = 4 ∧ tagsL [] = [] := by decide
theorem tagsF_star : tagsS [[42]] = true ∧ tagsE [[42]] = 0 ∧ tagsL [[42]] = [] := by decide
theorem tagsF_ok (P : List Bs) (h0 : P ≠ []) (h1 : P ≠ [[42]]) (h2 : P.all tgO = true) : tagsS P = false ∧ tagsE P = 0 ∧ tagsL P = P.map tgG := by
  unfold tagsS tagsE tagsL
  rw [if_neg h0, if_neg h1, if_pos h2, if_neg h1, if_pos h2, decide_eq_false h1]; exact ⟨rfl, rfl, rfl⟩
theorem tagsF_bad (P : List Bs) (h0 : P ≠ []) (h1 : P ≠ [[42]]) (h2 : P.all tgO = false) : tagsS P = false ∧ tagsE P = 4 ∧ tagsL P = [] := by
  unfold tagsS tagsE tagsL
  rw [if_neg h0, if_neg h1, if_neg h1, decide_eq_false h1, h2]; simp
theorem all_badT (P : List Bs) (i : Nat) (hi : i < P.length) (h : tgO (P.getD i []) = false) : P.all tgO = false := by
  rw [List.all_eq_false]
  refine ⟨P[i], List.getElem_mem hi, ?_⟩
  simp [List.getD, hi] at h
  simp [h]
theorem all_stepT (P : List Bs) (i : Nat) (hi : i < P.length) (h : (P.take i).all tgO = true) (h2 : tgO (P.getD i []) = true) : (P.take (i + 1)).all tgO = true ∧ (P.take (i + 1)).map tgG = (P.take i).map tgG ++ [tgG (P.getD i [])] := by
  have e : P.take (i + 1) = P.take i ++ [P.getD i []] := by
    rw [List.take_succ_eq_append_getElem hi]; simp [List.getD, hi]
  generalize P.getD i [] = x at *
  rw [e, List.all_append, h, List.map_append]
  exact ⟨by simp [h2], rfl⟩

set_option maxHeartbeats 8000000 in
set_option maxRecDepth 100000 in
theorem ttags_any (v : Value) (L : List Bs) (w : World) (hs : IsStrs w v L) (hsum : Lib.lens L + L.length ≤ 1000000) :
    Calls Tryz.prog 49 #[v] w (TagsPost (prtL L) w) := by
  have HS := Lib.hid hs
  have hprt : prtL L = L.flatMap splitL := rfl
  have HPR := Lib.hid hprt
  have hLl : L.length ≤ 1048576 := by omega
  have hln2 : (L.flatMap splitL).length ≤ 1000000 := Nat.le_trans (flat_len L) hsum
  have hfl : Hid (∀ i, ((L.take i).flatMap splitL).length ≤ 1000000) := fun i => Nat.le_trans (flat_sub L i) hln2
  have hpc : Hid (∀ p ∈ L.flatMap splitL, p.length ≤ 1000000) := fun p hp => Nat.le_trans (flat_piece L p hp) (by omega)
  have hlx : Hid (∀ i, i < L.length → (L.getD i []).length ≤ 1000000) := by
    intro i hi
    have hm : L.getD i [] ∈ L := by simp [List.getD, hi]
    have : ∀ (M : List Bs) (p : Bs), p ∈ M → p.length ≤ Lib.lens M := by
      intro M p
      induction M with
      | nil => intro h; simp at h
      | cons x t ih =>
        intro h
        rcases List.mem_cons.1 h with rfl | h
        · simp [Lib.lens]
        · have := ih h; simp [Lib.lens] at *; omega
    exact Nat.le_trans (this L _ hm) (by omega)
  obtain ⟨a, cap, rfl⟩ : ∃ a cap, v = .slice a L.length cap := by obtain ⟨a, c, h, -⟩ := hs; exact ⟨a, c, h⟩
  clear hs hprt hsum
  obtain ⟨P, hPe⟩ : ∃ P, P = L.flatMap splitL := ⟨_, rfl⟩
  unfold TagsPost
  rw [HPR.out, ← hPe]
  rw [← hPe] at hpc
  have HPe := Lib.hid hPe
  rw [← hPe] at hln2
  clear HPR
  clear hPe
  go_enter Tryz.func49, Tryz.ntmps49
  go_wp2_with fail
  go_loopw [5, 14] (fun v5 vi wr => ∃ i : Nat, i ≤ L.length ∧ vi = .int .i64 i ∧ Hid (wr.ownsRow w.heap.size 9 1 v5 ((L.take i).flatMap splitL).length (strs ((L.take i).flatMap splitL))) ∧ Hid (Below w.heap.size w wr)) (fun _ vi _ => L.length - (RowKit.intOf vi).toNat)
  case atStart => exact ⟨0, Nat.zero_le _, rfl, World.ownsRow_nil _ _ _ _, Below.refl _ _⟩
  case round =>
    obtain ⟨i, hi, rfl, HO, HB⟩ := hrel
    rename World => W
    by_cases hlt : i < L.length
    · obtain ⟨a', c', e', hc⟩ := isStrs_belowE HS.out HB.out
      injection e' with e1 _ e2
      subst e1 e2
      obtain ⟨b, o, rfl, hc⟩ := hc i (L.getD i []) (by simp [List.getD, hlt])
      have hm := hlx.out i hlt
      have htk := take_flat L i hlt
      have HTK := Lib.hid htk
      have hf1 := hfl.out i
      have hsl := split_len (L.getD i [])
      clear htk
      generalize L.getD i [] = x at *
      have hxz := size_mkS x
      have hsp := fun W : World => split_any (mkS x) W (by omega)
      rw [bs_mkS] at hsp
      have HSP := Lib.hid hsp
      have g0 : (0 : Int) ≤ (i : Int) := by omega
      have g1 : (i : Int) < (L.length : Int) := by omega
      clear hsp hxz
      have hk1 : ((L.take i).flatMap splitL).length ≤ 1048576 := by omega
      have hk2 : (splitL x).length ≤ 1048576 := by omega
      generalize (L.take i).flatMap splitL = R at *
      generalize splitL x = S at *
      go_wp2_with fail
      refine (HSP.out _).mono ?_
      rintro e w3 ⟨v3, rfl, ho3, hb3⟩
      have HO3 := Lib.hid (own_keep HO.out hb3)
      have HB3 := Lib.hid (HB.out.trans (hb3.mono HB.out.size))
      have HS3 := Lib.hid ho3
      clear ho3 hb3
      go_wp2_with (at_builtin; refine join_guarded (by rfl) _ _ rfl w.heap.size _ _ _ R S rfl rfl HO3.out HS3.out HB3.out.size hk1 hk2 ?_)
      intro v4 w4 ho4 hb4
      have HB4 := Lib.hid (HB3.out.trans hb4)
      have HO4 : Hid (w4.ownsRow w.heap.size 9 1 v4 ((L.take (i + 1)).flatMap splitL).length (strs ((L.take (i + 1)).flatMap splitL))) := by
        show World.ownsRow _ _ _ _ _ _ _
        rw [HTK.out, List.length_append]; exact ho4
      clear ho4 hb4
      go_wp2_with fail
      exact ⟨⟨i + 1, hlt, by go_num, HO4, HB4⟩, by simp [RowKit.intOf]; omega⟩
    · have hil : L.take i = L := List.take_of_length_le (by omega)
      rw [hil, ← HPe.out] at HO
      clear hfl hlx HS HPe
      have hst := isStrs_own HO.out
      obtain ⟨a5, c5, rfl⟩ : ∃ a c, u5 = .slice a P.length c := by obtain ⟨a, c, h, -⟩ := hst; exact ⟨a, c, h⟩
      have HST := Lib.hid hst
      by_cases hP0 : P = []
      · subst hP0
        clear hst hpc HST
        go_wp2_with fail
        go_ret3
        exact ⟨_, tagsRet tagsF_nil.1 tagsF_nil.2.1, World.ownsRow_nil _ _ _ _, HB.out⟩
      · have hlen0 : ((P.length : Int) == 0) = false := by
          rw [beq_eq_false_iff_ne]; intro h; exact hP0 (List.eq_nil_of_length_eq_zero (by omega))
        by_cases hP1 : P = [[42]]
        · subst hP1
          obtain ⟨a', c', e', hc⟩ := hst
          injection e' with e1 _ e2
          subst e1 e2
          obtain ⟨b, o, rfl, hc2⟩ := hc 0 [42] rfl
          have hc3 : W.cell? ⟨b, o, none⟩ = some (.string ⟨#[42]⟩) := hc2
          clear hpc HST hc hc2
          go_wp2_with fail
          go_ret3
          exact ⟨_, tagsRet tagsF_star.1 tagsF_star.2.1, World.ownsRow_nil _ _ _ _, HB.out⟩
        · have HOk := Lib.hid (tagsF_ok P hP0 hP1)
          have HBad := Lib.hid (tagsF_bad P hP0 hP1)
          have HAB := Lib.hid (all_badT P)
          have HAS := Lib.hid (all_stepT P)
          have HLt := Lib.hid (fun k e => (HO.out.lt k e).2)
          have hln3 : P.length ≤ 1000000 := hln2
          have step : ∀ i, i < P.length → (P.getD i []).length ≤ 1000000 := fun i hi => hpc.out _ (by simp [List.getD, hi])
          have HStep := Lib.hid step
          clear step hpc hP0
          by_cases hone : P.length = 1
          · have hone2 : ((P.length : Int) == 1) = true := by rw [hone]; rfl
            have h0lt : (0 : Int) < (P.length : Int) := by omega
            obtain ⟨a', c', e', hc⟩ := hst
            injection e' with e1 _ e2
            subst e1 e2
            obtain ⟨b, o, e3, hc2⟩ := hc 0 (P.getD 0 []) (by simp [List.getD, hone])
            subst e3
            have hy : P.getD 0 [] ≠ [42] := by
              intro e
              refine hP1 ?_
              match P, hone, e with
              | [x], _, e => simp at e; rw [e]
            generalize P.getD 0 [] = y at *
            have hc3 : W.cell? ⟨b, o, none⟩ = some (.string (mkS y)) := hc2
            have hy2 : ((mkS y).toList == [42]) = false := by rw [beq_eq_false_iff_ne, toList_bs, bs_mkS]; exact hy
            clear hc hc2 hone hP1 hy
            go_wp2_with fail
            go_loopw [2, 39] (fun v2 vi wr => ∃ i : Nat, i ≤ P.length ∧ vi = .int .i64 i ∧ Hid (wr.ownsRow W.heap.size 81 2 v2 ((P.take i).map tgG).length (tcells ((P.take i).map tgG))) ∧ Hid ((P.take i).all tgO = true) ∧ Hid (Below W.heap.size W wr)) (fun _ vi _ => P.length - (RowKit.intOf vi).toNat)
            case atStart => exact ⟨0, Nat.zero_le _, rfl, World.ownsRow_nil _ _ _ _, rfl, Below.refl _ _⟩
            case round =>
              obtain ⟨j, hj, rfl, HO2, HA, HB2⟩ := hrel
              rename_i W2 _
              clear HO
              by_cases hlt2 : j < P.length
              · obtain ⟨a', c', e', hc⟩ := isStrs_belowE HST.out HB2.out
                injection e' with e1 _ e2
                subst e1 e2
                obtain ⟨b2, o2, e3, hc4⟩ := hc j (P.getD j []) (by simp [List.getD, hlt2])
                injection e3 with e3; injection e3 with e4 e5; subst e4 e5
                have hm := HStep.out j hlt2
                have hab := HAB.out j hlt2
                have has := HAS.out j hlt2 HA.out
                clear hc
                have hlen1 : ((P.take j).map tgG).length ≤ 1048576 := by rw [List.length_map, List.length_take]; omega
                generalize P.getD j [] = x at *
                have hxz := size_mkS x
                have hC := fun W : World => tparse_any (mkS x) W (by omega)
                rw [bs_mkS] at hC
                unfold TgPost at hC
                have HC := Lib.hid hC
                have HTN := Lib.hid (fun h => tg_no x h)
                have hE0 : tgO x = true → tgE x = 0 := fun h => by unfold tgE; rw [if_pos h]
                have HE0 := Lib.hid hE0
                have g0 : (0 : Int) ≤ (j : Int) := by omega
                have g1 : (j : Int) < (P.length : Int) := by omega
                have HAB2 := Lib.hid hab
                have HAS2 := Lib.hid has
                clear hC hxz hm hab has hE0
                generalize (P.take j).map tgG = R at *
                cases hk : tgO x
                · have HBd := Lib.hid (HBad.out (HAB2.out hk))
                  rw [(HTN.out hk).1, (HTN.out hk).2] at HC
                  unfold tgVal at HC
                  clear hk
                  go_wp2_with fail
                  refine (HC.out _).mono ?_
                  rintro e w3 ⟨rfl, hb3⟩
                  have HB3 := Lib.hid (HB.out.trans ((HB2.out.trans (hb3.mono HB2.out.size)).mono HB.out.size))
                  have hs3 : w.heap.size ≤ w3.heap.size := HB3.out.size
                  clear hb3
                  go_wp2_with fail
                  go_ret3
                  refine ⟨_, tagsRet HBd.out.1 HBd.out.2.1, ?_, HB3.out.alloc hs3 _⟩
                  rw [HBd.out.2.2]
                  exact World.ownsRow_nil _ _ _ _
                · have HBd := Lib.hid (HAS2.out hk)
                  rw [HE0.out hk] at HC
                  clear hk
                  generalize tgG x = t at *
                  obtain ⟨tk, tv⟩ := t
                  unfold tgVal at HC
                  go_wp2_with fail
                  refine (HC.out _).mono ?_
                  rintro e w3 ⟨rfl, hb3⟩
                  have HBz := Lib.hid (HB2.out.trans (hb3.mono HB2.out.size))
                  have HO3 := Lib.hid (own_keepT HO2.out hb3)
                  have hs3 : W.heap.size ≤ w3.heap.size := HBz.out.size
                  clear hb3
                  have hb4 : Below w3.heap.size w3 (w3.alloc (.cells #[.bool tk, .string (mkS tv)] 81)) := (Below.refl _ _).alloc (Nat.le_refl _) _
                  have hb5 : Below (w3.alloc (.cells #[.bool tk, .string (mkS tv)] 81)).heap.size (w3.alloc (.cells #[.bool tk, .string (mkS tv)] 81)) ((w3.alloc (.cells #[.bool tk, .string (mkS tv)] 81)).alloc (.cells #[.bool tk, .string (mkS tv)] 81)) := (Below.refl _ _).alloc (Nat.le_refl _) _
                  have HO5 := Lib.hid (own_keepT (own_keepT HO3.out hb4) hb5)
                  have HT5 := Lib.hid (isTgs_lit (w3.alloc (.cells #[.bool tk, .string (mkS tv)] 81)) (tk, tv))
                  have hz4 : (w3.alloc (.cells #[.bool tk, .string (mkS tv)] 81)).heap.size = w3.heap.size + 1 := by simp
                  rw [hz4] at HT5
                  have hs5 : W.heap.size ≤ ((w3.alloc (.cells #[.bool tk, .string (mkS tv)] 81)).alloc (.cells #[.bool tk, .string (mkS tv)] 81)).heap.size := by simp; omega
                  have HBw := Lib.hid (HBz.out.trans ((hb4.trans (hb5.mono (by simp))).mono hs3))
                  clear hb4 hb5 hz4
                  go_wp2_with (at_builtin; refine joinT_guarded (by rfl) _ _ rfl W.heap.size _ _ R [(tk, tv)] rfl rfl HO5.out HT5.out (fun _ _ h => by injection h with h1; cases h1) hs5 hlen1 (by simp) ?_)
                  intro v8 w8 ho8 hg8
                  have HB8 := Lib.hid (HBw.out.trans (below_of_grownT hg8 HO5.out hs5))
                  have HO8 : Hid (w8.ownsRow W.heap.size 81 2 v8 ((P.take (j + 1)).map tgG).length (tcells ((P.take (j + 1)).map tgG))) := by
                    show World.ownsRow _ _ _ _ _ _ _
                    rw [HBd.out.2, List.length_append]; exact ho8
                  clear ho8 hg8
                  go_wp2_with fail
                  exact ⟨⟨j + 1, hlt2, by go_num, HO8, HBd.out.1, HB8⟩, by simp [RowKit.intOf]; omega⟩
              · obtain rfl : j = P.length := by omega
                have hall := HA.out
                rw [List.take_length] at hall HO2
                have HG := Lib.hid (HOk.out hall)
                have HBz := Lib.hid (HB.out.trans (HB2.out.mono HB.out.size))
                have HOz := Lib.hid (World.ownsRow.mono HO2.out HB.out.size)
                clear hall
                go_wp2_with fail
                go_ret3
                refine ⟨_, tagsRet HG.out.1 HG.out.2.1, ?_, HBz.out⟩
                rw [HG.out.2.2]
                exact HOz.out
          · have hone2 : ((P.length : Int) == 1) = false := by rw [beq_eq_false_iff_ne]; omega
            clear hone hP1 hst
            go_wp2_with fail
            go_loopw [2, 39] (fun v2 vi wr => ∃ i : Nat, i ≤ P.length ∧ vi = .int .i64 i ∧ Hid (wr.ownsRow W.heap.size 81 2 v2 ((P.take i).map tgG).length (tcells ((P.take i).map tgG))) ∧ Hid ((P.take i).all tgO = true) ∧ Hid (Below W.heap.size W wr)) (fun _ vi _ => P.length - (RowKit.intOf vi).toNat)
            case atStart => exact ⟨0, Nat.zero_le _, rfl, World.ownsRow_nil _ _ _ _, rfl, Below.refl _ _⟩
            case round =>
              obtain ⟨j, hj, rfl, HO2, HA, HB2⟩ := hrel
              rename_i W2 _
              clear HO
              by_cases hlt2 : j < P.length
              · obtain ⟨a', c', e', hc⟩ := isStrs_belowE HST.out HB2.out
                injection e' with e1 _ e2
                subst e1 e2
                obtain ⟨b2, o2, e3, hc4⟩ := hc j (P.getD j []) (by simp [List.getD, hlt2])
                subst e3
                have hm := HStep.out j hlt2
                have hab := HAB.out j hlt2
                have has := HAS.out j hlt2 HA.out
                clear hc
                have hlen1 : ((P.take j).map tgG).length ≤ 1048576 := by rw [List.length_map, List.length_take]; omega
                generalize P.getD j [] = x at *
                have hxz := size_mkS x
                have hC := fun W : World => tparse_any (mkS x) W (by omega)
                rw [bs_mkS] at hC
                unfold TgPost at hC
                have HC := Lib.hid hC
                have HTN := Lib.hid (fun h => tg_no x h)
                have hE0 : tgO x = true → tgE x = 0 := fun h => by unfold tgE; rw [if_pos h]
                have HE0 := Lib.hid hE0
                have g0 : (0 : Int) ≤ (j : Int) := by omega
                have g1 : (j : Int) < (P.length : Int) := by omega
                have HAB2 := Lib.hid hab
                have HAS2 := Lib.hid has
                clear hC hxz hm hab has hE0
                generalize (P.take j).map tgG = R at *
                cases hk : tgO x
                · have HBd := Lib.hid (HBad.out (HAB2.out hk))
                  rw [(HTN.out hk).1, (HTN.out hk).2] at HC
                  unfold tgVal at HC
                  clear hk
                  go_wp2_with fail
                  refine (HC.out _).mono ?_
                  rintro e w3 ⟨rfl, hb3⟩
                  have HB3 := Lib.hid (HB.out.trans ((HB2.out.trans (hb3.mono HB2.out.size)).mono HB.out.size))
                  have hs3 : w.heap.size ≤ w3.heap.size := HB3.out.size
                  clear hb3
                  go_wp2_with fail
                  go_ret3
                  refine ⟨_, tagsRet HBd.out.1 HBd.out.2.1, ?_, HB3.out.alloc hs3 _⟩
                  rw [HBd.out.2.2]
                  exact World.ownsRow_nil _ _ _ _
                · have HBd := Lib.hid (HAS2.out hk)
                  rw [HE0.out hk] at HC
                  clear hk
                  generalize tgG x = t at *
                  obtain ⟨tk, tv⟩ := t
                  unfold tgVal at HC
                  go_wp2_with fail
                  refine (HC.out _).mono ?_
                  rintro e w3 ⟨rfl, hb3⟩
                  have HBz := Lib.hid (HB2.out.trans (hb3.mono HB2.out.size))
                  have HO3 := Lib.hid (own_keepT HO2.out hb3)
                  have hs3 : W.heap.size ≤ w3.heap.size := HBz.out.size
                  clear hb3
                  have hb4 : Below w3.heap.size w3 (w3.alloc (.cells #[.bool tk, .string (mkS tv)] 81)) := (Below.refl _ _).alloc (Nat.le_refl _) _
                  have hb5 : Below (w3.alloc (.cells #[.bool tk, .string (mkS tv)] 81)).heap.size (w3.alloc (.cells #[.bool tk, .string (mkS tv)] 81)) ((w3.alloc (.cells #[.bool tk, .string (mkS tv)] 81)).alloc (.cells #[.bool tk, .string (mkS tv)] 81)) := (Below.refl _ _).alloc (Nat.le_refl _) _
                  have HO5 := Lib.hid (own_keepT (own_keepT HO3.out hb4) hb5)
                  have HT5 := Lib.hid (isTgs_lit (w3.alloc (.cells #[.bool tk, .string (mkS tv)] 81)) (tk, tv))
                  have hz4 : (w3.alloc (.cells #[.bool tk, .string (mkS tv)] 81)).heap.size = w3.heap.size + 1 := by simp
                  rw [hz4] at HT5
                  have hs5 : W.heap.size ≤ ((w3.alloc (.cells #[.bool tk, .string (mkS tv)] 81)).alloc (.cells #[.bool tk, .string (mkS tv)] 81)).heap.size := by simp; omega
                  have HBw := Lib.hid (HBz.out.trans ((hb4.trans (hb5.mono (by simp))).mono hs3))
                  clear hb4 hb5 hz4
                  go_wp2_with (at_builtin; refine joinT_guarded (by rfl) _ _ rfl W.heap.size _ _ R [(tk, tv)] rfl rfl HO5.out HT5.out (fun _ _ h => by injection h with h1; cases h1) hs5 hlen1 (by simp) ?_)
                  intro v8 w8 ho8 hg8
                  have HB8 := Lib.hid (HBw.out.trans (below_of_grownT hg8 HO5.out hs5))
                  have HO8 : Hid (w8.ownsRow W.heap.size 81 2 v8 ((P.take (j + 1)).map tgG).length (tcells ((P.take (j + 1)).map tgG))) := by
                    show World.ownsRow _ _ _ _ _ _ _
                    rw [HBd.out.2, List.length_append]; exact ho8
                  clear ho8 hg8
                  go_wp2_with fail
                  exact ⟨⟨j + 1, hlt2, by go_num, HO8, HBd.out.1, HB8⟩, by simp [RowKit.intOf]; omega⟩
              · obtain rfl : j = P.length := by omega
                have hall := HA.out
                rw [List.take_length] at hall HO2
                have HG := Lib.hid (HOk.out hall)
                have HBz := Lib.hid (HB.out.trans (HB2.out.mono HB.out.size))
                have HOz := Lib.hid (World.ownsRow.mono HO2.out HB.out.size)
                clear hall
                go_wp2_with fail
                go_ret3
                refine ⟨_, tagsRet HG.out.1 HG.out.2.1, ?_, HBz.out⟩
                rw [HG.out.2.2]
                exact HOz.out
end Tk
end Go.Proofs.YthooghgiokgdhaaGreatDoor
namespace Go.Proofs.YthooghgiokgdhaaGreatDoor
open Go.RowKit
namespace Tk

/-- checks: a tag, whether there is one, a time, whether there is one -/
structure Ck where
  w : Bool
  v : Bs
  h : Bool
  a : Int
  b : Bool
def ckA (c : Ck) : Array Value := #[.bool c.w, .string (mkS c.v), .bool c.h, .int .i64 c.a, .bool c.b]
def ckV (c : Ck) : Value := .agg (ckA c)
/-- do the values of If-None-Match name what has these checks? -/
def nmdB (L : List Bs) (c : Ck) : Bool := decide (tagsE (prtL L) = 0) && (tagsS (prtL L) || (c.h && (tagsL (prtL L)).any fun t => wkB t (c.w, c.v)))

/-- the function value that named hands to slices.ContainsFunc -/
def weakV (g : Nat) : Value := .func (.func 182) #[] #[.pointer (some ⟨g, 0, none⟩)]

set_option maxHeartbeats 2000000 in
set_option maxRecDepth 100000 in
theorem tnamed1_any (g : Nat) (c : Ck) (t : Tg) (w : World) (hc : Bx w g 89 (ckA c)) :
    Calls Tryz.prog 182 #[tgVal t, .pointer (some ⟨g, 0, none⟩)] w fun e w' => e = .returned (.bool (wkB t (c.w, c.v))) ∧ Below w.heap.size w w' := by
  obtain ⟨tk, tv⟩ := t
  have hb0 : Below w.heap.size w (w.alloc (.cells #[.bool tk, .string (mkS tv)] 81)) := (Below.refl _ _).alloc (Nat.le_refl _) _
  have hT := Two.new w 81 (.bool tk) (.string (mkS tv))
  have a0 := hT.c0
  have a1 := hT.c1
  have c0 := (hc.later hb0).cell 0 _ rfl
  have c1 := (hc.later hb0).cell 1 _ rfl
  have HW := Lib.hid (fun W : World => weak_any (tk, tv) (c.w, c.v) W)
  have HB0 := Lib.hid hb0
  have hsz : w.heap.size ≤ (w.alloc (.cells #[.bool tk, .string (mkS tv)] 81)).heap.size := by simp
  clear hb0 hT hc
  unfold tgVal at *
  generalize wkB (tk, tv) (c.w, c.v) = q at *
  go_enter Tryz.func182, Tryz.ntmps182
  go_wp2_with fail
  generalize w.alloc (.cells #[.bool tk, .string (mkS tv)] 81) = W at *
  refine (HW.out _).mono ?_
  rintro e w1 ⟨rfl, hb⟩
  have HB1 := Lib.hid (HB0.out.trans (hb.mono hsz))
  clear hb
  go_wp2_with fail
  go_ret
  exact ⟨rfl, HB1.out⟩

def idxT (p : Tg → Bool) (l : List Tg) : Int := if l.findIdx p < l.length then (l.findIdx p : Int) else -1
theorem idxT_hit (p : Tg → Bool) (l : List Tg) (i : Nat) (hi : i < l.length) (h1 : ∀ f ∈ l.take i, p f = false) (h2 : p (l.getD i (false, [])) = true) : l.findIdx p = i := by
  rw [List.findIdx_eq hi]
  refine ⟨by simpa [List.getD, hi] using h2, fun j hj => ?_⟩
  refine h1 _ ?_
  rw [List.mem_take_iff_getElem]
  exact ⟨j, by omega, rfl⟩
theorem idxT_no (p : Tg → Bool) (l : List Tg) (h1 : ∀ f ∈ l, p f = false) : l.findIdx p = l.length := by
  rw [List.findIdx_eq_length]; exact h1
theorem idxT_any (p : Tg → Bool) (l : List Tg) : decide (0 ≤ idxT p l) = l.any p := by
  unfold idxT
  by_cases h : l.findIdx p < l.length
  · rw [if_pos h, decide_eq_true (by omega)]
    have h2 := List.findIdx_getElem (w := h)
    exact (List.any_eq_true.2 ⟨_, List.getElem_mem h, h2⟩).symm
  · rw [if_neg h]
    have h3 : l.findIdx p = l.length := by
      have := List.findIdx_le_length (p := p) (xs := l); omega
    rw [List.findIdx_eq_length] at h3
    rw [show decide ((0 : Int) ≤ -1) = false by decide]
    symm
    rw [List.any_eq_false]
    intro x hx
    rw [h3 x hx]; simp

set_option maxHeartbeats 4000000 in
set_option maxRecDepth 100000 in
theorem indexT_any (v : Value) (g : Nat) (c : Ck) (l : List Tg) (w : World) (hs : IsTgs w v l) (hg : Bx w g 89 (ckA c)) (hl : l.length ≤ 1048576) :
    Calls Tryz.prog 230 #[v, weakV g] w fun e w' => e = .returned (.int .i64 (idxT (fun t => wkB t (c.w, c.v)) l)) ∧ Below w.heap.size w w' := by
  have HS := Lib.hid hs
  have HG := Lib.hid hg
  have HN := Lib.hid (fun (t : Tg) (W : World) hW => tnamed1_any g c t W hW)
  obtain ⟨a, cap, rfl⟩ : ∃ a cap, v = .slice a l.length cap := by obtain ⟨a, c, h, -⟩ := hs; exact ⟨a, c, h⟩
  clear hs hg
  obtain ⟨p, hp⟩ : ∃ p : Tg → Bool, p = fun t => wkB t (c.w, c.v) := ⟨_, rfl⟩
  rw [← hp]
  have HP : Hid (∀ t : Tg, p t = wkB t (c.w, c.v)) := fun t => by rw [hp]
  clear hp
  have HIH := Lib.hid (fun i hi h1 h2 => idxT_hit p l i hi h1 h2)
  have HIN := Lib.hid (idxT_no p l)
  have HID : Hid (idxT p l = if l.findIdx p < l.length then (l.findIdx p : Int) else -1) := rfl
  generalize idxT p l = q at *
  unfold weakV
  go_enter Tryz.func230, Tryz.ntmps230
  go_wp2_with fail
  go_loopw [5, 8] (fun _ vi wr => ∃ i : Nat, i ≤ l.length ∧ vi = .int .i64 i ∧ Hid (∀ f ∈ l.take i, p f = false) ∧ Hid (Below w.heap.size w wr)) (fun _ vi _ => l.length - (RowKit.intOf vi).toNat)
  case atStart => exact ⟨0, Nat.zero_le _, rfl, fun f hf => by simp at hf, Below.refl _ _⟩
  case round =>
    obtain ⟨i, hi, rfl, HA, HB⟩ := hrel
    rename World => W
    by_cases hlt : i < l.length
    · obtain ⟨a', c', e', hcap, hc⟩ := isTgs_below HS.out HB.out
      injection e' with e1 _ e2
      subst e1 e2
      obtain ⟨b, o, rfl, hc0, hc1⟩ := hc i (l.getD i (false, [])) (by simp [List.getD, hlt])
      have hhit := HIH.out i hlt HA.out
      have htk : l.take (i + 1) = l.take i ++ [l.getD i (false, [])] := by
        rw [List.take_succ_eq_append_getElem hlt]; simp [List.getD, hlt]
      have HTK := Lib.hid htk
      have HHit := Lib.hid hhit
      clear hc htk hhit
      generalize l.getD i (false, []) = f at *
      have HC := HN.out f W (HG.out.later HB.out)
      rw [← HP.out] at HC
      obtain ⟨n, x⟩ := f
      simp only at hc0 hc1
      unfold tgVal at HC
      have g0 : (0 : Int) ≤ (i : Int) := by omega
      have g1 : (i : Int) < (l.length : Int) := by omega
      cases hk : p (n, x)
      · rw [hk] at HC
        have HA2 : Hid (∀ f ∈ l.take (i + 1), p f = false) := by
          intro f hf
          rw [HTK.out, List.mem_append, List.mem_singleton] at hf
          rcases hf with hf | rfl
          · exact HA.out f hf
          · exact hk
        have HC2 := Lib.hid HC
        clear HC hk
        go_wp2_with fail
        refine HC2.out.mono ?_
        rintro e w' ⟨rfl, hb⟩
        have HB2 := Lib.hid (HB.out.trans (hb.mono HB.out.size))
        clear hb
        go_wp2_with fail
        exact ⟨⟨i + 1, hlt, by go_num, HA2, HB2⟩, by simp [RowKit.intOf]; omega⟩
      · rw [hk] at HC
        have hidx : q = (i : Int) := by rw [HID.out, HHit.out hk, if_pos hlt]
        have HX := Lib.hid hidx
        have HC2 := Lib.hid HC
        clear HC hk hidx
        go_wp2_with fail
        refine HC2.out.mono ?_
        rintro e w' ⟨rfl, hb⟩
        have HB2 := Lib.hid (HB.out.trans (hb.mono HB.out.size))
        clear hb
        go_wp2_with fail
        go_ret
        exact ⟨by rw [HX.out]; rfl, HB2.out⟩
    · have hil : l.take i = l := List.take_of_length_le (by omega)
      rw [hil] at HA
      have hidx : q = -1 := by rw [HID.out, HIN.out HA.out, if_neg (by omega)]
      have HX := Lib.hid hidx
      clear hidx hil
      go_wp2_with fail
      go_ret
      exact ⟨by rw [HX.out]; rfl, HB.out⟩

set_option maxHeartbeats 2000000 in
set_option maxRecDepth 100000 in
theorem containsT_any (v : Value) (g : Nat) (c : Ck) (l : List Tg) (w : World) (hs : IsTgs w v l) (hg : Bx w g 89 (ckA c)) (hl : l.length ≤ 1048576) :
    Calls Tryz.prog 181 #[v, weakV g] w fun e w' => e = .returned (.bool (l.any fun t => wkB t (c.w, c.v))) ∧ Below w.heap.size w w' := by
  have HI := Lib.hid (indexT_any v g c l w hs hg hl)
  have HA := Lib.hid (idxT_any (fun t => wkB t (c.w, c.v)) l)
  generalize idxT (fun t => wkB t (c.w, c.v)) l = q at *
  generalize (l.any fun t => wkB t (c.w, c.v)) = r at *
  clear hs hg
  unfold weakV at *
  go_enter Tryz.func181, Tryz.ntmps181
  go_wp2_with fail
  refine HI.out.mono ?_
  rintro e w1 ⟨rfl, hb⟩
  have HB := Lib.hid hb
  clear hb
  go_wp2_with fail
  go_ret
  exact ⟨by rw [← HA.out]; rfl, HB.out⟩

set_option maxHeartbeats 4000000 in
set_option maxRecDepth 100000 in
theorem tnamed_any (v : Value) (L : List Bs) (c : Ck) (w : World) (hs : IsStrs w v L) (hsum : Lib.lens L + L.length ≤ 1000000) :
    Calls Tryz.prog 111 #[v, ckV c] w fun e w' => e = .returned (.bool (nmdB L c)) ∧ Below w.heap.size w w' := by
  have hb0 : Below w.heap.size w (w.alloc (.cells (ckA c) 89)) := (Below.refl _ _).alloc (Nat.le_refl _) _
  have hBx := Bx.new w 89 (ckA c)
  have hT := ttags_any v L _ (isStrs_belowE hs hb0) hsum
  have hpl : (prtL L).length ≤ 1000000 := Nat.le_trans (flat_len L) hsum
  have htl : (tagsL (prtL L)).length ≤ 1048576 := by
    unfold tagsL
    split
    · simp
    · split
      · rw [List.length_map]; omega
      · simp
  have hv : nmdB L c = (decide (tagsE (prtL L) = 0) && (tagsS (prtL L) || (c.h && (tagsL (prtL L)).any fun t => wkB t (c.w, c.v)))) := rfl
  have HV := Lib.hid hv
  unfold TagsPost at hT
  obtain ⟨a, cap, rfl⟩ : ∃ a cap, v = .slice a L.length cap := by obtain ⟨a, c, h, -⟩ := hs; exact ⟨a, c, h⟩
  generalize tagsE (prtL L) = er at *
  generalize tagsS (prtL L) = st at *
  generalize tagsL (prtL L) = tl at *
  generalize nmdB L c = q at *
  have HT := Lib.hid hT
  have HB0 := Lib.hid hb0
  have HBx := Lib.hid hBx
  have hsz : w.heap.size ≤ (w.alloc (.cells (ckA c) 89)).heap.size := by simp
  clear hT hb0 hBx hpl hv hs hsum
  have HCt := Lib.hid (fun (v : Value) (W : World) h1 h2 => containsT_any v w.heap.size c tl W h1 h2 htl)
  clear htl
  generalize (tl.any fun t => wkB t (c.w, c.v)) = r at *
  obtain ⟨cw, cv, ch, ca, cb⟩ := c
  unfold ckV ckA at *
  simp only at *
  by_cases he : er = 0
  · subst he
    cases st
    · go_enter Tryz.func111, Tryz.ntmps111
      go_wp2_with fail
      refine HT.out.mono ?_
      rintro e w1 ⟨v1, rfl, ho, hb⟩
      have hB1 := HBx.out.later hb
      have c2 := hB1.cell 2 _ rfl
      have HB1 := Lib.hid (HB0.out.trans (hb.mono hsz))
      have HC1 := Lib.hid (HCt.out v1 w1 (isTgs_own ho) hB1)
      have HL := Lib.hid HB1.out.size
      clear hB1 ho hb
      cases ch
      · have HQ : Hid (q = false) := by show _ = _; rw [HV.out]; simp
        clear HV
        go_wp2_with fail
        go_ret
        exact ⟨by rw [HQ.out]; rfl, HB1.out⟩
      · have HQ : Hid (q = r) := by show _ = _; rw [HV.out]; simp
        clear HV
        unfold weakV at HC1
        go_wp2_with fail
        refine HC1.out.mono ?_
        rintro e w2 ⟨rfl, hb⟩
        have HB2 := Lib.hid (HB1.out.trans (hb.mono HL.out))
        clear hb
        go_wp2_with fail
        go_ret
        exact ⟨by rw [HQ.out]; rfl, HB2.out⟩
    · have HQ : Hid (q = true) := by show _ = _; rw [HV.out]; simp
      clear HV
      go_enter Tryz.func111, Tryz.ntmps111
      go_wp2_with fail
      refine HT.out.mono ?_
      rintro e w1 ⟨v1, rfl, ho, hb⟩
      have HB1 := Lib.hid (HB0.out.trans (hb.mono hsz))
      clear ho hb
      go_wp2_with fail
      go_ret
      exact ⟨by rw [HQ.out]; rfl, HB1.out⟩
  · have HQ : Hid (q = false) := by show _ = _; rw [HV.out, decide_eq_false he]; simp
    have e1 : ((er : Int) == 0) = false := by rw [beq_eq_false_iff_ne]; exact he
    have e2 : ((er : Int) != 0) = true := by unfold bne; rw [e1]; rfl
    clear HV he
    go_enter Tryz.func111, Tryz.ntmps111
    go_wp2_with fail
    refine HT.out.mono ?_
    rintro e w1 ⟨v1, rfl, ho, hb⟩
    have HB1 := Lib.hid (HB0.out.trans (hb.mono hsz))
    clear ho hb
    go_wp2_with fail
    go_ret
    exact ⟨by rw [HQ.out]; rfl, HB1.out⟩
end Tk
end Go.Proofs.YthooghgiokgdhaaGreatDoor
namespace Go.Proofs.YthooghgiokgdhaaGreatDoor
open Go.RowKit
namespace Tk

/-- the byte at place t when the first i are in small letters -/
def mixR (l : Bs) (i t : Nat) : UInt8 := if t < i then lowB (l.getD t 0) else l.getD t 0
theorem bytesRow_atR (s : ByteArray) (cap t : Nat) (h : t < s.size) : (bytesRow s cap)[t]? = some (.int .u8 (((bs s).getD t 0).toNat : Int)) := by
  unfold bytesRow
  rw [Array.getElem?_append_left (by simpa using h), Array.getElem?_map]
  have e : (bs s).getD t 0 = s.data[t]'h := by rw [getD_bs s t h]; rfl
  rw [e, Array.getElem?_eq_getElem h]; rfl
theorem lowB_add (c : UInt8) (h0 : 65 ≤ c.toNat) (h1 : c.toNat ≤ 90) : ((lowB c).toNat : Int) = (c.toNat : Int) + 32 := by
  have := lowB_up c h0 h1; omega

set_option maxRecDepth 100000 in
set_option maxHeartbeats 4000000 in
theorem refLower_any (s : ByteArray) (w : World) (hs : s.size ≤ 1099511627776) :
    Calls Tryz.prog 90 #[.string s] w (StrPost (lowL (bs s)) w) := by
  have HL := Lib.hid (length_bs s)
  have hconv := run_bytes_of_string (P := Tryz.prog) w 9 108 5 s Tryz.underlying9 Tryz.underlying108 Tryz.underlying5
  have hC : ∀ t, t < s.size → (bytesRow s (grownCap w s.size 0 5))[t]? = some (.int .u8 (((bs s).getD t 0).toNat : Int)) := fun t h => bytesRow_atR s _ t h
  generalize bytesRow s (grownCap w s.size 0 5) = C at *
  generalize grownCap w s.size 0 5 = cap at *
  have HC := Lib.hid hC
  clear hC
  go_enter Tryz.func90, Tryz.ntmps90
  go_wp2_with fail
  go_loopw [4] (fun vi wr => ∃ i : Nat, i ≤ s.size ∧ vi = .int .i64 i ∧ Hid (∀ t, t < s.size → wr.cell? ⟨w.heap.size, t, none⟩ = some (.int .u8 ((mixR (bs s) i t).toNat : Int)) ∧ wr.frozen? ⟨w.heap.size, t, none⟩ = false) ∧ Hid (Below w.heap.size w wr)) (fun vi _ => s.size - (RowKit.intOf vi).toNat)
  case atStart =>
    refine ⟨0, Nat.zero_le _, rfl, ?_, ?_⟩
    · intro t ht
      have h1 : ((w.alloc (.cells C 5 (C.size, C.size + 1))).drew).cell? ⟨w.heap.size, t, none⟩ = C[t]? := World.cell?_alloc_mark w C 5 _ t
      have hlt : t < C.size := by
        refine Nat.lt_of_not_le fun hle => ?_
        have := HC.out t ht
        rw [Array.getElem?_eq_none hle] at this
        cases this
      have h2 : ((w.alloc (.cells C 5 (C.size, C.size + 1))).drew).frozen? ⟨w.heap.size, t, none⟩ = _ := World.frozen?_alloc_mark w C 5 _ _ t
      refine ⟨by rw [h1, HC.out t ht]; rfl, ?_⟩
      rw [h2]
      simp; omega
    · exact ((Below.refl _ _).alloc (Nat.le_refl _) _).drew
  case round =>
    obtain ⟨i, hi, rfl, HM, HB⟩ := hrel
    rename World => W
    by_cases hlt : i < s.size
    · obtain ⟨hc, hf⟩ := HM.out i hlt
      have e : mixR (bs s) i i = (bs s).getD i 0 := by unfold mixR; rw [if_neg (by omega)]
      rw [e] at hc
      have nx : ∀ W' : World, (∀ t, t < s.size → t ≠ i → W'.cell? ⟨w.heap.size, t, none⟩ = W.cell? ⟨w.heap.size, t, none⟩) → W'.cell? ⟨w.heap.size, i, none⟩ = some (.int .u8 ((lowB ((bs s).getD i 0)).toNat : Int)) → (∀ t, W'.frozen? ⟨w.heap.size, t, none⟩ = W.frozen? ⟨w.heap.size, t, none⟩) →
          Hid (∀ t, t < s.size → W'.cell? ⟨w.heap.size, t, none⟩ = some (.int .u8 ((mixR (bs s) (i + 1) t).toNat : Int)) ∧ W'.frozen? ⟨w.heap.size, t, none⟩ = false) := by
        intro W' h1 h2 h3 t ht
        obtain ⟨g1, g2⟩ := HM.out t ht
        refine ⟨?_, by rw [h3]; exact g2⟩
        by_cases hti : t = i
        · subst hti
          rw [h2]
          unfold mixR; rw [if_pos (by omega)]
        · rw [h1 t ht hti, g1]
          have : mixR (bs s) i t = mixR (bs s) (i + 1) t := by
            unfold mixR
            by_cases h3 : t < i
            · rw [if_pos h3, if_pos (by omega)]
            · rw [if_neg h3, if_neg (by omega)]
          rw [this]
      have NX := Lib.hid nx
      clear nx e
      generalize (bs s).getD i 0 = c at *
      have hcl := c.toNat_lt
      by_cases h0 : 65 ≤ c.toNat ∧ c.toNat ≤ 90
      · have up := lowB_add c h0.1 h0.2
        have UP := Lib.hid up
        have k0 : (65 : Int) ≤ (c.toNat : Int) := by omega
        have k1 : (c.toNat : Int) ≤ 90 := by omega
        clear up h0
        go_wp2_with fail
        have hcell := hc
        refine ⟨⟨i + 1, by omega, by go_num, NX.out _ (fun t ht hti => World.cell?_setCell_other W ⟨w.heap.size, i, none⟩ ⟨w.heap.size, t, none⟩ _ (by intro e; injection e with _ e2; exact hti e2.symm)) (by rw [World.cell?_setCell_same _ _ _ hcell, UP.out]) (fun t => World.frozen?_setCell _ _ _ _), ?_⟩, by simp [RowKit.intOf]; omega⟩
        exact HB.out.setCell (p := ⟨w.heap.size, i, none⟩) (Nat.le_refl _) _
      · have hsame := lowB_same c h0
        have HS := Lib.hid hsame
        clear hsame
        by_cases h65 : 65 ≤ c.toNat
        · have k0 : (65 : Int) ≤ (c.toNat : Int) := by omega
          have k1 : ¬ (c.toNat : Int) ≤ 90 := by omega
          clear h0
          go_wp2_with fail
          exact ⟨⟨i + 1, by omega, by go_num, NX.out _ (fun _ _ _ => rfl) (by rw [HS.out]; exact hc) (fun _ => rfl), HB⟩, by simp [RowKit.intOf]; omega⟩
        · have k0 : ¬ (65 : Int) ≤ (c.toNat : Int) := by omega
          clear h0
          go_wp2_with fail
          exact ⟨⟨i + 1, by omega, by go_num, NX.out _ (fun _ _ _ => rfl) (by rw [HS.out]; exact hc) (fun _ => rfl), HB⟩, by simp [RowKit.intOf]; omega⟩
    · have hlen : (lowL (bs s)).length = s.size := by rw [length_lowL, HL.out]
      have hback := run_convert_bytes_back (P := Tryz.prog) W 108 9 5 ⟨w.heap.size, 0, none⟩ cap (lowL (bs s)) Tryz.underlying108 Tryz.underlying5 Tryz.underlying9 (fun j hj => by
        have hj' : j < s.size := by rw [hlen] at hj; exact hj
        have h1 := (HM.out j hj').1
        have e : mixR (bs s) i j = (lowL (bs s))[j] := by
          have hjl : j < (bs s).length := by rw [HL.out]; exact hj'
          have e2 : (lowL (bs s))[j] = lowB ((bs s)[j]'hjl) := by simp [lowL]
          unfold mixR
          rw [if_pos (by omega), e2]
          simp [List.getD, hjl]
        rw [e] at h1
        by_cases hj0 : j = 0
        · subst hj0; simpa [Addr.add] using h1
        · simpa [Addr.add, hj0] using h1)
      rw [hlen] at hback
      go_wp2_with fail
      go_ret
      exact ⟨rfl, HB.out⟩
end Tk
end Go.Proofs.YthooghgiokgdhaaGreatDoor
namespace Go.Proofs.YthooghgiokgdhaaGreatDoor
open Go.RowKit
namespace Tk

theorem beq_mkR (a b : Bs) : ((mkS a).toList == (mkS b).toList) = decide (a = b) := by
  rw [toList_bs, toList_bs, bs_mkS, bs_mkS]
  by_cases h : a = b <;> simp [h]

set_option maxHeartbeats 1000000 in
theorem rsm_any (a b : ByteArray) (w : World) (ha : a.size ≤ 1099511627776) (hb : b.size ≤ 1099511627776) :
    Calls Tryz.prog 71 #[.string a, .string b] w fun e w' => e = .returned (.bool (decide (lowL (bs a) = lowL (bs b)))) ∧ Below w.heap.size w w' := by
  have HA := Lib.hid (fun W => show Calls Tryz.prog 90 #[.string a] W (fun e w' => e = .returned (.string (mkS (lowL (bs a)))) ∧ Below W.heap.size W w') from refLower_any a W ha)
  have HB := Lib.hid (fun W => show Calls Tryz.prog 90 #[.string b] W (fun e w' => e = .returned (.string (mkS (lowL (bs b)))) ∧ Below W.heap.size W w') from refLower_any b W hb)
  have HE := Lib.hid (beq_mkR (lowL (bs a)) (lowL (bs b)))
  generalize decide (lowL (bs a) = lowL (bs b)) = d at *
  generalize mkS (lowL (bs a)) = x at *
  generalize mkS (lowL (bs b)) = y at *
  go_enter Tryz.func71, Tryz.ntmps71
  go_wp2_with fail
  refine (HA.out _).mono ?_
  rintro e w1 ⟨rfl, hb1⟩
  have HB1 := Lib.hid hb1
  clear hb1
  go_wp2_with fail
  refine (HB.out _).mono ?_
  rintro e w2 ⟨rfl, hb2⟩
  have HB2 := Lib.hid (HB1.out.trans (hb2.mono HB1.out.size))
  clear hb2
  go_wp2_with fail
  go_ret
  exact ⟨by rw [← HE.out]; rfl, HB2.out⟩
end Tk
end Go.Proofs.YthooghgiokgdhaaGreatDoor
