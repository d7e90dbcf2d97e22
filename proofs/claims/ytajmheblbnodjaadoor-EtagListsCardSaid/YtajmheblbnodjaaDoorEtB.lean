/- etag.Tags. -/
import Derived.Test.YtajmheblbnodjaaDoorEtA
import Derived.Test.YtajmheblbnodjaaDoorFldV
namespace Go.Proofs.YtajmheblbnodjaaDoor
open Go.RowKit
namespace Tk

theorem isStrs_belowE {w w' : World} {v : Value} {l : List Bs} (h : IsStrs w v l) (hb : Below w.heap.size w w') : IsStrs w' v l := by
  obtain ⟨a, c, rfl, hc⟩ := h
  refine ⟨a, c, rfl, fun j t hj => ?_⟩
  obtain ⟨b, o, rfl, h1⟩ := hc j t hj
  exact ⟨b, o, rfl, (hb.cell (p := ⟨b, o + j, none⟩) (cell_lt (p := ⟨b, o + j, none⟩) h1)).trans h1⟩
theorem own_keepT {w w' : World} {B : Nat} {v : Value} {n : Nat} {xs : List Value} {e : TypeId} {k : Nat} (h : w.ownsRow B e k v n xs) (hb : Below w.heap.size w w') : w'.ownsRow B e k v n xs :=
  World.ownsRow.kept h (row := none) ⟨hb.os, hb.tape, hb.output, hb.size, fun k hk _ => hb.block k hk⟩ (by cases h : v.ownBlock <;> simp)
theorem isTgs_lit (w : World) (t : Tg) : IsTgs (w.alloc (.cells #[.bool t.1, .string (mkS t.2)] 36)) (.slice (some ⟨w.heap.size, 0, none⟩) 1 1) [t] := by
  refine ⟨_, 1, rfl, Nat.le_refl _, fun j f hj => ?_⟩
  cases j with
  | zero =>
    simp at hj; subst hj
    refine ⟨w.heap.size, 0, rfl, ?_, ?_⟩
    · rw [Lib.cell_of_heap (heap_alloc_last w _)]; rfl
    · rw [Lib.cell_of_heap (heap_alloc_last w _)]; rfl
  | succ j => simp at hj
def TagsPost (P : List Bs) (w : World) (e : Ending) (w' : World) : Prop :=
  ∃ v', e = .returned (.tuple #[v', .bool (tagsS P), .int .i64 (tagsE P)]) ∧ w'.ownsRow w.heap.size 36 2 v' (tagsL P).length (tcells (tagsL P)) ∧ Below w.heap.size w w'
theorem tagsRet {v : Value} {a b : Bool} {e n : Int} (h1 : a = b) (h2 : e = n) : Ending.returned (.tuple #[v, .bool b, .int .i64 n]) = .returned (.tuple #[v, .bool a, .int .i64 e]) := by
  subst h1 h2; rfl
theorem tagsF_nil : tagsS [] = false ∧ tagsE [] = 4 ∧ tagsL [] = [] := by decide
theorem tagsF_star : tagsS [[42]] = true ∧ tagsE [[42]] = 0 ∧ tagsL [[42]] = [] := by decide
theorem tagsF_ok (P : List Bs) (h0 : P ≠ []) (h1 : P ≠ [[42]]) (h2 : P.all tgO = true) : tagsS P = false ∧ tagsE P = 0 ∧ tagsL P = P.map tgG := by
  unfold tagsS tagsE tagsL
  rw [if_neg h0, if_neg h1, if_pos h2, if_neg h1, if_pos h2, decide_eq_false h1]; exact ⟨rfl, rfl, rfl⟩
theorem tagsF_bad (P : List Bs) (h0 : P ≠ []) (h1 : P ≠ [[42]]) (h2 : P.all tgO = false) : tagsS P = false ∧ tagsE P = 4 ∧ tagsL P = [] := by
  unfold tagsS tagsE tagsL
  rw [if_neg h0, if_neg h1, if_neg h1, decide_eq_false h1, h2]; simp
theorem all_badT (P : List Bs) (i : Nat) (hi : i < P.length) (h : tgO (P.getD i []) = false) : P.all tgO = false := by
  rw [List.all_eq_false]
  refine ⟨P[i], List.getElem_mem hi, ?_⟩
  simp [List.getD, hi] at h
  simp [h]
theorem all_stepT (P : List Bs) (i : Nat) (hi : i < P.length) (h : (P.take i).all tgO = true) (h2 : tgO (P.getD i []) = true) : (P.take (i + 1)).all tgO = true ∧ (P.take (i + 1)).map tgG = (P.take i).map tgG ++ [tgG (P.getD i [])] := by
  have e : P.take (i + 1) = P.take i ++ [P.getD i []] := by
    rw [List.take_succ_eq_append_getElem hi]; simp [List.getD, hi]
  generalize P.getD i [] = x at *
  rw [e, List.all_append, h, List.map_append]
  exact ⟨by simp [h2], rfl⟩

set_option maxHeartbeats 8000000 in
set_option maxRecDepth 100000 in
theorem ttags_any (v : Value) (L : List Bs) (w : World) (hs : IsStrs w v L) (hsum : Lib.lens L + L.length ≤ 1000000) :
    Calls Tryd.prog 23 #[v] w (TagsPost (prtL L) w) := by
  have HS := Lib.hid hs
  have hprt : prtL L = L.flatMap splitL := rfl
  have HPR := Lib.hid hprt
  have hLl : L.length ≤ 1048576 := by omega
  have hln2 : (L.flatMap splitL).length ≤ 1000000 := Nat.le_trans (flat_len L) hsum
  have hfl : Hid (∀ i, ((L.take i).flatMap splitL).length ≤ 1000000) := fun i => Nat.le_trans (flat_sub L i) hln2
  have hpc : Hid (∀ p ∈ L.flatMap splitL, p.length ≤ 1000000) := fun p hp => Nat.le_trans (flat_piece L p hp) (by omega)
  have hlx : Hid (∀ i, i < L.length → (L.getD i []).length ≤ 1000000) := by
    intro i hi
    have hm : L.getD i [] ∈ L := by simp [List.getD, hi]
    have : ∀ (M : List Bs) (p : Bs), p ∈ M → p.length ≤ Lib.lens M := by
      intro M p
      induction M with
      | nil => intro h; simp at h
      | cons x t ih =>
        intro h
        rcases List.mem_cons.1 h with rfl | h
        · simp [Lib.lens]
        · have := ih h; simp [Lib.lens] at *; omega
    exact Nat.le_trans (this L _ hm) (by omega)
  obtain ⟨a, cap, rfl⟩ : ∃ a cap, v = .slice a L.length cap := by obtain ⟨a, c, h, -⟩ := hs; exact ⟨a, c, h⟩
  clear hs hprt hsum
  obtain ⟨P, hPe⟩ : ∃ P, P = L.flatMap splitL := ⟨_, rfl⟩
  unfold TagsPost
  rw [HPR.out, ← hPe]
  rw [← hPe] at hpc
  have HPe := Lib.hid hPe
  rw [← hPe] at hln2
  clear HPR
  clear hPe
  go_enter Tryd.func23, Tryd.ntmps23
  go_wp2_with fail
  go_loopw [5, 14] (fun v5 vi wr => ∃ i : Nat, i ≤ L.length ∧ vi = .int .i64 i ∧ Hid (wr.ownsRow w.heap.size 9 1 v5 ((L.take i).flatMap splitL).length (strs ((L.take i).flatMap splitL))) ∧ Hid (Below w.heap.size w wr)) (fun _ vi _ => L.length - (RowKit.intOf vi).toNat)
  case atStart => exact ⟨0, Nat.zero_le _, rfl, World.ownsRow_nil _ _ _ _, Below.refl _ _⟩
  case round =>
    obtain ⟨i, hi, rfl, HO, HB⟩ := hrel
    rename World => W
    by_cases hlt : i < L.length
    · obtain ⟨a', c', e', hc⟩ := isStrs_belowE HS.out HB.out
      injection e' with e1 _ e2
      subst e1 e2
      obtain ⟨b, o, rfl, hc⟩ := hc i (L.getD i []) (by simp [List.getD, hlt])
      have hm := hlx.out i hlt
      have htk := take_flat L i hlt
      have HTK := Lib.hid htk
      have hf1 := hfl.out i
      have hsl := split_len (L.getD i [])
      clear htk
      generalize L.getD i [] = x at *
      have hxz := size_mkS x
      have hsp := fun W : World => split_any (mkS x) W (by omega)
      rw [bs_mkS] at hsp
      have HSP := Lib.hid hsp
      have g0 : (0 : Int) ≤ (i : Int) := by omega
      have g1 : (i : Int) < (L.length : Int) := by omega
      clear hsp hxz
      have hk1 : ((L.take i).flatMap splitL).length ≤ 1048576 := by omega
      have hk2 : (splitL x).length ≤ 1048576 := by omega
      generalize (L.take i).flatMap splitL = R at *
      generalize splitL x = S at *
      go_wp2_with fail
      refine (HSP.out _).mono ?_
      rintro e w3 ⟨v3, rfl, ho3, hb3⟩
      have HO3 := Lib.hid (own_keep HO.out hb3)
      have HB3 := Lib.hid (HB.out.trans (hb3.mono HB.out.size))
      have HS3 := Lib.hid ho3
      clear ho3 hb3
      go_wp2_with (at_builtin; refine join_guarded (by rfl) _ _ rfl w.heap.size _ _ _ R S rfl rfl HO3.out HS3.out HB3.out.size hk1 hk2 ?_)
      intro v4 w4 ho4 hb4
      have HB4 := Lib.hid (HB3.out.trans hb4)
      have HO4 : Hid (w4.ownsRow w.heap.size 9 1 v4 ((L.take (i + 1)).flatMap splitL).length (strs ((L.take (i + 1)).flatMap splitL))) := by
        show World.ownsRow _ _ _ _ _ _ _
        rw [HTK.out, List.length_append]; exact ho4
      clear ho4 hb4
      go_wp2_with fail
      exact ⟨⟨i + 1, hlt, by go_num, HO4, HB4⟩, by simp [RowKit.intOf]; omega⟩
    · have hil : L.take i = L := List.take_of_length_le (by omega)
      rw [hil, ← HPe.out] at HO
      clear hfl hlx HS HPe
      have hst := isStrs_own HO.out
      obtain ⟨a5, c5, rfl⟩ : ∃ a c, u5 = .slice a P.length c := by obtain ⟨a, c, h, -⟩ := hst; exact ⟨a, c, h⟩
      have HST := Lib.hid hst
      by_cases hP0 : P = []
      · subst hP0
        clear hst hpc HST
        go_wp2_with fail
        go_ret3
        exact ⟨_, tagsRet tagsF_nil.1 tagsF_nil.2.1, World.ownsRow_nil _ _ _ _, HB.out⟩
      · have hlen0 : ((P.length : Int) == 0) = false := by
          rw [beq_eq_false_iff_ne]; intro h; exact hP0 (List.eq_nil_of_length_eq_zero (by omega))
        by_cases hP1 : P = [[42]]
        · subst hP1
          obtain ⟨a', c', e', hc⟩ := hst
          injection e' with e1 _ e2
          subst e1 e2
          obtain ⟨b, o, rfl, hc2⟩ := hc 0 [42] rfl
          have hc3 : W.cell? ⟨b, o, none⟩ = some (.string ⟨#[42]⟩) := hc2
          clear hpc HST hc hc2
          go_wp2_with fail
          go_ret3
          exact ⟨_, tagsRet tagsF_star.1 tagsF_star.2.1, World.ownsRow_nil _ _ _ _, HB.out⟩
        · have HOk := Lib.hid (tagsF_ok P hP0 hP1)
          have HBad := Lib.hid (tagsF_bad P hP0 hP1)
          have HAB := Lib.hid (all_badT P)
          have HAS := Lib.hid (all_stepT P)
          have HLt := Lib.hid (fun k e => (HO.out.lt k e).2)
          have hln3 : P.length ≤ 1000000 := hln2
          have step : ∀ i, i < P.length → (P.getD i []).length ≤ 1000000 := fun i hi => hpc.out _ (by simp [List.getD, hi])
          have HStep := Lib.hid step
          clear step hpc hP0
          by_cases hone : P.length = 1
          · have hone2 : ((P.length : Int) == 1) = true := by rw [hone]; rfl
            have h0lt : (0 : Int) < (P.length : Int) := by omega
            obtain ⟨a', c', e', hc⟩ := hst
            injection e' with e1 _ e2
            subst e1 e2
            obtain ⟨b, o, e3, hc2⟩ := hc 0 (P.getD 0 []) (by simp [List.getD, hone])
            subst e3
            have hy : P.getD 0 [] ≠ [42] := by
              intro e
              refine hP1 ?_
              match P, hone, e with
              | [x], _, e => simp at e; rw [e]
            generalize P.getD 0 [] = y at *
            have hc3 : W.cell? ⟨b, o, none⟩ = some (.string (mkS y)) := hc2
            have hy2 : ((mkS y).toList == [42]) = false := by rw [beq_eq_false_iff_ne, toList_bs, bs_mkS]; exact hy
            clear hc hc2 hone hP1 hy
            go_wp2_with fail
            go_loopw [2, 39] (fun v2 vi wr => ∃ i : Nat, i ≤ P.length ∧ vi = .int .i64 i ∧ Hid (wr.ownsRow W.heap.size 36 2 v2 ((P.take i).map tgG).length (tcells ((P.take i).map tgG))) ∧ Hid ((P.take i).all tgO = true) ∧ Hid (Below W.heap.size W wr)) (fun _ vi _ => P.length - (RowKit.intOf vi).toNat)
            case atStart => exact ⟨0, Nat.zero_le _, rfl, World.ownsRow_nil _ _ _ _, rfl, Below.refl _ _⟩
            case round =>
              obtain ⟨j, hj, rfl, HO2, HA, HB2⟩ := hrel
              rename_i W2 _
              clear HO
              by_cases hlt2 : j < P.length
              · obtain ⟨a', c', e', hc⟩ := isStrs_belowE HST.out HB2.out
                injection e' with e1 _ e2
                subst e1 e2
                obtain ⟨b2, o2, e3, hc4⟩ := hc j (P.getD j []) (by simp [List.getD, hlt2])
                injection e3 with e3; injection e3 with e4 e5; subst e4 e5
                have hm := HStep.out j hlt2
                have hab := HAB.out j hlt2
                have has := HAS.out j hlt2 HA.out
                clear hc
                have hlen1 : ((P.take j).map tgG).length ≤ 1048576 := by rw [List.length_map, List.length_take]; omega
                generalize P.getD j [] = x at *
                have hxz := size_mkS x
                have hC := fun W : World => tparse_any (mkS x) W (by omega)
                rw [bs_mkS] at hC
                unfold TgPost at hC
                have HC := Lib.hid hC
                have HTN := Lib.hid (fun h => tg_no x h)
                have hE0 : tgO x = true → tgE x = 0 := fun h => by unfold tgE; rw [if_pos h]
                have HE0 := Lib.hid hE0
                have g0 : (0 : Int) ≤ (j : Int) := by omega
                have g1 : (j : Int) < (P.length : Int) := by omega
                have HAB2 := Lib.hid hab
                have HAS2 := Lib.hid has
                clear hC hxz hm hab has hE0
                generalize (P.take j).map tgG = R at *
                cases hk : tgO x
                · have HBd := Lib.hid (HBad.out (HAB2.out hk))
                  rw [(HTN.out hk).1, (HTN.out hk).2] at HC
                  unfold tgVal at HC
                  clear hk
                  go_wp2_with fail
                  refine (HC.out _).mono ?_
                  rintro e w3 ⟨rfl, hb3⟩
                  have HB3 := Lib.hid (HB.out.trans ((HB2.out.trans (hb3.mono HB2.out.size)).mono HB.out.size))
                  have hs3 : w.heap.size ≤ w3.heap.size := HB3.out.size
                  clear hb3
                  go_wp2_with fail
                  go_ret3
                  refine ⟨_, tagsRet HBd.out.1 HBd.out.2.1, ?_, HB3.out.alloc hs3 _⟩
                  rw [HBd.out.2.2]
                  exact World.ownsRow_nil _ _ _ _
                · have HBd := Lib.hid (HAS2.out hk)
                  rw [HE0.out hk] at HC
                  clear hk
                  generalize tgG x = t at *
                  obtain ⟨tk, tv⟩ := t
                  unfold tgVal at HC
                  go_wp2_with fail
                  refine (HC.out _).mono ?_
                  rintro e w3 ⟨rfl, hb3⟩
                  have HBz := Lib.hid (HB2.out.trans (hb3.mono HB2.out.size))
                  have HO3 := Lib.hid (own_keepT HO2.out hb3)
                  have hs3 : W.heap.size ≤ w3.heap.size := HBz.out.size
                  clear hb3
                  have hb4 : Below w3.heap.size w3 (w3.alloc (.cells #[.bool tk, .string (mkS tv)] 36)) := (Below.refl _ _).alloc (Nat.le_refl _) _
                  have hb5 : Below (w3.alloc (.cells #[.bool tk, .string (mkS tv)] 36)).heap.size (w3.alloc (.cells #[.bool tk, .string (mkS tv)] 36)) ((w3.alloc (.cells #[.bool tk, .string (mkS tv)] 36)).alloc (.cells #[.bool tk, .string (mkS tv)] 36)) := (Below.refl _ _).alloc (Nat.le_refl _) _
                  have HO5 := Lib.hid (own_keepT (own_keepT HO3.out hb4) hb5)
                  have HT5 := Lib.hid (isTgs_lit (w3.alloc (.cells #[.bool tk, .string (mkS tv)] 36)) (tk, tv))
                  have hz4 : (w3.alloc (.cells #[.bool tk, .string (mkS tv)] 36)).heap.size = w3.heap.size + 1 := by simp
                  rw [hz4] at HT5
                  have hs5 : W.heap.size ≤ ((w3.alloc (.cells #[.bool tk, .string (mkS tv)] 36)).alloc (.cells #[.bool tk, .string (mkS tv)] 36)).heap.size := by simp; omega
                  have HBw := Lib.hid (HBz.out.trans ((hb4.trans (hb5.mono (by simp))).mono hs3))
                  clear hb4 hb5 hz4
                  go_wp2_with (at_builtin; refine joinT_guarded (by rfl) _ _ rfl W.heap.size _ _ R [(tk, tv)] rfl rfl HO5.out HT5.out (fun _ _ h => by injection h with h1; cases h1) hs5 hlen1 (by simp) ?_)
                  intro v8 w8 ho8 hg8
                  have HB8 := Lib.hid (HBw.out.trans (below_of_grownT hg8 HO5.out hs5))
                  have HO8 : Hid (w8.ownsRow W.heap.size 36 2 v8 ((P.take (j + 1)).map tgG).length (tcells ((P.take (j + 1)).map tgG))) := by
                    show World.ownsRow _ _ _ _ _ _ _
                    rw [HBd.out.2, List.length_append]; exact ho8
                  clear ho8 hg8
                  go_wp2_with fail
                  exact ⟨⟨j + 1, hlt2, by go_num, HO8, HBd.out.1, HB8⟩, by simp [RowKit.intOf]; omega⟩
              · obtain rfl : j = P.length := by omega
                have hall := HA.out
                rw [List.take_length] at hall HO2
                have HG := Lib.hid (HOk.out hall)
                have HBz := Lib.hid (HB.out.trans (HB2.out.mono HB.out.size))
                have HOz := Lib.hid (World.ownsRow.mono HO2.out HB.out.size)
                clear hall
                go_wp2_with fail
                go_ret3
                refine ⟨_, tagsRet HG.out.1 HG.out.2.1, ?_, HBz.out⟩
                rw [HG.out.2.2]
                exact HOz.out
          · have hone2 : ((P.length : Int) == 1) = false := by rw [beq_eq_false_iff_ne]; omega
            clear hone hP1 hst
            go_wp2_with fail
            go_loopw [2, 39] (fun v2 vi wr => ∃ i : Nat, i ≤ P.length ∧ vi = .int .i64 i ∧ Hid (wr.ownsRow W.heap.size 36 2 v2 ((P.take i).map tgG).length (tcells ((P.take i).map tgG))) ∧ Hid ((P.take i).all tgO = true) ∧ Hid (Below W.heap.size W wr)) (fun _ vi _ => P.length - (RowKit.intOf vi).toNat)
            case atStart => exact ⟨0, Nat.zero_le _, rfl, World.ownsRow_nil _ _ _ _, rfl, Below.refl _ _⟩
            case round =>
              obtain ⟨j, hj, rfl, HO2, HA, HB2⟩ := hrel
              rename_i W2 _
              clear HO
              by_cases hlt2 : j < P.length
              · obtain ⟨a', c', e', hc⟩ := isStrs_belowE HST.out HB2.out
                injection e' with e1 _ e2
                subst e1 e2
                obtain ⟨b2, o2, e3, hc4⟩ := hc j (P.getD j []) (by simp [List.getD, hlt2])
                subst e3
                have hm := HStep.out j hlt2
                have hab := HAB.out j hlt2
                have has := HAS.out j hlt2 HA.out
                clear hc
                have hlen1 : ((P.take j).map tgG).length ≤ 1048576 := by rw [List.length_map, List.length_take]; omega
                generalize P.getD j [] = x at *
                have hxz := size_mkS x
                have hC := fun W : World => tparse_any (mkS x) W (by omega)
                rw [bs_mkS] at hC
                unfold TgPost at hC
                have HC := Lib.hid hC
                have HTN := Lib.hid (fun h => tg_no x h)
                have hE0 : tgO x = true → tgE x = 0 := fun h => by unfold tgE; rw [if_pos h]
                have HE0 := Lib.hid hE0
                have g0 : (0 : Int) ≤ (j : Int) := by omega
                have g1 : (j : Int) < (P.length : Int) := by omega
                have HAB2 := Lib.hid hab
                have HAS2 := Lib.hid has
                clear hC hxz hm hab has hE0
                generalize (P.take j).map tgG = R at *
                cases hk : tgO x
                · have HBd := Lib.hid (HBad.out (HAB2.out hk))
                  rw [(HTN.out hk).1, (HTN.out hk).2] at HC
                  unfold tgVal at HC
                  clear hk
                  go_wp2_with fail
                  refine (HC.out _).mono ?_
                  rintro e w3 ⟨rfl, hb3⟩
                  have HB3 := Lib.hid (HB.out.trans ((HB2.out.trans (hb3.mono HB2.out.size)).mono HB.out.size))
                  have hs3 : w.heap.size ≤ w3.heap.size := HB3.out.size
                  clear hb3
                  go_wp2_with fail
                  go_ret3
                  refine ⟨_, tagsRet HBd.out.1 HBd.out.2.1, ?_, HB3.out.alloc hs3 _⟩
                  rw [HBd.out.2.2]
                  exact World.ownsRow_nil _ _ _ _
                · have HBd := Lib.hid (HAS2.out hk)
                  rw [HE0.out hk] at HC
                  clear hk
                  generalize tgG x = t at *
                  obtain ⟨tk, tv⟩ := t
                  unfold tgVal at HC
                  go_wp2_with fail
                  refine (HC.out _).mono ?_
                  rintro e w3 ⟨rfl, hb3⟩
                  have HBz := Lib.hid (HB2.out.trans (hb3.mono HB2.out.size))
                  have HO3 := Lib.hid (own_keepT HO2.out hb3)
                  have hs3 : W.heap.size ≤ w3.heap.size := HBz.out.size
                  clear hb3
                  have hb4 : Below w3.heap.size w3 (w3.alloc (.cells #[.bool tk, .string (mkS tv)] 36)) := (Below.refl _ _).alloc (Nat.le_refl _) _
                  have hb5 : Below (w3.alloc (.cells #[.bool tk, .string (mkS tv)] 36)).heap.size (w3.alloc (.cells #[.bool tk, .string (mkS tv)] 36)) ((w3.alloc (.cells #[.bool tk, .string (mkS tv)] 36)).alloc (.cells #[.bool tk, .string (mkS tv)] 36)) := (Below.refl _ _).alloc (Nat.le_refl _) _
                  have HO5 := Lib.hid (own_keepT (own_keepT HO3.out hb4) hb5)
                  have HT5 := Lib.hid (isTgs_lit (w3.alloc (.cells #[.bool tk, .string (mkS tv)] 36)) (tk, tv))
                  have hz4 : (w3.alloc (.cells #[.bool tk, .string (mkS tv)] 36)).heap.size = w3.heap.size + 1 := by simp
                  rw [hz4] at HT5
                  have hs5 : W.heap.size ≤ ((w3.alloc (.cells #[.bool tk, .string (mkS tv)] 36)).alloc (.cells #[.bool tk, .string (mkS tv)] 36)).heap.size := by simp; omega
                  have HBw := Lib.hid (HBz.out.trans ((hb4.trans (hb5.mono (by simp))).mono hs3))
                  clear hb4 hb5 hz4
                  go_wp2_with (at_builtin; refine joinT_guarded (by rfl) _ _ rfl W.heap.size _ _ R [(tk, tv)] rfl rfl HO5.out HT5.out (fun _ _ h => by injection h with h1; cases h1) hs5 hlen1 (by simp) ?_)
                  intro v8 w8 ho8 hg8
                  have HB8 := Lib.hid (HBw.out.trans (below_of_grownT hg8 HO5.out hs5))
                  have HO8 : Hid (w8.ownsRow W.heap.size 36 2 v8 ((P.take (j + 1)).map tgG).length (tcells ((P.take (j + 1)).map tgG))) := by
                    show World.ownsRow _ _ _ _ _ _ _
                    rw [HBd.out.2, List.length_append]; exact ho8
                  clear ho8 hg8
                  go_wp2_with fail
                  exact ⟨⟨j + 1, hlt2, by go_num, HO8, HBd.out.1, HB8⟩, by simp [RowKit.intOf]; omega⟩
              · obtain rfl : j = P.length := by omega
                have hall := HA.out
                rw [List.take_length] at hall HO2
                have HG := Lib.hid (HOk.out hall)
                have HBz := Lib.hid (HB.out.trans (HB2.out.mono HB.out.size))
                have HOz := Lib.hid (World.ownsRow.mono HO2.out HB.out.size)
                clear hall
                go_wp2_with fail
                go_ret3
                refine ⟨_, tagsRet HG.out.1 HG.out.2.1, ?_, HBz.out⟩
                rw [HG.out.2.2]
                exact HOz.out
end Tk
end Go.Proofs.YtajmheblbnodjaaDoor
