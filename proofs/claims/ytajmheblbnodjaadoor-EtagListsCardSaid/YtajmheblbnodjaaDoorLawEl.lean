/- EtagLists: tags that are written are read in order; a star among them is an error. -/
import Derived.Test.YtajmheblbnodjaaDoorEtD
import Derived.Test.YtajmheblbnodjaaDoorPkT
import Derived.BigQuiet
namespace Go.Proofs.YtajmheblbnodjaaDoor
open Go.RowKit
namespace Tk

theorem noStandT : Tryd.prog.stoodInHeld 36 = false := by kernel_rfl
theorem tag_neq (W : World) (k : Bool) (b : ByteArray) : (binOp .neq 36 (.agg #[.bool k, .string b]) (.agg #[.bool k, .string b])).run Tryd.prog W = .ok (.bool false) W := by
  rw [run_neq_struct, run_equalIn_agg _ _ _ _ _ (by simp [Program.fieldsOf, Tryd.underlying36]) noStandT]
  simp [Program.fieldsOf, Tryd.underlying36, Op.eqFields, go_sem]

set_option maxHeartbeats 2000000 in
set_option maxRecDepth 100000 in
theorem tsame_self (v1 v2 : Value) (l : List Tg) (w : World) (h1 : IsTgs w v1 l) (h2 : IsTgs w v2 l) (hl : l.length ≤ 1099511627) :
    Calls Tryd.prog 24 #[v1, v2] w fun e w' => e = .returned (.bool true) ∧ Below w.heap.size w w' := by
  obtain ⟨a1, c1, rfl, l1, k1⟩ := h1
  obtain ⟨a2, c2, rfl, l2, k2⟩ := h2
  have K1 := Lib.hid k1
  have K2 := Lib.hid k2
  have hb : ((l.length : Int) != (l.length : Int)) = false := by simp
  clear k1 k2
  go_enter Tryd.func24, Tryd.ntmps24
  go_wp2_with fail
  go_loopw [5] (fun v wr => ∃ (j n : Nat), j ≤ l.length ∧ v = .int .i64 j ∧ wr = w.drewN n) (fun v _ => l.length - (RowKit.intOf v).toNat)
  case atStart => exact ⟨0, 0, Nat.zero_le _, rfl, rfl⟩
  case round =>
    obtain ⟨j, n, hj, rfl, rfl⟩ := hrel
    by_cases hlt : j < l.length
    · obtain ⟨b1, o1, rfl, d1, d2⟩ := K1.out j (l.getD j (false, [])) (by simp [List.getD, hlt])
      obtain ⟨b2, o2, rfl, d3, d4⟩ := K2.out j (l.getD j (false, [])) (by simp [List.getD, hlt])
      have hfn := tag_neq
      generalize l.getD j (false, []) = f at *
      have g0 : (0 : Int) ≤ (j : Int) := by omega
      have g1 : (j : Int) < (l.length : Int) := by omega
      go_wp2_with fail
      go_quiet (fail)
      go_wp2_with fail
      exact ⟨⟨j + 1, _, by omega, by go_num, rfl⟩, by simp [RowKit.intOf]; omega⟩
    · go_wp2_with fail
      go_ret
      exact ⟨rfl, ⟨rfl, rfl, rfl, Nat.le_refl _, fun _ _ => rfl⟩⟩

/-- is there a backslash? -/
def bkL (l : Bs) : Bool := l.any fun c => decide (c = 92)
theorem bk_hit (l : Bs) (i : Nat) (hi : i < l.length) (h : l.getD i 0 = 92) : bkL l = true := by
  unfold bkL
  rw [List.any_eq_true]
  refine ⟨l[i], List.getElem_mem hi, ?_⟩
  simp [List.getD, hi] at h
  simp [h]
theorem bk_none (l : Bs) (h : ∀ i, i < l.length → l.getD i 0 ≠ 92) : bkL l = false := by
  unfold bkL
  rw [List.any_eq_false]
  intro x hx
  obtain ⟨i, hi, rfl⟩ := List.getElem_of_mem hx
  have := h i hi
  simp [List.getD, hi] at this
  simp [this]
theorem bk_no (l : Bs) (h : bkL l = false) : ∀ c ∈ l, c ≠ 92 := by
  intro c hc e
  unfold bkL at h
  rw [List.any_eq_false] at h
  exact h c hc (by simp [e])

set_option maxHeartbeats 1000000 in
set_option maxRecDepth 100000 in
theorem backs_any (s : ByteArray) (w : World) (hs : s.size ≤ 140737488355000) :
    Calls Tryd.prog 22 #[.string s] w fun e w' => e = .returned (.bool (bkL (bs s))) ∧ w = w' := by
  have HHit : Hid (∀ i (hi : i < s.size), s[i] = 92 → bkL (bs s) = true) := fun i hi h => bk_hit (bs s) i (by rw [length_bs]; exact hi) ((getD_bs s i hi).trans h)
  have HNo : Hid ((∀ i (hi : i < s.size), s[i] ≠ 92) → bkL (bs s) = false) := fun h => bk_none (bs s) fun i hi => by rw [length_bs] at hi; rw [getD_bs s i hi]; exact h i hi
  generalize bkL (bs s) = q at *
  go_enter Tryd.func22, Tryd.ntmps22
  go_wp2_with fail
  go_loop [3] (fun vi => ∃ i : Nat, i ≤ s.size ∧ vi = .int .i64 i ∧ Hid (∀ k (hk : k < s.size), k < i → s[k] ≠ 92)) (fun vi => s.size - (RowKit.intOf vi).toNat)
  case atStart => exact ⟨0, Nat.zero_le _, rfl, fun k hk h => absurd h (Nat.not_lt_zero _)⟩
  case round =>
    obtain ⟨i, hi, rfl, HA⟩ := hrel
    by_cases hlt : i < s.size
    · cases b1 : ((s[i].toNat : Int) == 92)
      · have hne := u8_not s[i] 92 b1 (by omega)
        have HA2 : Hid (∀ k (hk : k < s.size), k < i + 1 → s[k] ≠ 92) := by
          intro k hk hk2
          by_cases e : k = i
          · subst e; exact hne
          · exact HA.out k hk (by omega)
        clear hne
        go_wp2_with fail
        exact ⟨⟨i + 1, hlt, by go_num, HA2⟩, by simp [RowKit.intOf]; omega⟩
      · have HQ := Lib.hid (HHit.out i hlt (u8_is s[i] 92 (by omega) b1))
        go_wp2_with fail
        go_ret
        exact ⟨by rw [HQ.out]; rfl, rfl⟩
    · have HQ := Lib.hid (HNo.out fun k hk => HA.out k hk (by omega))
      go_wp2_with fail
      go_ret
      exact ⟨by rw [HQ.out]; rfl, rfl⟩

def lsA (l : List Tg) (c i : Nat) : Bs := txP ((l.take i).take c)
def lsB (l : List Tg) (c i : Nat) : Bs := txS ((l.take i).drop c)
theorem ls_lt (l : List Tg) (c i : Nat) (hi : i < l.length) (h : i < c) : lsA l c (i + 1) = lsA l c i ++ (tgT (l.getD i (false, [])) ++ [32, 44, 32]) ∧ lsB l c (i + 1) = lsB l c i := by
  have e : l.take (i + 1) = l.take i ++ [l.getD i (false, [])] := by
    rw [List.take_succ_eq_append_getElem hi]; simp [List.getD, hi]
  have hl : (l.take i).length = i := by rw [List.length_take]; omega
  generalize l.getD i (false, []) = x at *
  unfold lsA lsB
  rw [e]
  generalize l.take i = A at *
  constructor
  · rw [List.take_append, List.take_of_length_le (i := c) (l := A) (by omega), List.take_of_length_le (i := c - A.length) (by simp; omega)]
    simp [txP]
  · rw [List.drop_eq_nil_of_le (show A.length ≤ c by omega), List.drop_eq_nil_of_le (show (A ++ [x]).length ≤ c by simp; omega)]
theorem ls_ge (l : List Tg) (c i : Nat) (hi : i < l.length) (h : ¬ i < c) : lsA l c (i + 1) = lsA l c i ∧ lsB l c (i + 1) = lsB l c i ++ (44 :: tgT (l.getD i (false, []))) := by
  have e : l.take (i + 1) = l.take i ++ [l.getD i (false, [])] := by
    rw [List.take_succ_eq_append_getElem hi]; simp [List.getD, hi]
  have hl : (l.take i).length = i := by rw [List.length_take]; omega
  generalize l.getD i (false, []) = x at *
  unfold lsA lsB
  rw [e]
  generalize l.take i = A at *
  constructor
  · rw [List.take_append, show c - A.length = 0 by omega]; simp
  · rw [List.drop_append, show c - A.length = 0 by omega]
    simp [txS]
theorem ls_end (l : List Tg) (c : Nat) (h : ∀ t ∈ l, plT t) : prtL [lsA l c l.length, lsB l c l.length] = l.map tgT ∧ prtL [lsA l c l.length, [42], lsB l c l.length] = (l.take c).map tgT ++ [[42]] ++ (l.drop c).map tgT := by
  have h1 : ∀ t ∈ l.take c, plT t := fun t ht => h t (List.mem_of_mem_take ht)
  have h2 : ∀ t ∈ l.drop c, plT t := fun t ht => h t (List.mem_of_mem_drop ht)
  unfold lsA lsB
  rw [List.take_length]
  unfold prtL
  simp only [List.flatMap_cons, List.flatMap_nil, List.append_nil]
  rw [split_txP _ h1, split_txS _ h2, split_star, ← List.map_append, List.take_append_drop]
  exact ⟨rfl, by simp⟩
theorem lit3 : (⟨#[32, 44, 32]⟩ : ByteArray) = mkS [32, 44, 32] := rfl
theorem lit44 : (⟨#[44]⟩ : ByteArray) = mkS [44] := rfl

set_option maxHeartbeats 16000000 in
set_option maxRecDepth 100000 in
theorem elists_any (v : Value) (l : List Tg) (cut : Int) (w : World) (hs : IsTgs w v l) (hz : ∀ f ∈ l, f.2.length ≤ 140737488351232) (hln : l.length ≤ 140737488351232) :
    Calls Tryd.prog 5 #[v, .int .i64 cut] w fun e w' => e = .returned (.bool true) ∧ Below w.heap.size w w' := by
  have HLv := Lib.hid (lives11_any w)
  have HS := Lib.hid hs
  have HZ := Lib.hid hz
  obtain ⟨a, cap, rfl⟩ : ∃ a cap, v = .slice a l.length cap := by obtain ⟨a, c, h, -⟩ := hs; exact ⟨a, c, h⟩
  clear hs hz
  by_cases h20 : (20 : Int) < (l.length : Int)
  · go_enter Tryd.func5, Tryd.ntmps5
    go_wp2_with fail
    refine HLv.out.mono ?_
    rintro e w1 ⟨rfl, hb⟩
    have HB := Lib.hid hb
    clear hb
    go_wp2_with fail
    go_ret
    exact ⟨rfl, HB.out⟩
  · by_cases h0 : l = []
    · subst h0
      go_enter Tryd.func5, Tryd.ntmps5
      go_wp2_with fail
      refine HLv.out.mono ?_
      rintro e w1 ⟨rfl, hb⟩
      have HB := Lib.hid hb
      clear hb
      go_wp2_with fail
      go_ret
      exact ⟨rfl, HB.out⟩
    · have hp0 : 0 < l.length := by
        rcases l with _ | ⟨x, l⟩
        · exact absurd rfl h0
        · simp
      have HNE := Lib.hid h0
      have hl20 : l.length ≤ 20 := by omega
      have h0b : ((l.length : Int) == 0) = false := by rw [beq_eq_false_iff_ne]; omega
      have HPk := Lib.hid (fun W : World => pick_any cut (l.length + 1) W (by omega) (by omega))
      unfold PickPost at HPk
      clear h0 hln
      go_enter Tryd.func5, Tryd.ntmps5
      go_wp2_with fail
      refine HLv.out.mono ?_
      rintro e w1 ⟨rfl, hb⟩
      have HB := Lib.hid hb
      clear hb
      go_wp2_with fail
      refine (HPk.out _).mono ?_
      rintro e w2 ⟨c, hc, rfl, rfl⟩
      have HT0 := Lib.hid (fun (j : Nat) (hj : j < l.length) (W : World) => ttext_any (l.getD j (false, [])) W (HZ.out _ (by simp [List.getD, hj])))
      go_wp2_with fail
      go_loopw [5, 6, 7] (fun v5 v6 v7 wr => ∃ i : Nat, i ≤ l.length ∧ v7 = .int .i64 i ∧ v5 = .string (mkS (lsA l c i)) ∧ v6 = .string (mkS (lsB l c i)) ∧ (lsA l c i).length ≤ 103 * i ∧ (lsB l c i).length ≤ 103 * i ∧ Hid (∀ t ∈ l.take i, plT t) ∧ Hid (Below w.heap.size w wr)) (fun _ _ v7 _ => l.length - (RowKit.intOf v7).toNat)
      case atStart => exact ⟨0, Nat.zero_le _, rfl, by simp [lsA, txP, mkS], by simp [lsB, txS, mkS], by simp [lsA, txP], by simp [lsB, txS], fun t ht => by simp at ht, HB⟩
      case round =>
        obtain ⟨i, hi, rfl, rfl, rfl, hA, hBn, HP, HB2⟩ := hrel
        rename World => W
        clear HLv HPk HB
        by_cases hlt : i < l.length
        · obtain ⟨a', c', e', hcap, hc2⟩ := isTgs_below HS.out HB2.out
          injection e' with e1 _ e2
          subst e1 e2
          obtain ⟨b, o, rfl, d0, d1⟩ := hc2 i (l.getD i (false, [])) (by simp [List.getD, hlt])
          have HT1 := Lib.hid (HT0.out i hlt W)
          have hlA := ls_lt l c i hlt
          have hlB := ls_ge l c i hlt
          have htk : l.take (i + 1) = l.take i ++ [l.getD i (false, [])] := by
            rw [List.take_succ_eq_append_getElem hlt]; simp [List.getD, hlt]
          have hvz := HZ.out (l.getD i (false, [])) (by simp [List.getD, hlt])
          have HTK := Lib.hid htk
          have HLA := Lib.hid hlA
          have HLB := Lib.hid hlB
          clear hc2 htk hlA hlB HT0
          generalize l.getD i (false, []) = t at *
          have hopE : tgTE t = if opq t.2 then 0 else 4 := rfl
          have HOE := Lib.hid hopE
          have HPl : Hid (opq t.2 = true → bkL t.2 = false → ∀ x ∈ l.take (i + 1), plT x) := fun ho hbk x hx => by
            rw [HTK.out, List.mem_append, List.mem_singleton] at hx
            rcases hx with hx | rfl
            · exact HP.out x hx
            · exact ⟨ho, bk_no _ hbk⟩
          have HBk := Lib.hid (fun W : World => backs_any (mkS t.2) W (by rw [size_mkS]; omega))
          rw [bs_mkS] at HBk
          clear hopE hvz
          generalize bkL t.2 = bk at *
          generalize opq t.2 = op at *
          generalize tgTE t = te at *
          unfold tgVal at HT1
          have g0 : (0 : Int) ≤ (i : Int) := by omega
          have g1 : (i : Int) < (l.length : Int) := by omega
          generalize tgT t = x at *
          obtain ⟨tk, tv⟩ := t
          simp only at d0 d1 HT1 HBk
          have hxs := size_mkS x
          have hAs := size_mkS (lsA l c i)
          have hBs := size_mkS (lsB l c i)
          cases op
          · have HE : Hid (te = 4) := by show _ = _; rw [HOE.out]; rfl
            rw [HE.out] at HT1
            clear hxs hAs hBs
            go_wp2_with fail
            refine HT1.out.mono ?_
            rintro e w3 ⟨rfl, hb⟩
            have HB3 := Lib.hid (HB2.out.trans (hb.mono HB2.out.size))
            clear hb
            go_wp2_with fail
            go_ret
            exact ⟨rfl, HB3.out⟩
          · have HE : Hid (te = 0) := by show _ = _; rw [HOE.out]; rfl
            rw [HE.out] at HT1
            by_cases h100 : (100 : Int) < ((mkS x).size : Int)
            · clear hxs hAs hBs
              go_wp2_with fail
              refine HT1.out.mono ?_
              rintro e w3 ⟨rfl, hb⟩
              have HB3 := Lib.hid (HB2.out.trans (hb.mono HB2.out.size))
              clear hb
              go_wp2_with fail
              go_ret
              exact ⟨rfl, HB3.out⟩
            · have hx100 : x.length ≤ 100 := by omega
              go_wp2_with fail
              refine HT1.out.mono ?_
              rintro e w3 ⟨rfl, hb⟩
              have d0' : w3.cell? ⟨b, o + i * 2, none⟩ = some (.bool tk) := (hb.cell (p := ⟨b, o + i * 2, none⟩) (cell_lt (p := ⟨b, o + i * 2, none⟩) d0)).trans d0
              have d1' : w3.cell? ⟨b, o + i * 2 + 1, none⟩ = some (.string (mkS tv)) := (hb.cell (p := ⟨b, o + i * 2 + 1, none⟩) (cell_lt (p := ⟨b, o + i * 2 + 1, none⟩) d1)).trans d1
              have HB3 := Lib.hid (HB2.out.trans (hb.mono HB2.out.size))
              clear hb
              go_wp2_with fail
              refine (HBk.out _).mono ?_
              rintro e w4 ⟨rfl, rfl⟩
              cases bk
              · have HP2 := Lib.hid (HPl.out (by simp) (by simp))
                by_cases hic : i < c
                · have hh := HLA.out hic
                  have hz1 : (lsA l c (i + 1)).length ≤ 103 * (i + 1) := by rw [hh.1]; simp; omega
                  have hz2 : (lsB l c (i + 1)).length ≤ 103 * (i + 1) := by rw [hh.2]; omega
                  have HH := Lib.hid hh
                  clear hh
                  generalize lsA l c i = A at *
                  generalize lsB l c i = B at *
                  clear HLA HLB hBs
                  go_wp2_with fail
                  refine ⟨⟨i + 1, hlt, by go_num, congrArg Value.string ?_, congrArg Value.string ?_, hz1, hz2, HP2, HB3⟩, by simp [RowKit.intOf]; omega⟩
                  · rw [HH.out.1, lit3, mkS_append, mkS_append, List.append_assoc]
                  · rw [HH.out.2]
                · have hh := HLB.out hic
                  have hz1 : (lsA l c (i + 1)).length ≤ 103 * (i + 1) := by rw [hh.1]; omega
                  have hz2 : (lsB l c (i + 1)).length ≤ 103 * (i + 1) := by rw [hh.2]; simp; omega
                  have HH := Lib.hid hh
                  clear hh
                  generalize lsA l c i = A at *
                  generalize lsB l c i = B at *
                  clear HLA HLB hAs
                  go_wp2_with fail
                  refine ⟨⟨i + 1, hlt, by go_num, congrArg Value.string ?_, congrArg Value.string ?_, hz1, hz2, HP2, HB3⟩, by simp [RowKit.intOf]; omega⟩
                  · rw [HH.out.1]
                  · rw [HH.out.2, lit44, mkS_append, mkS_append, List.append_assoc]; rfl
              · go_wp2_with fail
                go_ret
                exact ⟨rfl, HB3.out⟩
        · obtain rfl : i = l.length := by omega
          have hall := HP.out
          rw [List.take_length] at hall
          obtain ⟨e1, e2⟩ := ls_end l c hall
          obtain ⟨t1, t2, t3⟩ := tags_back l hall HNE.out
          have hne : l.take c ≠ [] ∨ l.drop c ≠ [] := by
            by_cases h : l.take c = []
            · right; intro h2
              apply HNE.out
              rw [← List.take_append_drop c l, h, h2]; rfl
            · exact .inl h
          obtain ⟨s1, s2⟩ := tags_star (l.take c) (l.drop c) hne
          rw [← e2] at s1 s2
          rw [← e1] at t1 t2 t3
          have HA1 := Lib.hid (fun W : World => ttags_any _ _ _ (isStrs_lit W [lsA l c l.length, lsB l c l.length] _ 9 2 rfl) (by simp [Lib.lens]; omega))
          have HA2 := Lib.hid (fun W : World => ttags_any _ _ _ (isStrs_lit W [lsA l c l.length, [42], lsB l c l.length] _ 9 3 rfl) (by simp [Lib.lens]; omega))
          unfold TagsPost at HA1 HA2
          rw [t1, t2, t3] at HA1
          rw [s1, s2] at HA2
          have HSm := Lib.hid (fun v1 v2 W h1 h2 => tsame_self v1 v2 l W h1 h2 (by omega))
          clear e1 e2 t1 t2 t3 s1 s2 hne hall HT0
          generalize prtL [lsA l c l.length, [42], lsB l c l.length] = P2 at *
          generalize lsA l c l.length = A at *
          generalize lsB l c l.length = B at *
          go_wp2_with fail
          refine (HA1.out _).mono ?_
          rintro e w3 ⟨v3, rfl, ho3, hb3⟩
          have hb2 : Below W.heap.size W (W.alloc (.cells #[.string (mkS A), .string (mkS B)] 9)) := (Below.refl _ _).alloc (Nat.le_refl _) _
          have HB3 := Lib.hid (HB2.out.trans ((hb2.trans (hb3.mono (by simp))).mono HB2.out.size))
          have HO3 := Lib.hid ho3
          clear hb2 hb3 ho3
          go_wp2_with fail
          refine (HA2.out _).mono ?_
          rintro e w4 ⟨v4, rfl, ho4, hb4⟩
          have hb5 : Below w3.heap.size w3 (w3.alloc (.cells #[.string (mkS A), .string (mkS [42]), .string (mkS B)] 9)) := (Below.refl _ _).alloc (Nat.le_refl _) _
          have hb6 := hb5.trans (hb4.mono (by simp))
          have HB4 := Lib.hid (HB3.out.trans (hb6.mono HB3.out.size))
          have HC := Lib.hid (HSm.out _ _ w4 (isTgs_own (own_keepT HO3.out hb6)) (isTgs_below HS.out HB4.out))
          clear hb4 hb5 hb6 ho4
          go_wp2_with fail
          refine HC.out.mono ?_
          rintro e w5 ⟨rfl, hb5⟩
          have HB5 := Lib.hid (HB4.out.trans (hb5.mono HB4.out.size))
          clear hb5
          go_wp2_with fail
          go_ret
          exact ⟨rfl, HB5.out⟩
end Tk
end Go.Proofs.YtajmheblbnodjaaDoor
