/- The document's own Length, Coded and Bare. -/
import Derived.Test.YtapnlopeipdjmaaDoorFrmD
import Derived.Test.YtapnlopeipdjmaaDoorRefK
import Derived.Test.YtapnlopeipdjmaaDoorRefU
namespace Go.Proofs.YtapnlopeipdjmaaDoor
open Go.RowKit
namespace Tk

set_option maxHeartbeats 4000000 in
theorem rbare_any (m : ByteArray) (s : Int) (w : World) :
    Calls Tryd.prog 23 #[.string m, .int .i64 s] w fun e w' => e = .returned (.bool (bareB (bs m) s)) ∧ w = w' := by
  by_cases hH : bs m = [72, 69, 65, 68]
  · have x1 : (m.toList == [72, 69, 65, 68]) = true := by rw [toList_bs, hH]; rfl
    have HF : Hid (bareB (bs m) s = true) := by show bareB _ _ = true; unfold bareB; simp [hH]
    clear hH
    go_enter Tryd.func23, Tryd.ntmps23
    go_wp2_with fail
    go_ret
    exact ⟨by rw [HF.out]; rfl, rfl⟩
  · have x1 : (m.toList == [72, 69, 65, 68]) = false := by rw [toList_bs]; exact beq_eq_false_iff_ne.2 hH
    have hB : bareB (bs m) s = ((decide (100 ≤ s) && decide (s ≤ 199)) || decide (s = 204) || decide (s = 304) || (decide (bs m = [67, 79, 78, 78, 69, 67, 84]) && decide (200 ≤ s) && decide (s ≤ 299))) := by unfold bareB; simp [hH]
    have hC : bs m = [67, 79, 78, 78, 69, 67, 84] ∧ (m.toList == [67, 79, 78, 78, 69, 67, 84]) = true ∨ bs m ≠ [67, 79, 78, 78, 69, 67, 84] ∧ (m.toList == [67, 79, 78, 78, 69, 67, 84]) = false := by
      by_cases hc : bs m = [67, 79, 78, 78, 69, 67, 84]
      · exact .inl ⟨hc, by rw [toList_bs, hc]; rfl⟩
      · exact .inr ⟨hc, by rw [toList_bs]; exact beq_eq_false_iff_ne.2 hc⟩
    clear hH
    have e204 : s = 204 ∧ (s == 204) = true ∨ s ≠ 204 ∧ (s == 204) = false := by
      by_cases h : s = 204
      · exact .inl ⟨h, by rw [h]; rfl⟩
      · exact .inr ⟨h, beq_eq_false_iff_ne.2 h⟩
    have e304 : s = 304 ∧ (s == 304) = true ∨ s ≠ 304 ∧ (s == 304) = false := by
      by_cases h : s = 304
      · exact .inl ⟨h, by rw [h]; rfl⟩
      · exact .inr ⟨h, beq_eq_false_iff_ne.2 h⟩
    rcases e204 with ⟨h2, b2⟩ | ⟨h2, b2⟩ <;> rcases e304 with ⟨h3, b3⟩ | ⟨h3, b3⟩ <;> rcases hC with ⟨hc, bc⟩ | ⟨hc, bc⟩ <;> by_cases k0 : 100 ≤ s <;> by_cases k1 : s ≤ 199 <;> by_cases k2 : 200 ≤ s <;> by_cases k3 : s ≤ 299
    all_goals
      first
      | omega
      | (have HF := Lib.hid hB
         have H2 := Lib.hid h2
         have H3 := Lib.hid h3
         have HC := Lib.hid hc
         clear hB h2 h3 hc
         go_enter Tryd.func23, Tryd.ntmps23
         go_wp2_with fail
         go_ret
         have h2 := H2.out
         have h3 := H3.out
         have hc := HC.out
         exact ⟨retB3 (by rw [HF.out]; simp [h2, h3, hc] <;> omega), rfl⟩)

theorem has_beq (l : List (Bs × Bs)) (name : Bs) (n : Nat) (hn : (allF l name).length = n) : (hasF l name = true ∧ ((n : Int) == 0) = false) ∨ (hasF l name = false ∧ ((n : Int) == 0) = true) := by
  unfold hasF
  rw [hn]
  by_cases h : 0 < n
  · exact .inl ⟨decide_eq_true h, by rw [beq_eq_false_iff_ne]; omega⟩
  · exact .inr ⟨decide_eq_false h, by rw [beq_iff_eq]; omega⟩

set_option maxHeartbeats 8000000 in
set_option maxRecDepth 100000 in
theorem rlength_any (v : Value) (l : List (Bs × Bs)) (w : World) (hs : IsFlds w v l) (hz : sumF l ≤ 1000000) (hl : l.length ≤ 1048576) :
    Calls Tryd.prog 20 #[v] w (LenPost l w) := by
  have HAll : Hid (∀ W, Below w.heap.size w W → Calls Tryd.prog 24 #[v, .string ⟨#[67, 111, 110, 116, 101, 110, 116, 45, 76, 101, 110, 103, 116, 104]⟩] W (ListPost W.heap.size (allF l nmCL) W)) := fun W hb => rall_any v l nmCL W (isFlds_below hs hb) (sum_each l (by omega)) (by decide) hl
  have HLs : Hid (∀ W, Below w.heap.size w W → Calls Tryd.prog 48 #[v, .string ⟨#[67, 111, 110, 116, 101, 110, 116, 45, 76, 101, 110, 103, 116, 104]⟩] W (ListPost W.heap.size (listF l nmCL) W)) := fun W hb => rlist_any v l nmCL W (isFlds_below hs hb) hz (by decide) hl
  unfold ListPost at HLs HAll
  have HBad := Lib.hid (len_bad l)
  have HGood := Lib.hid (len_good l)
  have HEmp := Lib.hid (len_empty l)
  have HNone := Lib.hid (lenS_none l)
  have HPc := Lib.hid (fun p hp => Nat.le_trans (listF_piece nmCL l p hp) hz)
  have hln := listF_len nmCL l
  have hlp : (listF l nmCL).length ≤ 1000000 := by omega
  have HRet := Lib.hid (len_ret l)
  have hhb := has_beq l nmCL _ rfl
  unfold LenPost
  obtain ⟨a, cap, rfl⟩ : ∃ a cap, v = .slice a l.length cap := by obtain ⟨a, c, h, -⟩ := hs; exact ⟨a, c, h⟩
  clear hs hz hln
  generalize allF l nmCL = Q at *
  generalize listF l nmCL = P at *
  rcases hhb with ⟨hh, hb0⟩ | ⟨hh, hb0⟩
  · by_cases hP0 : P.length = 0
    · obtain ⟨b1, b2⟩ := HEmp.out (List.eq_nil_of_length_eq_zero hP0) hh
      have HR := Lib.hid (HRet.out 0 true 400 b1 hh b2)
      have hp0 : ((P.length : Int) == 0) = true := by rw [hP0]; rfl
      clear b1 b2 hP0 hh
      go_enter Tryd.func20, Tryd.ntmps20
      go_wp2_with fail
      refine (HAll.out _ (Below.refl _ _)).mono ?_
      rintro e w1 ⟨v1, rfl, ho, hb⟩
      have HB1 := Lib.hid hb
      obtain ⟨a0, c0, rfl⟩ : ∃ a c, v1 = .slice a Q.length c := by obtain ⟨a, c, h, -⟩ := isStrs_own ho; exact ⟨a, c, h⟩
      clear ho hb
      go_wp2_with fail
      refine (HLs.out _ HB1.out).mono ?_
      rintro e w2 ⟨v2, rfl, ho, hb⟩
      have HB2 := Lib.hid (HB1.out.trans (hb.mono HB1.out.size))
      obtain ⟨a1, c1, rfl⟩ : ∃ a c, v2 = .slice a P.length c := by obtain ⟨a, c, h, -⟩ := isStrs_own ho; exact ⟨a, c, h⟩
      clear ho hb
      go_wp2_with fail
      try simp only [Exit.inBlock, Exit.then]
      refine bodyPost_ret (results_tmp3' rfl _ _ _) rfl ?_
      exact ⟨HR.out, HB2.out⟩
    · have hp0 : ((P.length : Int) == 0) = false := by rw [beq_eq_false_iff_ne]; omega
      have hPne : P ≠ [] := fun e => hP0 (by rw [e]; rfl)
      have HPne := Lib.hid hPne
      have HHh := Lib.hid hh
      clear hP0 hPne hh
      go_enter Tryd.func20, Tryd.ntmps20
      go_wp2_with fail
      refine (HAll.out _ (Below.refl _ _)).mono ?_
      rintro e w1 ⟨v1, rfl, ho, hb⟩
      have HB1 := Lib.hid hb
      obtain ⟨a0, c0, rfl⟩ : ∃ a c, v1 = .slice a Q.length c := by obtain ⟨a, c, h, -⟩ := isStrs_own ho; exact ⟨a, c, h⟩
      clear ho hb
      go_wp2_with fail
      refine (HLs.out _ HB1.out).mono ?_
      rintro e w2 ⟨v2, rfl, ho, hb⟩
      have HB2 := Lib.hid (HB1.out.trans (hb.mono HB1.out.size))
      have HS := Lib.hid (isStrs_own ho)
      obtain ⟨a1, c1, rfl⟩ : ∃ a c, v2 = .slice a P.length c := by obtain ⟨a, c, h, -⟩ := isStrs_own ho; exact ⟨a, c, h⟩
      clear ho hb
      go_wp2_with fail
      go_loop [6, 7] (fun vf vi => ∃ i f : Nat, i ≤ P.length ∧ vi = .int .i64 i ∧ vf = .int .i64 f ∧ Hid (0 < i → f = firstN P) ∧ Hid (∀ p ∈ P.take i, isNum (firstN P) p = true)) (fun _ vi => P.length - (RowKit.intOf vi).toNat)
      case atStart => exact ⟨0, 0, Nat.zero_le _, rfl, rfl, fun h => absurd h (by decide), fun p hp => by simp at hp⟩
      case round =>
        obtain ⟨i, f, hi, rfl, rfl, hf, HA⟩ := hrel
        by_cases hlt : i < P.length
        · obtain ⟨a', c', e', hc⟩ := HS.out
          injection e' with e1 _ e2
          subst e1 e2
          obtain ⟨bx, o, rfl, hc⟩ := hc i (P.getD i []) (by simp [List.getD, hlt])
          have hmem : P.getD i [] ∈ P := by simp [List.getD, hlt]
          have hm := HPc.out (P.getD i []) hmem
          have htk : P.take (i + 1) = P.take i ++ [P.getD i []] := by rw [List.take_succ_eq_append_getElem hlt]; simp [List.getD, hlt]
          have hfirst : i = 0 → firstN P = (numL (P.getD i [])).1 := by
            intro e; subst e
            unfold firstN
            cases P with
            | nil => simp at hlt
            | cons p t => rfl
          have HBd := Lib.hid (HBad.out (P.getD i []) hmem)
          have HTK := Lib.hid htk
          have hxl := numL_le (P.getD i [])
          clear htk hmem
          generalize P.getD i [] = x at *
          have hxz := size_mkS x
          have hnum := fun W : World => rnumber_any (mkS x) W (by omega)
          unfold RNum at hnum
          rw [bs_mkS] at hnum
          have HNum := Lib.hid hnum
          have hisn : isNum (firstN P) x = (decide ((numL x).2 = 0) && decide ((numL x).1 = firstN P)) := rfl
          have g0 : (0 : Int) ≤ (i : Int) := by omega
          have g1 : (i : Int) < (P.length : Int) := by omega
          clear hnum hxz
          generalize numL x = q at *
          obtain ⟨n, k⟩ := q
          simp only at hxl HNum hisn hfirst
          by_cases hk : k = 0
          · have ek : ((k : Int) != 0) = false := by rw [hk]; rfl
            by_cases hi0 : i = 0
            · have hF : firstN P = n := hfirst hi0
              have hyes : isNum (firstN P) x = true := by rw [hisn, hF, hk]; simp
              have HA2 : Hid (∀ p ∈ P.take (i + 1), isNum (firstN P) p = true) := by
                intro p hp
                rw [HTK.out, List.mem_append, List.mem_singleton] at hp
                rcases hp with hp | rfl
                · exact HA.out p hp
                · exact hyes
              have HF : Hid (0 < i + 1 → n = firstN P) := fun _ => hF.symm
              have ei : ¬ (0 : Int) < (i : Int) := by omega
              clear hk hyes hF hfirst hisn hi0
              go_wp2_with fail
              refine (HNum.out _).mono ?_
              rintro e w' ⟨rfl, rfl⟩
              go_wp2_with fail
              exact ⟨⟨i + 1, n, hlt, by go_num, rfl, HF, HA2⟩, by simp [RowKit.intOf]; omega⟩
            · have hff : f = firstN P := hf.out (by omega)
              have ei : (0 : Int) < (i : Int) := by omega
              by_cases hn : n = firstN P
              · have hyes : isNum (firstN P) x = true := by rw [hisn, hn, hk]; simp
                have HA2 : Hid (∀ p ∈ P.take (i + 1), isNum (firstN P) p = true) := by
                  intro p hp
                  rw [HTK.out, List.mem_append, List.mem_singleton] at hp
                  rcases hp with hp | rfl
                  · exact HA.out p hp
                  · exact hyes
                have en : ((n : Int) != (f : Int)) = false := by rw [hff, hn]; simp
                have HF : Hid (0 < i + 1 → n = firstN P) := fun _ => hn
                clear hk hyes hn hff hfirst hisn hi0
                go_wp2_with fail
                refine (HNum.out _).mono ?_
                rintro e w' ⟨rfl, rfl⟩
                go_wp2_with fail
                exact ⟨⟨i + 1, n, hlt, by go_num, rfl, HF, HA2⟩, by simp [RowKit.intOf]; omega⟩
              · have hno : isNum (firstN P) x = false := by rw [hisn]; simp [hn]
                obtain ⟨b1, b2, b3⟩ := HBd.out hno
                have HR := Lib.hid (HRet.out 0 true 400 b1 b2 b3)
                have en : ((n : Int) != (f : Int)) = true := by rw [hff, bne_iff_ne]; omega
                clear hk hn hno b1 b2 b3 hff hfirst hisn hi0
                go_wp2_with fail
                refine (HNum.out _).mono ?_
                rintro e w' ⟨rfl, rfl⟩
                go_wp2_with fail
                try simp only [Exit.inBlock, Exit.then]
                refine bodyPost_ret (results_tmp3' rfl _ _ _) rfl ?_
                exact ⟨HR.out, HB2.out⟩
          · have ek : ((k : Int) != 0) = true := by rw [bne_iff_ne]; omega
            have hno : isNum (firstN P) x = false := by rw [hisn]; simp [hk]
            obtain ⟨b1, b2, b3⟩ := HBd.out hno
            have HR := Lib.hid (HRet.out 0 true 400 b1 b2 b3)
            clear hk hno b1 b2 b3 hfirst hisn
            go_wp2_with fail
            refine (HNum.out _).mono ?_
            rintro e w' ⟨rfl, rfl⟩
            go_wp2_with fail
            try simp only [Exit.inBlock, Exit.then]
            refine bodyPost_ret (results_tmp3' rfl _ _ _) rfl ?_
            exact ⟨HR.out, HB2.out⟩
        · have hil : P.take i = P := List.take_of_length_le (by omega)
          rw [hil] at HA
          obtain ⟨b1, b2, b3⟩ := HGood.out HPne.out HA.out
          have hip : 0 < i := by
            refine Nat.pos_of_ne_zero fun e => HPne.out ?_
            exact List.eq_nil_of_length_eq_zero (by omega)
          have hff := hf.out hip
          have HR := Lib.hid (HRet.out f true 0 (b1.trans hff.symm) b2 b3)
          clear hil b1 b2 b3 hff
          go_wp2_with fail
          try simp only [Exit.inBlock, Exit.then]
          refine bodyPost_ret (results_tmp3' rfl _ _ _) rfl ?_
          exact ⟨HR.out, HB2.out⟩
  · obtain ⟨b1, b2⟩ := HNone.out hh
    have HR := Lib.hid (HRet.out 0 false 0 b2 hh b1)
    clear b1 b2 hh
    go_enter Tryd.func20, Tryd.ntmps20
    go_wp2_with fail
    refine (HAll.out _ (Below.refl _ _)).mono ?_
    rintro e w1 ⟨v1, rfl, ho, hb⟩
    have HB1 := Lib.hid hb
    obtain ⟨a0, c0, rfl⟩ : ∃ a c, v1 = .slice a Q.length c := by obtain ⟨a, c, h, -⟩ := isStrs_own ho; exact ⟨a, c, h⟩
    clear ho hb
    go_wp2_with fail
    try simp only [Exit.inBlock, Exit.then]
    refine bodyPost_ret (results_tmp3' rfl _ _ _) rfl ?_
    exact ⟨HR.out, HB1.out⟩

set_option maxHeartbeats 4000000 in
set_option maxRecDepth 100000 in
theorem rcoded_any (v : Value) (l : List (Bs × Bs)) (w : World) (hs : IsFlds w v l) (hz : sumF l ≤ 1000000) (hl : l.length ≤ 1048576) :
    Calls Tryd.prog 22 #[v] w (CodPost l w) := by
  have HAll : Hid (∀ W, Below w.heap.size w W → Calls Tryd.prog 24 #[v, .string ⟨#[84, 114, 97, 110, 115, 102, 101, 114, 45, 69, 110, 99, 111, 100, 105, 110, 103]⟩] W (ListPost W.heap.size (allF l nmTE) W)) := fun W hb => rall_any v l nmTE W (isFlds_below hs hb) (sum_each l (by omega)) (by decide) hl
  have HLs : Hid (∀ W, Below w.heap.size w W → Calls Tryd.prog 48 #[v, .string ⟨#[84, 114, 97, 110, 115, 102, 101, 114, 45, 69, 110, 99, 111, 100, 105, 110, 103]⟩] W (ListPost W.heap.size (listF l nmTE) W)) := fun W hb => rlist_any v l nmTE W (isFlds_below hs hb) hz (by decide) hl
  unfold ListPost at HLs HAll
  have HPc := Lib.hid (fun p hp => Nat.le_trans (listF_piece nmTE l p hp) hz)
  have hln := listF_len nmTE l
  have hlp : (listF l nmTE).length ≤ 1000000 := by omega
  have HRet := Lib.hid (cod_ret l)
  have HNo := Lib.hid (cod_no l)
  have HYes := Lib.hid (cod_yes l)
  have hhb := has_beq l nmTE _ rfl
  unfold CodPost
  obtain ⟨a, cap, rfl⟩ : ∃ a cap, v = .slice a l.length cap := by obtain ⟨a, c, h, -⟩ := hs; exact ⟨a, c, h⟩
  clear hs hz hln
  generalize allF l nmTE = Q at *
  generalize listF l nmTE = P at *
  rcases hhb with ⟨hh, hb0⟩ | ⟨hh, hb0⟩
  · have hy := HYes.out hh
    by_cases h1 : P.length = 1
    · obtain ⟨p, rfl⟩ : ∃ p, P = [p] := List.length_eq_one_iff.1 h1
      have hpz := HPc.out p (by simp)
      have hpm := size_mkS p
      have hS : ∀ W : World, Calls Tryd.prog 29 #[.string (mkS p), .string ⟨#[99, 104, 117, 110, 107, 101, 100]⟩] W fun r w' => r = .returned (.bool (codOk [p])) ∧ Below W.heap.size W w' := fun W => by
        have h := rsm_any (mkS p) ⟨#[99, 104, 117, 110, 107, 101, 100]⟩ W (by omega) (by decide)
        have e : codOk [p] = decide (lowL (bs (mkS p)) = lowL (bs ⟨#[99, 104, 117, 110, 107, 101, 100]⟩)) := by
          show (true && decide (lowL p = lowL chkB)) = _
          rw [Bool.true_and]; rfl
        rw [e]; exact h
      have HS := Lib.hid hS
      clear hS hpm hpz h1
      cases hk : codOk [p]
      all_goals
        rw [hk] at hy HS
        have HR := Lib.hid (HRet.out true _ hh hy)
        clear hy
        go_enter Tryd.func22, Tryd.ntmps22
        go_wp2_with fail
        refine (HAll.out _ (Below.refl _ _)).mono ?_
        rintro e w1 ⟨v1, rfl, ho, hb⟩
        have HB1 := Lib.hid hb
        obtain ⟨a0, c0, rfl⟩ : ∃ a c, v1 = .slice a Q.length c := by obtain ⟨a, c, h, -⟩ := isStrs_own ho; exact ⟨a, c, h⟩
        clear ho hb
        go_wp2_with fail
        refine (HLs.out _ HB1.out).mono ?_
        rintro e w2 ⟨v2, rfl, ho, hb⟩
        have HB2 := Lib.hid (HB1.out.trans (hb.mono HB1.out.size))
        obtain ⟨a1, c1, rfl, hc⟩ := isStrs_own ho
        obtain ⟨b, o, rfl, hc0⟩ := hc 0 p (by simp)
        rw [Nat.add_zero] at hc0
        clear ho hb hc
        go_wp2_with fail
        refine (HS.out _).mono ?_
        rintro e w3 ⟨rfl, hb3⟩
        have HB3 := Lib.hid (HB2.out.trans (hb3.mono HB2.out.size))
        clear hb3
        go_wp2_with fail
        go_ret2
        exact ⟨HR.out, HB3.out⟩
    · have hk : codOk P = false := by unfold codOk; simp [h1]
      rw [hk] at hy
      have HR := Lib.hid (HRet.out true 501 hh hy)
      have hb1 : ((P.length : Int) != 1) = true := by rw [bne_iff_ne]; omega
      clear hy h1 hk
      go_enter Tryd.func22, Tryd.ntmps22
      go_wp2_with fail
      refine (HAll.out _ (Below.refl _ _)).mono ?_
      rintro e w1 ⟨v1, rfl, ho, hb⟩
      have HB1 := Lib.hid hb
      obtain ⟨a0, c0, rfl⟩ : ∃ a c, v1 = .slice a Q.length c := by obtain ⟨a, c, h, -⟩ := isStrs_own ho; exact ⟨a, c, h⟩
      clear ho hb
      go_wp2_with fail
      refine (HLs.out _ HB1.out).mono ?_
      rintro e w2 ⟨v2, rfl, ho, hb⟩
      have HB2 := Lib.hid (HB1.out.trans (hb.mono HB1.out.size))
      obtain ⟨a1, c1, rfl⟩ : ∃ a c, v2 = .slice a P.length c := by obtain ⟨a, c, h, -⟩ := isStrs_own ho; exact ⟨a, c, h⟩
      clear ho hb
      go_wp2_with fail
      go_ret2
      exact ⟨HR.out, HB2.out⟩
  · have HR := Lib.hid (HRet.out false 0 hh (HNo.out hh))
    clear hh
    go_enter Tryd.func22, Tryd.ntmps22
    go_wp2_with fail
    refine (HAll.out _ (Below.refl _ _)).mono ?_
    rintro e w1 ⟨v1, rfl, ho, hb⟩
    have HB1 := Lib.hid hb
    obtain ⟨a0, c0, rfl⟩ : ∃ a c, v1 = .slice a Q.length c := by obtain ⟨a, c, h, -⟩ := isStrs_own ho; exact ⟨a, c, h⟩
    clear ho hb
    go_wp2_with fail
    go_ret2
    exact ⟨HR.out, HB1.out⟩
end Tk
end Go.Proofs.YtapnlopeipdjmaaDoor
