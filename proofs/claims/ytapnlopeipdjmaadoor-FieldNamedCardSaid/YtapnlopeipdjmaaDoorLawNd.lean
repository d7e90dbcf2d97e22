/- The law FieldNamed: its walk. -/
import Derived.Test.YtapnlopeipdjmaaDoorNmC
import Derived.Test.YtapnlopeipdjmaaDoorFldW
import Derived.Test.YtapnlopeipdjmaaDoorFldN
import Derived.Test.YtapnlopeipdjmaaDoorRefL
import Derived.Test.YtapnlopeipdjmaaDoorRefK
import Derived.Deep.RegionHeld3
namespace Go.Proofs.YtapnlopeipdjmaaDoor
open Go.RowKit
namespace Tk

theorem nd_draws {w w1 : World} (h : Below w.heap.size w w1) (n : Nat) : Below w.heap.size w (w1.drewN n) := h.trans ⟨rfl, rfl, rfl, Nat.le_refl _, fun _ _ => rfl⟩
/-- the values of the first i names -/
def sumTo (l : List (Bs × Bs)) (i : Nat) : Nat := (((namesL l).take i).map fun x => (allF l x).length).sum
theorem sumTo_succ (l : List (Bs × Bs)) (i : Nat) (h : i < (namesL l).length) : sumTo l (i + 1) = sumTo l i + (allF l ((namesL l).getD i [])).length := by
  unfold sumTo
  rw [List.take_succ_eq_append_getElem h, List.map_append, List.sum_append]
  simp [List.getD, h]
theorem sumTo_le (l : List (Bs × Bs)) (i : Nat) : sumTo l i ≤ l.length := by
  have h := names_sum l
  unfold sumTo
  have e : ((namesL l).map fun x => (allF l x).length).sum = (((namesL l).take i).map fun x => (allF l x).length).sum + (((namesL l).drop i).map fun x => (allF l x).length).sum := by
    rw [← List.sum_append, ← List.map_append, List.take_append_drop]
  omega
theorem sumTo_all (l : List (Bs × Bs)) : sumTo l (namesL l).length = l.length := by
  unfold sumTo
  rw [List.take_length]; exact names_sum l
theorem nd_ne (l : List (Bs × Bs)) (i k : Nat) (hi : i < (namesL l).length) (hk : k < i) : (namesL l).getD k [] ≠ (namesL l).getD i [] := by
  intro e
  have hn := names_nodup l
  have hk2 : k < (namesL l).length := by omega
  simp only [List.getD, List.getElem?_eq_getElem hi, List.getElem?_eq_getElem hk2, Option.getD_some] at e
  exact (List.pairwise_iff_getElem.1 hn) k i hk2 hi hk e
theorem nd_mem (l : List (Bs × Bs)) (i : Nat) (hi : i < (namesL l).length) : (namesL l).getD i [] ∈ namesL l := by
  simp [List.getD, hi]
theorem nd_size (l : List (Bs × Bs)) (i : Nat) (hi : i < (namesL l).length) (hz : sumF l ≤ 1000000) : ((namesL l).getD i []).length ≤ 1000000 := by
  have h := ((once_mem _ _ _).1 (nd_mem l i hi)).1
  unfold lowN at h
  rw [List.mem_map] at h
  obtain ⟨f, hf, e⟩ := h
  rw [← e]
  have := sumF_mem l f hf
  have h2 := length_lowL f.1
  omega

set_option maxRecDepth 100000 in
set_option maxHeartbeats 16000000 in
theorem named02_any (v : Value) (l : List (Bs × Bs)) (w : World) (hs : IsFlds w v l) (hz : ∀ f ∈ l, f.1.length ≤ 140737488351232 ∧ f.2.length ≤ 140737488351232) (hl : l.length ≤ 140737488351232) :
    Calls Tryd.prog 10 #[v] w (Yes2 w) := by
  have HL := Lib.hid (lives02_any w)
  have HB := Lib.hid (fun (W : World) (h : Below w.heap.size w W) => light02_any v l W (isFlds_below hs h) hz hl)
  have HS := Lib.hid hs
  obtain ⟨a, cap, rfl⟩ : ∃ a cap, v = .slice a l.length cap := by obtain ⟨a, c, h, -⟩ := hs; exact ⟨a, c, h⟩
  clear hs hz
  cases hb : lightF l
  · rw [hb] at HB
    clear hb
    go_enter Tryd.func10, Tryd.ntmps10
    go_wp2_with fail
    refine HL.out.mono ?_
    rintro e w1 ⟨rfl, hb⟩
    have HB1 := Lib.hid hb
    clear hb
    go_wp2_with fail
    refine (HB.out _ HB1.out).mono ?_
    rintro e w2 ⟨rfl, n, rfl⟩
    go_wp2_with fail
    go_ret
    exact ⟨rfl, nd_draws HB1.out n⟩
  · rw [hb] at HB
    obtain ⟨hl30, hz720⟩ := lightF_parts l hb
    clear hb hl
    have hz1 : sumF l ≤ 1000000 := by omega
    have HZ := Lib.hid (sum_each l (by omega))
    have HNM := Lib.hid (fun (W : World) (h : Below w.heap.size w W) => lnames_any _ l W (isFlds_below HS.out h) HZ.out (by omega))
    unfold ListedPost at HNM
    have HSall := Lib.hid (sumTo_all l)
    have HSle := Lib.hid (sumTo_le l)
    have HSs := Lib.hid (sumTo_succ l)
    have HNe := Lib.hid (nd_ne l)
    have HNz := Lib.hid (fun i hi => nd_size l i hi hz1)
    have HNm := Lib.hid (fun i hi => names_low l _ (nd_mem l i hi))
    have HNa := Lib.hid (fun i hi => names_all l _ (nd_mem l i hi))
    have hS0 : sumTo l 0 = 0 := by simp [sumTo]
    have hNl := names_len l
    go_enter Tryd.func10, Tryd.ntmps10
    go_wp2_with fail
    refine HL.out.mono ?_
    rintro e w1 ⟨rfl, hb⟩
    have HB1 := Lib.hid hb
    clear hb
    go_wp2_with fail
    refine (HB.out _ HB1.out).mono ?_
    rintro e w2 ⟨rfl, n, rfl⟩
    have HB2 := Lib.hid (nd_draws HB1.out n)
    clear HB1
    go_wp2_with fail
    generalize w1.drewN n = w2 at *
    refine (HNM.out _ HB2.out).mono ?_
    rintro e w3 ⟨vn, rfl, ho, hb⟩
    have HB3 := Lib.hid (HB2.out.trans (hb.mono HB2.out.size))
    have HN3 := Lib.hid (isStrs_own ho)
    obtain ⟨an, cn, rfl⟩ : ∃ a c, vn = .slice a (namesL l).length c := by obtain ⟨a, c, h, -⟩ := isStrs_own ho; exact ⟨a, c, h⟩
    clear ho hb HB2 HNM
    have HFl : Hid (∀ W, Below w3.heap.size w3 W → IsFlds W (.slice a l.length cap) l) := fun W h => isFlds_below HS.out (HB3.out.trans (h.mono HB3.out.size))
    have HNs : Hid (∀ W, Below w3.heap.size w3 W → IsStrs W (.slice an (namesL l).length cn) (namesL l)) := fun W h => isStrs_below HN3.out h
    generalize hN : namesL l = N at *
    clear hN
    go_wp2_with fail
    go_loopw [2, 5, 6] (fun v2 v5 v6 wr => ∃ i : Nat, i ≤ N.length ∧ v6 = .int .i64 i ∧ v5 = .int .i64 (sumTo l i) ∧ Hid (Below w3.heap.size w3 wr)) (fun _ _ v6 _ => N.length - (RowKit.intOf v6).toNat)
    case atStart => exact ⟨0, Nat.zero_le _, rfl, by rw [hS0]; rfl, Below.refl _ _⟩
    case round =>
      obtain ⟨i, hi, rfl, rfl, HW⟩ := hrel
      rename World => W
      by_cases hlt : i < N.length
      · obtain ⟨a', c', e', hc'⟩ := HNs.out W HW.out
        injection e' with e1 _ e2
        subst e1 e2
        obtain ⟨b, o, rfl, hc0⟩ := hc' i (N.getD i []) (by simp [List.getD, hlt])
        have HCell : Hid (∀ W, Below w3.heap.size w3 W → W.cell? ⟨b, o + i, none⟩ = some (.string (mkS (N.getD i [])))) := fun W h => by
          obtain ⟨a2, c2, e2, h2⟩ := HNs.out W h
          injection e2 with e1 _ e2
          subst e1 e2
          obtain ⟨b2, o2, e3, h3⟩ := h2 i (N.getD i []) (by simp [List.getD, hlt])
          cases e3
          exact h3
        have HNeI := Lib.hid (fun k hk => HNe.out i k hlt hk)
        have hxz := HNz.out i hlt
        have hxl := HNm.out i hlt
        have hxa := HNa.out i hlt
        have hsu := HSs.out i hlt
        have hsl := HSle.out (i + 1)
        clear hc'
        have HXL := Lib.hid hxl
        clear hxl
        generalize N.getD i [] = x at *
        have HAll := Lib.hid (fun (W : World) (h : Below w3.heap.size w3 W) => fall_any _ l x W (HFl.out W h) HZ.out (by omega) (by omega))
        have HLst := Lib.hid (fun (W : World) (h : Below w3.heap.size w3 W) => flist_any _ l x W (HFl.out W h) hz1 (by omega) (by omega))
        have hPl := allF_len l x
        have hpc := Lib.hid (fun p hp => Nat.le_trans (all_piece x l p hp) hz1)
        have hfl := Lib.hid (fun i => flat_sub (allF l x) i)
        have hln := listF_len x l
        have HLI : Hid (listF l x = (allF l x).flatMap splitL) := rfl
        rw [show listF l x = (allF l x).flatMap splitL from rfl] at hln
        unfold ListPost at HAll HLst
        generalize listF l x = Q at *
        generalize allF l x = P at *
        have HSU := Lib.hid hsu
        clear hsu
        have g0 : (0 : Int) ≤ (i : Int) := by omega
        have g1 : (i : Int) < (N.length : Int) := by omega
        have HRl : Hid (∀ W : World, Below w3.heap.size w3 W → Calls Tryd.prog 54 #[.string (mkS x)] W fun e w' => e = .returned (.string (mkS x)) ∧ Below w3.heap.size w3 w' ∧ w'.cell? ⟨b, o + i, none⟩ = some (.string (mkS x)) ∧ Below W.heap.size W w') := fun W h => by
          have h2 := refLower_any (mkS x) W (by rw [size_mkS]; omega)
          rw [bs_mkS, HXL.out] at h2
          refine h2.mono ?_
          rintro e w' ⟨rfl, hb⟩
          have h3 := h.trans (hb.mono h.size)
          exact ⟨rfl, h3, HCell.out w' h3, hb⟩
        go_wp2_with fail
        refine (HAll.out W HW.out).mono ?_
        rintro e w4 ⟨v4, rfl, ho, hb⟩
        have HB4 := Lib.hid (HW.out.trans (hb.mono HW.out.size))
        have HS4 := Lib.hid (isStrs_own ho)
        obtain ⟨a4, c4, rfl⟩ : ∃ a c, v4 = .slice a P.length c := by obtain ⟨a, c, h, -⟩ := isStrs_own ho; exact ⟨a, c, h⟩
        have hc4 := HCell.out w4 HB4.out
        have hB4d : Below w3.heap.size w3 w4.drew := HB4.out.drew
        have hc4d : w4.drew.cell? ⟨b, o + i, none⟩ = some (.string (mkS x)) := hc4
        clear ho hb hc0
        have hp0 : ¬ (P.length : Int) = 0 := by omega
        have hp1 : ¬ P.length = 0 := by omega
        have hp2 : ((P.length : Int) == 0) = false := by simpa using hp1
        go_wp2_with fail
        go_region_held3 (fun w' => w'.cell? ⟨b, o + i, none⟩ = some (.string (mkS x))) (first | go_keep | exact (by assumption)) (first | (go_at_call 54; refine (HRl.out _ (by assumption)).mono ?_; rintro e w5 ⟨rfl, hb, hc', hb4⟩))
        go_ways
        have HB5 := Lib.hid hb
        have HS5 := Lib.hid (isStrs_below HS4.out (((Below.refl _ _).drew).trans hb4))
        have hxx : (!(mkS x).toList == (mkS x).toList) = false := by simp
        have hov : sumTo l i + P.length ≤ 30 := by have := HSU.out; omega
        clear hb hc' hb4 hc4 hc4d hB4d HAll HRl HB4 HS4 hp0 hp1 hp2 hsl
        go_wp2_with fail
        go_loopw [2, 8] (fun v2 v8 wr => ∃ k n : Nat, k ≤ i ∧ v8 = .int .i64 k ∧ wr = w5.drewN n) (fun _ v8 _ => i - (RowKit.intOf v8).toNat)
        case atStart => exact ⟨0, 0, Nat.zero_le _, rfl, rfl⟩
        case round =>
          obtain ⟨k, n, hk, rfl, rfl⟩ := hrel
          have HB6 := Lib.hid (nd_draws HB5.out n)
          by_cases hki : k < i
          · obtain ⟨a2, c2, e2, h2⟩ := HNs.out w5 HB5.out
            injection e2 with e1 _ e3
            subst e1 e3
            obtain ⟨b2, o2, e3, hck⟩ := h2 k (N.getD k []) (by simp [List.getD, show k < N.length by omega])
            cases e3
            have hci := HCell.out w5 HB5.out
            have hne := HNeI.out k hki
            clear h2
            generalize N.getD k [] = y at *
            have hxy : ((mkS y).toList == (mkS x).toList) = false := by
              rw [toList_bs, toList_bs, bs_mkS, bs_mkS]; simpa using hne
            have k0 : (0 : Int) ≤ (k : Int) := by omega
            have k1 : (k : Int) < (N.length : Int) := by omega
            have k2 : (k : Int) < (i : Int) := by omega
            go_wp2_with fail
            go_quiet (fail)
            go_wp2_with fail
            exact ⟨⟨k + 1, _, hki, by go_num, rfl⟩, by simp [RowKit.intOf]; omega⟩
          · have hik : k = i := by omega
            have HS6 := Lib.hid (isStrs_below HS5.out (nd_draws (Below.refl _ _) n))
            clear HS5 HB5 HNeI
            generalize w5.drewN n = w6 at *
            have HP6 : Hid (∀ W, Below w6.heap.size w6 W → IsStrs W (.slice a4 P.length c4) P) := fun W h => isStrs_below HS6.out h
            have HI6 : Hid (∀ W, Below w6.heap.size w6 W → Below w3.heap.size w3 W) := fun W h => HB6.out.trans (h.mono HB6.out.size)
            have hnk : ¬ ((k : Int) < (i : Int)) := by omega
            clear hki hk
            go_wp2_with fail
            clear hnk hik
            go_loopw [9, 10] (fun v9 v10 wr => ∃ j : Nat, j ≤ P.length ∧ v10 = .int .i64 j ∧ Hid (wr.ownsRow w6.heap.size 9 1 v9 ((P.take j).flatMap splitL).length (strs ((P.take j).flatMap splitL))) ∧ Hid (Below w6.heap.size w6 wr)) (fun _ v10 _ => P.length - (RowKit.intOf v10).toNat)
            case atStart => exact ⟨0, Nat.zero_le _, rfl, World.ownsRow_nil _ _ _ _, Below.refl _ _⟩
            case round =>
              obtain ⟨j, hj, rfl, HO, HB7⟩ := hrel
              rename World => W7
              by_cases hjl : j < P.length
              · obtain ⟨a5, c5, e5, hc5⟩ := HP6.out W7 HB7.out
                injection e5 with e1 _ e2
                subst e1 e2
                obtain ⟨b5, o5, rfl, hcj⟩ := hc5 j (P.getD j []) (by simp [List.getD, hjl])
                have hm := hpc.out (P.getD j []) (by simp [List.getD, hjl])
                have HTK := Lib.hid (take_flat P j hjl)
                have hf1 := hfl.out j
                have hsl := split_len (P.getD j [])
                clear hc5
                generalize P.getD j [] = y at *
                have hyz := size_mkS y
                have hsp := fun W : World => rSplit_any (mkS y) W (by omega)
                rw [bs_mkS] at hsp
                have HSP := Lib.hid hsp
                have j0 : (0 : Int) ≤ (j : Int) := by omega
                have j1 : (j : Int) < (P.length : Int) := by omega
                clear hsp hyz
                have hk1 : ((P.take j).flatMap splitL).length ≤ 1048576 := by omega
                have hk2 : (splitL y).length ≤ 1048576 := by omega
                clear hf1 hsl hm
                generalize (P.take j).flatMap splitL = R at *
                generalize splitL y = S at *
                go_wp2_with fail
                refine (HSP.out _).mono ?_
                rintro e w8 ⟨v3, rfl, ho3, hb3⟩
                have HO3 := Lib.hid (own_keep HO.out hb3)
                have HB3' := Lib.hid (HB7.out.trans (hb3.mono HB7.out.size))
                have HS3 := Lib.hid ho3
                clear ho3 hb3
                go_wp2_with (at_builtin; refine join_guarded (by rfl) _ _ rfl w6.heap.size _ _ _ R S rfl rfl HO3.out HS3.out HB3'.out.size hk1 hk2 ?_)
                intro v4 w9 ho4 hb4
                have HB9 := Lib.hid (HB3'.out.trans hb4)
                have HO4 : Hid (w9.ownsRow w6.heap.size 9 1 v4 ((P.take (j + 1)).flatMap splitL).length (strs ((P.take (j + 1)).flatMap splitL))) := by
                  show World.ownsRow _ _ _ _ _ _ _
                  rw [HTK.out, List.length_append]; exact ho4
                clear ho4 hb4
                go_wp2_with fail
                exact ⟨⟨j + 1, hjl, by go_num, HO4, HB9⟩, by simp [RowKit.intOf]; omega⟩
              · have hil : P.take j = P := List.take_of_length_le (by omega)
                have hjP : j = P.length := by omega
                rw [hil, ← HLI.out] at HO
                have hB7 := HI6.out W7 HB7.out
                have hc7 := HCell.out W7 hB7
                have HB8 := Lib.hid hB7
                have hQl : Q.length ≤ 1099511627776 := by rw [HLI.out]; omega
                have HQl := Lib.hid hQl
                have HVQ := Lib.hid (isStrs_own HO.out)
                have HLq := Lib.hid (HLst.out W7 hB7)
                have hnj : ¬ ((j : Int) < (P.length : Int)) := by omega
                clear hB7 hQl hil HO hjl hj
                go_wp2_with fail
                refine HLq.out.mono ?_
                rintro e w8 ⟨v8, rfl, ho, hb⟩
                have HV8 := Lib.hid (isStrs_own ho)
                have HV9 := Lib.hid (isStrs_below HVQ.out hb)
                have HB10 := Lib.hid (HB8.out.trans (hb.mono HB8.out.size))
                have HSm := Lib.hid (same_any v8 _ Q Q w8 HV8.out HV9.out HQl.out HQl.out)
                clear ho hb hc7
                go_wp2_with fail
                refine HSm.out.mono ?_
                rintro e w10 ⟨rfl, n2, rfl⟩
                have HB11 := Lib.hid (nd_draws HB10.out n2)
                have hov2 : (sumTo l i : Int) + (P.length : Int) ≤ 30 := by omega
                have hov3 : (0 : Int) ≤ (sumTo l i : Int) + (P.length : Int) := by omega
                go_wp2_with fail
                refine ⟨⟨i + 1, hlt, by go_num, ?_, HB11⟩, by simp [RowKit.intOf]; omega⟩
                have := HSU.out
                go_num
      · obtain rfl : i = N.length := by omega
        have hfin : ((sumTo l N.length : Nat) : Int) = (l.length : Int) := by rw [HSall.out]
        go_wp2_with fail
        go_ret
        exact ⟨rfl, HB3.out.trans (HW.out.mono HB3.out.size)⟩
end Tk
end Go.Proofs.YtapnlopeipdjmaaDoor
