/- The law HopStays: its walk. -/
import Derived.Test.YtcddkeekabafgaaDoorQD
import Derived.Test.YtcddkeekabafgaaDoorQE
import Derived.Test.YtcddkeekabafgaaDoorQB
namespace Go.Proofs.YtcddkeekabafgaaDoor
open Go.RowKit
namespace Tk

def goneAt (l : List (Bs × Bs)) (name : Bs) (i : Nat) : Bool := isHop name || ((listF l cnB).take i).any fun x => decide (lowL x = lowL name)
theorem goneAt_next (l : List (Bs × Bs)) (name : Bs) (i : Nat) (h : i < (listF l cnB).length) : goneAt l name (i + 1) = (goneAt l name i || decide (lowL ((listF l cnB).getD i []) = lowL name)) := by
  unfold goneAt
  rw [List.take_succ_eq_append_getElem h, List.any_append, Bool.or_assoc]
  simp [List.getD, h]
theorem goneAt_end (l : List (Bs × Bs)) (name : Bs) : goneAt l name (listF l cnB).length = decide (lowL name ∈ hopL ∨ lowL name ∈ optS l) := by
  unfold goneAt isHop optS
  rw [List.take_length, Bool.eq_iff_iff]
  simp [List.any_eq_true]
theorem strip_gone (l : List (Bs × Bs)) (name : Bs) : allF (stripL l) name = if goneAt l name (listF l cnB).length = true then [] else allF l name := by
  rw [goneAt_end, strip_all]
  simp
theorem isStrs_below {w w' : World} {v : Value} {l : List Bs} (h : IsStrs w v l) (hb : Below w.heap.size w w') : IsStrs w' v l := by
  obtain ⟨a, c, rfl, hc⟩ := h
  refine ⟨a, c, rfl, fun j t hj => ?_⟩
  obtain ⟨b, o, rfl, h1⟩ := hc j t hj
  exact ⟨b, o, rfl, (hb.cell (p := ⟨b, o + j, none⟩) (cell_lt (p := ⟨b, o + j, none⟩) h1)).trans h1⟩

set_option maxHeartbeats 16000000 in
set_option maxRecDepth 100000 in
theorem stays_any (M T : ByteArray) (s : Int) (R : ByteArray) (mi : Int) (vf : Value) (B : ByteArray) (vt : Value) (l tl : List (Bs × Bs)) (name : Bs) (w : World) (hs : IsFlds w vf l) (hnl : ∀ n c, vf = .slice none n c → c = 0) (ht : IsFlds w vt tl) (hz : SizedF l) (hzt : SizedF tl)
    (hM : M.size ≤ 140737488351232) (hT : T.size ≤ 140737488351232) (hR : R.size ≤ 140737488351232) (hB : B.size ≤ 140737488351232) (hN : name.length ≤ 140737488351232) :
    Calls Tryd.prog 4 #[.agg (msgC M T s R mi vf B vt), .string (mkS name)] w fun e w' => e = .returned (.bool true) ∧ Below w.heap.size w w' := by
  obtain ⟨a, cap, rfl⟩ : ∃ a cap, vf = .slice a l.length cap := by obtain ⟨a, c, h, -⟩ := hs; exact ⟨a, c, h⟩
  obtain ⟨at2, capt, rfl⟩ : ∃ a cap, vt = .slice a tl.length cap := by obtain ⟨a, c, h, -⟩ := ht; exact ⟨a, c, h⟩
  have hX := Box.new w 28 (msgC M T s R mi (.slice a l.length cap) B (.slice at2 tl.length capt))
  have hB0 := below_alloc w (.cells (msgC M T s R mi (.slice a l.length cap) B (.slice at2 tl.length capt)) 28)
  have HLv := Lib.hid (lives07_any (w.alloc (.cells (msgC M T s R mi (.slice a l.length cap) B (.slice at2 tl.length capt)) 28)))
  have HLg := Lib.hid (fun (W : World) (hb : Below w.heap.size w W) => light07_any M T s R mi (.slice a l.length cap) B (.slice at2 tl.length capt) l tl W (isFlds_below hs hb) (isFlds_below ht hb) hz hzt hM hT hR hB)
  have HS := Lib.hid (fun (W : World) (hb : Below w.heap.size w W) => isFlds_below hs hb)
  have HX := Lib.hid hX
  have HB0 := Lib.hid hB0
  have hnsz : ((mkS name).size : Int) = (name.length : Int) := by rw [size_mkS]
  have HNL := Lib.hid hnl
  have hpt := lightM_parts M T R B l tl
  clear hs hnl ht hz hzt hM hT hR hB hX hB0
  unfold msgC at *
  cases hd : lightM M T R B l tl
  · rw [hd] at HLg
    clear hd hpt
    go_enter Tryd.func4, Tryd.ntmps4
    go_wp2_with fail
    refine HLv.out.mono ?_
    rintro e w1 ⟨rfl, hb⟩
    have HX1 := Lib.hid (HX.out.later hb)
    have HB1 := Lib.hid (HB0.out.trans (hb.mono HB0.out.size))
    have u0 := HX1.out.cell 0 _ rfl
    have u1 := HX1.out.cell 1 _ rfl
    have u2 := HX1.out.cell 2 _ rfl
    have u3 := HX1.out.cell 3 _ rfl
    have u4 := HX1.out.cell 4 _ rfl
    have u5 := HX1.out.cell 5 _ rfl
    have u6 := HX1.out.cell 6 _ rfl
    have u7 := HX1.out.cell 7 _ rfl
    clear hb HLv
    go_wp2_with fail
    refine (HLg.out _ HB1.out).mono ?_
    rintro e w2 ⟨rfl, hb⟩
    have HB2 := Lib.hid (HB1.out.trans (hb.mono HB1.out.size))
    clear hb u0 u1 u2 u3 u4 u5 u6 u7 HX1
    go_wp2_with fail
    go_ret
    exact ⟨rfl, HB2.out⟩
  · rw [hd] at HLg
    obtain ⟨-, ⟨hl20, hsum⟩, -⟩ := hpt hd
    clear hd hpt
    by_cases hn : 100 < name.length
    · have m1 : (100 : Int) < ((mkS name).size : Int) := by omega
      clear hnsz hn
      go_enter Tryd.func4, Tryd.ntmps4
      go_wp2_with fail
      refine HLv.out.mono ?_
      rintro e w1 ⟨rfl, hb⟩
      have HX1 := Lib.hid (HX.out.later hb)
      have HB1 := Lib.hid (HB0.out.trans (hb.mono HB0.out.size))
      have u0 := HX1.out.cell 0 _ rfl
      have u1 := HX1.out.cell 1 _ rfl
      have u2 := HX1.out.cell 2 _ rfl
      have u3 := HX1.out.cell 3 _ rfl
      have u4 := HX1.out.cell 4 _ rfl
      have u5 := HX1.out.cell 5 _ rfl
      have u6 := HX1.out.cell 6 _ rfl
      have u7 := HX1.out.cell 7 _ rfl
      clear hb HLv
      go_wp2_with fail
      refine (HLg.out _ HB1.out).mono ?_
      rintro e w2 ⟨rfl, hb⟩
      have HB2 := Lib.hid (HB1.out.trans (hb.mono HB1.out.size))
      clear hb u0 u1 u2 u3 u4 u5 u6 u7 HX1
      go_wp2_with fail
      go_ret
      exact ⟨rfl, HB2.out⟩
    · have m1 : ¬ (100 : Int) < ((mkS name).size : Int) := by omega
      have hn2 : name.length ≤ 1099511627776 := by omega
      have hsz := size_mkS name
      have HNm := Lib.hid (⟨hn, hn2⟩ : _ ∧ _)
      have HSum := Lib.hid (⟨hl20, hsum⟩ : _ ∧ _)
      have HSt := Lib.hid (fun (W : World) (hb : Below w.heap.size w W) => strip_any (.slice a l.length cap) l W (HS.out W hb) HNL.out (by omega) (by omega))
      have HLi := Lib.hid (fun (W : World) (hb : Below w.heap.size w W) => rlist_any (.slice a l.length cap) l cnB W (HS.out W hb) (by omega) (by decide) (by omega))
      have HAl := Lib.hid (fun (W : World) (hb : Below w.heap.size w W) => rall_any (.slice a l.length cap) l name W (HS.out W hb) (sum_each l (by omega)) hn2 (by omega))
      have HHp := Lib.hid (fun W : World => hop_any name W hn2)
      have HSm : Hid (∀ (x : Bs) (W : World), x.length ≤ 1099511627776 → Calls Tryd.prog 15 #[.string (mkS x), .string (mkS name)] W fun e w' => e = .returned (.bool (decide (lowL x = lowL name))) ∧ Below W.heap.size W w') := by
        intro x W hx
        have h := rsm_any (mkS x) (mkS name) W (by rw [size_mkS]; exact hx) (by rw [size_mkS]; exact hn2)
        rw [bs_mkS, bs_mkS] at h
        exact h
      unfold OwnPost at HSt
      unfold ListPost at HLi HAl
      clear hnsz hn hn2 hl20 hsum hsz
      go_enter Tryd.func4, Tryd.ntmps4
      go_wp2_with fail
      refine HLv.out.mono ?_
      rintro e w1 ⟨rfl, hb⟩
      have HX1 := Lib.hid (HX.out.later hb)
      have HB1 := Lib.hid (HB0.out.trans (hb.mono HB0.out.size))
      have u0 := HX1.out.cell 0 _ rfl
      have u1 := HX1.out.cell 1 _ rfl
      have u2 := HX1.out.cell 2 _ rfl
      have u3 := HX1.out.cell 3 _ rfl
      have u4 := HX1.out.cell 4 _ rfl
      have u5 := HX1.out.cell 5 _ rfl
      have u6 := HX1.out.cell 6 _ rfl
      have u7 := HX1.out.cell 7 _ rfl
      clear hb HLv
      go_wp2_with fail
      refine (HLg.out _ HB1.out).mono ?_
      rintro e w2 ⟨rfl, hb⟩
      have HX2 := Lib.hid (HX1.out.later hb)
      have HB2 := Lib.hid (HB1.out.trans (hb.mono HB1.out.size))
      have q2 := HX2.out.cell 5 _ rfl
      clear hb u0 u1 u2 u3 u4 u5 u6 u7 HX1 HLg
      go_wp2_with fail
      refine (HSt.out _ HB2.out).mono ?_
      rintro e w3 ⟨v3, rfl, ho, hb⟩
      have HX3 := Lib.hid (HX2.out.later hb)
      have HB3 := Lib.hid (HB2.out.trans (hb.mono HB2.out.size))
      have HO3 := Lib.hid ho
      obtain ⟨a3, c3, rfl⟩ : ∃ a c, v3 = .slice a (stripL l).length c := by obtain ⟨a, c, h, -⟩ := isFlds_own ho; exact ⟨a, c, h⟩
      have q3 := HX3.out.cell 5 _ rfl
      clear hb ho q2 HX2 m1 HSt
      go_wp2_with fail
      refine (HLi.out _ HB3.out).mono ?_
      rintro e w4 ⟨v4, rfl, ho, hb⟩
      have HX4 := Lib.hid (HX3.out.later hb)
      have HB4 := Lib.hid (HB3.out.trans (hb.mono HB3.out.size))
      have HO4 := Lib.hid (own_keep2f HO3.out hb)
      have HI4 := Lib.hid (isStrs_own ho)
      obtain ⟨a4, c4, rfl⟩ : ∃ a c, v4 = .slice a (listF l cnB).length c := by obtain ⟨a, c, h, -⟩ := isStrs_own ho; exact ⟨a, c, h⟩
      clear hb ho q3 HX3 HLi HO3
      go_wp2_with fail
      refine (HHp.out _).mono ?_
      rintro e w5 ⟨rfl, hb⟩
      have HX5 := Lib.hid (HX4.out.later hb)
      have HB5 := Lib.hid (HB4.out.trans (hb.mono HB4.out.size))
      have HO5 := Lib.hid (own_keep2f HO4.out hb)
      have HI5 := Lib.hid (isStrs_below HI4.out hb)
      clear hb HX4 HHp HO4 HI4
      have HG0 : Hid (isHop name = goneAt l name 0) := by show _ = _; unfold goneAt; simp
      rw [HG0.out]
      have HPc := Lib.hid (fun (x : Bs) (hx : x ∈ listF l cnB) => Nat.le_trans (listF_piece cnB l x hx) HSum.out.2)
      have hQl : (listF l cnB).length ≤ 680 := Nat.le_trans (listF_len cnB l) HSum.out.2
      have HNx := Lib.hid (goneAt_next l name)
      go_wp2_with fail
      go_loopw [7, 8] (fun v7 vi wr => ∃ i : Nat, i ≤ (listF l cnB).length ∧ v7 = .bool (goneAt l name i) ∧ vi = .int .i64 i ∧ Hid (Below w5.heap.size w5 wr)) (fun _ vi _ => (listF l cnB).length - (RowKit.intOf vi).toNat)
      case atStart => exact ⟨0, Nat.zero_le _, rfl, rfl, Below.refl _ _⟩
      case round =>
        obtain ⟨i, hi, rfl, rfl, HB⟩ := hrel
        rename World => W
        by_cases hlt : i < (listF l cnB).length
        · obtain ⟨a', c', e', hc⟩ := isStrs_below HI5.out HB.out
          injection e' with e1 _ e2
          subst e1 e2
          obtain ⟨b, o, rfl, hc0⟩ := hc i ((listF l cnB).getD i []) (by simp [List.getD, hlt])
          have hxl := HPc.out ((listF l cnB).getD i []) (by simp [List.getD, hlt])
          have HN := Lib.hid (HNx.out i hlt)
          clear hc
          generalize (listF l cnB).getD i [] = x at *
          have g0 : (0 : Int) ≤ (i : Int) := by omega
          have g1 : (i : Int) < ((listF l cnB).length : Int) := by omega
          have HC := Lib.hid (HSm.out x W (by omega))
          cases hg : goneAt l name i
          · rw [hg, Bool.false_or] at HN
            clear hg
            go_wp2_with fail
            refine HC.out.mono ?_
            rintro e w6 ⟨rfl, hb⟩
            have HB6 := Lib.hid (HB.out.trans (hb.mono HB.out.size))
            clear hb
            go_wp2_with fail
            exact ⟨⟨i + 1, hlt, by rw [HN.out], by go_num, HB6⟩, by simp [RowKit.intOf]; omega⟩
          · rw [hg, Bool.true_or] at HN
            clear hg
            go_wp2_with fail
            exact ⟨⟨i + 1, hlt, by rw [HN.out], by go_num, HB⟩, by simp [RowKit.intOf]; omega⟩
        · obtain rfl : i = (listF l cnB).length := by omega
          have HBw := Lib.hid (HB5.out.trans (HB.out.mono HB5.out.size))
          have HXW := Lib.hid (HX5.out.later HB.out)
          have q5 := HXW.out.cell 5 _ rfl
          have HOW := Lib.hid (own_keep2f HO5.out HB.out)
          have HSg := Lib.hid (strip_gone l name)
          have HSs := Lib.hid (strip_strip l)
          have HLen := Lib.hid (strip_len l)
          have hle : ((stripL l).length : Int) ≤ (l.length : Int) := by have := strip_len l; omega
          have HSa : Hid (∀ W2 : World, Below W.heap.size W W2 → Calls Tryd.prog 16 #[.slice a3 (stripL l).length c3, .string (mkS name)] W2 (ListPost W2.heap.size (allF (stripL l) name) W2)) :=
            fun W2 hb => rall_any _ (stripL l) name W2 (isFlds_below (isFlds_own HOW.out) hb) (sum_each _ (Nat.le_trans (sum_wipe _ _) (by have := HSum.out.2; omega))) HNm.out.2 (by have := HSum.out.1; have := HLen.out; omega)
          have HSt2 : Hid (∀ W2 : World, Below W.heap.size W W2 → Calls Tryd.prog 13 #[.slice a3 (stripL l).length c3] W2 (OwnPost (stripL (stripL l)) W2)) :=
            fun W2 hb => strip_any _ (stripL l) W2 (isFlds_below (isFlds_own HOW.out) hb) (isFlds_nil_cap HOW.out) (Nat.le_trans (sum_wipe _ _) (by have := HSum.out.2; omega)) (by have := HSum.out.1; have := HLen.out; omega)
          rw [HSs.out] at HSt2
          have HSk : Hid (∀ (W2 : World) (v : Value), Below W.heap.size W W2 → IsFlds W2 v (stripL l) → Calls Tryd.prog 18 #[v, .slice a3 (stripL l).length c3] W2 fun e w' => e = .returned (.bool true) ∧ Below W2.heap.size W2 w') :=
            fun W2 v hb hv => ksame_self v _ (stripL l) W2 hv (isFlds_below (isFlds_own HOW.out) hb) (by have := HSum.out.1; have := HLen.out; omega)
          have hal : (allF l name).length ≤ 20 := Nat.le_trans (allF_len l name) HSum.out.1
          unfold OwnPost at HSt2
          unfold ListPost at HSa
          clear HPc HNx HSs hi hlt HI5 HO5 HX5 HSm
          generalize goneAt l name (listF l cnB).length = gg at *
          go_wp2_with fail
          refine (HAl.out _ HBw.out).mono ?_
          rintro e w6 ⟨v6, rfl, ho, hb⟩
          have HB6 := Lib.hid hb
          have HI6 := Lib.hid (isStrs_own ho)
          clear ho hb
          cases gg
          · rw [if_neg (by decide)] at HSg
            have HSg2 : Hid (allF (stripL l) name = allF l name) := HSg.out
            clear HSg
            go_wp2_with fail
            refine (HSa.out _ HB6.out).mono ?_
            rintro e w7 ⟨v7, rfl, ho, hb⟩
            rw [HSg2.out] at ho
            have HI7 := Lib.hid (isStrs_own ho)
            have HI67 := Lib.hid (isStrs_below HI6.out hb)
            have HB7 := Lib.hid (HB6.out.trans (hb.mono HB6.out.size))
            clear ho hb HSa HAl
            have HC7 : Hid (Calls Tryd.prog 17 #[v7, v6] w7 fun r w' => r = .returned (.bool true) ∧ ∃ n, w' = w7.drewN n) := by
              have h := same_any v7 v6 (allF l name) (allF l name) w7 HI7.out HI67.out (by omega) (by omega)
              rw [decide_eq_true rfl] at h
              exact h
            go_wp2_with fail
            refine HC7.out.mono ?_
            rintro e w8 ⟨rfl, n, rfl⟩
            have HB8 := Lib.hid (below_some_draws HB7.out n)
            clear HC7
            go_wp2_with fail
            refine (HSt2.out _ HB8.out).mono ?_
            rintro e w9 ⟨v9, rfl, ho, hb⟩
            have HB9 := Lib.hid (HB8.out.trans (hb.mono HB8.out.size))
            have HF9 := Lib.hid (isFlds_own ho)
            clear ho hb HSt2
            have HC9 := Lib.hid (HSk.out w9 v9 HB9.out HF9.out)
            go_wp2_with fail
            refine HC9.out.mono ?_
            rintro e w10 ⟨rfl, hb⟩
            have HB10 := Lib.hid (HB9.out.trans (hb.mono HB9.out.size))
            have q10 := (HXW.out.later HB10.out).cell 5 _ rfl
            clear hb HC9 HSk q5
            go_wp2_with fail
            go_ret
            exact ⟨rfl, HBw.out.trans (HB10.out.mono HBw.out.size)⟩
          · rw [if_pos rfl] at HSg
            have HSg2 : Hid (allF (stripL l) name = []) := HSg.out
            clear HSg
            go_wp2_with fail
            refine (HSa.out _ HB6.out).mono ?_
            rintro e w7 ⟨v7, rfl, ho, hb⟩
            rw [HSg2.out] at ho
            have HI7 := Lib.hid (isStrs_own ho)
            have HI67 := Lib.hid (isStrs_below HI6.out hb)
            have HB7 := Lib.hid (HB6.out.trans (hb.mono HB6.out.size))
            clear ho hb HSa HAl
            have HC7 : Hid (Calls Tryd.prog 17 #[v7, (.slice none 0 0)] w7 fun r w' => r = .returned (.bool true) ∧ ∃ n, w' = w7.drewN n) := by
              have h := same_any v7 (.slice none 0 0) ([]) ([]) w7 HI7.out ⟨none, 0, rfl, fun j t hj => by simp at hj⟩ (by simp) (by simp)
              rw [decide_eq_true rfl] at h
              exact h
            go_wp2_with fail
            refine HC7.out.mono ?_
            rintro e w8 ⟨rfl, n, rfl⟩
            have HB8 := Lib.hid (below_some_draws HB7.out n)
            clear HC7
            go_wp2_with fail
            refine (HSt2.out _ HB8.out).mono ?_
            rintro e w9 ⟨v9, rfl, ho, hb⟩
            have HB9 := Lib.hid (HB8.out.trans (hb.mono HB8.out.size))
            have HF9 := Lib.hid (isFlds_own ho)
            clear ho hb HSt2
            have HC9 := Lib.hid (HSk.out w9 v9 HB9.out HF9.out)
            go_wp2_with fail
            refine HC9.out.mono ?_
            rintro e w10 ⟨rfl, hb⟩
            have HB10 := Lib.hid (HB9.out.trans (hb.mono HB9.out.size))
            have q10 := (HXW.out.later HB10.out).cell 5 _ rfl
            clear hb HC9 HSk q5
            go_wp2_with fail
            go_ret
            exact ⟨rfl, HBw.out.trans (HB10.out.mono HBw.out.size)⟩
end Tk
end Go.Proofs.YtcddkeekabafgaaDoor
