/- The law HopOnce: its walk. -/
import Derived.Test.YtcddkeekabafgaaGreatDoorQD
import Derived.Test.YtcddkeekabafgaaGreatDoorQE
import Derived.Test.YtcddkeekabafgaaGreatDoorQF
namespace Go.Proofs.YtcddkeekabafgaaGreatDoor
open Go.RowKit
namespace Tk

theorem isStrs_belowO {w w' : World} {v : Value} {l : List Bs} (h : IsStrs w v l) (hb : Below w.heap.size w w') : IsStrs w' v l := by
  obtain ⟨a, c, rfl, hc⟩ := h
  refine ⟨a, c, rfl, fun j t hj => ?_⟩
  obtain ⟨b, o, rfl, h1⟩ := hc j t hj
  exact ⟨b, o, rfl, (hb.cell (p := ⟨b, o + j, none⟩) (cell_lt (p := ⟨b, o + j, none⟩) h1)).trans h1⟩
theorem tok_same (l : Bs) : tokB l = tokL l := rfl
theorem sum_set (name x : Bs) (l : List (Bs × Bs)) : sumF (setF name x l) ≤ sumF l + name.length + x.length + 4 := by
  by_cases h : l.findIdx (isN name) < l.length
  · obtain ⟨a, f, b, hl, ha, hf, hs⟩ := cut_at name l h
    have h1 : sumF (delF name b) ≤ sumF b := by rw [del_wipe]; exact sum_wipe _ _
    rw [hs, hl, sum_app, sum_app, sumF, sumF]
    have h2 : f.1.length = name.length := by
      have h3 : lowL f.1 = lowL name := of_decide_eq_true hf
      rw [← length_lowL f.1, h3, length_lowL]
    simp only
    omega
  · unfold setF
    rw [if_neg h, sum_app]
    simp [sumF]; omega
theorem len_set (name x : Bs) (l : List (Bs × Bs)) : (setF name x l).length ≤ l.length + 1 := by
  rw [set_len]
  have := delF_len name l
  omega
theorem viaS_size (minor : Int) (n : Bs) (h : (digI minor).length ≤ 100) : (viaS minor n).length ≤ 103 + n.length := by unfold viaS; simp; omega
theorem viaV_size (l : List (Bs × Bs)) (minor : Int) (n : Bs) (h : (digI minor).length ≤ 100) : (viaV l minor n).length ≤ sumF l + 105 + n.length := by
  have h1 := viaS_size minor n h
  have h2 := joinB_le viB l
  unfold viaV
  split
  · simp; omega
  · omega
theorem sum_forw (m : Bs) (l : List (Bs × Bs)) (minor : Int) (n : Bs) (h : (digI minor).length ≤ 100) : sumF (forwL m l minor n) ≤ 2 * sumF l + 140 + n.length := by
  have h1 := sum_kept m l
  have h2 := viaV_size (keptL m l) minor n h
  have h3 := sum_set viB (viaV (keptL m l) minor n) (keptL m l)
  have h4 : viB.length = 3 := rfl
  unfold forwL viaL
  omega
theorem len_forw (m : Bs) (l : List (Bs × Bs)) (minor : Int) (n : Bs) : (forwL m l minor n).length ≤ l.length + 2 := by
  have h1 := len_kept m l
  have h2 := len_set viB (viaV (keptL m l) minor n) (keptL m l)
  unfold forwL viaL
  omega
/-- what the law says of one name in Connection -/
theorem own_named (m : Bs) (l : List (Bs × Bs)) (minor : Int) (p x : Bs) (hx : x ∈ listF l cnB) : decide (0 < (allF (forwL m l minor p) x).length) = true → (decide (lowL x = lowL viB) || (!decide (m = []) && decide (lowL x = lowL hoB))) = true := by
  intro h
  rcases forw_named m l minor p x hx (of_decide_eq_true h) with h | ⟨h1, h2⟩
  · simp [h]
  · simp [h1, h2]
theorem name_eq (n : Bs) : [44, 32, 49, 46, 49, 32] ++ n = [44, 32] ++ viaS 1 n := by
  unfold viaS digI
  rw [show (1 : Int) = ((1 : Nat) : Int) from rfl, Lib.itoa_nonneg, Lib.decDigits_one (by decide)]; rfl

set_option maxHeartbeats 64000000 in
set_option maxRecDepth 100000 in
theorem once_law (M T : ByteArray) (s : Int) (R : ByteArray) (mi : Int) (vf : Value) (B : ByteArray) (vt : Value) (l tl : List (Bs × Bs)) (p q : Bs) (w : World) (hs : IsFlds w vf l) (hnl : ∀ n c, vf = .slice none n c → c = 0) (ht : IsFlds w vt tl) (hz : SizedF l) (hzt : SizedF tl)
    (hM : M.size ≤ 140737488351232) (hT : T.size ≤ 140737488351232) (hR : R.size ≤ 140737488351232) (hB : B.size ≤ 140737488351232) (hP : p.length ≤ 140737488351232) (hQ : q.length ≤ 140737488351232) (hTen : TenH w) (hmi : -9223372036854775808 ≤ mi ∧ mi ≤ 9223372036854775807) :
    Calls Tryz.prog 4 #[.agg (msgC M T s R mi vf B vt), .string (mkS p), .string (mkS q)] w fun e w' => e = .returned (.bool true) ∧ Below w.heap.size w w' := by
  obtain ⟨a, cap, rfl⟩ : ∃ a cap, vf = .slice a l.length cap := by obtain ⟨a, c, h, -⟩ := hs; exact ⟨a, c, h⟩
  obtain ⟨at2, capt, rfl⟩ : ∃ a cap, vt = .slice a tl.length cap := by obtain ⟨a, c, h, -⟩ := ht; exact ⟨a, c, h⟩
  have hX := Box.new w 24 (msgC M T s R mi (.slice a l.length cap) B (.slice at2 tl.length capt))
  have hB0 := below_alloc w (.cells (msgC M T s R mi (.slice a l.length cap) B (.slice at2 tl.length capt)) 24)
  have HLv := Lib.hid (lives07_any (w.alloc (.cells (msgC M T s R mi (.slice a l.length cap) B (.slice at2 tl.length capt)) 24)))
  have HLg := Lib.hid (fun (W : World) (hb : Below w.heap.size w W) => light07_any M T s R mi (.slice a l.length cap) B (.slice at2 tl.length capt) l tl W (isFlds_below hs hb) (isFlds_below ht hb) hz hzt hM hT hR hB)
  have HS := Lib.hid (fun (W : World) (hb : Below w.heap.size w W) => isFlds_below hs hb)
  have HIt := Lib.hid (fun (W : World) (hb : Below w.heap.size w W) => itoaG_any mi W (hTen.later hb) hmi.1 hmi.2)
  have HX := Lib.hid hX
  have HB0 := Lib.hid hB0
  have hpsz : ((mkS p).size : Int) = (p.length : Int) := by rw [size_mkS]
  have hqsz : ((mkS q).size : Int) = (q.length : Int) := by rw [size_mkS]
  have HNL := Lib.hid hnl
  have hdl := digI_len mi hmi.1 hmi.2
  have hpt := lightM_parts M T R B l tl
  have hfw : ∀ (W : World), Below w.heap.size w W → (M.size ≤ 40 ∧ T.size ≤ 200 ∧ R.size ≤ 100 ∧ B.size ≤ 400) → l.length ≤ 20 → sumF l ≤ 680 → p.length ≤ 100 →
      Calls Tryz.prog 7 #[.agg (msgC M T s R mi (.slice a l.length cap) B (.slice at2 tl.length capt)), .string (mkS p)] W (FwPost M T s R mi B l p W) := fun W hb h1 h2 h3 h4 =>
    forward_any M T s R mi _ B _ l p W (HS.out W hb) hnl (by omega) (by omega) (by omega) (by omega) (by omega) (by omega) (by omega) hdl (fun W2 hb2 => HIt.out W2 (hb.trans (hb2.mono hb.size)))
  clear hs hnl ht hz hzt hM hT hR hB hX hB0 hTen hmi
  unfold msgC at *
  cases hd : lightM M T R B l tl
  · rw [hd] at HLg
    clear hd hpt hfw hdl
    as_aux_lemma =>
      go_enter Tryz.func4, Tryz.ntmps4
      go_wp2_with fail
      refine HLv.out.mono ?_
      rintro e w1 ⟨rfl, hb⟩
      have HX1 := Lib.hid (HX.out.later hb)
      have HB1 := Lib.hid (HB0.out.trans (hb.mono HB0.out.size))
      have u0 := HX1.out.cell 0 _ rfl
      have u1 := HX1.out.cell 1 _ rfl
      have u2 := HX1.out.cell 2 _ rfl
      have u3 := HX1.out.cell 3 _ rfl
      have u4 := HX1.out.cell 4 _ rfl
      have u5 := HX1.out.cell 5 _ rfl
      have u6 := HX1.out.cell 6 _ rfl
      have u7 := HX1.out.cell 7 _ rfl
      clear hb HLv
      go_wp2_with fail
      refine (HLg.out _ HB1.out).mono ?_
      rintro e w2 ⟨rfl, hb⟩
      have HX2 := Lib.hid (HX1.out.later hb)
      have HB2 := Lib.hid (HB1.out.trans (hb.mono HB1.out.size))
      clear hb u0 u1 u2 u3 u4 u5 u6 u7 HX1
      go_wp2_with fail
      go_ret
      exact ⟨rfl, HB2.out⟩
  rw [hd] at HLg
  obtain ⟨hszs, ⟨hl20, hsum⟩, -⟩ := hpt hd
  clear hd hpt
  by_cases hp1 : 100 < p.length
  · have m1 : (100 : Int) < ((mkS p).size : Int) := by omega
    clear hp1 hpsz hqsz hfw hszs hl20 hsum hdl
    as_aux_lemma =>
      go_enter Tryz.func4, Tryz.ntmps4
      go_wp2_with fail
      refine HLv.out.mono ?_
      rintro e w1 ⟨rfl, hb⟩
      have HX1 := Lib.hid (HX.out.later hb)
      have HB1 := Lib.hid (HB0.out.trans (hb.mono HB0.out.size))
      have u0 := HX1.out.cell 0 _ rfl
      have u1 := HX1.out.cell 1 _ rfl
      have u2 := HX1.out.cell 2 _ rfl
      have u3 := HX1.out.cell 3 _ rfl
      have u4 := HX1.out.cell 4 _ rfl
      have u5 := HX1.out.cell 5 _ rfl
      have u6 := HX1.out.cell 6 _ rfl
      have u7 := HX1.out.cell 7 _ rfl
      clear hb HLv
      go_wp2_with fail
      refine (HLg.out _ HB1.out).mono ?_
      rintro e w2 ⟨rfl, hb⟩
      have HX2 := Lib.hid (HX1.out.later hb)
      have HB2 := Lib.hid (HB1.out.trans (hb.mono HB1.out.size))
      clear hb u0 u1 u2 u3 u4 u5 u6 u7 HX1
      go_wp2_with fail
      go_ret
      exact ⟨rfl, HB2.out⟩
  have m1 : ¬ (100 : Int) < ((mkS p).size : Int) := by omega
  by_cases hq1 : 100 < q.length
  · have m2 : (100 : Int) < ((mkS q).size : Int) := by omega
    clear hp1 hq1 hpsz hqsz hfw hszs hl20 hsum hdl
    as_aux_lemma =>
      go_enter Tryz.func4, Tryz.ntmps4
      go_wp2_with fail
      refine HLv.out.mono ?_
      rintro e w1 ⟨rfl, hb⟩
      have HX1 := Lib.hid (HX.out.later hb)
      have HB1 := Lib.hid (HB0.out.trans (hb.mono HB0.out.size))
      have u0 := HX1.out.cell 0 _ rfl
      have u1 := HX1.out.cell 1 _ rfl
      have u2 := HX1.out.cell 2 _ rfl
      have u3 := HX1.out.cell 3 _ rfl
      have u4 := HX1.out.cell 4 _ rfl
      have u5 := HX1.out.cell 5 _ rfl
      have u6 := HX1.out.cell 6 _ rfl
      have u7 := HX1.out.cell 7 _ rfl
      clear hb HLv
      go_wp2_with fail
      refine (HLg.out _ HB1.out).mono ?_
      rintro e w2 ⟨rfl, hb⟩
      have HX2 := Lib.hid (HX1.out.later hb)
      have HB2 := Lib.hid (HB1.out.trans (hb.mono HB1.out.size))
      clear hb u0 u1 u2 u3 u4 u5 u6 u7 HX1
      go_wp2_with fail
      go_ret
      exact ⟨rfl, HB2.out⟩
  have m2 : ¬ (100 : Int) < ((mkS q).size : Int) := by omega
  have HFw := Lib.hid (fun (W : World) (hb : Below w.heap.size w W) => hfw W hb hszs hl20 hsum (by omega))
  have HTk : Hid (∀ (x : Bs) (W : World), x.length ≤ 100 → Calls Tryz.prog 18 #[.string (mkS x)] W fun e w' => e = .returned (.bool (tokL x)) ∧ W = w') := fun x W hx => by
    have h := rToken_any (mkS x) W (by rw [size_mkS]; omega)
    rw [bs_mkS] at h
    exact h
  have HSz := Lib.hid (⟨hszs, hl20, hsum, (show p.length ≤ 100 by omega), (show q.length ≤ 100 by omega), hdl⟩ : _ ∧ _ ∧ _ ∧ _ ∧ _ ∧ _)
  have hps : (mkS p).size ≤ 100 := by rw [size_mkS]; omega
  have hqs : (mkS q).size ≤ 100 := by rw [size_mkS]; omega
  unfold FwPost at HFw
  unfold msgC at *
  clear hfw hszs hl20 hsum hp1 hq1 hpsz hqsz hdl
  cases hk : tokB p
  · rw [hk] at HFw
    simp only [Bool.false_eq_true, if_false] at HFw
    have HK := Lib.hid hk
    clear hk
    as_aux_lemma =>
      go_enter Tryz.func4, Tryz.ntmps4
      go_wp2_with fail
      refine HLv.out.mono ?_
      rintro e w1 ⟨rfl, hb⟩
      have HX1 := Lib.hid (HX.out.later hb)
      have HB1 := Lib.hid (HB0.out.trans (hb.mono HB0.out.size))
      have u0 := HX1.out.cell 0 _ rfl
      have u1 := HX1.out.cell 1 _ rfl
      have u2 := HX1.out.cell 2 _ rfl
      have u3 := HX1.out.cell 3 _ rfl
      have u4 := HX1.out.cell 4 _ rfl
      have u5 := HX1.out.cell 5 _ rfl
      have u6 := HX1.out.cell 6 _ rfl
      have u7 := HX1.out.cell 7 _ rfl
      clear hb HLv
      go_wp2_with fail
      refine (HLg.out _ HB1.out).mono ?_
      rintro e w2 ⟨rfl, hb⟩
      have HX2 := Lib.hid (HX1.out.later hb)
      have HB2 := Lib.hid (HB1.out.trans (hb.mono HB1.out.size))
      clear hb u0 u1 u2 u3 u4 u5 u6 u7 HX1
      clear HLg
      have u0 := HX2.out.cell 0 _ rfl
      have u1 := HX2.out.cell 1 _ rfl
      have u2 := HX2.out.cell 2 _ rfl
      have u3 := HX2.out.cell 3 _ rfl
      have u4 := HX2.out.cell 4 _ rfl
      have u5 := HX2.out.cell 5 _ rfl
      have u6 := HX2.out.cell 6 _ rfl
      have u7 := HX2.out.cell 7 _ rfl
      go_wp2_with fail
      refine (HFw.out _ HB2.out).mono ?_
      rintro e w3 ⟨hb, rfl⟩
      have HB3 := Lib.hid (HB2.out.trans (hb.mono HB2.out.size))
      clear hb u0 u1 u2 u3 u4 u5 u6 u7 HFw
      go_wp2_with fail
      have HT3 := Lib.hid (HTk.out p (w3.alloc (Obj.cells #[.string ⟨#[]⟩, .string ⟨#[]⟩, .int .i64 0, .string ⟨#[]⟩, .int .i64 0, .slice none 0 0, .string ⟨#[]⟩, .slice none 0 0] 24)) HSz.out.2.2.2.1)
      rw [← tok_same, HK.out] at HT3
      refine HT3.out.mono ?_
      rintro e w4 ⟨rfl, rfl⟩
      go_wp2_with fail
      go_ret
      exact ⟨rfl, HB3.out.alloc HB3.out.size _⟩
  rw [hk] at HFw
  simp only [if_true] at HFw
  clear hk
  have FH := Lib.hid (forw_hop (bs M) l mi p)
  have FN := Lib.hid (own_named (bs M) l mi p)
  have FJ := Lib.hid (forw_twice (bs M) l mi p q)
  have FD := Lib.hid (forw_same (bs M) l mi p q)
  have FS := Lib.hid (show sumF (forwL (bs M) l mi p) ≤ 1600 by have := sum_forw (bs M) l mi p HSz.out.2.2.2.2.2; have := HSz.out; omega)
  have FL := Lib.hid (show (forwL (bs M) l mi p).length ≤ 22 by have := len_forw (bs M) l mi p; have := HSz.out.2.1; omega)
  generalize forwL (bs M) l mi p = A at *
  go_enter Tryz.func4, Tryz.ntmps4
  go_wp2_with fail
  refine HLv.out.mono ?_
  rintro e w1 ⟨rfl, hb⟩
  have HX1 := Lib.hid (HX.out.later hb)
  have HB1 := Lib.hid (HB0.out.trans (hb.mono HB0.out.size))
  have u0 := HX1.out.cell 0 _ rfl
  have u1 := HX1.out.cell 1 _ rfl
  have u2 := HX1.out.cell 2 _ rfl
  have u3 := HX1.out.cell 3 _ rfl
  have u4 := HX1.out.cell 4 _ rfl
  have u5 := HX1.out.cell 5 _ rfl
  have u6 := HX1.out.cell 6 _ rfl
  have u7 := HX1.out.cell 7 _ rfl
  clear hb HLv
  go_wp2_with fail
  refine (HLg.out _ HB1.out).mono ?_
  rintro e w2 ⟨rfl, hb⟩
  have HX2 := Lib.hid (HX1.out.later hb)
  have HB2 := Lib.hid (HB1.out.trans (hb.mono HB1.out.size))
  clear hb u0 u1 u2 u3 u4 u5 u6 u7 HX1
  clear HLg
  have u0 := HX2.out.cell 0 _ rfl
  have u1 := HX2.out.cell 1 _ rfl
  have u2 := HX2.out.cell 2 _ rfl
  have u3 := HX2.out.cell 3 _ rfl
  have u4 := HX2.out.cell 4 _ rfl
  have u5 := HX2.out.cell 5 _ rfl
  have u6 := HX2.out.cell 6 _ rfl
  have u7 := HX2.out.cell 7 _ rfl
  go_wp2_with fail
  refine (HFw.out _ HB2.out).mono ?_
  rintro e w3 ⟨hb, vA, rfl, ho⟩
  have HX3 := Lib.hid (HX2.out.later hb)
  have hB3 := HB2.out.trans (hb.mono HB2.out.size)
  clear u0 u1 u2 u3 u4 u5 u6 u7 HFw HX2
  obtain ⟨aA, cA, rfl⟩ : ∃ a c, vA = .slice a A.length c := by obtain ⟨a, c, h, -⟩ := isFlds_own ho; exact ⟨a, c, h⟩
  have HnA := Lib.hid (isFlds_nil_cap ho)
  have hal := below_alloc w3 (Obj.cells #[.string M, .string T, .int .i64 s, .string R, .int .i64 1, .slice aA A.length cA, .string B, .slice none 0 0] 24)
  have HA4 := Lib.hid (isFlds_below (isFlds_own ho) hal)
  have HX4 := Lib.hid (HX3.out.later hal)
  have HY4 := Lib.hid (Box.new w3 24 #[.string M, .string T, .int .i64 s, .string R, .int .i64 1, .slice aA A.length cA, .string B, .slice none 0 0])
  have HB4 := Lib.hid (hB3.trans (hal.mono hB3.size))
  have q4 := HX4.out.cell 5 _ rfl
  have HLi := Lib.hid (fun (W : World) (hb : Below w.heap.size w W) => rlist_any (.slice a l.length cap) l cnB W (HS.out W hb) (by have := HSz.out; omega) (by decide) (by have := HSz.out; omega))
  unfold ListPost at HLi
  clear ho hb hal hB3 HX3
  go_wp2_with fail
  generalize w3.alloc (Obj.cells #[.string M, .string T, .int .i64 s, .string R, .int .i64 1, .slice aA A.length cA, .string B, .slice none 0 0] 24) = w4 at *
  generalize w3.heap.size = gA at *
  clear m1 m2 q4
  refine (HLi.out _ HB4.out).mono ?_
  rintro e w5 ⟨v5, rfl, ho, hb⟩
  have HA5 := Lib.hid (isFlds_below HA4.out hb)
  have HX5 := Lib.hid (HX4.out.later hb)
  have HY5 := Lib.hid (HY4.out.later hb)
  have HB5 := Lib.hid (HB4.out.trans (hb.mono HB4.out.size))
  have HI5 := Lib.hid (isStrs_own ho)
  obtain ⟨a5, c5, rfl⟩ : ∃ a c, v5 = .slice a (listF l cnB).length c := by obtain ⟨a, c, h, -⟩ := isStrs_own ho; exact ⟨a, c, h⟩
  as_aux_lemma =>
    have FP := Lib.hid (fun (x : Bs) (hx : x ∈ listF l cnB) => Nat.le_trans (listF_piece cnB l x hx) HSz.out.2.2.1)
    have hQl : (listF l cnB).length ≤ 680 := Nat.le_trans (listF_len cnB l) HSz.out.2.2.1
    clear ho hb HA4 HX4 HY4 HB4 HLi
    generalize hQ2 : listF l cnB = Q at *
    clear hQ2
    go_wp2_with fail
    have hAl : A.length ≤ 22 := FL.out
    go_loopw [10] (fun vi wr => ∃ i : Nat, i ≤ A.length ∧ vi = .int .i64 i ∧ Hid (Below w5.heap.size w5 wr)) (fun vi _ => A.length - (RowKit.intOf vi).toNat)
    case atStart => exact ⟨0, Nat.zero_le _, rfl, Below.refl _ _⟩
    case round =>
      obtain ⟨i, hi, rfl, HB⟩ := hrel
      rename World => W
      have qa := (HY5.out.later HB.out).cell 5 _ rfl
      by_cases hlt : i < A.length
      · obtain ⟨a', c', e', hcap, hc⟩ := isFlds_below HA5.out HB.out
        injection e' with e1 _ e2
        subst e1 e2
        obtain ⟨b, o, rfl, hc0, hc1⟩ := hc i (A.getD i ([], [])) (by simp [List.getD, hlt])
        have hmem : A.getD i ([], []) ∈ A := by simp [List.getD, hlt]
        have hfh := FH.out _ hmem
        have hfl := sumF_mem A _ hmem
        clear hc hmem
        generalize A.getD i ([], []) = f at *
        obtain ⟨n, x⟩ := f
        simp only at hc0 hc1 hfh hfl
        have hHp := hop_any n W (by have := FS.out; omega)
        rw [hfh] at hHp
        have HHp := Lib.hid hHp
        have g0 : (0 : Int) ≤ (i : Int) := by omega
        have g1 : (i : Int) < (A.length : Int) := by omega
        clear hHp hfh hfl hc1
        go_wp2_with fail
        refine HHp.out.mono ?_
        rintro e w6 ⟨rfl, hb⟩
        have HB6 := Lib.hid (HB.out.trans (hb.mono HB.out.size))
        clear hb HHp
        go_wp2_with fail
        exact ⟨⟨i + 1, hlt, by go_num, HB6⟩, by simp [RowKit.intOf]; omega⟩
      · obtain rfl : i = A.length := by omega
        go_wp2_with fail
        clear qa hi hlt
        go_loopw [11] (fun vi wr => ∃ i : Nat, i ≤ Q.length ∧ vi = .int .i64 i ∧ Hid (Below w5.heap.size w5 wr)) (fun vi _ => Q.length - (RowKit.intOf vi).toNat)
        case atStart => exact ⟨0, Nat.zero_le _, rfl, HB.out⟩
        case round =>
          obtain ⟨i, hi, rfl, HB2⟩ := hrel
          rename World => W2
          by_cases hlt : i < Q.length
          · obtain ⟨a', c', e', hc⟩ := isStrs_belowO HI5.out HB2.out
            injection e' with e1 _ e2
            subst e1 e2
            obtain ⟨b, o, rfl, hc0⟩ := hc i (Q.getD i []) (by simp [List.getD, hlt])
            have hmem : Q.getD i [] ∈ Q := by simp [List.getD, hlt]
            have hxl := FP.out _ hmem
            have hfn := FN.out _ hmem
            clear hc hmem
            generalize Q.getD i [] = x at *
            have qa := (HY5.out.later HB2.out).cell 5 _ rfl
            have HX6 := Lib.hid (HX5.out.later HB2.out)
            have HGt := Lib.hid (rget_any (.slice aA A.length cA) A x W2.drew (isFlds_below HA5.out HB2.out.drew) (by have := FS.out; omega) (by omega) (by have := FL.out; omega))
            have HSv : Hid (∀ Wz : World, Calls Tryz.prog 21 #[.string (mkS x), .string ⟨#[86, 105, 97]⟩] Wz fun e w' => e = .returned (.bool (decide (lowL x = lowL viB))) ∧ Below Wz.heap.size Wz w') := fun Wz => by
              have h := rsm_any (mkS x) (mkS viB) Wz (by rw [size_mkS]; omega) (by decide)
              rw [bs_mkS, bs_mkS] at h
              exact h
            have HSh : Hid (∀ Wz : World, Calls Tryz.prog 21 #[.string (mkS x), .string ⟨#[72, 111, 115, 116]⟩] Wz fun e w' => e = .returned (.bool (decide (lowL x = lowL hoB))) ∧ Below Wz.heap.size Wz w') := fun Wz => by
              have h := rsm_any (mkS x) (mkS hoB) Wz (by rw [size_mkS]; omega) (by decide)
              rw [bs_mkS, bs_mkS] at h
              exact h
            generalize decide (0 < (allF A x).length) = d0 at *
            generalize decide (lowL x = lowL viB) = d1 at *
            generalize decide (lowL x = lowL hoB) = d2 at *
            generalize mkS (joinB (allF A x)) = J at *
            have FX := Lib.hid hfn
            have g0 : (0 : Int) ≤ (i : Int) := by omega
            have g1 : (i : Int) < (Q.length : Int) := by omega
            clear hfn hxl
            go_wp2_with fail
            refine wp_region_held_drew (S := (fun Wz => Wz.cell? ⟨gA, 5, none⟩ = some (.slice aA A.length cA) ∧ Wz.cell? ⟨b, o + i, none⟩ = some (.string (mkS x)))) (by kernel_rfl) ⟨qa, hc0⟩ (fun hHeld => ?_)
            refine wpAnyH_take (i := 0) (v := ?_) rfl (by kernel_rfl) (by kernel_rfl) (by kernel_rfl) (fun _ _ _ h => h) (Or.inl ⟨by kernel_rfl, ?_⟩) (by assumption) ?_
            case refine_2 => (intro Wz hSw; go_simp; try with_reducible rfl)
            try simp only [Act.put, List.getElem_toArray, List.getElem_cons_zero, List.setIfInBounds_toArray, List.set_cons_zero, List.set_cons_succ]
            refine wpAnyH_take (i := 1) (v := ?_) rfl (by kernel_rfl) (by kernel_rfl) (by kernel_rfl) (fun _ _ _ h => h) (Or.inl ⟨by kernel_rfl, ?_⟩) (by assumption) ?_
            case refine_2 => (intro Wz hSw; have u := hSw.1; go_simp; try with_reducible rfl)
            try simp only [Act.put, List.getElem_toArray, List.getElem_cons_succ, List.getElem_cons_zero, List.setIfInBounds_toArray, List.set_cons_zero, List.set_cons_succ]
            refine wpAnyH_take (i := 2) (v := ?_) rfl (by kernel_rfl) (by kernel_rfl) (by kernel_rfl) (fun _ _ _ h => h) (Or.inl ⟨by kernel_rfl, ?_⟩) (by assumption) ?_
            case refine_2 => (intro Wz hSw; go_simp; try with_reducible rfl)
            try simp only [Act.put, List.getElem_toArray, List.getElem_cons_succ, List.getElem_cons_zero, List.setIfInBounds_toArray, List.set_cons_zero, List.set_cons_succ]
            refine wpAnyH_take (i := 3) (v := ?_) rfl (by kernel_rfl) (by kernel_rfl) (by kernel_rfl) (fun _ _ _ h => h) (Or.inl ⟨by kernel_rfl, ?_⟩) (by assumption) ?_
            case refine_2 => (intro Wz hSw; go_simp; try with_reducible rfl)
            try simp only [Act.put, List.getElem_toArray, List.getElem_cons_succ, List.getElem_cons_zero, List.setIfInBounds_toArray, List.set_cons_zero, List.set_cons_succ]
            refine wpAnyH_take (i := 4) (v := ?_) rfl (by kernel_rfl) (by kernel_rfl) (by kernel_rfl) (fun _ _ _ h => h) (Or.inl ⟨by kernel_rfl, ?_⟩) (by assumption) ?_
            case refine_2 => (intro Wz hSw; go_simp; try with_reducible rfl)
            try simp only [Act.put, List.getElem_toArray, List.getElem_cons_succ, List.getElem_cons_zero, List.setIfInBounds_toArray, List.set_cons_zero, List.set_cons_succ]
            refine wpAnyH_take (i := 5) (v := ?_) rfl (by kernel_rfl) (by kernel_rfl) (by kernel_rfl) (fun _ _ _ h => h) (Or.inl ⟨by kernel_rfl, ?_⟩) (by assumption) ?_
            case refine_2 => (intro Wz hSw; have u := hSw.2; go_simp; try with_reducible rfl)
            try simp only [Act.put, List.getElem_toArray, List.getElem_cons_succ, List.getElem_cons_zero, List.setIfInBounds_toArray, List.set_cons_zero, List.set_cons_succ]
            refine wpAnyH_ready (rs := [6]) (by kernel_rfl) (by simp) ?_
            refine AllReadyH.cons rfl (fun K hK => ?_) AllReadyH.nil
            go_simp
            refine (HGt.out).mono ?_
            rintro e w7 ⟨rfl, hb⟩
            replace hb : Below W2.heap.size W2 w7 := ((Below.refl W2.heap.size W2).drew).trans hb
            have hHeld7 : w7.cell? ⟨gA, 5, none⟩ = some (.slice aA A.length cA) ∧ w7.cell? ⟨b, o + i, none⟩ = some (.string (mkS x)) := ⟨(hb.cell (p := ⟨gA, 5, none⟩) (cell_lt (p := ⟨gA, 5, none⟩) qa)).trans qa, (hb.cell (p := ⟨b, o + i, none⟩) (cell_lt (p := ⟨b, o + i, none⟩) hc0)).trans hc0⟩
            have HB7 := Lib.hid (HB2.out.trans (hb.mono HB2.out.size))
            have HX7 := Lib.hid (HX6.out.later hb)
            clear hb
            go_simp
            refine hK.out _ _ (by assumption) (fun hHeld2 => ?_)
            clear hK K hHeld2
            try simp only [Act.put, List.getElem_toArray, List.getElem_cons_succ, List.getElem_cons_zero, List.setIfInBounds_toArray, List.set_cons_zero, List.set_cons_succ]
            refine wpAnyH_take (i := 7) (v := ?_) rfl (by kernel_rfl) (by kernel_rfl) (by kernel_rfl) (fun _ _ _ h => h) (Or.inl ⟨by kernel_rfl, ?_⟩) (by assumption) ?_
            case refine_2 => (intro Wz hSw; go_simp; try with_reducible rfl)
            try simp only [Act.put, List.getElem_toArray, List.getElem_cons_succ, List.getElem_cons_zero, List.setIfInBounds_toArray, List.set_cons_zero, List.set_cons_succ]
            refine wpAnyH_take (i := 8) (v := ?_) rfl (by kernel_rfl) (by kernel_rfl) (by kernel_rfl) (fun _ _ _ h => h) (Or.inl ⟨by kernel_rfl, ?_⟩) (by assumption) ?_
            case refine_2 => (intro Wz hSw; go_simp; try with_reducible rfl)
            try simp only [Act.put, List.getElem_toArray, List.getElem_cons_succ, List.getElem_cons_zero, List.setIfInBounds_toArray, List.set_cons_zero, List.set_cons_succ]
            refine wpAnyH_take (i := 9) (v := ?_) rfl (by kernel_rfl) (by kernel_rfl) (by kernel_rfl) (fun _ _ _ h => h) (Or.inl ⟨by kernel_rfl, ?_⟩) (by assumption) ?_
            case refine_2 => (intro Wz hSw; go_simp; try with_reducible rfl)
            try simp only [Act.put, List.getElem_toArray, List.getElem_cons_succ, List.getElem_cons_zero, List.setIfInBounds_toArray, List.set_cons_zero, List.set_cons_succ]
            refine wpAnyH_take (i := 10) (v := ?_) rfl (by kernel_rfl) (by kernel_rfl) (by kernel_rfl) (fun _ _ _ h => h) (Or.inl ⟨by kernel_rfl, ?_⟩) (by assumption) ?_
            case refine_2 => (intro Wz hSw; go_simp; try with_reducible rfl)
            try simp only [Act.put, List.getElem_toArray, List.getElem_cons_succ, List.getElem_cons_zero, List.setIfInBounds_toArray, List.set_cons_zero, List.set_cons_succ]
            refine wpAnyH_take (i := 11) (v := ?_) rfl (by kernel_rfl) (by kernel_rfl) (by kernel_rfl) (fun _ _ _ h => h) (Or.inl ⟨by kernel_rfl, ?_⟩) (by assumption) ?_
            case refine_2 => (intro Wz hSw; go_simp; try with_reducible rfl)
            try simp only [Act.put, List.getElem_toArray, List.getElem_cons_succ, List.getElem_cons_zero, List.setIfInBounds_toArray, List.set_cons_zero, List.set_cons_succ]
            refine wpAnyH_done (by kernel_rfl) ?_ _
            have hc7 := hHeld7.2
            clear hHeld hHeld7 qa hc0 HGt HX6
            cases d1
            · by_cases hMe : M = ⟨#[]⟩
              · have hd0 : d0 = false := by cases d0; rfl; have h := FX.out rfl; rw [hMe] at h; simp [bs] at h
                subst hd0 hMe
                go_wp2_with fail
                refine (HSv.out w7).mono ?_
                rintro e w8 ⟨rfl, hb⟩
                have HB8 := Lib.hid (HB7.out.trans (hb.mono HB7.out.size))
                have q8 := (HX7.out.later hb).cell 0 _ rfl
                have hc8 := (hb.cell (p := ⟨b, o + i, none⟩) (cell_lt (p := ⟨b, o + i, none⟩) hc7)).trans hc7
                clear hb hc7
                go_wp2_with fail
                exact ⟨⟨i + 1, hlt, by go_num, HB8⟩, by simp [RowKit.intOf]; omega⟩
              · have hme : M.toList.isEmpty = false := by rw [toList_bs]; cases h : bs M with | nil => exact absurd (by rw [← mkS_bs M, h]; rfl) hMe | cons _ _ => rfl
                clear hMe
                cases d2
                · have hd0 : d0 = false := by cases d0; rfl; have h := FX.out rfl; simp at h
                  subst hd0
                  go_wp2_with fail
                  refine (HSv.out w7).mono ?_
                  rintro e w8 ⟨rfl, hb⟩
                  have HB8 := Lib.hid (HB7.out.trans (hb.mono HB7.out.size))
                  have q8 := (HX7.out.later hb).cell 0 _ rfl
                  have hc8 := (hb.cell (p := ⟨b, o + i, none⟩) (cell_lt (p := ⟨b, o + i, none⟩) hc7)).trans hc7
                  clear hb hc7
                  go_wp2_with fail
                  refine (HSh.out w8).mono ?_
                  rintro e w9 ⟨rfl, hb⟩
                  have HB9 := Lib.hid (HB8.out.trans (hb.mono HB8.out.size))
                  clear hb hc8 q8
                  go_wp2_with fail
                  exact ⟨⟨i + 1, hlt, by go_num, HB9⟩, by simp [RowKit.intOf]; omega⟩
                · cases d0
                  · skip
                    go_wp2_with fail
                    refine (HSv.out w7).mono ?_
                    rintro e w8 ⟨rfl, hb⟩
                    have HB8 := Lib.hid (HB7.out.trans (hb.mono HB7.out.size))
                    have q8 := (HX7.out.later hb).cell 0 _ rfl
                    have hc8 := (hb.cell (p := ⟨b, o + i, none⟩) (cell_lt (p := ⟨b, o + i, none⟩) hc7)).trans hc7
                    clear hb hc7
                    go_wp2_with fail
                    refine (HSh.out w8).mono ?_
                    rintro e w9 ⟨rfl, hb⟩
                    have HB9 := Lib.hid (HB8.out.trans (hb.mono HB8.out.size))
                    clear hb hc8 q8
                    go_wp2_with fail
                    exact ⟨⟨i + 1, hlt, by go_num, HB9⟩, by simp [RowKit.intOf]; omega⟩
                  · skip
                    go_wp2_with fail
                    refine (HSv.out w7).mono ?_
                    rintro e w8 ⟨rfl, hb⟩
                    have HB8 := Lib.hid (HB7.out.trans (hb.mono HB7.out.size))
                    have q8 := (HX7.out.later hb).cell 0 _ rfl
                    have hc8 := (hb.cell (p := ⟨b, o + i, none⟩) (cell_lt (p := ⟨b, o + i, none⟩) hc7)).trans hc7
                    clear hb hc7
                    go_wp2_with fail
                    refine (HSh.out w8).mono ?_
                    rintro e w9 ⟨rfl, hb⟩
                    have HB9 := Lib.hid (HB8.out.trans (hb.mono HB8.out.size))
                    clear hb hc8 q8
                    go_wp2_with fail
                    exact ⟨⟨i + 1, hlt, by go_num, HB9⟩, by simp [RowKit.intOf]; omega⟩
            · cases d0
              · skip
                go_wp2_with fail
                refine (HSv.out w7).mono ?_
                rintro e w8 ⟨rfl, hb⟩
                have HB8 := Lib.hid (HB7.out.trans (hb.mono HB7.out.size))
                have q8 := (HX7.out.later hb).cell 0 _ rfl
                have hc8 := (hb.cell (p := ⟨b, o + i, none⟩) (cell_lt (p := ⟨b, o + i, none⟩) hc7)).trans hc7
                clear hb hc7
                go_wp2_with fail
                exact ⟨⟨i + 1, hlt, by go_num, HB8⟩, by simp [RowKit.intOf]; omega⟩
              · skip
                go_wp2_with fail
                refine (HSv.out w7).mono ?_
                rintro e w8 ⟨rfl, hb⟩
                have HB8 := Lib.hid (HB7.out.trans (hb.mono HB7.out.size))
                have q8 := (HX7.out.later hb).cell 0 _ rfl
                have hc8 := (hb.cell (p := ⟨b, o + i, none⟩) (cell_lt (p := ⟨b, o + i, none⟩) hc7)).trans hc7
                clear hb hc7
                go_wp2_with fail
                exact ⟨⟨i + 1, hlt, by go_num, HB8⟩, by simp [RowKit.intOf]; omega⟩
          · obtain rfl : i = Q.length := by omega
            have HAW := Lib.hid (isFlds_below HA5.out HB2.out)
            have HXW := Lib.hid (HX5.out.later HB2.out)
            have HYW := Lib.hid (HY5.out.later HB2.out)
            have HBW := Lib.hid (HB5.out.trans (HB2.out.mono HB5.out.size))
            have hfw2 := forward_any M T s R 1 (.slice aA A.length cA) B (.slice none 0 0) A q W2 HAW.out HnA.out (by have := FS.out; omega) (by have := FL.out; omega) (by have := HSz.out; omega) (by have := HSz.out; omega) (by have := HSz.out; omega) (by have := HSz.out; omega) (by have := HSz.out; omega) (by unfold digI; rw [show (1 : Int) = ((1 : Nat) : Int) from rfl, Lib.itoa_nonneg, Lib.decDigits_one (by decide)]; decide) (fun Wz _ => itoaS_any 1 Wz (by decide))
            unfold FwPost at hfw2
            unfold msgC at hfw2
            have HFw2 := Lib.hid hfw2
            have u0 := HYW.out.cell 0 _ rfl
            have u1 := HYW.out.cell 1 _ rfl
            have u2 := HYW.out.cell 2 _ rfl
            have u3 := HYW.out.cell 3 _ rfl
            have u4 := HYW.out.cell 4 _ rfl
            have u5 := HYW.out.cell 5 _ rfl
            have u6 := HYW.out.cell 6 _ rfl
            have u7 := HYW.out.cell 7 _ rfl
            clear hfw2 hi hlt HI5 FP FN HB HB2 HA5 HX5 HY5 HB5 FH HS HIt HX HB0 HB1
            cases hk2 : tokB q
            · rw [hk2] at HFw2
              simp only [Bool.false_eq_true, if_false] at HFw2
              have HK2 := Lib.hid hk2
              clear hk2
              go_wp2_with fail
              refine HFw2.out.mono ?_
              rintro e w8 ⟨hb, rfl⟩
              have HB8 := Lib.hid (HBW.out.trans (hb.mono HBW.out.size))
              clear hb u0 u1 u2 u3 u4 u5 u6 u7 HFw2
              go_wp2_with fail
              have HT8 := Lib.hid (HTk.out q (w8.alloc (Obj.cells #[.string ⟨#[]⟩, .string ⟨#[]⟩, .int .i64 0, .string ⟨#[]⟩, .int .i64 0, .slice none 0 0, .string ⟨#[]⟩, .slice none 0 0] 24)) HSz.out.2.2.2.2.1)
              rw [← tok_same, HK2.out] at HT8
              refine HT8.out.mono ?_
              rintro e w9 ⟨rfl, rfl⟩
              go_wp2_with fail
              go_ret
              exact ⟨rfl, HB8.out.alloc HB8.out.size _⟩
            · rw [hk2] at HFw2
              simp only [if_true] at HFw2
              clear hk2
              have hsB : sumF (forwL (bs M) A 1 q) ≤ 4000 := by have := sum_forw (bs M) A 1 q (by unfold digI; rw [show (1 : Int) = ((1 : Nat) : Int) from rfl, Lib.itoa_nonneg, Lib.decDigits_one (by decide)]; decide); have := FS.out; have := HSz.out; omega
              have hlB : (forwL (bs M) A 1 q).length ≤ 30 := by have := len_forw (bs M) A 1 q; have := FL.out; omega
              generalize forwL (bs M) A 1 q = AB at *
              go_wp2_with fail
              refine HFw2.out.mono ?_
              rintro e w8 ⟨hb, vB, rfl, ho⟩
              obtain ⟨aB, cB, rfl⟩ : ∃ a c, vB = .slice a AB.length c := by obtain ⟨a, c, h, -⟩ := isFlds_own ho; exact ⟨a, c, h⟩
              have hal := below_alloc w8 (Obj.cells #[.string M, .string T, .int .i64 s, .string R, .int .i64 1, .slice aB AB.length cB, .string B, .slice none 0 0] 24)
              have hB8 := HBW.out.trans (hb.mono HBW.out.size)
              have HAB9 := Lib.hid (isFlds_below (isFlds_own ho) hal)
              have HA9 := Lib.hid (isFlds_below (isFlds_below HAW.out hb) hal)
              have HX9 := Lib.hid ((HXW.out.later hb).later hal)
              have HY9 := Lib.hid ((HYW.out.later hb).later hal)
              have HZ9 := Lib.hid (Box.new w8 24 #[.string M, .string T, .int .i64 s, .string R, .int .i64 1, .slice aB AB.length cB, .string B, .slice none 0 0])
              have HB9 := Lib.hid (hB8.trans (hal.mono hB8.size))
              have q9 := HY9.out.cell 5 _ rfl
              clear ho hb hal hB8 u0 u1 u2 u3 u4 u5 u6 u7 HFw2 HAW HXW HYW HBW
              go_wp2_with fail
              generalize w8.alloc (Obj.cells #[.string M, .string T, .int .i64 s, .string R, .int .i64 1, .slice aB AB.length cB, .string B, .slice none 0 0] 24) = w9 at *
              generalize w8.heap.size = gB at *
              have HGa := Lib.hid (rget_any (.slice aA A.length cA) A viB w9 HA9.out (by have := FS.out; omega) (by decide) (by have := FL.out; omega))
              have FV : Hid (mkS (joinB (allF AB viB)) = mkS (joinB (allF A viB)) ++ ⟨#[44, 32, 49, 46, 49, 32]⟩ ++ mkS q) := by
                show _ = _
                rw [FJ.out, ← name_eq, ← List.append_assoc, ← mkS_append, ← mkS_append]
                rfl
              have hVa : (mkS (joinB (allF A viB))).size ≤ 2000 := by rw [size_mkS]; have := joinB_le viB A; have := FS.out; omega
              have HGb := Lib.hid (fun (Wz : World) (hf : IsFlds Wz (.slice aB AB.length cB) AB) => rget_any (.slice aB AB.length cB) AB viB Wz hf (by omega) (by decide) (by omega))
              rw [FV.out] at HGb
              have HDa := Lib.hid (fun (Wz : World) (hf : IsFlds Wz (.slice aA A.length cA) A) => rdel_any (.slice aA A.length cA) A viB Wz hf (sum_each _ (by have := FS.out; omega)) (by decide) (by have := FL.out; omega))
              have HDb := Lib.hid (fun (Wz : World) (hf : IsFlds Wz (.slice aB AB.length cB) AB) => rdel_any (.slice aB AB.length cB) AB viB Wz hf (sum_each _ (by omega)) (by decide) (by omega))
              rw [FD.out] at HDb
              have HSk := Lib.hid (fun (Wz : World) (v1 v2 : Value) (h1 : IsFlds Wz v1 (delF viB A)) (h2 : IsFlds Wz v2 (delF viB A)) => ksame_self v1 v2 (delF viB A) Wz h1 h2 (by have := delF_len viB A; have := FL.out; omega))
              unfold OwnPost at HDa HDb
              clear FV FJ FD hsB hlB
              generalize mkS (joinB (allF A viB)) = VA at *
              generalize decide (0 < (allF A viB).length) = dA at *
              generalize decide (0 < (allF AB viB).length) = dB at *
              generalize delF viB A = DA at *
              refine HGa.out.mono ?_
              rintro e w10 ⟨rfl, hb⟩
              have HA10 := Lib.hid (isFlds_below HA9.out hb)
              have HAB10 := Lib.hid (isFlds_below HAB9.out hb)
              have HX10 := Lib.hid (HX9.out.later hb)
              have HY10 := Lib.hid (HY9.out.later hb)
              have HZ10 := Lib.hid (HZ9.out.later hb)
              have HB10 := Lib.hid (HB9.out.trans (hb.mono HB9.out.size))
              have q10 := HZ10.out.cell 5 _ rfl
              clear hb q9 HA9 HAB9 HX9 HY9 HZ9 HB9 HGa
              go_wp2_with fail
              refine (HGb.out w10 HAB10.out).mono ?_
              rintro e w11 ⟨rfl, hb⟩
              have HA11 := Lib.hid (isFlds_below HA10.out hb)
              have HAB11 := Lib.hid (isFlds_below HAB10.out hb)
              have HX11 := Lib.hid (HX10.out.later hb)
              have HY11 := Lib.hid (HY10.out.later hb)
              have HZ11 := Lib.hid (HZ10.out.later hb)
              have HB11 := Lib.hid (HB10.out.trans (hb.mono HB10.out.size))
              clear hb q10 HA10 HAB10 HX10 HY10 HZ10 HB10 HGb
              go_wp2_with fail
              have HVa := Lib.hid hVa
              clear hVa
              as_aux_lemma =>
                have hVa : VA.size ≤ 2000 := HVa.out
                have hHeld11 : Box w11 w.heap.size 24 #[.string M, .string T, .int .i64 s, .string R, .int .i64 mi, .slice a l.length cap, .string B, .slice at2 tl.length capt] ∧ Box w11 gA 24 #[.string M, .string T, .int .i64 s, .string R, .int .i64 1, .slice aA A.length cA, .string B, .slice none 0 0] ∧ Box w11 gB 24 #[.string M, .string T, .int .i64 s, .string R, .int .i64 1, .slice aB AB.length cB, .string B, .slice none 0 0] := ⟨HX11.out, HY11.out, HZ11.out⟩
                refine wp_region_held_drew (S := (fun Wz => Box Wz w.heap.size 24 #[.string M, .string T, .int .i64 s, .string R, .int .i64 mi, .slice a l.length cap, .string B, .slice at2 tl.length capt] ∧ Box Wz gA 24 #[.string M, .string T, .int .i64 s, .string R, .int .i64 1, .slice aA A.length cA, .string B, .slice none 0 0] ∧ Box Wz gB 24 #[.string M, .string T, .int .i64 s, .string R, .int .i64 1, .slice aB AB.length cB, .string B, .slice none 0 0])) (by kernel_rfl) hHeld11 (fun hHeld => ?_)
                refine wpAnyH_take (i := 0) (v := ?_) rfl (by kernel_rfl) (by kernel_rfl) (by kernel_rfl) (fun _ _ _ h => h) (Or.inl ⟨by kernel_rfl, ?_⟩) (by assumption) ?_
                case refine_2 => (intro Wz hSw; go_simp; try with_reducible rfl)
                try simp only [Act.put, List.getElem_toArray, List.getElem_cons_zero, List.setIfInBounds_toArray, List.set_cons_zero, List.set_cons_succ]
                refine wpAnyH_take (i := 1) (v := ?_) rfl (by kernel_rfl) (by kernel_rfl) (by kernel_rfl) (fun _ _ _ h => h) (Or.inl ⟨by kernel_rfl, ?_⟩) (by assumption) ?_
                case refine_2 => (intro Wz hSw; go_simp; try with_reducible rfl)
                try simp only [Act.put, List.getElem_toArray, List.getElem_cons_succ, List.getElem_cons_zero, List.setIfInBounds_toArray, List.set_cons_zero, List.set_cons_succ]
                refine wpAnyH_take (i := 2) (v := ?_) rfl (by kernel_rfl) (by kernel_rfl) (by kernel_rfl) (fun _ _ _ h => h) (Or.inl ⟨by kernel_rfl, ?_⟩) (by assumption) ?_
                case refine_2 => (intro Wz hSw; have k1 : ¬ 9223372036854775807 < VA.size + 6 := (by omega); go_simp; try with_reducible rfl)
                try simp only [Act.put, List.getElem_toArray, List.getElem_cons_succ, List.getElem_cons_zero, List.setIfInBounds_toArray, List.set_cons_zero, List.set_cons_succ]
                refine wpAnyH_take (i := 3) (v := ?_) rfl (by kernel_rfl) (by kernel_rfl) (by kernel_rfl) (fun _ _ _ h => h) (Or.inl ⟨by kernel_rfl, ?_⟩) (by assumption) ?_
                case refine_2 => (intro Wz hSw; go_simp; try with_reducible rfl)
                try simp only [Act.put, List.getElem_toArray, List.getElem_cons_succ, List.getElem_cons_zero, List.setIfInBounds_toArray, List.set_cons_zero, List.set_cons_succ]
                refine wpAnyH_take (i := 4) (v := ?_) rfl (by kernel_rfl) (by kernel_rfl) (by kernel_rfl) (fun _ _ _ h => h) (Or.inl ⟨by kernel_rfl, ?_⟩) (by assumption) ?_
                case refine_2 => (intro Wz hSw; have k1 : ¬ 9223372036854775807 < VA.size + 6 + (mkS q).size := (by omega); go_simp; try with_reducible rfl)
                try simp only [Act.put, List.getElem_toArray, List.getElem_cons_succ, List.getElem_cons_zero, List.setIfInBounds_toArray, List.set_cons_zero, List.set_cons_succ]
                refine wpAnyH_take (i := 5) (v := .bool true) rfl (by kernel_rfl) (by kernel_rfl) (by kernel_rfl) (fun _ _ _ h => h) (Or.inl ⟨by kernel_rfl, ?_⟩) (by assumption) ?_
                case refine_1 => (intro Wz hSw; go_simp; try with_reducible rfl)
                try simp only [Act.put, List.getElem_toArray, List.getElem_cons_succ, List.getElem_cons_zero, List.setIfInBounds_toArray, List.set_cons_zero, List.set_cons_succ]
                refine wpAnyH_take (i := 6) (v := ?_) rfl (by kernel_rfl) (by kernel_rfl) (by kernel_rfl) (fun _ _ _ h => h) (Or.inl ⟨by kernel_rfl, ?_⟩) (by assumption) ?_
                case refine_2 => (intro Wz hSw; go_simp; try with_reducible rfl)
                try simp only [Act.put, List.getElem_toArray, List.getElem_cons_succ, List.getElem_cons_zero, List.setIfInBounds_toArray, List.set_cons_zero, List.set_cons_succ]
                refine wpAnyH_take (i := 7) (v := ?_) rfl (by kernel_rfl) (by kernel_rfl) (by kernel_rfl) (fun _ _ _ h => h) (Or.inl ⟨by kernel_rfl, ?_⟩) (by assumption) ?_
                case refine_2 => (intro Wz hSw; go_simp; try with_reducible rfl)
                try simp only [Act.put, List.getElem_toArray, List.getElem_cons_succ, List.getElem_cons_zero, List.setIfInBounds_toArray, List.set_cons_zero, List.set_cons_succ]
                refine wpAnyH_take (i := 8) (v := ?_) rfl (by kernel_rfl) (by kernel_rfl) (by kernel_rfl) (fun _ _ _ h => h) (Or.inl ⟨by kernel_rfl, ?_⟩) (by assumption) ?_
                case refine_2 => (intro Wz hSw; have u := Box.cell hSw.2.1 5 _ rfl; go_simp; try with_reducible rfl)
                try simp only [Act.put, List.getElem_toArray, List.getElem_cons_succ, List.getElem_cons_zero, List.setIfInBounds_toArray, List.set_cons_zero, List.set_cons_succ]
                refine wpAnyH_take (i := 10) (v := ?_) rfl (by kernel_rfl) (by kernel_rfl) (by kernel_rfl) (fun _ _ _ h => h) (Or.inl ⟨by kernel_rfl, ?_⟩) (by assumption) ?_
                case refine_2 => (intro Wz hSw; go_simp; try with_reducible rfl)
                try simp only [Act.put, List.getElem_toArray, List.getElem_cons_succ, List.getElem_cons_zero, List.setIfInBounds_toArray, List.set_cons_zero, List.set_cons_succ]
                refine wpAnyH_take (i := 11) (v := ?_) rfl (by kernel_rfl) (by kernel_rfl) (by kernel_rfl) (fun _ _ _ h => h) (Or.inl ⟨by kernel_rfl, ?_⟩) (by assumption) ?_
                case refine_2 => (intro Wz hSw; have u := Box.cell hSw.2.2 5 _ rfl; go_simp; try with_reducible rfl)
                try simp only [Act.put, List.getElem_toArray, List.getElem_cons_succ, List.getElem_cons_zero, List.setIfInBounds_toArray, List.set_cons_zero, List.set_cons_succ]
                refine wpAnyH_ready (rs := [9]) (by kernel_rfl) (by simp) ?_
                refine AllReadyH.cons rfl (fun K hK => ?_) AllReadyH.nil
                go_simp
                refine (HDa.out w11.drew (isFlds_below HA11.out ((Below.refl w11.heap.size w11).drew))).mono ?_
                rintro e w12 ⟨v12, rfl, ho, hb⟩
                replace hb : Below w11.heap.size w11 w12 := ((Below.refl w11.heap.size w11).drew).trans hb
                have hHeld12 : Box w12 w.heap.size 24 #[.string M, .string T, .int .i64 s, .string R, .int .i64 mi, .slice a l.length cap, .string B, .slice at2 tl.length capt] ∧ Box w12 gA 24 #[.string M, .string T, .int .i64 s, .string R, .int .i64 1, .slice aA A.length cA, .string B, .slice none 0 0] ∧ Box w12 gB 24 #[.string M, .string T, .int .i64 s, .string R, .int .i64 1, .slice aB AB.length cB, .string B, .slice none 0 0] := ⟨hHeld11.1.later hb, hHeld11.2.1.later hb, hHeld11.2.2.later hb⟩
                have HB12 := Lib.hid (HB11.out.trans (hb.mono HB11.out.size))
                have HF12 := Lib.hid (isFlds_own ho)
                have HAB12 := Lib.hid (isFlds_below HAB11.out hb)
                clear ho hHeld
                clear hb hHeld11
                go_simp
                refine hK.out _ _ (by assumption) (fun hHeld2 => ?_)
                clear hK K hHeld2
                try simp only [Act.put, List.getElem_toArray, List.getElem_cons_succ, List.getElem_cons_zero, List.setIfInBounds_toArray, List.set_cons_zero, List.set_cons_succ]
                refine wpAnyH_ready (rs := [12]) (by kernel_rfl) (by simp) ?_
                refine AllReadyH.cons rfl (fun K hK => ?_) AllReadyH.nil
                go_simp
                refine (HDb.out _ HAB12.out).mono ?_
                rintro e w13 ⟨v13, rfl, ho, hb⟩
                have hHeld13 : Box w13 w.heap.size 24 #[.string M, .string T, .int .i64 s, .string R, .int .i64 mi, .slice a l.length cap, .string B, .slice at2 tl.length capt] ∧ Box w13 gA 24 #[.string M, .string T, .int .i64 s, .string R, .int .i64 1, .slice aA A.length cA, .string B, .slice none 0 0] ∧ Box w13 gB 24 #[.string M, .string T, .int .i64 s, .string R, .int .i64 1, .slice aB AB.length cB, .string B, .slice none 0 0] := ⟨hHeld12.1.later hb, hHeld12.2.1.later hb, hHeld12.2.2.later hb⟩
                have HB13 := Lib.hid (HB12.out.trans (hb.mono HB12.out.size))
                have HF13 := Lib.hid (isFlds_own ho)
                have HF13b := Lib.hid (isFlds_below HF12.out hb)
                clear ho
                clear hb hHeld12
                go_simp
                refine hK.out _ _ (by assumption) (fun hHeld2 => ?_)
                clear hK K hHeld2
                try simp only [Act.put, List.getElem_toArray, List.getElem_cons_succ, List.getElem_cons_zero, List.setIfInBounds_toArray, List.set_cons_zero, List.set_cons_succ]
                refine wpAnyH_ready (rs := [13]) (by kernel_rfl) (by simp) ?_
                refine AllReadyH.cons rfl (fun K hK => ?_) AllReadyH.nil
                go_simp
                refine (HSk.out _ _ _ HF13b.out HF13.out).mono ?_
                rintro e w14 ⟨rfl, hb⟩
                have hHeld14 : Box w14 w.heap.size 24 #[.string M, .string T, .int .i64 s, .string R, .int .i64 mi, .slice a l.length cap, .string B, .slice at2 tl.length capt] ∧ Box w14 gA 24 #[.string M, .string T, .int .i64 s, .string R, .int .i64 1, .slice aA A.length cA, .string B, .slice none 0 0] ∧ Box w14 gB 24 #[.string M, .string T, .int .i64 s, .string R, .int .i64 1, .slice aB AB.length cB, .string B, .slice none 0 0] := ⟨hHeld13.1.later hb, hHeld13.2.1.later hb, hHeld13.2.2.later hb⟩
                have HB14 := Lib.hid (HB13.out.trans (hb.mono HB13.out.size))
                clear hb hHeld13
                go_simp
                refine hK.out _ _ (by assumption) (fun hHeld2 => ?_)
                clear hK K hHeld2
                try simp only [Act.put, List.getElem_toArray, List.getElem_cons_succ, List.getElem_cons_zero, List.setIfInBounds_toArray, List.set_cons_zero, List.set_cons_succ]
                refine wpAnyH_take (i := 14) (v := ?_) rfl (by kernel_rfl) (by kernel_rfl) (by kernel_rfl) (fun _ _ _ h => h) (Or.inl ⟨by kernel_rfl, ?_⟩) (by assumption) ?_
                case refine_2 => (intro Wz hSw; go_simp; try with_reducible rfl)
                try simp only [Act.put, List.getElem_toArray, List.getElem_cons_succ, List.getElem_cons_zero, List.setIfInBounds_toArray, List.set_cons_zero, List.set_cons_succ]
                refine wpAnyH_take (i := 15) (v := ?_) rfl (by kernel_rfl) (by kernel_rfl) (by kernel_rfl) (fun _ _ _ h => h) (Or.inl ⟨by kernel_rfl, ?_⟩) (by assumption) ?_
                case refine_2 => (intro Wz hSw; go_simp; try with_reducible rfl)
                try simp only [Act.put, List.getElem_toArray, List.getElem_cons_succ, List.getElem_cons_zero, List.setIfInBounds_toArray, List.set_cons_zero, List.set_cons_succ]
                refine wpAnyH_take (i := 16) (v := ?_) rfl (by kernel_rfl) (by kernel_rfl) (by kernel_rfl) (fun _ _ _ h => h) (Or.inl ⟨by kernel_rfl, ?_⟩) (by assumption) ?_
                case refine_2 => (intro Wz hSw; go_simp; try with_reducible rfl)
                try simp only [Act.put, List.getElem_toArray, List.getElem_cons_succ, List.getElem_cons_zero, List.setIfInBounds_toArray, List.set_cons_zero, List.set_cons_succ]
                refine wpAnyH_take (i := 17) (v := ?_) rfl (by kernel_rfl) (by kernel_rfl) (by kernel_rfl) (fun _ _ _ h => h) (Or.inl ⟨by kernel_rfl, ?_⟩) (by assumption) ?_
                case refine_2 => (intro Wz hSw; have u := Box.cell hSw.2.2 6 _ rfl; go_simp; try with_reducible rfl)
                try simp only [Act.put, List.getElem_toArray, List.getElem_cons_succ, List.getElem_cons_zero, List.setIfInBounds_toArray, List.set_cons_zero, List.set_cons_succ]
                refine wpAnyH_take (i := 18) (v := ?_) rfl (by kernel_rfl) (by kernel_rfl) (by kernel_rfl) (fun _ _ _ h => h) (Or.inl ⟨by kernel_rfl, ?_⟩) (by assumption) ?_
                case refine_2 => (intro Wz hSw; go_simp; try with_reducible rfl)
                try simp only [Act.put, List.getElem_toArray, List.getElem_cons_succ, List.getElem_cons_zero, List.setIfInBounds_toArray, List.set_cons_zero, List.set_cons_succ]
                refine wpAnyH_take (i := 19) (v := ?_) rfl (by kernel_rfl) (by kernel_rfl) (by kernel_rfl) (fun _ _ _ h => h) (Or.inl ⟨by kernel_rfl, ?_⟩) (by assumption) ?_
                case refine_2 => (intro Wz hSw; have u := Box.cell hSw.1 6 _ rfl; go_simp; try with_reducible rfl)
                try simp only [Act.put, List.getElem_toArray, List.getElem_cons_succ, List.getElem_cons_zero, List.setIfInBounds_toArray, List.set_cons_zero, List.set_cons_succ]
                refine wpAnyH_take (i := 20) (v := .bool true) rfl (by kernel_rfl) (by kernel_rfl) (by kernel_rfl) (fun _ _ _ h => h) (Or.inl ⟨by kernel_rfl, ?_⟩) (by assumption) ?_
                case refine_1 => (intro Wz hSw; go_simp; try with_reducible rfl)
                try simp only [Act.put, List.getElem_toArray, List.getElem_cons_succ, List.getElem_cons_zero, List.setIfInBounds_toArray, List.set_cons_zero, List.set_cons_succ]
                refine wpAnyH_take (i := 21) (v := ?_) rfl (by kernel_rfl) (by kernel_rfl) (by kernel_rfl) (fun _ _ _ h => h) (Or.inl ⟨by kernel_rfl, ?_⟩) (by assumption) ?_
                case refine_2 => (intro Wz hSw; go_simp; try with_reducible rfl)
                try simp only [Act.put, List.getElem_toArray, List.getElem_cons_succ, List.getElem_cons_zero, List.setIfInBounds_toArray, List.set_cons_zero, List.set_cons_succ]
                refine wpAnyH_take (i := 22) (v := ?_) rfl (by kernel_rfl) (by kernel_rfl) (by kernel_rfl) (fun _ _ _ h => h) (Or.inl ⟨by kernel_rfl, ?_⟩) (by assumption) ?_
                case refine_2 => (intro Wz hSw; go_simp; try with_reducible rfl)
                try simp only [Act.put, List.getElem_toArray, List.getElem_cons_succ, List.getElem_cons_zero, List.setIfInBounds_toArray, List.set_cons_zero, List.set_cons_succ]
                refine wpAnyH_take (i := 23) (v := ?_) rfl (by kernel_rfl) (by kernel_rfl) (by kernel_rfl) (fun _ _ _ h => h) (Or.inl ⟨by kernel_rfl, ?_⟩) (by assumption) ?_
                case refine_2 => (intro Wz hSw; go_simp; try with_reducible rfl)
                try simp only [Act.put, List.getElem_toArray, List.getElem_cons_succ, List.getElem_cons_zero, List.setIfInBounds_toArray, List.set_cons_zero, List.set_cons_succ]
                refine wpAnyH_take (i := 24) (v := ?_) rfl (by kernel_rfl) (by kernel_rfl) (by kernel_rfl) (fun _ _ _ h => h) (Or.inl ⟨by kernel_rfl, ?_⟩) (by assumption) ?_
                case refine_2 => (intro Wz hSw; have u := Box.cell hSw.2.2 1 _ rfl; go_simp; try with_reducible rfl)
                try simp only [Act.put, List.getElem_toArray, List.getElem_cons_succ, List.getElem_cons_zero, List.setIfInBounds_toArray, List.set_cons_zero, List.set_cons_succ]
                refine wpAnyH_take (i := 25) (v := ?_) rfl (by kernel_rfl) (by kernel_rfl) (by kernel_rfl) (fun _ _ _ h => h) (Or.inl ⟨by kernel_rfl, ?_⟩) (by assumption) ?_
                case refine_2 => (intro Wz hSw; go_simp; try with_reducible rfl)
                try simp only [Act.put, List.getElem_toArray, List.getElem_cons_succ, List.getElem_cons_zero, List.setIfInBounds_toArray, List.set_cons_zero, List.set_cons_succ]
                refine wpAnyH_take (i := 26) (v := ?_) rfl (by kernel_rfl) (by kernel_rfl) (by kernel_rfl) (fun _ _ _ h => h) (Or.inl ⟨by kernel_rfl, ?_⟩) (by assumption) ?_
                case refine_2 => (intro Wz hSw; have u := Box.cell hSw.1 1 _ rfl; go_simp; try with_reducible rfl)
                try simp only [Act.put, List.getElem_toArray, List.getElem_cons_succ, List.getElem_cons_zero, List.setIfInBounds_toArray, List.set_cons_zero, List.set_cons_succ]
                refine wpAnyH_take (i := 27) (v := .bool true) rfl (by kernel_rfl) (by kernel_rfl) (by kernel_rfl) (fun _ _ _ h => h) (Or.inl ⟨by kernel_rfl, ?_⟩) (by assumption) ?_
                case refine_1 => (intro Wz hSw; go_simp; try with_reducible rfl)
                try simp only [Act.put, List.getElem_toArray, List.getElem_cons_succ, List.getElem_cons_zero, List.setIfInBounds_toArray, List.set_cons_zero, List.set_cons_succ]
                refine wpAnyH_take (i := 28) (v := ?_) rfl (by kernel_rfl) (by kernel_rfl) (by kernel_rfl) (fun _ _ _ h => h) (Or.inl ⟨by kernel_rfl, ?_⟩) (by assumption) ?_
                case refine_2 => (intro Wz hSw; go_simp; try with_reducible rfl)
                try simp only [Act.put, List.getElem_toArray, List.getElem_cons_succ, List.getElem_cons_zero, List.setIfInBounds_toArray, List.set_cons_zero, List.set_cons_succ]
                refine wpAnyH_take (i := 29) (v := ?_) rfl (by kernel_rfl) (by kernel_rfl) (by kernel_rfl) (fun _ _ _ h => h) (Or.inl ⟨by kernel_rfl, ?_⟩) (by assumption) ?_
                case refine_2 => (intro Wz hSw; go_simp; try with_reducible rfl)
                try simp only [Act.put, List.getElem_toArray, List.getElem_cons_succ, List.getElem_cons_zero, List.setIfInBounds_toArray, List.set_cons_zero, List.set_cons_succ]
                refine wpAnyH_take (i := 30) (v := ?_) rfl (by kernel_rfl) (by kernel_rfl) (by kernel_rfl) (fun _ _ _ h => h) (Or.inl ⟨by kernel_rfl, ?_⟩) (by assumption) ?_
                case refine_2 => (intro Wz hSw; go_simp; try with_reducible rfl)
                try simp only [Act.put, List.getElem_toArray, List.getElem_cons_succ, List.getElem_cons_zero, List.setIfInBounds_toArray, List.set_cons_zero, List.set_cons_succ]
                refine wpAnyH_take (i := 31) (v := ?_) rfl (by kernel_rfl) (by kernel_rfl) (by kernel_rfl) (fun _ _ _ h => h) (Or.inl ⟨by kernel_rfl, ?_⟩) (by assumption) ?_
                case refine_2 => (intro Wz hSw; have u := Box.cell hSw.2.2 0 _ rfl; go_simp; try with_reducible rfl)
                try simp only [Act.put, List.getElem_toArray, List.getElem_cons_succ, List.getElem_cons_zero, List.setIfInBounds_toArray, List.set_cons_zero, List.set_cons_succ]
                refine wpAnyH_take (i := 32) (v := ?_) rfl (by kernel_rfl) (by kernel_rfl) (by kernel_rfl) (fun _ _ _ h => h) (Or.inl ⟨by kernel_rfl, ?_⟩) (by assumption) ?_
                case refine_2 => (intro Wz hSw; go_simp; try with_reducible rfl)
                try simp only [Act.put, List.getElem_toArray, List.getElem_cons_succ, List.getElem_cons_zero, List.setIfInBounds_toArray, List.set_cons_zero, List.set_cons_succ]
                refine wpAnyH_take (i := 33) (v := ?_) rfl (by kernel_rfl) (by kernel_rfl) (by kernel_rfl) (fun _ _ _ h => h) (Or.inl ⟨by kernel_rfl, ?_⟩) (by assumption) ?_
                case refine_2 => (intro Wz hSw; have u := Box.cell hSw.1 0 _ rfl; go_simp; try with_reducible rfl)
                try simp only [Act.put, List.getElem_toArray, List.getElem_cons_succ, List.getElem_cons_zero, List.setIfInBounds_toArray, List.set_cons_zero, List.set_cons_succ]
                refine wpAnyH_take (i := 34) (v := .bool true) rfl (by kernel_rfl) (by kernel_rfl) (by kernel_rfl) (fun _ _ _ h => h) (Or.inl ⟨by kernel_rfl, ?_⟩) (by assumption) ?_
                case refine_1 => (intro Wz hSw; go_simp; try with_reducible rfl)
                try simp only [Act.put, List.getElem_toArray, List.getElem_cons_succ, List.getElem_cons_zero, List.setIfInBounds_toArray, List.set_cons_zero, List.set_cons_succ]
                refine wpAnyH_take (i := 35) (v := ?_) rfl (by kernel_rfl) (by kernel_rfl) (by kernel_rfl) (fun _ _ _ h => h) (Or.inl ⟨by kernel_rfl, ?_⟩) (by assumption) ?_
                case refine_2 => (intro Wz hSw; go_simp; try with_reducible rfl)
                try simp only [Act.put, List.getElem_toArray, List.getElem_cons_succ, List.getElem_cons_zero, List.setIfInBounds_toArray, List.set_cons_zero, List.set_cons_succ]
                refine wpAnyH_take (i := 36) (v := ?_) rfl (by kernel_rfl) (by kernel_rfl) (by kernel_rfl) (fun _ _ _ h => h) (Or.inl ⟨by kernel_rfl, ?_⟩) (by assumption) ?_
                case refine_2 => (intro Wz hSw; go_simp; try with_reducible rfl)
                try simp only [Act.put, List.getElem_toArray, List.getElem_cons_succ, List.getElem_cons_zero, List.setIfInBounds_toArray, List.set_cons_zero, List.set_cons_succ]
                refine wpAnyH_take (i := 37) (v := ?_) rfl (by kernel_rfl) (by kernel_rfl) (by kernel_rfl) (fun _ _ _ h => h) (Or.inl ⟨by kernel_rfl, ?_⟩) (by assumption) ?_
                case refine_2 => (intro Wz hSw; go_simp; try with_reducible rfl)
                try simp only [Act.put, List.getElem_toArray, List.getElem_cons_succ, List.getElem_cons_zero, List.setIfInBounds_toArray, List.set_cons_zero, List.set_cons_succ]
                refine wpAnyH_take (i := 38) (v := ?_) rfl (by kernel_rfl) (by kernel_rfl) (by kernel_rfl) (fun _ _ _ h => h) (Or.inl ⟨by kernel_rfl, ?_⟩) (by assumption) ?_
                case refine_2 => (intro Wz hSw; have u := Box.cell hSw.2.2 2 _ rfl; go_simp; try with_reducible rfl)
                try simp only [Act.put, List.getElem_toArray, List.getElem_cons_succ, List.getElem_cons_zero, List.setIfInBounds_toArray, List.set_cons_zero, List.set_cons_succ]
                refine wpAnyH_take (i := 39) (v := ?_) rfl (by kernel_rfl) (by kernel_rfl) (by kernel_rfl) (fun _ _ _ h => h) (Or.inl ⟨by kernel_rfl, ?_⟩) (by assumption) ?_
                case refine_2 => (intro Wz hSw; go_simp; try with_reducible rfl)
                try simp only [Act.put, List.getElem_toArray, List.getElem_cons_succ, List.getElem_cons_zero, List.setIfInBounds_toArray, List.set_cons_zero, List.set_cons_succ]
                refine wpAnyH_take (i := 40) (v := ?_) rfl (by kernel_rfl) (by kernel_rfl) (by kernel_rfl) (fun _ _ _ h => h) (Or.inl ⟨by kernel_rfl, ?_⟩) (by assumption) ?_
                case refine_2 => (intro Wz hSw; have u := Box.cell hSw.1 2 _ rfl; go_simp; try with_reducible rfl)
                try simp only [Act.put, List.getElem_toArray, List.getElem_cons_succ, List.getElem_cons_zero, List.setIfInBounds_toArray, List.set_cons_zero, List.set_cons_succ]
                refine wpAnyH_take (i := 41) (v := .bool true) rfl (by kernel_rfl) (by kernel_rfl) (by kernel_rfl) (fun _ _ _ h => h) (Or.inl ⟨by kernel_rfl, ?_⟩) (by assumption) ?_
                case refine_1 => (intro Wz hSw; go_simp; try with_reducible rfl)
                try simp only [Act.put, List.getElem_toArray, List.getElem_cons_succ, List.getElem_cons_zero, List.setIfInBounds_toArray, List.set_cons_zero, List.set_cons_succ]
                refine wpAnyH_take (i := 42) (v := ?_) rfl (by kernel_rfl) (by kernel_rfl) (by kernel_rfl) (fun _ _ _ h => h) (Or.inl ⟨by kernel_rfl, ?_⟩) (by assumption) ?_
                case refine_2 => (intro Wz hSw; go_simp; try with_reducible rfl)
                try simp only [Act.put, List.getElem_toArray, List.getElem_cons_succ, List.getElem_cons_zero, List.setIfInBounds_toArray, List.set_cons_zero, List.set_cons_succ]
                refine wpAnyH_take (i := 43) (v := ?_) rfl (by kernel_rfl) (by kernel_rfl) (by kernel_rfl) (fun _ _ _ h => h) (Or.inl ⟨by kernel_rfl, ?_⟩) (by assumption) ?_
                case refine_2 => (intro Wz hSw; go_simp; try with_reducible rfl)
                try simp only [Act.put, List.getElem_toArray, List.getElem_cons_succ, List.getElem_cons_zero, List.setIfInBounds_toArray, List.set_cons_zero, List.set_cons_succ]
                refine wpAnyH_take (i := 44) (v := ?_) rfl (by kernel_rfl) (by kernel_rfl) (by kernel_rfl) (fun _ _ _ h => h) (Or.inl ⟨by kernel_rfl, ?_⟩) (by assumption) ?_
                case refine_2 => (intro Wz hSw; go_simp; try with_reducible rfl)
                try simp only [Act.put, List.getElem_toArray, List.getElem_cons_succ, List.getElem_cons_zero, List.setIfInBounds_toArray, List.set_cons_zero, List.set_cons_succ]
                refine wpAnyH_take (i := 45) (v := ?_) rfl (by kernel_rfl) (by kernel_rfl) (by kernel_rfl) (fun _ _ _ h => h) (Or.inl ⟨by kernel_rfl, ?_⟩) (by assumption) ?_
                case refine_2 => (intro Wz hSw; have u := Box.cell hSw.2.1 4 _ rfl; go_simp; try with_reducible rfl)
                try simp only [Act.put, List.getElem_toArray, List.getElem_cons_succ, List.getElem_cons_zero, List.setIfInBounds_toArray, List.set_cons_zero, List.set_cons_succ]
                refine wpAnyH_take (i := 46) (v := .bool true) rfl (by kernel_rfl) (by kernel_rfl) (by kernel_rfl) (fun _ _ _ h => h) (Or.inl ⟨by kernel_rfl, ?_⟩) (by assumption) ?_
                case refine_1 => (intro Wz hSw; go_simp; try with_reducible rfl)
                try simp only [Act.put, List.getElem_toArray, List.getElem_cons_succ, List.getElem_cons_zero, List.setIfInBounds_toArray, List.set_cons_zero, List.set_cons_succ]
                refine wpAnyH_take (i := 47) (v := ?_) rfl (by kernel_rfl) (by kernel_rfl) (by kernel_rfl) (fun _ _ _ h => h) (Or.inl ⟨by kernel_rfl, ?_⟩) (by assumption) ?_
                case refine_2 => (intro Wz hSw; go_simp; try with_reducible rfl)
                try simp only [Act.put, List.getElem_toArray, List.getElem_cons_succ, List.getElem_cons_zero, List.setIfInBounds_toArray, List.set_cons_zero, List.set_cons_succ]
                refine wpAnyH_take (i := 48) (v := ?_) rfl (by kernel_rfl) (by kernel_rfl) (by kernel_rfl) (fun _ _ _ h => h) (Or.inl ⟨by kernel_rfl, ?_⟩) (by assumption) ?_
                case refine_2 => (intro Wz hSw; go_simp; try with_reducible rfl)
                try simp only [Act.put, List.getElem_toArray, List.getElem_cons_succ, List.getElem_cons_zero, List.setIfInBounds_toArray, List.set_cons_zero, List.set_cons_succ]
                refine wpAnyH_done (by kernel_rfl) ?_ _
                clear hHeld14
                go_wp2_with fail
                go_ret
                exact ⟨rfl, HB14.out⟩
end Tk
end Go.Proofs.YtcddkeekabafgaaGreatDoor
