/- The law HopNamed: its walk. -/
import Derived.Test.YtcddkeekabafgaaDoorQD
import Derived.Test.YtcddkeekabafgaaDoorQE
import Derived.Test.YtcddkeekabafgaaDoorQF
namespace Go.Proofs.YtcddkeekabafgaaDoor
open Go.RowKit
namespace Tk

theorem sum_way (names : List Bs) (b : Nat) (h : ∀ x ∈ names, x.length ≤ b) (i : Nat) : sumF (wayF names i) ≤ i * (b + 6) + 7 := by
  have := way_size names b h i
  unfold wayF
  split
  · simp [sumF]
  · simp [sumF, viB]; omega
theorem more_eq (n : Bs) : (⟨#[113, 44, 32]⟩ : ByteArray) ++ mkS n = mkS ([113, 44, 32] ++ n) := by
  rw [show (⟨#[113, 44, 32]⟩ : ByteArray) = mkS [113, 44, 32] from rfl, mkS_append]
theorem way_next (names : List Bs) (i : Nat) (r : Nat) (hr : i % 2 = r) (c : UInt8) (hc : c = UInt8.ofNat (48 + r)) : wayB names (i + 1) = (if i = 0 then [] else wayB names i ++ [44, 32]) ++ [49, 46] ++ [c] ++ [32] ++ names.getD i [] := by
  rw [wayB]
  unfold viaS
  rw [dig_small, hr, hc]
  simp
theorem add5 (a b c d e : Bs) : mkS a ++ mkS b ++ mkS c ++ mkS d ++ mkS e = mkS (a ++ b ++ c ++ d ++ e) := by rw [mkS_append, mkS_append, mkS_append, mkS_append]

set_option maxHeartbeats 32000000 in
set_option maxRecDepth 100000 in
theorem named_law (M T : ByteArray) (s : Int) (R : ByteArray) (mi : Int) (vf : Value) (B : ByteArray) (vt : Value) (l tl : List (Bs × Bs)) (name : Bs) (vn : Value) (names : List Bs) (w : World) (hs : IsFlds w vf l) (hnl : ∀ n c, vf = .slice none n c → c = 0) (ht : IsFlds w vt tl) (hz : SizedF l) (hzt : SizedF tl)
    (hM : M.size ≤ 140737488351232) (hT : T.size ≤ 140737488351232) (hR : R.size ≤ 140737488351232) (hB : B.size ≤ 140737488351232) (hN : name.length ≤ 140737488351232)
    (hv : IsStrs w vn names) (hnz : ∀ x ∈ names, x.length ≤ 140737488351232) (hnln : names.length ≤ 140737488351232) :
    Calls Tryd.prog 5 #[.agg (msgC M T s R mi vf B vt), .string (mkS name), vn] w fun e w' => e = .returned (.bool true) ∧ Below w.heap.size w w' := by
  obtain ⟨a, cap, rfl⟩ : ∃ a cap, vf = .slice a l.length cap := by obtain ⟨a, c, h, -⟩ := hs; exact ⟨a, c, h⟩
  obtain ⟨at2, capt, rfl⟩ : ∃ a cap, vt = .slice a tl.length cap := by obtain ⟨a, c, h, -⟩ := ht; exact ⟨a, c, h⟩
  obtain ⟨an, cn, rfl⟩ : ∃ a c, vn = .slice a names.length c := by obtain ⟨a, c, h, -⟩ := hv; exact ⟨a, c, h⟩
  have hX := Box.new w 28 (msgC M T s R mi (.slice a l.length cap) B (.slice at2 tl.length capt))
  have hB0 := below_alloc w (.cells (msgC M T s R mi (.slice a l.length cap) B (.slice at2 tl.length capt)) 28)
  have HLv := Lib.hid (lives07_any (w.alloc (.cells (msgC M T s R mi (.slice a l.length cap) B (.slice at2 tl.length capt)) 28)))
  have HLg := Lib.hid (fun (W : World) (hb : Below w.heap.size w W) => light07_any M T s R mi (.slice a l.length cap) B (.slice at2 tl.length capt) l tl W (isFlds_below hs hb) (isFlds_below ht hb) hz hzt hM hT hR hB)
  have HS := Lib.hid (fun (W : World) (hb : Below w.heap.size w W) => isFlds_below hs hb)
  have HNs : Hid (∀ W : World, Below w.heap.size w W → IsStrs W (.slice an names.length cn) names) := fun W hb => by
    obtain ⟨a2, c2, e, hc⟩ := hv
    refine ⟨a2, c2, e, fun j t hj => ?_⟩
    obtain ⟨b, o, rfl, h1⟩ := hc j t hj
    exact ⟨b, o, rfl, (hb.cell (p := ⟨b, o + j, none⟩) (cell_lt (p := ⟨b, o + j, none⟩) h1)).trans h1⟩
  have HLx := Lib.hid (fun (W : World) (hb : Below w.heap.size w W) => lightX_any 8 200 _ names W (by decide) (by decide) (HNs.out W hb) hnz hnln)
  have HX := Lib.hid hX
  have HB0 := Lib.hid hB0
  have hnsz : ((mkS name).size : Int) = (name.length : Int) := by rw [size_mkS]
  have HNL := Lib.hid hnl
  have hpt := lightM_parts M T R B l tl
  have hpx := lightX_parts 8 200 names
  clear hs hnl ht hz hzt hM hT hR hB hX hB0 hv hnz hnln
  unfold msgC at *
  cases hd : lightM M T R B l tl
  · rw [hd] at HLg
    clear hd hpt hpx
    go_enter Tryd.func5, Tryd.ntmps5
    go_wp2_with fail
    refine HLv.out.mono ?_
    rintro e w1 ⟨rfl, hb⟩
    have HX1 := Lib.hid (HX.out.later hb)
    have HB1 := Lib.hid (HB0.out.trans (hb.mono HB0.out.size))
    have u0 := HX1.out.cell 0 _ rfl
    have u1 := HX1.out.cell 1 _ rfl
    have u2 := HX1.out.cell 2 _ rfl
    have u3 := HX1.out.cell 3 _ rfl
    have u4 := HX1.out.cell 4 _ rfl
    have u5 := HX1.out.cell 5 _ rfl
    have u6 := HX1.out.cell 6 _ rfl
    have u7 := HX1.out.cell 7 _ rfl
    clear hb HLv
    go_wp2_with fail
    refine (HLg.out _ HB1.out).mono ?_
    rintro e w2 ⟨rfl, hb⟩
    have HX2 := Lib.hid (HX1.out.later hb)
    have HB2 := Lib.hid (HB1.out.trans (hb.mono HB1.out.size))
    clear hb u0 u1 u2 u3 u4 u5 u6 u7 HX1
    go_wp2_with fail
    go_ret
    exact ⟨rfl, HB2.out⟩
  rw [hd] at HLg
  obtain ⟨-, ⟨hl20, hsum⟩, -⟩ := hpt hd
  clear hd hpt
  by_cases hn : 60 < name.length
  · have m1 : (60 : Int) < ((mkS name).size : Int) := by omega
    clear hnsz hn hpx
    go_enter Tryd.func5, Tryd.ntmps5
    go_wp2_with fail
    refine HLv.out.mono ?_
    rintro e w1 ⟨rfl, hb⟩
    have HX1 := Lib.hid (HX.out.later hb)
    have HB1 := Lib.hid (HB0.out.trans (hb.mono HB0.out.size))
    have u0 := HX1.out.cell 0 _ rfl
    have u1 := HX1.out.cell 1 _ rfl
    have u2 := HX1.out.cell 2 _ rfl
    have u3 := HX1.out.cell 3 _ rfl
    have u4 := HX1.out.cell 4 _ rfl
    have u5 := HX1.out.cell 5 _ rfl
    have u6 := HX1.out.cell 6 _ rfl
    have u7 := HX1.out.cell 7 _ rfl
    clear hb HLv
    go_wp2_with fail
    refine (HLg.out _ HB1.out).mono ?_
    rintro e w2 ⟨rfl, hb⟩
    have HX2 := Lib.hid (HX1.out.later hb)
    have HB2 := Lib.hid (HB1.out.trans (hb.mono HB1.out.size))
    clear hb u0 u1 u2 u3 u4 u5 u6 u7 HX1
    go_wp2_with fail
    go_ret
    exact ⟨rfl, HB2.out⟩
  have m1 : ¬ (60 : Int) < ((mkS name).size : Int) := by omega
  have hn2 : name.length ≤ 1099511627776 := by omega
  have HTk : Hid (∀ W : World, Calls Tryd.prog 19 #[.string (mkS name)] W fun e w' => e = .returned (.bool (tokL name)) ∧ W = w') := fun W => by
    have h := rToken_any (mkS name) W (by rw [size_mkS]; omega)
    rw [bs_mkS] at h
    exact h
  cases hk : tokL name
  · rw [hk] at HTk
    clear hk hn hn2 hnsz hpx
    go_enter Tryd.func5, Tryd.ntmps5
    go_wp2_with fail
    refine HLv.out.mono ?_
    rintro e w1 ⟨rfl, hb⟩
    have HX1 := Lib.hid (HX.out.later hb)
    have HB1 := Lib.hid (HB0.out.trans (hb.mono HB0.out.size))
    have u0 := HX1.out.cell 0 _ rfl
    have u1 := HX1.out.cell 1 _ rfl
    have u2 := HX1.out.cell 2 _ rfl
    have u3 := HX1.out.cell 3 _ rfl
    have u4 := HX1.out.cell 4 _ rfl
    have u5 := HX1.out.cell 5 _ rfl
    have u6 := HX1.out.cell 6 _ rfl
    have u7 := HX1.out.cell 7 _ rfl
    clear hb HLv
    go_wp2_with fail
    refine (HLg.out _ HB1.out).mono ?_
    rintro e w2 ⟨rfl, hb⟩
    have HX2 := Lib.hid (HX1.out.later hb)
    have HB2 := Lib.hid (HB1.out.trans (hb.mono HB1.out.size))
    clear hb u0 u1 u2 u3 u4 u5 u6 u7 HX1
    go_wp2_with fail
    refine (HTk.out w2).mono ?_
    rintro e w2b ⟨rfl, hw2⟩
    subst hw2
    go_wp2_with fail
    go_ret
    exact ⟨rfl, HB2.out⟩
  rw [hk] at HTk
  cases hx : lightX 8 200 names
  · rw [hx] at HLx
    clear hk hn hn2 hnsz hpx hx
    go_enter Tryd.func5, Tryd.ntmps5
    go_wp2_with fail
    refine HLv.out.mono ?_
    rintro e w1 ⟨rfl, hb⟩
    have HX1 := Lib.hid (HX.out.later hb)
    have HB1 := Lib.hid (HB0.out.trans (hb.mono HB0.out.size))
    have u0 := HX1.out.cell 0 _ rfl
    have u1 := HX1.out.cell 1 _ rfl
    have u2 := HX1.out.cell 2 _ rfl
    have u3 := HX1.out.cell 3 _ rfl
    have u4 := HX1.out.cell 4 _ rfl
    have u5 := HX1.out.cell 5 _ rfl
    have u6 := HX1.out.cell 6 _ rfl
    have u7 := HX1.out.cell 7 _ rfl
    clear hb HLv
    go_wp2_with fail
    refine (HLg.out _ HB1.out).mono ?_
    rintro e w2 ⟨rfl, hb⟩
    have HX2 := Lib.hid (HX1.out.later hb)
    have HB2 := Lib.hid (HB1.out.trans (hb.mono HB1.out.size))
    clear hb u0 u1 u2 u3 u4 u5 u6 u7 HX1
    go_wp2_with fail
    refine (HTk.out w2).mono ?_
    rintro e w2b ⟨rfl, hw2⟩
    subst hw2
    go_wp2_with fail
    refine (HLx.out w2 HB2.out).mono ?_
    rintro e w2b ⟨rfl, hw2⟩
    subst hw2
    go_wp2_with fail
    go_ret
    exact ⟨rfl, HB2.out⟩
  rw [hx] at HLx
  obtain ⟨hnm8, hnm⟩ := hpx hx
  have hk2 : name ≠ [] ∧ allL 2 name = true := by
    have h : (!name.isEmpty && allL 2 name) = true := hk
    rw [Bool.and_eq_true] at h
    refine ⟨fun e => ?_, h.2⟩
    subst e
    exact absurd h.1 (by decide)
  have hEq := strip_named l name hk2.1 hk2.2
  have hsz := size_mkS name
  have HNm := Lib.hid (⟨hn, hn2⟩ : _ ∧ _)
  have HSum := Lib.hid (⟨hl20, hsum⟩ : _ ∧ _)
  have HNx := Lib.hid (⟨hnm8, hnm⟩ : _ ∧ _)
  have HEq := Lib.hid hEq
  have HSt := Lib.hid (fun (W : World) (hb : Below w.heap.size w W) => strip_any (.slice a l.length cap) l W (HS.out W hb) HNL.out (by omega) (by omega))
  have HOw := Lib.hid (fun (W : World) (hb : Below w.heap.size w W) => own_any (.slice a l.length cap) l W (HS.out W hb) HNL.out (by omega))
  have HOne : Hid (∀ W : World, Calls Tryd.prog 7 #[.string ⟨#[99, 111, 110, 110, 101, 99, 116, 105, 111, 110]⟩, .string (⟨#[113, 44, 32]⟩ ++ mkS name)] W fun e w' => e = .returned (.agg #[.string ⟨#[99, 111, 110, 110, 101, 99, 116, 105, 111, 110]⟩, .string (mkS ([113, 44, 32] ++ name))]) ∧ Below W.heap.size W w') := fun W => by
    rw [more_eq]; exact one07_any _ _ W
  have hl2 : (l ++ [(cnL, [113, 44, 32] ++ name)]).length ≤ 21 := by simp; omega
  have hs2 : sumF (l ++ [(cnL, [113, 44, 32] ++ name)]) ≤ 1000 := by rw [sum_app]; simp [sumF, cnL]; omega
  have HSt2 := Lib.hid (fun (W : World) (v : Value) (hf : IsFlds W v (l ++ [(cnL, [113, 44, 32] ++ name)])) (hn : ∀ n c, v = .slice none n c → c = 0) => strip_any v _ W hf hn (by omega) (by omega))
  rw [HEq.out] at HSt2
  have hl3 := strip_len l
  have hs3 : sumF (stripL l) ≤ 680 := Nat.le_trans (sum_wipe _ _) hsum
  have hl4 : (delF name (stripL l)).length ≤ 20 := Nat.le_trans (delF_len _ _) (by omega)
  have hs4 : sumF (delF name (stripL l)) ≤ 680 := by rw [del_wipe]; exact Nat.le_trans (sum_wipe _ _) hs3
  have hl5 : (delF qB (delF name (stripL l))).length ≤ 20 := Nat.le_trans (delF_len _ _) hl4
  have HDl := Lib.hid (fun (W : World) (v : Value) (hf : IsFlds W v (stripL l)) => rdel_any v _ name W hf (sum_each _ (by omega)) hn2 (by omega))
  have HDq := Lib.hid (fun (W : World) (v : Value) (hf : IsFlds W v (delF name (stripL l))) => rdel_any v _ qB W hf (sum_each _ (by omega)) (by decide) (by omega))
  have HSk := Lib.hid (fun (W : World) (v1 v2 : Value) (h1 : IsFlds W v1 (delF qB (delF name (stripL l)))) (h2 : IsFlds W v2 (delF qB (delF name (stripL l)))) => ksame_self v1 v2 _ W h1 h2 (by omega))
  have hb6 : (⟨#[113, 44, 32]⟩ : ByteArray).size = 3 := rfl
  unfold OwnPost at HSt HSt2 HDl HDq
  clear hk hn hnsz hpx hx hk2 hEq hs2 hl3 hs3 hl4 hs4
  go_enter Tryd.func5, Tryd.ntmps5
  go_wp2_with fail
  refine HLv.out.mono ?_
  rintro e w1 ⟨rfl, hb⟩
  have HX1 := Lib.hid (HX.out.later hb)
  have HB1 := Lib.hid (HB0.out.trans (hb.mono HB0.out.size))
  have u0 := HX1.out.cell 0 _ rfl
  have u1 := HX1.out.cell 1 _ rfl
  have u2 := HX1.out.cell 2 _ rfl
  have u3 := HX1.out.cell 3 _ rfl
  have u4 := HX1.out.cell 4 _ rfl
  have u5 := HX1.out.cell 5 _ rfl
  have u6 := HX1.out.cell 6 _ rfl
  have u7 := HX1.out.cell 7 _ rfl
  clear hb HLv
  go_wp2_with fail
  refine (HLg.out _ HB1.out).mono ?_
  rintro e w2 ⟨rfl, hb⟩
  have HX2 := Lib.hid (HX1.out.later hb)
  have HB2 := Lib.hid (HB1.out.trans (hb.mono HB1.out.size))
  clear hb u0 u1 u2 u3 u4 u5 u6 u7 HX1
  clear HLg
  go_wp2_with fail
  refine (HTk.out w2).mono ?_
  rintro e w2b ⟨rfl, hw2⟩
  subst hw2
  go_wp2_with fail
  refine (HLx.out w2 HB2.out).mono ?_
  rintro e w2b ⟨rfl, hw2⟩
  subst hw2
  have q2 := HX2.out.cell 5 _ rfl
  clear HTk HLx m1
  go_wp2_with fail
  refine (HSt.out _ HB2.out).mono ?_
  rintro e w3 ⟨v3, rfl, ho, hb⟩
  have HX3 := Lib.hid (HX2.out.later hb)
  have HB3 := Lib.hid (HB2.out.trans (hb.mono HB2.out.size))
  have HF3 := Lib.hid (isFlds_own ho)
  have q3 := HX3.out.cell 5 _ rfl
  clear hb ho q2 HX2 HSt
  go_wp2_with fail
  refine (HOw.out _ HB3.out).mono ?_
  rintro e w4 ⟨v4, rfl, ho, hb⟩
  have HC4 := Lib.hid hb
  have HO4 := Lib.hid ho
  clear hb ho q3 HX3 HOw
  go_wp2_with fail
  refine (HOne.out _).mono ?_
  rintro e w5 ⟨rfl, hb⟩
  have hbal := below_alloc w5 (Obj.cells #[.string (mkS cnL), .string (mkS ([113, 44, 32] ++ name))] 24)
  have ho5 := own_keep2f HO4.out hb
  have hb5 := HC4.out.trans (hb.mono HC4.out.size)
  have HO5 := Lib.hid (own_keep2f ho5 hbal)
  have HG5 := Lib.hid (isFlds_lit w5 cnL ([113, 44, 32] ++ name))
  have HC5 := Lib.hid (hb5.trans (hbal.mono hb5.size))
  have hs5 := HC5.out.size
  clear hb hbal ho5 hb5 HO4 HOne
  go_wp2_with (at_builtin; refine joinF_guarded (by rfl) _ _ rfl w3.heap.size _ _ l [(cnL, [113, 44, 32] ++ name)] rfl rfl HO5.out HG5.out (fun _ _ h => by injection h with h1; cases h1) hs5 (by omega) (by simp) ?_)
  intro v6 w6 ho6 hg6
  have HC6 := Lib.hid (HC5.out.trans (below_of_grownF hg6 HO5.out hs5))
  have ho6b : w6.ownsRow w3.heap.size 24 2 v6 (l ++ [(cnL, [113, 44, 32] ++ name)]).length (fcells (l ++ [(cnL, [113, 44, 32] ++ name)])) := by rw [List.length_append]; exact ho6
  have HSt6 := Lib.hid (HSt2.out w6 v6 (isFlds_own ho6b) (isFlds_nil_cap ho6b))
  clear ho6 ho6b hg6 HO5 HG5 hs5 HC5 HC4
  go_wp2_with fail
  refine HSt6.out.mono ?_
  rintro e w7 ⟨v7, rfl, ho, hb⟩
  have HC7 := Lib.hid (HC6.out.trans (hb.mono HC6.out.size))
  have HF7 := Lib.hid (isFlds_own ho)
  have HD7 := Lib.hid (HDl.out w7 v3 (isFlds_below HF3.out HC7.out))
  clear ho hb HC6 HSt6 HSt2
  obtain ⟨a3, c3, rfl⟩ : ∃ a c, v3 = .slice a (stripL l).length c := by obtain ⟨a, c, h, -⟩ := HF3.out; exact ⟨a, c, h⟩
  go_wp2_with fail
  refine HD7.out.mono ?_
  rintro e w8 ⟨v8, rfl, ho, hb⟩
  have HC8 := Lib.hid (HC7.out.trans (hb.mono HC7.out.size))
  have HF8 := Lib.hid (isFlds_below HF7.out hb)
  have HD8 := Lib.hid (HDq.out w8 v8 (isFlds_own ho))
  clear ho hb HC7 HD7 HDl HF7
  go_wp2_with fail
  refine HD8.out.mono ?_
  rintro e w9 ⟨v9, rfl, ho, hb⟩
  have HC9 := Lib.hid (HC8.out.trans (hb.mono HC8.out.size))
  have HS9 := Lib.hid (HSk.out w9 v7 v9 (isFlds_below HF8.out hb) (isFlds_own ho))
  clear ho hb HC8 HD8 HDq HF8
  go_wp2_with fail
  refine HS9.out.mono ?_
  rintro e w10 ⟨rfl, hb⟩
  have HBk := Lib.hid (HB3.out.trans ((HC9.out.trans (hb.mono HC9.out.size)).mono HB3.out.size))
  clear hb HC9 HS9 HSk HB3 HF3 HB2 HB1 HX HB0
  go_wp2_with fail
  go_loopw [9, 10, 11] (fun v9 v10 vi wr => ∃ i : Nat, i ≤ names.length ∧ IsFlds wr v9 (wayF names i) ∧ v10 = .string (mkS (wayB names i)) ∧ vi = .int .i64 i ∧ Hid (Below w.heap.size w wr)) (fun _ _ vi _ => names.length - (RowKit.intOf vi).toNat)
  case atStart => exact ⟨0, Nat.zero_le _, ⟨none, 0, rfl, Nat.le_refl _, fun j f hj => by simp [wayF] at hj⟩, rfl, rfl, HBk.out⟩
  case round =>
    obtain ⟨i, hi, hfl, rfl, rfl, HB⟩ := hrel
    rename World => W
    have hwz := way_size names 200 (fun x hx => HNx.out.2 x hx) i
    have hwl := way_len names i
    have hws := sum_way names 200 (fun x hx => HNx.out.2 x hx) i
    obtain ⟨a9, c9, rfl⟩ : ∃ a c, u9 = .slice a (wayF names i).length c := by obtain ⟨a, c, h, -⟩ := hfl; exact ⟨a, c, h⟩
    by_cases hlt : i < names.length
    · obtain ⟨a', c', e', hc⟩ := HNs.out W HB.out
      injection e' with e1 _ e2
      subst e1 e2
      obtain ⟨b, o, rfl, hc0⟩ := hc i (names.getD i []) (by simp [List.getD, hlt])
      have hxl := HNx.out.2 (names.getD i []) (by simp [List.getD, hlt])
      have hst := way_step names i
      have hVi := via_any (.slice a9 (wayF names i).length c9) (wayF names i) ((i % 2 : Nat) : Int) (names.getD i []) W hfl (by omega) (by omega) (by omega) (by rw [dig_small]; simp) (itoaS_any (i % 2) W (by omega))
      rw [hst] at hVi
      have HVi := Lib.hid hVi
      unfold OwnPost at HVi
      have g0 : (0 : Int) ≤ (i : Int) := by omega
      have g1 : (i : Int) < (names.length : Int) := by omega
      by_cases h0 : i = 0
      · have hr : i % 2 = 0 := by omega
        have HNxt : Hid (wayB names (i + 1) = _) := Lib.hid (way_next names i 0 hr 48 rfl)
        have HVi2 : Hid (Calls Tryd.prog 23 #[.slice a9 (wayF names i).length c9, .int .i64 0, .string (mkS (names.getD i []))] W fun e w' => ∃ v', e = .returned v' ∧ w'.ownsRow W.heap.size 24 2 v' (wayF names (i + 1)).length (fcells (wayF names (i + 1))) ∧ Below W.heap.size W w') := by rw [hr] at HVi; exact HVi
        have hxs : (mkS (names.getD i [])).size ≤ 200 := by rw [size_mkS]; exact hxl
        have hys : (mkS (wayB names i)).size ≤ 10000 := by rw [size_mkS]; omega
        subst h0
        rw [Nat.add_zero] at hc0
        rw [if_pos rfl] at HNxt
        have HStr : Hid (mkS (wayB names 0) ++ ⟨#[49, 46]⟩ ++ ⟨#[48]⟩ ++ ⟨#[32]⟩ ++ mkS (names.getD 0 []) = mkS (wayB names (0 + 1))) := by
          rw [show (⟨#[49, 46]⟩ : ByteArray) = mkS [49, 46] from rfl, show (⟨#[48]⟩ : ByteArray) = mkS [48] from rfl, show (⟨#[32]⟩ : ByteArray) = mkS [32] from rfl, add5, HNxt.out]; rfl
        clear hwz hwl hws hst hVi HVi hfl hc hxl hr hi HNxt
        generalize names.getD 0 [] = x at *
        go_wp2_with fail
        refine HVi2.out.mono ?_
        rintro e w11 ⟨v11, rfl, ho, hb⟩
        have HF11 := Lib.hid (isFlds_own ho)
        have HB11 := Lib.hid (HB.out.trans (hb.mono HB.out.size))
        have hc11 := (hb.cell (p := ⟨b, o, none⟩) (cell_lt (p := ⟨b, o, none⟩) hc0)).trans hc0
        clear ho hb hc0 HVi2
        go_wp2_with fail
        go_quiet (fail)
        go_wp2_with fail
        exact ⟨⟨0 + 1, hlt, HF11.out, by rw [← HStr.out]; rfl, by go_num, below_some_draws HB11.out _⟩, by simp [RowKit.intOf]; omega⟩
      · rcases Nat.mod_two_eq_zero_or_one i with hr | hr
        · skip
          have HNxt : Hid (wayB names (i + 1) = _) := Lib.hid (way_next names i 0 hr 48 rfl)
          have HVi2 : Hid (Calls Tryd.prog 23 #[.slice a9 (wayF names i).length c9, .int .i64 0, .string (mkS (names.getD i []))] W fun e w' => ∃ v', e = .returned v' ∧ w'.ownsRow W.heap.size 24 2 v' (wayF names (i + 1)).length (fcells (wayF names (i + 1))) ∧ Below W.heap.size W w') := by rw [hr] at HVi; exact HVi
          have hxs : (mkS (names.getD i [])).size ≤ 200 := by rw [size_mkS]; exact hxl
          have hys : (mkS (wayB names i)).size ≤ 10000 := by rw [size_mkS]; omega
          rw [if_neg h0] at HNxt
          have hm : (i : Int) % 2 = 0 := by omega
          have hm2 : Int.tmod (i : Int) 2 = 0 := by rw [Int.tmod_eq_emod_of_nonneg g0]; omega
          have m0 : (0 : Int) < (i : Int) := by omega
          have HStr : Hid (mkS (wayB names i) ++ ⟨#[44, 32]⟩ ++ ⟨#[49, 46]⟩ ++ ⟨#[48]⟩ ++ ⟨#[32]⟩ ++ mkS (names.getD i []) = mkS (wayB names (i + 1))) := by
            rw [show (⟨#[44, 32]⟩ : ByteArray) = mkS [44, 32] from rfl, show (⟨#[49, 46]⟩ : ByteArray) = mkS [49, 46] from rfl, show (⟨#[48]⟩ : ByteArray) = mkS [48] from rfl, show (⟨#[32]⟩ : ByteArray) = mkS [32] from rfl, mkS_append (wayB names i), add5, HNxt.out]; exact rfl
          clear hwz hwl hws hst hVi HVi hfl hc hxl hr hi HNxt h0 hlt
          generalize names.getD i [] = x at *
          go_wp2_with fail
          refine HVi2.out.mono ?_
          rintro e w11 ⟨v11, rfl, ho, hb⟩
          have HF11 := Lib.hid (isFlds_own ho)
          have HB11 := Lib.hid (HB.out.trans (hb.mono HB.out.size))
          have hc11 := (hb.cell (p := ⟨b, o + i, none⟩) (cell_lt (p := ⟨b, o + i, none⟩) hc0)).trans hc0
          clear ho hb hc0 HVi2
          go_wp2_with fail
          go_quiet (fail)
          go_wp2_with fail
          exact ⟨⟨i + 1, by omega, HF11.out, by rw [← HStr.out]; rfl, by go_num, below_some_draws HB11.out _⟩, by simp [RowKit.intOf]; omega⟩
        · skip
          have HNxt : Hid (wayB names (i + 1) = _) := Lib.hid (way_next names i 1 hr 49 rfl)
          have HVi2 : Hid (Calls Tryd.prog 23 #[.slice a9 (wayF names i).length c9, .int .i64 1, .string (mkS (names.getD i []))] W fun e w' => ∃ v', e = .returned v' ∧ w'.ownsRow W.heap.size 24 2 v' (wayF names (i + 1)).length (fcells (wayF names (i + 1))) ∧ Below W.heap.size W w') := by rw [hr] at HVi; exact HVi
          have hxs : (mkS (names.getD i [])).size ≤ 200 := by rw [size_mkS]; exact hxl
          have hys : (mkS (wayB names i)).size ≤ 10000 := by rw [size_mkS]; omega
          rw [if_neg h0] at HNxt
          have hm : (i : Int) % 2 = 1 := by omega
          have hm2 : Int.tmod (i : Int) 2 = 1 := by rw [Int.tmod_eq_emod_of_nonneg g0]; omega
          have m0 : (0 : Int) < (i : Int) := by omega
          have HStr : Hid (mkS (wayB names i) ++ ⟨#[44, 32]⟩ ++ ⟨#[49, 46]⟩ ++ ⟨#[49]⟩ ++ ⟨#[32]⟩ ++ mkS (names.getD i []) = mkS (wayB names (i + 1))) := by
            rw [show (⟨#[44, 32]⟩ : ByteArray) = mkS [44, 32] from rfl, show (⟨#[49, 46]⟩ : ByteArray) = mkS [49, 46] from rfl, show (⟨#[49]⟩ : ByteArray) = mkS [49] from rfl, show (⟨#[32]⟩ : ByteArray) = mkS [32] from rfl, mkS_append (wayB names i), add5, HNxt.out]; exact rfl
          clear hwz hwl hws hst hVi HVi hfl hc hxl hr hi HNxt h0 hlt
          generalize names.getD i [] = x at *
          go_wp2_with fail
          refine HVi2.out.mono ?_
          rintro e w11 ⟨v11, rfl, ho, hb⟩
          have HF11 := Lib.hid (isFlds_own ho)
          have HB11 := Lib.hid (HB.out.trans (hb.mono HB.out.size))
          have hc11 := (hb.cell (p := ⟨b, o + i, none⟩) (cell_lt (p := ⟨b, o + i, none⟩) hc0)).trans hc0
          clear ho hb hc0 HVi2
          go_wp2_with fail
          go_quiet (fail)
          go_wp2_with fail
          exact ⟨⟨i + 1, by omega, HF11.out, by rw [← HStr.out]; rfl, by go_num, below_some_draws HB11.out _⟩, by simp [RowKit.intOf]; omega⟩
    · obtain rfl : i = names.length := by omega
      have hG : Calls Tryd.prog 24 #[.slice a9 (wayF names names.length).length c9, .string ⟨#[86, 105, 97]⟩] W fun e w' => e = .returned (.tuple #[.string (mkS (joinB (allF (wayF names names.length) viB))), .bool (decide (0 < (allF (wayF names names.length) viB).length))]) ∧ Below W.heap.size W w' :=
        rget_any _ (wayF names names.length) viB W hfl (by omega) (by decide) (by omega)
      rw [way_get] at hG
      have HG := Lib.hid hG
      have he : ((mkS (wayB names names.length)).toList == (mkS (wayB names names.length)).toList) = true := by simp
      have hl1 : ((wayF names names.length).length : Int) = min 1 (names.length : Int) := by omega
      generalize decide (0 < (allF (wayF names names.length) viB).length) = dd at *
      clear hG hwz hwl hws hfl hi hlt
      generalize mkS (wayB names names.length) = wy at *
      go_wp2_with fail
      refine HG.out.mono ?_
      rintro e w11 ⟨rfl, hb⟩
      have HB11 := Lib.hid (HB.out.trans (hb.mono HB.out.size))
      clear hb HG
      go_wp2_with fail
      go_ret
      exact ⟨rfl, HB11.out⟩
end Tk
end Go.Proofs.YtcddkeekabafgaaDoor
