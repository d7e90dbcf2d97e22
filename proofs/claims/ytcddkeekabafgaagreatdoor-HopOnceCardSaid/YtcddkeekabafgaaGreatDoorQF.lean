/- RefD RefSt BasZ, put together. -/
import Derived.Test.YtcddkeekabafgaaGreatDoorQE
import Derived.Test.YtcddkeekabafgaaGreatDoorQD
namespace Go.Proofs.YtcddkeekabafgaaGreatDoor
open Go.RowKit
namespace Tk

theorem joinB_snoc (P : List Bs) (x : Bs) : joinB (P ++ [x]) = if P = [] then x else joinB P ++ [44, 32] ++ x := by
  unfold joinB
  cases P with
  | nil => simp [Lib.join_one]
  | cons y r =>
    rw [if_neg (by simp), List.cons_append, Lib.join_cons, Lib.join_cons]
    simp [Lib.joinTail]
theorem joinB_len (P : List Bs) : (joinB P).length ≤ Lib.lens P + 2 * P.length := by
  unfold joinB
  cases P with
  | nil => simp [Lib.join_nil]
  | cons x r => rw [Lib.join_length]; simp only [List.length_cons, List.length_nil]; omega
theorem joinB_take (P : List Bs) (i : Nat) : (joinB (P.take i)).length ≤ Lib.lens P + 2 * P.length := by
  have h1 := joinB_len (P.take i)
  have h2 := Lib.lens_take_le P i
  rw [List.length_take] at h1
  omega
theorem lens_mem (P : List Bs) (x : Bs) (h : x ∈ P) : x.length ≤ Lib.lens P := by
  induction P with
  | nil => simp at h
  | cons y t ih =>
    rcases List.mem_cons.1 h with rfl | h
    · simp [Lib.lens]
    · have := ih h; simp [Lib.lens] at *; omega

set_option maxHeartbeats 4000000 in
set_option maxRecDepth 100000 in
theorem rjoin_any (v : Value) (P : List Bs) (w : World) (hs : IsStrs w v P) (hP : P.length ≤ 1048576) (hj : Lib.lens P + 2 * P.length ≤ 1000000) :
    Calls Tryz.prog 42 #[v] w fun e w' => e = .returned (.string (mkS (joinB P))) ∧ w = w' := by
  obtain ⟨a, c, rfl, hc⟩ := hs
  have HC := Lib.hid hc
  have HT := Lib.hid (joinB_take P)
  have HM := Lib.hid (lens_mem P)
  clear hc
  go_enter Tryz.func42, Tryz.ntmps42
  go_wp2_with fail
  go_loop [3, 4] (fun vs vi => ∃ i : Nat, i ≤ P.length ∧ vi = .int .i64 i ∧ vs = .string (mkS (joinB (P.take i)))) (fun _ vi => P.length - (RowKit.intOf vi).toNat)
  case atStart => exact ⟨0, Nat.zero_le _, rfl, rfl⟩
  case round =>
    obtain ⟨i, hi, rfl, rfl⟩ := hrel
    by_cases hlt : i < P.length
    · obtain ⟨b, o, rfl, hc0⟩ := HC.out i (P.getD i []) (by simp [List.getD, hlt])
      have htk : P.take (i + 1) = P.take i ++ [P.getD i []] := by rw [List.take_succ_eq_append_getElem hlt]; simp [List.getD, hlt]
      have hsn := joinB_snoc (P.take i) (P.getD i [])
      rw [← htk] at hsn
      have hz := HT.out i
      have hxz := HM.out (P.getD i []) (by simp [List.getD, hlt])
      have hnil : P.take i = [] ↔ i = 0 := by
        rw [List.take_eq_nil_iff]
        constructor
        · rintro (h | h)
          · exact h
          · rw [h] at hlt; simp at hlt
        · exact .inl
      clear htk
      generalize P.getD i [] = x at *
      generalize hJ2 : joinB (P.take (i + 1)) = J2 at *
      generalize hJ : joinB (P.take i) = J at *
      have HJ2 := Lib.hid hJ2
      have z1 := size_mkS J
      have z2 := size_mkS x
      have y1 : (mkS J).size ≤ 1000000 := by omega
      have y2 : (mkS x).size ≤ 1000000 := by omega
      have g0 : (0 : Int) ≤ (i : Int) := by omega
      have g1 : (i : Int) < (P.length : Int) := by omega
      by_cases hi0 : i = 0
      · have e0 : ¬ (0 : Int) < (i : Int) := by omega
        have hJe : J = [] := by rw [← hJ, hnil.2 hi0]; rfl
        rw [if_pos (hnil.2 hi0)] at hsn
        have E : Hid (mkS J ++ mkS x = mkS J2) := by show _ = _; rw [hJe, hsn, mkS_append]; rfl
        clear hnil hsn hJ hJ2 z1 z2 hi0 hJe
        go_wp2_with fail
        exact ⟨⟨i + 1, hlt, by go_num, by rw [HJ2.out]; exact congrArg Value.string E.out⟩, by simp [RowKit.intOf]; omega⟩
      · have e0 : (0 : Int) < (i : Int) := by omega
        rw [if_neg (fun h => hi0 (hnil.1 h))] at hsn
        have E : Hid (mkS J ++ ⟨#[44, 32]⟩ ++ mkS x = mkS J2) := by show _ = _; rw [hsn, ← mkS_append, ← mkS_append]; rfl
        clear hnil hsn hJ hJ2 z1 z2 hi0
        go_wp2_with fail
        exact ⟨⟨i + 1, hlt, by go_num, by rw [HJ2.out]; exact congrArg Value.string E.out⟩, by simp [RowKit.intOf]; omega⟩
    · have hil : P.take i = P := List.take_of_length_le (by omega)
      have HF := Lib.hid hil
      clear hil
      go_wp2_with fail
      go_ret
      exact ⟨by rw [HF.out]; rfl, rfl⟩

set_option maxHeartbeats 4000000 in
set_option maxRecDepth 100000 in
theorem rget_any (v : Value) (l : List (Bs × Bs)) (name : Bs) (w : World) (hs : IsFlds w v l) (hz : sumF l ≤ 1000000) (hn : name.length ≤ 1099511627776) (hl : l.length ≤ 1048576) :
    Calls Tryz.prog 20 #[v, .string (mkS name)] w fun e w' => e = .returned (.tuple #[.string (mkS (joinB (allF l name))), .bool (decide (0 < (allF l name).length))]) ∧ Below w.heap.size w w' := by
  have HA := Lib.hid (rall_any v l name w hs (sum_each l (by omega)) hn hl)
  unfold ListPost at HA
  obtain ⟨a, cap, rfl⟩ : ∃ a cap, v = .slice a l.length cap := by obtain ⟨a, c, h, -⟩ := hs; exact ⟨a, c, h⟩
  have hal := allF_len l name
  have hsm := sum_all name l
  have hP : (allF l name).length ≤ 1048576 := by omega
  have hj : Lib.lens (allF l name) + 2 * (allF l name).length ≤ 1000000 := by omega
  clear hs hz hal hsm
  generalize allF l name = P at *
  go_enter Tryz.func20, Tryz.ntmps20
  go_wp2_with fail
  refine HA.out.mono ?_
  rintro e w1 ⟨v1, rfl, ho, hb⟩
  have HB := Lib.hid hb
  have HJ := Lib.hid (rjoin_any v1 P w1 (isStrs_own ho) hP hj)
  obtain ⟨a1, c1, rfl⟩ : ∃ a c, v1 = .slice a P.length c := by obtain ⟨a, c, h, -⟩ := isStrs_own ho; exact ⟨a, c, h⟩
  clear ho hb hj
  by_cases hp : 0 < P.length
  all_goals
    go_wp2_with fail
    refine HJ.out.mono ?_
    rintro e w' ⟨rfl, rfl⟩
    go_wp2_with fail
    go_ret2
    exact ⟨by first | (rw [decide_eq_true hp]; done) | (rw [decide_eq_false hp]; done) | (simp [hp]; done) | rfl, HB.out⟩
end Tk
end Go.Proofs.YtcddkeekabafgaaGreatDoor
namespace Go.Proofs.YtcddkeekabafgaaGreatDoor
open Go.RowKit
namespace Tk

def stG (name x : Bs) : Bool → List (Bs × Bs) → List (Bs × Bs)
  | _, [] => []
  | th, f :: t => if isN name f then (if th then stG name x true t else (f.1, x) :: stG name x true t) else f :: stG name x th t
def anyN (name : Bs) (l : List (Bs × Bs)) : Bool := l.any (isN name)
theorem anyN_snoc (name : Bs) (l : List (Bs × Bs)) (f : Bs × Bs) : anyN name (l ++ [f]) = (anyN name l || isN name f) := by unfold anyN; simp
theorem stG_snoc (name x : Bs) (f : Bs × Bs) : ∀ (l : List (Bs × Bs)) (th : Bool), stG name x th (l ++ [f]) = stG name x th l ++ (if isN name f then (if th || anyN name l then [] else [(f.1, x)]) else [f])
  | [], th => by
    cases h : isN name f <;> cases th <;> simp [stG, h, anyN]
  | g :: t, th => by
    have h1 := stG_snoc name x f t true
    have h2 := stG_snoc name x f t th
    rw [List.cons_append]
    unfold stG
    cases hg : isN name g
    · simp only [Bool.false_eq_true, if_false, h2]
      rw [show anyN name (g :: t) = anyN name t by unfold anyN; simp [hg]]
      rfl
    · have ha : anyN name (g :: t) = true := by unfold anyN; simp [hg]
      cases th
      · simp only [if_true, Bool.false_eq_true, if_false, h1, ha]
        rfl
      · simp only [if_true, h1, ha]
        rfl
theorem stG_true (name x : Bs) : ∀ l : List (Bs × Bs), stG name x true l = delF name l
  | [] => rfl
  | f :: t => by
    rw [delF_cons]
    unfold stG
    rw [stG_true name x t]
    cases h : isN name f <;> simp
theorem stG_all (name x : Bs) : ∀ l : List (Bs × Bs), stG name x false l ++ (if anyN name l then [] else [(name, x)]) = setF name x l
  | [] => rfl
  | f :: t => by
    have ih := stG_all name x t
    unfold stG
    cases h : isN name f
    · rw [show anyN name (f :: t) = anyN name t by unfold anyN; simp [h]]
      simp only [Bool.false_eq_true, if_false, List.cons_append, ih]
      unfold setF
      rw [List.findIdx_cons, h]
      simp only [cond_false, List.length_cons, Nat.add_lt_add_iff_right]
      split
      · simp
      · simp
    · rw [show anyN name (f :: t) = true by unfold anyN; simp [h]]
      simp only [if_true, Bool.false_eq_true, if_false, List.append_nil, stG_true]
      unfold setF
      rw [List.findIdx_cons, h]
      simp
theorem stG_len (name x : Bs) : ∀ (l : List (Bs × Bs)) (th : Bool), (stG name x th l).length ≤ l.length
  | [], _ => Nat.le_refl _
  | f :: t, th => by
    have h1 := stG_len name x t true
    have h2 := stG_len name x t th
    unfold stG
    split
    · split
      · simp; omega
      · simp; omega
    · simp; omega

theorem below_put {w : World} {B k : Nat} (h : B ≤ k) (o : Nat) (v : Value) : Below B w (w.setCell ⟨k, o, none⟩ v) :=
  ⟨rfl, rfl, rfl, by simp, fun j hj => Below.heap_setCell _ _ _ _ (by show j ≠ k; omega)⟩
theorem own_aside {w : World} {B n size k : Nat} {v : Value} {xs : List Value} {e : TypeId} (h : w.ownsRow B e size v n xs) (hk : v.ownBlock ≠ some k) (o : Nat) (u : Value) : (w.setCell ⟨k, o, none⟩ u).ownsRow B e size v n xs := by
  rcases h.2 with hn | ⟨g, cap, cur, rfl, hb, hgg, rest⟩
  · exact ⟨h.1, .inl hn⟩
  · exact ⟨h.1, .inr ⟨g, cap, cur, rfl, hb, (Below.heap_setCell _ _ _ _ (by show g ≠ k; intro e2; exact hk (congrArg some e2))).trans hgg, rest⟩⟩

set_option maxHeartbeats 8000000 in
set_option maxRecDepth 100000 in
theorem rset_any (v : Value) (l : List (Bs × Bs)) (name y : Bs) (w : World) (hs : IsFlds w v l) (hz : ∀ f ∈ l, f.1.length ≤ 1099511627776 ∧ f.2.length ≤ 1099511627776) (hn : name.length ≤ 1099511627776) (hl : l.length ≤ 1048576) :
    Calls Tryz.prog 36 #[v, .string (mkS name), .string (mkS y)] w (OwnPost (setF name y l) w) := by
  have HS := Lib.hid hs
  have HZ := Lib.hid hz
  have HNZ := Lib.hid (size_mkS name)
  unfold OwnPost
  obtain ⟨a, cap, rfl⟩ : ∃ a cap, v = .slice a l.length cap := by obtain ⟨a, c, h, -⟩ := hs; exact ⟨a, c, h⟩
  clear hs hz
  go_enter Tryz.func36, Tryz.ntmps36
  go_wp2_with fail
  go_loopw [7, 8, 9] (fun v7 v8 vi wr => ∃ i : Nat, i ≤ l.length ∧ v8 = .bool (anyN name (l.take i)) ∧ vi = .int .i64 i ∧ Hid (wr.ownsRow w.heap.size 32 2 v7 (stG name y false (l.take i)).length (fcells (stG name y false (l.take i)))) ∧ Hid (Below w.heap.size w wr)) (fun _ _ vi _ => l.length - (RowKit.intOf vi).toNat)
  case atStart => exact ⟨0, Nat.zero_le _, rfl, rfl, World.ownsRow_nil _ _ _ _, Below.refl _ _⟩
  case round =>
    obtain ⟨i, hi, rfl, rfl, HO, HB⟩ := hrel
    rename World => W
    by_cases hlt : i < l.length
    · obtain ⟨a', c', e', hcap, hc⟩ := isFlds_below HS.out HB.out
      injection e' with e1 _ e2
      subst e1 e2
      obtain ⟨b, o, rfl, hc0, hc1⟩ := hc i (l.getD i ([], [])) (by simp [List.getD, hlt])
      have hm := HZ.out (l.getD i ([], [])) (by simp [List.getD, hlt])
      have htk : l.take (i + 1) = l.take i ++ [l.getD i ([], [])] := by
        rw [List.take_succ_eq_append_getElem hlt]; simp [List.getD, hlt]
      have hnx := stG_snoc name y (l.getD i ([], [])) (l.take i) false
      rw [← htk, Bool.false_or] at hnx
      have hax := anyN_snoc name (l.take i) (l.getD i ([], []))
      rw [← htk] at hax
      have HNX := Lib.hid hnx
      have hal := stG_len name y (l.take i) false
      have htl : (l.take i).length ≤ i := by simp; omega
      have hal2 : (stG name y false (l.take i)).length ≤ 1048576 := by omega
      clear hc htk hnx hal htl
      generalize l.getD i ([], []) = f at *
      obtain ⟨n, x⟩ := f
      have hnz := size_mkS n
      simp only at hm hc0 hc1
      have HC := fun W : World => rsm_any (mkS n) (mkS name) W (by omega) (by rw [HNZ.out]; exact hn)
      rw [bs_mkS, bs_mkS] at HC
      have g0 : (0 : Int) ≤ (i : Int) := by omega
      have g1 : (i : Int) < (l.length : Int) := by omega
      clear hnz
      have hkk : isN name (n, x) = decide (lowL n = lowL name) := rfl
      rw [← hkk] at HC
      clear hkk
      have HT0 := Lib.hid (Two.new W 32 (.string (mkS n)) (.string (mkS x)))
      have hb0 : Below W.heap.size W (W.alloc (Obj.cells #[.string (mkS n), .string (mkS x)] 32)) := (Below.refl _ _).alloc (Nat.le_refl _) _
      have HO0 := Lib.hid (keepD HO.out hb0)
      have HB0 := Lib.hid (HB.out.trans (hb0.mono HB.out.size))
      have HOb := Lib.hid (ownBlock_lt HO.out)
      have hsW := HB.out.size
      have HSW := Lib.hid hsW
      clear hb0 hsW
      generalize stG name y false (l.take i) = P at *
      generalize hth : anyN name (l.take i) = th at *
      cases hk : isN name (n, x)
      · rw [hk] at HC HNX hax
        have hx2 : stG name y false (l.take (i + 1)) = P ++ [(n, x)] := by rw [HNX.out]; simp
        have HX := Lib.hid hx2
        have HAx := Lib.hid (show anyN name (l.take (i + 1)) = th by rw [hax]; simp)
        have HC2 := Lib.hid HC
        clear HC hk hx2 hax hth
        go_wp2_with fail
        refine (HC2.out _).mono ?_
        rintro e w6 ⟨rfl, hb⟩
        have ho6 := keepD HO0.out hb
        have HT6 := Lib.hid (HT0.out.later hb)
        have HB6 := Lib.hid (HB0.out.trans (hb.mono HB0.out.size))
        have p0 := HT6.out.c0
        have p1 := HT6.out.c1
        have hbal : Below w6.heap.size w6 (w6.alloc (Obj.cells #[.string (mkS n), .string (mkS x)] 32)) := (Below.refl _ _).alloc (Nat.le_refl _) _
        have HO7 := Lib.hid (keepD ho6 hbal)
        have HF7 := Lib.hid (isFlds_lit w6 n x)
        have HB7 := Lib.hid (HB6.out.trans (hbal.mono HB6.out.size))
        have hs7 : w.heap.size ≤ (w6.alloc (Obj.cells #[.string (mkS n), .string (mkS x)] 32)).heap.size := HB7.out.size
        clear hb ho6 hbal
        go_wp2_with (at_builtin; refine joinF_guarded (by rfl) _ _ rfl w.heap.size _ _ P [(n, x)] rfl rfl HO7.out HF7.out (fun _ _ h => by injection h with h1; cases h1) hs7 hal2 (by simp) ?_)
        intro v8 w8 ho8 hg8
        have HB8 := Lib.hid (HB7.out.trans (below_of_grownF hg8 HO7.out hs7))
        have e1 : (P ++ [(n, x)]).length = P.length + 1 := by simp
        have HO8 : Hid (w8.ownsRow w.heap.size 32 2 v8 (stG name y false (l.take (i + 1))).length (fcells (stG name y false (l.take (i + 1))))) := by
          show World.ownsRow _ _ _ _ _ _ _
          rw [HX.out]
          first | exact ho8 | (rw [e1]; exact ho8)
        clear ho8 hg8 e1
        go_wp2_with fail
        exact ⟨⟨i + 1, hlt, by rw [HAx.out], by go_num, HO8, HB8⟩, by simp [RowKit.intOf]; omega⟩
      · rw [hk] at HC HNX hax
        have HAx := Lib.hid (show anyN name (l.take (i + 1)) = true by rw [hax]; simp)
        have HC2 := Lib.hid HC
        clear HC hk hax hth
        cases th
        · have hx2 : stG name y false (l.take (i + 1)) = P ++ [(n, y)] := by rw [HNX.out]; simp
          have HX := Lib.hid hx2
          clear hx2
          go_wp2_with fail
          refine (HC2.out _).mono ?_
          rintro e w6 ⟨rfl, hb⟩
          have ho6 := keepD HO0.out hb
          have HT6 := Lib.hid (HT0.out.later hb)
          have HB6 := Lib.hid (HB0.out.trans (hb.mono HB0.out.size))
          have p0 := HT6.out.c0
          have p1 := HT6.out.c1
          have r1 := HT6.out.f1
          have HBp := Lib.hid (HB6.out.trans (below_put (w := w6) HSW.out 1 (.string (mkS y))))
          have hop := own_aside ho6 HOb.out 1 (.string (mkS y))
          have hbal : Below (w6.setCell ⟨W.heap.size, 1, none⟩ (.string (mkS y))).heap.size (w6.setCell ⟨W.heap.size, 1, none⟩ (.string (mkS y))) ((w6.setCell ⟨W.heap.size, 1, none⟩ (.string (mkS y))).alloc (Obj.cells #[.string (mkS n), .string (mkS y)] 32)) := (Below.refl _ _).alloc (Nat.le_refl _) _
          have HO7 := Lib.hid (keepD hop hbal)
          have hsz : (w6.setCell ⟨W.heap.size, 1, none⟩ (.string (mkS y))).heap.size = w6.heap.size := by simp
          have hF7 := isFlds_lit (w6.setCell ⟨W.heap.size, 1, none⟩ (.string (mkS y))) n y
          rw [hsz] at hF7
          have HF7 := Lib.hid hF7
          clear hF7 hsz
          have HB7 := Lib.hid (HBp.out.trans (hbal.mono HBp.out.size))
          have hs7 : w.heap.size ≤ ((w6.setCell ⟨W.heap.size, 1, none⟩ (.string (mkS y))).alloc (Obj.cells #[.string (mkS n), .string (mkS y)] 32)).heap.size := HB7.out.size
          clear hb ho6 hop hbal
          go_wp2_with (at_builtin; refine joinF_guarded (by rfl) _ _ rfl w.heap.size _ _ P [(n, y)] rfl rfl HO7.out HF7.out (fun _ _ h => by injection h with h1; cases h1) hs7 hal2 (by simp) ?_)
          intro v8 w8 ho8 hg8
          have HB8 := Lib.hid (HB7.out.trans (below_of_grownF hg8 HO7.out hs7))
          have e1 : (P ++ [(n, y)]).length = P.length + 1 := by simp
          have HO8 : Hid (w8.ownsRow w.heap.size 32 2 v8 (stG name y false (l.take (i + 1))).length (fcells (stG name y false (l.take (i + 1))))) := by
            show World.ownsRow _ _ _ _ _ _ _
            rw [HX.out]
            first | exact ho8 | (rw [e1]; exact ho8)
          clear ho8 hg8 e1
          go_wp2_with fail
          exact ⟨⟨i + 1, hlt, by rw [HAx.out], by go_num, HO8, HB8⟩, by simp [RowKit.intOf]; omega⟩
        · have hx2 : stG name y false (l.take (i + 1)) = P := by rw [HNX.out]; simp
          have HX := Lib.hid hx2
          clear hx2
          go_wp2_with fail
          refine (HC2.out _).mono ?_
          rintro e w6 ⟨rfl, hb⟩
          have HO6 := Lib.hid (keepD HO0.out hb)
          have HB6 := Lib.hid (HB0.out.trans (hb.mono HB0.out.size))
          clear hb
          go_wp2_with fail
          refine ⟨⟨i + 1, hlt, by rw [HAx.out], by go_num, ?_, HB6⟩, by simp [RowKit.intOf]; omega⟩
          show World.ownsRow _ _ _ _ _ _ _
          rw [HX.out]
          exact HO6.out
    · have hil : l.take i = l := List.take_of_length_le (by omega)
      rw [hil] at HO ⊢
      have hall := stG_all name y l
      have hal := stG_len name y l false
      generalize stG name y false l = P at *
      cases hth : anyN name l
      · rw [hth] at hall
        have HAll := Lib.hid hall
        have hbal : Below W.heap.size W (W.alloc (Obj.cells #[.string (mkS name), .string (mkS y)] 32)) := (Below.refl _ _).alloc (Nat.le_refl _) _
        have HO7 := Lib.hid (keepD HO.out hbal)
        have HF7 := Lib.hid (isFlds_lit W name y)
        have HB7 := Lib.hid (HB.out.trans (hbal.mono HB.out.size))
        have hs7 : w.heap.size ≤ (W.alloc (Obj.cells #[.string (mkS name), .string (mkS y)] 32)).heap.size := HB7.out.size
        have hal2 : P.length ≤ 1048576 := by omega
        clear hall hbal hil hth hal
        go_wp2_with (at_builtin; refine joinF_guarded (by rfl) _ _ rfl w.heap.size _ _ P [(name, y)] rfl rfl HO7.out HF7.out (fun _ _ h => by injection h with h1; cases h1) hs7 hal2 (by simp) ?_)
        intro v8 w8 ho8 hg8
        have HB8 := Lib.hid (HB7.out.trans (below_of_grownF hg8 HO7.out hs7))
        have e1 : (P ++ [(name, y)]).length = P.length + 1 := by simp
        have HO8 : Hid (w8.ownsRow w.heap.size 32 2 v8 (setF name y l).length (fcells (setF name y l))) := by
          show World.ownsRow _ _ _ _ _ _ _
          rw [← HAll.out]
          first | exact ho8 | (simp only [Bool.false_eq_true, if_false]; exact ho8) | (simp only [Bool.false_eq_true, if_false]; rw [e1]; exact ho8)
        clear ho8 hg8 e1
        go_wp2_with fail
        go_ret
        exact ⟨_, rfl, HO8.out, HB8.out⟩
      · rw [hth] at hall
        simp only [if_true, List.append_nil] at hall
        have HAll := Lib.hid hall
        clear hall hil hth hal
        go_wp2_with fail
        go_ret
        refine ⟨_, rfl, ?_, HB.out⟩
        rw [← HAll.out]
        exact HO.out
end Tk
end Go.Proofs.YtcddkeekabafgaaGreatDoor

