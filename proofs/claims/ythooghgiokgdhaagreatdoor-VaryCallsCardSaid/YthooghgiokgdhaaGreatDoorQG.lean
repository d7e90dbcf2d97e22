/- VaV VaM VaF FldN, put together. -/
import Derived.Test.YthooghgiokgdhaaGreatDoorQF
import Derived.Test.YthooghgiokgdhaaGreatDoorQC
import Derived.Deep.Cut
import Derived.Deep.RegionHeld3
import Derived.Test.YthooghgiokgdhaaGreatDoorQD
import Derived.Test.YthooghgiokgdhaaGreatDoorQB
import Derived.Laws.StructEq
import Derived.IntWalk
import Derived.Deep.QuietTactic
import Derived.BigQuiet
namespace Go.Proofs.YthooghgiokgdhaaGreatDoor
open Go.RowKit
namespace Tk

/-- the values, the first i of them with single blanks -/
def mixV (P : List Bs) (i : Nat) : List Bs := (P.take i).map narL ++ P.drop i
theorem mixV_len (P : List Bs) (i : Nat) : (mixV P i).length = P.length := by
  unfold mixV; rw [List.length_append, List.length_map, List.length_take, List.length_drop]; omega
theorem mixV_get (P : List Bs) (i : Nat) (h : i < P.length) : (strs (mixV P i))[i]? = some (.string (mkS (P.getD i []))) := by
  unfold strs mixV
  rw [List.getElem?_map, List.getElem?_append_right (by rw [List.length_map, List.length_take]; omega), List.length_map, List.length_take, Nat.min_eq_left (by omega), Nat.sub_self, List.getElem?_drop, Nat.add_zero]
  simp [List.getD, h]
theorem mixV_set (P : List Bs) (i : Nat) (h : i < P.length) : (strs (mixV P i)).set i (.string (mkS (narL (P.getD i [])))) = strs (mixV P (i + 1)) := by
  apply List.ext_getElem?
  intro j
  unfold strs mixV
  rw [List.getElem?_set, List.getElem?_map, List.getElem?_map]
  by_cases e : i = j
  · subst e
    rw [if_pos rfl, if_pos (by rw [List.length_map, List.length_append, List.length_map, List.length_take, List.length_drop]; omega)]
    rw [List.getElem?_append_left (by rw [List.length_map, List.length_take]; omega), List.getElem?_map, List.getElem?_take, if_pos (by omega)]
    simp [List.getD, h]
  · rw [if_neg e]
    by_cases hj : j < i
    · rw [List.getElem?_append_left (by rw [List.length_map, List.length_take]; omega), List.getElem?_append_left (by rw [List.length_map, List.length_take]; omega), List.getElem?_map, List.getElem?_map, List.getElem?_take, List.getElem?_take, if_pos (by omega), if_pos (by omega)]
    · rw [List.getElem?_append_right (by rw [List.length_map, List.length_take]; omega), List.getElem?_append_right (by rw [List.length_map, List.length_take]; omega), List.length_map, List.length_map, List.length_take, List.length_take, List.getElem?_drop, List.getElem?_drop]
      congr 2
      omega
theorem mixV_0 (P : List Bs) : mixV P 0 = P := by simp [mixV]
theorem mixV_end (P : List Bs) : mixV P P.length = P.map narL := by simp [mixV]
theorem own_keepV {w w' : World} {B : Nat} {v : Value} {n : Nat} {xs : List Value} {e : TypeId} (h : w.ownsRow B e 1 v n xs) (hb : Below w.heap.size w w') : w'.ownsRow B e 1 v n xs :=
  World.ownsRow.kept h (row := none) ⟨hb.os, hb.tape, hb.output, hb.size, fun k hk _ => hb.block k hk⟩ (by cases h : v.ownBlock <;> simp)
theorem lens_nar : ∀ P : List Bs, Lib.lens (P.map narL) ≤ Lib.lens P
  | [] => by simp [Lib.lens]
  | x :: t => by
    have h1 := narL_len x
    have h2 := lens_nar t
    simp only [Lib.lens, List.map_cons, List.sum_cons] at h2 ⊢
    omega
theorem joinN_len (P : List Bs) : (Lib.join (P.map narL) [44, 32]).length ≤ Lib.lens P + 2 * P.length := by
  cases P with
  | nil => simp [Lib.join_nil]
  | cons x t =>
    have h1 := narL_len x
    have h2 := lens_nar t
    rw [List.map_cons, Lib.join_cons, List.length_append, Lib.joinTail_length, List.length_map]
    simp only [Lib.lens, List.map_cons, List.sum_cons, List.length_cons, List.length_nil] at h2 ⊢
    omega

set_option maxHeartbeats 8000000 in
set_option maxRecDepth 100000 in
theorem vval_any (v : Value) (l : List (Bs × Bs)) (name : Bs) (w : World) (hT : Utf w) (hs : IsFlds w v l) (hz : sumF l ≤ 1000000) (hn : name.length ≤ 1099511627776) (hl : l.length ≤ 1048576) :
    Calls Tryz.prog 62 #[v, .string (mkS name)] w fun e w' => e = .returned (.string (mkS (valV (allF l name)))) ∧ Below w.heap.size w w' := by
  have HA := Lib.hid (fall_any v l name w hs (sum_each l (by omega)) hn hl)
  have hpc := Lib.hid (fun p hp => Nat.le_trans (all_piece name l p hp) hz)
  have hal := allF_len l name
  have hPl : (allF l name).length ≤ 1048576 := by omega
  have hsm := sum_all name l
  have hjn := joinN_len (allF l name)
  have hjl : Hid ((joinB ((allF l name).map narL)).length ≤ 2000000) := by show (Lib.join _ _).length ≤ _; omega
  have HT := Lib.hid hT
  unfold ListPost at HA
  obtain ⟨a, cap, rfl⟩ : ∃ a cap, v = .slice a l.length cap := by obtain ⟨a, c, h, -⟩ := hs; exact ⟨a, c, h⟩
  clear hs hz hal hsm hjn hT
  generalize allF l name = P at *
  have hv0 : P = [] → valV P = [45] := fun h => by unfold valV; rw [if_pos h]
  have hv1 : P ≠ [] → valV P = 43 :: joinB (P.map narL) := fun h => by unfold valV; rw [if_neg h]; rfl
  generalize valV P = V at *
  by_cases hP0 : P = []
  · subst hP0
    obtain rfl := hv0 rfl
    clear hv0 hv1
    go_enter Tryz.func62, Tryz.ntmps62
    go_wp2_with fail
    refine HA.out.mono ?_
    rintro e w1 ⟨v1, rfl, ho, hb⟩
    obtain ⟨a1, c1, rfl⟩ : ∃ a c, v1 = .slice a 0 c := by
      rcases ho.2 with ⟨hv, hn⟩ | ⟨g, cap, cur, hv, _⟩
      · exact ⟨_, _, hv⟩
      · exact ⟨_, _, hv⟩
    have HB := Lib.hid hb
    clear ho hb
    go_wp2_with fail
    go_ret
    exact ⟨rfl, HB.out⟩
  · obtain rfl := hv1 hP0
    have hpos : (P.length : Int) ≠ 0 := by
      have : P.length ≠ 0 := fun e => hP0 (List.eq_nil_of_length_eq_zero e)
      omega
    have e0 : ((P.length : Int) == 0) = false := by rw [beq_eq_false_iff_ne]; exact hpos
    have HP0 := Lib.hid hP0
    have HP1 := Lib.hid hpos
    clear hv0 hv1 hP0 hpos
    go_enter Tryz.func62, Tryz.ntmps62
    go_wp2_with fail
    refine HA.out.mono ?_
    rintro e w1 ⟨v1, rfl, ho, hb⟩
    obtain ⟨g, c1, rfl, hge⟩ : ∃ g c, v1 = .slice (some ⟨g, 0, none⟩) P.length c ∧ w.heap.size ≤ g := by
      rcases ho.2 with ⟨hv, hn⟩ | ⟨g, cap, cur, hv, hb, _⟩
      · exact absurd hn (by have := HP1.out; omega)
      · exact ⟨_, _, hv, hb⟩
    have HB := Lib.hid hb
    have HO := Lib.hid ho
    have HGe := Lib.hid hge
    clear ho hb hge
    go_wp2_with fail
    go_loopw [16] (fun vi wr => ∃ i : Nat, i ≤ P.length ∧ vi = .int .i64 i ∧ Hid (wr.ownsRow w.heap.size 9 1 (.slice (some ⟨g, 0, none⟩) P.length c1) P.length (strs (mixV P i))) ∧ Hid (Below w.heap.size w wr)) (fun vi _ => P.length - (RowKit.intOf vi).toNat)
    case atStart => exact ⟨0, Nat.zero_le _, rfl, by show World.ownsRow _ _ _ _ _ _ _; rw [mixV_0]; exact HO.out, HB.out⟩
    case round =>
      obtain ⟨i, hi, rfl, HOi, HBi⟩ := hrel
      rename World => W
      by_cases hlt : i < P.length
      · have hg := mixV_get P i hlt
        have hst := mixV_set P i hlt
        have hm := hpc.out (P.getD i []) (by simp [List.getD, hlt])
        have hc0 := HOi.out.cellAt i (by rw [Nat.mul_one]; exact hlt)
        rw [hg] at hc0
        have hf0 := HOi.out.frozenAt i
        have HN := Lib.hid (narrow_any (P.getD i []) W (HT.out.later HBi.out) (by omega))
        have HG := Lib.hid hg
        have HS := Lib.hid hst
        have g0 : (0 : Int) ≤ (i : Int) := by omega
        have g1 : (i : Int) < (P.length : Int) := by omega
        clear hg hst hm
        generalize P.getD i [] = x at *
        go_wp2_with fail
        refine HN.out.mono ?_
        rintro e W2 ⟨rfl, hb2⟩
        have ho2 := own_keepV HOi.out hb2
        have HB2 := Lib.hid (HBi.out.trans (hb2.mono HBi.out.size))
        have hc2 := ho2.cellAt i (by rw [Nat.mul_one]; exact hlt)
        rw [HG.out] at hc2
        have hf2 := ho2.frozenAt i
        have HO2 := Lib.hid ho2
        clear ho2 hb2 hc0 hf0
        go_wp2_with fail
        have hst := HO2.out.stored i (.string (mkS (narL x)))
        rw [HS.out] at hst
        refine ⟨⟨i + 1, hlt, by go_num, hst.1, ?_⟩, by simp [RowKit.intOf]; omega⟩
        exact HB2.out.setCell (p := ⟨g, i, none⟩) HGe.out _
      · obtain rfl : i = P.length := by omega
        have hol := HOi.out
        rw [mixV_end] at hol
        have hlen2 : P.length = (P.map narL).length := by simp
        have hj := joinP_any (.slice (some ⟨g, 0, none⟩) P.length c1) (P.map narL) w.heap.size W (by rw [← hlen2]; exact hol) (by rw [← hlen2]; exact hPl) (Nat.le_trans hjl.out (by decide))
        have HJ := Lib.hid hj
        clear hol hlen2 hj
        generalize hjj : joinB (P.map narL) = j at *
        have hjz := size_mkS j
        have hjl2 : j.length ≤ 2000000 := hjl.out
        have HJJ := Lib.hid hjj
        clear hjj
        go_wp2_with fail
        refine HJ.out.mono ?_
        rintro e W2 ⟨rfl, hb2⟩
        have HB2 := Lib.hid (HBi.out.trans (hb2.mono HBi.out.size))
        clear hb2
        go_wp2_with fail
        go_ret
        refine ⟨?_, HB2.out⟩
        rw [HJJ.out, show (⟨#[43]⟩ : ByteArray) = mkS [43] from rfl, mkS_append]; rfl
end Tk
end Go.Proofs.YthooghgiokgdhaaGreatDoor
namespace Go.Proofs.YthooghgiokgdhaaGreatDoor
open Go.RowKit
namespace Tk

/-- the function value that Match hands to slices.ContainsFunc -/
def difV (g1 g2 : Nat) : Value := .func (.func 123) #[] #[.pointer (some ⟨g1, 0, none⟩), .pointer (some ⟨g2, 0, none⟩)]
/-- do they differ at a name? -/
def difB (la lb : List (Bs × Bs)) (x : Bs) : Bool := !(decide (valV (allF la x) = valV (allF lb x)))

set_option maxHeartbeats 4000000 in
set_option maxRecDepth 100000 in
theorem match1_any (g1 g2 : Nat) (va vb : Value) (la lb : List (Bs × Bs)) (x : Bs) (w : World) (h1 : Bx w g1 22 #[va]) (h2 : Bx w g2 22 #[vb]) (hT : Utf w) (ha : IsFlds w va la) (hb : IsFlds w vb lb)
    (za : sumF la ≤ 1000000) (zb : sumF lb ≤ 1000000) (hn : x.length ≤ 1099511627776) (na : la.length ≤ 1048576) (nb : lb.length ≤ 1048576) :
    Calls Tryz.prog 123 #[.string (mkS x), .pointer (some ⟨g1, 0, none⟩), .pointer (some ⟨g2, 0, none⟩)] w fun e w' => e = .returned (.bool (difB la lb x)) ∧ Below w.heap.size w w' := by
  have HV1 := Lib.hid (fun (W : World) (hs : IsFlds W va la) (hT : Utf W) => vval_any va la x W hT hs za hn na)
  have HV2 := Lib.hid (fun (W : World) (hs : IsFlds W vb lb) (hT : Utf W) => vval_any vb lb x W hT hs zb hn nb)
  have hbd : Below w.heap.size w w.drew := (Below.refl _ _).drew
  have hHeld0 : (fun Wz : World => Bx Wz g1 22 #[va] ∧ Bx Wz g2 22 #[vb] ∧ IsFlds Wz va la ∧ IsFlds Wz vb lb ∧ Utf Wz ∧ Below w.heap.size w Wz) w.drew := ⟨h1.later hbd, h2.later hbd, isFlds_below ha hbd, isFlds_below hb hbd, hT.later hbd, hbd⟩
  have hq : difB la lb x = !(decide (valV (allF la x) = valV (allF lb x))) := rfl
  rw [hq]
  have hbeq := beq_mkS' (valV (allF la x)) (valV (allF lb x))
  clear h1 h2 hT ha hb hbd hq
  generalize valV (allF la x) = p at *
  generalize valV (allF lb x) = q at *
  obtain ⟨aa, ca, rfl⟩ : ∃ a c, va = .slice a la.length c := by obtain ⟨a, c, h, -⟩ := hHeld0.2.2.1; exact ⟨a, c, h⟩
  obtain ⟨ab, cb, rfl⟩ : ∃ a c, vb = .slice a lb.length c := by obtain ⟨a, c, h, -⟩ := hHeld0.2.2.2.1; exact ⟨a, c, h⟩

  by_cases hpq : p = q
  · rw [decide_eq_true hpq] at hbeq ⊢
    have hbne : ((mkS p).toList != (mkS q).toList) = false := by unfold bne; rw [hbeq]; rfl
    clear hpq
    go_enter Tryz.func123, Tryz.ntmps123
    go_upto_region 1 with fail
    refine wp_region_held_drew (S := (fun Wz : World => Bx Wz g1 22 #[(.slice aa la.length ca)] ∧ Bx Wz g2 22 #[(.slice ab lb.length cb)] ∧ IsFlds Wz (.slice aa la.length ca) la ∧ IsFlds Wz (.slice ab lb.length cb) lb ∧ Utf Wz ∧ Below w.heap.size w Wz)) (by kernel_rfl) hHeld0 (fun hHeld => ?_)
    refine wpAnyH_take (i := 0) (v := (.slice aa la.length ca)) rfl (by kernel_rfl) (by kernel_rfl) (by kernel_rfl) (fun _ _ _ h => h) (Or.inl ⟨by kernel_rfl, ?_⟩) (by assumption) ?_
    case refine_1 => (intro Wz hSw; have u := hSw.1.cell 0 _ rfl; go_simp; try with_reducible rfl)
    try simp only [Act.put, List.getElem_toArray, List.getElem_cons_zero, List.setIfInBounds_toArray, List.set_cons_zero, List.set_cons_succ]
    refine wpAnyH_take (i := 1) (v := .string (mkS x)) rfl (by kernel_rfl) (by kernel_rfl) (by kernel_rfl) (fun _ _ _ h => h) (Or.inl ⟨by kernel_rfl, ?_⟩) (by assumption) ?_
    case refine_1 => (intro Wz hSw; go_simp; try with_reducible rfl)
    try simp only [Act.put, List.getElem_toArray, List.getElem_cons_succ, List.getElem_cons_zero, List.setIfInBounds_toArray, List.set_cons_zero, List.set_cons_succ]
    refine wpAnyH_take (i := 3) (v := .slice ab lb.length cb) rfl (by kernel_rfl) (by kernel_rfl) (by kernel_rfl) (fun _ _ _ h => h) (Or.inl ⟨by kernel_rfl, ?_⟩) (by assumption) ?_
    case refine_1 => (intro Wz hSw; have u := hSw.2.1.cell 0 _ rfl; go_simp; try with_reducible rfl)
    try simp only [Act.put, List.getElem_toArray, List.getElem_cons_succ, List.getElem_cons_zero, List.setIfInBounds_toArray, List.set_cons_zero, List.set_cons_succ]
    refine wpAnyH_take (i := 4) (v := .string (mkS x)) rfl (by kernel_rfl) (by kernel_rfl) (by kernel_rfl) (fun _ _ _ h => h) (Or.inl ⟨by kernel_rfl, ?_⟩) (by assumption) ?_
    case refine_1 => (intro Wz hSw; go_simp; try with_reducible rfl)
    try simp only [Act.put, List.getElem_toArray, List.getElem_cons_succ, List.getElem_cons_zero, List.setIfInBounds_toArray, List.set_cons_zero, List.set_cons_succ]
    refine wpAnyH_ready (rs := [2]) (by kernel_rfl) (by simp) ?_
    refine AllReadyH.cons rfl (fun K hK => ?_) AllReadyH.nil
    go_simp
    refine (HV1.out _ hHeld0.2.2.1 hHeld0.2.2.2.2.1).mono ?_
    rintro e y1 ⟨rfl, hbb⟩
    have hHeld1 : (fun Wz : World => Bx Wz g1 22 #[(.slice aa la.length ca)] ∧ Bx Wz g2 22 #[(.slice ab lb.length cb)] ∧ IsFlds Wz (.slice aa la.length ca) la ∧ IsFlds Wz (.slice ab lb.length cb) lb ∧ Utf Wz ∧ Below w.heap.size w Wz) y1 := ⟨hHeld0.1.later hbb, hHeld0.2.1.later hbb, isFlds_below hHeld0.2.2.1 hbb, isFlds_below hHeld0.2.2.2.1 hbb, hHeld0.2.2.2.2.1.later hbb, hHeld0.2.2.2.2.2.trans (hbb.mono hHeld0.2.2.2.2.2.size)⟩
    clear hbb
    go_simp
    refine hK.out _ _ hHeld1 (fun hHeld2 => ?_)
    clear hK K hHeld2
    try simp only [Act.put, List.getElem_toArray, List.getElem_cons_succ, List.getElem_cons_zero, List.setIfInBounds_toArray, List.set_cons_zero, List.set_cons_succ]
    refine wpAnyH_ready (rs := [5]) (by kernel_rfl) (by simp) ?_
    refine AllReadyH.cons rfl (fun K hK => ?_) AllReadyH.nil
    go_simp
    refine (HV2.out _ hHeld1.2.2.2.1 hHeld1.2.2.2.2.1).mono ?_
    rintro e y2 ⟨rfl, hbb⟩
    have hHeld2x : (fun Wz : World => Bx Wz g1 22 #[(.slice aa la.length ca)] ∧ Bx Wz g2 22 #[(.slice ab lb.length cb)] ∧ IsFlds Wz (.slice aa la.length ca) la ∧ IsFlds Wz (.slice ab lb.length cb) lb ∧ Utf Wz ∧ Below w.heap.size w Wz) y2 := ⟨hHeld1.1.later hbb, hHeld1.2.1.later hbb, isFlds_below hHeld1.2.2.1 hbb, isFlds_below hHeld1.2.2.2.1 hbb, hHeld1.2.2.2.2.1.later hbb, hHeld1.2.2.2.2.2.trans (hbb.mono hHeld1.2.2.2.2.2.size)⟩
    clear hbb
    go_simp
    refine hK.out _ _ hHeld2x (fun hHeld2 => ?_)
    clear hK K hHeld2
    try simp only [Act.put, List.getElem_toArray, List.getElem_cons_succ, List.getElem_cons_zero, List.setIfInBounds_toArray, List.set_cons_zero, List.set_cons_succ]
    refine wpAnyH_take (i := 6) (v := .bool false) rfl (by kernel_rfl) (by kernel_rfl) (by kernel_rfl) (fun _ _ _ h => h) (Or.inl ⟨by kernel_rfl, ?_⟩) (by assumption) ?_
    case refine_1 => (intro Wz hSw; go_simp; try with_reducible rfl)
    try simp only [Act.put, List.getElem_toArray, List.getElem_cons_succ, List.getElem_cons_zero, List.setIfInBounds_toArray, List.set_cons_zero, List.set_cons_succ]
    refine wpAnyH_take (i := 7) (v := ?_) rfl (by kernel_rfl) (by kernel_rfl) (by kernel_rfl) (fun _ _ _ h => h) (Or.inl ⟨by kernel_rfl, ?_⟩) (by assumption) ?_
    case refine_2 => (intro Wz hSw; go_simp; try with_reducible rfl)
    try simp only [Act.put, List.getElem_toArray, List.getElem_cons_succ, List.getElem_cons_zero, List.setIfInBounds_toArray, List.set_cons_zero, List.set_cons_succ]
    refine wpAnyH_done (by kernel_rfl) ?_ _
    go_wp2_with fail
    go_ret
    exact ⟨rfl, hHeld2x.2.2.2.2.2⟩
  · rw [decide_eq_false hpq] at hbeq ⊢
    have hbne : ((mkS p).toList != (mkS q).toList) = true := by unfold bne; rw [hbeq]; rfl
    clear hpq
    go_enter Tryz.func123, Tryz.ntmps123
    go_upto_region 1 with fail
    refine wp_region_held_drew (S := (fun Wz : World => Bx Wz g1 22 #[(.slice aa la.length ca)] ∧ Bx Wz g2 22 #[(.slice ab lb.length cb)] ∧ IsFlds Wz (.slice aa la.length ca) la ∧ IsFlds Wz (.slice ab lb.length cb) lb ∧ Utf Wz ∧ Below w.heap.size w Wz)) (by kernel_rfl) hHeld0 (fun hHeld => ?_)
    refine wpAnyH_take (i := 0) (v := (.slice aa la.length ca)) rfl (by kernel_rfl) (by kernel_rfl) (by kernel_rfl) (fun _ _ _ h => h) (Or.inl ⟨by kernel_rfl, ?_⟩) (by assumption) ?_
    case refine_1 => (intro Wz hSw; have u := hSw.1.cell 0 _ rfl; go_simp; try with_reducible rfl)
    try simp only [Act.put, List.getElem_toArray, List.getElem_cons_zero, List.setIfInBounds_toArray, List.set_cons_zero, List.set_cons_succ]
    refine wpAnyH_take (i := 1) (v := .string (mkS x)) rfl (by kernel_rfl) (by kernel_rfl) (by kernel_rfl) (fun _ _ _ h => h) (Or.inl ⟨by kernel_rfl, ?_⟩) (by assumption) ?_
    case refine_1 => (intro Wz hSw; go_simp; try with_reducible rfl)
    try simp only [Act.put, List.getElem_toArray, List.getElem_cons_succ, List.getElem_cons_zero, List.setIfInBounds_toArray, List.set_cons_zero, List.set_cons_succ]
    refine wpAnyH_take (i := 3) (v := .slice ab lb.length cb) rfl (by kernel_rfl) (by kernel_rfl) (by kernel_rfl) (fun _ _ _ h => h) (Or.inl ⟨by kernel_rfl, ?_⟩) (by assumption) ?_
    case refine_1 => (intro Wz hSw; have u := hSw.2.1.cell 0 _ rfl; go_simp; try with_reducible rfl)
    try simp only [Act.put, List.getElem_toArray, List.getElem_cons_succ, List.getElem_cons_zero, List.setIfInBounds_toArray, List.set_cons_zero, List.set_cons_succ]
    refine wpAnyH_take (i := 4) (v := .string (mkS x)) rfl (by kernel_rfl) (by kernel_rfl) (by kernel_rfl) (fun _ _ _ h => h) (Or.inl ⟨by kernel_rfl, ?_⟩) (by assumption) ?_
    case refine_1 => (intro Wz hSw; go_simp; try with_reducible rfl)
    try simp only [Act.put, List.getElem_toArray, List.getElem_cons_succ, List.getElem_cons_zero, List.setIfInBounds_toArray, List.set_cons_zero, List.set_cons_succ]
    refine wpAnyH_ready (rs := [2]) (by kernel_rfl) (by simp) ?_
    refine AllReadyH.cons rfl (fun K hK => ?_) AllReadyH.nil
    go_simp
    refine (HV1.out _ hHeld0.2.2.1 hHeld0.2.2.2.2.1).mono ?_
    rintro e y1 ⟨rfl, hbb⟩
    have hHeld1 : (fun Wz : World => Bx Wz g1 22 #[(.slice aa la.length ca)] ∧ Bx Wz g2 22 #[(.slice ab lb.length cb)] ∧ IsFlds Wz (.slice aa la.length ca) la ∧ IsFlds Wz (.slice ab lb.length cb) lb ∧ Utf Wz ∧ Below w.heap.size w Wz) y1 := ⟨hHeld0.1.later hbb, hHeld0.2.1.later hbb, isFlds_below hHeld0.2.2.1 hbb, isFlds_below hHeld0.2.2.2.1 hbb, hHeld0.2.2.2.2.1.later hbb, hHeld0.2.2.2.2.2.trans (hbb.mono hHeld0.2.2.2.2.2.size)⟩
    clear hbb
    go_simp
    refine hK.out _ _ hHeld1 (fun hHeld2 => ?_)
    clear hK K hHeld2
    try simp only [Act.put, List.getElem_toArray, List.getElem_cons_succ, List.getElem_cons_zero, List.setIfInBounds_toArray, List.set_cons_zero, List.set_cons_succ]
    refine wpAnyH_ready (rs := [5]) (by kernel_rfl) (by simp) ?_
    refine AllReadyH.cons rfl (fun K hK => ?_) AllReadyH.nil
    go_simp
    refine (HV2.out _ hHeld1.2.2.2.1 hHeld1.2.2.2.2.1).mono ?_
    rintro e y2 ⟨rfl, hbb⟩
    have hHeld2x : (fun Wz : World => Bx Wz g1 22 #[(.slice aa la.length ca)] ∧ Bx Wz g2 22 #[(.slice ab lb.length cb)] ∧ IsFlds Wz (.slice aa la.length ca) la ∧ IsFlds Wz (.slice ab lb.length cb) lb ∧ Utf Wz ∧ Below w.heap.size w Wz) y2 := ⟨hHeld1.1.later hbb, hHeld1.2.1.later hbb, isFlds_below hHeld1.2.2.1 hbb, isFlds_below hHeld1.2.2.2.1 hbb, hHeld1.2.2.2.2.1.later hbb, hHeld1.2.2.2.2.2.trans (hbb.mono hHeld1.2.2.2.2.2.size)⟩
    clear hbb
    go_simp
    refine hK.out _ _ hHeld2x (fun hHeld2 => ?_)
    clear hK K hHeld2
    try simp only [Act.put, List.getElem_toArray, List.getElem_cons_succ, List.getElem_cons_zero, List.setIfInBounds_toArray, List.set_cons_zero, List.set_cons_succ]
    refine wpAnyH_take (i := 6) (v := .bool true) rfl (by kernel_rfl) (by kernel_rfl) (by kernel_rfl) (fun _ _ _ h => h) (Or.inl ⟨by kernel_rfl, ?_⟩) (by assumption) ?_
    case refine_1 => (intro Wz hSw; go_simp; try with_reducible rfl)
    try simp only [Act.put, List.getElem_toArray, List.getElem_cons_succ, List.getElem_cons_zero, List.setIfInBounds_toArray, List.set_cons_zero, List.set_cons_succ]
    refine wpAnyH_take (i := 7) (v := ?_) rfl (by kernel_rfl) (by kernel_rfl) (by kernel_rfl) (fun _ _ _ h => h) (Or.inl ⟨by kernel_rfl, ?_⟩) (by assumption) ?_
    case refine_2 => (intro Wz hSw; go_simp; try with_reducible rfl)
    try simp only [Act.put, List.getElem_toArray, List.getElem_cons_succ, List.getElem_cons_zero, List.setIfInBounds_toArray, List.set_cons_zero, List.set_cons_succ]
    refine wpAnyH_done (by kernel_rfl) ?_ _
    go_wp2_with fail
    go_ret
    exact ⟨rfl, hHeld2x.2.2.2.2.2⟩
end Tk
end Go.Proofs.YthooghgiokgdhaaGreatDoor
namespace Go.Proofs.YthooghgiokgdhaaGreatDoor
open Go.RowKit
namespace Tk

def idxG {α : Type} (p : α → Bool) (l : List α) : Int := if l.findIdx p < l.length then (l.findIdx p : Int) else -1
theorem idxG_hit (p : Bs → Bool) (l : List Bs) (i : Nat) (hi : i < l.length) (h1 : ∀ f ∈ l.take i, p f = false) (h2 : p (l.getD i []) = true) : l.findIdx p = i := by
  rw [List.findIdx_eq hi]
  refine ⟨by simpa [List.getD, hi] using h2, fun j hj => ?_⟩
  refine h1 _ ?_
  rw [List.mem_take_iff_getElem]
  exact ⟨j, by omega, rfl⟩
theorem idxG_no {α : Type} (p : α → Bool) (l : List α) (h1 : ∀ f ∈ l, p f = false) : l.findIdx p = l.length := by
  rw [List.findIdx_eq_length]; exact h1
theorem idxG_any {α : Type} (p : α → Bool) (l : List α) : decide (0 ≤ idxG p l) = l.any p := by
  unfold idxG
  by_cases h : l.findIdx p < l.length
  · rw [if_pos h, decide_eq_true (by omega)]
    have h2 := List.findIdx_getElem (w := h)
    exact (List.any_eq_true.2 ⟨_, List.getElem_mem h, h2⟩).symm
  · rw [if_neg h]
    have h3 : l.findIdx p = l.length := by
      have := List.findIdx_le_length (p := p) (xs := l); omega
    rw [List.findIdx_eq_length] at h3
    rw [show decide ((0 : Int) ≤ -1) = false by decide]
    symm
    rw [List.any_eq_false]
    intro x hx
    rw [h3 x hx]; simp
theorem isStrsV_below {w w' : World} {v : Value} {l : List Bs} (h : IsStrs w v l) (hb : Below w.heap.size w w') : IsStrs w' v l := by
  obtain ⟨a, c, rfl, hc⟩ := h
  refine ⟨a, c, rfl, fun j t hj => ?_⟩
  obtain ⟨b, o, rfl, h2⟩ := hc j t hj
  refine ⟨b, o, rfl, (hb.cell (p := ⟨b, o + j, none⟩) ?_).trans h2⟩
  refine Nat.lt_of_not_le fun hle => ?_
  unfold World.cell? at h2
  rw [Array.getElem?_eq_none hle] at h2
  simp at h2

/-- what Match$1 reads -/
structure MatA (g1 g2 : Nat) (va vb : Value) (la lb : List (Bs × Bs)) (w : World) : Prop where
  b1 : Bx w g1 22 #[va]
  b2 : Bx w g2 22 #[vb]
  ut : Utf w
  fa : IsFlds w va la
  fb : IsFlds w vb lb
theorem MatA.later {g1 g2 : Nat} {va vb : Value} {la lb : List (Bs × Bs)} {w w' : World} (h : MatA g1 g2 va vb la lb w) (hb : Below w.heap.size w w') : MatA g1 g2 va vb la lb w' :=
  ⟨h.b1.later hb, h.b2.later hb, h.ut.later hb, isFlds_below h.fa hb, isFlds_below h.fb hb⟩

set_option maxHeartbeats 4000000 in
set_option maxRecDepth 100000 in
theorem indexV_any (v : Value) (g1 g2 : Nat) (va vb : Value) (la lb : List (Bs × Bs)) (l : List Bs) (w : World) (hs : IsStrs w v l) (hA : MatA g1 g2 va vb la lb w)
    (za : sumF la ≤ 1000000) (zb : sumF lb ≤ 1000000) (na : la.length ≤ 1048576) (nb : lb.length ≤ 1048576) (hz : ∀ x ∈ l, x.length ≤ 1000000) (hl : l.length ≤ 1048576) :
    Calls Tryz.prog 190 #[v, difV g1 g2] w fun e w' => e = .returned (.int .i64 (idxG (difB la lb) l)) ∧ Below w.heap.size w w' := by
  have HS := Lib.hid hs
  have HG := Lib.hid hA
  have HZ := Lib.hid hz
  have HN := Lib.hid (fun (x : Bs) (W : World) (hm : MatA g1 g2 va vb la lb W) (hx : x.length ≤ 1000000) => match1_any g1 g2 va vb la lb x W hm.b1 hm.b2 hm.ut hm.fa hm.fb za zb (by omega) na nb)
  obtain ⟨a, cap, rfl⟩ : ∃ a cap, v = .slice a l.length cap := by obtain ⟨a, c, h, -⟩ := hs; exact ⟨a, c, h⟩
  clear hs hA hz
  have HIH := Lib.hid (fun i hi h1 h2 => idxG_hit (difB la lb) l i hi h1 h2)
  have HIN := Lib.hid (idxG_no (difB la lb) l)
  have HID : Hid (idxG (difB la lb) l = if l.findIdx (difB la lb) < l.length then (l.findIdx (difB la lb) : Int) else -1) := rfl
  generalize idxG (difB la lb) l = q at *
  generalize difB la lb = p at *
  unfold difV
  go_enter Tryz.func190, Tryz.ntmps190
  go_wp2_with fail
  go_loopw [5, 8] (fun _ vi wr => ∃ i : Nat, i ≤ l.length ∧ vi = .int .i64 i ∧ Hid (∀ f ∈ l.take i, p f = false) ∧ Hid (Below w.heap.size w wr)) (fun _ vi _ => l.length - (RowKit.intOf vi).toNat)
  case atStart => exact ⟨0, Nat.zero_le _, rfl, fun f hf => by simp at hf, Below.refl _ _⟩
  case round =>
    obtain ⟨i, hi, rfl, HA, HB⟩ := hrel
    rename World => W
    by_cases hlt : i < l.length
    · obtain ⟨a', c', e', hc⟩ := isStrsV_below HS.out HB.out
      injection e' with e1 _ e2
      subst e1 e2
      obtain ⟨b, o, rfl, hc0⟩ := hc i (l.getD i []) (by simp [List.getD, hlt])
      have hhit := HIH.out i hlt HA.out
      have htk : l.take (i + 1) = l.take i ++ [l.getD i []] := by
        rw [List.take_succ_eq_append_getElem hlt]; simp [List.getD, hlt]
      have HC := HN.out (l.getD i []) W (HG.out.later HB.out) (HZ.out _ (by simp [List.getD, hlt]))
      have HTK := Lib.hid htk
      have HHit := Lib.hid hhit
      clear hc htk hhit
      generalize l.getD i [] = x at *
      have g0 : (0 : Int) ≤ (i : Int) := by omega
      have g1' : (i : Int) < (l.length : Int) := by omega
      cases hk : p x
      · rw [hk] at HC
        have HA2 : Hid (∀ f ∈ l.take (i + 1), p f = false) := by
          intro f hf
          rw [HTK.out, List.mem_append, List.mem_singleton] at hf
          rcases hf with hf | rfl
          · exact HA.out f hf
          · exact hk
        have HC2 := Lib.hid HC
        clear HC hk
        go_wp2_with fail
        refine HC2.out.mono ?_
        rintro e w' ⟨rfl, hb⟩
        have HB2 := Lib.hid (HB.out.trans (hb.mono HB.out.size))
        clear hb
        go_wp2_with fail
        exact ⟨⟨i + 1, hlt, by go_num, HA2, HB2⟩, by simp [RowKit.intOf]; omega⟩
      · rw [hk] at HC
        have hidx : q = (i : Int) := by rw [HID.out, HHit.out hk, if_pos hlt]
        have HX := Lib.hid hidx
        have HC2 := Lib.hid HC
        clear HC hk hidx
        go_wp2_with fail
        refine HC2.out.mono ?_
        rintro e w' ⟨rfl, hb⟩
        have HB2 := Lib.hid (HB.out.trans (hb.mono HB.out.size))
        clear hb
        go_wp2_with fail
        go_ret
        exact ⟨by rw [HX.out]; rfl, HB2.out⟩
    · have hil : l.take i = l := List.take_of_length_le (by omega)
      rw [hil] at HA
      have hidx : q = -1 := by rw [HID.out, HIN.out HA.out, if_neg (by omega)]
      have HX := Lib.hid hidx
      clear hidx hil
      go_wp2_with fail
      go_ret
      exact ⟨by rw [HX.out]; rfl, HB.out⟩

set_option maxHeartbeats 2000000 in
set_option maxRecDepth 100000 in
theorem containsV_any (v : Value) (g1 g2 : Nat) (va vb : Value) (la lb : List (Bs × Bs)) (l : List Bs) (w : World) (hs : IsStrs w v l) (hA : MatA g1 g2 va vb la lb w)
    (za : sumF la ≤ 1000000) (zb : sumF lb ≤ 1000000) (na : la.length ≤ 1048576) (nb : lb.length ≤ 1048576) (hz : ∀ x ∈ l, x.length ≤ 1000000) (hl : l.length ≤ 1048576) :
    Calls Tryz.prog 122 #[v, difV g1 g2] w fun e w' => e = .returned (.bool (l.any (difB la lb))) ∧ Below w.heap.size w w' := by
  have HI := Lib.hid (indexV_any v g1 g2 va vb la lb l w hs hA za zb na nb hz hl)
  have HA := Lib.hid (idxG_any (difB la lb) l)
  generalize idxG (difB la lb) l = q at *
  generalize l.any (difB la lb) = r at *
  clear hs hA hz
  unfold difV at *
  go_enter Tryz.func122, Tryz.ntmps122
  go_wp2_with fail
  refine HI.out.mono ?_
  rintro e w1 ⟨rfl, hb⟩
  have HB := Lib.hid hb
  clear hb
  go_wp2_with fail
  go_ret
  exact ⟨by rw [← HA.out]; rfl, HB.out⟩

/-- do requests with these fields match? -/
def mchV (la lb : List (Bs × Bs)) (names : List Bs) : Bool := matV (fun n => valV (allF la n)) (fun n => valV (allF lb n)) names
theorem mch_any (la lb : List (Bs × Bs)) (names : List Bs) : (!(names.any (difB la lb))) = mchV la lb names := by
  unfold mchV matV
  induction names with
  | nil => rfl
  | cons x t ih =>
    rw [List.any_cons, List.all_cons, Bool.not_or, ih]
    congr 1
    unfold difB
    rw [Bool.not_not, Bool.eq_iff_iff, decide_eq_true_eq, beq_iff_eq]

set_option maxHeartbeats 2000000 in
set_option maxRecDepth 100000 in
theorem match_any (v va vb : Value) (la lb : List (Bs × Bs)) (l : List Bs) (w : World) (hs : IsStrs w v l) (hT : Utf w) (ha : IsFlds w va la) (hb : IsFlds w vb lb)
    (za : sumF la ≤ 1000000) (zb : sumF lb ≤ 1000000) (na : la.length ≤ 1048576) (nb : lb.length ≤ 1048576) (hz : ∀ x ∈ l, x.length ≤ 1000000) (hl : l.length ≤ 1048576) :
    Calls Tryz.prog 65 #[v, va, vb] w fun e w' => e = .returned (.bool (mchV la lb l)) ∧ Below w.heap.size w w' := by
  have hb1 : Below w.heap.size w (w.alloc (.cells #[va] 22)) := (Below.refl _ _).alloc (Nat.le_refl _) _
  have hb2 : Below w.heap.size w ((w.alloc (.cells #[va] 22)).alloc (.cells #[vb] 22)) := hb1.alloc hb1.size _
  have hx1 := (Bx.new w 22 #[va]).later ((Below.refl _ _).alloc (Nat.le_refl _) (.cells #[vb] 22))
  have hx2 := Bx.new (w.alloc (.cells #[va] 22)) 22 #[vb]
  rw [World.size_alloc] at hx2
  have HM := mch_any la lb l
  have HC := Lib.hid (containsV_any v w.heap.size (w.heap.size + 1) va vb la lb l _ (isStrsV_below hs hb2) ⟨hx1, hx2, hT.later hb2, isFlds_below ha hb2, isFlds_below hb hb2⟩ za zb na nb hz hl)
  have HB := Lib.hid hb2
  have hsz : w.heap.size ≤ ((w.alloc (.cells #[va] 22)).alloc (.cells #[vb] 22)).heap.size := hb2.size
  have HSZ := Lib.hid hsz
  rw [← HM]
  obtain ⟨aa, ca, rfl⟩ : ∃ a c, va = .slice a la.length c := by obtain ⟨a, c, h, -⟩ := ha; exact ⟨a, c, h⟩
  obtain ⟨ab, cb, rfl⟩ : ∃ a c, vb = .slice a lb.length c := by obtain ⟨a, c, h, -⟩ := hb; exact ⟨a, c, h⟩
  obtain ⟨a, cap, rfl⟩ : ∃ a cap, v = .slice a l.length cap := by obtain ⟨a, c, h, -⟩ := hs; exact ⟨a, c, h⟩
  generalize l.any (difB la lb) = r at *
  clear hs ha hb hT hb1 hb2 hx1 hx2 hz HM hsz
  unfold difV at HC
  go_enter Tryz.func65, Tryz.ntmps65
  go_wp2_with fail
  refine HC.out.mono ?_
  rintro e w1 ⟨rfl, hb⟩
  have HB1 := Lib.hid (HB.out.trans (hb.mono HSZ.out))
  clear hb
  go_wp2_with fail
  go_ret
  exact ⟨rfl, HB1.out⟩

set_option maxHeartbeats 1000000 in
theorem primary_any (s t : Bs) (w : World) (hs : s.length ≤ 1099511627) (ht : t.length ≤ 1099511627) :
    Calls Tryz.prog 69 #[.string (mkS s), .string (mkS t)] w fun e w' => e = .returned (.string (mkS (lowL s ++ 32 :: t))) ∧ Below w.heap.size w w' := by
  have hL := tlower_any (mkS s) w (by rw [size_mkS]; omega)
  rw [bs_mkS] at hL
  have HL := Lib.hid hL
  have h1 := size_mkS (lowL s)
  have h2 := size_mkS t
  have h3 : (lowL s).length = s.length := by simp [lowL]
  generalize lowL s = u at *
  clear hL
  go_enter Tryz.func69, Tryz.ntmps69
  go_wp2_with fail
  refine HL.out.mono ?_
  rintro e w1 ⟨rfl, hb⟩
  have HB1 := Lib.hid hb
  clear hb
  go_wp2_with fail
  go_ret
  refine ⟨?_, HB1.out⟩
  rw [show (⟨#[32]⟩ : ByteArray) = mkS [32] from rfl, mkS_append, mkS_append]; simp
end Tk
end Go.Proofs.YthooghgiokgdhaaGreatDoor
namespace Go.Proofs.YthooghgiokgdhaaGreatDoor
open Go.RowKit
namespace Tk

theorem noStand : Tryz.prog.stoodInHeld 31 = false := by kernel_rfl
theorem field_eql (W : World) (a b c d : ByteArray) : (binOp .eql 31 (.agg #[.string a, .string b]) (.agg #[.string c, .string d])).run Tryz.prog W = .ok (.bool (a.toList == c.toList && b.toList == d.toList)) W := by
  rw [run_eql_struct, run_equalIn_agg _ _ _ _ _ (by simp [Program.fieldsOf, Tryz.underlying31]) noStand]
  simp [Program.fieldsOf, Tryz.underlying31, Op.eqFields, go_sem]
  by_cases h1 : a.toList = c.toList <;> by_cases h2 : b.toList = d.toList <;> simp [h1, h2]

/-- may the fields be gone through: so many bytes together -/
def lfGo (b : Nat) : Nat → List (Bs × Bs) → Bool
  | _, [] => true
  | n, f :: t => if b < n + f.1.length + f.2.length then false else lfGo b (n + f.1.length + f.2.length) t
def lightF (l : List (Bs × Bs)) : Bool := decide (l.length ≤ 30) && lfGo 600 0 l
theorem lfGo_sum (b : Nat) : ∀ (l : List (Bs × Bs)) (n : Nat), n ≤ b → lfGo b n l = true → n + sumF l ≤ b + 4 * l.length
  | [], n, hn, _ => by simp [sumF]; exact hn
  | f :: t, n, hn, h => by
    unfold lfGo at h
    split at h
    · cases h
    · have := lfGo_sum b t (n + f.1.length + f.2.length) (by omega) h
      unfold sumF; simp only [List.length_cons]; omega
theorem lightF_parts (l : List (Bs × Bs)) (h : lightF l = true) : l.length ≤ 30 ∧ sumF l ≤ 720 := by
  unfold lightF at h
  rw [Bool.and_eq_true, decide_eq_true_eq] at h
  have := lfGo_sum 600 l 0 (by omega) h.2
  exact ⟨h.1, by omega⟩

set_option maxHeartbeats 2000000 in
set_option maxRecDepth 100000 in
theorem lightFields_any (v : Value) (l : List (Bs × Bs)) (w : World) (hs : IsFlds w v l) (hz : ∀ f ∈ l, f.1.length ≤ 140737488351232 ∧ f.2.length ≤ 140737488351232) (hl : l.length ≤ 140737488351232) :
    Calls Tryz.prog 113 #[v, .int .i64 30, .int .i64 600] w fun e w' => e = .returned (.bool (lightF l)) ∧ ∃ n, w' = w.drewN n := by
  obtain ⟨a, c, rfl, hcap, hc⟩ := hs
  have HC := Lib.hid hc
  have HZ := Lib.hid hz
  clear hc hz
  by_cases h20 : 30 < l.length
  · have fin : lightF l = false := by unfold lightF; rw [decide_eq_false (by omega)]; rfl
    have HF := Lib.hid fin
    have h' : (30 : Int) < (l.length : Int) := by omega
    clear fin
    go_enter Tryz.func113, Tryz.ntmps113
    go_wp2_with fail
    go_ret
    exact ⟨by rw [HF.out]; rfl, 0, rfl⟩
  · have fin : lightF l = lfGo 600 0 l := by unfold lightF; rw [decide_eq_true (by omega)]; rfl
    have HF := Lib.hid fin
    have h' : ¬ (30 : Int) < (l.length : Int) := by omega
    clear fin
    go_enter Tryz.func113, Tryz.ntmps113
    go_wp2_with fail
    go_loopw [7, 8] (fun vn vi wr => ∃ (i n m : Nat), i ≤ l.length ∧ n ≤ 600 ∧ vi = .int .i64 i ∧ vn = .int .i64 n ∧ wr = w.drewN m ∧ Hid (lightF l = lfGo 600 n (l.drop i))) (fun _ vi _ => l.length - (RowKit.intOf vi).toNat)
    case atStart => exact ⟨0, 0, 0, by omega, by omega, rfl, rfl, rfl, HF.out⟩
    case round =>
      obtain ⟨i, n, m, hi, hn, rfl, rfl, rfl, hd⟩ := hrel
      by_cases hlt : i < l.length
      · obtain ⟨b, o, rfl, hc0, hc1⟩ := HC.out i (l.getD i ([], [])) (by simp [List.getD, hlt])
        obtain ⟨z0, z1⟩ := HZ.out (l.getD i ([], [])) (by simp [List.getD, hlt])
        have hdr : l.drop i = l.getD i ([], []) :: l.drop (i + 1) := by rw [List.drop_eq_getElem_cons hlt]; simp [List.getD, hlt]
        have HD := Lib.hid hdr
        clear hdr
        generalize l.getD i ([], []) = f at *
        obtain ⟨x, y⟩ := f
        simp only at z0 z1 hc0 hc1
        have s0 := size_mkS x
        have s1 := size_mkS y
        have HS0 := Lib.hid s0
        have HS1 := Lib.hid s1
        have y0 : (mkS x).size ≤ 140737488351232 := by omega
        have y1 : (mkS y).size ≤ 140737488351232 := by omega
        clear s0 s1 z0 z1
        have hb0 : (0 : Int) ≤ (i : Int) := by omega
        have hb1 : (i : Int) < (l.length : Int) := by omega
        by_cases hb : 600 < n + (mkS x).size + (mkS y).size
        · have fin : lightF l = false := by
            rw [hd.out, HD.out, lfGo, if_pos (by rw [← HS0.out, ← HS1.out]; exact hb)]
          have HF2 := Lib.hid fin
          have hb' : (600 : Int) < (n : Int) + ((mkS x).size : Int) + ((mkS y).size : Int) := by omega
          clear fin HF HD hd
          generalize mkS x = s at *
          generalize mkS y = t at *
          have w1 : IntKind.i64.wrap ((n : Int) + (s.size : Int)) = (n : Int) + (s.size : Int) := IntWalk.i64_in _ (by omega)
          have w2 : IntKind.i64.wrap ((n : Int) + (s.size : Int) + (t.size : Int)) = (n : Int) + (s.size : Int) + (t.size : Int) := IntWalk.i64_in _ (by omega)
          go_wp2_with fail
          go_quiet (fail)
          clear w1 w2
          go_wp2_with fail
          go_ret
          exact ⟨by rw [HF2.out]; rfl, _, rfl⟩
        · have nx : lightF l = lfGo 600 (n + (mkS x).size + (mkS y).size) (l.drop (i + 1)) := by
            rw [hd.out, HD.out, lfGo, if_neg (by rw [← HS0.out, ← HS1.out]; exact hb), HS0.out, HS1.out]
          have HN := Lib.hid nx
          have hb' : ¬ (600 : Int) < (n : Int) + ((mkS x).size : Int) + ((mkS y).size : Int) := by omega
          clear nx HF HD hd
          generalize mkS x = s at *
          generalize mkS y = t at *
          have w1 : IntKind.i64.wrap ((n : Int) + (s.size : Int)) = (n : Int) + (s.size : Int) := IntWalk.i64_in _ (by omega)
          have w2 : IntKind.i64.wrap ((n : Int) + (s.size : Int) + (t.size : Int)) = (n : Int) + (s.size : Int) + (t.size : Int) := IntWalk.i64_in _ (by omega)
          go_wp2_with fail
          go_quiet (fail)
          clear w1 w2
          go_wp2_with fail
          exact ⟨⟨i + 1, n + s.size + t.size, _, by omega, by omega, by go_num, by go_num, rfl, HN⟩, by simp [RowKit.intOf]; omega⟩
      · have fin : lightF l = true := by rw [hd.out, List.drop_eq_nil_of_le (by omega)]; rfl
        have HF2 := Lib.hid fin
        clear fin
        go_wp2_with fail
        go_ret
        exact ⟨by rw [HF2.out]; rfl, _, rfl⟩

theorem ex_line1 : lnN [65, 58, 32, 32, 98, 32] = [65] ∧ lnV [65, 58, 32, 32, 98, 32] = [98] ∧ lnE [65, 58, 32, 32, 98, 32] = 0 := by decide +kernel
theorem ex_line2 : lnN [65, 32, 58, 32, 98] = [] ∧ lnV [65, 32, 58, 32, 98] = [] ∧ lnE [65, 32, 58, 32, 98] = 4 := by decide +kernel
def Yes2 (w : World) (r : Ending) (w' : World) : Prop := r = .returned (.bool true) ∧ Below w.heap.size w w'

end Tk
end Go.Proofs.YthooghgiokgdhaaGreatDoor
