/- VdD VdE RefK, put together. -/
import Derived.Test.YthooghgiokgdhaaGreatDoorQK
import Derived.Test.YthooghgiokgdhaaGreatDoorQG
import Derived.Test.YthooghgiokgdhaaGreatDoorQL
import Derived.Test.YthooghgiokgdhaaGreatDoorQH
import Derived.Test.YthooghgiokgdhaaGreatDoorQC
import Derived.Test.YthooghgiokgdhaaGreatDoorQB
namespace Go.Proofs.YthooghgiokgdhaaGreatDoor
open Go.RowKit
namespace Tk

set_option maxHeartbeats 8000000 in
set_option maxRecDepth 100000 in
theorem rmatch_any (v va vb : Value) (la lb : List (Bs × Bs)) (l : List Bs) (w : World) (hs : IsStrs w v l) (ha : IsFlds w va la) (hb : IsFlds w vb lb)
    (za : sumF la ≤ 400000) (zb : sumF lb ≤ 400000) (na : la.length ≤ 100000) (nb : lb.length ≤ 100000) (hz : ∀ x ∈ l, x.length ≤ 1000000) (hl : l.length ≤ 1048576) :
    Calls Tryz.prog 66 #[v, va, vb] w fun e w' => e = .returned (.bool (mchV la lb l)) ∧ Below w.heap.size w w' := by
  have HS := Lib.hid hs
  have HZ := Lib.hid hz
  have HFa := Lib.hid ha
  have HFb := Lib.hid hb
  have HV1a := Lib.hid (fun (n : Bs) (W : World) (hs : IsFlds W va la) (hn : n.length ≤ 1000000) => rvval_any va la n W hs za (by omega) na)
  have HV2a := Lib.hid (fun (n : Bs) (W : World) (hs : IsFlds W vb lb) (hn : n.length ≤ 1000000) => rvval_any vb lb n W hs zb (by omega) nb)
  have HM : Hid (∀ P, mchV la lb P = P.all fun n => valV (allF la n) == valV (allF lb n)) := fun _ => rfl
  obtain ⟨a, cap, rfl⟩ : ∃ a cap, v = .slice a l.length cap := by obtain ⟨a, c, h, -⟩ := hs; exact ⟨a, c, h⟩
  obtain ⟨aa, ca, rfl⟩ : ∃ a c, va = .slice a la.length c := by obtain ⟨a, c, h, -⟩ := ha; exact ⟨a, c, h⟩
  obtain ⟨ab, cb, rfl⟩ : ∃ a c, vb = .slice a lb.length c := by obtain ⟨a, c, h, -⟩ := hb; exact ⟨a, c, h⟩
  have HML := Lib.hid (HM.out l)
  generalize mchV la lb l = r at *
  clear hs hz ha hb za zb HM
  go_enter Tryz.func66, Tryz.ntmps66
  go_wp2_with fail
  go_loopw [6, 7] (fun vr vi wr => ∃ i : Nat, i ≤ l.length ∧ vr = .bool false ∧ vi = .int .i64 i ∧ Hid (∀ n ∈ l.take i, valV (allF la n) = valV (allF lb n)) ∧ Hid (Below w.heap.size w wr)) (fun _ vi _ => l.length - (RowKit.intOf vi).toNat)
  case atStart => exact ⟨0, Nat.zero_le _, rfl, rfl, fun f hf => by simp at hf, Below.refl _ _⟩
  case round =>
    obtain ⟨i, hi, rfl, rfl, HA, HB⟩ := hrel
    rename World => W
    by_cases hlt : i < l.length
    · obtain ⟨a', c', e', hc⟩ := isStrsV_below HS.out HB.out
      injection e' with e1 _ e2
      subst e1 e2
      obtain ⟨b, o, rfl, hc0⟩ := hc i (l.getD i []) (by simp [List.getD, hlt])
      have hm := HZ.out (l.getD i []) (by simp [List.getD, hlt])
      have HTK := Lib.hid (take_nextV l i hlt)
      have HME : Hid (l.getD i [] ∈ l) := by show _ ∈ _; simp [List.getD, hlt]
      clear hc
      generalize l.getD i [] = x at *
      have g0 : (0 : Int) ≤ (i : Int) := by omega
      have g1 : (i : Int) < (l.length : Int) := by omega
      have HV1 := Lib.hid (fun (W : World) (hs : IsFlds W (.slice aa la.length ca) la) => HV1a.out x W hs hm)
      have HV2 := Lib.hid (fun (W : World) (hs : IsFlds W (.slice ab lb.length cb) lb) => HV2a.out x W hs hm)
      have hbd : Below W.heap.size W W.drew := (Below.refl _ _).drew
      have hHeld0 : (fun Wz : World => Wz.cell? ⟨b, o + i, none⟩ = some (.string (mkS x)) ∧ IsFlds Wz (.slice aa la.length ca) la ∧ IsFlds Wz (.slice ab lb.length cb) lb ∧ Below w.heap.size w Wz) W.drew := ⟨(hbd.cell (p := ⟨b, o + i, none⟩) (cell_lt (p := ⟨b, o + i, none⟩) hc0)).trans hc0, isFlds_below HFa.out (HB.out.trans (hbd.mono HB.out.size)), isFlds_below HFb.out (HB.out.trans (hbd.mono HB.out.size)), HB.out.trans (hbd.mono HB.out.size)⟩
      have HP : Hid (∀ p, p = valV (allF la x) → ∀ q, q = valV (allF lb x) → (p = q → ∀ n ∈ l.take (i + 1), valV (allF la n) = valV (allF lb n)) ∧ (p ≠ q → r = false)) := by
        intro p hp q hq
        refine ⟨fun h n hn => ?_, fun h => ?_⟩
        · rw [HTK.out, List.mem_append, List.mem_singleton] at hn
          rcases hn with hn | rfl
          · exact HA.out n hn
          · rw [← hp, ← hq]; exact h
        · rw [HML.out, List.all_eq_false]
          exact ⟨x, HME.out, by rw [beq_iff_eq, ← hp, ← hq]; exact h⟩
      have HP1 := Lib.hid (HP.out _ rfl _ rfl)
      have hbeq := beq_mkS' (valV (allF la x)) (valV (allF lb x))
      clear hc0 hbd HP HML
      generalize valV (allF la x) = p at *
      generalize valV (allF lb x) = q at *
      by_cases hpq : p = q
      · have HQ := Lib.hid (HP1.out.1 hpq)
        rw [decide_eq_true hpq] at hbeq
        have hbne : ((mkS p).toList != (mkS q).toList) = false := by unfold bne; rw [hbeq]; rfl
        clear hpq
        go_upto_region 4 with fail
        refine wp_region_held_drew (S := (fun Wz : World => Wz.cell? ⟨b, o + i, none⟩ = some (.string (mkS x)) ∧ IsFlds Wz (.slice aa la.length ca) la ∧ IsFlds Wz (.slice ab lb.length cb) lb ∧ Below w.heap.size w Wz)) (by kernel_rfl) hHeld0 (fun hHeld => ?_)
        refine wpAnyH_take (i := 0) (v := (.slice aa la.length ca)) rfl (by kernel_rfl) (by kernel_rfl) (by kernel_rfl) (fun _ _ _ h => h) (Or.inl ⟨by kernel_rfl, ?_⟩) (by assumption) ?_
        case refine_1 => (intro Wz hSw; go_simp; try with_reducible rfl)
        try simp only [Act.put, List.getElem_toArray, List.getElem_cons_zero, List.setIfInBounds_toArray, List.set_cons_zero, List.set_cons_succ]
        refine wpAnyH_take (i := 1) (v := (.slice (some ⟨b, o, none⟩) l.length cap)) rfl (by kernel_rfl) (by kernel_rfl) (by kernel_rfl) (fun _ _ _ h => h) (Or.inl ⟨by kernel_rfl, ?_⟩) (by assumption) ?_
        case refine_1 => (intro Wz hSw; go_simp; try with_reducible rfl)
        try simp only [Act.put, List.getElem_toArray, List.getElem_cons_succ, List.getElem_cons_zero, List.setIfInBounds_toArray, List.set_cons_zero, List.set_cons_succ]
        refine wpAnyH_take (i := 2) (v := (.int .i64 i)) rfl (by kernel_rfl) (by kernel_rfl) (by kernel_rfl) (fun _ _ _ h => h) (Or.inl ⟨by kernel_rfl, ?_⟩) (by assumption) ?_
        case refine_1 => (intro Wz hSw; go_simp; try with_reducible rfl)
        try simp only [Act.put, List.getElem_toArray, List.getElem_cons_succ, List.getElem_cons_zero, List.setIfInBounds_toArray, List.set_cons_zero, List.set_cons_succ]
        refine wpAnyH_take (i := 3) (v := (.pointer (some ⟨b, o + i, none⟩))) rfl (by kernel_rfl) (by kernel_rfl) (by kernel_rfl) (fun _ _ _ h => h) (Or.inl ⟨by kernel_rfl, ?_⟩) (by assumption) ?_
        case refine_1 => (intro Wz hSw; go_simp; try with_reducible rfl)
        try simp only [Act.put, List.getElem_toArray, List.getElem_cons_succ, List.getElem_cons_zero, List.setIfInBounds_toArray, List.set_cons_zero, List.set_cons_succ]
        refine wpAnyH_take (i := 4) (v := (.string (mkS x))) rfl (by kernel_rfl) (by kernel_rfl) (by kernel_rfl) (fun _ _ _ h => h) (Or.inl ⟨by kernel_rfl, ?_⟩) (by assumption) ?_
        case refine_1 => (intro Wz hSw; have u := hSw.1; go_simp; try with_reducible rfl)
        try simp only [Act.put, List.getElem_toArray, List.getElem_cons_succ, List.getElem_cons_zero, List.setIfInBounds_toArray, List.set_cons_zero, List.set_cons_succ]
        refine wpAnyH_take (i := 6) (v := (.slice ab lb.length cb)) rfl (by kernel_rfl) (by kernel_rfl) (by kernel_rfl) (fun _ _ _ h => h) (Or.inl ⟨by kernel_rfl, ?_⟩) (by assumption) ?_
        case refine_1 => (intro Wz hSw; go_simp; try with_reducible rfl)
        try simp only [Act.put, List.getElem_toArray, List.getElem_cons_succ, List.getElem_cons_zero, List.setIfInBounds_toArray, List.set_cons_zero, List.set_cons_succ]
        refine wpAnyH_take (i := 7) (v := (.slice (some ⟨b, o, none⟩) l.length cap)) rfl (by kernel_rfl) (by kernel_rfl) (by kernel_rfl) (fun _ _ _ h => h) (Or.inl ⟨by kernel_rfl, ?_⟩) (by assumption) ?_
        case refine_1 => (intro Wz hSw; go_simp; try with_reducible rfl)
        try simp only [Act.put, List.getElem_toArray, List.getElem_cons_succ, List.getElem_cons_zero, List.setIfInBounds_toArray, List.set_cons_zero, List.set_cons_succ]
        refine wpAnyH_take (i := 8) (v := (.int .i64 i)) rfl (by kernel_rfl) (by kernel_rfl) (by kernel_rfl) (fun _ _ _ h => h) (Or.inl ⟨by kernel_rfl, ?_⟩) (by assumption) ?_
        case refine_1 => (intro Wz hSw; go_simp; try with_reducible rfl)
        try simp only [Act.put, List.getElem_toArray, List.getElem_cons_succ, List.getElem_cons_zero, List.setIfInBounds_toArray, List.set_cons_zero, List.set_cons_succ]
        refine wpAnyH_take (i := 9) (v := (.pointer (some ⟨b, o + i, none⟩))) rfl (by kernel_rfl) (by kernel_rfl) (by kernel_rfl) (fun _ _ _ h => h) (Or.inl ⟨by kernel_rfl, ?_⟩) (by assumption) ?_
        case refine_1 => (intro Wz hSw; go_simp; try with_reducible rfl)
        try simp only [Act.put, List.getElem_toArray, List.getElem_cons_succ, List.getElem_cons_zero, List.setIfInBounds_toArray, List.set_cons_zero, List.set_cons_succ]
        refine wpAnyH_take (i := 10) (v := (.string (mkS x))) rfl (by kernel_rfl) (by kernel_rfl) (by kernel_rfl) (fun _ _ _ h => h) (Or.inl ⟨by kernel_rfl, ?_⟩) (by assumption) ?_
        case refine_1 => (intro Wz hSw; have u := hSw.1; go_simp; try with_reducible rfl)
        try simp only [Act.put, List.getElem_toArray, List.getElem_cons_succ, List.getElem_cons_zero, List.setIfInBounds_toArray, List.set_cons_zero, List.set_cons_succ]
        refine wpAnyH_ready (rs := [5]) (by kernel_rfl) (by simp) ?_
        refine AllReadyH.cons rfl (fun K hK => ?_) AllReadyH.nil
        go_simp
        refine (HV1.out _ hHeld0.2.1).mono ?_
        rintro e y1 ⟨rfl, hbb⟩
        have hHeld1 : (fun Wz : World => Wz.cell? ⟨b, o + i, none⟩ = some (.string (mkS x)) ∧ IsFlds Wz (.slice aa la.length ca) la ∧ IsFlds Wz (.slice ab lb.length cb) lb ∧ Below w.heap.size w Wz) y1 := ⟨(hbb.cell (p := ⟨b, o + i, none⟩) (cell_lt (p := ⟨b, o + i, none⟩) hHeld0.1)).trans hHeld0.1, isFlds_below hHeld0.2.1 hbb, isFlds_below hHeld0.2.2.1 hbb, hHeld0.2.2.2.trans (hbb.mono hHeld0.2.2.2.size)⟩
        clear hbb
        go_simp
        refine hK.out _ _ hHeld1 (fun hHeld2 => ?_)
        clear hK K hHeld2
        try simp only [Act.put, List.getElem_toArray, List.getElem_cons_succ, List.getElem_cons_zero, List.setIfInBounds_toArray, List.set_cons_zero, List.set_cons_succ]
        refine wpAnyH_ready (rs := [11]) (by kernel_rfl) (by simp) ?_
        refine AllReadyH.cons rfl (fun K hK => ?_) AllReadyH.nil
        go_simp
        refine (HV2.out _ hHeld1.2.2.1).mono ?_
        rintro e y2 ⟨rfl, hbb⟩
        have hHeld2x : (fun Wz : World => Wz.cell? ⟨b, o + i, none⟩ = some (.string (mkS x)) ∧ IsFlds Wz (.slice aa la.length ca) la ∧ IsFlds Wz (.slice ab lb.length cb) lb ∧ Below w.heap.size w Wz) y2 := ⟨(hbb.cell (p := ⟨b, o + i, none⟩) (cell_lt (p := ⟨b, o + i, none⟩) hHeld1.1)).trans hHeld1.1, isFlds_below hHeld1.2.1 hbb, isFlds_below hHeld1.2.2.1 hbb, hHeld1.2.2.2.trans (hbb.mono hHeld1.2.2.2.size)⟩
        clear hbb
        go_simp
        refine hK.out _ _ hHeld2x (fun hHeld2 => ?_)
        clear hK K hHeld2
        try simp only [Act.put, List.getElem_toArray, List.getElem_cons_succ, List.getElem_cons_zero, List.setIfInBounds_toArray, List.set_cons_zero, List.set_cons_succ]
        refine wpAnyH_take (i := 12) (v := .bool false) rfl (by kernel_rfl) (by kernel_rfl) (by kernel_rfl) (fun _ _ _ h => h) (Or.inl ⟨by kernel_rfl, ?_⟩) (by assumption) ?_
        case refine_1 => (intro Wz hSw; go_simp; try with_reducible rfl)
        try simp only [Act.put, List.getElem_toArray, List.getElem_cons_succ, List.getElem_cons_zero, List.setIfInBounds_toArray, List.set_cons_zero, List.set_cons_succ]
        refine wpAnyH_done (by kernel_rfl) ?_ _
        go_wp2_with fail
        exact ⟨⟨i + 1, hlt, rfl, by go_num, HQ, hHeld2x.2.2.2⟩, by simp [RowKit.intOf]; omega⟩
      · have HQ := Lib.hid (HP1.out.2 hpq)
        rw [decide_eq_false hpq] at hbeq
        have hbne : ((mkS p).toList != (mkS q).toList) = true := by unfold bne; rw [hbeq]; rfl
        clear hpq
        go_upto_region 4 with fail
        refine wp_region_held_drew (S := (fun Wz : World => Wz.cell? ⟨b, o + i, none⟩ = some (.string (mkS x)) ∧ IsFlds Wz (.slice aa la.length ca) la ∧ IsFlds Wz (.slice ab lb.length cb) lb ∧ Below w.heap.size w Wz)) (by kernel_rfl) hHeld0 (fun hHeld => ?_)
        refine wpAnyH_take (i := 0) (v := (.slice aa la.length ca)) rfl (by kernel_rfl) (by kernel_rfl) (by kernel_rfl) (fun _ _ _ h => h) (Or.inl ⟨by kernel_rfl, ?_⟩) (by assumption) ?_
        case refine_1 => (intro Wz hSw; go_simp; try with_reducible rfl)
        try simp only [Act.put, List.getElem_toArray, List.getElem_cons_zero, List.setIfInBounds_toArray, List.set_cons_zero, List.set_cons_succ]
        refine wpAnyH_take (i := 1) (v := (.slice (some ⟨b, o, none⟩) l.length cap)) rfl (by kernel_rfl) (by kernel_rfl) (by kernel_rfl) (fun _ _ _ h => h) (Or.inl ⟨by kernel_rfl, ?_⟩) (by assumption) ?_
        case refine_1 => (intro Wz hSw; go_simp; try with_reducible rfl)
        try simp only [Act.put, List.getElem_toArray, List.getElem_cons_succ, List.getElem_cons_zero, List.setIfInBounds_toArray, List.set_cons_zero, List.set_cons_succ]
        refine wpAnyH_take (i := 2) (v := (.int .i64 i)) rfl (by kernel_rfl) (by kernel_rfl) (by kernel_rfl) (fun _ _ _ h => h) (Or.inl ⟨by kernel_rfl, ?_⟩) (by assumption) ?_
        case refine_1 => (intro Wz hSw; go_simp; try with_reducible rfl)
        try simp only [Act.put, List.getElem_toArray, List.getElem_cons_succ, List.getElem_cons_zero, List.setIfInBounds_toArray, List.set_cons_zero, List.set_cons_succ]
        refine wpAnyH_take (i := 3) (v := (.pointer (some ⟨b, o + i, none⟩))) rfl (by kernel_rfl) (by kernel_rfl) (by kernel_rfl) (fun _ _ _ h => h) (Or.inl ⟨by kernel_rfl, ?_⟩) (by assumption) ?_
        case refine_1 => (intro Wz hSw; go_simp; try with_reducible rfl)
        try simp only [Act.put, List.getElem_toArray, List.getElem_cons_succ, List.getElem_cons_zero, List.setIfInBounds_toArray, List.set_cons_zero, List.set_cons_succ]
        refine wpAnyH_take (i := 4) (v := (.string (mkS x))) rfl (by kernel_rfl) (by kernel_rfl) (by kernel_rfl) (fun _ _ _ h => h) (Or.inl ⟨by kernel_rfl, ?_⟩) (by assumption) ?_
        case refine_1 => (intro Wz hSw; have u := hSw.1; go_simp; try with_reducible rfl)
        try simp only [Act.put, List.getElem_toArray, List.getElem_cons_succ, List.getElem_cons_zero, List.setIfInBounds_toArray, List.set_cons_zero, List.set_cons_succ]
        refine wpAnyH_take (i := 6) (v := (.slice ab lb.length cb)) rfl (by kernel_rfl) (by kernel_rfl) (by kernel_rfl) (fun _ _ _ h => h) (Or.inl ⟨by kernel_rfl, ?_⟩) (by assumption) ?_
        case refine_1 => (intro Wz hSw; go_simp; try with_reducible rfl)
        try simp only [Act.put, List.getElem_toArray, List.getElem_cons_succ, List.getElem_cons_zero, List.setIfInBounds_toArray, List.set_cons_zero, List.set_cons_succ]
        refine wpAnyH_take (i := 7) (v := (.slice (some ⟨b, o, none⟩) l.length cap)) rfl (by kernel_rfl) (by kernel_rfl) (by kernel_rfl) (fun _ _ _ h => h) (Or.inl ⟨by kernel_rfl, ?_⟩) (by assumption) ?_
        case refine_1 => (intro Wz hSw; go_simp; try with_reducible rfl)
        try simp only [Act.put, List.getElem_toArray, List.getElem_cons_succ, List.getElem_cons_zero, List.setIfInBounds_toArray, List.set_cons_zero, List.set_cons_succ]
        refine wpAnyH_take (i := 8) (v := (.int .i64 i)) rfl (by kernel_rfl) (by kernel_rfl) (by kernel_rfl) (fun _ _ _ h => h) (Or.inl ⟨by kernel_rfl, ?_⟩) (by assumption) ?_
        case refine_1 => (intro Wz hSw; go_simp; try with_reducible rfl)
        try simp only [Act.put, List.getElem_toArray, List.getElem_cons_succ, List.getElem_cons_zero, List.setIfInBounds_toArray, List.set_cons_zero, List.set_cons_succ]
        refine wpAnyH_take (i := 9) (v := (.pointer (some ⟨b, o + i, none⟩))) rfl (by kernel_rfl) (by kernel_rfl) (by kernel_rfl) (fun _ _ _ h => h) (Or.inl ⟨by kernel_rfl, ?_⟩) (by assumption) ?_
        case refine_1 => (intro Wz hSw; go_simp; try with_reducible rfl)
        try simp only [Act.put, List.getElem_toArray, List.getElem_cons_succ, List.getElem_cons_zero, List.setIfInBounds_toArray, List.set_cons_zero, List.set_cons_succ]
        refine wpAnyH_take (i := 10) (v := (.string (mkS x))) rfl (by kernel_rfl) (by kernel_rfl) (by kernel_rfl) (fun _ _ _ h => h) (Or.inl ⟨by kernel_rfl, ?_⟩) (by assumption) ?_
        case refine_1 => (intro Wz hSw; have u := hSw.1; go_simp; try with_reducible rfl)
        try simp only [Act.put, List.getElem_toArray, List.getElem_cons_succ, List.getElem_cons_zero, List.setIfInBounds_toArray, List.set_cons_zero, List.set_cons_succ]
        refine wpAnyH_ready (rs := [5]) (by kernel_rfl) (by simp) ?_
        refine AllReadyH.cons rfl (fun K hK => ?_) AllReadyH.nil
        go_simp
        refine (HV1.out _ hHeld0.2.1).mono ?_
        rintro e y1 ⟨rfl, hbb⟩
        have hHeld1 : (fun Wz : World => Wz.cell? ⟨b, o + i, none⟩ = some (.string (mkS x)) ∧ IsFlds Wz (.slice aa la.length ca) la ∧ IsFlds Wz (.slice ab lb.length cb) lb ∧ Below w.heap.size w Wz) y1 := ⟨(hbb.cell (p := ⟨b, o + i, none⟩) (cell_lt (p := ⟨b, o + i, none⟩) hHeld0.1)).trans hHeld0.1, isFlds_below hHeld0.2.1 hbb, isFlds_below hHeld0.2.2.1 hbb, hHeld0.2.2.2.trans (hbb.mono hHeld0.2.2.2.size)⟩
        clear hbb
        go_simp
        refine hK.out _ _ hHeld1 (fun hHeld2 => ?_)
        clear hK K hHeld2
        try simp only [Act.put, List.getElem_toArray, List.getElem_cons_succ, List.getElem_cons_zero, List.setIfInBounds_toArray, List.set_cons_zero, List.set_cons_succ]
        refine wpAnyH_ready (rs := [11]) (by kernel_rfl) (by simp) ?_
        refine AllReadyH.cons rfl (fun K hK => ?_) AllReadyH.nil
        go_simp
        refine (HV2.out _ hHeld1.2.2.1).mono ?_
        rintro e y2 ⟨rfl, hbb⟩
        have hHeld2x : (fun Wz : World => Wz.cell? ⟨b, o + i, none⟩ = some (.string (mkS x)) ∧ IsFlds Wz (.slice aa la.length ca) la ∧ IsFlds Wz (.slice ab lb.length cb) lb ∧ Below w.heap.size w Wz) y2 := ⟨(hbb.cell (p := ⟨b, o + i, none⟩) (cell_lt (p := ⟨b, o + i, none⟩) hHeld1.1)).trans hHeld1.1, isFlds_below hHeld1.2.1 hbb, isFlds_below hHeld1.2.2.1 hbb, hHeld1.2.2.2.trans (hbb.mono hHeld1.2.2.2.size)⟩
        clear hbb
        go_simp
        refine hK.out _ _ hHeld2x (fun hHeld2 => ?_)
        clear hK K hHeld2
        try simp only [Act.put, List.getElem_toArray, List.getElem_cons_succ, List.getElem_cons_zero, List.setIfInBounds_toArray, List.set_cons_zero, List.set_cons_succ]
        refine wpAnyH_take (i := 12) (v := .bool true) rfl (by kernel_rfl) (by kernel_rfl) (by kernel_rfl) (fun _ _ _ h => h) (Or.inl ⟨by kernel_rfl, ?_⟩) (by assumption) ?_
        case refine_1 => (intro Wz hSw; go_simp; try with_reducible rfl)
        try simp only [Act.put, List.getElem_toArray, List.getElem_cons_succ, List.getElem_cons_zero, List.setIfInBounds_toArray, List.set_cons_zero, List.set_cons_succ]
        refine wpAnyH_done (by kernel_rfl) ?_ _
        go_wp2_with fail
        go_ret
        exact ⟨by rw [HQ.out]; rfl, hHeld2x.2.2.2⟩
    · have hil : l.take i = l := List.take_of_length_le (by omega)
      rw [hil] at HA
      have hr : r = true := by
        rw [HML.out, List.all_eq_true]
        exact fun n hn => by rw [beq_iff_eq]; exact HA.out n hn
      have HR := Lib.hid hr
      clear hil hr
      go_wp2_with fail
      go_ret
      exact ⟨by rw [HR.out]; rfl, HB.out⟩
end Tk
end Go.Proofs.YthooghgiokgdhaaGreatDoor
namespace Go.Proofs.YthooghgiokgdhaaGreatDoor
open Go.RowKit
namespace Tk

/-- a part of a list of texts in memory -/
def SlS (w : World) (v : Value) (R : List Bs) : Prop :=
  (v = .slice none 0 0 ∧ R = []) ∨ ∃ ad c, v = .slice (some ad) R.length c ∧ ∀ j y, R[j]? = some y → w.cell? (ad.add j) = some (.string (mkS y))
theorem SlS.later {w w' : World} {v : Value} {R : List Bs} (h : SlS w v R) (hb : Below w.heap.size w w') : SlS w' v R := by
  rcases h with h | ⟨ad, c, e, hc⟩
  · exact .inl h
  · exact .inr ⟨ad, c, e, fun j y hj => (hb.cell (cell_lt (hc j y hj))).trans (hc j y hj)⟩

theorem joinL_run (w : World) (o : Oper) (a : Act) (K : Act → World → Prop) (Q : Exit → Act → World → Prop) (s x : Operand)
    (ho : o.op = .call { callee := .builtin .append, args := #[s, x], argTypes := #[26, 26] })
    (base : Nat) (v v2 : Value) (P R : List Bs) (hs : a.eval s = v) (hx : a.eval x = v2) (h1 : w.ownsRow base 9 1 v P.length (strs P)) (h2 : SlS w v2 R)
    (hB : base ≤ w.heap.size) (hP : P.length ≤ 1048576) (hR : R.length ≤ 1048576)
    (h : ∀ v' w', w'.ownsRow base 9 1 v' (P ++ R).length (strs (P ++ R)) → Below base w w' → (∀ p u, w.cell? p = some u → v.ownBlock ≠ some p.block → w'.cell? p = some u) → K (a.put o.dst v') w') : o.wp Tryz.prog a w K Q := by
  obtain ⟨i0, hi, hz0, hz1, hz2⟩ := info_parts strInfo
  rcases h2 with ⟨hv, rfl⟩ | ⟨ad, c, hv, hc⟩
  · have hrun := run_append_owned_none (P := Tryz.prog) (w := w) base 26 o.type 9 i0 1 Tryz.underlying26 hi v P.length (strs P) h1
    unfold Oper.wp
    simp [execOp, ho, resolve, invoke, builtin, hs, hx, hv, hrun, Result.andThen]
    exact h v w (by simpa using h1) (Below.refl _ _) (fun _ _ h _ => h)
  · refine wp_append_own (P := Tryz.prog) w s x 26 ho base 9 i0 (.string .empty) 1 16 Tryz.underlying26 hi hz0 hz1 hz2 rfl (by decide) v P.length (strs P) hs h1 ad R.length c (strs R) (by rw [hx, hv]) (by simp [strs])
      (fun j u hj => by
        simp only [strs, List.getElem?_map, Option.map_eq_some_iff] at hj
        obtain ⟨y, hy, rfl⟩ := hj
        exact hc j y hy) (fun u hu => by
        simp only [strs, List.mem_map] at hu
        obtain ⟨t, -, rfl⟩ := hu
        rfl) (by unfold maxLen; omega) (by omega) hB ?_
    intro v' w' ho' hg' _
    refine h v' w' ?_ (below_of_grown hg' h1 hB) (fun p u hp hn => ?_)
    · rw [List.length_append, strs_append]
      exact ho'
    · exact (World.cell?_of_block (hg'.block p.block (cell_lt hp) (fun e => hn e.symm))).trans hp
theorem strs_get (R : List Bs) (j : Nat) (y : Bs) (h : R[j]? = some y) : (strs R)[j]? = some (.string (mkS y)) := by
  unfold strs; rw [List.getElem?_map, h]; rfl
/-- the first k of a list of one's own -/
theorem slS_take {w : World} {B g n cap k : Nat} {R : List Bs} (h : w.ownsRow B 9 1 (.slice (some ⟨g, 0, none⟩) n cap) n (strs R)) (hn : R.length = n) (hk : k ≤ n) : SlS w (.slice (some ⟨g, 0, none⟩) k cap) (R.take k) := by
  refine .inr ⟨⟨g, 0, none⟩, cap, by rw [List.length_take, Nat.min_eq_left (by omega)], fun j y hj => ?_⟩
  have hjk : j < k := by
    have := (List.getElem?_eq_some_iff.1 hj).1
    rw [List.length_take] at this; omega
  rw [List.getElem?_take, if_pos hjk] at hj
  have hc := h.cellAt j (by omega)
  rw [strs_get R j y hj] at hc
  by_cases h0 : j = 0
  · subst h0; simpa [Addr.add] using hc
  · simpa [Addr.add, h0] using hc
theorem slS_drop {w : World} {B g n cap k : Nat} {R : List Bs} (h : w.ownsRow B 9 1 (.slice (some ⟨g, 0, none⟩) n cap) n (strs R)) (hn : R.length = n) (hk : k ≤ n) (ad : Addr) (c : Nat) (ha : k < n → ad = ⟨g, k, none⟩) : SlS w (.slice (some ad) (n - k) c) (R.drop k) := by
  refine .inr ⟨ad, c, by rw [List.length_drop, hn], fun j y hj => ?_⟩
  have hj2 := hj
  rw [List.getElem?_drop] at hj2
  have hlt : k + j < R.length := (List.getElem?_eq_some_iff.1 hj2).1
  have e := ha (by omega)
  subst e
  have hc := h.cellAt (k + j) (by omega)
  rw [strs_get R _ y hj2] at hc
  by_cases h0 : j = 0
  · subst h0; simpa [Addr.add] using hc
  · simpa [Addr.add, h0] using hc
theorem slS_new (w : World) (u : Bs) : SlS (w.alloc (.cells #[.string (mkS u)] 9)) (.slice (some ⟨w.heap.size, 0, none⟩) 1 1) [u] := by
  refine .inr ⟨⟨w.heap.size, 0, none⟩, 1, rfl, fun j y hj => ?_⟩
  have hj0 : j = 0 := by
    have := (List.getElem?_eq_some_iff.1 hj).1
    simpa using this
  subst hj0
  injection hj with hj
  subst hj
  exact cell_one_new w (.string (mkS u)) 9 0 _ rfl
theorem SlS.far {w w' : World} {ad : Addr} {n c : Nat} {R : List Bs} {b : Option Nat} (h : SlS w (.slice (some ad) n c) R) (hf : ∀ p u, w.cell? p = some u → b ≠ some p.block → w'.cell? p = some u) (hb : b ≠ some ad.block) : SlS w' (.slice (some ad) n c) R := by
  rcases h with ⟨h, _⟩ | ⟨ad', c', e, hc⟩
  · cases h
  · injection e with e1 e2 e3
    injection e1 with e1
    subst e1 e2 e3
    refine .inr ⟨ad, c, rfl, fun j y hj => hf _ _ (hc j y hj) ?_⟩
    have e : (ad.add j).block = ad.block := by unfold Addr.add; split <;> rfl
    rw [e]; exact hb
end Tk
end Go.Proofs.YthooghgiokgdhaaGreatDoor
namespace Go.Proofs.YthooghgiokgdhaaGreatDoor
open Go.RowKit
namespace Tk

set_option maxHeartbeats 8000000 in
set_option maxRecDepth 100000 in
theorem rlist_any (v : Value) (l : List (Bs × Bs)) (name : Bs) (w : World) (hs : IsFlds w v l) (hz : sumF l ≤ 1000000) (hn : name.length ≤ 1099511627776) (hl : l.length ≤ 1048576) :
    Calls Tryz.prog 118 #[v, .string (mkS name)] w (ListPost w.heap.size (listF l name) w) := by
  have HA := Lib.hid (rall_any v l name w hs (sum_each l (by omega)) hn hl)
  unfold ListPost at HA
  have hlist : listF l name = (allF l name).flatMap splitL := rfl
  have HLI := Lib.hid hlist
  have hpc := Lib.hid (fun p hp => Nat.le_trans (all_piece name l p hp) hz)
  have hfl := Lib.hid (fun i => flat_sub (allF l name) i)
  have hal := allF_len l name
  have hPl : (allF l name).length ≤ 1048576 := by omega
  have hln := listF_len name l
  rw [hlist] at hln
  have hln2 : ((allF l name).flatMap splitL).length ≤ 1000000 := by omega
  obtain ⟨a, cap, rfl⟩ : ∃ a cap, v = .slice a l.length cap := by obtain ⟨a, c, h, -⟩ := hs; exact ⟨a, c, h⟩
  clear hs hz hlist hln hal
  generalize listF l name = Q at *
  generalize allF l name = P at *
  go_enter Tryz.func118, Tryz.ntmps118
  go_wp2_with fail
  refine HA.out.mono ?_
  rintro e w1 ⟨v1, rfl, ho, hb⟩
  have HB1 := Lib.hid hb
  have HS := Lib.hid (isStrs_own ho)
  have HLt := Lib.hid (fun k e => (ho.lt k e).2)
  obtain ⟨a1, c1, rfl⟩ : ∃ a c, v1 = .slice a P.length c := by obtain ⟨a, c, h, -⟩ := isStrs_own ho; exact ⟨a, c, h⟩
  clear ho hb
  go_wp2_with fail
  go_loopw [6, 7] (fun v5 vi wr => ∃ i : Nat, i ≤ P.length ∧ vi = .int .i64 i ∧ Hid (wr.ownsRow w1.heap.size 9 1 v5 ((P.take i).flatMap splitL).length (strs ((P.take i).flatMap splitL))) ∧ Hid (Below w1.heap.size w1 wr)) (fun _ vi _ => P.length - (RowKit.intOf vi).toNat)
  case atStart => exact ⟨0, Nat.zero_le _, rfl, World.ownsRow_nil _ _ _ _, Below.refl _ _⟩
  case round =>
    obtain ⟨i, hi, rfl, HO, HB⟩ := hrel
    rename World => W
    by_cases hlt : i < P.length
    · obtain ⟨a', c', e', hc⟩ := isStrs_later HS.out HB.out HLt.out
      injection e' with e1 _ e2
      subst e1 e2
      obtain ⟨b, o, rfl, hc⟩ := hc i (P.getD i []) (by simp [List.getD, hlt])
      have hm := hpc.out (P.getD i []) (by simp [List.getD, hlt])
      have htk := take_flat P i hlt
      have HTK := Lib.hid htk
      have hf1 := hfl.out i
      have hsl := split_len (P.getD i [])
      clear htk
      generalize P.getD i [] = x at *
      have hxz := size_mkS x
      have hsp := fun W : World => rSplit_any (mkS x) W (by omega)
      rw [bs_mkS] at hsp
      have HSP := Lib.hid hsp
      have g0 : (0 : Int) ≤ (i : Int) := by omega
      have g1 : (i : Int) < (P.length : Int) := by omega
      clear hsp hxz
      have hk1 : ((P.take i).flatMap splitL).length ≤ 1048576 := by omega
      have hk2 : (splitL x).length ≤ 1048576 := by omega
      generalize (P.take i).flatMap splitL = R at *
      generalize splitL x = S at *
      go_wp2_with fail
      refine (HSP.out _).mono ?_
      rintro e w3 ⟨v3, rfl, ho3, hb3⟩
      have HO3 := Lib.hid (own_keep HO.out hb3)
      have HB3 := Lib.hid (HB.out.trans (hb3.mono HB.out.size))
      have HS3 := Lib.hid ho3
      clear ho3 hb3
      go_wp2_with (at_builtin; refine join_guarded (by rfl) _ _ rfl w1.heap.size _ _ _ R S rfl rfl HO3.out HS3.out HB3.out.size hk1 hk2 ?_)
      intro v4 w4 ho4 hb4
      have HB4 := Lib.hid (HB3.out.trans hb4)
      have HO4 : Hid (w4.ownsRow w1.heap.size 9 1 v4 ((P.take (i + 1)).flatMap splitL).length (strs ((P.take (i + 1)).flatMap splitL))) := by
        show World.ownsRow _ _ _ _ _ _ _
        rw [HTK.out, List.length_append]; exact ho4
      clear ho4 hb4
      go_wp2_with fail
      exact ⟨⟨i + 1, hlt, by go_num, HO4, HB4⟩, by simp [RowKit.intOf]; omega⟩
    · have hil : P.take i = P := List.take_of_length_le (by omega)
      rw [hil, ← HLI.out] at HO
      have HBF := Lib.hid (HB1.out.trans (HB.out.mono HB1.out.size))
      have HOF := Lib.hid (World.ownsRow.mono HO.out HB1.out.size)
      go_wp2_with fail
      go_ret
      exact ⟨_, rfl, HOF.out, HBF.out⟩
end Tk
end Go.Proofs.YthooghgiokgdhaaGreatDoor
