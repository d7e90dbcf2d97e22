/- VdF, put together. -/
import Derived.Test.YthooghgiokgdhaaGreatDoorQP
import Derived.Test.YthooghgiokgdhaaGreatDoorQF
import Derived.Test.YthooghgiokgdhaaGreatDoorQJ
import Derived.Sort.Walk0
import Derived.Deep.RegionHeld3
namespace Go.Proofs.YthooghgiokgdhaaGreatDoor
open Go.RowKit
namespace Tk

set_option maxHeartbeats 8000000 in
set_option maxRecDepth 100000 in
theorem rnames_any (v : Value) (l : List (Bs × Bs)) (w : World) (hs : IsFlds w v l) (hz : sumF l ≤ 1000000) (hl : l.length ≤ 1048576) :
    Calls Tryz.prog 61 #[v] w (NamPost (listF l nVary) w) := by
  obtain ⟨i0, hi0, hz0, hz1, hz2⟩ := info_parts strInfo
  have HA := Lib.hid (rlist_any v l nVary w hs hz (by decide) hl)
  unfold ListPost at HA
  have hln := listF_len nVary l
  have hpc := Lib.hid (fun p hp => Nat.le_trans (listF_piece nVary l p hp) hz)
  have hQl : (listF l nVary).length ≤ 1000000 := by omega
  obtain ⟨a, cap, rfl⟩ : ∃ a cap, v = .slice a l.length cap := by obtain ⟨a, c, h, -⟩ := hs; exact ⟨a, c, h⟩
  clear hs hz hln
  generalize listF l nVary = Q at *
  unfold nVary at HA
  unfold NamPost
  go_enter Tryz.func61, Tryz.ntmps61
  go_wp2_with fail
  refine HA.out.mono ?_
  rintro e w1 ⟨v1, rfl, ho, hb⟩
  have HB1 := Lib.hid hb
  have HS := Lib.hid (isStrs_own ho)
  have HLt := Lib.hid (fun k e => (ho.lt k e).2)
  obtain ⟨a1, c1, rfl⟩ : ∃ a c, v1 = .slice a Q.length c := by obtain ⟨a, c, h, -⟩ := isStrs_own ho; exact ⟨a, c, h⟩
  clear ho hb
  go_wp2_with fail
  go_loopw [2, 3, 5, 6, 7, 8] (fun v2 v3 v5 vi _ _ wr => ∃ i : Nat, i ≤ Q.length ∧ v2 = .slice none 0 0 ∧ v3 = .bool false ∧ vi = .int .i64 i ∧ Hid ([42] ∉ Q.take i) ∧ Hid (wr.ownsRow w1.heap.size 9 1 v5 (setL12 ((Q.take i).map lowL)).length (strs (setL12 ((Q.take i).map lowL)))) ∧ Hid (Below w1.heap.size w1 wr)) (fun _ _ _ vi _ _ _ => Q.length - (RowKit.intOf vi).toNat)
  case atStart => exact ⟨0, Nat.zero_le _, rfl, rfl, rfl, by show _ ∉ _; simp, by show World.ownsRow _ _ _ _ _ _ _; rw [List.take_zero, List.map_nil, set_nil]; exact World.ownsRow_nil _ _ _ _, Below.refl _ _⟩
  case round =>
    obtain ⟨i, hi, rfl, rfl, rfl, HSt, HO, HB⟩ := hrel
    rename World => W
    by_cases hlt : i < Q.length
    · obtain ⟨a', c', e', hc⟩ := isStrs_later HS.out HB.out HLt.out
      injection e' with e1 _ e2
      subst e1 e2
      obtain ⟨b, o, rfl, hc⟩ := hc i (Q.getD i []) (by simp [List.getD, hlt])
      have hm := hpc.out (Q.getD i []) (by simp [List.getD, hlt])
      have hlt2 := low_take Q i hlt
      have HLT := Lib.hid hlt2
      have HST := Lib.hid (fun h2 => star_take Q i hlt HSt.out h2)
      have hmem : Q.getD i [] ∈ Q := by simp [List.getD, hlt]
      have HMm := Lib.hid hmem
      have hrl : (setL12 ((Q.take i).map lowL)).length ≤ 1000000 := by
        have := set_lenV ((Q.take i).map lowL)
        rw [List.length_map, List.length_take] at this; omega
      have g0 : (0 : Int) ≤ (i : Int) := by omega
      have g1 : (i : Int) < (Q.length : Int) := by omega
      clear hlt2 hmem
      generalize Q.getD i [] = x at *
      have hbq : ((mkS x).toList == ([42] : List UInt8)) = decide (x = [42]) := by rw [toList_bs, bs_mkS, Bool.eq_iff_iff, beq_iff_eq, decide_eq_true_eq]
      by_cases hx : x = [42]
      · rw [decide_eq_true hx] at hbq
        have hmm : [42] ∈ Q := hx ▸ HMm.out
        have hd : decide ([42] ∈ Q) = true := decide_eq_true hmm
        have hnm : nmsV Q = [] := by unfold nmsV; rw [if_pos hmm]
        have HD := Lib.hid hd
        have HNM := Lib.hid hnm
        have HBF := Lib.hid (HB1.out.trans (HB.out.mono HB1.out.size))
        clear hd hnm hx hmm
        go_wp2_with fail
        go_ret2
        refine ⟨.slice none 0 0, by rw [HD.out]; rfl, ?_, HBF.out⟩
        rw [HNM.out]
        exact World.ownsRow_nil _ _ _ _
      · rw [decide_eq_false hx] at hbq
        have HST2 := Lib.hid (HST.out hx)
        have HLo := Lib.hid (fun W : World => show Calls Tryz.prog 90 #[.string (mkS x)] W (fun e w' => e = .returned (.string (mkS (lowL (bs (mkS x))))) ∧ Below W.heap.size W w') from refLower_any (mkS x) W (by rw [size_mkS]; omega))
        rw [bs_mkS] at HLo
        have HInew := Lib.hid (fun k hk h1 h2 => ins_set ((Q.take i).map lowL) (lowL x) k hk h1 h2)
        have HIold := Lib.hid (fun k hk h2 => ins_old ((Q.take i).map lowL) (lowL x) k hk h2)
        rw [← HLT.out] at HInew HIold
        clear hx
        generalize setL12 ((Q.take i).map lowL) = R at *
        generalize lowL x = u at *
        obtain ⟨a5, c5, rfl⟩ : ∃ a c, u5 = .slice a R.length c := by
          rcases HO.out.2 with ⟨hv, hn⟩ | ⟨g, cap2, cur, hv, _⟩
          · exact ⟨_, _, by rw [hv, hn]⟩
          · exact ⟨_, _, hv⟩
        go_wp2_with fail
        refine (HLo.out _).mono ?_
        rintro e w6 ⟨rfl, hb⟩
        have HO6 := Lib.hid (own_keep HO.out hb)
        have hB' : w1.heap.size ≤ w6.heap.size := Nat.le_trans HB.out.size hb.size
        have HB6 := Lib.hid (HB.out.trans (hb.mono HB.out.size))
        clear hb
        have hkl : IntKind.i64.wrap (R.length : Int) = (R.length : Int) := IntWalk.i64_in _ (by omega)
        go_wp2_with fail
        go_loop [8] (fun vk => ∃ k : Nat, k ≤ R.length ∧ vk = .int .i64 k ∧ Hid (∀ y ∈ R.drop k, u < y)) (fun vk => (RowKit.intOf vk).toNat)
        case atStart => exact ⟨R.length, Nat.le_refl _, rfl, fun y hy => by simp at hy⟩
        case round =>
          obtain ⟨k, hk, rfl, HK⟩ := hrel
          have hcase : k = 0 ∨ (0 < k ∧ (u < R.getD (k - 1) [] ∨ (¬ u < R.getD (k - 1) [] ∧ (R.getD (k - 1) [] = u ∨ R.getD (k - 1) [] ≠ u)))) := by
            rcases Nat.eq_zero_or_pos k with h | h
            · exact .inl h
            · refine .inr ⟨h, ?_⟩
              rcases Classical.em (u < R.getD (k - 1) []) with h2 | h2
              · exact .inl h2
              · exact .inr ⟨h2, Classical.em _⟩
          rcases hcase with hk0 | ⟨hkp, hcs⟩
          · skip
            rcases HO6.out.2 with ⟨hv, hr0⟩ | ⟨g, cap2, cur, hv, _⟩
            · injection hv with e1 e2 e3
              subst e1 e3
              obtain rfl : k = 0 := hk0
              have HI2 := Lib.hid (HInew.out 0 (Nat.zero_le _) HK.out (.inl rfl))
              have hr1 : (R.length : Int) = 0 := by omega
              go_wp2_with fail
              have HTk : Hid (SlS w6 (.slice none 0 0) (R.take 0)) := .inl ⟨rfl, by simp⟩
              have HTd : Hid (SlS w6 (.slice none 0 0) (R.drop 0)) := .inl ⟨rfl, by rw [List.drop_zero]; exact List.eq_nil_of_length_eq_zero hr0⟩
              obtain ⟨A, hA⟩ : ∃ A, A = R.take 0 := ⟨_, rfl⟩
              obtain ⟨D, hD⟩ : ∃ D, D = R.drop 0 := ⟨_, rfl⟩
              rw [← hA, ← hD] at HI2
              rw [← hA] at HTk
              rw [← hD] at HTd
              have hAl : A.length ≤ 1000000 := by rw [hA, List.length_take]; omega
              have hDl : D.length ≤ 1000000 := by rw [hD, List.length_drop]; omega
              clear hA hD
              have lz1 : ([] : List Bs).length ≤ 1048576 := Nat.zero_le _
              have lz2 : A.length ≤ 1048576 := by omega
              have lz3 : ([] ++ A).length ≤ 1048576 := by rw [List.nil_append]; omega
              have lz4 : [u].length ≤ 1048576 := by rw [List.length_singleton]; decide
              have lz5 : ([] ++ A ++ [u]).length ≤ 1048576 := by rw [List.nil_append, List.length_append, List.length_singleton]; omega
              have lz6 : D.length ≤ 1048576 := by omega
              clear hAl hDl
              have hHeld0 : (fun Wz : World => Below w6.heap.size w6 Wz) w6.drew := (Below.refl _ _).drew
              refine wp_region_held_drew (S := (fun Wz : World => Below w6.heap.size w6 Wz)) (by kernel_rfl) hHeld0 (fun hHeld => ?_)
              refine wpAnyH_take (i := 1) (v := (.slice none 0 0)) rfl (by kernel_rfl) (by kernel_rfl) (by kernel_rfl) (fun _ _ _ h => h) (Or.inl ⟨by kernel_rfl, ?_⟩) (by assumption) ?_
              case refine_1 => (intro Wz hSw; go_simp; try with_reducible rfl)
              try simp only [Act.put, List.getElem_toArray, List.getElem_cons_succ, List.getElem_cons_zero, List.setIfInBounds_toArray, List.set_cons_zero, List.set_cons_succ]
              refine wpAnyH_take (i := 2) (v := (.int .i64 0)) rfl (by kernel_rfl) (by kernel_rfl) (by kernel_rfl) (fun _ _ _ h => h) (Or.inl ⟨by kernel_rfl, ?_⟩) (by assumption) ?_
              case refine_1 => (intro Wz hSw; go_simp; try with_reducible rfl)
              try simp only [Act.put, List.getElem_toArray, List.getElem_cons_succ, List.getElem_cons_zero, List.setIfInBounds_toArray, List.set_cons_zero, List.set_cons_succ]
              refine wpAnyH_take (i := 3) (v := .slice none 0 0) rfl (by kernel_rfl) (by kernel_rfl) (by kernel_rfl) (fun _ _ _ h => h) (Or.inl ⟨by kernel_rfl, ?_⟩) (by assumption) ?_
              case refine_1 => (intro Wz hSw; go_simp; try with_reducible rfl)
              try simp only [Act.put, List.getElem_toArray, List.getElem_cons_succ, List.getElem_cons_zero, List.setIfInBounds_toArray, List.set_cons_zero, List.set_cons_succ]
              refine wpAnyH_take (i := 5) (v := (.string (mkS u))) rfl (by kernel_rfl) (by kernel_rfl) (by kernel_rfl) (fun _ _ _ h => h) (Or.inl ⟨by kernel_rfl, ?_⟩) (by assumption) ?_
              case refine_1 => (intro Wz hSw; go_simp; try with_reducible rfl)
              try simp only [Act.put, List.getElem_toArray, List.getElem_cons_succ, List.getElem_cons_zero, List.setIfInBounds_toArray, List.set_cons_zero, List.set_cons_succ]
              refine wpAnyH_take (i := 8) (v := (.slice none 0 0)) rfl (by kernel_rfl) (by kernel_rfl) (by kernel_rfl) (fun _ _ _ h => h) (Or.inl ⟨by kernel_rfl, ?_⟩) (by assumption) ?_
              case refine_1 => (intro Wz hSw; go_simp; try with_reducible rfl)
              try simp only [Act.put, List.getElem_toArray, List.getElem_cons_succ, List.getElem_cons_zero, List.setIfInBounds_toArray, List.set_cons_zero, List.set_cons_succ]
              refine wpAnyH_take (i := 9) (v := (.int .i64 0)) rfl (by kernel_rfl) (by kernel_rfl) (by kernel_rfl) (fun _ _ _ h => h) (Or.inl ⟨by kernel_rfl, ?_⟩) (by assumption) ?_
              case refine_1 => (intro Wz hSw; go_simp; try with_reducible rfl)
              try simp only [Act.put, List.getElem_toArray, List.getElem_cons_succ, List.getElem_cons_zero, List.setIfInBounds_toArray, List.set_cons_zero, List.set_cons_succ]
              refine wpAnyH_take (i := 10) (v := .slice none 0 0) rfl (by kernel_rfl) (by kernel_rfl) (by kernel_rfl) (fun _ _ _ h => h) (Or.inl ⟨by kernel_rfl, ?_⟩) (by assumption) ?_
              case refine_1 => (intro Wz hSw; go_simp; try with_reducible rfl)
              try simp only [Act.put, List.getElem_toArray, List.getElem_cons_succ, List.getElem_cons_zero, List.setIfInBounds_toArray, List.set_cons_zero, List.set_cons_succ]
              refine wpAnyH_ready (rs := [0, 6]) (by kernel_rfl) (by simp) ?_
              refine (AllReadyH.cons rfl (fun K hK => ?_) (AllReadyH.cons rfl (fun K hK => ?_) AllReadyH.nil))
              · go_simp
                have ho1 : ((w6.alloc (Obj.cells #[] 9)).drew).ownsRow w6.heap.size 9 1 (.slice (some ⟨w6.heap.size, 0, none⟩) 0 0) ([] : List Bs).length (strs []) := own_keep (World.ownsRow_lit (base := w6.heap.size) (e := 9) (size := 1) w6 #[] 0 (Nat.le_refl _) (by decide) rfl) (Below.refl _ _).drew
                have hHeld1 : (fun Wz : World => Below w6.heap.size w6 Wz) ((w6.alloc (Obj.cells #[] 9)).drew) := ((Below.refl _ _).alloc (Nat.le_refl _) _).drew
                have hgt1 : w6.heap.size < ((w6.alloc (Obj.cells #[] 9)).drew).heap.size := by simp
                generalize (w6.alloc (Obj.cells #[] 9)).drew = y1 at *
                refine hK.out _ _ hHeld1 (fun hHeldz => ?_)
                clear hK K hHeldz
                try simp only [Act.put, List.getElem_toArray, List.getElem_cons_succ, List.getElem_cons_zero, List.setIfInBounds_toArray, List.set_cons_zero, List.set_cons_succ]
                refine wpAnyH_ready (rs := [4, 6]) (by kernel_rfl) (by simp) ?_
                refine (AllReadyH.cons rfl (fun K hK => ?_) (AllReadyH.cons rfl (fun K hK => ?_) AllReadyH.nil))
                · refine joinL_run _ _ _ _ _ _ _ (by rfl) w6.heap.size (.slice (some ⟨w6.heap.size, 0, none⟩) 0 0) (.slice none 0 0) ([]) (A) (by rfl) (by rfl) ho1 (HTk.out.later hHeld1) hHeld1.size (by assumption) (by assumption) ?_
                  intro v2 y2 ho2 hbb hfar
                  have hHeld2 : (fun Wz : World => Below w6.heap.size w6 Wz) y2 := hHeld1.trans hbb
                  clear hbb hfar
                  go_simp
                  refine hK.out _ _ hHeld2 (fun hHeldz => ?_)
                  clear hK K hHeldz
                  try simp only [Act.put, List.getElem_toArray, List.getElem_cons_succ, List.getElem_cons_zero, List.setIfInBounds_toArray, List.set_cons_zero, List.set_cons_succ]
                  refine wpAnyH_ready (rs := [6]) (by kernel_rfl) (by simp) ?_
                  refine (AllReadyH.cons rfl (fun K hK => ?_) AllReadyH.nil)
                  go_simp
                  have hbb : Below y2.heap.size y2 (y2.alloc (Obj.cells #[.string (mkS u)] 9)) := (Below.refl _ _).alloc (Nat.le_refl _) _
                  have hu3 := slS_new y2 u
                  have ho3 := own_keep ho2 hbb
                  have hHeld3 : (fun Wz : World => Below w6.heap.size w6 Wz) (y2.alloc (Obj.cells #[.string (mkS u)] 9)) := hHeld2.trans (hbb.mono hHeld2.size)
                  clear hbb
                  generalize y2.alloc (Obj.cells #[.string (mkS u)] 9) = y3 at *
                  refine hK.out _ _ hHeld3 (fun hHeldz => ?_)
                  clear hK K hHeldz
                  try simp only [Act.put, List.getElem_toArray, List.getElem_cons_succ, List.getElem_cons_zero, List.setIfInBounds_toArray, List.set_cons_zero, List.set_cons_succ]
                  refine wpAnyH_ready (rs := [7]) (by kernel_rfl) (by simp) ?_
                  refine (AllReadyH.cons rfl (fun K hK => ?_) AllReadyH.nil)
                  refine joinL_run _ _ _ _ _ _ _ (by rfl) w6.heap.size (v2) (.slice (some ⟨y2.heap.size, 0, none⟩) 1 1) ([] ++ A) ([u]) (by rfl) (by rfl) ho3 hu3 hHeld3.size (by assumption) (by assumption) ?_
                  intro v4 y4 ho4 hbb hfar
                  have hHeld4 : (fun Wz : World => Below w6.heap.size w6 Wz) y4 := hHeld3.trans hbb
                  clear hbb hfar
                  go_simp
                  refine hK.out _ _ hHeld4 (fun hHeldz => ?_)
                  clear hK K hHeldz
                  try simp only [Act.put, List.getElem_toArray, List.getElem_cons_succ, List.getElem_cons_zero, List.setIfInBounds_toArray, List.set_cons_zero, List.set_cons_succ]
                  refine wpAnyH_ready (rs := [11]) (by kernel_rfl) (by simp) ?_
                  refine (AllReadyH.cons rfl (fun K hK => ?_) AllReadyH.nil)
                  refine joinL_run _ _ _ _ _ _ _ (by rfl) w6.heap.size (v4) (.slice none 0 0) ([] ++ A ++ [u]) (D) (by rfl) (by rfl) ho4 (HTd.out.later hHeld4) hHeld4.size (by assumption) (by assumption) ?_
                  intro v5 y5 ho5 hbb hfar
                  have hHeld5 : (fun Wz : World => Below w6.heap.size w6 Wz) y5 := hHeld4.trans hbb
                  clear hbb hfar
                  go_simp
                  refine hK.out _ _ hHeld5 (fun hHeldz => ?_)
                  clear hK K hHeldz
                  try simp only [Act.put, List.getElem_toArray, List.getElem_cons_succ, List.getElem_cons_zero, List.setIfInBounds_toArray, List.set_cons_zero, List.set_cons_succ]
                  refine wpAnyH_take (i := 12) (v := v5) rfl (by kernel_rfl) (by kernel_rfl) (by kernel_rfl) (fun _ _ _ h => h) (Or.inl ⟨by kernel_rfl, ?_⟩) (by assumption) ?_
                  case refine_1 => (intro Wz hSw; go_simp; try with_reducible rfl)
                  try simp only [Act.put, List.getElem_toArray, List.getElem_cons_succ, List.getElem_cons_zero, List.setIfInBounds_toArray, List.set_cons_zero, List.set_cons_succ]
                  refine wpAnyH_done (by kernel_rfl) ?_ _
                  have HOf : Hid (y5.ownsRow w1.heap.size 9 1 v5 (A ++ u :: D).length (strs (A ++ u :: D))) := by
                    have h := World.ownsRow.mono ho5 hB'
                    rwa [show [] ++ A ++ [u] ++ D = A ++ u :: D by simp] at h
                  have HBf := Lib.hid (HB6.out.trans (hHeld5.mono hB'))
                  clear ho1 ho2 ho3 ho4 ho5 hu3 hHeld0 hHeld1 hHeld2 hHeld3 hHeld4 hHeld5 hgt1
                  go_wp2_with fail
                  refine ⟨⟨i + 1, hlt, rfl, rfl, by go_num, HST2, ?_, HBf⟩, by simp [RowKit.intOf]; omega⟩
                  show World.ownsRow _ _ _ _ _ _ _
                  rw [HI2.out]
                  exact HOf.out

                · go_simp
                  have hbb : Below y1.heap.size y1 (y1.alloc (Obj.cells #[.string (mkS u)] 9)) := (Below.refl _ _).alloc (Nat.le_refl _) _
                  have hu2 := slS_new y1 u
                  have ho2 := own_keep ho1 hbb
                  have hHeld2 : (fun Wz : World => Below w6.heap.size w6 Wz) (y1.alloc (Obj.cells #[.string (mkS u)] 9)) := hHeld1.trans (hbb.mono hHeld1.size)
                  clear hbb
                  generalize y1.alloc (Obj.cells #[.string (mkS u)] 9) = y2 at *
                  refine hK.out _ _ hHeld2 (fun hHeldz => ?_)
                  clear hK K hHeldz
                  try simp only [Act.put, List.getElem_toArray, List.getElem_cons_succ, List.getElem_cons_zero, List.setIfInBounds_toArray, List.set_cons_zero, List.set_cons_succ]
                  refine wpAnyH_ready (rs := [4]) (by kernel_rfl) (by simp) ?_
                  refine (AllReadyH.cons rfl (fun K hK => ?_) AllReadyH.nil)
                  refine joinL_run _ _ _ _ _ _ _ (by rfl) w6.heap.size (.slice (some ⟨w6.heap.size, 0, none⟩) 0 0) (.slice none 0 0) ([]) (A) (by rfl) (by rfl) ho2 (HTk.out.later hHeld2) hHeld2.size (by assumption) (by assumption) ?_
                  intro v3 y3 ho3 hbb hfar
                  have hHeld3 : (fun Wz : World => Below w6.heap.size w6 Wz) y3 := hHeld2.trans hbb
                  have hu3 := hu2.far hfar (by
                    intro e
                    have e2 : w6.heap.size = y1.heap.size := by simpa [Value.ownBlock] using e
                    omega)
                  clear hbb hfar
                  go_simp
                  refine hK.out _ _ hHeld3 (fun hHeldz => ?_)
                  clear hK K hHeldz
                  try simp only [Act.put, List.getElem_toArray, List.getElem_cons_succ, List.getElem_cons_zero, List.setIfInBounds_toArray, List.set_cons_zero, List.set_cons_succ]
                  refine wpAnyH_ready (rs := [7]) (by kernel_rfl) (by simp) ?_
                  refine (AllReadyH.cons rfl (fun K hK => ?_) AllReadyH.nil)
                  refine joinL_run _ _ _ _ _ _ _ (by rfl) w6.heap.size (v3) (.slice (some ⟨y1.heap.size, 0, none⟩) 1 1) ([] ++ A) ([u]) (by rfl) (by rfl) ho3 hu3 hHeld3.size (by assumption) (by assumption) ?_
                  intro v4 y4 ho4 hbb hfar
                  have hHeld4 : (fun Wz : World => Below w6.heap.size w6 Wz) y4 := hHeld3.trans hbb
                  clear hbb hfar
                  go_simp
                  refine hK.out _ _ hHeld4 (fun hHeldz => ?_)
                  clear hK K hHeldz
                  try simp only [Act.put, List.getElem_toArray, List.getElem_cons_succ, List.getElem_cons_zero, List.setIfInBounds_toArray, List.set_cons_zero, List.set_cons_succ]
                  refine wpAnyH_ready (rs := [11]) (by kernel_rfl) (by simp) ?_
                  refine (AllReadyH.cons rfl (fun K hK => ?_) AllReadyH.nil)
                  refine joinL_run _ _ _ _ _ _ _ (by rfl) w6.heap.size (v4) (.slice none 0 0) ([] ++ A ++ [u]) (D) (by rfl) (by rfl) ho4 (HTd.out.later hHeld4) hHeld4.size (by assumption) (by assumption) ?_
                  intro v5 y5 ho5 hbb hfar
                  have hHeld5 : (fun Wz : World => Below w6.heap.size w6 Wz) y5 := hHeld4.trans hbb
                  clear hbb hfar
                  go_simp
                  refine hK.out _ _ hHeld5 (fun hHeldz => ?_)
                  clear hK K hHeldz
                  try simp only [Act.put, List.getElem_toArray, List.getElem_cons_succ, List.getElem_cons_zero, List.setIfInBounds_toArray, List.set_cons_zero, List.set_cons_succ]
                  refine wpAnyH_take (i := 12) (v := v5) rfl (by kernel_rfl) (by kernel_rfl) (by kernel_rfl) (fun _ _ _ h => h) (Or.inl ⟨by kernel_rfl, ?_⟩) (by assumption) ?_
                  case refine_1 => (intro Wz hSw; go_simp; try with_reducible rfl)
                  try simp only [Act.put, List.getElem_toArray, List.getElem_cons_succ, List.getElem_cons_zero, List.setIfInBounds_toArray, List.set_cons_zero, List.set_cons_succ]
                  refine wpAnyH_done (by kernel_rfl) ?_ _
                  have HOf : Hid (y5.ownsRow w1.heap.size 9 1 v5 (A ++ u :: D).length (strs (A ++ u :: D))) := by
                    have h := World.ownsRow.mono ho5 hB'
                    rwa [show [] ++ A ++ [u] ++ D = A ++ u :: D by simp] at h
                  have HBf := Lib.hid (HB6.out.trans (hHeld5.mono hB'))
                  clear ho1 ho2 ho3 ho4 ho5 hu2 hu3 hHeld0 hHeld1 hHeld2 hHeld3 hHeld4 hHeld5 hgt1
                  go_wp2_with fail
                  refine ⟨⟨i + 1, hlt, rfl, rfl, by go_num, HST2, ?_, HBf⟩, by simp [RowKit.intOf]; omega⟩
                  show World.ownsRow _ _ _ _ _ _ _
                  rw [HI2.out]
                  exact HOf.out


              · go_simp
                have hu1 : SlS ((w6.alloc (Obj.cells #[.string (mkS u)] 9)).drew) (.slice (some ⟨w6.heap.size, 0, none⟩) 1 1) [u] := (slS_new w6 u).later (Below.refl _ _).drew
                have hHeld1 : (fun Wz : World => Below w6.heap.size w6 Wz) ((w6.alloc (Obj.cells #[.string (mkS u)] 9)).drew) := ((Below.refl _ _).alloc (Nat.le_refl _) _).drew
                have hgt1 : w6.heap.size < ((w6.alloc (Obj.cells #[.string (mkS u)] 9)).drew).heap.size := by simp
                generalize (w6.alloc (Obj.cells #[.string (mkS u)] 9)).drew = y1 at *
                refine hK.out _ _ hHeld1 (fun hHeldz => ?_)
                clear hK K hHeldz
                try simp only [Act.put, List.getElem_toArray, List.getElem_cons_succ, List.getElem_cons_zero, List.setIfInBounds_toArray, List.set_cons_zero, List.set_cons_succ]
                refine wpAnyH_ready (rs := [0]) (by kernel_rfl) (by simp) ?_
                refine (AllReadyH.cons rfl (fun K hK => ?_) AllReadyH.nil)
                go_simp
                have hbb : Below y1.heap.size y1 (y1.alloc (Obj.cells #[] 9)) := (Below.refl _ _).alloc (Nat.le_refl _) _
                have hu2 := hu1.later hbb
                have ho2 : (y1.alloc (Obj.cells #[] 9)).ownsRow w6.heap.size 9 1 (.slice (some ⟨y1.heap.size, 0, none⟩) 0 0) ([] : List Bs).length (strs []) := World.ownsRow_lit (base := w6.heap.size) (e := 9) (size := 1) y1 #[] 0 (Nat.le_of_lt hgt1) (by decide) rfl
                have hHeld2 : (fun Wz : World => Below w6.heap.size w6 Wz) (y1.alloc (Obj.cells #[] 9)) := hHeld1.trans (hbb.mono hHeld1.size)
                clear hbb
                generalize y1.alloc (Obj.cells #[] 9) = y2 at *
                refine hK.out _ _ hHeld2 (fun hHeldz => ?_)
                clear hK K hHeldz
                try simp only [Act.put, List.getElem_toArray, List.getElem_cons_succ, List.getElem_cons_zero, List.setIfInBounds_toArray, List.set_cons_zero, List.set_cons_succ]
                refine wpAnyH_ready (rs := [4]) (by kernel_rfl) (by simp) ?_
                refine (AllReadyH.cons rfl (fun K hK => ?_) AllReadyH.nil)
                refine joinL_run _ _ _ _ _ _ _ (by rfl) w6.heap.size (.slice (some ⟨y1.heap.size, 0, none⟩) 0 0) (.slice none 0 0) ([]) (A) (by rfl) (by rfl) ho2 (HTk.out.later hHeld2) hHeld2.size (by assumption) (by assumption) ?_
                intro v3 y3 ho3 hbb hfar
                have hHeld3 : (fun Wz : World => Below w6.heap.size w6 Wz) y3 := hHeld2.trans hbb
                have hu3 := hu2.far hfar (by
                  intro e
                  have e2 : y1.heap.size = w6.heap.size := by simpa [Value.ownBlock] using e
                  omega)
                clear hbb hfar
                go_simp
                refine hK.out _ _ hHeld3 (fun hHeldz => ?_)
                clear hK K hHeldz
                try simp only [Act.put, List.getElem_toArray, List.getElem_cons_succ, List.getElem_cons_zero, List.setIfInBounds_toArray, List.set_cons_zero, List.set_cons_succ]
                refine wpAnyH_ready (rs := [7]) (by kernel_rfl) (by simp) ?_
                refine (AllReadyH.cons rfl (fun K hK => ?_) AllReadyH.nil)
                refine joinL_run _ _ _ _ _ _ _ (by rfl) w6.heap.size (v3) (.slice (some ⟨w6.heap.size, 0, none⟩) 1 1) ([] ++ A) ([u]) (by rfl) (by rfl) ho3 hu3 hHeld3.size (by assumption) (by assumption) ?_
                intro v4 y4 ho4 hbb hfar
                have hHeld4 : (fun Wz : World => Below w6.heap.size w6 Wz) y4 := hHeld3.trans hbb
                clear hbb hfar
                go_simp
                refine hK.out _ _ hHeld4 (fun hHeldz => ?_)
                clear hK K hHeldz
                try simp only [Act.put, List.getElem_toArray, List.getElem_cons_succ, List.getElem_cons_zero, List.setIfInBounds_toArray, List.set_cons_zero, List.set_cons_succ]
                refine wpAnyH_ready (rs := [11]) (by kernel_rfl) (by simp) ?_
                refine (AllReadyH.cons rfl (fun K hK => ?_) AllReadyH.nil)
                refine joinL_run _ _ _ _ _ _ _ (by rfl) w6.heap.size (v4) (.slice none 0 0) ([] ++ A ++ [u]) (D) (by rfl) (by rfl) ho4 (HTd.out.later hHeld4) hHeld4.size (by assumption) (by assumption) ?_
                intro v5 y5 ho5 hbb hfar
                have hHeld5 : (fun Wz : World => Below w6.heap.size w6 Wz) y5 := hHeld4.trans hbb
                clear hbb hfar
                go_simp
                refine hK.out _ _ hHeld5 (fun hHeldz => ?_)
                clear hK K hHeldz
                try simp only [Act.put, List.getElem_toArray, List.getElem_cons_succ, List.getElem_cons_zero, List.setIfInBounds_toArray, List.set_cons_zero, List.set_cons_succ]
                refine wpAnyH_take (i := 12) (v := v5) rfl (by kernel_rfl) (by kernel_rfl) (by kernel_rfl) (fun _ _ _ h => h) (Or.inl ⟨by kernel_rfl, ?_⟩) (by assumption) ?_
                case refine_1 => (intro Wz hSw; go_simp; try with_reducible rfl)
                try simp only [Act.put, List.getElem_toArray, List.getElem_cons_succ, List.getElem_cons_zero, List.setIfInBounds_toArray, List.set_cons_zero, List.set_cons_succ]
                refine wpAnyH_done (by kernel_rfl) ?_ _
                have HOf : Hid (y5.ownsRow w1.heap.size 9 1 v5 (A ++ u :: D).length (strs (A ++ u :: D))) := by
                  have h := World.ownsRow.mono ho5 hB'
                  rwa [show [] ++ A ++ [u] ++ D = A ++ u :: D by simp] at h
                have HBf := Lib.hid (HB6.out.trans (hHeld5.mono hB'))
                clear ho2 ho3 ho4 ho5 hu1 hu2 hu3 hHeld0 hHeld1 hHeld2 hHeld3 hHeld4 hHeld5 hgt1
                go_wp2_with fail
                refine ⟨⟨i + 1, hlt, rfl, rfl, by go_num, HST2, ?_, HBf⟩, by simp [RowKit.intOf]; omega⟩
                show World.ownsRow _ _ _ _ _ _ _
                rw [HI2.out]
                exact HOf.out


            · obtain rfl : a5 = some ⟨g, 0, none⟩ := by injection hv
              have HI2 := Lib.hid (HInew.out k hk HK.out (.inl hk0))
              have e0 : ((k : Int) == 0) = true := by rw [beq_iff_eq]; omega
              have e1 : ¬ (0 : Int) < (k : Int) := by omega
              clear hv hk0
              go_wp2_with fail
              have hcp : R.length ≤ c5 := by
                rcases HO6.out.2 with ⟨hv, hn⟩ | ⟨g', cap2, cur, hv, hbase, hg, hc1, hc2, -⟩
                · cases hv
                · injection hv with e1 _ e2
                  omega
              have q2 : (k : Int) ≤ (c5 : Int) := by omega
              have q3 : (R.length : Int) ≤ (c5 : Int) := by omega
              have q4 : ¬ (k : Int) < 0 := by omega
              have q5 : (0 : Int) ≤ (k : Int) := by omega
              have q6 : (k : Int) ≤ (R.length : Int) := by omega
              obtain ⟨ad, had, had2⟩ : ∃ ad : Addr, (k < R.length → ad = ⟨g, k, none⟩) ∧ (if c5 = k then some (⟨g, 0, none⟩ : Addr) else some ⟨g, k, none⟩) = some ad := by
                by_cases h : c5 = k
                · exact ⟨⟨g, 0, none⟩, fun h2 => by omega, by rw [if_pos h]⟩
                · exact ⟨⟨g, k, none⟩, fun _ => rfl, by rw [if_neg h]⟩
              have HTk := Lib.hid (slS_take HO6.out rfl hk)
              have HTd := Lib.hid (slS_drop HO6.out rfl hk ad (c5 - k) had)
              clear had hcp
              obtain ⟨A, hA⟩ : ∃ A, A = R.take k := ⟨_, rfl⟩
              obtain ⟨D, hD⟩ : ∃ D, D = R.drop k := ⟨_, rfl⟩
              rw [← hA, ← hD] at HI2
              rw [← hA] at HTk
              rw [← hD] at HTd
              have hAl : A.length ≤ 1000000 := by rw [hA, List.length_take]; omega
              have hDl : D.length ≤ 1000000 := by rw [hD, List.length_drop]; omega
              clear hA hD
              have lz1 : ([] : List Bs).length ≤ 1048576 := Nat.zero_le _
              have lz2 : A.length ≤ 1048576 := by omega
              have lz3 : ([] ++ A).length ≤ 1048576 := by rw [List.nil_append]; omega
              have lz4 : [u].length ≤ 1048576 := by rw [List.length_singleton]; decide
              have lz5 : ([] ++ A ++ [u]).length ≤ 1048576 := by rw [List.nil_append, List.length_append, List.length_singleton]; omega
              have lz6 : D.length ≤ 1048576 := by omega
              clear hAl hDl
              have hHeld0 : (fun Wz : World => Below w6.heap.size w6 Wz) w6.drew := (Below.refl _ _).drew
              refine wp_region_held_drew (S := (fun Wz : World => Below w6.heap.size w6 Wz)) (by kernel_rfl) hHeld0 (fun hHeld => ?_)
              refine wpAnyH_take (i := 1) (v := (.slice (some ⟨g, 0, none⟩) R.length c5)) rfl (by kernel_rfl) (by kernel_rfl) (by kernel_rfl) (fun _ _ _ h => h) (Or.inl ⟨by kernel_rfl, ?_⟩) (by assumption) ?_
              case refine_1 => (intro Wz hSw; go_simp; try with_reducible rfl)
              try simp only [Act.put, List.getElem_toArray, List.getElem_cons_succ, List.getElem_cons_zero, List.setIfInBounds_toArray, List.set_cons_zero, List.set_cons_succ]
              refine wpAnyH_take (i := 2) (v := (.int .i64 k)) rfl (by kernel_rfl) (by kernel_rfl) (by kernel_rfl) (fun _ _ _ h => h) (Or.inl ⟨by kernel_rfl, ?_⟩) (by assumption) ?_
              case refine_1 => (intro Wz hSw; go_simp; try with_reducible rfl)
              try simp only [Act.put, List.getElem_toArray, List.getElem_cons_succ, List.getElem_cons_zero, List.setIfInBounds_toArray, List.set_cons_zero, List.set_cons_succ]
              refine wpAnyH_take (i := 3) (v := .slice (some ⟨g, 0, none⟩) k c5) rfl (by kernel_rfl) (by kernel_rfl) (by kernel_rfl) (fun _ _ _ h => h) (Or.inl ⟨by kernel_rfl, ?_⟩) (by assumption) ?_
              case refine_1 => (intro Wz hSw; go_simp; try with_reducible rfl)
              try simp only [Act.put, List.getElem_toArray, List.getElem_cons_succ, List.getElem_cons_zero, List.setIfInBounds_toArray, List.set_cons_zero, List.set_cons_succ]
              refine wpAnyH_take (i := 5) (v := (.string (mkS u))) rfl (by kernel_rfl) (by kernel_rfl) (by kernel_rfl) (fun _ _ _ h => h) (Or.inl ⟨by kernel_rfl, ?_⟩) (by assumption) ?_
              case refine_1 => (intro Wz hSw; go_simp; try with_reducible rfl)
              try simp only [Act.put, List.getElem_toArray, List.getElem_cons_succ, List.getElem_cons_zero, List.setIfInBounds_toArray, List.set_cons_zero, List.set_cons_succ]
              refine wpAnyH_take (i := 8) (v := (.slice (some ⟨g, 0, none⟩) R.length c5)) rfl (by kernel_rfl) (by kernel_rfl) (by kernel_rfl) (fun _ _ _ h => h) (Or.inl ⟨by kernel_rfl, ?_⟩) (by assumption) ?_
              case refine_1 => (intro Wz hSw; go_simp; try with_reducible rfl)
              try simp only [Act.put, List.getElem_toArray, List.getElem_cons_succ, List.getElem_cons_zero, List.setIfInBounds_toArray, List.set_cons_zero, List.set_cons_succ]
              refine wpAnyH_take (i := 9) (v := (.int .i64 k)) rfl (by kernel_rfl) (by kernel_rfl) (by kernel_rfl) (fun _ _ _ h => h) (Or.inl ⟨by kernel_rfl, ?_⟩) (by assumption) ?_
              case refine_1 => (intro Wz hSw; go_simp; try with_reducible rfl)
              try simp only [Act.put, List.getElem_toArray, List.getElem_cons_succ, List.getElem_cons_zero, List.setIfInBounds_toArray, List.set_cons_zero, List.set_cons_succ]
              refine wpAnyH_take (i := 10) (v := .slice (some ad) (R.length - k) (c5 - k)) rfl (by kernel_rfl) (by kernel_rfl) (by kernel_rfl) (fun _ _ _ h => h) (Or.inl ⟨by kernel_rfl, ?_⟩) (by assumption) ?_
              case refine_1 => (intro Wz hSw; go_simp; try with_reducible rfl)
              try simp only [Act.put, List.getElem_toArray, List.getElem_cons_succ, List.getElem_cons_zero, List.setIfInBounds_toArray, List.set_cons_zero, List.set_cons_succ]
              refine wpAnyH_ready (rs := [0, 6]) (by kernel_rfl) (by simp) ?_
              refine (AllReadyH.cons rfl (fun K hK => ?_) (AllReadyH.cons rfl (fun K hK => ?_) AllReadyH.nil))
              · go_simp
                have ho1 : ((w6.alloc (Obj.cells #[] 9)).drew).ownsRow w6.heap.size 9 1 (.slice (some ⟨w6.heap.size, 0, none⟩) 0 0) ([] : List Bs).length (strs []) := own_keep (World.ownsRow_lit (base := w6.heap.size) (e := 9) (size := 1) w6 #[] 0 (Nat.le_refl _) (by decide) rfl) (Below.refl _ _).drew
                have hHeld1 : (fun Wz : World => Below w6.heap.size w6 Wz) ((w6.alloc (Obj.cells #[] 9)).drew) := ((Below.refl _ _).alloc (Nat.le_refl _) _).drew
                have hgt1 : w6.heap.size < ((w6.alloc (Obj.cells #[] 9)).drew).heap.size := by simp
                generalize (w6.alloc (Obj.cells #[] 9)).drew = y1 at *
                refine hK.out _ _ hHeld1 (fun hHeldz => ?_)
                clear hK K hHeldz
                try simp only [Act.put, List.getElem_toArray, List.getElem_cons_succ, List.getElem_cons_zero, List.setIfInBounds_toArray, List.set_cons_zero, List.set_cons_succ]
                refine wpAnyH_ready (rs := [4, 6]) (by kernel_rfl) (by simp) ?_
                refine (AllReadyH.cons rfl (fun K hK => ?_) (AllReadyH.cons rfl (fun K hK => ?_) AllReadyH.nil))
                · refine joinL_run _ _ _ _ _ _ _ (by rfl) w6.heap.size (.slice (some ⟨w6.heap.size, 0, none⟩) 0 0) (.slice (some ⟨g, 0, none⟩) k c5) ([]) (A) (by rfl) (by rfl) ho1 (HTk.out.later hHeld1) hHeld1.size (by assumption) (by assumption) ?_
                  intro v2 y2 ho2 hbb hfar
                  have hHeld2 : (fun Wz : World => Below w6.heap.size w6 Wz) y2 := hHeld1.trans hbb
                  clear hbb hfar
                  go_simp
                  refine hK.out _ _ hHeld2 (fun hHeldz => ?_)
                  clear hK K hHeldz
                  try simp only [Act.put, List.getElem_toArray, List.getElem_cons_succ, List.getElem_cons_zero, List.setIfInBounds_toArray, List.set_cons_zero, List.set_cons_succ]
                  refine wpAnyH_ready (rs := [6]) (by kernel_rfl) (by simp) ?_
                  refine (AllReadyH.cons rfl (fun K hK => ?_) AllReadyH.nil)
                  go_simp
                  have hbb : Below y2.heap.size y2 (y2.alloc (Obj.cells #[.string (mkS u)] 9)) := (Below.refl _ _).alloc (Nat.le_refl _) _
                  have hu3 := slS_new y2 u
                  have ho3 := own_keep ho2 hbb
                  have hHeld3 : (fun Wz : World => Below w6.heap.size w6 Wz) (y2.alloc (Obj.cells #[.string (mkS u)] 9)) := hHeld2.trans (hbb.mono hHeld2.size)
                  clear hbb
                  generalize y2.alloc (Obj.cells #[.string (mkS u)] 9) = y3 at *
                  refine hK.out _ _ hHeld3 (fun hHeldz => ?_)
                  clear hK K hHeldz
                  try simp only [Act.put, List.getElem_toArray, List.getElem_cons_succ, List.getElem_cons_zero, List.setIfInBounds_toArray, List.set_cons_zero, List.set_cons_succ]
                  refine wpAnyH_ready (rs := [7]) (by kernel_rfl) (by simp) ?_
                  refine (AllReadyH.cons rfl (fun K hK => ?_) AllReadyH.nil)
                  refine joinL_run _ _ _ _ _ _ _ (by rfl) w6.heap.size (v2) (.slice (some ⟨y2.heap.size, 0, none⟩) 1 1) ([] ++ A) ([u]) (by rfl) (by rfl) ho3 hu3 hHeld3.size (by assumption) (by assumption) ?_
                  intro v4 y4 ho4 hbb hfar
                  have hHeld4 : (fun Wz : World => Below w6.heap.size w6 Wz) y4 := hHeld3.trans hbb
                  clear hbb hfar
                  go_simp
                  refine hK.out _ _ hHeld4 (fun hHeldz => ?_)
                  clear hK K hHeldz
                  try simp only [Act.put, List.getElem_toArray, List.getElem_cons_succ, List.getElem_cons_zero, List.setIfInBounds_toArray, List.set_cons_zero, List.set_cons_succ]
                  refine wpAnyH_ready (rs := [11]) (by kernel_rfl) (by simp) ?_
                  refine (AllReadyH.cons rfl (fun K hK => ?_) AllReadyH.nil)
                  refine joinL_run _ _ _ _ _ _ _ (by rfl) w6.heap.size (v4) (.slice (some ad) (R.length - k) (c5 - k)) ([] ++ A ++ [u]) (D) (by rfl) (by rfl) ho4 (HTd.out.later hHeld4) hHeld4.size (by assumption) (by assumption) ?_
                  intro v5 y5 ho5 hbb hfar
                  have hHeld5 : (fun Wz : World => Below w6.heap.size w6 Wz) y5 := hHeld4.trans hbb
                  clear hbb hfar
                  go_simp
                  refine hK.out _ _ hHeld5 (fun hHeldz => ?_)
                  clear hK K hHeldz
                  try simp only [Act.put, List.getElem_toArray, List.getElem_cons_succ, List.getElem_cons_zero, List.setIfInBounds_toArray, List.set_cons_zero, List.set_cons_succ]
                  refine wpAnyH_take (i := 12) (v := v5) rfl (by kernel_rfl) (by kernel_rfl) (by kernel_rfl) (fun _ _ _ h => h) (Or.inl ⟨by kernel_rfl, ?_⟩) (by assumption) ?_
                  case refine_1 => (intro Wz hSw; go_simp; try with_reducible rfl)
                  try simp only [Act.put, List.getElem_toArray, List.getElem_cons_succ, List.getElem_cons_zero, List.setIfInBounds_toArray, List.set_cons_zero, List.set_cons_succ]
                  refine wpAnyH_done (by kernel_rfl) ?_ _
                  have HOf : Hid (y5.ownsRow w1.heap.size 9 1 v5 (A ++ u :: D).length (strs (A ++ u :: D))) := by
                    have h := World.ownsRow.mono ho5 hB'
                    rwa [show [] ++ A ++ [u] ++ D = A ++ u :: D by simp] at h
                  have HBf := Lib.hid (HB6.out.trans (hHeld5.mono hB'))
                  clear ho1 ho2 ho3 ho4 ho5 hu3 hHeld0 hHeld1 hHeld2 hHeld3 hHeld4 hHeld5 hgt1
                  go_wp2_with fail
                  refine ⟨⟨i + 1, hlt, rfl, rfl, by go_num, HST2, ?_, HBf⟩, by simp [RowKit.intOf]; omega⟩
                  show World.ownsRow _ _ _ _ _ _ _
                  rw [HI2.out]
                  exact HOf.out

                · go_simp
                  have hbb : Below y1.heap.size y1 (y1.alloc (Obj.cells #[.string (mkS u)] 9)) := (Below.refl _ _).alloc (Nat.le_refl _) _
                  have hu2 := slS_new y1 u
                  have ho2 := own_keep ho1 hbb
                  have hHeld2 : (fun Wz : World => Below w6.heap.size w6 Wz) (y1.alloc (Obj.cells #[.string (mkS u)] 9)) := hHeld1.trans (hbb.mono hHeld1.size)
                  clear hbb
                  generalize y1.alloc (Obj.cells #[.string (mkS u)] 9) = y2 at *
                  refine hK.out _ _ hHeld2 (fun hHeldz => ?_)
                  clear hK K hHeldz
                  try simp only [Act.put, List.getElem_toArray, List.getElem_cons_succ, List.getElem_cons_zero, List.setIfInBounds_toArray, List.set_cons_zero, List.set_cons_succ]
                  refine wpAnyH_ready (rs := [4]) (by kernel_rfl) (by simp) ?_
                  refine (AllReadyH.cons rfl (fun K hK => ?_) AllReadyH.nil)
                  refine joinL_run _ _ _ _ _ _ _ (by rfl) w6.heap.size (.slice (some ⟨w6.heap.size, 0, none⟩) 0 0) (.slice (some ⟨g, 0, none⟩) k c5) ([]) (A) (by rfl) (by rfl) ho2 (HTk.out.later hHeld2) hHeld2.size (by assumption) (by assumption) ?_
                  intro v3 y3 ho3 hbb hfar
                  have hHeld3 : (fun Wz : World => Below w6.heap.size w6 Wz) y3 := hHeld2.trans hbb
                  have hu3 := hu2.far hfar (by
                    intro e
                    have e2 : w6.heap.size = y1.heap.size := by simpa [Value.ownBlock] using e
                    omega)
                  clear hbb hfar
                  go_simp
                  refine hK.out _ _ hHeld3 (fun hHeldz => ?_)
                  clear hK K hHeldz
                  try simp only [Act.put, List.getElem_toArray, List.getElem_cons_succ, List.getElem_cons_zero, List.setIfInBounds_toArray, List.set_cons_zero, List.set_cons_succ]
                  refine wpAnyH_ready (rs := [7]) (by kernel_rfl) (by simp) ?_
                  refine (AllReadyH.cons rfl (fun K hK => ?_) AllReadyH.nil)
                  refine joinL_run _ _ _ _ _ _ _ (by rfl) w6.heap.size (v3) (.slice (some ⟨y1.heap.size, 0, none⟩) 1 1) ([] ++ A) ([u]) (by rfl) (by rfl) ho3 hu3 hHeld3.size (by assumption) (by assumption) ?_
                  intro v4 y4 ho4 hbb hfar
                  have hHeld4 : (fun Wz : World => Below w6.heap.size w6 Wz) y4 := hHeld3.trans hbb
                  clear hbb hfar
                  go_simp
                  refine hK.out _ _ hHeld4 (fun hHeldz => ?_)
                  clear hK K hHeldz
                  try simp only [Act.put, List.getElem_toArray, List.getElem_cons_succ, List.getElem_cons_zero, List.setIfInBounds_toArray, List.set_cons_zero, List.set_cons_succ]
                  refine wpAnyH_ready (rs := [11]) (by kernel_rfl) (by simp) ?_
                  refine (AllReadyH.cons rfl (fun K hK => ?_) AllReadyH.nil)
                  refine joinL_run _ _ _ _ _ _ _ (by rfl) w6.heap.size (v4) (.slice (some ad) (R.length - k) (c5 - k)) ([] ++ A ++ [u]) (D) (by rfl) (by rfl) ho4 (HTd.out.later hHeld4) hHeld4.size (by assumption) (by assumption) ?_
                  intro v5 y5 ho5 hbb hfar
                  have hHeld5 : (fun Wz : World => Below w6.heap.size w6 Wz) y5 := hHeld4.trans hbb
                  clear hbb hfar
                  go_simp
                  refine hK.out _ _ hHeld5 (fun hHeldz => ?_)
                  clear hK K hHeldz
                  try simp only [Act.put, List.getElem_toArray, List.getElem_cons_succ, List.getElem_cons_zero, List.setIfInBounds_toArray, List.set_cons_zero, List.set_cons_succ]
                  refine wpAnyH_take (i := 12) (v := v5) rfl (by kernel_rfl) (by kernel_rfl) (by kernel_rfl) (fun _ _ _ h => h) (Or.inl ⟨by kernel_rfl, ?_⟩) (by assumption) ?_
                  case refine_1 => (intro Wz hSw; go_simp; try with_reducible rfl)
                  try simp only [Act.put, List.getElem_toArray, List.getElem_cons_succ, List.getElem_cons_zero, List.setIfInBounds_toArray, List.set_cons_zero, List.set_cons_succ]
                  refine wpAnyH_done (by kernel_rfl) ?_ _
                  have HOf : Hid (y5.ownsRow w1.heap.size 9 1 v5 (A ++ u :: D).length (strs (A ++ u :: D))) := by
                    have h := World.ownsRow.mono ho5 hB'
                    rwa [show [] ++ A ++ [u] ++ D = A ++ u :: D by simp] at h
                  have HBf := Lib.hid (HB6.out.trans (hHeld5.mono hB'))
                  clear ho1 ho2 ho3 ho4 ho5 hu2 hu3 hHeld0 hHeld1 hHeld2 hHeld3 hHeld4 hHeld5 hgt1
                  go_wp2_with fail
                  refine ⟨⟨i + 1, hlt, rfl, rfl, by go_num, HST2, ?_, HBf⟩, by simp [RowKit.intOf]; omega⟩
                  show World.ownsRow _ _ _ _ _ _ _
                  rw [HI2.out]
                  exact HOf.out


              · go_simp
                have hu1 : SlS ((w6.alloc (Obj.cells #[.string (mkS u)] 9)).drew) (.slice (some ⟨w6.heap.size, 0, none⟩) 1 1) [u] := (slS_new w6 u).later (Below.refl _ _).drew
                have hHeld1 : (fun Wz : World => Below w6.heap.size w6 Wz) ((w6.alloc (Obj.cells #[.string (mkS u)] 9)).drew) := ((Below.refl _ _).alloc (Nat.le_refl _) _).drew
                have hgt1 : w6.heap.size < ((w6.alloc (Obj.cells #[.string (mkS u)] 9)).drew).heap.size := by simp
                generalize (w6.alloc (Obj.cells #[.string (mkS u)] 9)).drew = y1 at *
                refine hK.out _ _ hHeld1 (fun hHeldz => ?_)
                clear hK K hHeldz
                try simp only [Act.put, List.getElem_toArray, List.getElem_cons_succ, List.getElem_cons_zero, List.setIfInBounds_toArray, List.set_cons_zero, List.set_cons_succ]
                refine wpAnyH_ready (rs := [0]) (by kernel_rfl) (by simp) ?_
                refine (AllReadyH.cons rfl (fun K hK => ?_) AllReadyH.nil)
                go_simp
                have hbb : Below y1.heap.size y1 (y1.alloc (Obj.cells #[] 9)) := (Below.refl _ _).alloc (Nat.le_refl _) _
                have hu2 := hu1.later hbb
                have ho2 : (y1.alloc (Obj.cells #[] 9)).ownsRow w6.heap.size 9 1 (.slice (some ⟨y1.heap.size, 0, none⟩) 0 0) ([] : List Bs).length (strs []) := World.ownsRow_lit (base := w6.heap.size) (e := 9) (size := 1) y1 #[] 0 (Nat.le_of_lt hgt1) (by decide) rfl
                have hHeld2 : (fun Wz : World => Below w6.heap.size w6 Wz) (y1.alloc (Obj.cells #[] 9)) := hHeld1.trans (hbb.mono hHeld1.size)
                clear hbb
                generalize y1.alloc (Obj.cells #[] 9) = y2 at *
                refine hK.out _ _ hHeld2 (fun hHeldz => ?_)
                clear hK K hHeldz
                try simp only [Act.put, List.getElem_toArray, List.getElem_cons_succ, List.getElem_cons_zero, List.setIfInBounds_toArray, List.set_cons_zero, List.set_cons_succ]
                refine wpAnyH_ready (rs := [4]) (by kernel_rfl) (by simp) ?_
                refine (AllReadyH.cons rfl (fun K hK => ?_) AllReadyH.nil)
                refine joinL_run _ _ _ _ _ _ _ (by rfl) w6.heap.size (.slice (some ⟨y1.heap.size, 0, none⟩) 0 0) (.slice (some ⟨g, 0, none⟩) k c5) ([]) (A) (by rfl) (by rfl) ho2 (HTk.out.later hHeld2) hHeld2.size (by assumption) (by assumption) ?_
                intro v3 y3 ho3 hbb hfar
                have hHeld3 : (fun Wz : World => Below w6.heap.size w6 Wz) y3 := hHeld2.trans hbb
                have hu3 := hu2.far hfar (by
                  intro e
                  have e2 : y1.heap.size = w6.heap.size := by simpa [Value.ownBlock] using e
                  omega)
                clear hbb hfar
                go_simp
                refine hK.out _ _ hHeld3 (fun hHeldz => ?_)
                clear hK K hHeldz
                try simp only [Act.put, List.getElem_toArray, List.getElem_cons_succ, List.getElem_cons_zero, List.setIfInBounds_toArray, List.set_cons_zero, List.set_cons_succ]
                refine wpAnyH_ready (rs := [7]) (by kernel_rfl) (by simp) ?_
                refine (AllReadyH.cons rfl (fun K hK => ?_) AllReadyH.nil)
                refine joinL_run _ _ _ _ _ _ _ (by rfl) w6.heap.size (v3) (.slice (some ⟨w6.heap.size, 0, none⟩) 1 1) ([] ++ A) ([u]) (by rfl) (by rfl) ho3 hu3 hHeld3.size (by assumption) (by assumption) ?_
                intro v4 y4 ho4 hbb hfar
                have hHeld4 : (fun Wz : World => Below w6.heap.size w6 Wz) y4 := hHeld3.trans hbb
                clear hbb hfar
                go_simp
                refine hK.out _ _ hHeld4 (fun hHeldz => ?_)
                clear hK K hHeldz
                try simp only [Act.put, List.getElem_toArray, List.getElem_cons_succ, List.getElem_cons_zero, List.setIfInBounds_toArray, List.set_cons_zero, List.set_cons_succ]
                refine wpAnyH_ready (rs := [11]) (by kernel_rfl) (by simp) ?_
                refine (AllReadyH.cons rfl (fun K hK => ?_) AllReadyH.nil)
                refine joinL_run _ _ _ _ _ _ _ (by rfl) w6.heap.size (v4) (.slice (some ad) (R.length - k) (c5 - k)) ([] ++ A ++ [u]) (D) (by rfl) (by rfl) ho4 (HTd.out.later hHeld4) hHeld4.size (by assumption) (by assumption) ?_
                intro v5 y5 ho5 hbb hfar
                have hHeld5 : (fun Wz : World => Below w6.heap.size w6 Wz) y5 := hHeld4.trans hbb
                clear hbb hfar
                go_simp
                refine hK.out _ _ hHeld5 (fun hHeldz => ?_)
                clear hK K hHeldz
                try simp only [Act.put, List.getElem_toArray, List.getElem_cons_succ, List.getElem_cons_zero, List.setIfInBounds_toArray, List.set_cons_zero, List.set_cons_succ]
                refine wpAnyH_take (i := 12) (v := v5) rfl (by kernel_rfl) (by kernel_rfl) (by kernel_rfl) (fun _ _ _ h => h) (Or.inl ⟨by kernel_rfl, ?_⟩) (by assumption) ?_
                case refine_1 => (intro Wz hSw; go_simp; try with_reducible rfl)
                try simp only [Act.put, List.getElem_toArray, List.getElem_cons_succ, List.getElem_cons_zero, List.setIfInBounds_toArray, List.set_cons_zero, List.set_cons_succ]
                refine wpAnyH_done (by kernel_rfl) ?_ _
                have HOf : Hid (y5.ownsRow w1.heap.size 9 1 v5 (A ++ u :: D).length (strs (A ++ u :: D))) := by
                  have h := World.ownsRow.mono ho5 hB'
                  rwa [show [] ++ A ++ [u] ++ D = A ++ u :: D by simp] at h
                have HBf := Lib.hid (HB6.out.trans (hHeld5.mono hB'))
                clear ho2 ho3 ho4 ho5 hu1 hu2 hu3 hHeld0 hHeld1 hHeld2 hHeld3 hHeld4 hHeld5 hgt1
                go_wp2_with fail
                refine ⟨⟨i + 1, hlt, rfl, rfl, by go_num, HST2, ?_, HBf⟩, by simp [RowKit.intOf]; omega⟩
                show World.ownsRow _ _ _ _ _ _ _
                rw [HI2.out]
                exact HOf.out


          · obtain ⟨g, rfl⟩ : ∃ g, a5 = some ⟨g, 0, none⟩ := by
              rcases HO6.out.2 with ⟨hv, hn⟩ | ⟨g, cap2, cur, hv, _⟩
              · omega
              · injection hv with e1 _ _
                exact ⟨g, e1⟩
            have hce := HO6.out.cellAt (k - 1) (by omega)
            rw [strs_get R (k - 1) (R.getD (k - 1) []) (by simp [List.getD, show k - 1 < R.length by omega])] at hce
            have hks : IntKind.i64.wrap ((k : Int) - 1) = ((k - 1 : Nat) : Int) := by rw [IntWalk.i64_in _ (by omega)]; omega
            have g2 : (0 : Int) ≤ ((k - 1 : Nat) : Int) := by omega
            have g3 : ((k - 1 : Nat) : Int) < (R.length : Int) := by omega
            have g4 : (0 : Int) < (k : Int) := by omega
            have g5 : ((k : Int) == 0) = false := by rw [beq_eq_false_iff_ne]; omega
            have hbl : Op.bytesLess (mkS (R.getD (k - 1) [])).toList (mkS u).toList = decide (R.getD (k - 1) [] < u) := by
              rw [toList_bs, toList_bs, bs_mkS, bs_mkS, bytesLess_eq]
            have hbe : ((mkS (R.getD (k - 1) [])).toList == (mkS u).toList) = decide (R.getD (k - 1) [] = u) := beq_mkS' _ _
            have HDs := Lib.hid (drop_stepV R (k - 1) (by omega) u)
            rw [show k - 1 + 1 = k by omega] at HDs
            have HIo := Lib.hid (HIold.out (k - 1) (by omega))
            have HIn := Lib.hid (fun h => HInew.out k hk HK.out (.inr h))
            have HNl := Lib.hid (notlt_le (R.getD (k - 1) []) u)
            generalize R.getD (k - 1) [] = y at *
            rcases hcs with hcs | ⟨hcs, hcs2 | hcs2⟩
            · have HD2 := Lib.hid (HDs.out hcs HK.out)
              rw [decide_eq_false (fun h => lt_irr _ (lt_tr h hcs))] at hbl
              rw [decide_eq_false (fun h => lt_irr _ (h ▸ hcs))] at hbe
              clear hcs
              go_wp2_with fail
              exact ⟨⟨k - 1, by omega, by go_num, HD2⟩, by simp [RowKit.intOf]; omega⟩
            · have HI2 := Lib.hid (HIo.out hcs2)
              rw [decide_eq_false (fun h => lt_irr _ (hcs2 ▸ h))] at hbl
              rw [decide_eq_true hcs2] at hbe
              have hbn : ((mkS y).toList != (mkS u).toList) = false := by unfold bne; rw [hbe]; rfl
              clear hcs hcs2
              go_wp2_with fail
              refine ⟨⟨i + 1, hlt, rfl, rfl, by go_num, HST2, ?_, HB6⟩, by simp [RowKit.intOf]; omega⟩
              show World.ownsRow _ _ _ _ _ _ _
              rw [HI2.out]
              exact HO6.out
            · have HI2 := Lib.hid (HIn.out (HNl.out hcs hcs2))
              rw [decide_eq_true (HNl.out hcs hcs2)] at hbl
              rw [decide_eq_false hcs2] at hbe
              have hbn : ((mkS y).toList != (mkS u).toList) = true := by unfold bne; rw [hbe]; rfl
              clear hcs hcs2
              go_wp2_with fail
              have hcp : R.length ≤ c5 := by
                rcases HO6.out.2 with ⟨hv, hn⟩ | ⟨g', cap2, cur, hv, hbase, hg, hc1, hc2, -⟩
                · cases hv
                · injection hv with e1 _ e2
                  omega
              have q2 : (k : Int) ≤ (c5 : Int) := by omega
              have q3 : (R.length : Int) ≤ (c5 : Int) := by omega
              have q4 : ¬ (k : Int) < 0 := by omega
              have q5 : (0 : Int) ≤ (k : Int) := by omega
              have q6 : (k : Int) ≤ (R.length : Int) := by omega
              obtain ⟨ad, had, had2⟩ : ∃ ad : Addr, (k < R.length → ad = ⟨g, k, none⟩) ∧ (if c5 = k then some (⟨g, 0, none⟩ : Addr) else some ⟨g, k, none⟩) = some ad := by
                by_cases h : c5 = k
                · exact ⟨⟨g, 0, none⟩, fun h2 => by omega, by rw [if_pos h]⟩
                · exact ⟨⟨g, k, none⟩, fun _ => rfl, by rw [if_neg h]⟩
              have HTk := Lib.hid (slS_take HO6.out rfl hk)
              have HTd := Lib.hid (slS_drop HO6.out rfl hk ad (c5 - k) had)
              clear had hcp
              obtain ⟨A, hA⟩ : ∃ A, A = R.take k := ⟨_, rfl⟩
              obtain ⟨D, hD⟩ : ∃ D, D = R.drop k := ⟨_, rfl⟩
              rw [← hA, ← hD] at HI2
              rw [← hA] at HTk
              rw [← hD] at HTd
              have hAl : A.length ≤ 1000000 := by rw [hA, List.length_take]; omega
              have hDl : D.length ≤ 1000000 := by rw [hD, List.length_drop]; omega
              clear hA hD
              have lz1 : ([] : List Bs).length ≤ 1048576 := Nat.zero_le _
              have lz2 : A.length ≤ 1048576 := by omega
              have lz3 : ([] ++ A).length ≤ 1048576 := by rw [List.nil_append]; omega
              have lz4 : [u].length ≤ 1048576 := by rw [List.length_singleton]; decide
              have lz5 : ([] ++ A ++ [u]).length ≤ 1048576 := by rw [List.nil_append, List.length_append, List.length_singleton]; omega
              have lz6 : D.length ≤ 1048576 := by omega
              clear hAl hDl
              have hHeld0 : (fun Wz : World => Below w6.heap.size w6 Wz) w6.drew := (Below.refl _ _).drew
              refine wp_region_held_drew (S := (fun Wz : World => Below w6.heap.size w6 Wz)) (by kernel_rfl) hHeld0 (fun hHeld => ?_)
              refine wpAnyH_take (i := 1) (v := (.slice (some ⟨g, 0, none⟩) R.length c5)) rfl (by kernel_rfl) (by kernel_rfl) (by kernel_rfl) (fun _ _ _ h => h) (Or.inl ⟨by kernel_rfl, ?_⟩) (by assumption) ?_
              case refine_1 => (intro Wz hSw; go_simp; try with_reducible rfl)
              try simp only [Act.put, List.getElem_toArray, List.getElem_cons_succ, List.getElem_cons_zero, List.setIfInBounds_toArray, List.set_cons_zero, List.set_cons_succ]
              refine wpAnyH_take (i := 2) (v := (.int .i64 k)) rfl (by kernel_rfl) (by kernel_rfl) (by kernel_rfl) (fun _ _ _ h => h) (Or.inl ⟨by kernel_rfl, ?_⟩) (by assumption) ?_
              case refine_1 => (intro Wz hSw; go_simp; try with_reducible rfl)
              try simp only [Act.put, List.getElem_toArray, List.getElem_cons_succ, List.getElem_cons_zero, List.setIfInBounds_toArray, List.set_cons_zero, List.set_cons_succ]
              refine wpAnyH_take (i := 3) (v := .slice (some ⟨g, 0, none⟩) k c5) rfl (by kernel_rfl) (by kernel_rfl) (by kernel_rfl) (fun _ _ _ h => h) (Or.inl ⟨by kernel_rfl, ?_⟩) (by assumption) ?_
              case refine_1 => (intro Wz hSw; go_simp; try with_reducible rfl)
              try simp only [Act.put, List.getElem_toArray, List.getElem_cons_succ, List.getElem_cons_zero, List.setIfInBounds_toArray, List.set_cons_zero, List.set_cons_succ]
              refine wpAnyH_take (i := 5) (v := (.string (mkS u))) rfl (by kernel_rfl) (by kernel_rfl) (by kernel_rfl) (fun _ _ _ h => h) (Or.inl ⟨by kernel_rfl, ?_⟩) (by assumption) ?_
              case refine_1 => (intro Wz hSw; go_simp; try with_reducible rfl)
              try simp only [Act.put, List.getElem_toArray, List.getElem_cons_succ, List.getElem_cons_zero, List.setIfInBounds_toArray, List.set_cons_zero, List.set_cons_succ]
              refine wpAnyH_take (i := 8) (v := (.slice (some ⟨g, 0, none⟩) R.length c5)) rfl (by kernel_rfl) (by kernel_rfl) (by kernel_rfl) (fun _ _ _ h => h) (Or.inl ⟨by kernel_rfl, ?_⟩) (by assumption) ?_
              case refine_1 => (intro Wz hSw; go_simp; try with_reducible rfl)
              try simp only [Act.put, List.getElem_toArray, List.getElem_cons_succ, List.getElem_cons_zero, List.setIfInBounds_toArray, List.set_cons_zero, List.set_cons_succ]
              refine wpAnyH_take (i := 9) (v := (.int .i64 k)) rfl (by kernel_rfl) (by kernel_rfl) (by kernel_rfl) (fun _ _ _ h => h) (Or.inl ⟨by kernel_rfl, ?_⟩) (by assumption) ?_
              case refine_1 => (intro Wz hSw; go_simp; try with_reducible rfl)
              try simp only [Act.put, List.getElem_toArray, List.getElem_cons_succ, List.getElem_cons_zero, List.setIfInBounds_toArray, List.set_cons_zero, List.set_cons_succ]
              refine wpAnyH_take (i := 10) (v := .slice (some ad) (R.length - k) (c5 - k)) rfl (by kernel_rfl) (by kernel_rfl) (by kernel_rfl) (fun _ _ _ h => h) (Or.inl ⟨by kernel_rfl, ?_⟩) (by assumption) ?_
              case refine_1 => (intro Wz hSw; go_simp; try with_reducible rfl)
              try simp only [Act.put, List.getElem_toArray, List.getElem_cons_succ, List.getElem_cons_zero, List.setIfInBounds_toArray, List.set_cons_zero, List.set_cons_succ]
              refine wpAnyH_ready (rs := [0, 6]) (by kernel_rfl) (by simp) ?_
              refine (AllReadyH.cons rfl (fun K hK => ?_) (AllReadyH.cons rfl (fun K hK => ?_) AllReadyH.nil))
              · go_simp
                have ho1 : ((w6.alloc (Obj.cells #[] 9)).drew).ownsRow w6.heap.size 9 1 (.slice (some ⟨w6.heap.size, 0, none⟩) 0 0) ([] : List Bs).length (strs []) := own_keep (World.ownsRow_lit (base := w6.heap.size) (e := 9) (size := 1) w6 #[] 0 (Nat.le_refl _) (by decide) rfl) (Below.refl _ _).drew
                have hHeld1 : (fun Wz : World => Below w6.heap.size w6 Wz) ((w6.alloc (Obj.cells #[] 9)).drew) := ((Below.refl _ _).alloc (Nat.le_refl _) _).drew
                have hgt1 : w6.heap.size < ((w6.alloc (Obj.cells #[] 9)).drew).heap.size := by simp
                generalize (w6.alloc (Obj.cells #[] 9)).drew = y1 at *
                refine hK.out _ _ hHeld1 (fun hHeldz => ?_)
                clear hK K hHeldz
                try simp only [Act.put, List.getElem_toArray, List.getElem_cons_succ, List.getElem_cons_zero, List.setIfInBounds_toArray, List.set_cons_zero, List.set_cons_succ]
                refine wpAnyH_ready (rs := [4, 6]) (by kernel_rfl) (by simp) ?_
                refine (AllReadyH.cons rfl (fun K hK => ?_) (AllReadyH.cons rfl (fun K hK => ?_) AllReadyH.nil))
                · refine joinL_run _ _ _ _ _ _ _ (by rfl) w6.heap.size (.slice (some ⟨w6.heap.size, 0, none⟩) 0 0) (.slice (some ⟨g, 0, none⟩) k c5) ([]) (A) (by rfl) (by rfl) ho1 (HTk.out.later hHeld1) hHeld1.size (by assumption) (by assumption) ?_
                  intro v2 y2 ho2 hbb hfar
                  have hHeld2 : (fun Wz : World => Below w6.heap.size w6 Wz) y2 := hHeld1.trans hbb
                  clear hbb hfar
                  go_simp
                  refine hK.out _ _ hHeld2 (fun hHeldz => ?_)
                  clear hK K hHeldz
                  try simp only [Act.put, List.getElem_toArray, List.getElem_cons_succ, List.getElem_cons_zero, List.setIfInBounds_toArray, List.set_cons_zero, List.set_cons_succ]
                  refine wpAnyH_ready (rs := [6]) (by kernel_rfl) (by simp) ?_
                  refine (AllReadyH.cons rfl (fun K hK => ?_) AllReadyH.nil)
                  go_simp
                  have hbb : Below y2.heap.size y2 (y2.alloc (Obj.cells #[.string (mkS u)] 9)) := (Below.refl _ _).alloc (Nat.le_refl _) _
                  have hu3 := slS_new y2 u
                  have ho3 := own_keep ho2 hbb
                  have hHeld3 : (fun Wz : World => Below w6.heap.size w6 Wz) (y2.alloc (Obj.cells #[.string (mkS u)] 9)) := hHeld2.trans (hbb.mono hHeld2.size)
                  clear hbb
                  generalize y2.alloc (Obj.cells #[.string (mkS u)] 9) = y3 at *
                  refine hK.out _ _ hHeld3 (fun hHeldz => ?_)
                  clear hK K hHeldz
                  try simp only [Act.put, List.getElem_toArray, List.getElem_cons_succ, List.getElem_cons_zero, List.setIfInBounds_toArray, List.set_cons_zero, List.set_cons_succ]
                  refine wpAnyH_ready (rs := [7]) (by kernel_rfl) (by simp) ?_
                  refine (AllReadyH.cons rfl (fun K hK => ?_) AllReadyH.nil)
                  refine joinL_run _ _ _ _ _ _ _ (by rfl) w6.heap.size (v2) (.slice (some ⟨y2.heap.size, 0, none⟩) 1 1) ([] ++ A) ([u]) (by rfl) (by rfl) ho3 hu3 hHeld3.size (by assumption) (by assumption) ?_
                  intro v4 y4 ho4 hbb hfar
                  have hHeld4 : (fun Wz : World => Below w6.heap.size w6 Wz) y4 := hHeld3.trans hbb
                  clear hbb hfar
                  go_simp
                  refine hK.out _ _ hHeld4 (fun hHeldz => ?_)
                  clear hK K hHeldz
                  try simp only [Act.put, List.getElem_toArray, List.getElem_cons_succ, List.getElem_cons_zero, List.setIfInBounds_toArray, List.set_cons_zero, List.set_cons_succ]
                  refine wpAnyH_ready (rs := [11]) (by kernel_rfl) (by simp) ?_
                  refine (AllReadyH.cons rfl (fun K hK => ?_) AllReadyH.nil)
                  refine joinL_run _ _ _ _ _ _ _ (by rfl) w6.heap.size (v4) (.slice (some ad) (R.length - k) (c5 - k)) ([] ++ A ++ [u]) (D) (by rfl) (by rfl) ho4 (HTd.out.later hHeld4) hHeld4.size (by assumption) (by assumption) ?_
                  intro v5 y5 ho5 hbb hfar
                  have hHeld5 : (fun Wz : World => Below w6.heap.size w6 Wz) y5 := hHeld4.trans hbb
                  clear hbb hfar
                  go_simp
                  refine hK.out _ _ hHeld5 (fun hHeldz => ?_)
                  clear hK K hHeldz
                  try simp only [Act.put, List.getElem_toArray, List.getElem_cons_succ, List.getElem_cons_zero, List.setIfInBounds_toArray, List.set_cons_zero, List.set_cons_succ]
                  refine wpAnyH_take (i := 12) (v := v5) rfl (by kernel_rfl) (by kernel_rfl) (by kernel_rfl) (fun _ _ _ h => h) (Or.inl ⟨by kernel_rfl, ?_⟩) (by assumption) ?_
                  case refine_1 => (intro Wz hSw; go_simp; try with_reducible rfl)
                  try simp only [Act.put, List.getElem_toArray, List.getElem_cons_succ, List.getElem_cons_zero, List.setIfInBounds_toArray, List.set_cons_zero, List.set_cons_succ]
                  refine wpAnyH_done (by kernel_rfl) ?_ _
                  have HOf : Hid (y5.ownsRow w1.heap.size 9 1 v5 (A ++ u :: D).length (strs (A ++ u :: D))) := by
                    have h := World.ownsRow.mono ho5 hB'
                    rwa [show [] ++ A ++ [u] ++ D = A ++ u :: D by simp] at h
                  have HBf := Lib.hid (HB6.out.trans (hHeld5.mono hB'))
                  clear ho1 ho2 ho3 ho4 ho5 hu3 hHeld0 hHeld1 hHeld2 hHeld3 hHeld4 hHeld5 hgt1
                  go_wp2_with fail
                  refine ⟨⟨i + 1, hlt, rfl, rfl, by go_num, HST2, ?_, HBf⟩, by simp [RowKit.intOf]; omega⟩
                  show World.ownsRow _ _ _ _ _ _ _
                  rw [HI2.out]
                  exact HOf.out

                · go_simp
                  have hbb : Below y1.heap.size y1 (y1.alloc (Obj.cells #[.string (mkS u)] 9)) := (Below.refl _ _).alloc (Nat.le_refl _) _
                  have hu2 := slS_new y1 u
                  have ho2 := own_keep ho1 hbb
                  have hHeld2 : (fun Wz : World => Below w6.heap.size w6 Wz) (y1.alloc (Obj.cells #[.string (mkS u)] 9)) := hHeld1.trans (hbb.mono hHeld1.size)
                  clear hbb
                  generalize y1.alloc (Obj.cells #[.string (mkS u)] 9) = y2 at *
                  refine hK.out _ _ hHeld2 (fun hHeldz => ?_)
                  clear hK K hHeldz
                  try simp only [Act.put, List.getElem_toArray, List.getElem_cons_succ, List.getElem_cons_zero, List.setIfInBounds_toArray, List.set_cons_zero, List.set_cons_succ]
                  refine wpAnyH_ready (rs := [4]) (by kernel_rfl) (by simp) ?_
                  refine (AllReadyH.cons rfl (fun K hK => ?_) AllReadyH.nil)
                  refine joinL_run _ _ _ _ _ _ _ (by rfl) w6.heap.size (.slice (some ⟨w6.heap.size, 0, none⟩) 0 0) (.slice (some ⟨g, 0, none⟩) k c5) ([]) (A) (by rfl) (by rfl) ho2 (HTk.out.later hHeld2) hHeld2.size (by assumption) (by assumption) ?_
                  intro v3 y3 ho3 hbb hfar
                  have hHeld3 : (fun Wz : World => Below w6.heap.size w6 Wz) y3 := hHeld2.trans hbb
                  have hu3 := hu2.far hfar (by
                    intro e
                    have e2 : w6.heap.size = y1.heap.size := by simpa [Value.ownBlock] using e
                    omega)
                  clear hbb hfar
                  go_simp
                  refine hK.out _ _ hHeld3 (fun hHeldz => ?_)
                  clear hK K hHeldz
                  try simp only [Act.put, List.getElem_toArray, List.getElem_cons_succ, List.getElem_cons_zero, List.setIfInBounds_toArray, List.set_cons_zero, List.set_cons_succ]
                  refine wpAnyH_ready (rs := [7]) (by kernel_rfl) (by simp) ?_
                  refine (AllReadyH.cons rfl (fun K hK => ?_) AllReadyH.nil)
                  refine joinL_run _ _ _ _ _ _ _ (by rfl) w6.heap.size (v3) (.slice (some ⟨y1.heap.size, 0, none⟩) 1 1) ([] ++ A) ([u]) (by rfl) (by rfl) ho3 hu3 hHeld3.size (by assumption) (by assumption) ?_
                  intro v4 y4 ho4 hbb hfar
                  have hHeld4 : (fun Wz : World => Below w6.heap.size w6 Wz) y4 := hHeld3.trans hbb
                  clear hbb hfar
                  go_simp
                  refine hK.out _ _ hHeld4 (fun hHeldz => ?_)
                  clear hK K hHeldz
                  try simp only [Act.put, List.getElem_toArray, List.getElem_cons_succ, List.getElem_cons_zero, List.setIfInBounds_toArray, List.set_cons_zero, List.set_cons_succ]
                  refine wpAnyH_ready (rs := [11]) (by kernel_rfl) (by simp) ?_
                  refine (AllReadyH.cons rfl (fun K hK => ?_) AllReadyH.nil)
                  refine joinL_run _ _ _ _ _ _ _ (by rfl) w6.heap.size (v4) (.slice (some ad) (R.length - k) (c5 - k)) ([] ++ A ++ [u]) (D) (by rfl) (by rfl) ho4 (HTd.out.later hHeld4) hHeld4.size (by assumption) (by assumption) ?_
                  intro v5 y5 ho5 hbb hfar
                  have hHeld5 : (fun Wz : World => Below w6.heap.size w6 Wz) y5 := hHeld4.trans hbb
                  clear hbb hfar
                  go_simp
                  refine hK.out _ _ hHeld5 (fun hHeldz => ?_)
                  clear hK K hHeldz
                  try simp only [Act.put, List.getElem_toArray, List.getElem_cons_succ, List.getElem_cons_zero, List.setIfInBounds_toArray, List.set_cons_zero, List.set_cons_succ]
                  refine wpAnyH_take (i := 12) (v := v5) rfl (by kernel_rfl) (by kernel_rfl) (by kernel_rfl) (fun _ _ _ h => h) (Or.inl ⟨by kernel_rfl, ?_⟩) (by assumption) ?_
                  case refine_1 => (intro Wz hSw; go_simp; try with_reducible rfl)
                  try simp only [Act.put, List.getElem_toArray, List.getElem_cons_succ, List.getElem_cons_zero, List.setIfInBounds_toArray, List.set_cons_zero, List.set_cons_succ]
                  refine wpAnyH_done (by kernel_rfl) ?_ _
                  have HOf : Hid (y5.ownsRow w1.heap.size 9 1 v5 (A ++ u :: D).length (strs (A ++ u :: D))) := by
                    have h := World.ownsRow.mono ho5 hB'
                    rwa [show [] ++ A ++ [u] ++ D = A ++ u :: D by simp] at h
                  have HBf := Lib.hid (HB6.out.trans (hHeld5.mono hB'))
                  clear ho1 ho2 ho3 ho4 ho5 hu2 hu3 hHeld0 hHeld1 hHeld2 hHeld3 hHeld4 hHeld5 hgt1
                  go_wp2_with fail
                  refine ⟨⟨i + 1, hlt, rfl, rfl, by go_num, HST2, ?_, HBf⟩, by simp [RowKit.intOf]; omega⟩
                  show World.ownsRow _ _ _ _ _ _ _
                  rw [HI2.out]
                  exact HOf.out


              · go_simp
                have hu1 : SlS ((w6.alloc (Obj.cells #[.string (mkS u)] 9)).drew) (.slice (some ⟨w6.heap.size, 0, none⟩) 1 1) [u] := (slS_new w6 u).later (Below.refl _ _).drew
                have hHeld1 : (fun Wz : World => Below w6.heap.size w6 Wz) ((w6.alloc (Obj.cells #[.string (mkS u)] 9)).drew) := ((Below.refl _ _).alloc (Nat.le_refl _) _).drew
                have hgt1 : w6.heap.size < ((w6.alloc (Obj.cells #[.string (mkS u)] 9)).drew).heap.size := by simp
                generalize (w6.alloc (Obj.cells #[.string (mkS u)] 9)).drew = y1 at *
                refine hK.out _ _ hHeld1 (fun hHeldz => ?_)
                clear hK K hHeldz
                try simp only [Act.put, List.getElem_toArray, List.getElem_cons_succ, List.getElem_cons_zero, List.setIfInBounds_toArray, List.set_cons_zero, List.set_cons_succ]
                refine wpAnyH_ready (rs := [0]) (by kernel_rfl) (by simp) ?_
                refine (AllReadyH.cons rfl (fun K hK => ?_) AllReadyH.nil)
                go_simp
                have hbb : Below y1.heap.size y1 (y1.alloc (Obj.cells #[] 9)) := (Below.refl _ _).alloc (Nat.le_refl _) _
                have hu2 := hu1.later hbb
                have ho2 : (y1.alloc (Obj.cells #[] 9)).ownsRow w6.heap.size 9 1 (.slice (some ⟨y1.heap.size, 0, none⟩) 0 0) ([] : List Bs).length (strs []) := World.ownsRow_lit (base := w6.heap.size) (e := 9) (size := 1) y1 #[] 0 (Nat.le_of_lt hgt1) (by decide) rfl
                have hHeld2 : (fun Wz : World => Below w6.heap.size w6 Wz) (y1.alloc (Obj.cells #[] 9)) := hHeld1.trans (hbb.mono hHeld1.size)
                clear hbb
                generalize y1.alloc (Obj.cells #[] 9) = y2 at *
                refine hK.out _ _ hHeld2 (fun hHeldz => ?_)
                clear hK K hHeldz
                try simp only [Act.put, List.getElem_toArray, List.getElem_cons_succ, List.getElem_cons_zero, List.setIfInBounds_toArray, List.set_cons_zero, List.set_cons_succ]
                refine wpAnyH_ready (rs := [4]) (by kernel_rfl) (by simp) ?_
                refine (AllReadyH.cons rfl (fun K hK => ?_) AllReadyH.nil)
                refine joinL_run _ _ _ _ _ _ _ (by rfl) w6.heap.size (.slice (some ⟨y1.heap.size, 0, none⟩) 0 0) (.slice (some ⟨g, 0, none⟩) k c5) ([]) (A) (by rfl) (by rfl) ho2 (HTk.out.later hHeld2) hHeld2.size (by assumption) (by assumption) ?_
                intro v3 y3 ho3 hbb hfar
                have hHeld3 : (fun Wz : World => Below w6.heap.size w6 Wz) y3 := hHeld2.trans hbb
                have hu3 := hu2.far hfar (by
                  intro e
                  have e2 : y1.heap.size = w6.heap.size := by simpa [Value.ownBlock] using e
                  omega)
                clear hbb hfar
                go_simp
                refine hK.out _ _ hHeld3 (fun hHeldz => ?_)
                clear hK K hHeldz
                try simp only [Act.put, List.getElem_toArray, List.getElem_cons_succ, List.getElem_cons_zero, List.setIfInBounds_toArray, List.set_cons_zero, List.set_cons_succ]
                refine wpAnyH_ready (rs := [7]) (by kernel_rfl) (by simp) ?_
                refine (AllReadyH.cons rfl (fun K hK => ?_) AllReadyH.nil)
                refine joinL_run _ _ _ _ _ _ _ (by rfl) w6.heap.size (v3) (.slice (some ⟨w6.heap.size, 0, none⟩) 1 1) ([] ++ A) ([u]) (by rfl) (by rfl) ho3 hu3 hHeld3.size (by assumption) (by assumption) ?_
                intro v4 y4 ho4 hbb hfar
                have hHeld4 : (fun Wz : World => Below w6.heap.size w6 Wz) y4 := hHeld3.trans hbb
                clear hbb hfar
                go_simp
                refine hK.out _ _ hHeld4 (fun hHeldz => ?_)
                clear hK K hHeldz
                try simp only [Act.put, List.getElem_toArray, List.getElem_cons_succ, List.getElem_cons_zero, List.setIfInBounds_toArray, List.set_cons_zero, List.set_cons_succ]
                refine wpAnyH_ready (rs := [11]) (by kernel_rfl) (by simp) ?_
                refine (AllReadyH.cons rfl (fun K hK => ?_) AllReadyH.nil)
                refine joinL_run _ _ _ _ _ _ _ (by rfl) w6.heap.size (v4) (.slice (some ad) (R.length - k) (c5 - k)) ([] ++ A ++ [u]) (D) (by rfl) (by rfl) ho4 (HTd.out.later hHeld4) hHeld4.size (by assumption) (by assumption) ?_
                intro v5 y5 ho5 hbb hfar
                have hHeld5 : (fun Wz : World => Below w6.heap.size w6 Wz) y5 := hHeld4.trans hbb
                clear hbb hfar
                go_simp
                refine hK.out _ _ hHeld5 (fun hHeldz => ?_)
                clear hK K hHeldz
                try simp only [Act.put, List.getElem_toArray, List.getElem_cons_succ, List.getElem_cons_zero, List.setIfInBounds_toArray, List.set_cons_zero, List.set_cons_succ]
                refine wpAnyH_take (i := 12) (v := v5) rfl (by kernel_rfl) (by kernel_rfl) (by kernel_rfl) (fun _ _ _ h => h) (Or.inl ⟨by kernel_rfl, ?_⟩) (by assumption) ?_
                case refine_1 => (intro Wz hSw; go_simp; try with_reducible rfl)
                try simp only [Act.put, List.getElem_toArray, List.getElem_cons_succ, List.getElem_cons_zero, List.setIfInBounds_toArray, List.set_cons_zero, List.set_cons_succ]
                refine wpAnyH_done (by kernel_rfl) ?_ _
                have HOf : Hid (y5.ownsRow w1.heap.size 9 1 v5 (A ++ u :: D).length (strs (A ++ u :: D))) := by
                  have h := World.ownsRow.mono ho5 hB'
                  rwa [show [] ++ A ++ [u] ++ D = A ++ u :: D by simp] at h
                have HBf := Lib.hid (HB6.out.trans (hHeld5.mono hB'))
                clear ho2 ho3 ho4 ho5 hu1 hu2 hu3 hHeld0 hHeld1 hHeld2 hHeld3 hHeld4 hHeld5 hgt1
                go_wp2_with fail
                refine ⟨⟨i + 1, hlt, rfl, rfl, by go_num, HST2, ?_, HBf⟩, by simp [RowKit.intOf]; omega⟩
                show World.ownsRow _ _ _ _ _ _ _
                rw [HI2.out]
                exact HOf.out


    · have hil : Q.take i = Q := List.take_of_length_le (by omega)
      rw [hil] at HO HSt
      have hd : decide ([42] ∈ Q) = false := decide_eq_false HSt.out
      have hnm : nmsV Q = setL12 (Q.map lowL) := by unfold nmsV; rw [if_neg HSt.out]
      have HD := Lib.hid hd
      have HNM := Lib.hid hnm
      have HBF := Lib.hid (HB1.out.trans (HB.out.mono HB1.out.size))
      have HOF := Lib.hid (World.ownsRow.mono HO.out HB1.out.size)
      clear hil hd hnm
      go_wp2_with fail
      go_ret2
      exact ⟨_, by rw [HD.out]; rfl, by rw [HNM.out]; exact HOF.out, HBF.out⟩
end Tk
end Go.Proofs.YthooghgiokgdhaaGreatDoor
