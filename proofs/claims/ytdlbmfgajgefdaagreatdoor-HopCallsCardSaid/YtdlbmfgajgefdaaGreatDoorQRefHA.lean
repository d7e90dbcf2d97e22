/- The document's own Strip (layer 7). -/
import Derived.Test.YtdlbmfgajgefdaaGreatDoorQRefH9
import Derived.Test.YtdlbmfgajgefdaaGreatDoorQH
import Derived.Test.YtdlbmfgajgefdaaGreatDoorQD
namespace Go.Proofs.YtdlbmfgajgefdaaGreatDoor
open Go.RowKit
namespace Tk

/-- is this field's name one of the seven, or among the first k that Connection names? -/
def goneK (Q : List Bs) (n : Bs) (k : Nat) : Bool := isHop n || (Q.take k).any fun y => decide (lowL y = lowL n)
theorem goneK_next (Q : List Bs) (n : Bs) (k : Nat) (h : k < Q.length) : goneK Q n (k + 1) = (goneK Q n k || decide (lowL (Q.getD k []) = lowL n)) := by
  unfold goneK
  rw [List.take_succ_eq_append_getElem h, List.any_append, Bool.or_assoc]
  simp [List.getD, h]
theorem goneK_end (l : List (Bs × Bs)) (f : Bs × Bs) : goneK (listF l cnB) f.1 (listF l cnB).length = inS (goneS [] l) f := by
  unfold goneK isHop inS goneS optS
  rw [List.take_length, Bool.eq_iff_iff]
  simp [List.any_eq_true]

set_option maxHeartbeats 32000000 in
set_option maxRecDepth 100000 in
theorem rstrip_any (v : Value) (l : List (Bs × Bs)) (w : World) (hs : IsFlds w v l) (hz : sumF l ≤ 900000) (hl : l.length ≤ 1048570) :
    Calls Tryz.prog 16 #[v] w (OwnPost (stripL l) w) := by
  have HS := Lib.hid hs
  have HLi := Lib.hid (rlist_any _ l cnB _ hs (by omega) (by decide) (by omega))
  obtain ⟨a, cap, rfl⟩ : ∃ a cap, v = .slice a l.length cap := by obtain ⟨a, c, h, -⟩ := hs; exact ⟨a, c, h⟩
  have HZ := Lib.hid (fun f hf => Nat.le_trans (sumF_mem l f hf) hz)
  have HP := Lib.hid (fun x hx => Nat.le_trans (listF_piece cnB l x hx) hz)
  have hQl : (listF l cnB).length ≤ 900000 := Nat.le_trans (listF_len cnB l) hz
  have HE := Lib.hid (goneK_end l)
  have HSt : Hid (stripL l = wipe (goneS [] l) l) := rfl
  unfold OwnPost
  unfold ListPost at HLi
  clear hs hz
  generalize goneS [] l = G at *
  generalize listF l cnB = Q at *
  go_enter Tryz.func16, Tryz.ntmps16
  go_wp2_with fail
  refine HLi.out.mono ?_
  rintro e w1 ⟨v1, rfl, ho, hb⟩
  have HI1 := Lib.hid (isStrs_own ho)
  have HF1 := Lib.hid (isFlds_below HS.out hb)
  obtain ⟨a1, c1, rfl⟩ : ∃ a c, v1 = .slice a Q.length c := by obtain ⟨a, c, h, -⟩ := isStrs_own ho; exact ⟨a, c, h⟩
  have HB1 := Lib.hid hb
  clear ho hb HLi HS
  go_wp2_with fail
  go_loopw [4, 5] (fun v4 vi wr => ∃ i : Nat, i ≤ l.length ∧ vi = .int .i64 i ∧ Hid (wr.ownsRow w1.heap.size 32 2 v4 (wipe G (l.take i)).length (fcells (wipe G (l.take i)))) ∧ Hid (Below w1.heap.size w1 wr)) (fun _ vi _ => l.length - (RowKit.intOf vi).toNat)
  case atStart => exact ⟨0, Nat.zero_le _, rfl, World.ownsRow_nil _ _ _ _, Below.refl _ _⟩
  case round =>
    obtain ⟨i, hi, rfl, HO, HB⟩ := hrel
    rename World => W
    by_cases hlt : i < l.length
    · obtain ⟨a', c', e', hcap, hc⟩ := isFlds_below HF1.out HB.out
      injection e' with e1 _ e2
      subst e1 e2
      obtain ⟨b, o, rfl, hc0, hc1⟩ := hc i (l.getD i ([], [])) (by simp [List.getD, hlt])
      have hmem : l.getD i ([], []) ∈ l := by simp [List.getD, hlt]
      have hfz := HZ.out _ hmem
      have htk : l.take (i + 1) = l.take i ++ [l.getD i ([], [])] := by
        rw [List.take_succ_eq_append_getElem hlt]; simp [List.getD, hlt]
      have hsn := wipe_snoc G (l.take i) (l.getD i ([], []))
      rw [← htk] at hsn
      have hge := HE.out (l.getD i ([], []))
      have hwl : (wipe G (l.take i)).length ≤ 1048570 := Nat.le_trans (wipe_len _ _) (by rw [List.length_take]; omega)
      clear hc hmem htk
      generalize l.getD i ([], []) = f at *
      obtain ⟨n, x⟩ := f
      simp only at hc0 hc1 hfz hge
      have HSn := Lib.hid hsn
      have HGe := Lib.hid hge
      have HH := Lib.hid (rhop_any n W (by omega))
      have HG0 : Hid (isHop n = goneK Q n 0) := by show _ = _; unfold goneK; simp
      have HGn := Lib.hid (goneK_next Q n)
      rw [HG0.out] at HH
      have HSm : Hid (∀ (y : Bs) (Wz : World), y.length ≤ 900000 → Calls Tryz.prog 60 #[.string (mkS y), .string (mkS n)] Wz fun e w' => e = .returned (.bool (decide (lowL y = lowL n))) ∧ Below Wz.heap.size Wz w') := fun y Wz hy => by
        have h := rsm_any (mkS y) (mkS n) Wz (by rw [size_mkS]; omega) (by rw [size_mkS]; omega)
        rw [bs_mkS, bs_mkS] at h
        exact h
      have g0 : (0 : Int) ≤ (i : Int) := by omega
      have g1 : (i : Int) < (l.length : Int) := by omega
      clear hsn hge hfz HG0
      go_wp2_with fail
      refine HH.out.mono ?_
      rintro e w2 ⟨rfl, hb⟩
      have HB2 := Lib.hid (HB.out.trans (hb.mono HB.out.size))
      have HO2 := Lib.hid (own_keep2f HO.out hb)
      have k0 := (hb.cell (p := ⟨b, o + i * 2, none⟩) (cell_lt (p := ⟨b, o + i * 2, none⟩) hc0)).trans hc0
      have k1 := (hb.cell (p := ⟨b, o + i * 2 + 1, none⟩) (cell_lt (p := ⟨b, o + i * 2 + 1, none⟩) hc1)).trans hc1
      clear hb hc0 hc1 HH HO HB
      go_wp2_with fail
      go_loopw [6, 7] (fun v6 vk wr => ∃ k : Nat, k ≤ Q.length ∧ v6 = .bool (goneK Q n k) ∧ vk = .int .i64 k ∧ Hid (Below w2.heap.size w2 wr)) (fun _ vk _ => Q.length - (RowKit.intOf vk).toNat)
      case atStart => exact ⟨0, Nat.zero_le _, rfl, rfl, Below.refl _ _⟩
      case round =>
        obtain ⟨k, hk, rfl, rfl, HBk⟩ := hrel
        rename World => W2
        by_cases hkl : k < Q.length
        · obtain ⟨a2, c2, e', hc⟩ := isStrs_below9 HI1.out HB2.out
          injection e' with e1 _ e2
          subst e1 e2
          obtain ⟨b2, o2, rfl, hcy⟩ := hc k (Q.getD k []) (by simp [List.getD, hkl])
          have hyl := HP.out (Q.getD k []) (by simp [List.getD, hkl])
          have HNk := Lib.hid (HGn.out k hkl)
          have HSy := Lib.hid (fun Wz : World => HSm.out (Q.getD k []) Wz hyl)
          clear hc hyl
          generalize Q.getD k [] = y at *
          have g2 : (0 : Int) ≤ (k : Int) := by omega
          have g3 : (k : Int) < (Q.length : Int) := by omega
          cases hgk : goneK Q n k
          · rw [hgk, Bool.false_or] at HNk
            clear hgk
            go_wp2_with fail
            refine wp_plan (fun _ Wz => Below w2.heap.size w2 Wz) 14 (by kernel_rfl) (by kernel_rfl) HBk.out.drew rfl ?_
            refine plan_val (i := 0) (v := ?_) rfl (by kernel_rfl) (by kernel_rfl) (by rfl) (by kernel_rfl) (fun bb Wz hSw => ?_) ?_
            case refine_2 => (go_simp; try with_reducible rfl)
            try simp only [Act.put, List.getElem_toArray, List.getElem_cons_zero, List.setIfInBounds_toArray, List.set_cons_zero, List.set_cons_succ]
            refine plan_val (i := 1) (v := ?_) rfl (by kernel_rfl) (by kernel_rfl) (by rfl) (by kernel_rfl) (fun bb Wz hSw => ?_) ?_
            case refine_2 => (go_simp; try with_reducible rfl)
            try simp only [Act.put, List.getElem_toArray, List.getElem_cons_succ, List.getElem_cons_zero, List.setIfInBounds_toArray, List.set_cons_zero, List.set_cons_succ]
            refine plan_val (i := 2) (v := ?_) rfl (by kernel_rfl) (by kernel_rfl) (by rfl) (by kernel_rfl) (fun bb Wz hSw => ?_) ?_
            case refine_2 => (go_simp; try with_reducible rfl)
            try simp only [Act.put, List.getElem_toArray, List.getElem_cons_succ, List.getElem_cons_zero, List.setIfInBounds_toArray, List.set_cons_zero, List.set_cons_succ]
            refine plan_val (i := 3) (v := ?_) rfl (by kernel_rfl) (by kernel_rfl) (by rfl) (by kernel_rfl) (fun bb Wz hSw => ?_) ?_
            case refine_2 => (go_simp; try with_reducible rfl)
            try simp only [Act.put, List.getElem_toArray, List.getElem_cons_succ, List.getElem_cons_zero, List.setIfInBounds_toArray, List.set_cons_zero, List.set_cons_succ]
            refine plan_val (i := 4) (v := ?_) rfl (by kernel_rfl) (by kernel_rfl) (by rfl) (by kernel_rfl) (fun bb Wz hSw => ?_) ?_
            case refine_2 => (go_simp; try with_reducible rfl)
            try simp only [Act.put, List.getElem_toArray, List.getElem_cons_succ, List.getElem_cons_zero, List.setIfInBounds_toArray, List.set_cons_zero, List.set_cons_succ]
            refine plan_val (i := 5) (v := ?_) rfl (by kernel_rfl) (by kernel_rfl) (by rfl) (by kernel_rfl) (fun bb Wz hSw => ?_) ?_
            case refine_2 => (have u := ((show Below w2.heap.size w2 Wz from hSw).cell (p := ⟨b2, o2 + k, none⟩) (cell_lt (p := ⟨b2, o2 + k, none⟩) hcy)).trans hcy; go_simp; try with_reducible rfl)
            try simp only [Act.put, List.getElem_toArray, List.getElem_cons_succ, List.getElem_cons_zero, List.setIfInBounds_toArray, List.set_cons_zero, List.set_cons_succ]
            refine plan_val (i := 6) (v := ?_) rfl (by kernel_rfl) (by kernel_rfl) (by rfl) (by kernel_rfl) (fun bb Wz hSw => ?_) ?_
            case refine_2 => (go_simp; try with_reducible rfl)
            try simp only [Act.put, List.getElem_toArray, List.getElem_cons_succ, List.getElem_cons_zero, List.setIfInBounds_toArray, List.set_cons_zero, List.set_cons_succ]
            refine plan_val (i := 7) (v := ?_) rfl (by kernel_rfl) (by kernel_rfl) (by rfl) (by kernel_rfl) (fun bb Wz hSw => ?_) ?_
            case refine_2 => (go_simp; try with_reducible rfl)
            try simp only [Act.put, List.getElem_toArray, List.getElem_cons_succ, List.getElem_cons_zero, List.setIfInBounds_toArray, List.set_cons_zero, List.set_cons_succ]
            refine plan_val (i := 8) (v := ?_) rfl (by kernel_rfl) (by kernel_rfl) (by rfl) (by kernel_rfl) (fun bb Wz hSw => ?_) ?_
            case refine_2 => (go_simp; try with_reducible rfl)
            try simp only [Act.put, List.getElem_toArray, List.getElem_cons_succ, List.getElem_cons_zero, List.setIfInBounds_toArray, List.set_cons_zero, List.set_cons_succ]
            refine plan_val (i := 9) (v := ?_) rfl (by kernel_rfl) (by kernel_rfl) (by rfl) (by kernel_rfl) (fun bb Wz hSw => ?_) ?_
            case refine_2 => (go_simp; try with_reducible rfl)
            try simp only [Act.put, List.getElem_toArray, List.getElem_cons_succ, List.getElem_cons_zero, List.setIfInBounds_toArray, List.set_cons_zero, List.set_cons_succ]
            refine plan_val (i := 10) (v := ?_) rfl (by kernel_rfl) (by kernel_rfl) (by rfl) (by kernel_rfl) (fun bb Wz hSw => ?_) ?_
            case refine_2 => (have u := ((show Below w2.heap.size w2 Wz from hSw).cell (p := ⟨b, o + i * 2, none⟩) (cell_lt (p := ⟨b, o + i * 2, none⟩) k0)).trans k0; go_simp; try with_reducible rfl)
            try simp only [Act.put, List.getElem_toArray, List.getElem_cons_succ, List.getElem_cons_zero, List.setIfInBounds_toArray, List.set_cons_zero, List.set_cons_succ]
            refine plan_call (i := 11) (v := .bool (decide (lowL y = lowL n))) 60 #[.string (mkS y), .string (mkS n)] rfl (by kernel_rfl) (by kernel_rfl) (by rfl) (by kernel_rfl) (fun Wz => ?_) (fun bb Wz hSw => ?_) ?_
            case refine_1 => (go_simp; try with_reducible rfl)
            case refine_2 =>
              refine (HSy.out Wz).mono ?_
              rintro e w5 ⟨rfl, hb⟩
              exact ⟨rfl, (show Below w2.heap.size w2 Wz from hSw).trans (hb.mono (show Below w2.heap.size w2 Wz from hSw).size)⟩
            try simp only [Act.put, List.getElem_toArray, List.getElem_cons_succ, List.getElem_cons_zero, List.setIfInBounds_toArray, List.set_cons_zero, List.set_cons_succ]
            refine plan_val (i := 12) (v := ?_) rfl (by kernel_rfl) (by kernel_rfl) (by rfl) (by kernel_rfl) (fun bb Wz hSw => ?_) ?_
            case refine_2 => (go_simp; try with_reducible rfl)
            try simp only [Act.put, List.getElem_toArray, List.getElem_cons_succ, List.getElem_cons_zero, List.setIfInBounds_toArray, List.set_cons_zero, List.set_cons_succ]
            refine plan_val (i := 13) (v := ?_) rfl (by kernel_rfl) (by kernel_rfl) (by rfl) (by kernel_rfl) (fun bb Wz hSw => ?_) ?_
            case refine_2 => (go_simp; try with_reducible rfl)
            try simp only [Act.put, List.getElem_toArray, List.getElem_cons_succ, List.getElem_cons_zero, List.setIfInBounds_toArray, List.set_cons_zero, List.set_cons_succ]
            refine Plan.fin (by kernel_rfl) (fun w4 hS4 => ?_)
            have HB4 : Hid (Below w2.heap.size w2 w4) := hS4
            clear hS4
            go_wp2_with fail
            exact ⟨⟨k + 1, hkl, by rw [HNk.out], by go_num, HB4⟩, by simp [RowKit.intOf]; omega⟩
          · rw [hgk, Bool.true_or] at HNk
            clear hgk
            go_wp2_with fail
            refine wp_plan (fun _ Wz => Below w2.heap.size w2 Wz) 14 (by kernel_rfl) (by kernel_rfl) HBk.out.drew rfl ?_
            refine plan_val (i := 0) (v := ?_) rfl (by kernel_rfl) (by kernel_rfl) (by rfl) (by kernel_rfl) (fun bb Wz hSw => ?_) ?_
            case refine_2 => (go_simp; try with_reducible rfl)
            try simp only [Act.put, List.getElem_toArray, List.getElem_cons_zero, List.setIfInBounds_toArray, List.set_cons_zero, List.set_cons_succ]
            refine plan_val (i := 1) (v := ?_) rfl (by kernel_rfl) (by kernel_rfl) (by rfl) (by kernel_rfl) (fun bb Wz hSw => ?_) ?_
            case refine_2 => (go_simp; try with_reducible rfl)
            try simp only [Act.put, List.getElem_toArray, List.getElem_cons_succ, List.getElem_cons_zero, List.setIfInBounds_toArray, List.set_cons_zero, List.set_cons_succ]
            refine plan_off (i := 2) rfl (by kernel_rfl) (by kernel_rfl) (by rfl) (by kernel_rfl) ?_
            try simp only [Act.put, List.getElem_toArray, List.getElem_cons_succ, List.getElem_cons_zero, List.setIfInBounds_toArray, List.set_cons_zero, List.set_cons_succ]
            refine plan_off (i := 3) rfl (by kernel_rfl) (by kernel_rfl) (by rfl) (by kernel_rfl) ?_
            try simp only [Act.put, List.getElem_toArray, List.getElem_cons_succ, List.getElem_cons_zero, List.setIfInBounds_toArray, List.set_cons_zero, List.set_cons_succ]
            refine plan_off (i := 4) rfl (by kernel_rfl) (by kernel_rfl) (by rfl) (by kernel_rfl) ?_
            try simp only [Act.put, List.getElem_toArray, List.getElem_cons_succ, List.getElem_cons_zero, List.setIfInBounds_toArray, List.set_cons_zero, List.set_cons_succ]
            refine plan_off (i := 5) rfl (by kernel_rfl) (by kernel_rfl) (by rfl) (by kernel_rfl) ?_
            try simp only [Act.put, List.getElem_toArray, List.getElem_cons_succ, List.getElem_cons_zero, List.setIfInBounds_toArray, List.set_cons_zero, List.set_cons_succ]
            refine plan_off (i := 6) rfl (by kernel_rfl) (by kernel_rfl) (by rfl) (by kernel_rfl) ?_
            try simp only [Act.put, List.getElem_toArray, List.getElem_cons_succ, List.getElem_cons_zero, List.setIfInBounds_toArray, List.set_cons_zero, List.set_cons_succ]
            refine plan_off (i := 7) rfl (by kernel_rfl) (by kernel_rfl) (by rfl) (by kernel_rfl) ?_
            try simp only [Act.put, List.getElem_toArray, List.getElem_cons_succ, List.getElem_cons_zero, List.setIfInBounds_toArray, List.set_cons_zero, List.set_cons_succ]
            refine plan_off (i := 8) rfl (by kernel_rfl) (by kernel_rfl) (by rfl) (by kernel_rfl) ?_
            try simp only [Act.put, List.getElem_toArray, List.getElem_cons_succ, List.getElem_cons_zero, List.setIfInBounds_toArray, List.set_cons_zero, List.set_cons_succ]
            refine plan_off (i := 9) rfl (by kernel_rfl) (by kernel_rfl) (by rfl) (by kernel_rfl) ?_
            try simp only [Act.put, List.getElem_toArray, List.getElem_cons_succ, List.getElem_cons_zero, List.setIfInBounds_toArray, List.set_cons_zero, List.set_cons_succ]
            refine plan_off (i := 10) rfl (by kernel_rfl) (by kernel_rfl) (by rfl) (by kernel_rfl) ?_
            try simp only [Act.put, List.getElem_toArray, List.getElem_cons_succ, List.getElem_cons_zero, List.setIfInBounds_toArray, List.set_cons_zero, List.set_cons_succ]
            refine plan_off (i := 11) rfl (by kernel_rfl) (by kernel_rfl) (by rfl) (by kernel_rfl) ?_
            try simp only [Act.put, List.getElem_toArray, List.getElem_cons_succ, List.getElem_cons_zero, List.setIfInBounds_toArray, List.set_cons_zero, List.set_cons_succ]
            refine plan_val (i := 12) (v := ?_) rfl (by kernel_rfl) (by kernel_rfl) (by rfl) (by kernel_rfl) (fun bb Wz hSw => ?_) ?_
            case refine_2 => (go_simp; try with_reducible rfl)
            try simp only [Act.put, List.getElem_toArray, List.getElem_cons_succ, List.getElem_cons_zero, List.setIfInBounds_toArray, List.set_cons_zero, List.set_cons_succ]
            refine plan_val (i := 13) (v := ?_) rfl (by kernel_rfl) (by kernel_rfl) (by rfl) (by kernel_rfl) (fun bb Wz hSw => ?_) ?_
            case refine_2 => (go_simp; try with_reducible rfl)
            try simp only [Act.put, List.getElem_toArray, List.getElem_cons_succ, List.getElem_cons_zero, List.setIfInBounds_toArray, List.set_cons_zero, List.set_cons_succ]
            refine Plan.fin (by kernel_rfl) (fun w4 hS4 => ?_)
            have HB4 : Hid (Below w2.heap.size w2 w4) := hS4
            clear hS4
            go_wp2_with fail
            exact ⟨⟨k + 1, hkl, by rw [HNk.out], by go_num, HB4⟩, by simp [RowKit.intOf]; omega⟩
        · obtain rfl : k = Q.length := by omega
          rw [HGe.out]
          have HO3 := Lib.hid (own_keep2f HO2.out HBk.out)
          have HB3 := Lib.hid (HB2.out.trans (HBk.out.mono HB2.out.size))
          have j0 := (HBk.out.cell (p := ⟨b, o + i * 2, none⟩) (cell_lt (p := ⟨b, o + i * 2, none⟩) k0)).trans k0
          have j1 := (HBk.out.cell (p := ⟨b, o + i * 2 + 1, none⟩) (cell_lt (p := ⟨b, o + i * 2 + 1, none⟩) k1)).trans k1
          clear k0 k1 hkl hk HBk
          cases hin : inS G (n, x)
          · rw [hin] at HSn
            clear hin
            have hbal := below_alloc W2 (Obj.cells #[.string (mkS n), .string (mkS x)] 32)
            have HO5 := Lib.hid (own_keep2f HO3.out hbal)
            have HF5 := Lib.hid (isFlds_lit W2 n x)
            have HB5 := Lib.hid (HB3.out.trans (hbal.mono HB3.out.size))
            have hs5 := HB5.out.size
            clear hbal
            go_wp2_with (at_builtin; refine joinF_guarded (by rfl) _ _ rfl w1.heap.size _ _ (wipe G (l.take i)) [(n, x)] rfl rfl HO5.out HF5.out (fun _ _ h => by injection h with h1; cases h1) hs5 (by omega) (by simp) ?_)
            intro v6 w6 ho6 hg6
            have HB6 := Lib.hid (HB5.out.trans (below_of_grownF hg6 HO5.out hs5))
            have HO6 := Lib.hid ho6
            clear ho6 hg6
            go_wp2_with fail
            refine ⟨⟨i + 1, hlt, by go_num, ?_, HB6⟩, by simp [RowKit.intOf]; omega⟩
            show World.ownsRow _ _ _ _ _ _ _
            rw [HSn.out, if_neg (by decide), List.length_append]
            exact HO6.out
          · rw [hin] at HSn
            clear hin
            go_wp2_with fail
            refine ⟨⟨i + 1, hlt, by go_num, ?_, HB3⟩, by simp [RowKit.intOf]; omega⟩
            show World.ownsRow _ _ _ _ _ _ _
            rw [HSn.out, if_pos rfl, List.append_nil]
            exact HO3.out
    · obtain rfl : i = l.length := by omega
      have hfin := HO.out
      rw [List.take_length] at hfin
      have HF := Lib.hid hfin
      have HBE := Lib.hid (HB1.out.trans (HB.out.mono HB1.out.size))
      clear hfin
      go_wp2_with fail
      go_ret
      refine ⟨_, rfl, ?_, HBE.out⟩
      rw [HSt.out]
      exact own_base HF.out HB1.out.size
end Tk
end Go.Proofs.YtdlbmfgajgefdaaGreatDoor
