/- The document's own Closes (layer 7). -/
import Derived.Test.YtdlbmfgajgefdaaGreatDoorQRefH8
import Derived.Test.YtdlbmfgajgefdaaGreatDoorQE
import Derived.Test.YtdlbmfgajgefdaaGreatDoorQRefK
import Derived.Test.YtdlbmfgajgefdaaGreatDoorQG
namespace Go.Proofs.YtdlbmfgajgefdaaGreatDoor
open Go.RowKit
namespace Tk

theorem isStrs_below9 {w w' : World} {v : Value} {l : List Bs} (h : IsStrs w v l) (hb : Below w.heap.size w w') : IsStrs w' v l := by
  obtain ⟨a, c, rfl, hc⟩ := h
  refine ⟨a, c, rfl, fun j t hj => ?_⟩
  obtain ⟨b, o, rfl, h1⟩ := hc j t hj
  exact ⟨b, o, rfl, (hb.cell (p := ⟨b, o + j, none⟩) (cell_lt (p := ⟨b, o + j, none⟩) h1)).trans h1⟩
/-- is a part among the first i this one? -/
def seenP (Q : List Bs) (i : Nat) (x : Bs) : Bool := (Q.take i).any fun y => decide (lowL y = x)
theorem seenP_next (Q : List Bs) (i : Nat) (x : Bs) (h : i < Q.length) : seenP Q (i + 1) x = (seenP Q i x || decide (lowL (Q.getD i []) = x)) := by
  unfold seenP
  rw [List.take_succ_eq_append_getElem h, List.any_append]
  simp [List.getD, h]
theorem seenP_end (l : List (Bs × Bs)) (x : Bs) : seenP (listF l cnB) (listF l cnB).length x = decide (x ∈ optS l) := by
  unfold seenP optS
  rw [List.take_length, Bool.eq_iff_iff]
  simp [List.any_eq_true]
theorem seenP_yes (l : List (Bs × Bs)) (x : Bs) (i : Nat) (h : seenP (listF l cnB) i x = true) : decide (x ∈ optS l) = true := by
  unfold seenP at h
  rw [List.any_eq_true] at h
  obtain ⟨y, hy, e⟩ := h
  exact decide_eq_true (List.mem_map.2 ⟨y, List.mem_of_mem_take hy, of_decide_eq_true e⟩)

set_option maxHeartbeats 8000000 in
set_option maxRecDepth 100000 in
theorem rcloses_any (M T : ByteArray) (s : Int) (R : ByteArray) (mi : Int) (vf : Value) (B : ByteArray) (vt : Value) (l : List (Bs × Bs)) (w : World) (hs : IsFlds w vf l) (hz : sumF l ≤ 900000) (hl : l.length ≤ 1048570) :
    Calls Tryz.prog 20 #[.agg (msgC M T s R mi vf B vt)] w fun e w' => e = .returned (.bool (closesB l mi)) ∧ Below w.heap.size w w' := by
  obtain ⟨a, cap, rfl⟩ : ∃ a cap, vf = .slice a l.length cap := by obtain ⟨a, c, h, -⟩ := hs; exact ⟨a, c, h⟩
  have hX := Box.new w 24 (msgC M T s R mi (.slice a l.length cap) B vt)
  have hB0 := below_alloc w (.cells (msgC M T s R mi (.slice a l.length cap) B vt) 24)
  have c5 : (w.alloc (.cells (msgC M T s R mi (.slice a l.length cap) B vt) 24)).cell? ⟨w.heap.size, 5, none⟩ = some (.slice a l.length cap) := hX.cell 5 _ rfl
  have HLi := Lib.hid (rlist_any _ l cnB _ (isFlds_below hs hB0) (by omega) (by decide) (by omega))
  have HX := Lib.hid hX
  have HB0 := Lib.hid hB0
  have HP := Lib.hid (fun x hx => Nat.le_trans (listF_piece cnB l x hx) hz)
  have hQl : (listF l cnB).length ≤ 900000 := Nat.le_trans (listF_len cnB l) hz
  have HE1 := Lib.hid (seenP_end l clsB)
  have HE2 := Lib.hid (seenP_end l kalB)
  have HY := Lib.hid (seenP_yes l clsB)
  have hv : closesB l mi = (decide (clsB ∈ optS l) || (decide (mi = 0) && !decide (kalB ∈ optS l))) := rfl
  rw [hv]
  clear hs hz hl hX hB0 hv
  generalize decide (clsB ∈ optS l) = d1 at *
  generalize decide (kalB ∈ optS l) = d3 at *
  unfold ListPost at HLi
  unfold msgC at *
  generalize listF l cnB = Q at *
  have HN1 := Lib.hid (fun i h => seenP_next Q i clsB h)
  have HN2 := Lib.hid (fun i h => seenP_next Q i kalB h)
  have HSm : Hid (∀ (x : Bs) (W : World), x.length ≤ 900000 → Calls Tryz.prog 60 #[.string (mkS x), .string ⟨#[99, 108, 111, 115, 101]⟩] W fun e w' => e = .returned (.bool (decide (lowL x = clsB))) ∧ Below W.heap.size W w') := fun x W hx => by
    have h := rsm_any (mkS x) (mkS clsB) W (by rw [size_mkS]; omega) (by decide)
    rw [bs_mkS, bs_mkS, low_cls] at h
    exact h
  have HSk : Hid (∀ (x : Bs) (W : World), x.length ≤ 900000 → Calls Tryz.prog 60 #[.string (mkS x), .string ⟨#[107, 101, 101, 112, 45, 97, 108, 105, 118, 101]⟩] W fun e w' => e = .returned (.bool (decide (lowL x = kalB))) ∧ Below W.heap.size W w') := fun x W hx => by
    have h := rsm_any (mkS x) (mkS kalB) W (by rw [size_mkS]; omega) (by decide)
    rw [bs_mkS, bs_mkS, low_kal] at h
    exact h
  have hm : (mi != 0) = !decide (mi = 0) := by by_cases h : mi = 0 <;> simp [h]
  have HM := Lib.hid hm
  clear hm
  go_enter Tryz.func20, Tryz.ntmps20
  go_wp2_with fail
  refine HLi.out.mono ?_
  rintro e w1 ⟨v1, rfl, ho, hb⟩
  have HX1 := Lib.hid (HX.out.later hb)
  have HB1 := Lib.hid (HB0.out.trans (hb.mono HB0.out.size))
  have HI1 := Lib.hid (isStrs_own ho)
  obtain ⟨a1, c1, rfl⟩ : ∃ a c, v1 = .slice a Q.length c := by obtain ⟨a, c, h, -⟩ := isStrs_own ho; exact ⟨a, c, h⟩
  have c4 := HX1.out.cell 4 _ rfl
  clear ho hb c5 HLi HX HB0
  go_wp2_with fail
  clear c4
  go_loopw [4, 5] (fun v4 vi wr => ∃ i : Nat, i ≤ Q.length ∧ v4 = .bool ((mi != 0) || seenP Q i kalB) ∧ vi = .int .i64 i ∧ Hid (seenP Q i clsB = false) ∧ Hid (Below w1.heap.size w1 wr)) (fun _ vi _ => Q.length - (RowKit.intOf vi).toNat)
  case atStart => exact ⟨0, Nat.zero_le _, by simp [seenP], rfl, rfl, Below.refl _ _⟩
  case round =>
    obtain ⟨i, hi, rfl, rfl, HNo, HB⟩ := hrel
    rename World => W
    by_cases hlt : i < Q.length
    · obtain ⟨a', c', e', hc⟩ := isStrs_below9 HI1.out HB.out
      injection e' with e1 _ e2
      subst e1 e2
      obtain ⟨b, o, rfl, hc0⟩ := hc i (Q.getD i []) (by simp [List.getD, hlt])
      have hxl := HP.out (Q.getD i []) (by simp [List.getD, hlt])
      have N1 := Lib.hid (HN1.out i hlt)
      have N2 := Lib.hid (HN2.out i hlt)
      clear hc
      generalize Q.getD i [] = x at *
      have g0 : (0 : Int) ≤ (i : Int) := by omega
      have g1 : (i : Int) < (Q.length : Int) := by omega
      have HC := Lib.hid (HSm.out x W hxl)
      rw [HNo.out, Bool.false_or] at N1
      cases hq : decide (lowL x = clsB)
      · rw [hq] at HC N1
        cases hk : ((mi != 0) || seenP Q i kalB)
        · have HK := Lib.hid (HSk.out x)
          have hkn : ((mi != 0) || seenP Q (i + 1) kalB) = decide (lowL x = kalB) := by rw [N2.out, ← Bool.or_assoc, hk, Bool.false_or]
          have HKn := Lib.hid hkn
          clear hk hq hkn
          go_wp2_with fail
          refine HC.out.mono ?_
          rintro e w2 ⟨rfl, hb⟩
          have HB2 := Lib.hid (HB.out.trans (hb.mono HB.out.size))
          have hc2 := (hb.cell (p := ⟨b, o + i, none⟩) (cell_lt (p := ⟨b, o + i, none⟩) hc0)).trans hc0
          clear hb hc0 HC
          go_wp2_with fail
          refine (HK.out w2 hxl).mono ?_
          rintro e w3 ⟨rfl, hb⟩
          have HB3 := Lib.hid (HB2.out.trans (hb.mono HB2.out.size))
          clear hb hc2
          go_wp2_with fail
          exact ⟨⟨i + 1, hlt, by rw [HKn.out], by go_num, N1, HB3⟩, by simp [RowKit.intOf]; omega⟩
        · have hkn : ((mi != 0) || seenP Q (i + 1) kalB) = true := by rw [N2.out, ← Bool.or_assoc, hk, Bool.true_or]
          have HKn := Lib.hid hkn
          clear hk hq hkn
          go_wp2_with fail
          refine HC.out.mono ?_
          rintro e w2 ⟨rfl, hb⟩
          have HB2 := Lib.hid (HB.out.trans (hb.mono HB.out.size))
          clear hb hc0 HC
          go_wp2_with fail
          exact ⟨⟨i + 1, hlt, by rw [HKn.out], by go_num, N1, HB2⟩, by simp [RowKit.intOf]; omega⟩
      · rw [hq] at HC N1
        have hd1 := HY.out (i + 1) N1.out
        have HD1 := Lib.hid hd1
        clear hq hd1
        go_wp2_with fail
        refine HC.out.mono ?_
        rintro e w2 ⟨rfl, hb⟩
        have HB2 := Lib.hid (HB1.out.trans ((HB.out.trans (hb.mono HB.out.size)).mono HB1.out.size))
        clear hb hc0 HC
        go_wp2_with fail
        go_ret
        exact ⟨by rw [HD1.out, Bool.true_or]; rfl, HB2.out⟩
    · obtain rfl : i = Q.length := by omega
      have hfin : (d1 || (decide (mi = 0) && !d3)) = (!(mi != 0) && !seenP Q Q.length kalB) := by
        rw [← HE1.out, HNo.out, HE2.out, HM.out]
        cases decide (mi = 0) <;> cases d3 <;> rfl
      have HF := Lib.hid hfin
      have HBE := Lib.hid (HB1.out.trans (HB.out.mono HB1.out.size))
      clear hfin
      go_wp2_with fail
      go_ret
      exact ⟨by rw [HF.out]; rfl, HBE.out⟩
end Tk
end Go.Proofs.YtdlbmfgajgefdaaGreatDoor
