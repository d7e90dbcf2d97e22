/- LawMt, put together. -/
import Derived.Test.YtpcdaaijlgilkaaGreatDoorQK
import Derived.Deep.RegionHeld3
namespace Go.Proofs.YtpcdaaijlgilkaaGreatDoor
open Go.RowKit
namespace Tk

/-- a slice that holds these -/
def IsBools (w : World) (v : Value) (l : List Bool) : Prop :=
  ∃ (a : Option Addr) (c : Nat), v = .slice a l.length c ∧ ∀ j, j < l.length → ∃ b o, a = some ⟨b, o, none⟩ ∧ w.cell? ⟨b, o + j, none⟩ = some (.bool (l.getD j false))
theorem isBools_below {w w' : World} {v : Value} {l : List Bool} (h : IsBools w v l) (hb : Below w.heap.size w w') : IsBools w' v l := by
  obtain ⟨a, c, rfl, hc⟩ := h
  refine ⟨a, c, rfl, fun j hj => ?_⟩
  obtain ⟨b, o, rfl, h1⟩ := hc j hj
  refine ⟨b, o, rfl, (hb.cell (p := ⟨b, o + j, none⟩) ?_).trans h1⟩
  refine Nat.lt_of_not_le fun hle => ?_
  simp only [World.cell?, Array.getElem?_eq_none hle] at h1
  cases h1
theorem bools_at {w : World} {a : Option Addr} {c n : Nat} {l : List Bool} (h : IsBools w (.slice a n c) l) (j : Nat) (hj : j < l.length) : ∃ b o, a = some ⟨b, o, none⟩ ∧ w.cell? ⟨b, o + j, none⟩ = some (.bool (l.getD j false)) := by
  obtain ⟨a2, c2, e, hc⟩ := h
  injection e with e1 _ _
  subst e1
  exact hc j hj

set_option maxRecDepth 100000 in
set_option maxHeartbeats 4000000 in
theorem turns_big (v1 v2 : Value) (H E : List Bool) (w : World) (h1 : IsBools w v1 H) (h2 : IsBools w v2 E) (hv : ErrV w.heap.size w) (hk : 8 < H.length ∨ (H.length ≤ 8 ∧ E.length < H.length)) :
    Calls Tryz.prog 8 #[v1, v2] w (Yes2 w) := by
  have HL := Lib.hid (lives06_any w hv)
  obtain ⟨a1, c1, rfl⟩ : ∃ a c, v1 = .slice a H.length c := by obtain ⟨a, c, h, -⟩ := h1; exact ⟨a, c, h⟩
  obtain ⟨a2, c2, rfl⟩ : ∃ a c, v2 = .slice a E.length c := by obtain ⟨a, c, h, -⟩ := h2; exact ⟨a, c, h⟩
  unfold Yes2 at HL ⊢
  clear h1 h2 hv
  rcases hk with k | ⟨k, k2⟩
  · have m1 : (8 : Int) < (H.length : Int) := by omega
    clear k
    go_enter Tryz.func8, Tryz.ntmps8
    go_wp2_with fail
    refine HL.out.mono ?_
    rintro e w1 ⟨rfl, hb⟩
    have HB1 := Lib.hid hb
    clear hb
    go_wp2_with fail
    go_ret
    exact ⟨rfl, HB1.out⟩
  · have m1 : ¬ (8 : Int) < (H.length : Int) := by omega
    have m2 : (E.length : Int) < (H.length : Int) := by omega
    clear k k2
    go_enter Tryz.func8, Tryz.ntmps8
    go_wp2_with fail
    refine HL.out.mono ?_
    rintro e w1 ⟨rfl, hb⟩
    have HB1 := Lib.hid hb
    clear hb
    go_wp2_with fail
    go_ret
    exact ⟨rfl, HB1.out⟩

-- plain facts
theorem zip_take {H E : List Bool} (i : Nat) (h1 : i < H.length) (h2 : H.length ≤ E.length) : (H.zip E).take (i + 1) = (H.zip E).take i ++ [(H.getD i false, E.getD i false)] := by
  have hz : i < (H.zip E).length := by simp; omega
  rw [List.take_succ_eq_append_getElem hz]
  congr 2
  simp [List.getD, h1, show i < E.length by omega]
theorem zip_drop {H E : List Bool} (i : Nat) (h1 : i < H.length) (h2 : H.length ≤ E.length) : (H.zip E).drop i = (H.getD i false, E.getD i false) :: (H.zip E).drop (i + 1) := by
  have hz : i < (H.zip E).length := by simp; omega
  rw [List.drop_eq_getElem_cons hz]
  congr 1
  simp [List.getD, h1, show i < E.length by omega]
theorem met_take {H : List Bool} (i : Nat) (h1 : i < H.length) : (H.map metB).take (i + 1) = (H.map metB).take i ++ [metB (H.getD i false)] := by
  have hz : i < (H.map metB).length := by simp; omega
  rw [List.take_succ_eq_append_getElem hz]
  simp [List.getD, h1]
theorem met_drop {H : List Bool} (i : Nat) (h1 : i < H.length) : (H.map metB).drop i = metB (H.getD i false) :: (H.map metB).drop (i + 1) := by
  have hz : i < (H.map metB).length := by simp; omega
  rw [List.drop_eq_getElem_cons hz]
  simp [List.getD, h1]
theorem tn_len {H E : List Bool} (i : Nat) (h : i ≤ 8) : (turnB 0 ((H.zip E).take i)).length ≤ 496 := by
  have := turnB_len ((H.zip E).take i) 0
  have h2 : ((H.zip E).take i).length ≤ i := List.length_take_le _ _
  omega


set_option maxRecDepth 100000 in
set_option maxHeartbeats 64000000 in
theorem turns_main (a1 a2 : Option Addr) (c1 c2 : Nat) (H E : List Bool) (w : World) (h1 : IsBools w (.slice a1 H.length c1) H) (h2 : IsBools w (.slice a2 E.length c2) E) (hv : ErrV w.heap.size w) (k8 : H.length ≤ 8) (kE : H.length ≤ E.length) :
    Calls Tryz.prog 8 #[.slice a1 H.length c1, .slice a2 E.length c2] w (Yes2 w) := by
  have HV := Lib.hid hv
  have HL := Lib.hid (lives06_any _ hv)
  have H1 := Lib.hid (fun (W : World) (hb : Below w.heap.size w W) => isBools_below h1 hb)
  have H2 := Lib.hid (fun (W : World) (hb : Below w.heap.size w W) => isBools_below h2 hb)
  have HK := Lib.hid (⟨k8, kE⟩ : _ ∧ _)
  have m1 : ¬ (8 : Int) < (H.length : Int) := by omega
  have m2 : ¬ (E.length : Int) < (H.length : Int) := by omega
  clear hv h1 h2 k8 kE
  unfold Yes2 at HL ⊢
  go_enter Tryz.func8, Tryz.ntmps8
  go_wp2_with fail
  refine HL.out.mono ?_
  rintro e w1 ⟨rfl, hb⟩
  have HB1 := Lib.hid hb
  clear hb HL
  go_wp2_with fail
  clear m1 m2
  refine (roomy_any _).mono ?_
  rintro e w2 ⟨rfl, hb⟩
  have HB2 := Lib.hid (HB1.out.trans (hb.mono HB1.out.size))
  clear hb HB1
  go_wp2_with fail
  refine (presponses_any 200 1000 30 1000 200 1000 30 1000 w2.heap.size w2 (Nat.le_refl _) rfl rfl rfl rfl).mono ?_
  rintro e w3 ⟨b, V, rfl, hbb, ⟨q, hq7, hqm, hp⟩, hvm, hbe⟩
  obtain rfl : q = 2 := hqm rfl
  have HP3 := Lib.hid (show Par w2.heap.size b (q0 []) 2 0 0 V w3 from hp)
  have HO3 := Lib.hid (show w3.ownsRow w2.heap.size 9 1 V.m 0 (strs []) by rw [hvm]; exact World.ownsRow_nil _ _ _ _)
  have HB3 := Lib.hid (show Below w2.heap.size w2 w3 from hbe)
  have HVe := Lib.hid (fun (W : World) (hb : Below w2.heap.size w2 W) => ((HV.out.later HB2.out).top).later hb)
  have HBB := Lib.hid (fun (W : World) (hb : Below w2.heap.size w2 W) => HB2.out.trans (hb.mono HB2.out.size))
  clear hbb hq7 hqm hp hvm hbe HV
  unfold ptr
  go_wp2_with fail
  go_loopw [6, 7] (fun v6 v7 wr => ∃ (i : Nat) (Vi : PV) (bt : ByteArray), i ≤ H.length ∧ v6 = .string bt ∧ v7 = .int .i64 i ∧ Hid (bt = mkS (turnB 0 ((H.zip E).take i))) ∧ Hid (Par w2.heap.size b (q0 ((H.map metB).take i)) 2 0 0 Vi wr) ∧ Hid (wr.ownsRow w2.heap.size 9 1 Vi.m ((H.map metB).take i).length (strs ((H.map metB).take i))) ∧ Hid (Below w2.heap.size w2 wr)) (fun _ v7 _ => H.length - (RowKit.intOf v7).toNat)
  case atStart => exact ⟨0, V, ⟨#[]⟩, Nat.zero_le _, rfl, rfl, Lib.hid rfl, HP3, HO3, HB3⟩
  case round =>
    obtain ⟨i, Vi, bt, hi, rfl, rfl, HBt, HPi, HOi, HBi⟩ := hrel
    rename World => W
    have hbz : bt.size ≤ 496 := by rw [HBt.out, size_mkS]; exact tn_len i (by have := HK.out; omega)
    by_cases hlt : i < H.length
    · obtain ⟨x1, y1, rfl, k1⟩ := bools_at (H1.out W (HBB.out W HBi.out)) i hlt
      obtain ⟨x2, y2, rfl, k2⟩ := bools_at (H2.out W (HBB.out W HBi.out)) i (by have := HK.out; omega)
      have hml : ((H.map metB).take i).length = i := by rw [List.length_take, List.length_map]; omega
      have hi8 : i < 8 := by have := HK.out; omega
      have HT := Lib.hid (zip_take i hlt HK.out.2)
      have HM := Lib.hid (met_take i hlt)
      have hE2 : i < E.length := by have := HK.out; omega
      generalize hhd : H.getD i false = h at *
      generalize hed : E.getD i false = e0 at *
      have r0 : (0 : Int) ≤ (i : Int) := by omega
      have r1 : (i : Int) < (H.length : Int) := by omega
      have r2 : (i : Int) < (E.length : Int) := by omega
      have HI8 := Lib.hid hi8
      have HMl := Lib.hid hml
      have dz : (mkS (digN i)).size = 1 := by rw [size_mkS]; unfold digN; rw [if_pos (by omega)]; rfl
      obtain ⟨dg, hdg⟩ : ∃ d, d = mkS (digN i) := ⟨_, rfl⟩
      have hexp : ∀ (t : ByteArray), bs t = metB h → Calls Tryz.prog 16 #[.pointer (some ⟨b, 0, none⟩), .string t] W fun e w' => e = .returned (.int .i64 0) ∧ ∃ V', Hid (Par w2.heap.size b (q0 ((H.map metB).take (i + 1))) 2 0 0 V' w') ∧ Hid (w'.ownsRow w2.heap.size 9 1 V'.m ((H.map metB).take (i + 1)).length (strs ((H.map metB).take (i + 1)))) ∧ Hid (Below w2.heap.size w2 w') ∧ w'.cell? ⟨x1, y1 + i, none⟩ = some (.bool h) ∧ w'.cell? ⟨x2, y2 + i, none⟩ = some (.bool e0) := by
        intro t ht
        have htz : t.size ≤ 4 := by rw [← length_bs t, ht]; cases h <;> decide
        refine (pexpect_any t HPi.out HOi.out rfl (by show ((H.map metB).take i).length ≤ 1000; omega) (by omega) (by rw [ht]; cases h <;> decide +kernel)).mono ?_
        rintro e w' ⟨rfl, v', hp, ho, hb⟩
        have hb2 := HBi.out.trans (hb.mono (Nat.le_refl _))
        refine ⟨rfl, { Vi with m := v' }, Lib.hid ?_, Lib.hid ?_, Lib.hid hb2, ?_, ?_⟩
        · rw [HM.out, ← ht]; exact hp
        · rw [HM.out, ← ht]; exact ho
        · obtain ⟨x, y, ee, kk⟩ := bools_at (H1.out w' (HBB.out w' hb2)) i hlt
          injection ee with ee; injection ee with e1 e2; subst e1 e2
          rw [hhd] at kk; exact kk
        · obtain ⟨x, y, ee, kk⟩ := bools_at (H2.out w' (HBB.out w' hb2)) i hE2
          injection ee with ee; injection ee with e1 e2; subst e1 e2
          rw [hed] at kk; exact kk
      have HExp := Lib.hid hexp
      have HDi := Lib.hid (fun W' : World => digits_any i W' (by omega))
      rw [← hdg] at HDi dz
      have HDg := Lib.hid hdg
      have HTx := Lib.hid (show mkS (turnB 0 ((H.zip E).take (i + 1))) = bt ++ (mkS (earO e0) ++ (mkS stB ++ dg ++ mkS clB ++ mkS (xyB h))) by
        rw [HT.out, turnB_snoc, HBt.out, HDg.out, show ((H.zip E).take i).length = i by rw [List.length_take, List.length_zip]; omega, Nat.zero_add]
        rw [← mkS_append, ← mkS_append]
        unfold finB
        rw [← mkS_append, ← mkS_append, ← mkS_append])
      clear hml hexp hlt hi hi8 hE2 hhd hed HT HM HBt HPi HOi HBi HDg hdg
      cases h
      · cases e0
        · go_wp2_with fail
          refine (HExp.out ⟨#[71, 69, 84]⟩ rfl).mono ?_
          rintro e w4 ⟨rfl, V4, HP4, HO4, HB4, kk1, kk2⟩
          clear HExp k1 k2
          go_wp2_with fail
          refine (HDi.out _).mono ?_
          rintro e w5 ⟨rfl, rfl⟩
          go_wp2_with fail
          go_round
          case rel => exact ⟨i + 1, V4, _, by omega, rfl, by go_num, Lib.hid (by rw [HTx.out]; first | rfl | (simp only [ByteArray.append_assoc]; rfl)), HP4, HO4, HB4⟩
          case measure => simp [RowKit.intOf]; omega
        · go_wp2_with fail
          refine (HExp.out ⟨#[71, 69, 84]⟩ rfl).mono ?_
          rintro e w4 ⟨rfl, V4, HP4, HO4, HB4, kk1, kk2⟩
          clear HExp k1 k2
          go_wp2_with fail
          refine (HDi.out _).mono ?_
          rintro e w5 ⟨rfl, rfl⟩
          go_wp2_with fail
          go_round
          case rel => exact ⟨i + 1, V4, _, by omega, rfl, by go_num, Lib.hid (by rw [HTx.out]; first | rfl | (simp only [ByteArray.append_assoc]; rfl)), HP4, HO4, HB4⟩
          case measure => simp [RowKit.intOf]; omega
      · cases e0
        · go_wp2_with fail
          refine (HExp.out ⟨#[72, 69, 65, 68]⟩ rfl).mono ?_
          rintro e w4 ⟨rfl, V4, HP4, HO4, HB4, kk1, kk2⟩
          clear HExp k1 k2
          go_wp2_with fail
          refine (HDi.out _).mono ?_
          rintro e w5 ⟨rfl, rfl⟩
          go_wp2_with fail
          go_round
          case rel => exact ⟨i + 1, V4, _, by omega, rfl, by go_num, Lib.hid (by rw [HTx.out]; first | rfl | (simp only [ByteArray.append_assoc]; rfl)), HP4, HO4, HB4⟩
          case measure => simp [RowKit.intOf]; omega
        · go_wp2_with fail
          refine (HExp.out ⟨#[72, 69, 65, 68]⟩ rfl).mono ?_
          rintro e w4 ⟨rfl, V4, HP4, HO4, HB4, kk1, kk2⟩
          clear HExp k1 k2
          go_wp2_with fail
          refine (HDi.out _).mono ?_
          rintro e w5 ⟨rfl, rfl⟩
          go_wp2_with fail
          go_round
          case rel => exact ⟨i + 1, V4, _, by omega, rfl, by go_num, Lib.hid (by rw [HTx.out]; first | rfl | (simp only [ByteArray.append_assoc]; rfl)), HP4, HO4, HB4⟩
          case measure => simp [RowKit.intOf]; omega
    · have hil : i = H.length := by omega
      subst hil
      have r1 : ¬ ((H.length : Nat) : Int) < (H.length : Int) := by omega
      have hpz : Par w2.heap.size b (q0 (H.map metB)) 2 0 0 Vi W := by have := HPi.out; rw [List.take_of_length_le (by simp)] at this; exact this
      have HSy := Lib.hid (show Sync w2.heap.size b (q0 (H.map metB)) Vi W from ⟨2, by omega, fun _ => rfl, hpz⟩)
      have HBt2 := Lib.hid (show bt = mkS (turnB 0 (H.zip E)) by rw [HBt.out, List.take_of_length_le (by rw [List.length_zip]; omega)])
      clear hlt hi hpz HBt HPi HOi HP3 HO3 HB3
      go_wp2_with fail
      clear r1
      go_loopw [6, 9] (fun v6 v9 wr => ∃ (j : Nat) (Vj : PV) (bj : ByteArray), j ≤ H.length ∧ v6 = .string bj ∧ v9 = .int .i64 j ∧ Hid (bj = mkS (turnB j ((H.zip E).drop j))) ∧ Hid (Sync w2.heap.size b (q0 ((H.map metB).drop j)) Vj wr) ∧ Hid (Below w2.heap.size w2 wr)) (fun _ v9 _ => H.length - (RowKit.intOf v9).toNat)
      case atStart => exact ⟨0, Vi, bt, Nat.zero_le _, rfl, rfl, HBt2, HSy, HBi⟩
      case round =>
        clear HBt2 HSy hbz
        obtain ⟨j, Vj, bj, hj, rfl, rfl, HBj, HSj, HBlj⟩ := hrel
        rename World => Wj
        by_cases hlt : j < H.length
        · have HJ := Lib.hid (⟨hlt, by have := HK.out; omega⟩ : j < H.length ∧ j < E.length)
          have r1 : (j : Int) < (H.length : Int) := by omega
          have hi8 : j < 8 := by have := HK.out; omega
          have HZ := Lib.hid (zip_drop j hlt HK.out.2)
          have HM := Lib.hid (met_drop j hlt)
          generalize hhd : H.getD j false = h at *
          generalize hed : E.getD j false = e0 at *
          have HHd := Lib.hid hhd
          have HEd := Lib.hid hed
          have HI8 := Lib.hid hi8
          obtain ⟨rest, hrest⟩ : ∃ r, r = turnB (j + 1) ((H.zip E).drop (j + 1)) := ⟨_, rfl⟩
          have hrl : rest.length ≤ 496 := by
            rw [hrest]
            have h3 := turnB_len ((H.zip E).drop (j + 1)) (j + 1)
            have h4 : ((H.zip E).drop (j + 1)).length ≤ 8 := by rw [List.length_drop, List.length_zip]; omega
            omega
          have HRl := Lib.hid hrl
          have HRest := Lib.hid hrest
          have HB0 := Lib.hid (show bj = mkS (earO e0 ++ (finB j h ++ rest)) by rw [HBj.out, HZ.out, hrest]; rfl)
          obtain ⟨tl, htl⟩ : ∃ t, t = (H.map metB).drop (j + 1) := ⟨_, rfl⟩
          have HTl := Lib.hid htl
          have hsy0 : Sync w2.heap.size b (q0 (metB h :: tl)) Vj Wj := by have := HSj.out; rw [HM.out, ← htl] at this; exact this
          have HSy0 := Lib.hid hsy0
          clear hhd hed hi8 hrest htl hsy0 hrl HSj HBj HZ HM hlt hj
          go_wp2_with fail
          clear r1
          go_loopw [6, 10] (fun v6 v10 wr => ∃ (k : Nat) (Vk : PV) (bk : ByteArray), k ≤ 2 ∧ v6 = .string bk ∧ v10 = .int .i64 k ∧ Hid (bk = mkS (if k = 0 then earO e0 ++ (finB j h ++ rest) else if k = 1 then finB j h ++ rest else rest)) ∧ Hid (Sync w2.heap.size b (q0 (if k = 2 then tl else metB h :: tl)) Vk wr) ∧ Hid (Below w2.heap.size w2 wr)) (fun _ v10 _ => 2 - (RowKit.intOf v10).toNat)
          case atStart => exact ⟨0, Vj, bj, by omega, rfl, rfl, HB0, HSy0, HBlj⟩
          case round =>
            clear HB0 HSy0 HBlj
            obtain ⟨k, Vk, bk, hk, rfl, rfl, HBk, HSk, HBlk⟩ := hrel
            rename World => Wk
            have hcells : ∀ W', Below w2.heap.size w2 W' → ∃ x1 y1 x2 y2, a1 = some ⟨x1, y1, none⟩ ∧ a2 = some ⟨x2, y2, none⟩ ∧ W'.cell? ⟨x1, y1 + j, none⟩ = some (.bool h) ∧ W'.cell? ⟨x2, y2 + j, none⟩ = some (.bool e0) := by
              intro W' hb
              obtain ⟨x1, y1, e1, k1⟩ := bools_at (H1.out W' (HBB.out W' hb)) j HJ.out.1
              obtain ⟨x2, y2, e2, k2⟩ := bools_at (H2.out W' (HBB.out W' hb)) j HJ.out.2
              rw [HHd.out] at k1
              rw [HEd.out] at k2
              exact ⟨x1, y1, x2, y2, e1, e2, k1, k2⟩
            obtain ⟨x1, y1, x2, y2, rfl, rfl, k1, k2⟩ := hcells Wk HBlk.out
            have hcell1 : ∀ W', Below w2.heap.size w2 W' → W'.cell? ⟨x1, y1 + j, none⟩ = some (.bool h) := by
              intro W' hb
              obtain ⟨x, y, x', y', e1, e2, c1, c2⟩ := hcells W' hb
              injection e1 with e1; injection e1 with e1 e3; subst e1 e3; exact c1
            have HC1 := Lib.hid hcell1
            have s0 : (0 : Int) ≤ (j : Int) := by omega
            have s1 : (j : Int) < (H.length : Int) := by have := HJ.out; omega
            have s2 : (j : Int) < (E.length : Int) := by have := HJ.out; omega
            clear hcells hcell1
            rcases (show k = 0 ∨ k = 1 ∨ k = 2 by omega) with rfl | rfl | rfl
            · -- the early one
              have HB0 := Lib.hid (show bk = mkS (earO e0 ++ (finB j h ++ rest)) from HBk.out)
              have HS0 := Lib.hid (show Sync w2.heap.size b (q0 (metB h :: tl)) Vk Wk from HSk.out)
              clear HBk HSk hk
              cases e0
              · go_wp2_with fail
                go_round
                case rel => exact ⟨1, Vk, bk, by omega, rfl, rfl, Lib.hid (by rw [HB0.out]; rfl), HS0, HBlk⟩
                case measure => simp [RowKit.intOf]
              · obtain ⟨f1, f2, f3, f4⟩ := ear_of h tl
                have hbs : bs bk = earB ++ (finB j h ++ rest) := by rw [HB0.out, bs_mkS]; rfl
                have hfw := feed_whole (finB j h ++ rest) f1 f2
                have hfl := finB_len j h
                have hbz : bk.size ≤ 600 := by rw [← length_bs, hbs, List.length_append, List.length_append]; have := HRl.out; have : earB.length = 22 := rfl; omega
                have hbz2 : 22 ≤ bk.size := by rw [← length_bs, hbs, List.length_append]; have : earB.length = 22 := rfl; omega
                have hfd := pfeedG_any bk HS0.out (q0_ok _) (by show 0 + bk.size ≤ 100000; omega) (HVe.out Wk HBlk.out)
                obtain ⟨n, hn⟩ : ∃ n, n = earB.length := ⟨_, rfl⟩
                have hn1 : 1 ≤ n := by rw [hn]; decide
                have hbz3 : n ≤ bk.size := by rw [hn]; exact hbz2
                have HNn := Lib.hid hn
                rw [hbs, hfw, ← hn] at hfd
                simp only at hfd
                rw [f3] at hfd
                obtain ⟨S1, hS1⟩ : ∃ S1, S1 = (feedP (q0 (metB h :: tl)) earB).2 := ⟨_, rfl⟩
                rw [← hS1] at hfd f2 f3 f4
                have hwt : waitP S1 = true := by unfold waitP; simp [f2, f3]
                have hrp : S1.rsp = true := by rw [hS1]; exact (feedP_lim earB (q0 (metB h :: tl))).2.2.2.2.1
                have hfr := fresh_ear (metB h) tl earB hS1 (by omega)
                have HFr := Lib.hid hfr
                have HS1 := Lib.hid (⟨hwt, hrp, f4⟩ : _ ∧ _ ∧ _)
                have HFd := Lib.hid hfd
                have HBs := Lib.hid hbs
                clear f1 f2 f3 f4 hbs hfw hfl hfd hS1 hwt hrp hfr HB0 hn hbz2
                unfold ptr at HFd
                go_wp2_with fail
                refine HFd.out.mono ?_
                rintro e w5 ⟨rfl, V5, hs5, ht5⟩
                have HB5 := Lib.hid (HBlk.out.trans (HS0.out.toBelow ht5))
                have HNx := Lib.hid (pnextE_any hs5 HS1.out.2.1 (by have := HS1.out.2.2; omega) HS1.out.1)
                obtain ⟨q5, hp5⟩ := hs5.par
                obtain ⟨af, cf, hvf, -⟩ := isFlds_own hp5.flds
                obtain ⟨at_, ct, hvt, -⟩ := isFlds_own hp5.trl
                have hms : (msgL S1.msg V5.f V5.t).toArray = #[.string (mkS S1.msg.m), .string (mkS S1.msg.t), .int .i64 S1.msg.st, .string (mkS S1.msg.r), .int .i64 S1.msg.mi, .slice af S1.msg.f.length cf, .string (mkS S1.msg.body), .slice at_ S1.msg.tr.length ct] := by unfold msgL; rw [hvf, hvt]
                rw [hms, show S1.msg.st = 103 from HS1.out.2.2] at HNx
                have HBn := Lib.hid (fun (W' : World) (hn : NxPost w2.heap.size b S1 V5 w5 W') => show Below w2.heap.size w2 W' from by
                  obtain ⟨V', _, t', _⟩ := hn
                  exact HB5.out.trans (t'.toBelow hp5 (fun _ e => e.elim)))
                clear hs5 ht5 q5 hp5 hvf hvt hms HFd HS0
                generalize mkS S1.msg.m = X0 at *
                generalize mkS S1.msg.t = X1 at *
                generalize mkS S1.msg.r = X3 at *
                generalize mkS S1.msg.body = X6 at *
                generalize S1.msg.mi = X4 at *
                generalize S1.msg.f.length = X5 at *
                generalize S1.msg.tr.length = X7 at *
                unfold ptr at HNx
                go_wp2_with fail
                refine HNx.out.mono ?_
                rintro e w6 ⟨rfl, hn6⟩
                have HN6 := Lib.hid hn6
                have HB6 := Lib.hid (HBn.out w6 hn6)
                clear hn6 HNx HBn HB5 k1 k2
                go_wp2_with fail
                have hAl : Below w6.heap.size w6 (w6.alloc (.cells #[.string X0, .string X1, .int .i64 (103 : Nat), .string X3, .int .i64 X4, .slice af X5 cf, .string X6, .slice at_ X7 ct] 32)) := (Below.refl _ _).alloc (Nat.le_refl _) _
                have hbx : (w6.alloc (.cells #[.string X0, .string X1, .int .i64 (103 : Nat), .string X3, .int .i64 X4, .slice af X5 cf, .string X6, .slice at_ X7 ct] 32)).heap[w6.heap.size]? = some (.cells #[.string X0, .string X1, .int .i64 (103 : Nat), .string X3, .int .i64 X4, .slice af X5 cf, .string X6, .slice at_ X7 ct] 32 (0, 0)) := heap_alloc_last w6 _
                have z2 : (w6.alloc (.cells #[.string X0, .string X1, .int .i64 (103 : Nat), .string X3, .int .i64 X4, .slice af X5 cf, .string X6, .slice at_ X7 ct] 32)).drew.cell? ⟨w6.heap.size, 2, none⟩ = some (.int .i64 103) := (Lib.cell_of_heap hbx 2).trans rfl
                have HB7 := Lib.hid (HB6.out.trans (hAl.mono HB6.out.size))
                have HSf := Lib.hid (show ∃ V7, Sync w2.heap.size b (q0 (metB h :: tl)) V7 (w6.alloc (.cells #[.string X0, .string X1, .int .i64 (103 : Nat), .string X3, .int .i64 X4, .slice af X5 cf, .string X6, .slice at_ X7 ct] 32)).drew by
                  obtain ⟨V', s', _, _⟩ := HN6.out
                  rw [HFr.out] at s'
                  exact ⟨V', s'.below (hAl.trans ⟨rfl, rfl, rfl, Nat.le_refl _, fun _ _ => rfl⟩)⟩)
                generalize w6.alloc (.cells #[.string X0, .string X1, .int .i64 (103 : Nat), .string X3, .int .i64 X4, .slice af X5 cf, .string X6, .slice at_ X7 ct] 32) = w7 at *
                generalize w6.heap.size = g7 at *
                have i1 : ¬ (n : Int) < 1 := by omega
                have i2 : ¬ (bk.size : Int) < (n : Int) := by omega
                have i3 : (n : Int) ≤ (bk.size : Int) := by omega
                have i4 : (0 : Int) ≤ (n : Int) := by omega
                clear hAl hbx HN6 HB6 s0 s1 s2

                refine wp_region_held_drew (S := (fun w' => w'.cell? ⟨g7, 2, none⟩ = some (.int .i64 103))) (by kernel_rfl) z2 (fun hHeld => ?_)
                refine wpAnyH_take (i := 0) (v := ?_) rfl (by kernel_rfl) (by kernel_rfl) (by kernel_rfl) (fun _ _ _ h => h) (Or.inl ⟨by kernel_rfl, ?_⟩) (by assumption) ?_
                case refine_2 => (intro w hSw; (try dsimp only at hSw); go_simp; try with_reducible rfl)
                try simp only [Act.put, List.getElem_toArray, List.getElem_cons_zero, List.setIfInBounds_toArray, List.set_cons_zero, List.set_cons_succ]
                refine wpAnyH_take (i := 1) (v := ?_) rfl (by kernel_rfl) (by kernel_rfl) (by kernel_rfl) (fun _ _ _ h => h) (Or.inl ⟨by kernel_rfl, ?_⟩) (by assumption) ?_
                case refine_2 => (intro w hSw; (try dsimp only at hSw); go_simp; try with_reducible rfl)
                try simp only [Act.put, List.getElem_toArray, List.getElem_cons_succ, List.getElem_cons_zero, List.setIfInBounds_toArray, List.set_cons_zero, List.set_cons_succ]
                refine wpAnyH_take (i := 2) (v := ?_) rfl (by kernel_rfl) (by kernel_rfl) (by kernel_rfl) (fun _ _ _ h => h) (Or.inl ⟨by kernel_rfl, ?_⟩) (by assumption) ?_
                case refine_2 => (intro w hSw; (try dsimp only at hSw); go_simp; try with_reducible rfl)
                try simp only [Act.put, List.getElem_toArray, List.getElem_cons_succ, List.getElem_cons_zero, List.setIfInBounds_toArray, List.set_cons_zero, List.set_cons_succ]
                refine wpAnyH_take (i := 3) (v := ?_) rfl (by kernel_rfl) (by kernel_rfl) (by kernel_rfl) (fun _ _ _ h => h) (Or.inl ⟨by kernel_rfl, ?_⟩) (by assumption) ?_
                case refine_2 => (intro w hSw; (try dsimp only at hSw); go_simp; try with_reducible rfl)
                try simp only [Act.put, List.getElem_toArray, List.getElem_cons_succ, List.getElem_cons_zero, List.setIfInBounds_toArray, List.set_cons_zero, List.set_cons_succ]
                refine wpAnyH_take (i := 4) (v := ?_) rfl (by kernel_rfl) (by kernel_rfl) (by kernel_rfl) (fun _ _ _ h => h) (Or.inl ⟨by kernel_rfl, ?_⟩) (by assumption) ?_
                case refine_2 => (intro w hSw; (try dsimp only at hSw); go_simp; try with_reducible rfl)
                try simp only [Act.put, List.getElem_toArray, List.getElem_cons_succ, List.getElem_cons_zero, List.setIfInBounds_toArray, List.set_cons_zero, List.set_cons_succ]
                refine wpAnyH_take (i := 5) (v := ?_) rfl (by kernel_rfl) (by kernel_rfl) (by kernel_rfl) (fun _ _ _ h => h) (Or.inl ⟨by kernel_rfl, ?_⟩) (by assumption) ?_
                case refine_2 => (intro w hSw; (try dsimp only at hSw); go_simp; try with_reducible rfl)
                try simp only [Act.put, List.getElem_toArray, List.getElem_cons_succ, List.getElem_cons_zero, List.setIfInBounds_toArray, List.set_cons_zero, List.set_cons_succ]
                refine wpAnyH_take (i := 6) (v := ?_) rfl (by kernel_rfl) (by kernel_rfl) (by kernel_rfl) (fun _ _ _ h => h) (Or.inl ⟨by kernel_rfl, ?_⟩) (by assumption) ?_
                case refine_2 => (intro w hSw; (try dsimp only at hSw); go_simp; try with_reducible rfl)
                try simp only [Act.put, List.getElem_toArray, List.getElem_cons_succ, List.getElem_cons_zero, List.setIfInBounds_toArray, List.set_cons_zero, List.set_cons_succ]
                refine wpAnyH_take (i := 7) (v := ?_) rfl (by kernel_rfl) (by kernel_rfl) (by kernel_rfl) (fun _ _ _ h => h) (Or.inl ⟨by kernel_rfl, ?_⟩) (by assumption) ?_
                case refine_2 => (intro w hSw; (try dsimp only at hSw); go_simp; try with_reducible rfl)
                try simp only [Act.put, List.getElem_toArray, List.getElem_cons_succ, List.getElem_cons_zero, List.setIfInBounds_toArray, List.set_cons_zero, List.set_cons_succ]
                refine wpAnyH_take (i := 8) (v := ?_) rfl (by kernel_rfl) (by kernel_rfl) (by kernel_rfl) (fun _ _ _ h => h) (Or.inl ⟨by kernel_rfl, ?_⟩) (by assumption) ?_
                case refine_2 => (intro w hSw; (try dsimp only at hSw); go_simp; try with_reducible rfl)
                try simp only [Act.put, List.getElem_toArray, List.getElem_cons_succ, List.getElem_cons_zero, List.setIfInBounds_toArray, List.set_cons_zero, List.set_cons_succ]
                refine wpAnyH_take (i := 9) (v := ?_) rfl (by kernel_rfl) (by kernel_rfl) (by kernel_rfl) (fun _ _ _ h => h) (Or.inl ⟨by kernel_rfl, ?_⟩) (by assumption) ?_
                case refine_2 => (intro w hSw; (try dsimp only at hSw); go_simp; try with_reducible rfl)
                try simp only [Act.put, List.getElem_toArray, List.getElem_cons_succ, List.getElem_cons_zero, List.setIfInBounds_toArray, List.set_cons_zero, List.set_cons_succ]
                refine wpAnyH_take (i := 10) (v := ?_) rfl (by kernel_rfl) (by kernel_rfl) (by kernel_rfl) (fun _ _ _ h => h) (Or.inl ⟨by kernel_rfl, ?_⟩) (by assumption) ?_
                case refine_2 => (intro w hSw; (try dsimp only at hSw); go_simp; try with_reducible rfl)
                try simp only [Act.put, List.getElem_toArray, List.getElem_cons_succ, List.getElem_cons_zero, List.setIfInBounds_toArray, List.set_cons_zero, List.set_cons_succ]
                refine wpAnyH_take (i := 11) (v := ?_) rfl (by kernel_rfl) (by kernel_rfl) (by kernel_rfl) (fun _ _ _ h => h) (Or.inl ⟨by kernel_rfl, ?_⟩) (by assumption) ?_
                case refine_2 => (intro w hSw; (try dsimp only at hSw); go_simp; try with_reducible rfl)
                try simp only [Act.put, List.getElem_toArray, List.getElem_cons_succ, List.getElem_cons_zero, List.setIfInBounds_toArray, List.set_cons_zero, List.set_cons_succ]
                refine wpAnyH_take (i := 12) (v := ?_) rfl (by kernel_rfl) (by kernel_rfl) (by kernel_rfl) (fun _ _ _ h => h) (Or.inl ⟨by kernel_rfl, ?_⟩) (by assumption) ?_
                case refine_2 => (intro w hSw; (try dsimp only at hSw); go_simp; try with_reducible rfl)
                try simp only [Act.put, List.getElem_toArray, List.getElem_cons_succ, List.getElem_cons_zero, List.setIfInBounds_toArray, List.set_cons_zero, List.set_cons_succ]
                refine wpAnyH_take (i := 13) (v := ?_) rfl (by kernel_rfl) (by kernel_rfl) (by kernel_rfl) (fun _ _ _ h => h) (Or.inl ⟨by kernel_rfl, ?_⟩) (by assumption) ?_
                case refine_2 => (intro w hSw; (try dsimp only at hSw); go_simp; try with_reducible rfl)
                try simp only [Act.put, List.getElem_toArray, List.getElem_cons_succ, List.getElem_cons_zero, List.setIfInBounds_toArray, List.set_cons_zero, List.set_cons_succ]
                refine wpAnyH_take (i := 14) (v := ?_) rfl (by kernel_rfl) (by kernel_rfl) (by kernel_rfl) (fun _ _ _ h => h) (Or.inl ⟨by kernel_rfl, ?_⟩) (by assumption) ?_
                case refine_2 => (intro w hSw; (try dsimp only at hSw); go_simp; try with_reducible rfl)
                try simp only [Act.put, List.getElem_toArray, List.getElem_cons_succ, List.getElem_cons_zero, List.setIfInBounds_toArray, List.set_cons_zero, List.set_cons_succ]
                refine wpAnyH_take (i := 15) (v := ?_) rfl (by kernel_rfl) (by kernel_rfl) (by kernel_rfl) (fun _ _ _ h => h) (Or.inl ⟨by kernel_rfl, ?_⟩) (by assumption) ?_
                case refine_2 => (intro w hSw; (try dsimp only at hSw); go_simp; try with_reducible rfl)
                try simp only [Act.put, List.getElem_toArray, List.getElem_cons_succ, List.getElem_cons_zero, List.setIfInBounds_toArray, List.set_cons_zero, List.set_cons_succ]
                refine wpAnyH_take (i := 16) (v := ?_) rfl (by kernel_rfl) (by kernel_rfl) (by kernel_rfl) (fun _ _ _ h => h) (Or.inl ⟨by kernel_rfl, ?_⟩) (by assumption) ?_
                case refine_2 => (intro w hSw; (try dsimp only at hSw); go_simp; try with_reducible rfl)
                try simp only [Act.put, List.getElem_toArray, List.getElem_cons_succ, List.getElem_cons_zero, List.setIfInBounds_toArray, List.set_cons_zero, List.set_cons_succ]
                refine wpAnyH_take (i := 17) (v := ?_) rfl (by kernel_rfl) (by kernel_rfl) (by kernel_rfl) (fun _ _ _ h => h) (Or.inl ⟨by kernel_rfl, ?_⟩) (by assumption) ?_
                case refine_2 => (intro w hSw; (try dsimp only at hSw); go_simp; try with_reducible rfl)
                try simp only [Act.put, List.getElem_toArray, List.getElem_cons_succ, List.getElem_cons_zero, List.setIfInBounds_toArray, List.set_cons_zero, List.set_cons_succ]
                refine wpAnyH_take (i := 18) (v := ?_) rfl (by kernel_rfl) (by kernel_rfl) (by kernel_rfl) (fun _ _ _ h => h) (Or.inl ⟨by kernel_rfl, ?_⟩) (by assumption) ?_
                case refine_2 => (intro w hSw; (try dsimp only at hSw); go_simp; try with_reducible rfl)
                try simp only [Act.put, List.getElem_toArray, List.getElem_cons_succ, List.getElem_cons_zero, List.setIfInBounds_toArray, List.set_cons_zero, List.set_cons_succ]
                refine wpAnyH_take (i := 19) (v := ?_) rfl (by kernel_rfl) (by kernel_rfl) (by kernel_rfl) (fun _ _ _ h => h) (Or.inl ⟨by kernel_rfl, ?_⟩) (by assumption) ?_
                case refine_2 => (intro w hSw; (try dsimp only at hSw); go_simp; try with_reducible rfl)
                try simp only [Act.put, List.getElem_toArray, List.getElem_cons_succ, List.getElem_cons_zero, List.setIfInBounds_toArray, List.set_cons_zero, List.set_cons_succ]
                refine wpAnyH_take (i := 20) (v := ?_) rfl (by kernel_rfl) (by kernel_rfl) (by kernel_rfl) (fun _ _ _ h => h) (Or.inl ⟨by kernel_rfl, ?_⟩) (by assumption) ?_
                case refine_2 => (intro w hSw; (try dsimp only at hSw); go_simp; try with_reducible rfl)
                try simp only [Act.put, List.getElem_toArray, List.getElem_cons_succ, List.getElem_cons_zero, List.setIfInBounds_toArray, List.set_cons_zero, List.set_cons_succ]
                refine wpAnyH_take (i := 21) (v := ?_) rfl (by kernel_rfl) (by kernel_rfl) (by kernel_rfl) (fun _ _ _ h => h) (Or.inl ⟨by kernel_rfl, ?_⟩) (by assumption) ?_
                case refine_2 => (intro w hSw; (try dsimp only at hSw); go_simp; try with_reducible rfl)
                try simp only [Act.put, List.getElem_toArray, List.getElem_cons_succ, List.getElem_cons_zero, List.setIfInBounds_toArray, List.set_cons_zero, List.set_cons_succ]
                refine wpAnyH_take (i := 22) (v := ?_) rfl (by kernel_rfl) (by kernel_rfl) (by kernel_rfl) (fun _ _ _ h => h) (Or.inl ⟨by kernel_rfl, ?_⟩) (by assumption) ?_
                case refine_2 => (intro w hSw; (try dsimp only at hSw); go_simp; try with_reducible rfl)
                try simp only [Act.put, List.getElem_toArray, List.getElem_cons_succ, List.getElem_cons_zero, List.setIfInBounds_toArray, List.set_cons_zero, List.set_cons_succ]
                refine wpAnyH_take (i := 23) (v := ?_) rfl (by kernel_rfl) (by kernel_rfl) (by kernel_rfl) (fun _ _ _ h => h) (Or.inl ⟨by kernel_rfl, ?_⟩) (by assumption) ?_
                case refine_2 => (intro w hSw; (try dsimp only at hSw); go_simp; try with_reducible rfl)
                try simp only [Act.put, List.getElem_toArray, List.getElem_cons_succ, List.getElem_cons_zero, List.setIfInBounds_toArray, List.set_cons_zero, List.set_cons_succ]
                refine wpAnyH_take (i := 24) (v := ?_) rfl (by kernel_rfl) (by kernel_rfl) (by kernel_rfl) (fun _ _ _ h => h) (Or.inl ⟨by kernel_rfl, ?_⟩) (by assumption) ?_
                case refine_2 => (intro w hSw; (try dsimp only at hSw); go_simp; try with_reducible rfl)
                try simp only [Act.put, List.getElem_toArray, List.getElem_cons_succ, List.getElem_cons_zero, List.setIfInBounds_toArray, List.set_cons_zero, List.set_cons_succ]
                refine wpAnyH_take (i := 25) (v := ?_) rfl (by kernel_rfl) (by kernel_rfl) (by kernel_rfl) (fun _ _ _ h => h) (Or.inl ⟨by kernel_rfl, ?_⟩) (by assumption) ?_
                case refine_2 => (intro w hSw; (try dsimp only at hSw); go_simp; try with_reducible rfl)
                try simp only [Act.put, List.getElem_toArray, List.getElem_cons_succ, List.getElem_cons_zero, List.setIfInBounds_toArray, List.set_cons_zero, List.set_cons_succ]
                refine wpAnyH_take (i := 26) (v := ?_) rfl (by kernel_rfl) (by kernel_rfl) (by kernel_rfl) (fun _ _ _ h => h) (Or.inl ⟨by kernel_rfl, ?_⟩) (by assumption) ?_
                case refine_2 => (intro w hSw; (try dsimp only at hSw); go_simp; try with_reducible rfl)
                try simp only [Act.put, List.getElem_toArray, List.getElem_cons_succ, List.getElem_cons_zero, List.setIfInBounds_toArray, List.set_cons_zero, List.set_cons_succ]
                refine wpAnyH_take (i := 27) (v := ?_) rfl (by kernel_rfl) (by kernel_rfl) (by kernel_rfl) (fun _ _ _ h => h) (Or.inl ⟨by kernel_rfl, ?_⟩) (by assumption) ?_
                case refine_2 => (intro w hSw; (try dsimp only at hSw); go_simp; try with_reducible rfl)
                try simp only [Act.put, List.getElem_toArray, List.getElem_cons_succ, List.getElem_cons_zero, List.setIfInBounds_toArray, List.set_cons_zero, List.set_cons_succ]
                refine wpAnyH_take (i := 28) (v := ?_) rfl (by kernel_rfl) (by kernel_rfl) (by kernel_rfl) (fun _ _ _ h => h) (Or.inl ⟨by kernel_rfl, ?_⟩) (by assumption) ?_
                case refine_2 => (intro w hSw; (try dsimp only at hSw); go_simp; try with_reducible rfl)
                try simp only [Act.put, List.getElem_toArray, List.getElem_cons_succ, List.getElem_cons_zero, List.setIfInBounds_toArray, List.set_cons_zero, List.set_cons_succ]
                refine wpAnyH_take (i := 29) (v := undef) rfl (by kernel_rfl) (by kernel_rfl) (by kernel_rfl) (fun _ _ _ h => h) (Or.inr ⟨by kernel_rfl, rfl⟩) (by assumption) ?_
                try simp only [Act.put, List.getElem_toArray, List.getElem_cons_succ, List.getElem_cons_zero, List.setIfInBounds_toArray, List.set_cons_zero, List.set_cons_succ]
                refine wpAnyH_take (i := 30) (v := undef) rfl (by kernel_rfl) (by kernel_rfl) (by kernel_rfl) (fun _ _ _ h => h) (Or.inr ⟨by kernel_rfl, rfl⟩) (by assumption) ?_
                try simp only [Act.put, List.getElem_toArray, List.getElem_cons_succ, List.getElem_cons_zero, List.setIfInBounds_toArray, List.set_cons_zero, List.set_cons_succ]
                refine wpAnyH_take (i := 31) (v := undef) rfl (by kernel_rfl) (by kernel_rfl) (by kernel_rfl) (fun _ _ _ h => h) (Or.inr ⟨by kernel_rfl, rfl⟩) (by assumption) ?_
                try simp only [Act.put, List.getElem_toArray, List.getElem_cons_succ, List.getElem_cons_zero, List.setIfInBounds_toArray, List.set_cons_zero, List.set_cons_succ]
                refine wpAnyH_take (i := 32) (v := undef) rfl (by kernel_rfl) (by kernel_rfl) (by kernel_rfl) (fun _ _ _ h => h) (Or.inr ⟨by kernel_rfl, rfl⟩) (by assumption) ?_
                try simp only [Act.put, List.getElem_toArray, List.getElem_cons_succ, List.getElem_cons_zero, List.setIfInBounds_toArray, List.set_cons_zero, List.set_cons_succ]
                refine wpAnyH_take (i := 33) (v := undef) rfl (by kernel_rfl) (by kernel_rfl) (by kernel_rfl) (fun _ _ _ h => h) (Or.inr ⟨by kernel_rfl, rfl⟩) (by assumption) ?_
                try simp only [Act.put, List.getElem_toArray, List.getElem_cons_succ, List.getElem_cons_zero, List.setIfInBounds_toArray, List.set_cons_zero, List.set_cons_succ]
                refine wpAnyH_take (i := 34) (v := undef) rfl (by kernel_rfl) (by kernel_rfl) (by kernel_rfl) (fun _ _ _ h => h) (Or.inr ⟨by kernel_rfl, rfl⟩) (by assumption) ?_
                try simp only [Act.put, List.getElem_toArray, List.getElem_cons_succ, List.getElem_cons_zero, List.setIfInBounds_toArray, List.set_cons_zero, List.set_cons_succ]
                refine wpAnyH_take (i := 35) (v := undef) rfl (by kernel_rfl) (by kernel_rfl) (by kernel_rfl) (fun _ _ _ h => h) (Or.inr ⟨by kernel_rfl, rfl⟩) (by assumption) ?_
                try simp only [Act.put, List.getElem_toArray, List.getElem_cons_succ, List.getElem_cons_zero, List.setIfInBounds_toArray, List.set_cons_zero, List.set_cons_succ]
                refine wpAnyH_take (i := 36) (v := undef) rfl (by kernel_rfl) (by kernel_rfl) (by kernel_rfl) (fun _ _ _ h => h) (Or.inr ⟨by kernel_rfl, rfl⟩) (by assumption) ?_
                try simp only [Act.put, List.getElem_toArray, List.getElem_cons_succ, List.getElem_cons_zero, List.setIfInBounds_toArray, List.set_cons_zero, List.set_cons_succ]
                refine wpAnyH_take (i := 37) (v := undef) rfl (by kernel_rfl) (by kernel_rfl) (by kernel_rfl) (fun _ _ _ h => h) (Or.inr ⟨by kernel_rfl, rfl⟩) (by assumption) ?_
                try simp only [Act.put, List.getElem_toArray, List.getElem_cons_succ, List.getElem_cons_zero, List.setIfInBounds_toArray, List.set_cons_zero, List.set_cons_succ]
                refine wpAnyH_take (i := 38) (v := undef) rfl (by kernel_rfl) (by kernel_rfl) (by kernel_rfl) (fun _ _ _ h => h) (Or.inr ⟨by kernel_rfl, rfl⟩) (by assumption) ?_
                try simp only [Act.put, List.getElem_toArray, List.getElem_cons_succ, List.getElem_cons_zero, List.setIfInBounds_toArray, List.set_cons_zero, List.set_cons_succ]
                refine wpAnyH_take (i := 39) (v := undef) rfl (by kernel_rfl) (by kernel_rfl) (by kernel_rfl) (fun _ _ _ h => h) (Or.inr ⟨by kernel_rfl, rfl⟩) (by assumption) ?_
                try simp only [Act.put, List.getElem_toArray, List.getElem_cons_succ, List.getElem_cons_zero, List.setIfInBounds_toArray, List.set_cons_zero, List.set_cons_succ]
                refine wpAnyH_take (i := 40) (v := undef) rfl (by kernel_rfl) (by kernel_rfl) (by kernel_rfl) (fun _ _ _ h => h) (Or.inr ⟨by kernel_rfl, rfl⟩) (by assumption) ?_
                try simp only [Act.put, List.getElem_toArray, List.getElem_cons_succ, List.getElem_cons_zero, List.setIfInBounds_toArray, List.set_cons_zero, List.set_cons_succ]
                refine wpAnyH_take (i := 41) (v := undef) rfl (by kernel_rfl) (by kernel_rfl) (by kernel_rfl) (fun _ _ _ h => h) (Or.inr ⟨by kernel_rfl, rfl⟩) (by assumption) ?_
                try simp only [Act.put, List.getElem_toArray, List.getElem_cons_succ, List.getElem_cons_zero, List.setIfInBounds_toArray, List.set_cons_zero, List.set_cons_succ]
                refine wpAnyH_take (i := 42) (v := undef) rfl (by kernel_rfl) (by kernel_rfl) (by kernel_rfl) (fun _ _ _ h => h) (Or.inr ⟨by kernel_rfl, rfl⟩) (by assumption) ?_
                try simp only [Act.put, List.getElem_toArray, List.getElem_cons_succ, List.getElem_cons_zero, List.setIfInBounds_toArray, List.set_cons_zero, List.set_cons_succ]
                refine wpAnyH_take (i := 43) (v := undef) rfl (by kernel_rfl) (by kernel_rfl) (by kernel_rfl) (fun _ _ _ h => h) (Or.inr ⟨by kernel_rfl, rfl⟩) (by assumption) ?_
                try simp only [Act.put, List.getElem_toArray, List.getElem_cons_succ, List.getElem_cons_zero, List.setIfInBounds_toArray, List.set_cons_zero, List.set_cons_succ]
                refine wpAnyH_take (i := 44) (v := undef) rfl (by kernel_rfl) (by kernel_rfl) (by kernel_rfl) (fun _ _ _ h => h) (Or.inr ⟨by kernel_rfl, rfl⟩) (by assumption) ?_
                try simp only [Act.put, List.getElem_toArray, List.getElem_cons_succ, List.getElem_cons_zero, List.setIfInBounds_toArray, List.set_cons_zero, List.set_cons_succ]
                refine wpAnyH_take (i := 45) (v := undef) rfl (by kernel_rfl) (by kernel_rfl) (by kernel_rfl) (fun _ _ _ h => h) (Or.inr ⟨by kernel_rfl, rfl⟩) (by assumption) ?_
                try simp only [Act.put, List.getElem_toArray, List.getElem_cons_succ, List.getElem_cons_zero, List.setIfInBounds_toArray, List.set_cons_zero, List.set_cons_succ]
                refine wpAnyH_take (i := 46) (v := undef) rfl (by kernel_rfl) (by kernel_rfl) (by kernel_rfl) (fun _ _ _ h => h) (Or.inr ⟨by kernel_rfl, rfl⟩) (by assumption) ?_
                try simp only [Act.put, List.getElem_toArray, List.getElem_cons_succ, List.getElem_cons_zero, List.setIfInBounds_toArray, List.set_cons_zero, List.set_cons_succ]
                refine wpAnyH_take (i := 47) (v := undef) rfl (by kernel_rfl) (by kernel_rfl) (by kernel_rfl) (fun _ _ _ h => h) (Or.inr ⟨by kernel_rfl, rfl⟩) (by assumption) ?_
                try simp only [Act.put, List.getElem_toArray, List.getElem_cons_succ, List.getElem_cons_zero, List.setIfInBounds_toArray, List.set_cons_zero, List.set_cons_succ]
                refine wpAnyH_take (i := 48) (v := undef) rfl (by kernel_rfl) (by kernel_rfl) (by kernel_rfl) (fun _ _ _ h => h) (Or.inr ⟨by kernel_rfl, rfl⟩) (by assumption) ?_
                try simp only [Act.put, List.getElem_toArray, List.getElem_cons_succ, List.getElem_cons_zero, List.setIfInBounds_toArray, List.set_cons_zero, List.set_cons_succ]
                refine wpAnyH_take (i := 49) (v := ?_) rfl (by kernel_rfl) (by kernel_rfl) (by kernel_rfl) (fun _ _ _ h => h) (Or.inl ⟨by kernel_rfl, ?_⟩) (by assumption) ?_
                case refine_2 => (intro w hSw; (try dsimp only at hSw); go_simp; try with_reducible rfl)
                try simp only [Act.put, List.getElem_toArray, List.getElem_cons_succ, List.getElem_cons_zero, List.setIfInBounds_toArray, List.set_cons_zero, List.set_cons_succ]
                refine wpAnyH_take (i := 50) (v := ?_) rfl (by kernel_rfl) (by kernel_rfl) (by kernel_rfl) (fun _ _ _ h => h) (Or.inl ⟨by kernel_rfl, ?_⟩) (by assumption) ?_
                case refine_2 => (intro w hSw; (try dsimp only at hSw); go_simp; try with_reducible rfl)
                try simp only [Act.put, List.getElem_toArray, List.getElem_cons_succ, List.getElem_cons_zero, List.setIfInBounds_toArray, List.set_cons_zero, List.set_cons_succ]
                refine wpAnyH_done (by kernel_rfl) ?_ _
                go_wp2_with fail
                go_round
                case rel =>
                  obtain ⟨V7, hs7⟩ := HSf.out
                  refine ⟨1, V7, bk.extract n bk.size, by omega, rfl, rfl, Lib.hid ?_, Lib.hid hs7, Lib.hid (HB7.out.trans ⟨rfl, rfl, rfl, Nat.le_refl _, fun _ _ => rfl⟩)⟩
                  show _ = mkS (finB j h ++ rest)
                  have h3 : bs (bk.extract n bk.size) = finB j h ++ rest := by
                    rw [bs_extract, HBs.out, List.take_of_length_le (by rw [List.length_drop, ← HBs.out, length_bs]; exact Nat.le_refl _), HNn.out, List.drop_left]
                  rw [← h3, mkS_bs]
                case measure => simp [RowKit.intOf]
            · -- the final one
              have HB0 := Lib.hid (show bk = mkS (finB j h ++ rest) from HBk.out)
              have HS0 := Lib.hid (show Sync w2.heap.size b (q0 (metB h :: tl)) Vk Wk from HSk.out)
              clear HBk HSk hk
              obtain ⟨f1, f2, f3, f4, f5, f6⟩ := fin_of j HI8.out h tl
              have hbs : bs bk = finB j h ++ rest := by rw [HB0.out, bs_mkS]
              have hfw := feed_whole rest f1 f2
              have hfl := finB_len j h
              obtain ⟨n, hn⟩ : ∃ n, n = (finB j h).length := ⟨_, rfl⟩
              have hn1 : 1 ≤ n := by rw [hn]; unfold finB stB; simp
              have hbz : bk.size ≤ 600 := by rw [← length_bs, hbs, List.length_append]; have := HRl.out; omega
              have hbz2 : n ≤ bk.size := by rw [← length_bs, hbs, List.length_append]; omega
              have hfd := pfeedG_any bk HS0.out (q0_ok _) (by show 0 + bk.size ≤ 100000; omega) (HVe.out Wk HBlk.out)
              rw [hbs, hfw, ← hn] at hfd
              simp only at hfd
              rw [f3] at hfd
              obtain ⟨S1, hS1⟩ : ∃ S1, S1 = (feedP (q0 (metB h :: tl)) (finB j h)).2 := ⟨_, rfl⟩
              rw [← hS1] at hfd f2 f3 f4 f5 f6
              have hwt : waitP S1 = true := by unfold waitP; simp [f2, f3]
              have hlm := feedP_lim (finB j h) (q0 (metB h :: tl))
              have hrp : S1.rsp = true := by rw [hS1]; exact hlm.2.2.2.2.1
              have hak : S1.asked = metB h :: tl := by rw [hS1]; exact hlm.2.2.2.2.2
              have hfr := fresh_fin (metB h) tl (finB j h) hS1 (by omega)
              have HFr := Lib.hid hfr
              have HS1 := Lib.hid (⟨hwt, hrp, hak, f4, f5, f6⟩ : _ ∧ _ ∧ _ ∧ _ ∧ _ ∧ _)
              have HFd := Lib.hid hfd
              have HBs := Lib.hid hbs
              have HNn := Lib.hid hn
              clear f1 f2 f3 f4 f5 f6 hbs hfw hfl hfd hS1 hwt hrp hlm hak hfr HB0 hn
              unfold ptr at HFd
              go_wp2_with fail
              refine HFd.out.mono ?_
              rintro e w5 ⟨rfl, V5, hs5, ht5⟩
              have HB5 := Lib.hid (HBlk.out.trans (HS0.out.toBelow ht5))
              have HNx := Lib.hid (pnextL_any hs5 HS1.out.2.1 HS1.out.2.2.1 (by have := HS1.out.2.2.2.1; omega) HS1.out.1)
              obtain ⟨q5, hp5⟩ := hs5.par
              obtain ⟨af, cf, hvf, -⟩ := isFlds_own hp5.flds
              obtain ⟨at_, ct, hvt, -⟩ := isFlds_own hp5.trl
              have hms : (msgL S1.msg V5.f V5.t).toArray = #[.string (mkS S1.msg.m), .string (mkS S1.msg.t), .int .i64 S1.msg.st, .string (mkS S1.msg.r), .int .i64 S1.msg.mi, .slice af S1.msg.f.length cf, .string (mkS S1.msg.body), .slice at_ S1.msg.tr.length ct] := by unfold msgL; rw [hvf, hvt]
              rw [hms, show S1.msg.st = 200 from HS1.out.2.2.2.1, show S1.msg.r = digN j from HS1.out.2.2.2.2.1, show S1.msg.body = xyB h from HS1.out.2.2.2.2.2] at HNx
              have HBn := Lib.hid (fun (W' : World) (hn : NxPost w2.heap.size b S1 V5 w5 W') => show Below w2.heap.size w2 W' from by
                obtain ⟨V', _, t', _⟩ := hn
                exact HB5.out.trans (t'.toBelow hp5 (fun _ e => e.elim)))
              have HDi := Lib.hid (fun W' : World => digits_any j W' (by have := HI8.out; omega))
              clear hs5 ht5 q5 hp5 hvf hvt hms HFd HS0
              generalize mkS S1.msg.m = X0 at *
              generalize mkS S1.msg.t = X1 at *
              generalize mkS (digN j) = X3 at *
              generalize S1.msg.mi = X4 at *
              generalize S1.msg.f.length = X5 at *
              generalize S1.msg.tr.length = X7 at *
              unfold ptr at HNx
              go_wp2_with fail
              refine HNx.out.mono ?_
              rintro e w6 ⟨rfl, hn6⟩
              have HN6 := Lib.hid hn6
              have HB6 := Lib.hid (HBn.out w6 hn6)
              clear hn6 HNx HBn HB5 k1 k2
              go_wp2_with fail
              cases h
              all_goals
                first
                  | (have hX6 : mkS (xyB false) = ⟨#[120, 121]⟩ := rfl; rw [show xyB false = [120, 121] from rfl]; obtain ⟨X6, hX6'⟩ : ∃ X, X = mkS [120, 121] := ⟨_, rfl⟩; rw [← hX6']; have t6 : (X6.toList == ([120, 121] : List UInt8)) = true := by rw [hX6', toList_bs, bs_mkS]; rfl)
                  | (obtain ⟨X6, hX6'⟩ : ∃ X, X = mkS (xyB true) := ⟨_, rfl⟩; rw [← hX6']; have t6 : (X6.toList == ([120, 121] : List UInt8)) = false := by rw [hX6', toList_bs, bs_mkS]; rfl)
                have hAl : Below w6.heap.size w6 (w6.alloc (.cells #[.string X0, .string X1, .int .i64 (200 : Nat), .string X3, .int .i64 X4, .slice af X5 cf, .string X6, .slice at_ X7 ct] 32)) := (Below.refl _ _).alloc (Nat.le_refl _) _
                have hbx : (w6.alloc (.cells #[.string X0, .string X1, .int .i64 (200 : Nat), .string X3, .int .i64 X4, .slice af X5 cf, .string X6, .slice at_ X7 ct] 32)).heap[w6.heap.size]? = some (.cells #[.string X0, .string X1, .int .i64 (200 : Nat), .string X3, .int .i64 X4, .slice af X5 cf, .string X6, .slice at_ X7 ct] 32 (0, 0)) := heap_alloc_last w6 _
                have z2 : (w6.alloc (.cells #[.string X0, .string X1, .int .i64 (200 : Nat), .string X3, .int .i64 X4, .slice af X5 cf, .string X6, .slice at_ X7 ct] 32)).drew.cell? ⟨w6.heap.size, 2, none⟩ = some (.int .i64 200) := (Lib.cell_of_heap hbx 2).trans rfl
                have z3 : (w6.alloc (.cells #[.string X0, .string X1, .int .i64 (200 : Nat), .string X3, .int .i64 X4, .slice af X5 cf, .string X6, .slice at_ X7 ct] 32)).drew.cell? ⟨w6.heap.size, 3, none⟩ = some (.string X3) := (Lib.cell_of_heap hbx 3).trans rfl
                have z6 : (w6.alloc (.cells #[.string X0, .string X1, .int .i64 (200 : Nat), .string X3, .int .i64 X4, .slice af X5 cf, .string X6, .slice at_ X7 ct] 32)).drew.cell? ⟨w6.heap.size, 6, none⟩ = some (.string X6) := (Lib.cell_of_heap hbx 6).trans rfl
                have HB7 := Lib.hid (HB6.out.trans (hAl.mono HB6.out.size))
                have zh := HC1.out _ (HB7.out.trans (show Below w2.heap.size _ (w6.alloc (.cells #[.string X0, .string X1, .int .i64 (200 : Nat), .string X3, .int .i64 X4, .slice af X5 cf, .string X6, .slice at_ X7 ct] 32)).drew from ⟨rfl, rfl, rfl, Nat.le_refl _, fun _ _ => rfl⟩))
                have HSf := Lib.hid (show ∃ V7, Sync w2.heap.size b (q0 tl) V7 (w6.alloc (.cells #[.string X0, .string X1, .int .i64 (200 : Nat), .string X3, .int .i64 X4, .slice af X5 cf, .string X6, .slice at_ X7 ct] 32)).drew by
                  obtain ⟨V', s', _, _⟩ := HN6.out
                  rw [HFr.out] at s'
                  exact ⟨V', s'.below (hAl.trans ⟨rfl, rfl, rfl, Nat.le_refl _, fun _ _ => rfl⟩)⟩)
                generalize w6.alloc (.cells #[.string X0, .string X1, .int .i64 (200 : Nat), .string X3, .int .i64 X4, .slice af X5 cf, .string X6, .slice at_ X7 ct] 32) = w7 at *
                generalize w6.heap.size = g7 at *
                have i1 : ¬ (n : Int) < 1 := by omega
                have i2 : ¬ (bk.size : Int) < (n : Int) := by omega
                have i3 : (n : Int) ≤ (bk.size : Int) := by omega
                have i4 : (0 : Int) ≤ (n : Int) := by omega
                have t3 : (X3.toList != X3.toList) = false := by simp
                clear hAl hbx HN6 HB6 s2 hX6'
                try clear hX6

                refine wp_region_held_drew (S := (fun w' => w'.cell? ⟨g7, 2, none⟩ = some (.int .i64 200) ∧ w'.cell? ⟨g7, 3, none⟩ = some (.string X3) ∧ w'.cell? ⟨g7, 6, none⟩ = some (.string X6) ∧ w'.cell? ⟨x1, y1 + j, none⟩ = some (.bool _))) (by kernel_rfl) ⟨z2, z3, z6, zh⟩ (fun hHeld => ?_)
                refine wpAnyH_take (i := 0) (v := ?_) rfl (by kernel_rfl) (by kernel_rfl) (by kernel_rfl) (fun _ _ _ h => h) (Or.inl ⟨by kernel_rfl, ?_⟩) (by assumption) ?_
                case refine_2 => (intro w hSw; (try dsimp only at hSw); go_simp; try with_reducible rfl)
                try simp only [Act.put, List.getElem_toArray, List.getElem_cons_zero, List.setIfInBounds_toArray, List.set_cons_zero, List.set_cons_succ]
                refine wpAnyH_take (i := 1) (v := ?_) rfl (by kernel_rfl) (by kernel_rfl) (by kernel_rfl) (fun _ _ _ h => h) (Or.inl ⟨by kernel_rfl, ?_⟩) (by assumption) ?_
                case refine_2 => (intro w hSw; (try dsimp only at hSw); go_simp; try with_reducible rfl)
                try simp only [Act.put, List.getElem_toArray, List.getElem_cons_succ, List.getElem_cons_zero, List.setIfInBounds_toArray, List.set_cons_zero, List.set_cons_succ]
                refine wpAnyH_take (i := 2) (v := ?_) rfl (by kernel_rfl) (by kernel_rfl) (by kernel_rfl) (fun _ _ _ h => h) (Or.inl ⟨by kernel_rfl, ?_⟩) (by assumption) ?_
                case refine_2 => (intro w hSw; (try dsimp only at hSw); go_simp; try with_reducible rfl)
                try simp only [Act.put, List.getElem_toArray, List.getElem_cons_succ, List.getElem_cons_zero, List.setIfInBounds_toArray, List.set_cons_zero, List.set_cons_succ]
                refine wpAnyH_take (i := 3) (v := ?_) rfl (by kernel_rfl) (by kernel_rfl) (by kernel_rfl) (fun _ _ _ h => h) (Or.inl ⟨by kernel_rfl, ?_⟩) (by assumption) ?_
                case refine_2 => (intro w hSw; (try dsimp only at hSw); go_simp; try with_reducible rfl)
                try simp only [Act.put, List.getElem_toArray, List.getElem_cons_succ, List.getElem_cons_zero, List.setIfInBounds_toArray, List.set_cons_zero, List.set_cons_succ]
                refine wpAnyH_take (i := 4) (v := ?_) rfl (by kernel_rfl) (by kernel_rfl) (by kernel_rfl) (fun _ _ _ h => h) (Or.inl ⟨by kernel_rfl, ?_⟩) (by assumption) ?_
                case refine_2 => (intro w hSw; (try dsimp only at hSw); go_simp; try with_reducible rfl)
                try simp only [Act.put, List.getElem_toArray, List.getElem_cons_succ, List.getElem_cons_zero, List.setIfInBounds_toArray, List.set_cons_zero, List.set_cons_succ]
                refine wpAnyH_take (i := 5) (v := ?_) rfl (by kernel_rfl) (by kernel_rfl) (by kernel_rfl) (fun _ _ _ h => h) (Or.inl ⟨by kernel_rfl, ?_⟩) (by assumption) ?_
                case refine_2 => (intro w hSw; (try dsimp only at hSw); go_simp; try with_reducible rfl)
                try simp only [Act.put, List.getElem_toArray, List.getElem_cons_succ, List.getElem_cons_zero, List.setIfInBounds_toArray, List.set_cons_zero, List.set_cons_succ]
                refine wpAnyH_take (i := 6) (v := ?_) rfl (by kernel_rfl) (by kernel_rfl) (by kernel_rfl) (fun _ _ _ h => h) (Or.inl ⟨by kernel_rfl, ?_⟩) (by assumption) ?_
                case refine_2 => (intro w hSw; (try dsimp only at hSw); go_simp; try with_reducible rfl)
                try simp only [Act.put, List.getElem_toArray, List.getElem_cons_succ, List.getElem_cons_zero, List.setIfInBounds_toArray, List.set_cons_zero, List.set_cons_succ]
                refine wpAnyH_take (i := 7) (v := ?_) rfl (by kernel_rfl) (by kernel_rfl) (by kernel_rfl) (fun _ _ _ h => h) (Or.inl ⟨by kernel_rfl, ?_⟩) (by assumption) ?_
                case refine_2 => (intro w hSw; (try dsimp only at hSw); go_simp; try with_reducible rfl)
                try simp only [Act.put, List.getElem_toArray, List.getElem_cons_succ, List.getElem_cons_zero, List.setIfInBounds_toArray, List.set_cons_zero, List.set_cons_succ]
                refine wpAnyH_take (i := 8) (v := ?_) rfl (by kernel_rfl) (by kernel_rfl) (by kernel_rfl) (fun _ _ _ h => h) (Or.inl ⟨by kernel_rfl, ?_⟩) (by assumption) ?_
                case refine_2 => (intro w hSw; (try dsimp only at hSw); go_simp; try with_reducible rfl)
                try simp only [Act.put, List.getElem_toArray, List.getElem_cons_succ, List.getElem_cons_zero, List.setIfInBounds_toArray, List.set_cons_zero, List.set_cons_succ]
                refine wpAnyH_take (i := 9) (v := ?_) rfl (by kernel_rfl) (by kernel_rfl) (by kernel_rfl) (fun _ _ _ h => h) (Or.inl ⟨by kernel_rfl, ?_⟩) (by assumption) ?_
                case refine_2 => (intro w hSw; (try dsimp only at hSw); go_simp; try with_reducible rfl)
                try simp only [Act.put, List.getElem_toArray, List.getElem_cons_succ, List.getElem_cons_zero, List.setIfInBounds_toArray, List.set_cons_zero, List.set_cons_succ]
                refine wpAnyH_take (i := 10) (v := ?_) rfl (by kernel_rfl) (by kernel_rfl) (by kernel_rfl) (fun _ _ _ h => h) (Or.inl ⟨by kernel_rfl, ?_⟩) (by assumption) ?_
                case refine_2 => (intro w hSw; (try dsimp only at hSw); go_simp; try with_reducible rfl)
                try simp only [Act.put, List.getElem_toArray, List.getElem_cons_succ, List.getElem_cons_zero, List.setIfInBounds_toArray, List.set_cons_zero, List.set_cons_succ]
                refine wpAnyH_take (i := 11) (v := ?_) rfl (by kernel_rfl) (by kernel_rfl) (by kernel_rfl) (fun _ _ _ h => h) (Or.inl ⟨by kernel_rfl, ?_⟩) (by assumption) ?_
                case refine_2 => (intro w hSw; (try dsimp only at hSw); go_simp; try with_reducible rfl)
                try simp only [Act.put, List.getElem_toArray, List.getElem_cons_succ, List.getElem_cons_zero, List.setIfInBounds_toArray, List.set_cons_zero, List.set_cons_succ]
                refine wpAnyH_take (i := 12) (v := ?_) rfl (by kernel_rfl) (by kernel_rfl) (by kernel_rfl) (fun _ _ _ h => h) (Or.inl ⟨by kernel_rfl, ?_⟩) (by assumption) ?_
                case refine_2 => (intro w hSw; (try dsimp only at hSw); go_simp; try with_reducible rfl)
                try simp only [Act.put, List.getElem_toArray, List.getElem_cons_succ, List.getElem_cons_zero, List.setIfInBounds_toArray, List.set_cons_zero, List.set_cons_succ]
                refine wpAnyH_take (i := 13) (v := ?_) rfl (by kernel_rfl) (by kernel_rfl) (by kernel_rfl) (fun _ _ _ h => h) (Or.inl ⟨by kernel_rfl, ?_⟩) (by assumption) ?_
                case refine_2 => (intro w hSw; (try dsimp only at hSw); go_simp; try with_reducible rfl)
                try simp only [Act.put, List.getElem_toArray, List.getElem_cons_succ, List.getElem_cons_zero, List.setIfInBounds_toArray, List.set_cons_zero, List.set_cons_succ]
                refine wpAnyH_take (i := 14) (v := ?_) rfl (by kernel_rfl) (by kernel_rfl) (by kernel_rfl) (fun _ _ _ h => h) (Or.inl ⟨by kernel_rfl, ?_⟩) (by assumption) ?_
                case refine_2 => (intro w hSw; (try dsimp only at hSw); go_simp; try with_reducible rfl)
                try simp only [Act.put, List.getElem_toArray, List.getElem_cons_succ, List.getElem_cons_zero, List.setIfInBounds_toArray, List.set_cons_zero, List.set_cons_succ]
                refine wpAnyH_take (i := 15) (v := ?_) rfl (by kernel_rfl) (by kernel_rfl) (by kernel_rfl) (fun _ _ _ h => h) (Or.inl ⟨by kernel_rfl, ?_⟩) (by assumption) ?_
                case refine_2 => (intro w hSw; (try dsimp only at hSw); go_simp; try with_reducible rfl)
                try simp only [Act.put, List.getElem_toArray, List.getElem_cons_succ, List.getElem_cons_zero, List.setIfInBounds_toArray, List.set_cons_zero, List.set_cons_succ]
                refine wpAnyH_take (i := 16) (v := ?_) rfl (by kernel_rfl) (by kernel_rfl) (by kernel_rfl) (fun _ _ _ h => h) (Or.inl ⟨by kernel_rfl, ?_⟩) (by assumption) ?_
                case refine_2 => (intro w hSw; (try dsimp only at hSw); go_simp; try with_reducible rfl)
                try simp only [Act.put, List.getElem_toArray, List.getElem_cons_succ, List.getElem_cons_zero, List.setIfInBounds_toArray, List.set_cons_zero, List.set_cons_succ]
                refine wpAnyH_take (i := 17) (v := ?_) rfl (by kernel_rfl) (by kernel_rfl) (by kernel_rfl) (fun _ _ _ h => h) (Or.inl ⟨by kernel_rfl, ?_⟩) (by assumption) ?_
                case refine_2 => (intro w hSw; (try dsimp only at hSw); go_simp; try with_reducible rfl)
                try simp only [Act.put, List.getElem_toArray, List.getElem_cons_succ, List.getElem_cons_zero, List.setIfInBounds_toArray, List.set_cons_zero, List.set_cons_succ]
                refine wpAnyH_take (i := 18) (v := ?_) rfl (by kernel_rfl) (by kernel_rfl) (by kernel_rfl) (fun _ _ _ h => h) (Or.inl ⟨by kernel_rfl, ?_⟩) (by assumption) ?_
                case refine_2 => (intro w hSw; (try dsimp only at hSw); go_simp; try with_reducible rfl)
                try simp only [Act.put, List.getElem_toArray, List.getElem_cons_succ, List.getElem_cons_zero, List.setIfInBounds_toArray, List.set_cons_zero, List.set_cons_succ]
                refine wpAnyH_take (i := 19) (v := ?_) rfl (by kernel_rfl) (by kernel_rfl) (by kernel_rfl) (fun _ _ _ h => h) (Or.inl ⟨by kernel_rfl, ?_⟩) (by assumption) ?_
                case refine_2 => (intro w hSw; (try dsimp only at hSw); go_simp; try with_reducible rfl)
                try simp only [Act.put, List.getElem_toArray, List.getElem_cons_succ, List.getElem_cons_zero, List.setIfInBounds_toArray, List.set_cons_zero, List.set_cons_succ]
                refine wpAnyH_take (i := 20) (v := undef) rfl (by kernel_rfl) (by kernel_rfl) (by kernel_rfl) (fun _ _ _ h => h) (Or.inr ⟨by kernel_rfl, rfl⟩) (by assumption) ?_
                try simp only [Act.put, List.getElem_toArray, List.getElem_cons_succ, List.getElem_cons_zero, List.setIfInBounds_toArray, List.set_cons_zero, List.set_cons_succ]
                refine wpAnyH_take (i := 21) (v := undef) rfl (by kernel_rfl) (by kernel_rfl) (by kernel_rfl) (fun _ _ _ h => h) (Or.inr ⟨by kernel_rfl, rfl⟩) (by assumption) ?_
                try simp only [Act.put, List.getElem_toArray, List.getElem_cons_succ, List.getElem_cons_zero, List.setIfInBounds_toArray, List.set_cons_zero, List.set_cons_succ]
                refine wpAnyH_take (i := 22) (v := undef) rfl (by kernel_rfl) (by kernel_rfl) (by kernel_rfl) (fun _ _ _ h => h) (Or.inr ⟨by kernel_rfl, rfl⟩) (by assumption) ?_
                try simp only [Act.put, List.getElem_toArray, List.getElem_cons_succ, List.getElem_cons_zero, List.setIfInBounds_toArray, List.set_cons_zero, List.set_cons_succ]
                refine wpAnyH_take (i := 23) (v := ?_) rfl (by kernel_rfl) (by kernel_rfl) (by kernel_rfl) (fun _ _ _ h => h) (Or.inl ⟨by kernel_rfl, ?_⟩) (by assumption) ?_
                case refine_2 => (intro w hSw; (try dsimp only at hSw); go_simp; try with_reducible rfl)
                try simp only [Act.put, List.getElem_toArray, List.getElem_cons_succ, List.getElem_cons_zero, List.setIfInBounds_toArray, List.set_cons_zero, List.set_cons_succ]
                refine wpAnyH_take (i := 24) (v := ?_) rfl (by kernel_rfl) (by kernel_rfl) (by kernel_rfl) (fun _ _ _ h => h) (Or.inl ⟨by kernel_rfl, ?_⟩) (by assumption) ?_
                case refine_2 => (intro w hSw; (try dsimp only at hSw); go_simp; try with_reducible rfl)
                try simp only [Act.put, List.getElem_toArray, List.getElem_cons_succ, List.getElem_cons_zero, List.setIfInBounds_toArray, List.set_cons_zero, List.set_cons_succ]
                refine wpAnyH_take (i := 25) (v := ?_) rfl (by kernel_rfl) (by kernel_rfl) (by kernel_rfl) (fun _ _ _ h => h) (Or.inl ⟨by kernel_rfl, ?_⟩) (by assumption) ?_
                case refine_2 => (intro w hSw; (try dsimp only at hSw); go_simp; try with_reducible rfl)
                try simp only [Act.put, List.getElem_toArray, List.getElem_cons_succ, List.getElem_cons_zero, List.setIfInBounds_toArray, List.set_cons_zero, List.set_cons_succ]
                refine wpAnyH_take (i := 26) (v := ?_) rfl (by kernel_rfl) (by kernel_rfl) (by kernel_rfl) (fun _ _ _ h => h) (Or.inl ⟨by kernel_rfl, ?_⟩) (by assumption) ?_
                case refine_2 => (intro w hSw; (try dsimp only at hSw); go_simp; try with_reducible rfl)
                try simp only [Act.put, List.getElem_toArray, List.getElem_cons_succ, List.getElem_cons_zero, List.setIfInBounds_toArray, List.set_cons_zero, List.set_cons_succ]
                refine wpAnyH_take (i := 27) (v := ?_) rfl (by kernel_rfl) (by kernel_rfl) (by kernel_rfl) (fun _ _ _ h => h) (Or.inl ⟨by kernel_rfl, ?_⟩) (by assumption) ?_
                case refine_2 => (intro w hSw; (try dsimp only at hSw); go_simp; try with_reducible rfl)
                try simp only [Act.put, List.getElem_toArray, List.getElem_cons_succ, List.getElem_cons_zero, List.setIfInBounds_toArray, List.set_cons_zero, List.set_cons_succ]
                refine wpAnyH_take (i := 28) (v := ?_) rfl (by kernel_rfl) (by kernel_rfl) (by kernel_rfl) (fun _ _ _ h => h) (Or.inl ⟨by kernel_rfl, ?_⟩) (by assumption) ?_
                case refine_2 => (intro w hSw; (try dsimp only at hSw); go_simp; try with_reducible rfl)
                try simp only [Act.put, List.getElem_toArray, List.getElem_cons_succ, List.getElem_cons_zero, List.setIfInBounds_toArray, List.set_cons_zero, List.set_cons_succ]
                refine wpAnyH_take (i := 29) (v := ?_) rfl (by kernel_rfl) (by kernel_rfl) (by kernel_rfl) (fun _ _ _ h => h) (Or.inl ⟨by kernel_rfl, ?_⟩) (by assumption) ?_
                case refine_2 => (intro w hSw; (try dsimp only at hSw); go_simp; try with_reducible rfl)
                try simp only [Act.put, List.getElem_toArray, List.getElem_cons_succ, List.getElem_cons_zero, List.setIfInBounds_toArray, List.set_cons_zero, List.set_cons_succ]
                refine wpAnyH_take (i := 30) (v := ?_) rfl (by kernel_rfl) (by kernel_rfl) (by kernel_rfl) (fun _ _ _ h => h) (Or.inl ⟨by kernel_rfl, ?_⟩) (by assumption) ?_
                case refine_2 => (intro w hSw; (try dsimp only at hSw); go_simp; try with_reducible rfl)
                try simp only [Act.put, List.getElem_toArray, List.getElem_cons_succ, List.getElem_cons_zero, List.setIfInBounds_toArray, List.set_cons_zero, List.set_cons_succ]
                refine wpAnyH_take (i := 31) (v := ?_) rfl (by kernel_rfl) (by kernel_rfl) (by kernel_rfl) (fun _ _ _ h => h) (Or.inl ⟨by kernel_rfl, ?_⟩) (by assumption) ?_
                case refine_2 => (intro w hSw; (try dsimp only at hSw); go_simp; try with_reducible rfl)
                try simp only [Act.put, List.getElem_toArray, List.getElem_cons_succ, List.getElem_cons_zero, List.setIfInBounds_toArray, List.set_cons_zero, List.set_cons_succ]
                refine wpAnyH_take (i := 32) (v := ?_) rfl (by kernel_rfl) (by kernel_rfl) (by kernel_rfl) (fun _ _ _ h => h) (Or.inl ⟨by kernel_rfl, ?_⟩) (by assumption) ?_
                case refine_2 => (intro w hSw; (try dsimp only at hSw); go_simp; try with_reducible rfl)
                try simp only [Act.put, List.getElem_toArray, List.getElem_cons_succ, List.getElem_cons_zero, List.setIfInBounds_toArray, List.set_cons_zero, List.set_cons_succ]
                refine wpAnyH_take (i := 33) (v := ?_) rfl (by kernel_rfl) (by kernel_rfl) (by kernel_rfl) (fun _ _ _ h => h) (Or.inl ⟨by kernel_rfl, ?_⟩) (by assumption) ?_
                case refine_2 => (intro w hSw; (try dsimp only at hSw); go_simp; try with_reducible rfl)
                try simp only [Act.put, List.getElem_toArray, List.getElem_cons_succ, List.getElem_cons_zero, List.setIfInBounds_toArray, List.set_cons_zero, List.set_cons_succ]
                refine wpAnyH_take (i := 34) (v := ?_) rfl (by kernel_rfl) (by kernel_rfl) (by kernel_rfl) (fun _ _ _ h => h) (Or.inl ⟨by kernel_rfl, ?_⟩) (by assumption) ?_
                case refine_2 => (intro w hSw; (try dsimp only at hSw); go_simp; try with_reducible rfl)
                try simp only [Act.put, List.getElem_toArray, List.getElem_cons_succ, List.getElem_cons_zero, List.setIfInBounds_toArray, List.set_cons_zero, List.set_cons_succ]
                refine wpAnyH_take (i := 35) (v := ?_) rfl (by kernel_rfl) (by kernel_rfl) (by kernel_rfl) (fun _ _ _ h => h) (Or.inl ⟨by kernel_rfl, ?_⟩) (by assumption) ?_
                case refine_2 => (intro w hSw; (try dsimp only at hSw); go_simp; try with_reducible rfl)
                try simp only [Act.put, List.getElem_toArray, List.getElem_cons_succ, List.getElem_cons_zero, List.setIfInBounds_toArray, List.set_cons_zero, List.set_cons_succ]
                refine wpAnyH_ready (rs := [36]) (by kernel_rfl) (by simp) ?_
                refine AllReadyH.cons rfl (fun K hK => ?_) AllReadyH.nil
                go_simp
                refine (HDi.out _).mono ?_
                rintro e w8 ⟨rfl, rfl⟩
                go_simp
                refine hK.out _ _ (by assumption) (fun hHeld2 => ?_)
                clear hK K hHeld
                refine wpAnyH_take (i := 37) (v := ?_) rfl (by kernel_rfl) (by kernel_rfl) (by kernel_rfl) (fun _ _ _ h => h) (Or.inl ⟨by kernel_rfl, ?_⟩) (by assumption) ?_
                case refine_2 => (intro w hSw; (try dsimp only at hSw); go_simp; try with_reducible rfl)
                try simp only [Act.put, List.getElem_toArray, List.getElem_cons_succ, List.getElem_cons_zero, List.setIfInBounds_toArray, List.set_cons_zero, List.set_cons_succ]
                refine wpAnyH_take (i := 38) (v := ?_) rfl (by kernel_rfl) (by kernel_rfl) (by kernel_rfl) (fun _ _ _ h => h) (Or.inl ⟨by kernel_rfl, ?_⟩) (by assumption) ?_
                case refine_2 => (intro w hSw; (try dsimp only at hSw); go_simp; try with_reducible rfl)
                try simp only [Act.put, List.getElem_toArray, List.getElem_cons_succ, List.getElem_cons_zero, List.setIfInBounds_toArray, List.set_cons_zero, List.set_cons_succ]
                refine wpAnyH_take (i := 39) (v := ?_) rfl (by kernel_rfl) (by kernel_rfl) (by kernel_rfl) (fun _ _ _ h => h) (Or.inl ⟨by kernel_rfl, ?_⟩) (by assumption) ?_
                case refine_2 => (intro w hSw; (try dsimp only at hSw); go_simp; try with_reducible rfl)
                try simp only [Act.put, List.getElem_toArray, List.getElem_cons_succ, List.getElem_cons_zero, List.setIfInBounds_toArray, List.set_cons_zero, List.set_cons_succ]
                refine wpAnyH_take (i := 40) (v := ?_) rfl (by kernel_rfl) (by kernel_rfl) (by kernel_rfl) (fun _ _ _ h => h) (Or.inl ⟨by kernel_rfl, ?_⟩) (by assumption) ?_
                case refine_2 => (intro w hSw; (try dsimp only at hSw); go_simp; try with_reducible rfl)
                try simp only [Act.put, List.getElem_toArray, List.getElem_cons_succ, List.getElem_cons_zero, List.setIfInBounds_toArray, List.set_cons_zero, List.set_cons_succ]
                refine wpAnyH_take (i := 41) (v := ?_) rfl (by kernel_rfl) (by kernel_rfl) (by kernel_rfl) (fun _ _ _ h => h) (Or.inl ⟨by kernel_rfl, ?_⟩) (by assumption) ?_
                case refine_2 => (intro w hSw; (try dsimp only at hSw); go_simp; try with_reducible rfl)
                try simp only [Act.put, List.getElem_toArray, List.getElem_cons_succ, List.getElem_cons_zero, List.setIfInBounds_toArray, List.set_cons_zero, List.set_cons_succ]
                refine wpAnyH_take (i := 42) (v := ?_) rfl (by kernel_rfl) (by kernel_rfl) (by kernel_rfl) (fun _ _ _ h => h) (Or.inl ⟨by kernel_rfl, ?_⟩) (by assumption) ?_
                case refine_2 => (intro w hSw; (try dsimp only at hSw); go_simp; try with_reducible rfl)
                try simp only [Act.put, List.getElem_toArray, List.getElem_cons_succ, List.getElem_cons_zero, List.setIfInBounds_toArray, List.set_cons_zero, List.set_cons_succ]
                refine wpAnyH_take (i := 43) (v := ?_) rfl (by kernel_rfl) (by kernel_rfl) (by kernel_rfl) (fun _ _ _ h => h) (Or.inl ⟨by kernel_rfl, ?_⟩) (by assumption) ?_
                case refine_2 => (intro w hSw; (try dsimp only at hSw); go_simp; try with_reducible rfl)
                try simp only [Act.put, List.getElem_toArray, List.getElem_cons_succ, List.getElem_cons_zero, List.setIfInBounds_toArray, List.set_cons_zero, List.set_cons_succ]
                refine wpAnyH_take (i := 44) (v := ?_) rfl (by kernel_rfl) (by kernel_rfl) (by kernel_rfl) (fun _ _ _ h => h) (Or.inl ⟨by kernel_rfl, ?_⟩) (by assumption) ?_
                case refine_2 => (intro w hSw; (try dsimp only at hSw); go_simp; try with_reducible rfl)
                try simp only [Act.put, List.getElem_toArray, List.getElem_cons_succ, List.getElem_cons_zero, List.setIfInBounds_toArray, List.set_cons_zero, List.set_cons_succ]
                refine wpAnyH_take (i := 45) (v := ?_) rfl (by kernel_rfl) (by kernel_rfl) (by kernel_rfl) (fun _ _ _ h => h) (Or.inl ⟨by kernel_rfl, ?_⟩) (by assumption) ?_
                case refine_2 => (intro w hSw; (try dsimp only at hSw); go_simp; try with_reducible rfl)
                try simp only [Act.put, List.getElem_toArray, List.getElem_cons_succ, List.getElem_cons_zero, List.setIfInBounds_toArray, List.set_cons_zero, List.set_cons_succ]
                refine wpAnyH_take (i := 46) (v := ?_) rfl (by kernel_rfl) (by kernel_rfl) (by kernel_rfl) (fun _ _ _ h => h) (Or.inl ⟨by kernel_rfl, ?_⟩) (by assumption) ?_
                case refine_2 => (intro w hSw; (try dsimp only at hSw); go_simp; try with_reducible rfl)
                try simp only [Act.put, List.getElem_toArray, List.getElem_cons_succ, List.getElem_cons_zero, List.setIfInBounds_toArray, List.set_cons_zero, List.set_cons_succ]
                refine wpAnyH_take (i := 47) (v := ?_) rfl (by kernel_rfl) (by kernel_rfl) (by kernel_rfl) (fun _ _ _ h => h) (Or.inl ⟨by kernel_rfl, ?_⟩) (by assumption) ?_
                case refine_2 => (intro w hSw; (try dsimp only at hSw); go_simp; try with_reducible rfl)
                try simp only [Act.put, List.getElem_toArray, List.getElem_cons_succ, List.getElem_cons_zero, List.setIfInBounds_toArray, List.set_cons_zero, List.set_cons_succ]
                refine wpAnyH_take (i := 48) (v := ?_) rfl (by kernel_rfl) (by kernel_rfl) (by kernel_rfl) (fun _ _ _ h => h) (Or.inl ⟨by kernel_rfl, ?_⟩) (by assumption) ?_
                case refine_2 => (intro w hSw; (try dsimp only at hSw); go_simp; try with_reducible rfl)
                try simp only [Act.put, List.getElem_toArray, List.getElem_cons_succ, List.getElem_cons_zero, List.setIfInBounds_toArray, List.set_cons_zero, List.set_cons_succ]
                refine wpAnyH_take (i := 49) (v := ?_) rfl (by kernel_rfl) (by kernel_rfl) (by kernel_rfl) (fun _ _ _ h => h) (Or.inl ⟨by kernel_rfl, ?_⟩) (by assumption) ?_
                case refine_2 => (intro w hSw; (try dsimp only at hSw); go_simp; try with_reducible rfl)
                try simp only [Act.put, List.getElem_toArray, List.getElem_cons_succ, List.getElem_cons_zero, List.setIfInBounds_toArray, List.set_cons_zero, List.set_cons_succ]
                refine wpAnyH_take (i := 50) (v := ?_) rfl (by kernel_rfl) (by kernel_rfl) (by kernel_rfl) (fun _ _ _ h => h) (Or.inl ⟨by kernel_rfl, ?_⟩) (by assumption) ?_
                case refine_2 => (intro w hSw; (try dsimp only at hSw); go_simp; try with_reducible rfl)
                try simp only [Act.put, List.getElem_toArray, List.getElem_cons_succ, List.getElem_cons_zero, List.setIfInBounds_toArray, List.set_cons_zero, List.set_cons_succ]
                refine wpAnyH_done (by kernel_rfl) ?_ _
                go_wp2_with fail
                go_round
                case rel =>
                  obtain ⟨V7, hs7⟩ := HSf.out
                  refine ⟨2, V7, bk.extract n bk.size, by omega, rfl, rfl, Lib.hid ?_, Lib.hid hs7, Lib.hid (HB7.out.trans ⟨rfl, rfl, rfl, Nat.le_refl _, fun _ _ => rfl⟩)⟩
                  show _ = mkS rest
                  have h3 : bs (bk.extract n bk.size) = rest := by
                    rw [bs_extract, HBs.out, List.take_of_length_le (by rw [List.length_drop, ← HBs.out, length_bs]; exact Nat.le_refl _), HNn.out, List.drop_left]
                  rw [← h3, mkS_bs]
                case measure => simp [RowKit.intOf]
            · have HB0 := Lib.hid (show bk = mkS rest from HBk.out)
              have HS0 := Lib.hid (show Sync w2.heap.size b (q0 tl) Vk Wk from HSk.out)
              clear HBk HSk hk k1 k2
              go_wp2_with fail
              go_round
              case rel => exact ⟨j + 1, Vk, bk, by have := HJ.out; omega, rfl, by go_num, Lib.hid (by rw [HB0.out, HRest.out]), Lib.hid (by rw [← HTl.out]; exact HS0.out), HBlk⟩
              case measure => simp [RowKit.intOf]; have := HJ.out; omega
        · have hjl : j = H.length := by omega
          subst hjl
          have r1 : ¬ ((H.length : Nat) : Int) < (H.length : Int) := by omega
          have HB0 := Lib.hid (show bj = mkS [] by rw [HBj.out, List.drop_of_length_le (by rw [List.length_zip]; omega)]; rfl)
          have HS0 := Lib.hid (show Sync w2.heap.size b (q0 []) Vj Wj by have := HSj.out; rw [List.drop_of_length_le (by simp)] at this; exact this)
          have hfd := pfeedG_any ⟨#[120]⟩ HS0.out (q0_ok _) (by decide) (HVe.out Wj HBlj.out)
          rw [show feedP (q0 []) (bs ⟨#[120]⟩) = (0, q0 []) from rfl] at hfd
          have HFd := Lib.hid hfd
          have e1 : (bj.toList == ([] : List UInt8)) = true := by rw [HB0.out, toList_bs, bs_mkS]; rfl
          have e2 : bj.toList.isEmpty = true := by rw [HB0.out, toList_bs, bs_mkS]; rfl
          clear hlt hj HBj HSj hfd HB0
          unfold ptr at HFd
          go_wp2_with fail
          refine HFd.out.mono ?_
          rintro e w5 ⟨rfl, V5, hs5, ht5⟩
          have HB5 := Lib.hid (HBlj.out.trans (HS0.out.toBelow ht5))
          have HEn := Lib.hid (pendG_any hs5 (fun h => by cases h))
          have HS5 := Lib.hid hs5
          rw [show endP (q0 []) = q0 [] from rfl] at HEn
          clear hs5 ht5 HFd HS0
          unfold ptr at HEn
          go_wp2_with fail
          refine HEn.out.mono ?_
          rintro e w6 ⟨rfl, V6, hs6, ht6⟩
          have HB6 := Lib.hid (HB5.out.trans (HS5.out.toBelow ht6))
          clear hs6 ht6
          go_wp2_with fail
          go_ret
          exact ⟨rfl, HBB.out _ HB6.out⟩

theorem turns_any (v1 v2 : Value) (H E : List Bool) (w : World) (h1 : IsBools w v1 H) (h2 : IsBools w v2 E) (hv : ErrV w.heap.size w) :
    Calls Tryz.prog 8 #[v1, v2] w (Yes2 w) := by
  by_cases hk : 8 < H.length ∨ (H.length ≤ 8 ∧ E.length < H.length)
  · exact turns_big v1 v2 H E w h1 h2 hv hk
  · obtain ⟨a1, c1, rfl⟩ : ∃ a c, v1 = .slice a H.length c := by obtain ⟨a, c, h, -⟩ := h1; exact ⟨a, c, h⟩
    obtain ⟨a2, c2, rfl⟩ : ∃ a c, v2 = .slice a E.length c := by obtain ⟨a, c, h, -⟩ := h2; exact ⟨a, c, h⟩
    exact turns_main a1 a2 c1 c2 H E w h1 h2 hv (by omega) (by omega)
end Tk
end Go.Proofs.YtpcdaaijlgilkaaGreatDoor
