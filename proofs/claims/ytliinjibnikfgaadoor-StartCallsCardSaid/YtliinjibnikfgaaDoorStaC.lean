/- start's versions and request lines. -/
import Derived.Test.YtliinjibnikfgaaDoorStaB
import Derived.Test.YtliinjibnikfgaaDoorCut
namespace Go.Proofs.YtliinjibnikfgaaDoor
open Go.RowKit
namespace Tk

set_option maxHeartbeats 400000 in
theorem oneDigit_any (s : ByteArray) (w : World) :
    Calls Tryd.prog 102 #[.string s] w fun e w' => e = .returned (.bool (oneDig (bs s))) ∧ w = w' := by
  by_cases h1 : s.size = 1
  · have hp : 0 < s.size := by omega
    have hb : bs s = [s[0]] := by
      have e := bs_drop s 0 hp
      rw [List.drop_zero, List.drop_eq_nil_of_le (by rw [length_bs]; omega)] at e
      exact e
    have hv : oneDig (bs s) = isDig s[0] := by rw [hb]; unfold oneDig; simp
    have HV := Lib.hid hv
    have HD := Lib.hid (sdigit_any s[0] w)
    have e1 : ((s.size : Int) == 1) = true := by rw [beq_iff_eq]; omega
    clear hv hb h1
    go_enter Tryd.func102, Tryd.ntmps102
    go_wp2_with fail
    refine HD.out.mono ?_
    rintro e w' ⟨rfl, rfl⟩
    go_wp2_with fail
    go_ret
    exact ⟨retB (by rw [HV.out]), rfl⟩
  · have hv : oneDig (bs s) = false := by unfold oneDig; rw [length_bs, decide_eq_false h1]; rfl
    have HV := Lib.hid hv
    have e1 : ((s.size : Int) == 1) = false := by rw [beq_eq_false_iff_ne]; omega
    clear hv h1
    go_enter Tryd.func102, Tryd.ntmps102
    go_wp2_with fail
    go_ret
    exact ⟨retB (by rw [HV.out]), rfl⟩

set_option maxHeartbeats 400000 in
theorem supported_any (n : Int) (w : World) :
    Calls Tryd.prog 58 #[.int .i64 n] w fun e w' => e = .returned (.bool (decide (n = 0 ∨ n = 1))) ∧ w = w' := by
  by_cases h0 : n = 0
  · subst h0
    go_enter Tryd.func58, Tryd.ntmps58
    go_wp2_with fail
    go_ret
    exact ⟨rfl, rfl⟩
  · have e0 : (n == 0) = false := beq_eq_false_iff_ne.2 h0
    have HV := Lib.hid (show decide (n = 0 ∨ n = 1) = decide (n = 1) by simp [h0])
    clear h0
    go_enter Tryd.func58, Tryd.ntmps58
    go_wp2_with fail
    go_ret
    exact ⟨retB (by rw [HV.out]; rfl), rfl⟩

def VerPost (l : Bs) (w : World) (e : Ending) (w' : World) : Prop := e = .returned (.tuple #[.int .i64 (vMi l), .int .i64 (vSt l)]) ∧ Below w.heap.size w w'

theorem cutB_any (s : ByteArray) (c : UInt8) (w : World) (hs : s.size ≤ 1099511627776) :
    Calls Tryd.prog 52 #[.string s, .string ⟨#[c]⟩] w fun e w' => e = .returned (.tuple #[.string (mkS (cutL c (bs s)).1), .string (mkS (cutL c (bs s)).2.1), .bool (cutL c (bs s)).2.2]) ∧ Below w.heap.size w w' :=
  (cut_any s c w hs).mono fun _ _ ⟨h1, n, h2⟩ => ⟨h1, h2 ▸ bdraws w n⟩

theorem vN_len (l : Bs) : (vN l).length ≤ l.length := by
  unfold vN; split
  · rw [List.length_drop]; omega
  · exact Nat.le_refl _

theorem ne_str (A : Bs) (l : Bs) (h : A ≠ l) : ((mkS A).toList == l) = false := by
  rw [toList_bs, bs_mkS]; exact beq_eq_false_iff_ne.2 h
theorem eq_str (A : Bs) (l : Bs) (h : A = l) : ((mkS A).toList == l) = true := by
  rw [toList_bs, bs_mkS, h]; exact beq_self_eq_true l

theorem v_none (l : Bs) (h : vForm l = false) : vSt l = 400 ∧ vMi l = 0 := by
  have h1 : vSt l = 400 := by unfold vSt; rw [h]; rfl
  exact ⟨h1, by unfold vMi; rw [h1]; rfl⟩
theorem v_other (l : Bs) (h : vForm l = true) (hk : vKnown l = false) : vSt l = 505 ∧ vMi l = 0 := by
  have h1 : vSt l = 505 := by unfold vSt; rw [h, hk]; rfl
  exact ⟨h1, by unfold vMi; rw [h1]; rfl⟩
theorem v_known (l : Bs) (h : vForm l = true) (hk : vKnown l = true) : vSt l = 0 ∧ vMi l = ((vB l).getD 0 0).toNat - 48 := by
  have h1 : vSt l = 0 := by unfold vSt; rw [h, hk]; rfl
  exact ⟨h1, by unfold vMi; rw [h1]; rfl⟩

set_option maxHeartbeats 2000000 in
set_option maxRecDepth 100000 in
theorem version_any (s : ByteArray) (w : World) (hs : s.size ≤ 1099511627) :
    Calls Tryd.prog 53 #[.string s] w (VerPost (bs s) w) := by
  have hp := Tryd.strings_CutPrefix s ⟨#[72, 84, 84, 80, 47]⟩ w
  have hp2 : Calls Tryd.prog 64 #[.string s, .string ⟨#[72, 84, 84, 80, 47]⟩] w fun e w' => e = .returned (.tuple #[.string (mkS (vN (bs s))), .bool (httpL.isPrefixOf (bs s))]) ∧ w' = w := hp
  have hn := vN_len (bs s)
  rw [length_bs] at hn
  have hc := cutB_any (mkS (vN (bs s))) 46 w (by rw [size_mkS]; omega)
  rw [bs_mkS] at hc
  have hc2 : Calls Tryd.prog 52 #[.string (mkS (vN (bs s))), .string ⟨#[46]⟩] w fun e w' => e = .returned (.tuple #[.string (mkS (vA (bs s))), .string (mkS (vB (bs s))), .bool (cutL 46 (vN (bs s))).2.2]) ∧ Below w.heap.size w w' := hc
  have hA := fun W => oneDigit_any (mkS (vA (bs s))) W
  have hB := fun W => oneDigit_any (mkS (vB (bs s))) W
  rw [bs_mkS] at hA hB
  have hform : vForm (bs s) = (httpL.isPrefixOf (bs s) && (oneDig (vA (bs s)) && oneDig (vB (bs s)))) := rfl
  clear hp hc hn hs
  cases h1 : httpL.isPrefixOf (bs s)
  · rw [h1] at hp2 hform
    obtain ⟨r1, r2⟩ := v_none _ hform
    have R1 := Lib.hid r1
    have R2 := Lib.hid r2
    have HP := Lib.hid hp2
    have HC := Lib.hid hc2
    clear hp2 hc2 hA hB hform r1 r2 h1
    generalize (cutL 46 (vN (bs s))).2.2 = f at *
    go_enter Tryd.func53, Tryd.ntmps53
    go_wp2_with fail
    refine HP.out.mono ?_
    rintro e w' ⟨rfl, rfl⟩
    go_wp2_with fail
    refine HC.out.mono ?_
    rintro e w2 ⟨rfl, hb⟩
    have HB := Lib.hid hb
    clear hb
    go_wp2_with fail
    go_ret2
    exact ⟨by rw [R1.out, R2.out]; rfl, HB.out⟩
  · cases h2 : oneDig (vA (bs s))
    · rw [h2] at hA
      rw [h1, h2] at hform
      rw [h1] at hp2
      obtain ⟨r1, r2⟩ := v_none _ hform
      have R1 := Lib.hid r1
      have R2 := Lib.hid r2
      have HP := Lib.hid hp2
      have HC := Lib.hid hc2
      have HA := Lib.hid hA
      clear hp2 hc2 hA hB hform r1 r2 h1 h2
      generalize (cutL 46 (vN (bs s))).2.2 = f at *
      go_enter Tryd.func53, Tryd.ntmps53
      go_wp2_with fail
      refine HP.out.mono ?_
      rintro e w' ⟨rfl, rfl⟩
      go_wp2_with fail
      refine HC.out.mono ?_
      rintro e w2 ⟨rfl, hb⟩
      have HB := Lib.hid hb
      clear hb
      go_wp2_with fail
      refine (HA.out _).mono ?_
      rintro e w' ⟨rfl, rfl⟩
      go_wp2_with fail
      go_ret2
      exact ⟨by rw [R1.out, R2.out]; rfl, HB.out⟩
    · cases h3 : oneDig (vB (bs s))
      · rw [h2] at hA
        rw [h3] at hB
        rw [h1, h2, h3] at hform
        rw [h1] at hp2
        obtain ⟨r1, r2⟩ := v_none _ hform
        have R1 := Lib.hid r1
        have R2 := Lib.hid r2
        have HP := Lib.hid hp2
        have HC := Lib.hid hc2
        have HA := Lib.hid hA
        have HBd := Lib.hid hB
        clear hp2 hc2 hA hB hform r1 r2 h1 h2 h3
        generalize (cutL 46 (vN (bs s))).2.2 = f at *
        go_enter Tryd.func53, Tryd.ntmps53
        go_wp2_with fail
        refine HP.out.mono ?_
        rintro e w' ⟨rfl, rfl⟩
        go_wp2_with fail
        refine HC.out.mono ?_
        rintro e w2 ⟨rfl, hb⟩
        have HB := Lib.hid hb
        clear hb
        go_wp2_with fail
        refine (HA.out _).mono ?_
        rintro e w' ⟨rfl, rfl⟩
        go_wp2_with fail
        refine (HBd.out _).mono ?_
        rintro e w' ⟨rfl, rfl⟩
        go_wp2_with fail
        go_ret2
        exact ⟨by rw [R1.out, R2.out]; rfl, HB.out⟩
      · rw [h1, h2, h3] at hform
        obtain ⟨a, b, da, db, -, ea, eb⟩ := vForm_of _ hform
        rw [h2] at hA
        rw [h3] at hB
        rw [h1] at hp2
        have bda := dig_bd a da
        have bdb := dig_bd b db
        have hk : vKnown (bs s) = (decide (a = 49) && decide (b = 48 ∨ b = 49)) := by
          unfold vKnown; rw [ea, eb]; simp
        have hz : (mkS (vB (bs s))).size = 1 := by rw [size_mkS, eb]; rfl
        have hq : 0 < (mkS (vB (bs s))).size := by omega
        have hb0 : (mkS (vB (bs s)))[0] = b := by
          have := getD_bs (mkS (vB (bs s))) 0 hq
          rw [← this, bs_mkS, eb]; rfl
        have hb1 : (((mkS (vB (bs s)))[0]).toNat : Int) = (b.toNat : Int) := by rw [hb0]
        have HS := Lib.hid (fun W => supported_any ((b.toNat : Int) - 48) W)
        have hgd : (vB (bs s)).getD 0 0 = b := by rw [eb]; rfl
        have hvo := v_other (bs s) hform
        have hvk := v_known (bs s) hform
        rw [hgd] at hvk
        rw [hk] at hvo hvk
        have HP := Lib.hid hp2
        have HC := Lib.hid hc2
        have HA := Lib.hid hA
        have HBd := Lib.hid hB
        have k0 : (48 : Int) ≤ (b.toNat : Int) := by omega
        have k1 : (b.toNat : Int) ≤ 57 := by omega
        have HVO := Lib.hid hvo
        have HVK := Lib.hid hvk
        clear hp2 hc2 hA hB hform h1 h2 h3 hk hb0 hgd hvo hvk da db bda bdb
        by_cases h49 : a = 49
        · have es := eq_str _ _ (ea.trans (congrArg (fun x => [x]) h49))
          have hsup : decide ((b.toNat : Int) - 48 = 0 ∨ (b.toNat : Int) - 48 = 1) = decide (b = 48 ∨ b = 49) := by
            rw [Bool.eq_iff_iff]
            simp only [decide_eq_true_eq]
            rw [← UInt8.toNat_inj, ← UInt8.toNat_inj]
            show _ ↔ b.toNat = 48 ∨ b.toNat = 49
            omega
          rw [hsup] at HS
          clear ea eb hsup
          subst h49
          cases hd : decide (b = 48 ∨ b = 49)
          · rw [hd] at HS
            obtain ⟨r1, r2⟩ := HVO.out (by rw [hd]; rfl)
            have R1 := Lib.hid r1
            have R2 := Lib.hid r2
            clear hd r1 r2
            generalize mkS (vA (bs s)) = A at *
            generalize mkS (vB (bs s)) = B at *
            generalize (cutL 46 (vN (bs s))).2.2 = f at *
            go_enter Tryd.func53, Tryd.ntmps53
            go_wp2_with fail
            refine HP.out.mono ?_
            rintro e w' ⟨rfl, rfl⟩
            go_wp2_with fail
            refine HC.out.mono ?_
            rintro e w2 ⟨rfl, hb⟩
            have HB := Lib.hid hb
            clear hb
            go_wp2_with fail
            refine (HA.out _).mono ?_
            rintro e w' ⟨rfl, rfl⟩
            go_wp2_with fail
            refine (HBd.out _).mono ?_
            rintro e w' ⟨rfl, rfl⟩
            go_wp2_with fail
            refine (HS.out _).mono ?_
            rintro e w' ⟨rfl, rfl⟩
            go_wp2_with fail
            go_ret2
            exact ⟨by rw [R1.out, R2.out]; rfl, HB.out⟩
          · rw [hd] at HS
            obtain ⟨r1, r2⟩ := HVK.out (by rw [hd]; rfl)
            have r2' : ((vMi (bs s) : Nat) : Int) = (b.toNat : Int) - 48 := by omega
            have R1 := Lib.hid r1
            have R2 := Lib.hid r2'
            clear hd r1 r2 r2'
            generalize mkS (vA (bs s)) = A at *
            generalize mkS (vB (bs s)) = B at *
            generalize (cutL 46 (vN (bs s))).2.2 = f at *
            go_enter Tryd.func53, Tryd.ntmps53
            go_wp2_with fail
            refine HP.out.mono ?_
            rintro e w' ⟨rfl, rfl⟩
            go_wp2_with fail
            refine HC.out.mono ?_
            rintro e w2 ⟨rfl, hb⟩
            have HB := Lib.hid hb
            clear hb
            go_wp2_with fail
            refine (HA.out _).mono ?_
            rintro e w' ⟨rfl, rfl⟩
            go_wp2_with fail
            refine (HBd.out _).mono ?_
            rintro e w' ⟨rfl, rfl⟩
            go_wp2_with fail
            refine (HS.out _).mono ?_
            rintro e w' ⟨rfl, rfl⟩
            go_wp2_with fail
            go_ret2
            exact ⟨by rw [R1.out, R2.out]; rfl, HB.out⟩
        · have es := ne_str (vA (bs s)) [49] (by rw [ea]; simpa using h49)
          obtain ⟨r1, r2⟩ := HVO.out (by rw [decide_eq_false h49]; rfl)
          have R1 := Lib.hid r1
          have R2 := Lib.hid r2
          clear ea eb h49 r1 r2
          generalize mkS (vA (bs s)) = A at *
          generalize mkS (vB (bs s)) = B at *
          generalize (cutL 46 (vN (bs s))).2.2 = f at *
          go_enter Tryd.func53, Tryd.ntmps53
          go_wp2_with fail
          refine HP.out.mono ?_
          rintro e w' ⟨rfl, rfl⟩
          go_wp2_with fail
          refine HC.out.mono ?_
          rintro e w2 ⟨rfl, hb⟩
          have HB := Lib.hid hb
          clear hb
          go_wp2_with fail
          refine (HA.out _).mono ?_
          rintro e w' ⟨rfl, rfl⟩
          go_wp2_with fail
          refine (HBd.out _).mono ?_
          rintro e w' ⟨rfl, rfl⟩
          go_wp2_with fail
          go_ret2
          exact ⟨by rw [R1.out, R2.out]; rfl, HB.out⟩
end Tk
end Go.Proofs.YtliinjibnikfgaaDoor
