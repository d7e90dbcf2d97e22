/- ChkE Sam FldS Str FldG FldH FldI FldJ ChkG ChkH ChkF ChkR ChkI, put together. -/
import Derived.Test.YtpcdaaijlgilkaaGreatDoorQB
import Derived.Test.YtpcdaaijlgilkaaGreatDoorQA
import Derived.Laws.IdiomCopy
import Derived.Lib.SliceRun
import Derived.Laws.EntriesVeiled
import Derived.Defers
import Derived.Recover
import Derived.Deep.RegionLaw
namespace Go.Proofs.YtpcdaaijlgilkaaGreatDoor
open Go.RowKit
namespace Tk

theorem ErrV.top {B : Nat} {w : World} (h : ErrV B w) : ErrV w.heap.size w := ⟨Nat.lt_of_lt_of_le h.1 h.2.1, Nat.le_refl _, h.2.2⟩
/-- how a state ends at a byte; what the decoder holds then, ahead of the store of its state -/
def stepE (b : Nat) (s : Dc) (c : UInt8) : Ending := if (stepD s c).bad = 0 then .returned (stV b (stepD s c).mode) else .panicked (flawP (stepD s c).bad)
def stepM (s : Dc) (c : UInt8) : Dc := { stepD s c with mode := s.mode, bad := s.bad }
def StepPost (B b : Nat) (s : Dc) (c : UInt8) (vl vb vt : Value) (w : World) (e : Ending) (w' : World) : Prop := e = stepE b s c ∧ DecTo B b (stepM s c) vl vb vt w w'

theorem DecTo.of {B b : Nat} {s' : Dc} {vl vb vt v1 v2 v3 : Value} {w w1 w' : World} (h : Turn b vl vb vt v1 v2 v3 w w1) (h2 : DecTo B b s' v1 v2 v3 w1 w') : DecTo B b s' vl vb vt w w' := by
  obtain ⟨u1, u2, u3, hd, ht⟩ := h2
  exact ⟨u1, u2, u3, hd, h.trans ht⟩
theorem Dec.vline {B b : Nat} {s : Dc} {vl vb vt : Value} {w : World} (h : Dec B b s vl vb vt w) : ∃ a c, vl = .slice a s.line.length c := by
  rcases h.line.2 with ⟨hv, h0⟩ | ⟨g, cap, cur, hv, _⟩
  · exact ⟨none, 0, by rw [hv, h0]⟩
  · exact ⟨_, _, hv⟩
theorem Dec.vbody {B b : Nat} {s : Dc} {vl vb vt : Value} {w : World} (h : Dec B b s vl vb vt w) : ∃ a c, vb = .slice a s.body.length c := by
  rcases h.body.2 with ⟨hv, h0⟩ | ⟨g, cap, cur, hv, _⟩
  · exact ⟨none, 0, by rw [hv, h0]⟩
  · exact ⟨_, _, hv⟩
theorem Dec.vtrl {B b : Nat} {s : Dc} {vl vb vt : Value} {w : World} (h : Dec B b s vl vb vt w) : ∃ a c, vt = .slice a s.trl.length c := by
  rcases h.trl.2 with ⟨hv, h0⟩ | ⟨g, cap, cur, hv, _⟩
  · exact ⟨none, 0, by rw [hv, h0]⟩
  · exact ⟨_, _, hv⟩
theorem cr_split (l : Bs) (h : cr l = true) : l = l.dropLast ++ [13] := by
  rcases List.eq_nil_or_concat l with e | ⟨p, x, e⟩
  · subst e; exact absurd h (by decide)
  · rw [List.concat_eq_append] at e
    subst e
    rw [cr_snoc, decide_eq_true_eq] at h
    subst h
    simp
theorem addK_cases (s : Dc) (c : UInt8) : addK s c = 0 ∨ (addK s c = 1 ∧ c = 10 ∧ cr s.line = true) ∨ addK s c = 2 := by
  unfold addK
  by_cases h1 : cr s.line = decide (c = 10)
  · rw [if_pos h1]
    cases hr : cr s.line
    · by_cases hl : s.L ≤ s.line.length + 1 <;> simp [hl]
    · rw [hr] at h1
      exact .inr (.inl ⟨by simp, by simpa using h1.symm, rfl⟩)
  · rw [if_neg h1]; simp

theorem s0_0 (b : Nat) (s : Dc) (c : UInt8) (hm : s.mode = 0) (hb : s.bad = 0) (hk : addK s c = 0) : stepE b s c = .returned (stV b 0) ∧ stepM s c = addD s c := by
  unfold stepE stepM
  rw [stepD_0 s c hm, hk]
  simp [addD, hm, hb]
theorem s0_2 (b : Nat) (s : Dc) (c : UInt8) (hm : s.mode = 0) (hk : addK s c = 2) : stepE b s c = .panicked (flawP 400) ∧ stepM s c = addD s c := by
  unfold stepE stepM
  rw [stepD_0 s c hm, hk]
  simp [addD]
theorem s0_1 (s : Dc) (c : UInt8) (hm : s.mode = 0) (hk : addK s c = 1) : stepD s c = sizedD { s with line := [] } (txt s) := by
  rw [stepD_0 s c hm, hk]
  rfl

set_option maxHeartbeats 4000000 in
set_option maxRecDepth 100000 in
theorem sizeLine_any {B b : Nat} {s : Dc} {vl vb vt : Value} (c : UInt8) {w : World} (h : Dec B b s vl vb vt w) (hm : s.mode = 0) (hb0 : s.bad = 0) (hz : s.line.length + 1 ≤ 1099511627) (hL : s.L ≤ 9223372036854775807) (hM : s.M ≤ 9223372036854775807) (hr : s.body.length ≤ s.M) (hv : ErrV B w) :
    Calls Tryz.prog 92 #[ptr b, .int .u8 c.toNat] w (StepPost B b s c vl vb vt w) := by
  have hmf : ∀ (fn : Fn) (first cap : Array Value) (w : World), (Instr.makeFunc fn first cap).run Tryz.prog w = .ok (.func fn first cap) w := fun _ _ _ _ => rfl
  have ha := add_any c h (by omega) hL
  have HD := Lib.hid h
  have HV := Lib.hid hv
  clear hv
  rcases addK_cases s c with hk | ⟨hk, hc, hcr⟩ | hk
  · have hE : addE s c = .returned (.bool false) := by unfold addE; rw [if_pos hk]
    rw [hE] at ha
    obtain ⟨e1, e2⟩ := s0_0 b s c hm hb0 hk
    have E1 := Lib.hid e1
    have E2 := Lib.hid e2
    have HM := Lib.hid hm
    have HA := Lib.hid ha
    clear ha hE e1 e2 hk h hm hb0
    unfold ptr
    go_enter Tryz.func92, Tryz.ntmps92
    go_wp2_with fail
    refine HA.out.mono ?_
    rintro e w1 ⟨rfl, hd⟩
    have HR := Lib.hid hd
    obtain ⟨v1, v2, v3, hd1, -⟩ := hd
    have k5 : w1.cell? ⟨b, 5, none⟩ = some (stV b 0) := hd1.cell 5 _ (by show some (stV b s.mode) = _; rw [HM.out])
    clear hd1
    go_wp2_with fail
    go_ret
    exact ⟨E1.out.symm, by rw [E2.out]; exact HR.out⟩
  · have hE : addE s c = .returned (.bool true) := by unfold addE; rw [if_neg (by omega), if_pos hk]
    rw [hE] at ha
    subst hc
    have hsp := cr_split _ hcr
    have hst := s0_1 s 10 hm hk
    have htx : txt s = s.line.dropLast := rfl
    rw [htx] at hst
    generalize hp : s.line.dropLast = p at *
    have hpl : p.length + 1 = s.line.length := by rw [hsp]; simp
    have HA := Lib.hid ha
    have HTx := Lib.hid (fun (v1 v2 v3 : Value) (W : World) (hd : Dec B b (addD s 10) v1 v2 v3 W) => text_any hd p 13 10 (by show s.line ++ [10] = _; rw [hsp]; simp) (by show (s.line ++ [10]).length ≤ _; simp; omega))
    have HSz := Lib.hid (fun (W : World) (hv : ErrV B W) => size_any (mkS p) W.heap.size W (by rw [size_mkS]; omega) hv.top)
    rw [bs_mkS] at HSz
    unfold SizePost at HSz
    have hs1 : stepM s 10 = { sizedD { s with line := [] } p with mode := s.mode, bad := s.bad } := by unfold stepM; rw [hst]
    have hs2 : stepE b s 10 = if (sizedD { s with line := [] } p).bad = 0 then .returned (stV b (sizedD { s with line := [] } p).mode) else .panicked (flawP (sizedD { s with line := [] } p).bad) := by unfold stepE; rw [hst]
    obtain ⟨q1, q2⟩ := sizeL_le p
    have hsd : sizedD { s with line := [] } p = if (sizeL p).2 = 0 then (if s.M - s.body.length < (sizeL p).1 then { s with line := [], bad := 413 } else if (sizeL p).1 = 0 then { s with line := [], mode := 4 } else { s with line := [], mode := 1, left := (sizeL p).1 }) else { s with line := [], bad := (sizeL p).2 } := rfl
    obtain ⟨N, hN⟩ : ∃ N, N = s.body.length := ⟨_, rfl⟩
    have HN := Lib.hid hN
    rw [← hN] at hsd hr
    generalize (sizeL p).1 = n at *
    generalize (sizeL p).2 = st at *
    clear ha hE htx hst hk hcr h hN hsp hp hpl
    rcases q2 with rfl | hst
    · rw [if_pos rfl] at hsd
      by_cases hn1 : s.M - N < n
      · rw [if_pos hn1] at hsd
        rw [hsd] at hs1 hs2
        rw [if_neg (by show ¬ 413 = 0; decide)] at hs2
        have E1 := Lib.hid hs2
        have E2 := Lib.hid (show stepM s 10 = { s with line := [] } from hs1)
        have i1 : (s.M : Int) - (N : Int) < (n : Int) := by omega
        have i2 : IntKind.i64.wrap ((s.M : Int) - (N : Int)) = (s.M : Int) - (N : Int) := IntWalk.i64_in _ (by omega)
        have im : (0 : Int) ≤ (s.M : Int) - (N : Int) := by omega
        have im2 : (s.M : Int) - (N : Int) ≤ 9223372036854775807 := by omega
        clear hsd hs1 hs2 hn1 hb0 hm
        unfold ptr
        go_enter Tryz.func92, Tryz.ntmps92
        go_wp2_with fail
        refine HA.out.mono ?_
        rintro e w1 ⟨rfl, v1, v2, v3, hd1, ht1⟩
        have HD1 := Lib.hid hd1
        have HT1 := Lib.hid ht1
        clear hd1 ht1
        go_wp2_with fail
        refine (HTx.out _ _ _ _ HD1.out).mono ?_
        rintro e w2 ⟨rfl, u1, u2, u3, hd2, ht2⟩
        have HV2 := Lib.hid (HV.out.later ((HT1.out.trans ht2).toBelow HD.out))
        have HD2 := Lib.hid hd2
        have HT2 := Lib.hid (HT1.out.trans ht2)
        clear hd2 ht2
        go_wp2_with fail
        refine (HSz.out _ HV2.out).mono ?_
        rintro e w3 ⟨rfl, hb⟩
        have hd3 := HD2.out.below hb
        have HT3 := Lib.hid (HT2.out.trans (Turn.of hb))
        obtain ⟨a, cap, rfl⟩ : ∃ a c, u2 = .slice a N c := by
          obtain ⟨a, c, e⟩ := hd3.vbody
          exact ⟨a, c, e.trans (by rw [HN.out]; rfl)⟩
        have k4 : w3.cell? ⟨b, 4, none⟩ = some (.int .i64 s.M) := hd3.cell 4 _ rfl
        have k10 : w3.cell? ⟨b, 10, none⟩ = some (.slice a N cap) := hd3.cell 10 _ rfl
        have HD3 := Lib.hid hd3
        clear hb hd3
        go_wp2_with fail
        go_quiet (fail)
        go_wp2_with fail
        exact ⟨rfl, E1.out.symm, by rw [E2.out]; exact ⟨_, _, _, HD3.out.draws _, HT3.out.trans (Turn.draws _ _ _ _ _ _)⟩⟩
      · rw [if_neg hn1] at hsd
        have i1 : ¬ (s.M : Int) - (N : Int) < (n : Int) := by omega
        have i2 : IntKind.i64.wrap ((s.M : Int) - (N : Int)) = (s.M : Int) - (N : Int) := IntWalk.i64_in _ (by omega)
        have im : (0 : Int) ≤ (s.M : Int) - (N : Int) := by omega
        have im2 : (s.M : Int) - (N : Int) ≤ 9223372036854775807 := by omega
        by_cases hn0 : n = 0
        · rw [if_pos hn0] at hsd
          rw [hsd] at hs1 hs2
          rw [if_pos (by exact hb0)] at hs2
          have E1 := Lib.hid (show stepE b s 10 = .returned (stV b 4) from hs2)
          have E2 := Lib.hid (show stepM s 10 = { s with line := [] } from hs1)
          have i3 : ((n : Int) == 0) = true := by simp [hn0]
          clear hsd hs1 hs2 hn1 hb0 hm hn0
          unfold ptr
          go_enter Tryz.func92, Tryz.ntmps92
          go_wp2_with fail
          refine HA.out.mono ?_
          rintro e w1 ⟨rfl, v1, v2, v3, hd1, ht1⟩
          have HD1 := Lib.hid hd1
          have HT1 := Lib.hid ht1
          clear hd1 ht1
          go_wp2_with fail
          refine (HTx.out _ _ _ _ HD1.out).mono ?_
          rintro e w2 ⟨rfl, u1, u2, u3, hd2, ht2⟩
          have HV2 := Lib.hid (HV.out.later ((HT1.out.trans ht2).toBelow HD.out))
          have HD2 := Lib.hid hd2
          have HT2 := Lib.hid (HT1.out.trans ht2)
          clear hd2 ht2
          go_wp2_with fail
          refine (HSz.out _ HV2.out).mono ?_
          rintro e w3 ⟨rfl, hb⟩
          have hd3 := HD2.out.below hb
          have HT3 := Lib.hid (HT2.out.trans (Turn.of hb))
          obtain ⟨a, cap, rfl⟩ : ∃ a c, u2 = .slice a N c := by
            obtain ⟨a, c, e⟩ := hd3.vbody
            exact ⟨a, c, e.trans (by rw [HN.out]; rfl)⟩
          have k4 : w3.cell? ⟨b, 4, none⟩ = some (.int .i64 s.M) := hd3.cell 4 _ rfl
          have k10 : w3.cell? ⟨b, 10, none⟩ = some (.slice a N cap) := hd3.cell 10 _ rfl
          have HD3 := Lib.hid hd3
          clear hb hd3
          go_wp2_with fail
          go_quiet (fail)
          go_wp2_with fail
          go_ret
          exact ⟨E1.out.symm, by rw [E2.out]; exact ⟨_, _, _, HD3.out.draws _, HT3.out.trans (Turn.draws _ _ _ _ _ _)⟩⟩
        · rw [if_neg hn0] at hsd
          rw [hsd] at hs1 hs2
          rw [if_pos (by exact hb0)] at hs2
          have E1 := Lib.hid (show stepE b s 10 = .returned (stV b 1) from hs2)
          have E2 := Lib.hid (show stepM s 10 = { s with line := [], left := n } from hs1)
          have i3 : ((n : Int) == 0) = false := by simp [hn0]
          clear hsd hs1 hs2 hn1 hb0 hm hn0
          unfold ptr
          go_enter Tryz.func92, Tryz.ntmps92
          go_wp2_with fail
          refine HA.out.mono ?_
          rintro e w1 ⟨rfl, v1, v2, v3, hd1, ht1⟩
          have HD1 := Lib.hid hd1
          have HT1 := Lib.hid ht1
          clear hd1 ht1
          go_wp2_with fail
          refine (HTx.out _ _ _ _ HD1.out).mono ?_
          rintro e w2 ⟨rfl, u1, u2, u3, hd2, ht2⟩
          have HV2 := Lib.hid (HV.out.later ((HT1.out.trans ht2).toBelow HD.out))
          have HD2 := Lib.hid hd2
          have HT2 := Lib.hid (HT1.out.trans ht2)
          clear hd2 ht2
          go_wp2_with fail
          refine (HSz.out _ HV2.out).mono ?_
          rintro e w3 ⟨rfl, hb⟩
          have hd3 := HD2.out.below hb
          have HT3 := Lib.hid (HT2.out.trans (Turn.of hb))
          obtain ⟨a, cap, rfl⟩ : ∃ a c, u2 = .slice a N c := by
            obtain ⟨a, c, e⟩ := hd3.vbody
            exact ⟨a, c, e.trans (by rw [HN.out]; rfl)⟩
          have k4 : w3.cell? ⟨b, 4, none⟩ = some (.int .i64 s.M) := hd3.cell 4 _ rfl
          have k10 : w3.cell? ⟨b, 10, none⟩ = some (.slice a N cap) := hd3.cell 10 _ rfl
          have k8 : w3.cell? ⟨b, 8, none⟩ = some (.int .i64 s.left) := hd3.cell 8 _ rfl
          have f8 := hd3.frz 8
          have HD3 := Lib.hid hd3
          clear hb hd3
          go_wp2_with fail
          go_quiet (fail)
          have HD4 := Lib.hid ((HD3.out.draws nq).set 8 (.int .i64 n) { s with line := [], left := n } rfl rfl rfl rfl)
          go_wp2_with fail
          go_ret
          exact ⟨E1.out.symm, by rw [E2.out]; exact ⟨_, _, _, HD4.out, (HT3.out.trans (Turn.draws _ _ _ _ _ _)).trans (Turn.set 8 _)⟩⟩
    · have hne : st ≠ 0 := by omega
      rw [if_neg hne] at hsd
      rw [hsd] at hs1 hs2
      rw [if_neg (by exact hne)] at hs2
      have E1 := Lib.hid (show stepE b s 10 = .panicked (flawP st) from hs2)
      have E2 := Lib.hid (show stepM s 10 = { s with line := [] } from hs1)
      have i3 : ((st : Int) != 0) = true := by simp [hne]
      clear hsd hs1 hs2 hb0 hm hst hne
      unfold ptr
      go_enter Tryz.func92, Tryz.ntmps92
      go_wp2_with fail
      refine HA.out.mono ?_
      rintro e w1 ⟨rfl, v1, v2, v3, hd1, ht1⟩
      have HD1 := Lib.hid hd1
      have HT1 := Lib.hid ht1
      clear hd1 ht1
      go_wp2_with fail
      refine (HTx.out _ _ _ _ HD1.out).mono ?_
      rintro e w2 ⟨rfl, u1, u2, u3, hd2, ht2⟩
      have HV2 := Lib.hid (HV.out.later ((HT1.out.trans ht2).toBelow HD.out))
      have HD2 := Lib.hid hd2
      have HT2 := Lib.hid (HT1.out.trans ht2)
      clear hd2 ht2
      go_wp2_with fail
      refine (HSz.out _ HV2.out).mono ?_
      rintro e w3 ⟨rfl, hb⟩
      have HD3 := Lib.hid (HD2.out.below hb)
      have HT3 := Lib.hid (HT2.out.trans (Turn.of hb))
      clear hb
      go_wp2_with fail
      exact ⟨rfl, E1.out.symm, by rw [E2.out]; exact ⟨_, _, _, HD3.out, HT3.out⟩⟩
  · have hE : addE s c = .panicked (flawP 400) := by unfold addE; rw [if_neg (by omega), if_neg (by omega)]
    rw [hE] at ha
    obtain ⟨e1, e2⟩ := s0_2 b s c hm hk
    have E1 := Lib.hid e1
    have E2 := Lib.hid e2
    have HA := Lib.hid ha
    clear ha hE e1 e2 hk h hm hb0
    unfold ptr
    go_enter Tryz.func92, Tryz.ntmps92
    go_wp2_with fail
    refine HA.out.mono ?_
    rintro e w1 ⟨rfl, hd⟩
    have HR := Lib.hid hd
    clear hd
    go_wp2_with fail
    exact ⟨rfl, E1.out.symm, by rw [E2.out]; exact HR.out⟩
end Tk
end Go.Proofs.YtpcdaaijlgilkaaGreatDoor
namespace Go.Proofs.YtpcdaaijlgilkaaGreatDoor
open Go.RowKit
namespace Tk

set_option maxHeartbeats 400000 in
theorem lower_any (c : UInt8) (w : World) :
    Calls Tryz.prog 54 #[.int .u8 (c.toNat : Int)] w fun r w' => r = .returned (.int .u8 ((lowB c).toNat : Int)) ∧ w = w' := by
  have hlt := c.toNat_lt
  by_cases h0 : 65 ≤ c.toNat
  · by_cases h1 : c.toNat ≤ 90
    · have HU := Lib.hid (lowB_up c h0 h1)
      generalize c.toNat = n at *
      go_enter Tryz.func54, Tryz.ntmps54
      go_wp2_with fail
      go_ret
      exact ⟨by rw [HU.out]; rfl, rfl⟩
    · have HU := Lib.hid (lowB_same c (by omega))
      go_enter Tryz.func54, Tryz.ntmps54
      go_wp2_with fail
      go_ret
      exact ⟨by rw [HU.out]; rfl, rfl⟩
  · have HU := Lib.hid (lowB_same c (by omega))
    go_enter Tryz.func54, Tryz.ntmps54
    go_wp2_with fail
    go_ret
    exact ⟨by rw [HU.out]; rfl, rfl⟩

set_option maxRecDepth 100000 in
set_option maxHeartbeats 1000000 in
theorem tsame_any (s t : ByteArray) (w : World) (hs : s.size ≤ 1099511627776) (_ht : t.size ≤ 1099511627776) :
    Calls Tryz.prog 44 #[.string s, .string t] w fun r w' => r = .returned (.bool (decide (lowL (bs s) = lowL (bs t)))) ∧ ∃ n, w' = w.drewN n := by
  have HL := Lib.hid (length_bs s)
  have HM := Lib.hid (length_bs t)
  by_cases hne : s.size = t.size
  · have hb : ((s.size : Int) != (t.size : Int)) = false := by rw [hne]; simp
    have HN := Lib.hid hne
    clear hne
    go_enter Tryz.func44, Tryz.ntmps44
    go_wp2_with fail
    go_loopw [13, 5] (fun v _ wr => ∃ (j : Nat), j ≤ s.size ∧ v = .int .i64 j ∧ Hid (∃ n, wr = w.drewN n) ∧ Hid (decide (lowL (bs s) = lowL (bs t)) = decide (lowL ((bs s).drop j) = lowL ((bs t).drop j)))) (fun v _ _ => s.size - (RowKit.intOf v).toNat)
    case atStart => exact ⟨0, Nat.zero_le _, rfl, ⟨0, rfl⟩, rfl⟩
    case round =>
      obtain ⟨j, hj, rfl, HW, hd⟩ := hrel
      rename World => W
      by_cases hlt : j < s.size
      · have hlt2 : j < t.size := by have := HN.out; omega
        have hdr := drop_cons (bs s) j (by rw [HL.out]; exact hlt)
        rw [getD_bs s j hlt] at hdr
        have hdr2 := drop_cons (bs t) j (by rw [HM.out]; exact hlt2)
        rw [getD_bs t j hlt2] at hdr2
        have HD := Lib.hid hdr
        have HD2 := Lib.hid hdr2
        clear hdr hdr2
        have hI : (j : Int) < (s.size : Int) := by omega
        have hI2 : (j : Int) < (t.size : Int) := by omega
        go_wp2_with fail
        go_quiet ((go_at_call 54; exact Calls.quiet_of_same ((lower_any _ _).mono fun _ _ h => ⟨h.1, h.2.symm⟩)))
        obtain ⟨n, hW⟩ := HW.out
        have HW2 : Hid (∃ m, W.drewN nq = w.drewN m) := ⟨n + nq, by rw [hW, World.drewN_drewN]⟩
        clear hW
        go_wp2_with fail
        · have hx : (((lowB s[j]).toNat : Int) != ((lowB t[j]).toNat : Int)) = true := by assumption
          have hne : lowB s[j] ≠ lowB t[j] := fun e => by rw [e] at hx; simp at hx
          have fin : decide (lowL (bs s) = lowL (bs t)) = false := by
            rw [hd.out, HD.out, HD2.out]; simp [lowL, hne]
          go_ret
          exact ⟨by rw [fin]; rfl, HW2.out⟩
        · have hx : (((lowB s[j]).toNat : Int) != ((lowB t[j]).toNat : Int)) = false := by assumption
          have he : lowB s[j] = lowB t[j] := UInt8.toNat_inj.1 (by rw [bne_eq_false_iff_eq] at hx; omega)
          refine ⟨⟨j + 1, by omega, by go_num, HW2, ?_⟩, by simp [RowKit.intOf]; omega⟩
          show _ = _
          rw [hd.out, HD.out, HD2.out]; simp [lowL, he]
      · have fin : decide (lowL (bs s) = lowL (bs t)) = true := by
          have := HN.out
          rw [hd.out, List.drop_eq_nil_of_le (by rw [HL.out]; omega), List.drop_eq_nil_of_le (by rw [HM.out]; omega)]; simp
        have HF := Lib.hid fin
        clear fin
        go_wp2_with fail
        go_ret
        exact ⟨by rw [HF.out]; rfl, HW.out⟩
  · have hb : ((s.size : Int) != (t.size : Int)) = true := by simp; omega
    have hf : decide (lowL (bs s) = lowL (bs t)) = false := by
      simp only [decide_eq_false_iff_not]
      intro e
      have := congrArg List.length e
      rw [length_lowL, length_lowL, length_bs, length_bs] at this
      exact hne this
    have HF := Lib.hid hf
    clear hf hne
    go_enter Tryz.func44, Tryz.ntmps44
    go_wp2_with fail
    go_ret
    exact ⟨by rw [HF.out]; rfl, 0, rfl⟩
end Tk
end Go.Proofs.YtpcdaaijlgilkaaGreatDoor
namespace Go.Proofs.YtpcdaaijlgilkaaGreatDoor
open Go.RowKit
namespace Tk

def eqF (f g : Bs × Bs) : Bool := decide (lowL f.1 = lowL g.1) && decide (f.2 = g.2)
def sameFs : List (Bs × Bs) → List (Bs × Bs) → Bool
  | [], [] => true
  | f :: t, g :: u => eqF f g && sameFs t u
  | _, _ => false

theorem below_some_draws {w w1 : World} (h : Below w.heap.size w w1) (n : Nat) : Below w.heap.size w (w1.drewN n) := h.trans ⟨rfl, rfl, rfl, Nat.le_refl _, fun _ _ => rfl⟩
theorem beq_mkS' (a b : Bs) : ((mkS a).toList == (mkS b).toList) = decide (a = b) := by
  rw [toList_bs, toList_bs, bs_mkS, bs_mkS]
  by_cases h : a = b <;> simp [h]

set_option maxHeartbeats 2000000 in
set_option maxRecDepth 100000 in
theorem same1_any (n x m y : Bs) (w : World) (hn : n.length ≤ 1099511627776) (hm : m.length ≤ 1099511627776) :
    Calls Tryz.prog 43 #[.agg #[.string (mkS n), .string (mkS x)], .agg #[.string (mkS m), .string (mkS y)]] w fun e w' => e = .returned (.bool (eqF (n, x) (m, y))) ∧ Below w.heap.size w w' := by
  have HS := fun W : World => tsame_any (mkS n) (mkS m) W (by rw [size_mkS]; exact hn) (by rw [size_mkS]; exact hm)
  rw [bs_mkS, bs_mkS] at HS
  have hv : eqF (n, x) (m, y) = (decide (lowL n = lowL m) && decide (x = y)) := rfl
  have hxy := beq_mkS' x y
  have HV := Lib.hid hv
  clear hv
  generalize decide (x = y) = d at *
  generalize decide (lowL n = lowL m) = c at *
  have HS2 := Lib.hid HS
  clear HS
  cases c
  all_goals
    go_enter Tryz.func43, Tryz.ntmps43
    go_wp2_with fail
    refine (HS2.out _).mono ?_
    rintro e w' ⟨rfl, k, rfl⟩
    go_wp2_with fail
    go_ret
    refine ⟨by rw [HV.out]; rfl, below_some_draws ?_ _⟩
    exact ((Below.refl _ _).alloc (Nat.le_refl _) _).alloc (by simp) _

theorem sameFs_drop (l m : List (Bs × Bs)) (i : Nat) (hi : i < l.length) (hm : i < m.length) : sameFs (l.drop i) (m.drop i) = (eqF (l.getD i ([], [])) (m.getD i ([], [])) && sameFs (l.drop (i + 1)) (m.drop (i + 1))) := by
  rw [List.drop_eq_getElem_cons hi, List.drop_eq_getElem_cons hm, sameFs]
  simp [List.getD, hi, hm]
theorem sameFs_len : ∀ (l m : List (Bs × Bs)), sameFs l m = true → l.length = m.length
  | [], [], _ => rfl
  | f :: t, g :: u, h => by
    simp only [sameFs, Bool.and_eq_true] at h
    have := sameFs_len t u h.2
    simp [this]
  | [], _ :: _, h => by simp [sameFs] at h
  | _ :: _, [], h => by simp [sameFs] at h

set_option maxHeartbeats 4000000 in
set_option maxRecDepth 100000 in
theorem efunc_any (v1 v2 : Value) (l m : List (Bs × Bs)) (w : World) (h1 : IsFlds w v1 l) (h2 : IsFlds w v2 m) (hz : ∀ f, f ∈ l ∨ f ∈ m → f.1.length ≤ 1099511627776) (hl : l.length ≤ 1099511627) (_hm : m.length ≤ 1099511627) :
    Calls Tryz.prog 42 #[v1, v2, .func (.func 43) #[] #[]] w fun e w' => e = .returned (.bool (sameFs l m)) ∧ Below w.heap.size w w' := by
  have H1 := Lib.hid h1
  have H2 := Lib.hid h2
  have HZ := Lib.hid hz
  obtain ⟨a1, c1, rfl⟩ : ∃ a cap, v1 = .slice a l.length cap := by obtain ⟨a, c, h, -⟩ := h1; exact ⟨a, c, h⟩
  obtain ⟨a2, c2, rfl⟩ : ∃ a cap, v2 = .slice a m.length cap := by obtain ⟨a, c, h, -⟩ := h2; exact ⟨a, c, h⟩
  clear h1 h2 hz
  by_cases hlm : l.length = m.length
  · have hb : ((l.length : Int) != (m.length : Int)) = false := by rw [hlm]; simp
    have HLM := Lib.hid hlm
    clear hlm
    go_enter Tryz.func42, Tryz.ntmps42
    go_wp2_with fail
    go_loopw [17] (fun vi wr => ∃ i : Nat, i ≤ l.length ∧ vi = .int .i64 i ∧ Hid (sameFs l m = sameFs (l.drop i) (m.drop i)) ∧ Hid (Below w.heap.size w wr)) (fun vi _ => l.length - (RowKit.intOf vi).toNat)
    case atStart => exact ⟨0, Nat.zero_le _, rfl, rfl, Below.refl _ _⟩
    case round =>
      obtain ⟨i, hi, rfl, hd, HB⟩ := hrel
      rename World => W
      by_cases hlt : i < l.length
      · have hlt2 : i < m.length := by have := HLM.out; omega
        obtain ⟨a1', c1', e', -, hc1⟩ := isFlds_below H1.out HB.out
        injection e' with e1 _ e2
        subst e1 e2
        obtain ⟨a2', c2', e', -, hc2⟩ := isFlds_below H2.out HB.out
        injection e' with e1 _ e2
        subst e1 e2
        obtain ⟨b1, o1, rfl, p0, p1⟩ := hc1 i (l.getD i ([], [])) (by simp [List.getD, hlt])
        obtain ⟨b2, o2, rfl, q0, q1⟩ := hc2 i (m.getD i ([], [])) (by simp [List.getD, hlt2])
        have z1 := HZ.out (l.getD i ([], [])) (.inl (by simp [List.getD, hlt]))
        have z2 := HZ.out (m.getD i ([], [])) (.inr (by simp [List.getD, hlt2]))
        have hst := sameFs_drop l m i hlt hlt2
        have HST := Lib.hid hst
        clear hc1 hc2 hst
        generalize l.getD i ([], []) = f at *
        generalize m.getD i ([], []) = g at *
        obtain ⟨n, x⟩ := f
        obtain ⟨k, y⟩ := g
        simp only at z1 z2 p0 p1 q0 q1
        have g0 : (0 : Int) ≤ (i : Int) := by omega
        have g1 : (i : Int) < (l.length : Int) := by omega
        have g2 : (i : Int) < (m.length : Int) := by omega
        have HC := fun W : World => same1_any n x k y W z1 z2
        have hlt2' : b2 < W.heap.size := cell_lt (p := ⟨b2, o2 + i * 2, none⟩) q0
        have r0 : (W.alloc (Obj.cells #[.string (mkS n), .string (mkS x)] 84)).cell? ⟨b2, o2 + i * 2, none⟩ = some (.string (mkS k)) := (World.cell?_alloc_lt W _ _ hlt2').trans q0
        have r1 : (W.alloc (Obj.cells #[.string (mkS n), .string (mkS x)] 84)).cell? ⟨b2, o2 + i * 2 + 1, none⟩ = some (.string (mkS y)) := (World.cell?_alloc_lt W _ _ hlt2').trans q1
        have hbb : Below W.heap.size W ((W.alloc (Obj.cells #[.string (mkS n), .string (mkS x)] 84)).alloc (Obj.cells #[.string (mkS k), .string (mkS y)] 84)) := ((Below.refl _ _).alloc (Nat.le_refl _) _).alloc (by simp) _
        have HB2 := Lib.hid (HB.out.trans (hbb.mono HB.out.size))
        clear hbb
        cases hv : eqF (n, x) (k, y)
        · rw [hv] at HC
          have fin : sameFs l m = false := by rw [hd.out, HST.out, hv]; rfl
          have HF := Lib.hid fin
          have HC2 := Lib.hid HC
          clear HC fin hv
          go_wp2_with fail
          refine (HC2.out _).mono ?_
          rintro e w' ⟨rfl, hb'⟩
          have HB3 := Lib.hid (HB2.out.trans (hb'.mono HB2.out.size))
          clear hb'
          go_wp2_with fail
          go_ret
          exact ⟨by rw [HF.out]; rfl, HB3.out⟩
        · rw [hv] at HC
          have nx : sameFs l m = sameFs (l.drop (i + 1)) (m.drop (i + 1)) := by rw [hd.out, HST.out, hv]; rfl
          have HX := Lib.hid nx
          have HC2 := Lib.hid HC
          clear HC nx hv
          go_wp2_with fail
          refine (HC2.out _).mono ?_
          rintro e w' ⟨rfl, hb'⟩
          have HB3 := Lib.hid (HB2.out.trans (hb'.mono HB2.out.size))
          clear hb'
          go_wp2_with fail
          exact ⟨⟨i + 1, by omega, by go_num, HX, HB3⟩, by simp [RowKit.intOf]; omega⟩
      · have fin : sameFs l m = true := by
          have := HLM.out
          rw [hd.out, List.drop_eq_nil_of_le (by omega), List.drop_eq_nil_of_le (by omega)]; rfl
        have HF := Lib.hid fin
        clear fin
        go_wp2_with fail
        go_ret
        exact ⟨by rw [HF.out]; rfl, HB.out⟩
  · have hb : ((l.length : Int) != (m.length : Int)) = true := by simp; omega
    have fin : sameFs l m = false := by
      cases h : sameFs l m
      · rfl
      · exact absurd (sameFs_len l m h) hlm
    have HF := Lib.hid fin
    clear fin hlm
    go_enter Tryz.func42, Tryz.ntmps42
    go_wp2_with fail
    go_ret
    exact ⟨by rw [HF.out]; rfl, Below.refl _ _⟩

set_option maxHeartbeats 4000000 in
set_option maxRecDepth 100000 in
theorem fsame_any (v1 v2 : Value) (l m : List (Bs × Bs)) (w : World) (h1 : IsFlds w v1 l) (h2 : IsFlds w v2 m) (hz : ∀ f, f ∈ l ∨ f ∈ m → f.1.length ≤ 1099511627776) (hl : l.length ≤ 1099511627) (hm : m.length ≤ 1099511627) :
    Calls Tryz.prog 36 #[v1, v2] w fun e w' => e = .returned (.bool (sameFs l m)) ∧ Below w.heap.size w w' := by
  have H := Lib.hid (efunc_any v1 v2 l m w h1 h2 hz hl hm)
  obtain ⟨a1, c1, rfl⟩ : ∃ a cap, v1 = .slice a l.length cap := by obtain ⟨a, c, h, -⟩ := h1; exact ⟨a, c, h⟩
  obtain ⟨a2, c2, rfl⟩ : ∃ a cap, v2 = .slice a m.length cap := by obtain ⟨a, c, h, -⟩ := h2; exact ⟨a, c, h⟩
  clear h1 h2 hz
  go_enter Tryz.func36, Tryz.ntmps36
  go_wp2_with fail
  refine H.out.mono ?_
  rintro e w' ⟨rfl, hb⟩
  have HB := Lib.hid hb
  clear hb
  go_wp2_with fail
  go_ret
  exact ⟨rfl, HB.out⟩
end Tk
end Go.Proofs.YtpcdaaijlgilkaaGreatDoor
namespace Go.Proofs.YtpcdaaijlgilkaaGreatDoor
open Go.RowKit
namespace Tk

def strs (P : List Bs) : List Value := P.map fun t => .string (mkS t)
theorem strs_append (P Q : List Bs) : strs (P ++ Q) = strs P ++ strs Q := by simp [strs]
theorem strInfo : (Tryz.prog.info? 9).map (fun i => (i.zero, i.size, i.bytes)) = some (some (.string .empty), 1, 16) := by kernel_rfl

def ListPost (base : Nat) (Q : List Bs) (w : World) (r : Ending) (w' : World) : Prop :=
  ∃ v, r = .returned v ∧ w'.ownsRow base 9 1 v Q.length (strs Q) ∧ Below base w w'

theorem below_of_grown {a b : World} {B : Nat} {v : Value} {n : Nat} {xs : List Value} {e : TypeId} (h : a.grownBy b v.ownBlock) (ho : a.ownsRow B e 1 v n xs) (hB : B ≤ a.heap.size) : Below B a b :=
  (Below.refl B a).grown h hB fun k hk => (ho.lt k hk).1
end Tk
end Go.Proofs.YtpcdaaijlgilkaaGreatDoor
namespace Go.Proofs.YtpcdaaijlgilkaaGreatDoor
open Go.RowKit
namespace Tk

def isN (name : Bs) (f : Bs × Bs) : Bool := decide (lowL f.1 = lowL name)
def allF (l : List (Bs × Bs)) (name : Bs) : List Bs := (l.filter (isN name)).map (·.2)
theorem allF_snoc (l : List (Bs × Bs)) (f : Bs × Bs) (name : Bs) : allF (l ++ [f]) name = allF l name ++ (if isN name f then [f.2] else []) := by
  unfold allF
  cases h : isN name f <;> simp [h]
theorem allF_len (l : List (Bs × Bs)) (name : Bs) : (allF l name).length ≤ l.length := by
  unfold allF; rw [List.length_map]; exact List.length_filter_le _ _

set_option maxHeartbeats 8000000 in
set_option maxRecDepth 100000 in
theorem fall_any (v : Value) (l : List (Bs × Bs)) (name : Bs) (w : World) (hs : IsFlds w v l) (hz : ∀ f ∈ l, f.1.length ≤ 1099511627776 ∧ f.2.length ≤ 1099511627776) (hn : name.length ≤ 1099511627776) (hl : l.length ≤ 1048576) :
    Calls Tryz.prog 88 #[v, .string (mkS name)] w (ListPost w.heap.size (allF l name) w) := by
  have HS := Lib.hid hs
  have HZ := Lib.hid hz
  obtain ⟨i0, hi0, hz0, hz1, hz2⟩ := info_parts strInfo
  have HNZ := Lib.hid (size_mkS name)
  obtain ⟨a, cap, rfl⟩ : ∃ a cap, v = .slice a l.length cap := by obtain ⟨a, c, h, -⟩ := hs; exact ⟨a, c, h⟩
  clear hs hz
  go_enter Tryz.func88, Tryz.ntmps88
  go_wp2_with fail
  go_loopw [5, 10] (fun v5 vi wr => ∃ i : Nat, i ≤ l.length ∧ vi = .int .i64 i ∧ Hid (wr.ownsRow w.heap.size 9 1 v5 (allF (l.take i) name).length (strs (allF (l.take i) name))) ∧ Hid (Below w.heap.size w wr)) (fun _ vi _ => l.length - (RowKit.intOf vi).toNat)
  case atStart => exact ⟨0, Nat.zero_le _, rfl, World.ownsRow_nil _ _ _ _, Below.refl _ _⟩
  case round =>
    obtain ⟨i, hi, rfl, HO, HB⟩ := hrel
    rename World => W
    by_cases hlt : i < l.length
    · obtain ⟨a', c', e', hcap, hc⟩ := isFlds_below HS.out HB.out
      injection e' with e1 _ e2
      subst e1 e2
      obtain ⟨b, o, rfl, hc0, hc1⟩ := hc i (l.getD i ([], [])) (by simp [List.getD, hlt])
      have hm := HZ.out (l.getD i ([], [])) (by simp [List.getD, hlt])
      have htk : l.take (i + 1) = l.take i ++ [l.getD i ([], [])] := by
        rw [List.take_succ_eq_append_getElem hlt]; simp [List.getD, hlt]
      have hnx := allF_snoc (l.take i) (l.getD i ([], [])) name
      rw [← htk] at hnx
      have HNX := Lib.hid hnx
      have hal := allF_len (l.take i) name
      have htl : (l.take i).length ≤ i := by simp; omega
      have hal2 : (allF (l.take i) name).length ≤ 1048576 := by omega
      clear hc htk hnx hal htl
      generalize l.getD i ([], []) = f at *
      obtain ⟨n, x⟩ := f
      have hnz := size_mkS n
      have hxz := size_mkS x
      simp only at hm hc0 hc1
      have HC := fun W : World => tsame_any (mkS n) (mkS name) W (by omega) (by rw [HNZ.out]; exact hn)
      rw [bs_mkS, bs_mkS] at HC
      have HCl := Lib.hid (fun W : World => clone_any (mkS x) W (by omega))
      rw [bs_mkS] at HCl
      have HF0 := Lib.hid (Two.new W 84 (.string (mkS n)) (.string (mkS x)))
      have hb0 : Below W.heap.size W (W.alloc (Obj.cells #[.string (mkS n), .string (mkS x)] 84)) := (Below.refl _ _).alloc (Nat.le_refl _) _
      have HO0 := Lib.hid (own_keep HO.out hb0)
      have HB0 := Lib.hid (HB.out.trans (hb0.mono HB.out.size))
      have hq0 := HF0.out.c0
      have hq1 := HF0.out.c1
      have g0 : (0 : Int) ≤ (i : Int) := by omega
      have g1 : (i : Int) < (l.length : Int) := by omega
      have hbsz := HB.out.size
      have hs0 : w.heap.size ≤ (W.alloc (Obj.cells #[.string (mkS n), .string (mkS x)] 84)).heap.size := by simp; omega
      clear hb0 hnz hxz hbsz
      have hkk : isN name (n, x) = decide (lowL n = lowL name) := rfl
      rw [← hkk] at HC
      clear hkk
      generalize allF (l.take i) name = P at *
      cases hk : isN name (n, x)
      · rw [hk] at HC HNX
        have hx2 : allF (l.take (i + 1)) name = P := by rw [HNX.out]; simp
        have HX := Lib.hid hx2
        have HC2 := Lib.hid HC
        clear HC hk hx2
        go_wp2_with fail
        generalize W.alloc (Obj.cells #[.string (mkS n), .string (mkS x)] 84) = W4 at *
        generalize W.heap.size = g at *
        refine (HC2.out _).mono ?_
        rintro e w5 ⟨rfl, k, rfl⟩
        go_wp2_with fail
        refine ⟨⟨i + 1, hlt, by go_num, ?_, below_some_draws HB0.out k⟩, by simp [RowKit.intOf]; omega⟩
        show World.ownsRow _ _ _ _ _ _ _
        rw [HX.out]
        exact HO0.out
      · rw [hk] at HC HNX
        have hx2 : allF (l.take (i + 1)) name = P ++ [x] := by rw [HNX.out]; simp
        have HX := Lib.hid hx2
        have HC2 := Lib.hid HC
        clear HC hk hx2
        go_wp2_with fail
        generalize W.alloc (Obj.cells #[.string (mkS n), .string (mkS x)] 84) = W4 at *
        generalize W.heap.size = g at *
        refine (HC2.out _).mono ?_
        rintro e w5 ⟨rfl, k, rfl⟩
        have hF5 := HF0.out.draws k
        have p1 := hF5.c1
        have HB5 := Lib.hid (below_some_draws HB0.out k)
        have HO5 := Lib.hid (show (W4.drewN k).ownsRow w.heap.size 9 1 u5 P.length (strs P) from HO0.out)
        have hs5 : w.heap.size ≤ (W4.drewN k).heap.size := hs0
        clear hF5
        go_wp2_with fail
        refine (HCl.out _).mono ?_
        rintro e w6 ⟨rfl, hb⟩
        have hown' := own_keep HO5.out hb
        have hB' : w.heap.size ≤ w6.heap.size := Nat.le_trans hs5 hb.size
        have HB6 := Lib.hid (HB5.out.trans (hb.mono hs5))
        clear hb p1
        go_wp2_with (at_builtin; refine wpList_append_own _ rfl _ _ 49 rfl w.heap.size 9 i0 (.string .empty) 1 16 Tryz.underlying49 hi0 hz0 hz1 hz2 rfl (by decide) _ _ _ rfl (hown'.alloc _) ⟨w6.heap.size, 0, none⟩ 1 1 [.string (mkS x)] rfl rfl ?c1 ?c2 ?c3 ?c4 ?c5 ?_)
        case c1 => exact cell_one_new _ _ _
        case c2 => simp [Value.oneCell']
        case c3 => unfold maxLen; omega
        case c4 => omega
        case c5 => simp; omega
        intro v' w1 hown1 hg1 _
        have hb1 : Below w.heap.size w w1 := HB6.out.trans (((Below.refl w.heap.size w6).alloc hB' _).trans (below_of_grown hg1 (hown'.alloc _) (by simp; omega)))
        have HB7 := Lib.hid hb1
        have HO7 := Lib.hid hown1
        clear hb1 hown1 hg1 hown'
        go_wp2_with fail
        refine ⟨⟨i + 1, hlt, by go_num, ?_, HB7⟩, by simp [RowKit.intOf]; omega⟩
        show World.ownsRow _ _ _ _ _ _ _
        rw [HX.out, List.length_append, strs_append]
        exact HO7.out
    · have hil : l.take i = l := List.take_of_length_le (by omega)
      rw [hil] at HO
      go_wp2_with fail
      go_ret
      exact ⟨u5, rfl, HO.out, HB.out⟩
end Tk
end Go.Proofs.YtpcdaaijlgilkaaGreatDoor
namespace Go.Proofs.YtpcdaaijlgilkaaGreatDoor
open Go.RowKit
namespace Tk

def HasN (w : World) (g : Nat) (name : Bs) : Prop := w.cell? ⟨g, 0, none⟩ = some (.string (mkS name))
theorem HasN.lt {w : World} {g : Nat} {name : Bs} (h : HasN w g name) : g < w.heap.size := cell_lt (p := ⟨g, 0, none⟩) h
theorem HasN.later {w w' : World} {g : Nat} {name : Bs} (h : HasN w g name) (hb : Below w.heap.size w w') : HasN w' g name := (hb.cell (p := ⟨g, 0, none⟩) h.lt).trans h

/-- where the first field of this name is, or -1 -/
def idxF (name : Bs) (l : List (Bs × Bs)) : Int := if l.findIdx (isN name) < l.length then (l.findIdx (isN name) : Int) else -1
theorem idxF_hit (name : Bs) (l : List (Bs × Bs)) (i : Nat) (hi : i < l.length) (h1 : ∀ f ∈ l.take i, isN name f = false) (h2 : isN name (l.getD i ([], [])) = true) : l.findIdx (isN name) = i := by
  rw [List.findIdx_eq hi]
  refine ⟨by simpa [List.getD, hi] using h2, fun j hj => ?_⟩
  refine h1 _ ?_
  rw [List.mem_take_iff_getElem]
  exact ⟨j, by omega, rfl⟩
theorem idxF_no (name : Bs) (l : List (Bs × Bs)) (h1 : ∀ f ∈ l, isN name f = false) : l.findIdx (isN name) = l.length := by
  rw [List.findIdx_eq_length]; exact h1

end Tk
end Go.Proofs.YtpcdaaijlgilkaaGreatDoor
namespace Go.Proofs.YtpcdaaijlgilkaaGreatDoor
open Go.RowKit
namespace Tk

theorem fcells_put : ∀ (a : List (Bs × Bs)) (f : Bs × Bs) (b : List (Bs × Bs)) (n x : Bs), ((fcells (a ++ f :: b)).set (a.length * 2) (.string (mkS n))).set (a.length * 2 + 1) (.string (mkS x)) = fcells (a ++ (n, x) :: b)
  | [], f, b, n, x => by simp [fcells]
  | g :: a, f, b, n, x => by
    have := fcells_put a f b n x
    unfold fcells at *
    rw [List.cons_append, List.cons_append, List.flatMap_cons, List.flatMap_cons, List.length_cons, show (a.length + 1) * 2 = a.length * 2 + 2 by omega]
    simpa using this
theorem fcells_mid (a : List (Bs × Bs)) (f : Bs × Bs) (b : List (Bs × Bs)) : (fcells (a ++ f :: b))[a.length * 2]? = some (.string (mkS f.1)) ∧ (fcells (a ++ f :: b))[a.length * 2 + 1]? = some (.string (mkS f.2)) :=
  fcells_get _ _ _ (by simp)
theorem made_fcells (n : Nat) : (madeCells #[Value.string .empty, Value.string .empty] (n * 2)).toList = fcells (List.replicate n ([], [])) := by
  apply List.ext_getElem?
  intro j
  by_cases hj : j < n * 2
  · have hl : (madeCells #[Value.string .empty, Value.string .empty] (n * 2)).toList[j]? = some (.string (mkS [])) := by
      rcases Nat.mod_two_eq_zero_or_one j with h | h <;> simp [madeCells, hj, h] <;> rfl
    rw [hl]
    rcases Nat.mod_two_eq_zero_or_one j with h | h
    · obtain ⟨t, rfl⟩ : ∃ t, j = t * 2 := ⟨j / 2, by omega⟩
      exact (fcells_get (List.replicate n ([], [])) t ([], []) (by rw [List.getElem?_replicate, if_pos (by omega)])).1.symm
    · obtain ⟨t, rfl⟩ : ∃ t, j = t * 2 + 1 := ⟨j / 2, by omega⟩
      exact (fcells_get (List.replicate n ([], [])) t ([], []) (by rw [List.getElem?_replicate, if_pos (by omega)])).2.symm
  · rw [List.getElem?_eq_none (by simp [madeCells]; omega), List.getElem?_eq_none (by rw [fcells_len]; simp; omega)]

theorem own_keep2f {w w' : World} {B : Nat} {v : Value} {n : Nat} {xs : List Value} {e : TypeId} (h : w.ownsRow B e 2 v n xs) (hb : Below w.heap.size w w') : w'.ownsRow B e 2 v n xs :=
  World.ownsRow.kept h (row := none) ⟨hb.os, hb.tape, hb.output, hb.size, fun k hk _ => hb.block k hk⟩ (by cases h : v.ownBlock <;> simp)
theorem own_put2 {w : World} {B g cap n : Nat} {a b : List (Bs × Bs)} {f : Bs × Bs} (h : w.ownsRow B 84 2 (.slice (some ⟨g, 0, none⟩) n cap) n (fcells (a ++ f :: b))) (s x : Bs) :
    ((w.setCell ⟨g, a.length * 2, none⟩ (.string (mkS s))).setCell ⟨g, a.length * 2 + 1, none⟩ (.string (mkS x))).ownsRow B 84 2 (.slice (some ⟨g, 0, none⟩) n cap) n (fcells (a ++ (s, x) :: b)) := by
  have h1 := (h.stored (a.length * 2) (.string (mkS s))).1
  have h2 := (h1.stored (a.length * 2 + 1) (.string (mkS x))).1
  rw [fcells_put] at h2
  exact h2

def OwnPost (l : List (Bs × Bs)) (w : World) (e : Ending) (w' : World) : Prop :=
  ∃ v', e = .returned v' ∧ w'.ownsRow w.heap.size 84 2 v' l.length (fcells l) ∧ Below w.heap.size w w'

end Tk
end Go.Proofs.YtpcdaaijlgilkaaGreatDoor
namespace Go.Proofs.YtpcdaaijlgilkaaGreatDoor
open Go.RowKit
namespace Tk

theorem isFlds_nil_cap {w : World} {v : Value} {B n : Nat} {xs : List Value} {e : TypeId} (h : w.ownsRow B e 2 v n xs) : ∀ m c, v = .slice none m c → c = 0 := by
  rintro m c rfl
  rcases h.2 with ⟨hv, -⟩ | ⟨g, cap, cur, hv, _⟩
  · injection hv
  · injection hv with e1; cases e1

set_option maxHeartbeats 2000000 in
set_option maxRecDepth 100000 in
theorem sclone_any (v : Value) (l : List (Bs × Bs)) (w : World) (hs : IsFlds w v l) (hnl : ∀ n c, v = .slice none n c → c = 0) (hl : l.length ≤ 1048576) :
    Calls Tryz.prog 121 #[v] w (OwnPost l w) := by
  have HS := Lib.hid hs
  have HNL := Lib.hid hnl
  obtain ⟨a, cap, rfl⟩ : ∃ a cap, v = .slice a l.length cap := by obtain ⟨a, c, h, -⟩ := hs; exact ⟨a, c, h⟩
  rcases a with _ | ad
  · have hl0 : l = [] := by
      obtain ⟨a', c', e, -, hc⟩ := hs
      injection e with e1 _ _
      subst e1
      cases l with
      | nil => rfl
      | cons f t => obtain ⟨b, o, e, -⟩ := hc 0 f rfl; cases e
    subst hl0
    have hq : ∀ W : World, (binOp .eql 30 (.slice none 0 cap) (.slice none 0 0)).run Tryz.prog W = .ok (.bool true) W := fun W => Lib.run_eql_slice_nil W _ _ _ _ _ _ _ Tryz.underlying30
    clear hs hnl
    go_enter Tryz.func121, Tryz.ntmps121
    go_wp2_with fail
    go_ret
    exact ⟨_, rfl, World.ownsRow_nil _ _ _ _, Below.refl _ _⟩
  · have hq : ∀ W : World, (binOp .eql 30 (.slice (some ad) l.length cap) (.slice none 0 0)).run Tryz.prog W = .ok (.bool false) W := fun W => Lib.run_eql_slice_nil W _ _ _ _ _ _ _ Tryz.underlying30
    clear hs hnl
    go_enter Tryz.func121, Tryz.ntmps121
    have ho := World.ownsRow_lit (base := w.heap.size) (e := 84) (size := 2) w #[] 0 (Nat.le_refl _) (by decide) rfl
    have hb0 : Below w.heap.size w (w.alloc (Obj.cells #[] 84)) := (Below.refl _ _).alloc (Nat.le_refl _) _
    have HF := Lib.hid (isFlds_below HS.out hb0)
    have HB0 := Lib.hid hb0
    have HO := Lib.hid ho
    clear ho hb0
    go_wp2_with (at_builtin; refine joinF_guarded (by rfl) _ _ rfl w.heap.size _ _ [] l rfl rfl HO.out HF.out HNL.out ?c1 ?c2 ?c3 ?_)
    intro v' w' ho' hg'
    have HB1 := Lib.hid (HB0.out.trans (below_of_grownF hg' HO.out (by simp)))
    have HO1 := Lib.hid ho'
    clear ho' hg'
    go_wp2_with fail
    go_ret
    exact ⟨v', rfl, HO1.out, HB1.out⟩

/-- the cells that clear writes into n fields -/
def zeros2 (n : Nat) : List Value := (Builtin.zeroCells #[.string .empty, .string .empty] n).toList
theorem zeros2_len (n : Nat) : (zeros2 n).length = n * 2 := by simp [zeros2, Builtin.zeroCells]
theorem zeros2_one (n : Nat) : ∀ u ∈ zeros2 n, u.oneCell' = true := by
  intro u hu
  simp [zeros2, Builtin.zeroCells] at hu
  obtain ⟨j, -, rfl⟩ := hu
  rcases Nat.mod_two_eq_zero_or_one j with h | h <;> simp [h] <;> rfl
theorem run_clear2 (w : World) (ty : TypeId) (b o n c : Nat) (hn : 0 < n) (hc : ∀ j, j < n * 2 → (w.cell? ⟨b, o + j, none⟩).isSome = true) (hf : ∀ j, j < n * 2 → w.frozen? ⟨b, o + j, none⟩ = false) :
    (Builtin.clear_ #[30] ty #[.slice (some ⟨b, o, none⟩) n c]).run Tryz.prog w = .ok (.tuple #[]) (w.setCells b o (zeros2 n)) := by
  have hst := run_storeCells_cells (P := Tryz.prog) b o (zeros2 n) 0 w (by rw [zeros2_len]; simpa using hc) (by rw [zeros2_len]; simpa using hf) (zeros2_one n)
  simp only [Nat.add_zero] at hst
  obtain ⟨m, rfl⟩ : ∃ m, n = m + 1 := ⟨n - 1, by omega⟩
  have hst2 : (storeCells ⟨b, o, none⟩ (Builtin.zeroCells (Value.agg #[Value.string ⟨#[]⟩, Value.string ⟨#[]⟩]).cells (m + 1)).toList).run Tryz.prog w = .ok () (w.setCells b o (zeros2 (m + 1))) := hst
  simp [Builtin.clear_, run_underlying Tryz.underlying30]
  rw [hst2]
  rfl
theorem below_setC {B b : Nat} {a : World} (hb : B ≤ b) : ∀ (vs : List Value) (o : Nat) (w : World), Below B a w → Below B a (w.setCells b o vs)
  | [], _, _, h => h
  | v :: vs, o, _, h => below_setC hb vs (o + 1) _ (h.setCell (p := ⟨b, o, none⟩) hb v)
end Tk
end Go.Proofs.YtpcdaaijlgilkaaGreatDoor
namespace Go.Proofs.YtpcdaaijlgilkaaGreatDoor
open Go.RowKit
namespace Tk

theorem state_eql_func (f : Fn) (x y : Array Value) (w : World) : (binOp .eql 128 (.func f x y) .nilFunc).run Tryz.prog w = .ok (.bool false) w := by
  have h : ∀ d : Nat, (Op.equalIn (d + 1) 128 (.func f x y) .nilFunc).run Tryz.prog w = .ok false w := fun d => by
    simp [Op.equalIn, run_underlying Tryz.underlying128]
  simp only [binOp]
  simp [Op.equal, Op.maxDepth, h 9999]
theorem state_eql_nil (w : World) : (binOp .eql 128 .nilFunc .nilFunc).run Tryz.prog w = .ok (.bool true) w := by
  have h : ∀ d : Nat, (Op.equalIn (d + 1) 128 .nilFunc .nilFunc).run Tryz.prog w = .ok true w := fun d => by
    simp [Op.equalIn, run_underlying Tryz.underlying128]
  simp only [binOp]
  simp [Op.equal, Op.maxDepth, h 9999]
theorem state_neq_func (f : Fn) (x y : Array Value) (w : World) : (binOp .neq 128 (.func f x y) .nilFunc).run Tryz.prog w = .ok (.bool true) w := by
  have h : ∀ d : Nat, (Op.equalIn (d + 1) 128 (.func f x y) .nilFunc).run Tryz.prog w = .ok false w := fun d => by
    simp [Op.equalIn, run_underlying Tryz.underlying128]
  simp only [binOp]
  simp [Op.equal, Op.maxDepth, h 9999]
theorem state_neq_nil (w : World) : (binOp .neq 128 .nilFunc .nilFunc).run Tryz.prog w = .ok (.bool false) w := by
  have h : ∀ d : Nat, (Op.equalIn (d + 1) 128 .nilFunc .nilFunc).run Tryz.prog w = .ok true w := fun d => by
    simp [Op.equalIn, run_underlying Tryz.underlying128]
  simp only [binOp]
  simp [Op.equal, Op.maxDepth, h 9999]

set_option maxHeartbeats 2000000 in
set_option maxRecDepth 100000 in
theorem new_any (L H C M : Int) (l h c m : Nat) (B : Nat) (w : World) (hB : B ≤ w.heap.size) (hl : max L 0 = l) (hh : max H 0 = h) (hc : max C 0 = c) (hm : max M 0 = m) :
    Calls Tryz.prog 78 #[.agg #[.int .i64 L, .int .i64 H, .int .i64 C, .int .i64 M]] w fun e w' => ∃ b, e = .returned (ptr b) ∧ w.heap.size ≤ b ∧ Dec B b (newD l h c m) (.slice none 0 0) (.slice none 0 0) (.slice none 0 0) w' ∧ Below w.heap.size w w' := by
  have hmf : ∀ (fn : Fn) (first cap : Array Value) (w : World), (Instr.makeFunc fn first cap).run Tryz.prog w = .ok (.func fn first cap) w := fun _ _ _ _ => rfl
  go_enter Tryz.func78, Tryz.ntmps78
  go_wp2
  go_ret
  refine ⟨w.heap.size + 1, rfl, by omega, ⟨by omega, ?_, World.ownsRow_nil _ _ _ _, World.ownsRow_nil _ _ _ _, World.ownsRow_nil _ _ _ _, by intro k hk; cases hk⟩, ((Below.refl _ _).alloc (Nat.le_refl _) _).alloc (by simp) _⟩
  have := heap_alloc_last (w.alloc (Obj.cells #[.int .i64 L, .int .i64 H, .int .i64 C, .int .i64 M] 24)) (Obj.cells (dcells (w.heap.size + 1) (newD l h c m) (.slice none 0 0) (.slice none 0 0) (.slice none 0 0)) 131)
  rw [show (w.alloc (Obj.cells #[.int .i64 L, .int .i64 H, .int .i64 C, .int .i64 M] 24)).heap.size = w.heap.size + 1 by simp] at this
  exact this

set_option maxHeartbeats 1000000 in
set_option maxRecDepth 100000 in
theorem done_yes {B b : Nat} {s : Dc} {vl vb vt : Value} {w : World} (h : Dec B b s vl vb vt w) (hm : s.mode = 5) :
    Calls Tryz.prog 94 #[ptr b] w fun e w' => e = .returned (.bool true) ∧ w' = w := by
  have HM := Lib.hid (made_any h)
  have k5 : w.cell? ⟨b, 5, none⟩ = some .nilFunc := h.cell 5 _ (by show some (stV b s.mode) = _; rw [hm]; rfl)
  clear h hm
  have hq := state_eql_nil
  unfold ptr
  go_enter Tryz.func94, Tryz.ntmps94
  go_wp2_with fail
  refine HM.out.mono ?_
  rintro e w' ⟨rfl, rfl⟩
  go_wp2
  go_ret
  exact ⟨rfl, rfl⟩
theorem stV_lt (b m : Nat) (h : m < 5) : ∃ F, stV b m = .func (.func F) #[.pointer (some ⟨b, 0, none⟩)] #[] := by
  match m, h with
  | 0, _ | 1, _ | 2, _ | 3, _ | 4, _ => exact ⟨_, rfl⟩
  | n + 5, h => omega
set_option maxHeartbeats 1000000 in
set_option maxRecDepth 100000 in
theorem done_no {B b : Nat} {s : Dc} {vl vb vt : Value} {w : World} (h : Dec B b s vl vb vt w) (hm : s.mode < 5) :
    Calls Tryz.prog 94 #[ptr b] w fun e w' => e = .returned (.bool false) ∧ w' = w := by
  have HM := Lib.hid (made_any h)
  obtain ⟨F, hF⟩ := stV_lt b s.mode hm
  have k5 : w.cell? ⟨b, 5, none⟩ = some (.func (.func F) #[.pointer (some ⟨b, 0, none⟩)] #[]) := h.cell 5 _ (by show some (stV b s.mode) = _; rw [hF])
  clear h hm hF
  have hq := state_eql_func
  unfold ptr
  go_enter Tryz.func94, Tryz.ntmps94
  go_wp2_with fail
  refine HM.out.mono ?_
  rintro e w' ⟨rfl, rfl⟩
  go_wp2
  go_ret
  exact ⟨rfl, rfl⟩
theorem done_any {B b : Nat} {s : Dc} {vl vb vt : Value} {w : World} (h : Dec B b s vl vb vt w) (hm : s.mode ≤ 5) :
    Calls Tryz.prog 94 #[ptr b] w fun e w' => e = .returned (.bool (decide (s.mode = 5))) ∧ w' = w := by
  by_cases h5 : s.mode = 5
  · rw [decide_eq_true h5]; exact done_yes h h5
  · rw [decide_eq_false h5]; exact done_no h (by omega)

theorem run_convert_nil (w : World) (n c : Nat) : (convert 65 9 (.slice none n c)).run Tryz.prog w = .ok (.string ⟨#[]⟩) w := by
  rw [run_convert_bytes_string (P := Tryz.prog) w 65 9 5 none n c Tryz.underlying65 Tryz.underlying5 Tryz.underlying9]
  rfl
set_option maxHeartbeats 1000000 in
set_option maxRecDepth 100000 in
theorem body_any {B b : Nat} {s : Dc} {vl vb vt : Value} {w : World} (h : Dec B b s vl vb vt w) :
    Calls Tryz.prog 95 #[ptr b] w fun e w' => e = .returned (.string (mkS s.body)) ∧ w' = w := by
  have HM := Lib.hid (made_any h)
  have k10 : w.cell? ⟨b, 10, none⟩ = some vb := h.cell 10 _ rfl
  have hcv : ∃ a c, vb = .slice a s.body.length c ∧ (convert 65 9 (.slice a s.body.length c)).run Tryz.prog w = .ok (.string (mkS s.body)) w := by
    rcases h.body.2 with ⟨hv, h0⟩ | ⟨g, cap, cur, hv, _⟩
    · refine ⟨none, 0, by rw [hv, h0], ?_⟩
      rw [run_convert_nil, List.eq_nil_of_length_eq_zero h0]; rfl
    · exact ⟨_, _, hv, run_convert_bytes_back (P := Tryz.prog) w 65 9 5 ⟨g, 0, none⟩ cap s.body Tryz.underlying65 Tryz.underlying5 Tryz.underlying9 (fun j hj => cells_str_at h.body hv j hj)⟩
  obtain ⟨a, c, rfl, hc⟩ := hcv
  clear h
  generalize s.body.length = n at *
  unfold ptr
  go_enter Tryz.func95, Tryz.ntmps95
  go_wp2_with fail
  refine HM.out.mono ?_
  rintro e w' ⟨rfl, rfl⟩
  go_wp2
  go_ret
  exact ⟨rfl, rfl⟩
set_option maxHeartbeats 1000000 in
set_option maxRecDepth 100000 in
theorem body_nil (w : World) :
    Calls Tryz.prog 95 #[.pointer none] w fun e w' => e = .returned (.string ⟨#[]⟩) ∧ w' = w := by
  have HM := Lib.hid (made_nil w)
  go_enter Tryz.func95, Tryz.ntmps95
  go_wp2_with fail
  refine HM.out.mono ?_
  rintro e w' ⟨rfl, rfl⟩
  go_wp2
  go_ret
  exact ⟨rfl, rfl⟩
set_option maxHeartbeats 1000000 in
set_option maxRecDepth 100000 in
theorem done_nil (w : World) :
    Calls Tryz.prog 94 #[.pointer none] w fun e w' => e = .returned (.bool false) ∧ w' = w := by
  have HM := Lib.hid (made_nil w)
  go_enter Tryz.func94, Tryz.ntmps94
  go_wp2_with fail
  refine HM.out.mono ?_
  rintro e w' ⟨rfl, rfl⟩
  go_wp2
  go_ret
  exact ⟨rfl, rfl⟩

set_option maxHeartbeats 1000000 in
set_option maxRecDepth 100000 in
theorem trailers_any {B b : Nat} {s : Dc} {vl vb vt : Value} {w : World} (h : Dec B b s vl vb vt w) (hl : s.trl.length ≤ 1048576) :
    Calls Tryz.prog 96 #[ptr b] w (OwnPost s.trl w) := by
  have HM := Lib.hid (made_any h)
  have k11 : w.cell? ⟨b, 11, none⟩ = some vt := h.cell 11 _ rfl
  have HC := Lib.hid (sclone_any vt s.trl w (isFlds_own h.trl) (fun n c e => isFlds_nil_cap h.trl n c e) hl)
  obtain ⟨a, c, rfl⟩ := h.vtrl
  clear h
  unfold ptr
  go_enter Tryz.func96, Tryz.ntmps96
  go_wp2_with fail
  refine HM.out.mono ?_
  rintro e w' ⟨rfl, rfl⟩
  go_wp2_with fail
  refine HC.out.mono ?_
  rintro e w' ⟨v, rfl, ho, hb⟩
  have HO := Lib.hid ho
  have HB := Lib.hid hb
  clear ho hb
  go_wp2_with fail
  go_ret
  exact ⟨v, rfl, HO.out, HB.out⟩
end Tk
end Go.Proofs.YtpcdaaijlgilkaaGreatDoor
namespace Go.Proofs.YtpcdaaijlgilkaaGreatDoor
open Go.RowKit
namespace Tk

theorem asserted (v : Value) (xT : TypeId) (w : World) : (Instr.typeAssert (.iface 129 v) xT 129 true).run Tryz.prog w = .ok (.tuple #[v, .bool true]) w := by
  simp [Instr.typeAssert, run_underlying Tryz.underlying129]

set_option maxHeartbeats 2000000 in
set_option maxRecDepth 100000 in
theorem catch_flaw (b gd gs n : Nat) (x y : Int) (older : List PanicEntry) (w : World) (hd : w.cell? ⟨gd, 0, none⟩ = some (.pointer (some ⟨b, 0, none⟩))) (h6 : w.cell? ⟨b, 6, none⟩ = some (.int .i64 x)) (f6 : w.frozen? ⟨b, 6, none⟩ = false) (hs : w.cell? ⟨gs, 0, none⟩ = some (.int .i64 y)) (fs : w.frozen? ⟨gs, 0, none⟩ = false) :
    CallsD Tryz.prog 120 #[.pointer (some ⟨gd, 0, none⟩), .pointer (some ⟨gs, 0, none⟩)] (.panicking ({ v := .iface 129 (.int .i64 n), recovered := false } :: older)) w fun e u' w' =>
      e = .returned (.tuple #[]) ∧ u' = .panicking ({ v := .iface 129 (.int .i64 n), recovered := true } :: older) ∧ w' = (w.setCell ⟨b, 6, none⟩ (.int .i64 n)).setCell ⟨gs, 0, none⟩ (.int .i64 n) := by
  refine callsD_of_wpS Tryz.func120 rfl fun c₀ cs hu => ?_
  apply wpS_seq
  apply wpS_region
  simp [wpOpsS, go_sem, recoverD, hu, Tryz.ntmps120, Exit.thenS]
  have ha := asserted
  refine wpS_of_wp ?_
  clear hu
  go_wp2
  simp [bodyPostS, results, Tryz.results120]
theorem catch_idle (bd bs : Nat) (w : World) :
    CallsD Tryz.prog 120 #[.pointer (some ⟨bd, 0, none⟩), .pointer (some ⟨bs, 0, none⟩)] .returning w fun e u' w' => e = .returned (.tuple #[]) ∧ u' = .returning ∧ w' = w := by
  refine callsD_of_wpS Tryz.func120 rfl fun c₀ cs hu => ?_
  apply wpS_seq
  apply wpS_region
  simp [wpOpsS, go_sem, recoverD, hu, Tryz.ntmps120, Exit.thenS]
  refine wpS_of_wp ?_
  go_wp2
  all_goals
    cases c₀
    simp_all [bodyPostS, results, Tryz.results120]
end Tk
end Go.Proofs.YtpcdaaijlgilkaaGreatDoor
namespace Go.Proofs.YtpcdaaijlgilkaaGreatDoor
open Go.RowKit
namespace Tk

theorem step_stay {P : Program} {w : World} {ops : Array Oper} {o : Oper} {a : Act} {K : Act → World → Prop} {Q : Exit → Act → World → Prop} {E : Prop} (hgd : o.guard = none) (s x : Operand) (t : TypeId)
    (ho : o.op = .call { callee := .builtin .append, args := #[s, x], argTypes := #[t, t] })
    (base : Nat) (e : TypeId) (i : TypeInfo) (z : Value) (size bytes : Nat) (ht : P.underlying t = some (.slice e)) (hi : P.info? e = some i) (hz : i.zero = some z)
    (hsize : i.size = size) (hby : i.bytes = bytes) (hzs : z.cells.size = size) (hsz : 0 < size) (v : Value) (n : Nat) (xs : List Value) (hs : a.eval s = v) (hown : w.ownsRow base e size v n xs)
    (ad : Addr) (m c : Nat) (news : List Value) (hx : a.eval x = .slice (some ad) m c) (hl : news.length = m * size) (hnews : ∀ j u, news[j]? = some u → w.cell? (ad.add j) = some u) (h1 : ∀ u ∈ news, u.oneCell' = true)
    (h63 : n + m ≤ maxLen) (hbytes : (n + m) * bytes ≤ 140737488355328) (hbase : base ≤ w.heap.size)
    (h : ∀ v' w', w'.ownsRow base e size v' (n + m) (xs ++ news) → w.grownBy w' v.ownBlock → Stay w v v' → K (a.put o.dst v') w') :
    if Region.wanted o (yielded ops a.tmps) = true then Oper.wp P o a w K Q else E := by
  have hw : Region.wanted o (yielded ops a.tmps) = true := by simp [Region.wanted, hgd]
  rw [if_pos hw]
  exact wp_append_stay s x t ho base e i z size bytes ht hi hz hsize hby hzs hsz v n xs hs hown ad m c news hx hl hnews h1 h63 hbytes hbase h

theorem Dec.grewTrl {B b : Nat} {s : Dc} {vl vb vt v' : Value} {w w2 : World} (h : Dec B b s vl vb vt w) (f : Bs × Bs) (n : Nat) (hn : n = s.trl.length) (ho : w2.ownsRow B 84 2 v' (n + 1) (fcells s.trl ++ [.string (mkS f.1), .string (mkS f.2)])) (hg : w.grownBy w2 vt.ownBlock) (hst : Stay w vt v') :
    ∃ g cap, v' = .slice (some ⟨g, 0, none⟩) (n + 1) cap ∧ w2.cell? ⟨b, 11, none⟩ = some vt ∧ w2.frozen? ⟨b, 11, none⟩ = false ∧ w2.cell? ⟨b, 5, none⟩ = some (stV b s.mode) ∧ Dec B b { s with trl := s.trl ++ [f] } vl vb v' (w2.setCell ⟨b, 11, none⟩ v') ∧ Turn b vl vb vt vl vb v' w (w2.setCell ⟨b, 11, none⟩ v') := by
  obtain ⟨g, cap, hv⟩ : ∃ g cap, v' = .slice (some ⟨g, 0, none⟩) (n + 1) cap := by
    rcases ho.2 with ⟨_, h0⟩ | ⟨g, cap, cur, hv, _⟩
    · omega
    · exact ⟨g, cap, hv⟩
  have hk2 := (hg.block b h.lt (fun e => own_ne h.trl h.blk (by decide) e.symm)).trans h.blk
  obtain ⟨hd, ht⟩ := h.putTrl f (hn ▸ ho) hg hst
  exact ⟨g, cap, hv, by rw [Lib.cell_of_heap hk2]; rfl, Lib.frozen_of_heap hk2 11, by rw [Lib.cell_of_heap hk2]; rfl, hd, ht⟩

def up (s : Dc) : Dc := { s with head := s.head + 1 }
theorem s4_2 (b : Nat) (s : Dc) (c : UInt8) (hm : s.mode = 4) (hk : addK s c = 2) : stepE b s c = .panicked (flawP 400) ∧ stepM s c = addD (up s) c := by
  unfold stepE stepM
  rw [stepD_4 s c hm, hk]
  exact ⟨by simp, rfl⟩
theorem s4_h (b : Nat) (s : Dc) (c : UInt8) (hm : s.mode = 4) (hk : addK s c = 0 ∨ addK s c = 1) (hh : s.H < s.head + 1) : stepE b s c = .panicked (flawP 431) ∧ stepM s c = addD (up s) c := by
  unfold stepE stepM
  rw [stepD_4 s c hm]
  rcases hk with hk | hk <;> rw [hk] <;> simp only [if_pos hh] <;> exact ⟨by simp, rfl⟩
theorem s4_0 (b : Nat) (s : Dc) (c : UInt8) (hm : s.mode = 4) (hb : s.bad = 0) (hk : addK s c = 0) (hh : ¬ s.H < s.head + 1) : stepE b s c = .returned (stV b 4) ∧ stepM s c = addD (up s) c := by
  unfold stepE stepM
  rw [stepD_4 s c hm, hk]
  simp only [if_neg hh]
  refine ⟨?_, rfl⟩
  rw [if_pos (by exact hb)]
  show Ending.returned (stV b s.mode) = _
  rw [hm]
theorem s4_1 (s : Dc) (c : UInt8) (hm : s.mode = 4) (hk : addK s c = 1) (hh : ¬ s.H < s.head + 1) : stepD s c = trailD { s with head := s.head + 1, line := [] } s.line.dropLast := by
  rw [stepD_4 s c hm, hk]
  simp only [if_neg hh]
  rfl

set_option maxHeartbeats 8000000 in
set_option maxRecDepth 100000 in
theorem trailer_any {B b : Nat} {s : Dc} {vl vb vt : Value} (c : UInt8) {w : World} (h : Dec B b s vl vb vt w) (hm : s.mode = 4) (hb0 : s.bad = 0) (hz : s.line.length + 1 ≤ 1099511627) (hL : s.L ≤ 9223372036854775807) (hh : s.head ≤ 1099511627) (htl : s.trl.length ≤ 1048576) :
    Calls Tryz.prog 117 #[ptr b, .int .u8 c.toNat] w (StepPost B b s c vl vb vt w) := by
  have k9 : w.cell? ⟨b, 9, none⟩ = some (.int .i64 s.head) := h.cell 9 _ rfl
  have f9 := h.frz 9
  have hu : Dec B b (up s) vl vb vt (w.setCell ⟨b, 9, none⟩ (.int .i64 ((s.head : Int) + 1))) := h.set 9 (.int .i64 ((s.head : Int) + 1)) (up s) (by show _ = dcells _ _ _ _ _; rw [show (s.head : Int) + 1 = ((s.head + 1 : Nat) : Int) by omega]; rfl) rfl rfl rfl
  have ht0 : Turn b vl vb vt vl vb vt w (w.setCell ⟨b, 9, none⟩ (.int .i64 ((s.head : Int) + 1))) := Turn.set 9 _
  have ha := add_any c hu (by exact (by omega : s.line.length + 1 ≤ 1099511627776)) (by exact hL)
  have hae : addE (up s) c = addE s c := rfl
  rw [hae] at ha
  have HD := Lib.hid h
  have HT0 := Lib.hid ht0
  clear hu ht0 hae h
  rcases addK_cases s c with hk | ⟨hk, hc, hcr⟩ | hk
  · have hE : addE s c = .returned (.bool false) := by unfold addE; rw [if_pos hk]
    rw [hE] at ha
    have HA := Lib.hid ha
    clear ha hE
    by_cases hho : s.H < s.head + 1
    · obtain ⟨e1, e2⟩ := s4_h b s c hm (.inl hk) hho
      have E1 := Lib.hid e1
      have E2 := Lib.hid e2
      have ih : (s.H : Int) < (s.head : Int) + 1 := by omega
      clear e1 e2 hk hm hb0 hho
      unfold ptr
      go_enter Tryz.func117, Tryz.ntmps117
      go_wp2_with fail
      generalize w.setCell ⟨b, 9, none⟩ (.int .i64 ((s.head : Int) + 1)) = w0 at *
      refine HA.out.mono ?_
      rintro e w1 ⟨rfl, v1, v2, v3, hd1, ht1⟩
      have HD1 := Lib.hid hd1
      have HT1 := Lib.hid (HT0.out.trans ht1)
      have k9 : w1.cell? ⟨b, 9, none⟩ = some (.int .i64 ((s.head : Int) + 1)) := hd1.cell 9 _ rfl
      have k2 : w1.cell? ⟨b, 2, none⟩ = some (.int .i64 s.H) := hd1.cell 2 _ rfl
      clear hd1 ht1
      go_wp2_with fail
      go_quiet (fail)
      go_wp2_with fail
      exact ⟨rfl, E1.out.symm, by rw [E2.out]; exact ⟨_, _, _, HD1.out.draws _, HT1.out.trans (Turn.draws _ _ _ _ _ _)⟩⟩
    · obtain ⟨e1, e2⟩ := s4_0 b s c hm hb0 hk hho
      have E1 := Lib.hid e1
      have E2 := Lib.hid e2
      have HM := Lib.hid hm
      have ih : ¬ (s.H : Int) < (s.head : Int) + 1 := by omega
      clear e1 e2 hk hm hb0 hho
      unfold ptr
      go_enter Tryz.func117, Tryz.ntmps117
      go_wp2_with fail
      generalize w.setCell ⟨b, 9, none⟩ (.int .i64 ((s.head : Int) + 1)) = w0 at *
      refine HA.out.mono ?_
      rintro e w1 ⟨rfl, v1, v2, v3, hd1, ht1⟩
      have HD1 := Lib.hid hd1
      have HT1 := Lib.hid (HT0.out.trans ht1)
      have k9 : w1.cell? ⟨b, 9, none⟩ = some (.int .i64 ((s.head : Int) + 1)) := hd1.cell 9 _ rfl
      have k2 : w1.cell? ⟨b, 2, none⟩ = some (.int .i64 s.H) := hd1.cell 2 _ rfl
      clear hd1 ht1
      go_wp2_with fail
      go_quiet (fail)
      have k5 : w1.cell? ⟨b, 5, none⟩ = some (stV b 4) := HD1.out.cell 5 _ (by show some (stV b s.mode) = _; rw [HM.out])
      go_wp2_with fail
      go_ret
      exact ⟨E1.out.symm, by rw [E2.out]; exact ⟨_, _, _, HD1.out.draws _, HT1.out.trans (Turn.draws _ _ _ _ _ _)⟩⟩
  · have hE : addE s c = .returned (.bool true) := by unfold addE; rw [if_neg (by omega), if_pos hk]
    rw [hE] at ha
    have HA := Lib.hid ha
    clear ha hE
    by_cases hho : s.H < s.head + 1
    · obtain ⟨e1, e2⟩ := s4_h b s c hm (.inr hk) hho
      have E1 := Lib.hid e1
      have E2 := Lib.hid e2
      have ih : (s.H : Int) < (s.head : Int) + 1 := by omega
      clear e1 e2 hk hm hb0 hho hcr hc
      unfold ptr
      go_enter Tryz.func117, Tryz.ntmps117
      go_wp2_with fail
      generalize w.setCell ⟨b, 9, none⟩ (.int .i64 ((s.head : Int) + 1)) = w0 at *
      refine HA.out.mono ?_
      rintro e w1 ⟨rfl, v1, v2, v3, hd1, ht1⟩
      have HD1 := Lib.hid hd1
      have HT1 := Lib.hid (HT0.out.trans ht1)
      have k9 : w1.cell? ⟨b, 9, none⟩ = some (.int .i64 ((s.head : Int) + 1)) := hd1.cell 9 _ rfl
      have k2 : w1.cell? ⟨b, 2, none⟩ = some (.int .i64 s.H) := hd1.cell 2 _ rfl
      clear hd1 ht1
      go_wp2_with fail
      go_quiet (fail)
      go_wp2_with fail
      exact ⟨rfl, E1.out.symm, by rw [E2.out]; exact ⟨_, _, _, HD1.out.draws _, HT1.out.trans (Turn.draws _ _ _ _ _ _)⟩⟩
    · subst hc
      have hsp := cr_split _ hcr
      have hst := s4_1 s 10 hm hk hho
      generalize hp : s.line.dropLast = p at *
      have hpl : p.length + 1 = s.line.length := by rw [hsp]; simp
      have HTx := Lib.hid (fun (v1 v2 v3 : Value) (W : World) (hd : Dec B b (addD (up s) 10) v1 v2 v3 W) => text_any hd p 13 10 (by show s.line ++ [10] = _; rw [hsp]; simp) (by show (s.line ++ [10]).length ≤ _; simp; omega))
      have HLn := Lib.hid (fun W : World => line_any (mkS p) W (by rw [size_mkS]; omega))
      rw [bs_mkS] at HLn
      unfold LinePost at HLn
      have hs1 : stepM s 10 = { trailD { s with head := s.head + 1, line := [] } p with mode := s.mode, bad := s.bad } := by unfold stepM; rw [hst]
      have hs2 : stepE b s 10 = if (trailD { s with head := s.head + 1, line := [] } p).bad = 0 then .returned (stV b (trailD { s with head := s.head + 1, line := [] } p).mode) else .panicked (flawP (trailD { s with head := s.head + 1, line := [] } p).bad) := by unfold stepE; rw [hst]
      have hsd : trailD { s with head := s.head + 1, line := [] } p = if p = [] then { s with head := s.head + 1, line := [], mode := 5 } else if lineOk p then (if s.C ≤ s.trl.length then { s with head := s.head + 1, line := [], bad := 431 } else { s with head := s.head + 1, line := [], trl := s.trl ++ [(lineN p, lineV p)] }) else { s with head := s.head + 1, line := [], bad := 400 } := rfl
      have ih : ¬ (s.H : Int) < (s.head : Int) + 1 := by omega
      have hemp : (mkS p).toList.isEmpty = decide (p = []) := by rw [toList_bs, bs_mkS]; cases p <;> rfl
      clear hst hk hcr hsp hho
      by_cases he : p = []
      · rw [if_pos he] at hsd
        rw [hsd] at hs1 hs2
        rw [if_pos (by exact hb0)] at hs2
        have E1 := Lib.hid (show stepE b s 10 = .returned .nilFunc from hs2)
        have E2 := Lib.hid (show stepM s 10 = { s with head := s.head + 1, line := [] } from hs1)
        rw [decide_eq_true he] at hemp
        clear hsd hs1 hs2 hm hb0 he hp hpl HLn
        unfold ptr
        go_enter Tryz.func117, Tryz.ntmps117
        go_wp2_with fail
        generalize w.setCell ⟨b, 9, none⟩ (.int .i64 ((s.head : Int) + 1)) = w0 at *
        refine HA.out.mono ?_
        rintro e w1 ⟨rfl, v1, v2, v3, hd1, ht1⟩
        have HD1 := Lib.hid hd1
        have HT1 := Lib.hid (HT0.out.trans ht1)
        have k9 : w1.cell? ⟨b, 9, none⟩ = some (.int .i64 ((s.head : Int) + 1)) := hd1.cell 9 _ rfl
        have k2 : w1.cell? ⟨b, 2, none⟩ = some (.int .i64 s.H) := hd1.cell 2 _ rfl
        clear hd1 ht1
        go_wp2_with fail
        go_quiet (fail)
        have HD2 := Lib.hid (HD1.out.draws nq)
        have HT2 := Lib.hid (HT1.out.trans (Turn.draws _ _ _ _ _ nq))
        clear k9 k2
        generalize w1.drewN nq = w2 at *
        go_wp2_with fail
        refine (HTx.out _ _ _ _ HD2.out).mono ?_
        rintro e w3 ⟨rfl, u1, u2, u3, hd3, ht3⟩
        have HD3 := Lib.hid hd3
        have HT3 := Lib.hid (HT2.out.trans ht3)
        clear hd3 ht3
        go_wp2_with fail
        go_ret
        exact ⟨E1.out.symm, by rw [E2.out]; exact ⟨_, _, _, HD3.out, HT3.out⟩⟩
      · rw [if_neg he] at hsd
        rw [decide_eq_false he] at hemp
        cases hlo : lineOk p
        · rw [hlo, if_neg (by decide)] at hsd
          rw [hsd] at hs1 hs2
          rw [if_neg (by show ¬ 400 = 0; decide)] at hs2
          have E1 := Lib.hid (show stepE b s 10 = .panicked (flawP 400) from hs2)
          have E2 := Lib.hid (show stepM s 10 = { s with head := s.head + 1, line := [] } from hs1)
          obtain ⟨n1, n2, n3⟩ := ln_no p hlo
          rw [n3] at HLn
          generalize lnN p = X at *
          generalize lnV p = Y at *
          clear hsd hs1 hs2 hm hb0 he hp hpl hlo n1 n2 n3
          unfold ptr
          go_enter Tryz.func117, Tryz.ntmps117
          go_wp2_with fail
          generalize w.setCell ⟨b, 9, none⟩ (.int .i64 ((s.head : Int) + 1)) = w0 at *
          refine HA.out.mono ?_
          rintro e w1 ⟨rfl, v1, v2, v3, hd1, ht1⟩
          have HD1 := Lib.hid hd1
          have HT1 := Lib.hid (HT0.out.trans ht1)
          have k9 : w1.cell? ⟨b, 9, none⟩ = some (.int .i64 ((s.head : Int) + 1)) := hd1.cell 9 _ rfl
          have k2 : w1.cell? ⟨b, 2, none⟩ = some (.int .i64 s.H) := hd1.cell 2 _ rfl
          clear hd1 ht1
          go_wp2_with fail
          go_quiet (fail)
          have HD2 := Lib.hid (HD1.out.draws nq)
          have HT2 := Lib.hid (HT1.out.trans (Turn.draws _ _ _ _ _ nq))
          clear k9 k2
          generalize w1.drewN nq = w2 at *
          go_wp2_with fail
          refine (HTx.out _ _ _ _ HD2.out).mono ?_
          rintro e w3 ⟨rfl, u1, u2, u3, hd3, ht3⟩
          have HD3 := Lib.hid hd3
          have HT3 := Lib.hid (HT2.out.trans ht3)
          clear hd3 ht3
          go_wp2_with fail
          refine (HLn.out _).mono ?_
          rintro e w4 ⟨rfl, hb⟩
          have HD4 := Lib.hid (HD3.out.below hb)
          have HT4 := Lib.hid (HT3.out.trans (Turn.of hb))
          clear hb
          have hbf : Below w4.heap.size w4 (w4.alloc (.cells #[.string (mkS X), .string (mkS Y)] 84)) := (Below.refl _ _).alloc (Nat.le_refl _) _
          have HD5 := Lib.hid (HD4.out.below hbf)
          have HT5 := Lib.hid (HT4.out.trans (Turn.of hbf))
          have HF := Lib.hid (Two.new w4 84 (.string (mkS X)) (.string (mkS Y)))
          clear hbf
          go_wp2_with fail
          exact ⟨rfl, E1.out.symm, by rw [E2.out]; exact ⟨_, _, _, HD5.out, HT5.out⟩⟩
        · rw [hlo, if_pos rfl] at hsd
          obtain ⟨n1, n2, n3⟩ := ln_ok p hlo
          rw [n3] at HLn
          rw [← n1, ← n2] at hsd
          generalize lnN p = X at *
          generalize lnV p = Y at *
          obtain ⟨NT, hNT⟩ : ∃ N, N = s.trl.length := ⟨_, rfl⟩
          have HNT := Lib.hid hNT
          rw [← hNT] at hsd htl
          by_cases hcn : s.C ≤ NT
          · rw [if_pos hcn] at hsd
            rw [hsd] at hs1 hs2
            rw [if_neg (by show ¬ 431 = 0; decide)] at hs2
            have E1 := Lib.hid (show stepE b s 10 = .panicked (flawP 431) from hs2)
            have E2 := Lib.hid (show stepM s 10 = { s with head := s.head + 1, line := [] } from hs1)
            have icn : (s.C : Int) ≤ (NT : Int) := by omega
            clear hsd hs1 hs2 hm hb0 he hp hpl hlo n1 n2 n3 hcn hNT
            unfold ptr
            go_enter Tryz.func117, Tryz.ntmps117
            go_wp2_with fail
            generalize w.setCell ⟨b, 9, none⟩ (.int .i64 ((s.head : Int) + 1)) = w0 at *
            refine HA.out.mono ?_
            rintro e w1 ⟨rfl, v1, v2, v3, hd1, ht1⟩
            have HD1 := Lib.hid hd1
            have HT1 := Lib.hid (HT0.out.trans ht1)
            have k9 : w1.cell? ⟨b, 9, none⟩ = some (.int .i64 ((s.head : Int) + 1)) := hd1.cell 9 _ rfl
            have k2 : w1.cell? ⟨b, 2, none⟩ = some (.int .i64 s.H) := hd1.cell 2 _ rfl
            clear hd1 ht1
            go_wp2_with fail
            go_quiet (fail)
            have HD2 := Lib.hid (HD1.out.draws nq)
            have HT2 := Lib.hid (HT1.out.trans (Turn.draws _ _ _ _ _ nq))
            clear k9 k2
            generalize w1.drewN nq = w2 at *
            go_wp2_with fail
            refine (HTx.out _ _ _ _ HD2.out).mono ?_
            rintro e w3 ⟨rfl, u1, u2, u3, hd3, ht3⟩
            have HD3 := Lib.hid hd3
            have HT3 := Lib.hid (HT2.out.trans ht3)
            clear hd3 ht3
            go_wp2_with fail
            refine (HLn.out _).mono ?_
            rintro e w4 ⟨rfl, hb⟩
            have HD4 := Lib.hid (HD3.out.below hb)
            have HT4 := Lib.hid (HT3.out.trans (Turn.of hb))
            clear hb
            have hbf : Below w4.heap.size w4 (w4.alloc (.cells #[.string (mkS X), .string (mkS Y)] 84)) := (Below.refl _ _).alloc (Nat.le_refl _) _
            have HD5 := Lib.hid (HD4.out.below hbf)
            have HT5 := Lib.hid (HT4.out.trans (Turn.of hbf))
            have HF := Lib.hid (Two.new w4 84 (.string (mkS X)) (.string (mkS Y)))
            clear hbf
            obtain ⟨a, cap, rfl⟩ : ∃ a c, u3 = .slice a NT c := by
              obtain ⟨a, c, e⟩ := HD5.out.vtrl
              exact ⟨a, c, e.trans (by rw [show NT = s.trl.length from HNT.out]; rfl)⟩
            go_wp2_with fail
            generalize w4.alloc (.cells #[.string (mkS X), .string (mkS Y)] 84) = w5 at *
            generalize w4.heap.size = g4 at *
            have k11 : w5.cell? ⟨b, 11, none⟩ = some (.slice a NT cap) := HD5.out.cell 11 _ rfl
            have k3 : w5.cell? ⟨b, 3, none⟩ = some (.int .i64 s.C) := HD5.out.cell 3 _ rfl
            go_quiet (fail)
            go_wp2_with fail
            exact ⟨rfl, E1.out.symm, by rw [E2.out]; exact ⟨_, _, _, HD5.out.draws _, HT5.out.trans (Turn.draws _ _ _ _ _ _)⟩⟩
          · rw [if_neg hcn] at hsd
            rw [hsd] at hs1 hs2
            rw [if_pos (by exact hb0)] at hs2
            have E1 := Lib.hid (show stepE b s 10 = .returned (stV b (addD (up s) 10).mode) from hs2)
            have E2 := Lib.hid (show stepM s 10 = { s with head := s.head + 1, line := [], trl := s.trl ++ [(X, Y)] } from hs1)
            have icn : ¬ (s.C : Int) ≤ (NT : Int) := by omega
            clear hsd hs1 hs2 hm hb0 he hp hpl hlo n1 n2 n3 hcn hNT
            obtain ⟨i0, hi, hz0, hz1, hz2⟩ := info_parts fldInfo
            unfold ptr
            go_enter Tryz.func117, Tryz.ntmps117
            go_wp2_with fail
            generalize w.setCell ⟨b, 9, none⟩ (.int .i64 ((s.head : Int) + 1)) = w0 at *
            refine HA.out.mono ?_
            rintro e w1 ⟨rfl, v1, v2, v3, hd1, ht1⟩
            have HD1 := Lib.hid hd1
            have HT1 := Lib.hid (HT0.out.trans ht1)
            have k9 : w1.cell? ⟨b, 9, none⟩ = some (.int .i64 ((s.head : Int) + 1)) := hd1.cell 9 _ rfl
            have k2 : w1.cell? ⟨b, 2, none⟩ = some (.int .i64 s.H) := hd1.cell 2 _ rfl
            clear hd1 ht1
            go_wp2_with fail
            go_quiet (fail)
            have HD2 := Lib.hid (HD1.out.draws nq)
            have HT2 := Lib.hid (HT1.out.trans (Turn.draws _ _ _ _ _ nq))
            clear k9 k2
            generalize w1.drewN nq = w2 at *
            go_wp2_with fail
            refine (HTx.out _ _ _ _ HD2.out).mono ?_
            rintro e w3 ⟨rfl, u1, u2, u3, hd3, ht3⟩
            have HD3 := Lib.hid hd3
            have HT3 := Lib.hid (HT2.out.trans ht3)
            clear hd3 ht3
            go_wp2_with fail
            refine (HLn.out _).mono ?_
            rintro e w4 ⟨rfl, hb⟩
            have HD4 := Lib.hid (HD3.out.below hb)
            have HT4 := Lib.hid (HT3.out.trans (Turn.of hb))
            clear hb
            have hbf : Below w4.heap.size w4 (w4.alloc (.cells #[.string (mkS X), .string (mkS Y)] 84)) := (Below.refl _ _).alloc (Nat.le_refl _) _
            have HD5 := Lib.hid (HD4.out.below hbf)
            have HT5 := Lib.hid (HT4.out.trans (Turn.of hbf))
            have HF := Lib.hid (Two.new w4 84 (.string (mkS X)) (.string (mkS Y)))
            clear hbf
            obtain ⟨a, cap, rfl⟩ : ∃ a c, u3 = .slice a NT c := by
              obtain ⟨a, c, e⟩ := HD5.out.vtrl
              exact ⟨a, c, e.trans (by rw [show NT = s.trl.length from HNT.out]; rfl)⟩
            go_wp2_with fail
            generalize w4.alloc (.cells #[.string (mkS X), .string (mkS Y)] 84) = w5 at *
            generalize w4.heap.size = g4 at *
            have k11 : w5.cell? ⟨b, 11, none⟩ = some (.slice a NT cap) := HD5.out.cell 11 _ rfl
            have k3 : w5.cell? ⟨b, 3, none⟩ = some (.int .i64 s.C) := HD5.out.cell 3 _ rfl
            go_quiet (fail)
            have HD6 := Lib.hid (HD5.out.draws nq)
            have HT6 := Lib.hid (HT5.out.trans (Turn.draws _ _ _ _ _ nq))
            have k11 : (w5.drewN nq).cell? ⟨b, 11, none⟩ = some (.slice a NT cap) := HD6.out.cell 11 _ rfl
            have hF6 := HF.out.draws nq
            have q0 := hF6.c0
            have q1 := hF6.c1
            have HF6 := Lib.hid hF6
            clear hF6
            generalize w5.drewN nq = w6 at *
            go_wp2_with fail
            have HD7 := Lib.hid (show Dec B b _ _ _ _ w6.drew from HD6.out.draws 1)
            have HT7 := Lib.hid (HT6.out.trans (show Turn b _ _ _ _ _ _ w6 w6.drew from Turn.draws _ _ _ _ _ 1))
            have k11 : w6.drew.cell? ⟨b, 11, none⟩ = some (.slice a NT cap) := HD7.out.cell 11 _ rfl
            obtain ⟨w7, hw7⟩ : ∃ W, W = w6.drew := ⟨_, rfl⟩
            rw [← hw7] at HD7 HT7 k11
            have hF7 := HF6.out.draws 1
            rw [show w6.drewN 1 = w7 from hw7.symm] at hF7
            have hw0 : Below w7.heap.size w7 (w7.alloc (.cells #[.string (mkS X), .string (mkS Y)] 84)) := (Below.refl _ _).alloc (Nat.le_refl _) _
            have HD8 := Lib.hid (HD7.out.below hw0)
            have HT8 := Lib.hid (HT7.out.trans (Turn.of hw0))
            have hBs : B ≤ (w7.alloc (.cells #[.string (mkS X), .string (mkS Y)] 84)).heap.size := by have := HD8.out.hB; have := HD8.out.lt; omega
            have hN7 := Two.new w7 84 (.string (mkS X)) (.string (mkS Y))
            have HO := Lib.hid (show (w7.alloc (.cells #[.string (mkS X), .string (mkS Y)] 84)).ownsRow B 84 2 (.slice a NT cap) NT (fcells s.trl) by rw [show NT = s.trl.length from HNT.out]; have := HD8.out.trl; rw [show NT = s.trl.length from HNT.out] at this; exact this)
            have hF8 := hF7.later hw0
            have p0 := hF7.c0
            have p1 := hF7.c1
            have r0 := hF8.c0
            have r1 := hF8.c1
            have k12 : (w7.alloc (.cells #[.string (mkS X), .string (mkS Y)] 84)).cell? ⟨b, 11, none⟩ = some (.slice a NT cap) := HD8.out.cell 11 _ rfl
            have hc1 : ∀ j u, [Value.string (mkS X), Value.string (mkS Y)][j]? = some u → (w7.alloc (.cells #[.string (mkS X), .string (mkS Y)] 84)).cell? ((⟨w7.heap.size, 0, none⟩ : Addr).add j) = some u := by
              intro j u hj
              match j, hj with
              | 0, hj => simp at hj; subst hj; exact hN7.c0
              | 1, hj => simp at hj; subst hj; exact hN7.c1
            have hc2 : ∀ u ∈ [Value.string (mkS X), Value.string (mkS Y)], u.oneCell' = true := by intro u hu; simp at hu; rcases hu with rfl | rfl <;> rfl
            have hc3 : NT + 1 ≤ maxLen := by unfold maxLen; omega
            have hc4 : (NT + 1) * 32 ≤ 140737488355328 := by omega
            have HC1 := Lib.hid hc1
            have HC2 := Lib.hid hc2
            have HC3 := Lib.hid hc3
            have HC4 := Lib.hid hc4
            have HBS := Lib.hid hBs
            clear hw0 hF7 hF8 hc1 hc2 hc3 hc4 hBs
            subst hw7
            have k13 : (w6.alloc (.cells #[.string (mkS X), .string (mkS Y)] 84)).drew.cell? ⟨b, 11, none⟩ = some (.slice a NT cap) := k12
            go_region_law (first | (refine step_stay (by rfl) _ _ 30 (by rfl) B 84 i0 (.agg #[.string .empty, .string .empty]) 2 32 Tryz.underlying30 hi hz0 hz1 hz2 (by rfl) (by decide) _ _ _ (by rfl) HO.out ⟨w6.drew.heap.size, 0, none⟩ 1 1 [.string (mkS X), .string (mkS Y)] (by rfl) (by rfl) HC1.out HC2.out HC3.out HC4.out HBS.out ?_; intro v' w8 ho hg hst; obtain ⟨g2, cap2, rfl, j11, f11, k5, hd, ht⟩ := HD8.out.grewTrl (X, Y) NT HNT.out ho hg hst; have HR := Lib.hid (show DecTo B b { s with head := s.head + 1, line := [], trl := s.trl ++ [(X, Y)] } vl vb vt w _ from ⟨_, _, _, hd, HT8.out.trans ht⟩); clear hd ht ho hg hst))
            all_goals
              go_wp2_with fail
              go_ret
              exact ⟨E1.out.symm, by rw [E2.out]; exact HR.out⟩
  · have hE : addE s c = .panicked (flawP 400) := by unfold addE; rw [if_neg (by omega), if_neg (by omega)]
    rw [hE] at ha
    obtain ⟨e1, e2⟩ := s4_2 b s c hm hk
    have E1 := Lib.hid e1
    have E2 := Lib.hid e2
    have HA := Lib.hid ha
    clear ha hE e1 e2 hk hm hb0
    unfold ptr
    go_enter Tryz.func117, Tryz.ntmps117
    go_wp2_with fail
    generalize w.setCell ⟨b, 9, none⟩ (.int .i64 ((s.head : Int) + 1)) = w0 at *
    refine HA.out.mono ?_
    rintro e w1 ⟨rfl, hd⟩
    have HR := Lib.hid (DecTo.of HT0.out hd)
    clear hd
    go_wp2_with fail
    exact ⟨rfl, E1.out.symm, by rw [E2.out]; exact HR.out⟩
end Tk
end Go.Proofs.YtpcdaaijlgilkaaGreatDoor
namespace Go.Proofs.YtpcdaaijlgilkaaGreatDoor
namespace Tk

theorem eats_end {s si : Dc} {l : Bs} {i : Nat} (hi : i ≤ l.length) (h : Eats s (l.take i) si) (he : stopD si = true ∨ i = l.length) : feedD s l = (i, si) := by
  unfold Eats at h
  have hl : (l.take i).length = i := by simp; omega
  rw [hl] at h
  rcases he with he | rfl
  · have := feedD_append (l.take i) s (l.drop i)
    rw [List.take_append_drop, h] at this
    simp only [feedD_stop si _ he, Nat.add_zero] at this
    exact this
  · rw [List.take_length] at h; exact h
theorem eats_next {s si : Dc} {l : Bs} {i : Nat} (hi : i < l.length) (h : Eats s (l.take i) si) (hs : stopD si = false) : Eats s (l.take (i + 1)) (stepD si (l.getD i 0)) := by
  rw [List.take_succ_eq_append_getElem hi]
  have : l.getD i 0 = l[i] := by simp [List.getD, hi]
  rw [this]
  exact h.append (Eats.one hs)
theorem eats_fit {s si : Dc} {l : Bs} {i n : Nat} (hf : s.Fit n) (hi : i ≤ l.length) (h : Eats s (l.take i) si) : si.Fit (n + i) := by
  have h2 := feedD_fit (l.take i) s n hf
  unfold Eats at h
  rw [h] at h2
  have hl : (l.take i).length = i := by simp; omega
  rw [hl] at h2
  exact h2
theorem eats_lim {s si : Dc} {a : Bs} (h : Eats s a si) : si.L = s.L ∧ si.H = s.H ∧ si.C = s.C ∧ si.M = s.M := by
  have h2 := feedD_lim a s
  unfold Eats at h
  rw [h] at h2
  exact h2
/-- limits that fit into a word -/
def Lim (s : Dc) : Prop := s.L ≤ 9223372036854775807 ∧ s.H ≤ 9223372036854775807 ∧ s.C ≤ 9223372036854775807 ∧ s.M ≤ 9223372036854775807
theorem Lim.eats {s si : Dc} {a : Bs} (hl : Lim s) (h : Eats s a si) : Lim si := by
  obtain ⟨a1, a2, a3, a4⟩ := eats_lim h
  unfold Lim
  rw [a1, a2, a3, a4]; exact hl
theorem Lim.feed {s : Dc} (hl : Lim s) (a : Bs) : Lim (feedD s a).2 := by
  obtain ⟨a1, a2, a3, a4⟩ := feedD_lim a s
  unfold Lim
  rw [a1, a2, a3, a4]; exact hl
/-- a part more is fed -/
theorem eats_more {s so : Dc} {b : Bs} {ate k : Nat} (h : Eats s (b.take ate) so) (ha : ate ≤ k) (hk : k ≤ b.length) :
    Eats s (b.take (ate + (feedD so ((b.drop ate).take (k - ate))).1)) (feedD so ((b.drop ate).take (k - ate))).2 ∧ ate + (feedD so ((b.drop ate).take (k - ate))).1 ≤ k ∧
    (k = b.length → stopD (feedD so ((b.drop ate).take (k - ate))).2 = true ∨ ate + (feedD so ((b.drop ate).take (k - ate))).1 = b.length) := by
  have hseg : ((b.drop ate).take (k - ate)).length = k - ate := by simp; omega
  have hle := feedD_le ((b.drop ate).take (k - ate)) so
  have htk := feedD_take ((b.drop ate).take (k - ate)) so
  rw [hseg] at hle
  refine ⟨?_, by omega, fun hkb => ?_⟩
  · rw [List.take_take, Nat.min_eq_left hle] at htk
    have hl : ((b.drop ate).take (feedD so ((b.drop ate).take (k - ate))).1).length = (feedD so ((b.drop ate).take (k - ate))).1 := by simp; omega
    have h2 : Eats so ((b.drop ate).take (feedD so ((b.drop ate).take (k - ate))).1) (feedD so ((b.drop ate).take (k - ate))).2 := by
      unfold Eats
      rw [htk, hl]
    rw [List.take_add]
    exact h.append h2
  · cases hs : stopD (feedD so ((b.drop ate).take (k - ate))).2
    · right
      have := feedD_all _ _ hs
      rw [hseg] at this
      omega
    · exact .inl rfl
theorem stop_iff (s : Dc) : stopD s = true ↔ (s.mode = 5 ∨ s.bad ≠ 0) := by unfold stopD; simp
theorem stop_false (s : Dc) : stopD s = false ↔ (s.mode ≠ 5 ∧ s.bad = 0) := by unfold stopD; simp
theorem feed_bad (s : Dc) (l : Bs) (h : s.bad ≠ 0) : feedD s l = (0, s) := feedD_stop s l ((stop_iff s).2 (.inr h))
theorem feed_end (s : Dc) (l : Bs) (h : s.mode = 5) : feedD s l = (0, s) := feedD_stop s l ((stop_iff s).2 (.inl h))
end Tk
end Go.Proofs.YtpcdaaijlgilkaaGreatDoor
namespace Go.Proofs.YtpcdaaijlgilkaaGreatDoor
open Go.RowKit
namespace Tk

theorem DecTo.refl {B b : Nat} {s : Dc} {vl vb vt : Value} {w : World} (h : Dec B b s vl vb vt w) : DecTo B b s vl vb vt w w := ⟨_, _, _, h, Turn.refl⟩

theorem state_any {B b : Nat} {s : Dc} {vl vb vt : Value} (c : UInt8) {w : World} (h : Dec B b s vl vb vt w) (hm : s.mode < 5) (hb0 : s.bad = 0) (n : Nat) (hf : s.Fit n) (hn : n + 1 ≤ 1048576) (hl : Lim s) (hv : ErrV B w) :
    ∃ F, stV b s.mode = .func (.func F) #[.pointer (some ⟨b, 0, none⟩)] #[] ∧ (∀ args w, (callFunc F args).run Tryz.prog w = .ok (.enter F args) w) ∧ Calls Tryz.prog F #[.pointer (some ⟨b, 0, none⟩), .int .u8 c.toNat] w (StepPost B b s c vl vb vt w) := by
  obtain ⟨l1, l2, l3, l4⟩ := hl
  have f1 := hf.line
  have f2 := hf.head
  have f3 := hf.body
  have f4 := hf.trl
  have f5 := hf.room
  have hcase : s.mode = 0 ∨ s.mode = 1 ∨ s.mode = 2 ∨ s.mode = 3 ∨ s.mode = 4 := by omega
  rcases hcase with e | e | e | e | e
  · refine ⟨_, by rw [e]; rfl, enters_of Tryz.func92 (by kernel_rfl) rfl, ?_⟩
    exact sizeLine_any c h e hb0 (by omega) l1 l4 (by omega) hv
  · refine ⟨_, by rw [e]; rfl, enters_of Tryz.func118 (by kernel_rfl) rfl, ?_⟩
    refine (data_any c h e (hf.one e) hf.few (by omega)).mono ?_
    rintro x w' ⟨rfl, hd⟩
    have hs : stepM s c = { s with body := s.body ++ [c], left := s.left - 1 } := by unfold stepM; rw [stepD_1 s c e]; split <;> rfl
    refine ⟨?_, by rw [hs]; exact hd⟩
    unfold stepE
    rw [stepD_1 s c e]
    by_cases h1 : 1 < s.left
    · simp only [if_pos h1, hb0, if_true, e]
    · simp only [if_neg h1, hb0, if_true]
  · refine ⟨_, by rw [e]; rfl, enters_of Tryz.func143 (by kernel_rfl) rfl, ?_⟩
    refine (dataCR_any b c w).mono ?_
    rintro x w' ⟨rfl, rfl⟩
    have hs : stepM s c = s := by unfold stepM; rw [stepD_2 s c e]; split <;> rfl
    refine ⟨?_, by rw [hs]; exact .refl h⟩
    unfold stepE
    rw [stepD_2 s c e]
    by_cases hc : c = 13
    · simp only [if_pos hc, hb0, if_true]
    · simp only [if_neg hc]; rfl
  · refine ⟨_, by rw [e]; rfl, enters_of Tryz.func155 (by kernel_rfl) rfl, ?_⟩
    refine (dataLF_any b c w).mono ?_
    rintro x w' ⟨rfl, rfl⟩
    have hs : stepM s c = s := by unfold stepM; rw [stepD_3 s c e]; split <;> rfl
    refine ⟨?_, by rw [hs]; exact .refl h⟩
    unfold stepE
    rw [stepD_3 s c e]
    by_cases hc : c = 10
    · simp only [if_pos hc, hb0, if_true]
    · simp only [if_neg hc]; rfl
  · refine ⟨_, by rw [e]; rfl, enters_of Tryz.func117 (by kernel_rfl) rfl, ?_⟩
    exact trailer_any c h e hb0 (by omega) l1 (by omega) (by omega)
end Tk
end Go.Proofs.YtpcdaaijlgilkaaGreatDoor
