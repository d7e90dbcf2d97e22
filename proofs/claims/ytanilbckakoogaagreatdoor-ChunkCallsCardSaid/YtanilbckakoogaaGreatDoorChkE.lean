/- chunk: the state in a size line. -/
import Derived.Test.YtanilbckakoogaaGreatDoorChkC
import Derived.Test.YtanilbckakoogaaGreatDoorChkU
namespace Go.Proofs.YtanilbckakoogaaGreatDoor
open Go.RowKit
namespace Tk

theorem ErrV.top {B : Nat} {w : World} (h : ErrV B w) : ErrV w.heap.size w := ⟨Nat.lt_of_lt_of_le h.1 h.2.1, Nat.le_refl _, h.2.2⟩
/-- how a state ends at a byte; what the decoder holds then, ahead of the store of its state -/
def stepE (b : Nat) (s : Dc) (c : UInt8) : Ending := if (stepD s c).bad = 0 then .returned (stV b (stepD s c).mode) else .panicked (flawP (stepD s c).bad)
def stepM (s : Dc) (c : UInt8) : Dc := { stepD s c with mode := s.mode, bad := s.bad }
def StepPost (B b : Nat) (s : Dc) (c : UInt8) (vl vb vt : Value) (w : World) (e : Ending) (w' : World) : Prop := e = stepE b s c ∧ DecTo B b (stepM s c) vl vb vt w w'

theorem DecTo.of {B b : Nat} {s' : Dc} {vl vb vt v1 v2 v3 : Value} {w w1 w' : World} (h : Turn b vl vb vt v1 v2 v3 w w1) (h2 : DecTo B b s' v1 v2 v3 w1 w') : DecTo B b s' vl vb vt w w' := by
  obtain ⟨u1, u2, u3, hd, ht⟩ := h2
  exact ⟨u1, u2, u3, hd, h.trans ht⟩
theorem Dec.vline {B b : Nat} {s : Dc} {vl vb vt : Value} {w : World} (h : Dec B b s vl vb vt w) : ∃ a c, vl = .slice a s.line.length c := by
  rcases h.line.2 with ⟨hv, h0⟩ | ⟨g, cap, cur, hv, _⟩
  · exact ⟨none, 0, by rw [hv, h0]⟩
  · exact ⟨_, _, hv⟩
theorem Dec.vbody {B b : Nat} {s : Dc} {vl vb vt : Value} {w : World} (h : Dec B b s vl vb vt w) : ∃ a c, vb = .slice a s.body.length c := by
  rcases h.body.2 with ⟨hv, h0⟩ | ⟨g, cap, cur, hv, _⟩
  · exact ⟨none, 0, by rw [hv, h0]⟩
  · exact ⟨_, _, hv⟩
theorem Dec.vtrl {B b : Nat} {s : Dc} {vl vb vt : Value} {w : World} (h : Dec B b s vl vb vt w) : ∃ a c, vt = .slice a s.trl.length c := by
  rcases h.trl.2 with ⟨hv, h0⟩ | ⟨g, cap, cur, hv, _⟩
  · exact ⟨none, 0, by rw [hv, h0]⟩
  · exact ⟨_, _, hv⟩
theorem cr_split (l : Bs) (h : cr l = true) : l = l.dropLast ++ [13] := by
  rcases List.eq_nil_or_concat l with e | ⟨p, x, e⟩
  · subst e; exact absurd h (by decide)
  · rw [List.concat_eq_append] at e
    subst e
    rw [cr_snoc, decide_eq_true_eq] at h
    subst h
    simp
theorem addK_cases (s : Dc) (c : UInt8) : addK s c = 0 ∨ (addK s c = 1 ∧ c = 10 ∧ cr s.line = true) ∨ addK s c = 2 := by
  unfold addK
  by_cases h1 : cr s.line = decide (c = 10)
  · rw [if_pos h1]
    cases hr : cr s.line
    · by_cases hl : s.L ≤ s.line.length + 1 <;> simp [hl]
    · rw [hr] at h1
      exact .inr (.inl ⟨by simp, by simpa using h1.symm, rfl⟩)
  · rw [if_neg h1]; simp

theorem s0_0 (b : Nat) (s : Dc) (c : UInt8) (hm : s.mode = 0) (hb : s.bad = 0) (hk : addK s c = 0) : stepE b s c = .returned (stV b 0) ∧ stepM s c = addD s c := by
  unfold stepE stepM
  rw [stepD_0 s c hm, hk]
  simp [addD, hm, hb]
theorem s0_2 (b : Nat) (s : Dc) (c : UInt8) (hm : s.mode = 0) (hk : addK s c = 2) : stepE b s c = .panicked (flawP 400) ∧ stepM s c = addD s c := by
  unfold stepE stepM
  rw [stepD_0 s c hm, hk]
  simp [addD]
theorem s0_1 (s : Dc) (c : UInt8) (hm : s.mode = 0) (hk : addK s c = 1) : stepD s c = sizedD { s with line := [] } (txt s) := by
  rw [stepD_0 s c hm, hk]
  rfl

set_option maxHeartbeats 4000000 in
set_option maxRecDepth 100000 in
theorem sizeLine_any {B b : Nat} {s : Dc} {vl vb vt : Value} (c : UInt8) {w : World} (h : Dec B b s vl vb vt w) (hm : s.mode = 0) (hb0 : s.bad = 0) (hz : s.line.length + 1 ≤ 1099511627) (hL : s.L ≤ 9223372036854775807) (hM : s.M ≤ 9223372036854775807) (hr : s.body.length ≤ s.M) (hv : ErrV B w) :
    Calls Tryz.prog 26 #[ptr b, .int .u8 c.toNat] w (StepPost B b s c vl vb vt w) := by
  have hmf : ∀ (fn : Fn) (first cap : Array Value) (w : World), (Instr.makeFunc fn first cap).run Tryz.prog w = .ok (.func fn first cap) w := fun _ _ _ _ => rfl
  have ha := add_any c h (by omega) hL
  have HD := Lib.hid h
  have HV := Lib.hid hv
  clear hv
  rcases addK_cases s c with hk | ⟨hk, hc, hcr⟩ | hk
  · have hE : addE s c = .returned (.bool false) := by unfold addE; rw [if_pos hk]
    rw [hE] at ha
    obtain ⟨e1, e2⟩ := s0_0 b s c hm hb0 hk
    have E1 := Lib.hid e1
    have E2 := Lib.hid e2
    have HM := Lib.hid hm
    have HA := Lib.hid ha
    clear ha hE e1 e2 hk h hm hb0
    unfold ptr
    go_enter Tryz.func26, Tryz.ntmps26
    go_wp2_with fail
    refine HA.out.mono ?_
    rintro e w1 ⟨rfl, hd⟩
    have HR := Lib.hid hd
    obtain ⟨v1, v2, v3, hd1, -⟩ := hd
    have k5 : w1.cell? ⟨b, 5, none⟩ = some (stV b 0) := hd1.cell 5 _ (by show some (stV b s.mode) = _; rw [HM.out])
    clear hd1
    go_wp2_with fail
    go_ret
    exact ⟨E1.out.symm, by rw [E2.out]; exact HR.out⟩
  · have hE : addE s c = .returned (.bool true) := by unfold addE; rw [if_neg (by omega), if_pos hk]
    rw [hE] at ha
    subst hc
    have hsp := cr_split _ hcr
    have hst := s0_1 s 10 hm hk
    have htx : txt s = s.line.dropLast := rfl
    rw [htx] at hst
    generalize hp : s.line.dropLast = p at *
    have hpl : p.length + 1 = s.line.length := by rw [hsp]; simp
    have HA := Lib.hid ha
    have HTx := Lib.hid (fun (v1 v2 v3 : Value) (W : World) (hd : Dec B b (addD s 10) v1 v2 v3 W) => text_any hd p 13 10 (by show s.line ++ [10] = _; rw [hsp]; simp) (by show (s.line ++ [10]).length ≤ _; simp; omega))
    have HSz := Lib.hid (fun (W : World) (hv : ErrV B W) => size_any (mkS p) W.heap.size W (by rw [size_mkS]; omega) hv.top)
    rw [bs_mkS] at HSz
    unfold SizePost at HSz
    have hs1 : stepM s 10 = { sizedD { s with line := [] } p with mode := s.mode, bad := s.bad } := by unfold stepM; rw [hst]
    have hs2 : stepE b s 10 = if (sizedD { s with line := [] } p).bad = 0 then .returned (stV b (sizedD { s with line := [] } p).mode) else .panicked (flawP (sizedD { s with line := [] } p).bad) := by unfold stepE; rw [hst]
    obtain ⟨q1, q2⟩ := sizeL_le p
    have hsd : sizedD { s with line := [] } p = if (sizeL p).2 = 0 then (if s.M - s.body.length < (sizeL p).1 then { s with line := [], bad := 413 } else if (sizeL p).1 = 0 then { s with line := [], mode := 4 } else { s with line := [], mode := 1, left := (sizeL p).1 }) else { s with line := [], bad := (sizeL p).2 } := rfl
    obtain ⟨N, hN⟩ : ∃ N, N = s.body.length := ⟨_, rfl⟩
    have HN := Lib.hid hN
    rw [← hN] at hsd hr
    generalize (sizeL p).1 = n at *
    generalize (sizeL p).2 = st at *
    clear ha hE htx hst hk hcr h hN hsp hp hpl
    rcases q2 with rfl | hst
    · rw [if_pos rfl] at hsd
      by_cases hn1 : s.M - N < n
      · rw [if_pos hn1] at hsd
        rw [hsd] at hs1 hs2
        rw [if_neg (by show ¬ 413 = 0; decide)] at hs2
        have E1 := Lib.hid hs2
        have E2 := Lib.hid (show stepM s 10 = { s with line := [] } from hs1)
        have i1 : (s.M : Int) - (N : Int) < (n : Int) := by omega
        have i2 : IntKind.i64.wrap ((s.M : Int) - (N : Int)) = (s.M : Int) - (N : Int) := IntWalk.i64_in _ (by omega)
        have im : (0 : Int) ≤ (s.M : Int) - (N : Int) := by omega
        have im2 : (s.M : Int) - (N : Int) ≤ 9223372036854775807 := by omega
        clear hsd hs1 hs2 hn1 hb0 hm
        unfold ptr
        go_enter Tryz.func26, Tryz.ntmps26
        go_wp2_with fail
        refine HA.out.mono ?_
        rintro e w1 ⟨rfl, v1, v2, v3, hd1, ht1⟩
        have HD1 := Lib.hid hd1
        have HT1 := Lib.hid ht1
        clear hd1 ht1
        go_wp2_with fail
        refine (HTx.out _ _ _ _ HD1.out).mono ?_
        rintro e w2 ⟨rfl, u1, u2, u3, hd2, ht2⟩
        have HV2 := Lib.hid (HV.out.later ((HT1.out.trans ht2).toBelow HD.out))
        have HD2 := Lib.hid hd2
        have HT2 := Lib.hid (HT1.out.trans ht2)
        clear hd2 ht2
        go_wp2_with fail
        refine (HSz.out _ HV2.out).mono ?_
        rintro e w3 ⟨rfl, hb⟩
        have hd3 := HD2.out.below hb
        have HT3 := Lib.hid (HT2.out.trans (Turn.of hb))
        obtain ⟨a, cap, rfl⟩ : ∃ a c, u2 = .slice a N c := by
          obtain ⟨a, c, e⟩ := hd3.vbody
          exact ⟨a, c, e.trans (by rw [HN.out]; rfl)⟩
        have k4 : w3.cell? ⟨b, 4, none⟩ = some (.int .i64 s.M) := hd3.cell 4 _ rfl
        have k10 : w3.cell? ⟨b, 10, none⟩ = some (.slice a N cap) := hd3.cell 10 _ rfl
        have HD3 := Lib.hid hd3
        clear hb hd3
        go_wp2_with fail
        go_quiet (fail)
        go_wp2_with fail
        exact ⟨rfl, E1.out.symm, by rw [E2.out]; exact ⟨_, _, _, HD3.out.draws _, HT3.out.trans (Turn.draws _ _ _ _ _ _)⟩⟩
      · rw [if_neg hn1] at hsd
        have i1 : ¬ (s.M : Int) - (N : Int) < (n : Int) := by omega
        have i2 : IntKind.i64.wrap ((s.M : Int) - (N : Int)) = (s.M : Int) - (N : Int) := IntWalk.i64_in _ (by omega)
        have im : (0 : Int) ≤ (s.M : Int) - (N : Int) := by omega
        have im2 : (s.M : Int) - (N : Int) ≤ 9223372036854775807 := by omega
        by_cases hn0 : n = 0
        · rw [if_pos hn0] at hsd
          rw [hsd] at hs1 hs2
          rw [if_pos (by exact hb0)] at hs2
          have E1 := Lib.hid (show stepE b s 10 = .returned (stV b 4) from hs2)
          have E2 := Lib.hid (show stepM s 10 = { s with line := [] } from hs1)
          have i3 : ((n : Int) == 0) = true := by simp [hn0]
          clear hsd hs1 hs2 hn1 hb0 hm hn0
          unfold ptr
          go_enter Tryz.func26, Tryz.ntmps26
          go_wp2_with fail
          refine HA.out.mono ?_
          rintro e w1 ⟨rfl, v1, v2, v3, hd1, ht1⟩
          have HD1 := Lib.hid hd1
          have HT1 := Lib.hid ht1
          clear hd1 ht1
          go_wp2_with fail
          refine (HTx.out _ _ _ _ HD1.out).mono ?_
          rintro e w2 ⟨rfl, u1, u2, u3, hd2, ht2⟩
          have HV2 := Lib.hid (HV.out.later ((HT1.out.trans ht2).toBelow HD.out))
          have HD2 := Lib.hid hd2
          have HT2 := Lib.hid (HT1.out.trans ht2)
          clear hd2 ht2
          go_wp2_with fail
          refine (HSz.out _ HV2.out).mono ?_
          rintro e w3 ⟨rfl, hb⟩
          have hd3 := HD2.out.below hb
          have HT3 := Lib.hid (HT2.out.trans (Turn.of hb))
          obtain ⟨a, cap, rfl⟩ : ∃ a c, u2 = .slice a N c := by
            obtain ⟨a, c, e⟩ := hd3.vbody
            exact ⟨a, c, e.trans (by rw [HN.out]; rfl)⟩
          have k4 : w3.cell? ⟨b, 4, none⟩ = some (.int .i64 s.M) := hd3.cell 4 _ rfl
          have k10 : w3.cell? ⟨b, 10, none⟩ = some (.slice a N cap) := hd3.cell 10 _ rfl
          have HD3 := Lib.hid hd3
          clear hb hd3
          go_wp2_with fail
          go_quiet (fail)
          go_wp2_with fail
          go_ret
          exact ⟨E1.out.symm, by rw [E2.out]; exact ⟨_, _, _, HD3.out.draws _, HT3.out.trans (Turn.draws _ _ _ _ _ _)⟩⟩
        · rw [if_neg hn0] at hsd
          rw [hsd] at hs1 hs2
          rw [if_pos (by exact hb0)] at hs2
          have E1 := Lib.hid (show stepE b s 10 = .returned (stV b 1) from hs2)
          have E2 := Lib.hid (show stepM s 10 = { s with line := [], left := n } from hs1)
          have i3 : ((n : Int) == 0) = false := by simp [hn0]
          clear hsd hs1 hs2 hn1 hb0 hm hn0
          unfold ptr
          go_enter Tryz.func26, Tryz.ntmps26
          go_wp2_with fail
          refine HA.out.mono ?_
          rintro e w1 ⟨rfl, v1, v2, v3, hd1, ht1⟩
          have HD1 := Lib.hid hd1
          have HT1 := Lib.hid ht1
          clear hd1 ht1
          go_wp2_with fail
          refine (HTx.out _ _ _ _ HD1.out).mono ?_
          rintro e w2 ⟨rfl, u1, u2, u3, hd2, ht2⟩
          have HV2 := Lib.hid (HV.out.later ((HT1.out.trans ht2).toBelow HD.out))
          have HD2 := Lib.hid hd2
          have HT2 := Lib.hid (HT1.out.trans ht2)
          clear hd2 ht2
          go_wp2_with fail
          refine (HSz.out _ HV2.out).mono ?_
          rintro e w3 ⟨rfl, hb⟩
          have hd3 := HD2.out.below hb
          have HT3 := Lib.hid (HT2.out.trans (Turn.of hb))
          obtain ⟨a, cap, rfl⟩ : ∃ a c, u2 = .slice a N c := by
            obtain ⟨a, c, e⟩ := hd3.vbody
            exact ⟨a, c, e.trans (by rw [HN.out]; rfl)⟩
          have k4 : w3.cell? ⟨b, 4, none⟩ = some (.int .i64 s.M) := hd3.cell 4 _ rfl
          have k10 : w3.cell? ⟨b, 10, none⟩ = some (.slice a N cap) := hd3.cell 10 _ rfl
          have k8 : w3.cell? ⟨b, 8, none⟩ = some (.int .i64 s.left) := hd3.cell 8 _ rfl
          have f8 := hd3.frz 8
          have HD3 := Lib.hid hd3
          clear hb hd3
          go_wp2_with fail
          go_quiet (fail)
          have HD4 := Lib.hid ((HD3.out.draws nq).set 8 (.int .i64 n) { s with line := [], left := n } rfl rfl rfl rfl)
          go_wp2_with fail
          go_ret
          exact ⟨E1.out.symm, by rw [E2.out]; exact ⟨_, _, _, HD4.out, (HT3.out.trans (Turn.draws _ _ _ _ _ _)).trans (Turn.set 8 _)⟩⟩
    · have hne : st ≠ 0 := by omega
      rw [if_neg hne] at hsd
      rw [hsd] at hs1 hs2
      rw [if_neg (by exact hne)] at hs2
      have E1 := Lib.hid (show stepE b s 10 = .panicked (flawP st) from hs2)
      have E2 := Lib.hid (show stepM s 10 = { s with line := [] } from hs1)
      have i3 : ((st : Int) != 0) = true := by simp [hne]
      clear hsd hs1 hs2 hb0 hm hst hne
      unfold ptr
      go_enter Tryz.func26, Tryz.ntmps26
      go_wp2_with fail
      refine HA.out.mono ?_
      rintro e w1 ⟨rfl, v1, v2, v3, hd1, ht1⟩
      have HD1 := Lib.hid hd1
      have HT1 := Lib.hid ht1
      clear hd1 ht1
      go_wp2_with fail
      refine (HTx.out _ _ _ _ HD1.out).mono ?_
      rintro e w2 ⟨rfl, u1, u2, u3, hd2, ht2⟩
      have HV2 := Lib.hid (HV.out.later ((HT1.out.trans ht2).toBelow HD.out))
      have HD2 := Lib.hid hd2
      have HT2 := Lib.hid (HT1.out.trans ht2)
      clear hd2 ht2
      go_wp2_with fail
      refine (HSz.out _ HV2.out).mono ?_
      rintro e w3 ⟨rfl, hb⟩
      have HD3 := Lib.hid (HD2.out.below hb)
      have HT3 := Lib.hid (HT2.out.trans (Turn.of hb))
      clear hb
      go_wp2_with fail
      exact ⟨rfl, E1.out.symm, by rw [E2.out]; exact ⟨_, _, _, HD3.out, HT3.out⟩⟩
  · have hE : addE s c = .panicked (flawP 400) := by unfold addE; rw [if_neg (by omega), if_neg (by omega)]
    rw [hE] at ha
    obtain ⟨e1, e2⟩ := s0_2 b s c hm hk
    have E1 := Lib.hid e1
    have E2 := Lib.hid e2
    have HA := Lib.hid ha
    clear ha hE e1 e2 hk h hm hb0
    unfold ptr
    go_enter Tryz.func26, Tryz.ntmps26
    go_wp2_with fail
    refine HA.out.mono ?_
    rintro e w1 ⟨rfl, hd⟩
    have HR := Lib.hid hd
    clear hd
    go_wp2_with fail
    exact ⟨rfl, E1.out.symm, by rw [E2.out]; exact HR.out⟩
end Tk
end Go.Proofs.YtanilbckakoogaaGreatDoor
