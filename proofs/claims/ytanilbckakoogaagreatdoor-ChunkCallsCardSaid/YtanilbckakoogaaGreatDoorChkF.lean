/- chunk: the state behind the last chunk. -/
import Derived.Test.YtanilbckakoogaaGreatDoorChkE
import Derived.Deep.RegionLaw
namespace Go.Proofs.YtanilbckakoogaaGreatDoor
open Go.RowKit
namespace Tk

theorem step_stay {P : Program} {w : World} {ops : Array Oper} {o : Oper} {a : Act} {K : Act → World → Prop} {Q : Exit → Act → World → Prop} {E : Prop} (hgd : o.guard = none) (s x : Operand) (t : TypeId)
    (ho : o.op = .call { callee := .builtin .append, args := #[s, x], argTypes := #[t, t] })
    (base : Nat) (e : TypeId) (i : TypeInfo) (z : Value) (size bytes : Nat) (ht : P.underlying t = some (.slice e)) (hi : P.info? e = some i) (hz : i.zero = some z)
    (hsize : i.size = size) (hby : i.bytes = bytes) (hzs : z.cells.size = size) (hsz : 0 < size) (v : Value) (n : Nat) (xs : List Value) (hs : a.eval s = v) (hown : w.ownsRow base e size v n xs)
    (ad : Addr) (m c : Nat) (news : List Value) (hx : a.eval x = .slice (some ad) m c) (hl : news.length = m * size) (hnews : ∀ j u, news[j]? = some u → w.cell? (ad.add j) = some u) (h1 : ∀ u ∈ news, u.oneCell' = true)
    (h63 : n + m ≤ maxLen) (hbytes : (n + m) * bytes ≤ 140737488355328) (hbase : base ≤ w.heap.size)
    (h : ∀ v' w', w'.ownsRow base e size v' (n + m) (xs ++ news) → w.grownBy w' v.ownBlock → Stay w v v' → K (a.put o.dst v') w') :
    if Region.wanted o (yielded ops a.tmps) = true then Oper.wp P o a w K Q else E := by
  have hw : Region.wanted o (yielded ops a.tmps) = true := by simp [Region.wanted, hgd]
  rw [if_pos hw]
  exact wp_append_stay s x t ho base e i z size bytes ht hi hz hsize hby hzs hsz v n xs hs hown ad m c news hx hl hnews h1 h63 hbytes hbase h

theorem Dec.grewTrl {B b : Nat} {s : Dc} {vl vb vt v' : Value} {w w2 : World} (h : Dec B b s vl vb vt w) (f : Bs × Bs) (n : Nat) (hn : n = s.trl.length) (ho : w2.ownsRow B 40 2 v' (n + 1) (fcells s.trl ++ [.string (mkS f.1), .string (mkS f.2)])) (hg : w.grownBy w2 vt.ownBlock) (hst : Stay w vt v') :
    ∃ g cap, v' = .slice (some ⟨g, 0, none⟩) (n + 1) cap ∧ w2.cell? ⟨b, 11, none⟩ = some vt ∧ w2.frozen? ⟨b, 11, none⟩ = false ∧ w2.cell? ⟨b, 5, none⟩ = some (stV b s.mode) ∧ Dec B b { s with trl := s.trl ++ [f] } vl vb v' (w2.setCell ⟨b, 11, none⟩ v') ∧ Turn b vl vb vt vl vb v' w (w2.setCell ⟨b, 11, none⟩ v') := by
  obtain ⟨g, cap, hv⟩ : ∃ g cap, v' = .slice (some ⟨g, 0, none⟩) (n + 1) cap := by
    rcases ho.2 with ⟨_, h0⟩ | ⟨g, cap, cur, hv, _⟩
    · omega
    · exact ⟨g, cap, hv⟩
  have hk2 := (hg.block b h.lt (fun e => own_ne h.trl h.blk (by decide) e.symm)).trans h.blk
  obtain ⟨hd, ht⟩ := h.putTrl f (hn ▸ ho) hg hst
  exact ⟨g, cap, hv, by rw [Lib.cell_of_heap hk2]; rfl, Lib.frozen_of_heap hk2 11, by rw [Lib.cell_of_heap hk2]; rfl, hd, ht⟩

def up (s : Dc) : Dc := { s with head := s.head + 1 }
theorem s4_2 (b : Nat) (s : Dc) (c : UInt8) (hm : s.mode = 4) (hk : addK s c = 2) : stepE b s c = .panicked (flawP 400) ∧ stepM s c = addD (up s) c := by
  unfold stepE stepM
  rw [stepD_4 s c hm, hk]
  exact ⟨by simp, rfl⟩
theorem s4_h (b : Nat) (s : Dc) (c : UInt8) (hm : s.mode = 4) (hk : addK s c = 0 ∨ addK s c = 1) (hh : s.H < s.head + 1) : stepE b s c = .panicked (flawP 431) ∧ stepM s c = addD (up s) c := by
  unfold stepE stepM
  rw [stepD_4 s c hm]
  rcases hk with hk | hk <;> rw [hk] <;> simp only [if_pos hh] <;> exact ⟨by simp, rfl⟩
theorem s4_0 (b : Nat) (s : Dc) (c : UInt8) (hm : s.mode = 4) (hb : s.bad = 0) (hk : addK s c = 0) (hh : ¬ s.H < s.head + 1) : stepE b s c = .returned (stV b 4) ∧ stepM s c = addD (up s) c := by
  unfold stepE stepM
  rw [stepD_4 s c hm, hk]
  simp only [if_neg hh]
  refine ⟨?_, rfl⟩
  rw [if_pos (by exact hb)]
  show Ending.returned (stV b s.mode) = _
  rw [hm]
theorem s4_1 (s : Dc) (c : UInt8) (hm : s.mode = 4) (hk : addK s c = 1) (hh : ¬ s.H < s.head + 1) : stepD s c = trailD { s with head := s.head + 1, line := [] } s.line.dropLast := by
  rw [stepD_4 s c hm, hk]
  simp only [if_neg hh]
  rfl

set_option maxHeartbeats 8000000 in
set_option maxRecDepth 100000 in
theorem trailer_any {B b : Nat} {s : Dc} {vl vb vt : Value} (c : UInt8) {w : World} (h : Dec B b s vl vb vt w) (hm : s.mode = 4) (hb0 : s.bad = 0) (hz : s.line.length + 1 ≤ 1099511627) (hL : s.L ≤ 9223372036854775807) (hh : s.head ≤ 1099511627) (htl : s.trl.length ≤ 1048576) :
    Calls Tryz.prog 41 #[ptr b, .int .u8 c.toNat] w (StepPost B b s c vl vb vt w) := by
  have k9 : w.cell? ⟨b, 9, none⟩ = some (.int .i64 s.head) := h.cell 9 _ rfl
  have f9 := h.frz 9
  have hu : Dec B b (up s) vl vb vt (w.setCell ⟨b, 9, none⟩ (.int .i64 ((s.head : Int) + 1))) := h.set 9 (.int .i64 ((s.head : Int) + 1)) (up s) (by show _ = dcells _ _ _ _ _; rw [show (s.head : Int) + 1 = ((s.head + 1 : Nat) : Int) by omega]; rfl) rfl rfl rfl
  have ht0 : Turn b vl vb vt vl vb vt w (w.setCell ⟨b, 9, none⟩ (.int .i64 ((s.head : Int) + 1))) := Turn.set 9 _
  have ha := add_any c hu (by exact (by omega : s.line.length + 1 ≤ 1099511627776)) (by exact hL)
  have hae : addE (up s) c = addE s c := rfl
  rw [hae] at ha
  have HD := Lib.hid h
  have HT0 := Lib.hid ht0
  clear hu ht0 hae h
  rcases addK_cases s c with hk | ⟨hk, hc, hcr⟩ | hk
  · have hE : addE s c = .returned (.bool false) := by unfold addE; rw [if_pos hk]
    rw [hE] at ha
    have HA := Lib.hid ha
    clear ha hE
    by_cases hho : s.H < s.head + 1
    · obtain ⟨e1, e2⟩ := s4_h b s c hm (.inl hk) hho
      have E1 := Lib.hid e1
      have E2 := Lib.hid e2
      have ih : (s.H : Int) < (s.head : Int) + 1 := by omega
      clear e1 e2 hk hm hb0 hho
      unfold ptr
      go_enter Tryz.func41, Tryz.ntmps41
      go_wp2_with fail
      generalize w.setCell ⟨b, 9, none⟩ (.int .i64 ((s.head : Int) + 1)) = w0 at *
      refine HA.out.mono ?_
      rintro e w1 ⟨rfl, v1, v2, v3, hd1, ht1⟩
      have HD1 := Lib.hid hd1
      have HT1 := Lib.hid (HT0.out.trans ht1)
      have k9 : w1.cell? ⟨b, 9, none⟩ = some (.int .i64 ((s.head : Int) + 1)) := hd1.cell 9 _ rfl
      have k2 : w1.cell? ⟨b, 2, none⟩ = some (.int .i64 s.H) := hd1.cell 2 _ rfl
      clear hd1 ht1
      go_wp2_with fail
      go_quiet (fail)
      go_wp2_with fail
      exact ⟨rfl, E1.out.symm, by rw [E2.out]; exact ⟨_, _, _, HD1.out.draws _, HT1.out.trans (Turn.draws _ _ _ _ _ _)⟩⟩
    · obtain ⟨e1, e2⟩ := s4_0 b s c hm hb0 hk hho
      have E1 := Lib.hid e1
      have E2 := Lib.hid e2
      have HM := Lib.hid hm
      have ih : ¬ (s.H : Int) < (s.head : Int) + 1 := by omega
      clear e1 e2 hk hm hb0 hho
      unfold ptr
      go_enter Tryz.func41, Tryz.ntmps41
      go_wp2_with fail
      generalize w.setCell ⟨b, 9, none⟩ (.int .i64 ((s.head : Int) + 1)) = w0 at *
      refine HA.out.mono ?_
      rintro e w1 ⟨rfl, v1, v2, v3, hd1, ht1⟩
      have HD1 := Lib.hid hd1
      have HT1 := Lib.hid (HT0.out.trans ht1)
      have k9 : w1.cell? ⟨b, 9, none⟩ = some (.int .i64 ((s.head : Int) + 1)) := hd1.cell 9 _ rfl
      have k2 : w1.cell? ⟨b, 2, none⟩ = some (.int .i64 s.H) := hd1.cell 2 _ rfl
      clear hd1 ht1
      go_wp2_with fail
      go_quiet (fail)
      have k5 : w1.cell? ⟨b, 5, none⟩ = some (stV b 4) := HD1.out.cell 5 _ (by show some (stV b s.mode) = _; rw [HM.out])
      go_wp2_with fail
      go_ret
      exact ⟨E1.out.symm, by rw [E2.out]; exact ⟨_, _, _, HD1.out.draws _, HT1.out.trans (Turn.draws _ _ _ _ _ _)⟩⟩
  · have hE : addE s c = .returned (.bool true) := by unfold addE; rw [if_neg (by omega), if_pos hk]
    rw [hE] at ha
    have HA := Lib.hid ha
    clear ha hE
    by_cases hho : s.H < s.head + 1
    · obtain ⟨e1, e2⟩ := s4_h b s c hm (.inr hk) hho
      have E1 := Lib.hid e1
      have E2 := Lib.hid e2
      have ih : (s.H : Int) < (s.head : Int) + 1 := by omega
      clear e1 e2 hk hm hb0 hho hcr hc
      unfold ptr
      go_enter Tryz.func41, Tryz.ntmps41
      go_wp2_with fail
      generalize w.setCell ⟨b, 9, none⟩ (.int .i64 ((s.head : Int) + 1)) = w0 at *
      refine HA.out.mono ?_
      rintro e w1 ⟨rfl, v1, v2, v3, hd1, ht1⟩
      have HD1 := Lib.hid hd1
      have HT1 := Lib.hid (HT0.out.trans ht1)
      have k9 : w1.cell? ⟨b, 9, none⟩ = some (.int .i64 ((s.head : Int) + 1)) := hd1.cell 9 _ rfl
      have k2 : w1.cell? ⟨b, 2, none⟩ = some (.int .i64 s.H) := hd1.cell 2 _ rfl
      clear hd1 ht1
      go_wp2_with fail
      go_quiet (fail)
      go_wp2_with fail
      exact ⟨rfl, E1.out.symm, by rw [E2.out]; exact ⟨_, _, _, HD1.out.draws _, HT1.out.trans (Turn.draws _ _ _ _ _ _)⟩⟩
    · subst hc
      have hsp := cr_split _ hcr
      have hst := s4_1 s 10 hm hk hho
      generalize hp : s.line.dropLast = p at *
      have hpl : p.length + 1 = s.line.length := by rw [hsp]; simp
      have HTx := Lib.hid (fun (v1 v2 v3 : Value) (W : World) (hd : Dec B b (addD (up s) 10) v1 v2 v3 W) => text_any hd p 13 10 (by show s.line ++ [10] = _; rw [hsp]; simp) (by show (s.line ++ [10]).length ≤ _; simp; omega))
      have HLn := Lib.hid (fun W : World => line_any (mkS p) W (by rw [size_mkS]; omega))
      rw [bs_mkS] at HLn
      unfold LinePost at HLn
      have hs1 : stepM s 10 = { trailD { s with head := s.head + 1, line := [] } p with mode := s.mode, bad := s.bad } := by unfold stepM; rw [hst]
      have hs2 : stepE b s 10 = if (trailD { s with head := s.head + 1, line := [] } p).bad = 0 then .returned (stV b (trailD { s with head := s.head + 1, line := [] } p).mode) else .panicked (flawP (trailD { s with head := s.head + 1, line := [] } p).bad) := by unfold stepE; rw [hst]
      have hsd : trailD { s with head := s.head + 1, line := [] } p = if p = [] then { s with head := s.head + 1, line := [], mode := 5 } else if lineOk p then (if s.C ≤ s.trl.length then { s with head := s.head + 1, line := [], bad := 431 } else { s with head := s.head + 1, line := [], trl := s.trl ++ [(lineN p, lineV p)] }) else { s with head := s.head + 1, line := [], bad := 400 } := rfl
      have ih : ¬ (s.H : Int) < (s.head : Int) + 1 := by omega
      have hemp : (mkS p).toList.isEmpty = decide (p = []) := by rw [toList_bs, bs_mkS]; cases p <;> rfl
      clear hst hk hcr hsp hho
      by_cases he : p = []
      · rw [if_pos he] at hsd
        rw [hsd] at hs1 hs2
        rw [if_pos (by exact hb0)] at hs2
        have E1 := Lib.hid (show stepE b s 10 = .returned .nilFunc from hs2)
        have E2 := Lib.hid (show stepM s 10 = { s with head := s.head + 1, line := [] } from hs1)
        rw [decide_eq_true he] at hemp
        clear hsd hs1 hs2 hm hb0 he hp hpl HLn
        unfold ptr
        go_enter Tryz.func41, Tryz.ntmps41
        go_wp2_with fail
        generalize w.setCell ⟨b, 9, none⟩ (.int .i64 ((s.head : Int) + 1)) = w0 at *
        refine HA.out.mono ?_
        rintro e w1 ⟨rfl, v1, v2, v3, hd1, ht1⟩
        have HD1 := Lib.hid hd1
        have HT1 := Lib.hid (HT0.out.trans ht1)
        have k9 : w1.cell? ⟨b, 9, none⟩ = some (.int .i64 ((s.head : Int) + 1)) := hd1.cell 9 _ rfl
        have k2 : w1.cell? ⟨b, 2, none⟩ = some (.int .i64 s.H) := hd1.cell 2 _ rfl
        clear hd1 ht1
        go_wp2_with fail
        go_quiet (fail)
        have HD2 := Lib.hid (HD1.out.draws nq)
        have HT2 := Lib.hid (HT1.out.trans (Turn.draws _ _ _ _ _ nq))
        clear k9 k2
        generalize w1.drewN nq = w2 at *
        go_wp2_with fail
        refine (HTx.out _ _ _ _ HD2.out).mono ?_
        rintro e w3 ⟨rfl, u1, u2, u3, hd3, ht3⟩
        have HD3 := Lib.hid hd3
        have HT3 := Lib.hid (HT2.out.trans ht3)
        clear hd3 ht3
        go_wp2_with fail
        go_ret
        exact ⟨E1.out.symm, by rw [E2.out]; exact ⟨_, _, _, HD3.out, HT3.out⟩⟩
      · rw [if_neg he] at hsd
        rw [decide_eq_false he] at hemp
        cases hlo : lineOk p
        · rw [hlo, if_neg (by decide)] at hsd
          rw [hsd] at hs1 hs2
          rw [if_neg (by show ¬ 400 = 0; decide)] at hs2
          have E1 := Lib.hid (show stepE b s 10 = .panicked (flawP 400) from hs2)
          have E2 := Lib.hid (show stepM s 10 = { s with head := s.head + 1, line := [] } from hs1)
          obtain ⟨n1, n2, n3⟩ := ln_no p hlo
          rw [n3] at HLn
          generalize lnN p = X at *
          generalize lnV p = Y at *
          clear hsd hs1 hs2 hm hb0 he hp hpl hlo n1 n2 n3
          unfold ptr
          go_enter Tryz.func41, Tryz.ntmps41
          go_wp2_with fail
          generalize w.setCell ⟨b, 9, none⟩ (.int .i64 ((s.head : Int) + 1)) = w0 at *
          refine HA.out.mono ?_
          rintro e w1 ⟨rfl, v1, v2, v3, hd1, ht1⟩
          have HD1 := Lib.hid hd1
          have HT1 := Lib.hid (HT0.out.trans ht1)
          have k9 : w1.cell? ⟨b, 9, none⟩ = some (.int .i64 ((s.head : Int) + 1)) := hd1.cell 9 _ rfl
          have k2 : w1.cell? ⟨b, 2, none⟩ = some (.int .i64 s.H) := hd1.cell 2 _ rfl
          clear hd1 ht1
          go_wp2_with fail
          go_quiet (fail)
          have HD2 := Lib.hid (HD1.out.draws nq)
          have HT2 := Lib.hid (HT1.out.trans (Turn.draws _ _ _ _ _ nq))
          clear k9 k2
          generalize w1.drewN nq = w2 at *
          go_wp2_with fail
          refine (HTx.out _ _ _ _ HD2.out).mono ?_
          rintro e w3 ⟨rfl, u1, u2, u3, hd3, ht3⟩
          have HD3 := Lib.hid hd3
          have HT3 := Lib.hid (HT2.out.trans ht3)
          clear hd3 ht3
          go_wp2_with fail
          refine (HLn.out _).mono ?_
          rintro e w4 ⟨rfl, hb⟩
          have HD4 := Lib.hid (HD3.out.below hb)
          have HT4 := Lib.hid (HT3.out.trans (Turn.of hb))
          clear hb
          have hbf : Below w4.heap.size w4 (w4.alloc (.cells #[.string (mkS X), .string (mkS Y)] 40)) := (Below.refl _ _).alloc (Nat.le_refl _) _
          have HD5 := Lib.hid (HD4.out.below hbf)
          have HT5 := Lib.hid (HT4.out.trans (Turn.of hbf))
          have HF := Lib.hid (Two.new w4 40 (.string (mkS X)) (.string (mkS Y)))
          clear hbf
          go_wp2_with fail
          exact ⟨rfl, E1.out.symm, by rw [E2.out]; exact ⟨_, _, _, HD5.out, HT5.out⟩⟩
        · rw [hlo, if_pos rfl] at hsd
          obtain ⟨n1, n2, n3⟩ := ln_ok p hlo
          rw [n3] at HLn
          rw [← n1, ← n2] at hsd
          generalize lnN p = X at *
          generalize lnV p = Y at *
          obtain ⟨NT, hNT⟩ : ∃ N, N = s.trl.length := ⟨_, rfl⟩
          have HNT := Lib.hid hNT
          rw [← hNT] at hsd htl
          by_cases hcn : s.C ≤ NT
          · rw [if_pos hcn] at hsd
            rw [hsd] at hs1 hs2
            rw [if_neg (by show ¬ 431 = 0; decide)] at hs2
            have E1 := Lib.hid (show stepE b s 10 = .panicked (flawP 431) from hs2)
            have E2 := Lib.hid (show stepM s 10 = { s with head := s.head + 1, line := [] } from hs1)
            have icn : (s.C : Int) ≤ (NT : Int) := by omega
            clear hsd hs1 hs2 hm hb0 he hp hpl hlo n1 n2 n3 hcn hNT
            unfold ptr
            go_enter Tryz.func41, Tryz.ntmps41
            go_wp2_with fail
            generalize w.setCell ⟨b, 9, none⟩ (.int .i64 ((s.head : Int) + 1)) = w0 at *
            refine HA.out.mono ?_
            rintro e w1 ⟨rfl, v1, v2, v3, hd1, ht1⟩
            have HD1 := Lib.hid hd1
            have HT1 := Lib.hid (HT0.out.trans ht1)
            have k9 : w1.cell? ⟨b, 9, none⟩ = some (.int .i64 ((s.head : Int) + 1)) := hd1.cell 9 _ rfl
            have k2 : w1.cell? ⟨b, 2, none⟩ = some (.int .i64 s.H) := hd1.cell 2 _ rfl
            clear hd1 ht1
            go_wp2_with fail
            go_quiet (fail)
            have HD2 := Lib.hid (HD1.out.draws nq)
            have HT2 := Lib.hid (HT1.out.trans (Turn.draws _ _ _ _ _ nq))
            clear k9 k2
            generalize w1.drewN nq = w2 at *
            go_wp2_with fail
            refine (HTx.out _ _ _ _ HD2.out).mono ?_
            rintro e w3 ⟨rfl, u1, u2, u3, hd3, ht3⟩
            have HD3 := Lib.hid hd3
            have HT3 := Lib.hid (HT2.out.trans ht3)
            clear hd3 ht3
            go_wp2_with fail
            refine (HLn.out _).mono ?_
            rintro e w4 ⟨rfl, hb⟩
            have HD4 := Lib.hid (HD3.out.below hb)
            have HT4 := Lib.hid (HT3.out.trans (Turn.of hb))
            clear hb
            have hbf : Below w4.heap.size w4 (w4.alloc (.cells #[.string (mkS X), .string (mkS Y)] 40)) := (Below.refl _ _).alloc (Nat.le_refl _) _
            have HD5 := Lib.hid (HD4.out.below hbf)
            have HT5 := Lib.hid (HT4.out.trans (Turn.of hbf))
            have HF := Lib.hid (Two.new w4 40 (.string (mkS X)) (.string (mkS Y)))
            clear hbf
            obtain ⟨a, cap, rfl⟩ : ∃ a c, u3 = .slice a NT c := by
              obtain ⟨a, c, e⟩ := HD5.out.vtrl
              exact ⟨a, c, e.trans (by rw [show NT = s.trl.length from HNT.out]; rfl)⟩
            go_wp2_with fail
            generalize w4.alloc (.cells #[.string (mkS X), .string (mkS Y)] 40) = w5 at *
            generalize w4.heap.size = g4 at *
            have k11 : w5.cell? ⟨b, 11, none⟩ = some (.slice a NT cap) := HD5.out.cell 11 _ rfl
            have k3 : w5.cell? ⟨b, 3, none⟩ = some (.int .i64 s.C) := HD5.out.cell 3 _ rfl
            go_quiet (fail)
            go_wp2_with fail
            exact ⟨rfl, E1.out.symm, by rw [E2.out]; exact ⟨_, _, _, HD5.out.draws _, HT5.out.trans (Turn.draws _ _ _ _ _ _)⟩⟩
          · rw [if_neg hcn] at hsd
            rw [hsd] at hs1 hs2
            rw [if_pos (by exact hb0)] at hs2
            have E1 := Lib.hid (show stepE b s 10 = .returned (stV b (addD (up s) 10).mode) from hs2)
            have E2 := Lib.hid (show stepM s 10 = { s with head := s.head + 1, line := [], trl := s.trl ++ [(X, Y)] } from hs1)
            have icn : ¬ (s.C : Int) ≤ (NT : Int) := by omega
            clear hsd hs1 hs2 hm hb0 he hp hpl hlo n1 n2 n3 hcn hNT
            obtain ⟨i0, hi, hz0, hz1, hz2⟩ := info_parts fldInfo
            unfold ptr
            go_enter Tryz.func41, Tryz.ntmps41
            go_wp2_with fail
            generalize w.setCell ⟨b, 9, none⟩ (.int .i64 ((s.head : Int) + 1)) = w0 at *
            refine HA.out.mono ?_
            rintro e w1 ⟨rfl, v1, v2, v3, hd1, ht1⟩
            have HD1 := Lib.hid hd1
            have HT1 := Lib.hid (HT0.out.trans ht1)
            have k9 : w1.cell? ⟨b, 9, none⟩ = some (.int .i64 ((s.head : Int) + 1)) := hd1.cell 9 _ rfl
            have k2 : w1.cell? ⟨b, 2, none⟩ = some (.int .i64 s.H) := hd1.cell 2 _ rfl
            clear hd1 ht1
            go_wp2_with fail
            go_quiet (fail)
            have HD2 := Lib.hid (HD1.out.draws nq)
            have HT2 := Lib.hid (HT1.out.trans (Turn.draws _ _ _ _ _ nq))
            clear k9 k2
            generalize w1.drewN nq = w2 at *
            go_wp2_with fail
            refine (HTx.out _ _ _ _ HD2.out).mono ?_
            rintro e w3 ⟨rfl, u1, u2, u3, hd3, ht3⟩
            have HD3 := Lib.hid hd3
            have HT3 := Lib.hid (HT2.out.trans ht3)
            clear hd3 ht3
            go_wp2_with fail
            refine (HLn.out _).mono ?_
            rintro e w4 ⟨rfl, hb⟩
            have HD4 := Lib.hid (HD3.out.below hb)
            have HT4 := Lib.hid (HT3.out.trans (Turn.of hb))
            clear hb
            have hbf : Below w4.heap.size w4 (w4.alloc (.cells #[.string (mkS X), .string (mkS Y)] 40)) := (Below.refl _ _).alloc (Nat.le_refl _) _
            have HD5 := Lib.hid (HD4.out.below hbf)
            have HT5 := Lib.hid (HT4.out.trans (Turn.of hbf))
            have HF := Lib.hid (Two.new w4 40 (.string (mkS X)) (.string (mkS Y)))
            clear hbf
            obtain ⟨a, cap, rfl⟩ : ∃ a c, u3 = .slice a NT c := by
              obtain ⟨a, c, e⟩ := HD5.out.vtrl
              exact ⟨a, c, e.trans (by rw [show NT = s.trl.length from HNT.out]; rfl)⟩
            go_wp2_with fail
            generalize w4.alloc (.cells #[.string (mkS X), .string (mkS Y)] 40) = w5 at *
            generalize w4.heap.size = g4 at *
            have k11 : w5.cell? ⟨b, 11, none⟩ = some (.slice a NT cap) := HD5.out.cell 11 _ rfl
            have k3 : w5.cell? ⟨b, 3, none⟩ = some (.int .i64 s.C) := HD5.out.cell 3 _ rfl
            go_quiet (fail)
            have HD6 := Lib.hid (HD5.out.draws nq)
            have HT6 := Lib.hid (HT5.out.trans (Turn.draws _ _ _ _ _ nq))
            have k11 : (w5.drewN nq).cell? ⟨b, 11, none⟩ = some (.slice a NT cap) := HD6.out.cell 11 _ rfl
            have hF6 := HF.out.draws nq
            have q0 := hF6.c0
            have q1 := hF6.c1
            have HF6 := Lib.hid hF6
            clear hF6
            generalize w5.drewN nq = w6 at *
            go_wp2_with fail
            have HD7 := Lib.hid (show Dec B b _ _ _ _ w6.drew from HD6.out.draws 1)
            have HT7 := Lib.hid (HT6.out.trans (show Turn b _ _ _ _ _ _ w6 w6.drew from Turn.draws _ _ _ _ _ 1))
            have k11 : w6.drew.cell? ⟨b, 11, none⟩ = some (.slice a NT cap) := HD7.out.cell 11 _ rfl
            obtain ⟨w7, hw7⟩ : ∃ W, W = w6.drew := ⟨_, rfl⟩
            rw [← hw7] at HD7 HT7 k11
            have hF7 := HF6.out.draws 1
            rw [show w6.drewN 1 = w7 from hw7.symm] at hF7
            have hw0 : Below w7.heap.size w7 (w7.alloc (.cells #[.string (mkS X), .string (mkS Y)] 40)) := (Below.refl _ _).alloc (Nat.le_refl _) _
            have HD8 := Lib.hid (HD7.out.below hw0)
            have HT8 := Lib.hid (HT7.out.trans (Turn.of hw0))
            have hBs : B ≤ (w7.alloc (.cells #[.string (mkS X), .string (mkS Y)] 40)).heap.size := by have := HD8.out.hB; have := HD8.out.lt; omega
            have hN7 := Two.new w7 40 (.string (mkS X)) (.string (mkS Y))
            have HO := Lib.hid (show (w7.alloc (.cells #[.string (mkS X), .string (mkS Y)] 40)).ownsRow B 40 2 (.slice a NT cap) NT (fcells s.trl) by rw [show NT = s.trl.length from HNT.out]; have := HD8.out.trl; rw [show NT = s.trl.length from HNT.out] at this; exact this)
            have hF8 := hF7.later hw0
            have p0 := hF7.c0
            have p1 := hF7.c1
            have r0 := hF8.c0
            have r1 := hF8.c1
            have k12 : (w7.alloc (.cells #[.string (mkS X), .string (mkS Y)] 40)).cell? ⟨b, 11, none⟩ = some (.slice a NT cap) := HD8.out.cell 11 _ rfl
            have hc1 : ∀ j u, [Value.string (mkS X), Value.string (mkS Y)][j]? = some u → (w7.alloc (.cells #[.string (mkS X), .string (mkS Y)] 40)).cell? ((⟨w7.heap.size, 0, none⟩ : Addr).add j) = some u := by
              intro j u hj
              match j, hj with
              | 0, hj => simp at hj; subst hj; exact hN7.c0
              | 1, hj => simp at hj; subst hj; exact hN7.c1
            have hc2 : ∀ u ∈ [Value.string (mkS X), Value.string (mkS Y)], u.oneCell' = true := by intro u hu; simp at hu; rcases hu with rfl | rfl <;> rfl
            have hc3 : NT + 1 ≤ maxLen := by unfold maxLen; omega
            have hc4 : (NT + 1) * 32 ≤ 140737488355328 := by omega
            have HC1 := Lib.hid hc1
            have HC2 := Lib.hid hc2
            have HC3 := Lib.hid hc3
            have HC4 := Lib.hid hc4
            have HBS := Lib.hid hBs
            clear hw0 hF7 hF8 hc1 hc2 hc3 hc4 hBs
            subst hw7
            have k13 : (w6.alloc (.cells #[.string (mkS X), .string (mkS Y)] 40)).drew.cell? ⟨b, 11, none⟩ = some (.slice a NT cap) := k12
            go_region_law (first | (refine step_stay (by rfl) _ _ 22 (by rfl) B 40 i0 (.agg #[.string .empty, .string .empty]) 2 32 Tryz.underlying22 hi hz0 hz1 hz2 (by rfl) (by decide) _ _ _ (by rfl) HO.out ⟨w6.drew.heap.size, 0, none⟩ 1 1 [.string (mkS X), .string (mkS Y)] (by rfl) (by rfl) HC1.out HC2.out HC3.out HC4.out HBS.out ?_; intro v' w8 ho hg hst; obtain ⟨g2, cap2, rfl, j11, f11, k5, hd, ht⟩ := HD8.out.grewTrl (X, Y) NT HNT.out ho hg hst; have HR := Lib.hid (show DecTo B b { s with head := s.head + 1, line := [], trl := s.trl ++ [(X, Y)] } vl vb vt w _ from ⟨_, _, _, hd, HT8.out.trans ht⟩); clear hd ht ho hg hst))
            all_goals
              go_wp2_with fail
              go_ret
              exact ⟨E1.out.symm, by rw [E2.out]; exact HR.out⟩
  · have hE : addE s c = .panicked (flawP 400) := by unfold addE; rw [if_neg (by omega), if_neg (by omega)]
    rw [hE] at ha
    obtain ⟨e1, e2⟩ := s4_2 b s c hm hk
    have E1 := Lib.hid e1
    have E2 := Lib.hid e2
    have HA := Lib.hid ha
    clear ha hE e1 e2 hk hm hb0
    unfold ptr
    go_enter Tryz.func41, Tryz.ntmps41
    go_wp2_with fail
    generalize w.setCell ⟨b, 9, none⟩ (.int .i64 ((s.head : Int) + 1)) = w0 at *
    refine HA.out.mono ?_
    rintro e w1 ⟨rfl, hd⟩
    have HR := Lib.hid (DecTo.of HT0.out hd)
    clear hd
    go_wp2_with fail
    exact ⟨rfl, E1.out.symm, by rw [E2.out]; exact HR.out⟩
end Tk
end Go.Proofs.YtanilbckakoogaaGreatDoor
