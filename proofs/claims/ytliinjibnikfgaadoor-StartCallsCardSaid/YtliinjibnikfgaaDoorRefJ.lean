/- The document's own targets: Target. -/
import Derived.Test.YtliinjibnikfgaaDoorRefG
namespace Go.Proofs.YtliinjibnikfgaaDoor
open Go.RowKit
namespace Tk

theorem tPath_slash (s : Bs) (t : Bs) (h : tRest s = 47 :: t) : tPath s = tRest s := by
  unfold tPath; rw [h, if_pos (by unfold Lib.hasPrefix; simp)]
theorem tPath_other (s : Bs) (h : tRest s = [] ∨ ∃ t, tRest s = 63 :: t) : tPath s = 47 :: tRest s := by
  unfold tPath
  rcases h with h | ⟨t, h⟩
  · rw [h, if_neg (by decide)]
  · rw [h, if_neg (by unfold Lib.hasPrefix; simp [List.isPrefixOf])]

theorem absL_no (s : Bs) (h : lowL (s.take 7) ≠ schemeL ∨ hostL (tHost s) = false) : absL s = (0, [], []) := by
  unfold absL absOk
  rw [if_neg]
  rcases h with h | h
  · rw [decide_eq_false h]; simp
  · rw [h]; simp
theorem absL_yes (s : Bs) (h : lowL (s.take 7) = schemeL) (h2 : hostL (tHost s) = true) : absL s = (2, lowL (tHost s), tPath s) := by
  unfold absL absOk
  rw [if_pos]
  rw [decide_eq_true h, h2]; rfl
theorem absL_short (s : Bs) (h : s.length ≤ 7) : absL s = (0, [], []) := by
  by_cases h7 : lowL (s.take 7) = schemeL
  · refine absL_no s (.inr ?_)
    have : tHost s = [] := by unfold tHost; rw [List.drop_eq_nil_of_le h]; rfl
    rw [this]; decide
  · exact absL_no s (.inl h7)
theorem authL_no (s : Bs) (h : ptI s < 1) : authL s = (0, [], []) := by
  unfold authL; rw [if_neg]; rw [port_pt]; omega
theorem authL_yes (s : Bs) (h : 1 ≤ ptI s) : authL s = (3, lowL s, []) := by
  unfold authL; rw [if_pos]; rw [port_pt]; exact h
theorem noEnd_of (c : UInt8) : noEnd c = (decide (c ≠ 47) && decide (c ≠ 63)) := by
  unfold noEnd
  by_cases h : c = 47 <;> by_cases h2 : c = 63 <;> simp [h, h2]

set_option maxHeartbeats 16000000 in
set_option maxRecDepth 100000 in
theorem rtarget_any (m s : ByteArray) (w : World) (_hm : m.size ≤ 1000000000) (hs : s.size ≤ 1000000000) :
    Calls Tryd.prog 20 #[.string m, .string s] w (TgPost (tgt (bs m) (bs s)) w) := by
  have HN := Lib.hid (Thr.new w 32 (.int .i64 0) (.string ⟨#[]⟩) (.string ⟨#[]⟩))
  have HB0 := Lib.hid (show Below w.heap.size w (w.alloc (.cells #[.int .i64 0, .string ⟨#[]⟩, .string ⟨#[]⟩] 32)) from (Below.refl _ _).alloc (Nat.le_refl _) _)
  have HE := Lib.hid (tgt_eq (bs m) (bs s))
  have HSe := Lib.hid (fun W => rseen_any s W (by omega))
  have HPo := Lib.hid (fun W => rport_any s W (by omega))
  unfold RI at HPo
  have HLo := Lib.hid (fun W => show Calls Tryd.prog 50 #[.string s] W (fun e w' => e = .returned (.string (mkS (lowL (bs s)))) ∧ Below W.heap.size W w') from refLower_any s W (by omega))
  have hsm := fun W => rsame_is (s.extract 0 7) ⟨#[104, 116, 116, 112, 58, 47, 47]⟩ W (by rw [← length_bs, bs_extract, List.length_take, List.length_drop, length_bs]; omega) (by decide)
  have hpx : bs (s.extract 0 7) = (bs s).take 7 := by rw [bs_extract, List.drop_zero]
  rw [hpx, show bs ⟨#[104, 116, 116, 112, 58, 47, 47]⟩ = schemeL from rfl, low_scheme] at hsm
  have HSm := Lib.hid hsm
  have hx : bs (s.extract 7 s.size) = (bs s).drop 7 := by
    rw [bs_extract, List.take_of_length_le (by rw [List.length_drop, length_bs]; exact Nat.le_refl _)]
  have HX := Lib.hid hx
  have HEnd := Lib.hid (hashAt_end s)
  clear hsm hpx hx
  generalize hb0 : (!someL vis (bs s)) = b0 at *
  have HB00 := Lib.hid hb0
  clear hb0
  go_enter Tryd.func20, Tryd.ntmps20
  go_wp2_with fail
  generalize w.alloc (.cells #[.int .i64 0, .string ⟨#[]⟩, .string ⟨#[]⟩] 32) = W0 at *
  refine (HSe.out _).mono ?_
  rintro e w' ⟨rfl, rfl⟩
  go_wp2_with fail
  go_loop [6, 7] (fun vb vi => ∃ i : Nat, i ≤ s.size ∧ vi = .int .i64 i ∧ vb = .bool (hashAt b0 (bs s) i)) (fun _ vi => s.size - (RowKit.intOf vi).toNat)
  case atStart => exact ⟨0, Nat.zero_le _, rfl, by rw [hashAt_0, ← HB00.out] <;> first | rfl | simp⟩
  case round =>
    obtain ⟨i, hi, rfl, rfl⟩ := hrel
    by_cases hlt : i < s.size
    · have HNx := Lib.hid (hashAt_next b0 s i hlt)
      cases hh : hashAt b0 (bs s) i
      · have HB35 := Lib.hid (beq_u8 s[i] 35)
        go_wp2_with fail
        exact ⟨⟨i + 1, by omega, by go_num, by rw [HNx.out, hh, Bool.false_or, ← HB35.out] <;> first | rfl | simp⟩, by simp [RowKit.intOf]; omega⟩
      · go_wp2_with fail
        exact ⟨⟨i + 1, by omega, by go_num, by rw [HNx.out, hh]; rfl⟩, by simp [RowKit.intOf]; omega⟩
    · have hie : i = s.size := by omega
      subst hie
      rw [HEnd.out]
      clear HB00 hlt hi
      cases hok : tgtOk (bs s)
      · have HV := Lib.hid (show tgt (bs m) (bs s) = (0, [], []) by rw [HE.out, if_pos hok])
        have hN := HN.out
        have q0 := hN.c0
        have q1 := hN.c1
        have q2 := hN.c2
        have r0 := hN.f0
        have r1 := hN.f1
        have r2 := hN.f2
        have hlt3 := hN.lt
        have HH := Lib.hid hN
        clear hN hok
        go_wp2_with fail
        obtain ⟨z0, z1, z2⟩ := HH.out.put (.int .i64 0) (.string ⟨#[]⟩) (.string ⟨#[]⟩)
        refine bodyPost_ret (v := .tuple #[.agg #[.int .i64 0, .string ⟨#[]⟩, .string ⟨#[]⟩], .int .i64 400]) ?_ rfl ⟨?_, Thr.below HB0.out (Nat.le_refl _) _ _ _⟩
        · simp [results, Tryd.results20, go_sem, z0, z1, z2]
        · rw [HV.out]; rfl
      · have hE := HE.out
        rw [if_neg (show ¬ tgtOk (bs s) = false by rw [hok]; simp)] at hE
        have hne : bs s ≠ [] := fun e => by rw [e] at hok; exact absurd hok (by decide)
        have hp : 0 < s.size := by rw [← length_bs]; exact List.length_pos_iff.2 hne
        have hhd := bs_head s hp
        have hp2 : (0 : Int) < (s.size : Int) := by omega
        clear hne hok
        by_cases hcn : bs m = connectL
        · have e1 := lit_eq m connectL hcn
          unfold connectL at e1
          rw [if_pos hcn] at hE
          clear hhd hcn
          by_cases hpt : ptI (bs s) < 1
          · rw [authL_no _ hpt] at hE
            have HV := Lib.hid hE
            clear hE
            go_wp2_with fail
            refine (HPo.out _).mono ?_
            rintro e w' ⟨rfl, rfl⟩
            have hN := HN.out
            have q0 := hN.c0
            have q1 := hN.c1
            have q2 := hN.c2
            have r0 := hN.f0
            have r1 := hN.f1
            have r2 := hN.f2
            have hlt3 := hN.lt
            have HH := Lib.hid hN
            clear hN
            go_wp2_with fail
            obtain ⟨z0, z1, z2⟩ := HH.out.put (.int .i64 0) (.string ⟨#[]⟩) (.string ⟨#[]⟩)
            refine bodyPost_ret (v := .tuple #[.agg #[.int .i64 0, .string ⟨#[]⟩, .string ⟨#[]⟩], .int .i64 400]) ?_ rfl ⟨?_, Thr.below HB0.out (Nat.le_refl _) _ _ _⟩
            · simp [results, Tryd.results20, go_sem, z0, z1, z2]
            · rw [HV.out]; rfl
          · rw [authL_yes _ (by omega)] at hE
            have HV := Lib.hid hE
            clear hE
            go_wp2_with fail
            refine (HPo.out _).mono ?_
            rintro e w' ⟨rfl, rfl⟩
            go_wp2_with fail
            refine (HLo.out _).mono ?_
            rintro e w1 ⟨rfl, hb⟩
            have hN := HN.out.later hb
            have HB1 := Lib.hid (HB0.out.trans (hb.mono HB0.out.size))
            have q0 := hN.c0
            have q1 := hN.c1
            have q2 := hN.c2
            have r0 := hN.f0
            have r1 := hN.f1
            have r2 := hN.f2
            have hlt3 := hN.lt
            have HH := Lib.hid hN
            clear hN hb
            go_wp2_with fail
            obtain ⟨z0, z1, z2⟩ := HH.out.put (.int .i64 3) (.string (mkS (lowL (bs s)))) (.string ⟨#[]⟩)
            refine bodyPost_ret (v := .tuple #[.agg #[.int .i64 3, .string (mkS (lowL (bs s))), .string ⟨#[]⟩], .int .i64 0]) ?_ rfl ⟨?_, Thr.below HB1.out (Nat.le_refl _) _ _ _⟩
            · simp [results, Tryd.results20, go_sem, z0, z1, z2]
            · rw [HV.out]; rfl
        · have e1 := lit_ne m connectL hcn
          unfold connectL at e1
          rw [if_neg hcn] at hE
          have hcase : (bs s = [42] ∧ bs m = optionsL) ∨ (bs s = [42] ∧ bs m ≠ optionsL) ∨ bs s ≠ [42] := by
            by_cases a : bs s = [42] <;> by_cases b : bs m = optionsL <;> simp [a, b]
          clear hcn
          rcases hcase with ⟨h42, ho⟩ | ⟨h42, ho⟩ | h42
          · have e3 := lit_eq s [42] h42
            have e2 := lit_eq m optionsL ho
            unfold optionsL at e2
            rw [if_pos ⟨ho, h42⟩] at hE
            have HV := Lib.hid hE
            have hN := HN.out
            have q0 := hN.c0
            have q1 := hN.c1
            have q2 := hN.c2
            have r0 := hN.f0
            have r1 := hN.f1
            have r2 := hN.f2
            have hlt3 := hN.lt
            have HH := Lib.hid hN
            clear hN hE hhd h42 ho
            go_wp2_with fail
            obtain ⟨z0, z1, z2⟩ := HH.out.put (.int .i64 4) (.string ⟨#[]⟩) (.string ⟨#[]⟩)
            refine bodyPost_ret (v := .tuple #[.agg #[.int .i64 4, .string ⟨#[]⟩, .string ⟨#[]⟩], .int .i64 0]) ?_ rfl ⟨?_, Thr.below HB0.out (Nat.le_refl _) _ _ _⟩
            · simp [results, Tryd.results20, go_sem, z0, z1, z2]
            · rw [HV.out]; rfl
          · have e3 := lit_eq s [42] h42
            have e2 := lit_ne m optionsL ho
            unfold optionsL at e2
            rw [if_neg (fun h => ho h.1), if_neg (by rw [h42]; decide), absL_short _ (by rw [h42]; decide)] at hE
            have HV := Lib.hid hE
            have hz : s.size = 1 := by rw [← length_bs, h42]; rfl
            have e4 : ((s[0].toNat : Int) == 47) = false := by
              rw [h42] at hhd
              injection hhd with hhd
              rw [← hhd]; rfl
            have e7 : ¬ (7 : Int) < (s.size : Int) := by omega
            have hN := HN.out
            have q0 := hN.c0
            have q1 := hN.c1
            have q2 := hN.c2
            have r0 := hN.f0
            have r1 := hN.f1
            have r2 := hN.f2
            have hlt3 := hN.lt
            have HH := Lib.hid hN
            clear hN hE hhd h42 ho hz
            go_wp2_with fail
            obtain ⟨z0, z1, z2⟩ := HH.out.put (.int .i64 0) (.string ⟨#[]⟩) (.string ⟨#[]⟩)
            refine bodyPost_ret (v := .tuple #[.agg #[.int .i64 0, .string ⟨#[]⟩, .string ⟨#[]⟩], .int .i64 400]) ?_ rfl ⟨?_, Thr.below HB0.out (Nat.le_refl _) _ _ _⟩
            · simp [results, Tryd.results20, go_sem, z0, z1, z2]
            · rw [HV.out]; rfl
          · have e3 := lit_ne s [42] h42
            rw [if_neg (fun h => h42 h.2)] at hE
            clear h42
            by_cases h47 : s[0] = 47
            · have e4 : ((s[0].toNat : Int) == 47) = true := by rw [h47]; rfl
              rw [if_pos (by rw [hhd, h47])] at hE
              have HV := Lib.hid hE
              have hN := HN.out
              have q0 := hN.c0
              have q1 := hN.c1
              have q2 := hN.c2
              have r0 := hN.f0
              have r1 := hN.f1
              have r2 := hN.f2
              have hlt3 := hN.lt
              have HH := Lib.hid hN
              clear hN hE hhd h47
              go_wp2_with fail
              obtain ⟨z0, z1, z2⟩ := HH.out.put (.int .i64 1) (.string ⟨#[]⟩) (.string s)
              refine bodyPost_ret (v := .tuple #[.agg #[.int .i64 1, .string ⟨#[]⟩, .string s], .int .i64 0]) ?_ rfl ⟨?_, Thr.below HB0.out (Nat.le_refl _) _ _ _⟩
              · simp [results, Tryd.results20, go_sem, z0, z1, z2]
              · rw [HV.out]; show _ = Ending.returned (.tuple #[.agg #[_, _, .string (mkS (bs s))], _]); rw [mkS_bs]; rfl
            · have e4 : ((s[0].toNat : Int) == 47) = false := by
                rw [beq_eq_false_iff_ne]
                intro e
                exact h47 (UInt8.toNat_inj.1 (show s[0].toNat = 47 by omega))
              rw [if_neg (by rw [hhd]; simpa using h47)] at hE
              clear hhd h47
              by_cases h7 : 7 < s.size
              · have e7 : (7 : Int) < (s.size : Int) := by omega
                cases h1 : decide (lowL ((bs s).take 7) = schemeL)
                · rw [h1] at HSm
                  rw [absL_no _ (.inl (of_decide_eq_false h1))] at hE
                  have HV := Lib.hid hE
                  clear hE h1
                  go_wp2_with fail
                  refine (HSm.out _).mono ?_
                  rintro e w1 ⟨rfl, hb⟩
                  have hN := HN.out.later hb
                  have HB1 := Lib.hid (HB0.out.trans (hb.mono HB0.out.size))
                  have q0 := hN.c0
                  have q1 := hN.c1
                  have q2 := hN.c2
                  have r0 := hN.f0
                  have r1 := hN.f1
                  have r2 := hN.f2
                  have hlt3 := hN.lt
                  have HH := Lib.hid hN
                  clear hN hb
                  go_wp2_with fail
                  obtain ⟨z0, z1, z2⟩ := HH.out.put (.int .i64 0) (.string ⟨#[]⟩) (.string ⟨#[]⟩)
                  refine bodyPost_ret (v := .tuple #[.agg #[.int .i64 0, .string ⟨#[]⟩, .string ⟨#[]⟩], .int .i64 400]) ?_ rfl ⟨?_, Thr.below HB1.out (Nat.le_refl _) _ _ _⟩
                  · simp [results, Tryd.results20, go_sem, z0, z1, z2]
                  · rw [HV.out]; rfl
                · rw [h1] at HSm
                  have H1 := Lib.hid (of_decide_eq_true h1)
                  have HEE := Lib.hid hE
                  clear hE h1
                  go_wp2_with fail
                  refine (HSm.out _).mono ?_
                  rintro e w1 ⟨rfl, hb⟩
                  have HN1 := Lib.hid (HN.out.later hb)
                  have HB1 := Lib.hid (HB0.out.trans (hb.mono HB0.out.size))
                  clear hb
                  go_wp2_with fail
                  have hxz : (s.extract 7 s.size).size ≤ s.size := by rw [← length_bs, HX.out, List.length_drop, length_bs]; omega
                  generalize s.extract 7 s.size = X at *
                  go_loop [9] (fun vi => ∃ i : Nat, i ≤ X.size ∧ vi = .int .i64 i ∧ Hid (((bs X).take i).all noEnd = true)) (fun vi => X.size - (RowKit.intOf vi).toNat)
                  case atStart => exact ⟨0, Nat.zero_le _, rfl, rfl⟩
                  case round =>
                    obtain ⟨i, hi, rfl, hI⟩ := hrel
                    by_cases hlt : i < X.size
                    · by_cases hc : X[i] = 47
                      · have e47 : ((X[i].toNat : Int) != 47) = false := by rw [hc]; rfl
                        have hstop : noEnd X[i] = false := by rw [hc]; rfl
                        have hth : tHost (bs s) = (bs X).take i := by
                          unfold tHost
                          rw [← HX.out]
                          conv => lhs; rw [show bs X = (bs X).take i ++ X[i] :: (bs X).drop (i + 1) by rw [← bs_drop X i hlt, List.take_append_drop]]
                          exact takeWhile_stop noEnd _ _ _ hI.out hstop
                        have htr : tRest (bs s) = (bs X).drop i := by
                          unfold tRest
                          rw [← HX.out]
                          conv => lhs; rw [show bs X = (bs X).take i ++ X[i] :: (bs X).drop (i + 1) by rw [← bs_drop X i hlt, List.take_append_drop]]
                          rw [List.dropWhile_append_of_pos (fun x hx => List.all_eq_true.1 hI.out x hx), List.dropWhile_cons, if_neg (by rw [hstop]; simp), bs_drop X i hlt]
                        have hxe : bs (X.extract 0 i) = (bs X).take i := by rw [bs_extract]; simp
                        have hxs : (X.extract 0 i).size ≤ 1000000000 := by rw [← length_bs, hxe, List.length_take, length_bs]; omega
                        have hho := fun W => rhost_any (X.extract 0 i) W (by omega)
                        have hlo := fun W => show Calls Tryd.prog 50 #[.string (X.extract 0 i)] W (fun e w' => e = .returned (.string (mkS (lowL (bs (X.extract 0 i))))) ∧ Below W.heap.size W w') from refLower_any (X.extract 0 i) W (by omega)
                        rw [hxe, ← hth] at hho hlo
                        have hpe : bs (X.extract i X.size) = (bs X).drop i := by rw [bs_extract, List.take_of_length_le (by rw [List.length_drop, length_bs]; exact Nat.le_refl _)]
                        rw [← htr] at hpe
                        have hpz : (X.extract i X.size).size ≤ 1000000000 := by
                          rw [← length_bs, hpe, htr, List.length_drop, length_bs]; omega
                        have c1 : (0 : Int) ≤ (i : Int) := by omega
                        have c2 : (i : Int) ≤ (X.size : Int) := by omega
                        rw [bs_drop X i hlt] at htr
                        have HHo := Lib.hid hho
                        have HLw := Lib.hid hlo
                        have HTr := Lib.hid htr
                        have HPe := Lib.hid hpe
                        have HPz := Lib.hid hpz
                        clear hth htr hxe hxs hho hlo hpe hpz
                        go_upto_region 22 with (fail)
                        have hpe := HPe.out
                        have hpz := HPz.out
                        clear HPe HPz
                        generalize X.extract i X.size = P at *
                        have hpp : 0 < P.size := by rw [← length_bs, hpe, HTr.out]; simp
                        have hpp2 : (0 : Int) < (P.size : Int) := by omega
                        have hem : P.toList.isEmpty = false := not_empty_of P hpp
                        have hp0 : P[0] = X[i] := by
                          have h1 := bs_head P hpp
                          rw [hpe, HTr.out] at h1
                          simpa using h1.symm
                        have e63 : ((P[0].toNat : Int) == 63) = false := by rw [hp0, hc]; rfl
                        have htp : mkS (tPath (bs s)) = P := by
                          rw [tPath_slash _ _ (by rw [HTr.out, hc]), ← hpe, mkS_bs]
                        have HTp := Lib.hid htp
                        have hz47 : (⟨#[47]⟩ : ByteArray).size = 1 := rfl
                        clear htp hpe hp0 hc
                        cases h2 : hostL (tHost (bs s))
                        · rw [h2] at HHo
                          have HV := Lib.hid (show tgt (bs m) (bs s) = (0, [], []) by rw [HEE.out, absL_no _ (.inr h2)])
                          clear h2
                          go_wp2_with fail
                          refine (HHo.out _).mono ?_
                          rintro e w' ⟨rfl, rfl⟩
                          have hN := HN1.out
                          have q0 := hN.c0
                          have q1 := hN.c1
                          have q2 := hN.c2
                          have r0 := hN.f0
                          have r1 := hN.f1
                          have r2 := hN.f2
                          have hlt3 := hN.lt
                          have HH := Lib.hid hN
                          clear hN
                          go_wp2_with fail
                          obtain ⟨z0, z1, z2⟩ := HH.out.put (.int .i64 0) (.string ⟨#[]⟩) (.string ⟨#[]⟩)
                          refine bodyPost_ret (v := .tuple #[.agg #[.int .i64 0, .string ⟨#[]⟩, .string ⟨#[]⟩], .int .i64 400]) ?_ rfl ⟨?_, Thr.below HB1.out (Nat.le_refl _) _ _ _⟩
                          · simp [results, Tryd.results20, go_sem, z0, z1, z2]
                          · rw [HV.out]; rfl
                        · rw [h2] at HHo
                          have HV := Lib.hid (show tgt (bs m) (bs s) = (2, lowL (tHost (bs s)), tPath (bs s)) by rw [HEE.out, absL_yes _ H1.out h2])
                          clear h2
                          go_wp2_with fail
                          refine (HHo.out _).mono ?_
                          rintro e w' ⟨rfl, rfl⟩
                          go_wp2_with fail
                          refine (HLw.out _).mono ?_
                          rintro e w2 ⟨rfl, hb⟩
                          have hN := HN1.out.later hb
                          have HB2 := Lib.hid (HB1.out.trans (hb.mono HB1.out.size))
                          have q0 := hN.c0
                          have q1 := hN.c1
                          have q2 := hN.c2
                          have r0 := hN.f0
                          have r1 := hN.f1
                          have r2 := hN.f2
                          have hlt3 := hN.lt
                          have HH := Lib.hid hN
                          clear hN hb
                          go_wp2_with fail
                          obtain ⟨z0, z1, z2⟩ := HH.out.put (.int .i64 2) (.string (mkS (lowL (tHost (bs s))))) (.string P)
                          refine bodyPost_ret (v := .tuple #[.agg #[.int .i64 2, .string (mkS (lowL (tHost (bs s)))), .string P], .int .i64 0]) ?_ rfl ⟨?_, Thr.below HB2.out (Nat.le_refl _) _ _ _⟩
                          · simp [results, Tryd.results20, go_sem, z0, z1, z2]
                          · rw [HV.out]; show _ = Ending.returned (.tuple #[.agg #[_, _, .string (mkS (tPath (bs s)))], _]); rw [HTp.out]; rfl
                      · have e47 : ((X[i].toNat : Int) != 47) = true := by
                          rw [bne_iff_ne]
                          intro e
                          exact hc (UInt8.toNat_inj.1 (show X[i].toNat = 47 by omega))
                        have hn47 := hc
                        clear hc
                        by_cases hc : X[i] = 63
                        · have e63x : ((X[i].toNat : Int) != 63) = false := by rw [hc]; rfl
                          have hstop : noEnd X[i] = false := by rw [hc]; rfl
                          have hth : tHost (bs s) = (bs X).take i := by
                            unfold tHost
                            rw [← HX.out]
                            conv => lhs; rw [show bs X = (bs X).take i ++ X[i] :: (bs X).drop (i + 1) by rw [← bs_drop X i hlt, List.take_append_drop]]
                            exact takeWhile_stop noEnd _ _ _ hI.out hstop
                          have htr : tRest (bs s) = (bs X).drop i := by
                            unfold tRest
                            rw [← HX.out]
                            conv => lhs; rw [show bs X = (bs X).take i ++ X[i] :: (bs X).drop (i + 1) by rw [← bs_drop X i hlt, List.take_append_drop]]
                            rw [List.dropWhile_append_of_pos (fun x hx => List.all_eq_true.1 hI.out x hx), List.dropWhile_cons, if_neg (by rw [hstop]; simp), bs_drop X i hlt]
                          have hxe : bs (X.extract 0 i) = (bs X).take i := by rw [bs_extract]; simp
                          have hxs : (X.extract 0 i).size ≤ 1000000000 := by rw [← length_bs, hxe, List.length_take, length_bs]; omega
                          have hho := fun W => rhost_any (X.extract 0 i) W (by omega)
                          have hlo := fun W => show Calls Tryd.prog 50 #[.string (X.extract 0 i)] W (fun e w' => e = .returned (.string (mkS (lowL (bs (X.extract 0 i))))) ∧ Below W.heap.size W w') from refLower_any (X.extract 0 i) W (by omega)
                          rw [hxe, ← hth] at hho hlo
                          have hpe : bs (X.extract i X.size) = (bs X).drop i := by rw [bs_extract, List.take_of_length_le (by rw [List.length_drop, length_bs]; exact Nat.le_refl _)]
                          rw [← htr] at hpe
                          have hpz : (X.extract i X.size).size ≤ 1000000000 := by
                            rw [← length_bs, hpe, htr, List.length_drop, length_bs]; omega
                          have c1 : (0 : Int) ≤ (i : Int) := by omega
                          have c2 : (i : Int) ≤ (X.size : Int) := by omega
                          rw [bs_drop X i hlt] at htr
                          have HHo := Lib.hid hho
                          have HLw := Lib.hid hlo
                          have HTr := Lib.hid htr
                          have HPe := Lib.hid hpe
                          have HPz := Lib.hid hpz
                          clear hth htr hxe hxs hho hlo hpe hpz
                          go_upto_region 22 with (fail)
                          have hpe := HPe.out
                          have hpz := HPz.out
                          clear HPe HPz
                          generalize X.extract i X.size = P at *
                          have hpp : 0 < P.size := by rw [← length_bs, hpe, HTr.out]; simp
                          have hpp2 : (0 : Int) < (P.size : Int) := by omega
                          have hem : P.toList.isEmpty = false := not_empty_of P hpp
                          have hp0 : P[0] = X[i] := by
                            have h1 := bs_head P hpp
                            rw [hpe, HTr.out] at h1
                            simpa using h1.symm
                          have e63 : ((P[0].toNat : Int) == 63) = true := by rw [hp0, hc]; rfl
                          have htp : mkS (tPath (bs s)) = ⟨#[47]⟩ ++ P := by
                            rw [tPath_other _ (.inr ⟨_, by rw [HTr.out, hc]⟩), show (⟨#[47]⟩ : ByteArray) = mkS [47] from rfl, show P = mkS (tRest (bs s)) by rw [← hpe, mkS_bs], mkS_append]; rfl
                          have HTp := Lib.hid htp
                          have hz47 : (⟨#[47]⟩ : ByteArray).size = 1 := rfl
                          clear htp hpe hp0 hc
                          cases h2 : hostL (tHost (bs s))
                          · rw [h2] at HHo
                            have HV := Lib.hid (show tgt (bs m) (bs s) = (0, [], []) by rw [HEE.out, absL_no _ (.inr h2)])
                            clear h2
                            go_wp2_with fail
                            refine (HHo.out _).mono ?_
                            rintro e w' ⟨rfl, rfl⟩
                            have hN := HN1.out
                            have q0 := hN.c0
                            have q1 := hN.c1
                            have q2 := hN.c2
                            have r0 := hN.f0
                            have r1 := hN.f1
                            have r2 := hN.f2
                            have hlt3 := hN.lt
                            have HH := Lib.hid hN
                            clear hN
                            go_wp2_with fail
                            obtain ⟨z0, z1, z2⟩ := HH.out.put (.int .i64 0) (.string ⟨#[]⟩) (.string ⟨#[]⟩)
                            refine bodyPost_ret (v := .tuple #[.agg #[.int .i64 0, .string ⟨#[]⟩, .string ⟨#[]⟩], .int .i64 400]) ?_ rfl ⟨?_, Thr.below HB1.out (Nat.le_refl _) _ _ _⟩
                            · simp [results, Tryd.results20, go_sem, z0, z1, z2]
                            · rw [HV.out]; rfl
                          · rw [h2] at HHo
                            have HV := Lib.hid (show tgt (bs m) (bs s) = (2, lowL (tHost (bs s)), tPath (bs s)) by rw [HEE.out, absL_yes _ H1.out h2])
                            clear h2
                            go_wp2_with fail
                            refine (HHo.out _).mono ?_
                            rintro e w' ⟨rfl, rfl⟩
                            go_wp2_with fail
                            refine (HLw.out _).mono ?_
                            rintro e w2 ⟨rfl, hb⟩
                            have hN := HN1.out.later hb
                            have HB2 := Lib.hid (HB1.out.trans (hb.mono HB1.out.size))
                            have q0 := hN.c0
                            have q1 := hN.c1
                            have q2 := hN.c2
                            have r0 := hN.f0
                            have r1 := hN.f1
                            have r2 := hN.f2
                            have hlt3 := hN.lt
                            have HH := Lib.hid hN
                            clear hN hb
                            go_wp2_with fail
                            obtain ⟨z0, z1, z2⟩ := HH.out.put (.int .i64 2) (.string (mkS (lowL (tHost (bs s))))) (.string (⟨#[47]⟩ ++ P))
                            refine bodyPost_ret (v := .tuple #[.agg #[.int .i64 2, .string (mkS (lowL (tHost (bs s)))), .string (⟨#[47]⟩ ++ P)], .int .i64 0]) ?_ rfl ⟨?_, Thr.below HB2.out (Nat.le_refl _) _ _ _⟩
                            · simp [results, Tryd.results20, go_sem, z0, z1, z2]
                            · rw [HV.out]; show _ = Ending.returned (.tuple #[.agg #[_, _, .string (mkS (tPath (bs s)))], _]); rw [HTp.out]; rfl
                        · have e63x : ((X[i].toNat : Int) != 63) = true := by
                            rw [bne_iff_ne]
                            intro e
                            exact hc (UInt8.toNat_inj.1 (show X[i].toNat = 63 by omega))
                          have hI2 : Hid (((bs X).take (i + 1)).all noEnd = true) := by
                            show _ = _
                            rw [take_snoc (bs X) i (by rw [length_bs]; exact hlt), List.all_append, hI.out, getD_bs X i hlt, List.all_cons, noEnd_of, decide_eq_true hn47, decide_eq_true hc]; rfl
                          clear hc hn47
                          go_wp2_with fail
                          exact ⟨⟨i + 1, by omega, by go_num, hI2⟩, by simp [RowKit.intOf]; omega⟩
                    · skip
                      have hth : tHost (bs s) = (bs X).take i := by
                        unfold tHost
                        rw [← HX.out, takeWhile_whole noEnd _ (by have := hI.out; rw [List.take_of_length_le (by rw [length_bs]; omega)] at this; exact this), List.take_of_length_le (by rw [length_bs]; omega)]
                      have htr : tRest (bs s) = (bs X).drop i := by
                        unfold tRest
                        rw [← HX.out, List.drop_eq_nil_of_le (by rw [length_bs]; omega)]
                        have h1 := List.takeWhile_append_dropWhile (p := noEnd) (l := bs X)
                        rw [takeWhile_whole noEnd _ (by have := hI.out; rw [List.take_of_length_le (by rw [length_bs]; omega)] at this; exact this)] at h1
                        simpa using h1
                      have hxe : bs (X.extract 0 i) = (bs X).take i := by rw [bs_extract]; simp
                      have hxs : (X.extract 0 i).size ≤ 1000000000 := by rw [← length_bs, hxe, List.length_take, length_bs]; omega
                      have hho := fun W => rhost_any (X.extract 0 i) W (by omega)
                      have hlo := fun W => show Calls Tryd.prog 50 #[.string (X.extract 0 i)] W (fun e w' => e = .returned (.string (mkS (lowL (bs (X.extract 0 i))))) ∧ Below W.heap.size W w') from refLower_any (X.extract 0 i) W (by omega)
                      rw [hxe, ← hth] at hho hlo
                      have hpe : bs (X.extract i X.size) = (bs X).drop i := by rw [bs_extract, List.take_of_length_le (by rw [List.length_drop, length_bs]; exact Nat.le_refl _)]
                      rw [← htr] at hpe
                      have hpz : (X.extract i X.size).size ≤ 1000000000 := by
                        rw [← length_bs, hpe, htr, List.length_drop, length_bs]; omega
                      have c1 : (0 : Int) ≤ (i : Int) := by omega
                      have c2 : (i : Int) ≤ (X.size : Int) := by omega
                      rw [List.drop_eq_nil_of_le (by rw [length_bs]; omega)] at htr
                      have HHo := Lib.hid hho
                      have HLw := Lib.hid hlo
                      have HTr := Lib.hid htr
                      have HPe := Lib.hid hpe
                      have HPz := Lib.hid hpz
                      clear hth htr hxe hxs hho hlo hpe hpz
                      go_upto_region 22 with (fail)
                      have hpe := HPe.out
                      have hpz := HPz.out
                      clear HPe HPz
                      generalize X.extract i X.size = P at *
                      have hem : P.toList.isEmpty = true := by rw [toList_bs, hpe, HTr.out]; rfl
                      have htp : mkS (tPath (bs s)) = ⟨#[47]⟩ ++ P := by
                        rw [tPath_other _ (.inl HTr.out), show (⟨#[47]⟩ : ByteArray) = mkS [47] from rfl, show P = mkS (tRest (bs s)) by rw [← hpe, mkS_bs], mkS_append]; rfl
                      have HTp := Lib.hid htp
                      have hz47 : (⟨#[47]⟩ : ByteArray).size = 1 := rfl
                      clear htp hpe
                      cases h2 : hostL (tHost (bs s))
                      · rw [h2] at HHo
                        have HV := Lib.hid (show tgt (bs m) (bs s) = (0, [], []) by rw [HEE.out, absL_no _ (.inr h2)])
                        clear h2
                        go_wp2_with fail
                        refine (HHo.out _).mono ?_
                        rintro e w' ⟨rfl, rfl⟩
                        have hN := HN1.out
                        have q0 := hN.c0
                        have q1 := hN.c1
                        have q2 := hN.c2
                        have r0 := hN.f0
                        have r1 := hN.f1
                        have r2 := hN.f2
                        have hlt3 := hN.lt
                        have HH := Lib.hid hN
                        clear hN
                        go_wp2_with fail
                        obtain ⟨z0, z1, z2⟩ := HH.out.put (.int .i64 0) (.string ⟨#[]⟩) (.string ⟨#[]⟩)
                        refine bodyPost_ret (v := .tuple #[.agg #[.int .i64 0, .string ⟨#[]⟩, .string ⟨#[]⟩], .int .i64 400]) ?_ rfl ⟨?_, Thr.below HB1.out (Nat.le_refl _) _ _ _⟩
                        · simp [results, Tryd.results20, go_sem, z0, z1, z2]
                        · rw [HV.out]; rfl
                      · rw [h2] at HHo
                        have HV := Lib.hid (show tgt (bs m) (bs s) = (2, lowL (tHost (bs s)), tPath (bs s)) by rw [HEE.out, absL_yes _ H1.out h2])
                        clear h2
                        go_wp2_with fail
                        refine (HHo.out _).mono ?_
                        rintro e w' ⟨rfl, rfl⟩
                        go_wp2_with fail
                        refine (HLw.out _).mono ?_
                        rintro e w2 ⟨rfl, hb⟩
                        have hN := HN1.out.later hb
                        have HB2 := Lib.hid (HB1.out.trans (hb.mono HB1.out.size))
                        have q0 := hN.c0
                        have q1 := hN.c1
                        have q2 := hN.c2
                        have r0 := hN.f0
                        have r1 := hN.f1
                        have r2 := hN.f2
                        have hlt3 := hN.lt
                        have HH := Lib.hid hN
                        clear hN hb
                        go_wp2_with fail
                        obtain ⟨z0, z1, z2⟩ := HH.out.put (.int .i64 2) (.string (mkS (lowL (tHost (bs s))))) (.string (⟨#[47]⟩ ++ P))
                        refine bodyPost_ret (v := .tuple #[.agg #[.int .i64 2, .string (mkS (lowL (tHost (bs s)))), .string (⟨#[47]⟩ ++ P)], .int .i64 0]) ?_ rfl ⟨?_, Thr.below HB2.out (Nat.le_refl _) _ _ _⟩
                        · simp [results, Tryd.results20, go_sem, z0, z1, z2]
                        · rw [HV.out]; show _ = Ending.returned (.tuple #[.agg #[_, _, .string (mkS (tPath (bs s)))], _]); rw [HTp.out]; rfl
              · have e7 : ¬ (7 : Int) < (s.size : Int) := by omega
                rw [absL_short _ (by rw [length_bs]; omega)] at hE
                have HV := Lib.hid hE
                have hN := HN.out
                have q0 := hN.c0
                have q1 := hN.c1
                have q2 := hN.c2
                have r0 := hN.f0
                have r1 := hN.f1
                have r2 := hN.f2
                have hlt3 := hN.lt
                have HH := Lib.hid hN
                clear hN hE
                go_wp2_with fail
                obtain ⟨z0, z1, z2⟩ := HH.out.put (.int .i64 0) (.string ⟨#[]⟩) (.string ⟨#[]⟩)
                refine bodyPost_ret (v := .tuple #[.agg #[.int .i64 0, .string ⟨#[]⟩, .string ⟨#[]⟩], .int .i64 400]) ?_ rfl ⟨?_, Thr.below HB0.out (Nat.le_refl _) _ _ _⟩
                · simp [results, Tryd.results20, go_sem, z0, z1, z2]
                · rw [HV.out]; rfl
end Tk
end Go.Proofs.YtliinjibnikfgaaDoor
