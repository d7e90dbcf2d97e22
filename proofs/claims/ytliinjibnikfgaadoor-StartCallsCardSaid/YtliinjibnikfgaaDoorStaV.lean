/- start.Target: whatever is asked for. -/
import Derived.Test.YtliinjibnikfgaaDoorStaU
namespace Go.Proofs.YtliinjibnikfgaaDoor
open Go.RowKit
namespace Tk

theorem tgt_eq (m s : Bs) : tgt m s = if tgtOk s = false then (0, [], []) else if m = connectL then authL s else if m = optionsL ∧ s = [42] then (4, [], []) else if s.head? = some 47 then (1, [], s) else absL s := rfl

theorem lit_eq (m : ByteArray) (l : Bs) (h : bs m = l) : (m.toList == l) = true := by rw [toList_bs, h]; exact beq_self_eq_true l
theorem lit_ne (m : ByteArray) (l : Bs) (h : bs m ≠ l) : (m.toList == l) = false := by rw [toList_bs]; exact beq_eq_false_iff_ne.2 h

set_option maxHeartbeats 8000000 in
set_option maxRecDepth 100000 in
theorem target_any (m s : ByteArray) (w : World) (_hm : m.size ≤ 1000000000) (hs : s.size ≤ 1000000000) :
    Calls Tryd.prog 19 #[.string m, .string s] w (TgPost (tgt (bs m) (bs s)) w) := by
  have HN := Lib.hid (Thr.new w 32 (.int .i64 0) (.string ⟨#[]⟩) (.string ⟨#[]⟩))
  have HB0 := Lib.hid (show Below w.heap.size w (w.alloc (.cells #[.int .i64 0, .string ⟨#[]⟩, .string ⟨#[]⟩] 32)) from (Below.refl _ _).alloc (Nat.le_refl _) _)
  have hE := tgt_eq (bs m) (bs s)
  have hsv := fun W => someVis_any s W (by omega)
  have hct := fun W => Tryd.strings_Contains_one s 35 W
  have hct2 : ∀ W, Calls Tryd.prog 76 #[.string s, .string ⟨#[35]⟩] W fun e w' => e = .returned (.bool ((bs s).contains 35)) ∧ w' = W := by
    intro W
    have := hct W
    rw [show s.data.toList = bs s from rfl, ix_contains] at this
    exact this
  have hau := fun W => authority_any s W (by omega)
  have hab := fun (W : World) (h : (bs s).all vis = true) => absolute_any s W hs h
  have hcl := fun W => show Calls Tryd.prog 56 #[.string s] W (fun e w' => e = .returned (.string (mkS (bs s))) ∧ Below W.heap.size W w') from clone_any s W (by omega)
  have hok : tgtOk (bs s) = (someL vis (bs s) && !(bs s).contains 35) := rfl
  have HCl := Lib.hid hcl
  clear hct hcl
  cases h1 : someL vis (bs s)
  · rw [h1] at hsv hok
    have HV := Lib.hid (show tgt (bs m) (bs s) = (0, [], []) by rw [hE, if_pos (show tgtOk (bs s) = false from hok)])
    have HSV := Lib.hid hsv
    clear hE hok hsv hct2 hau hab h1 HCl
    go_enter Tryd.func19, Tryd.ntmps19
    go_wp2_with fail
    generalize w.alloc (.cells #[.int .i64 0, .string ⟨#[]⟩, .string ⟨#[]⟩] 32) = W0 at *
    refine (HSV.out _).mono ?_
    rintro e w1 ⟨rfl, hb⟩
    have HN1 := Lib.hid (HN.out.later hb)
    have HB1 := Lib.hid (HB0.out.trans (hb.mono HB0.out.size))
    clear hb
    have HN1b := HN1.out
    have q0 := HN1b.c0
    have q1 := HN1b.c1
    have q2 := HN1b.c2
    have r0 := HN1b.f0
    have r1 := HN1b.f1
    have r2 := HN1b.f2
    have hlt := HN1b.lt
    have HH := Lib.hid HN1b
    clear HN1b
    go_wp2_with fail
    obtain ⟨z0, z1, z2⟩ := HH.out.put (.int .i64 0) (.string ⟨#[]⟩) (.string ⟨#[]⟩)
    refine bodyPost_ret (v := .tuple #[.agg #[.int .i64 0, .string ⟨#[]⟩, .string ⟨#[]⟩], .int .i64 400]) ?_ rfl ⟨?_, Thr.below HB1.out (Nat.le_refl _) _ _ _⟩
    · simp [results, Tryd.results19, go_sem, z0, z1, z2]
    · rw [HV.out]; rfl
  · rw [h1] at hsv hok
    have HSV := Lib.hid hsv
    have hal := someL_all h1
    have hne : bs s ≠ [] := fun e => by rw [e] at h1; exact absurd h1 (by decide)
    have hp : 0 < s.size := by rw [← length_bs]; exact List.length_pos_iff.2 hne
    have hhd := bs_head s hp
    cases h2 : (bs s).contains 35
    · rw [h2] at hct2 hok
      have HCT := Lib.hid hct2
      rw [if_neg (show ¬ tgtOk (bs s) = false by rw [hok]; simp)] at hE
      clear hok hsv hct2 h1 h2 hne
      by_cases hcn : bs m = connectL
      · have HV := Lib.hid (show tgt (bs m) (bs s) = authL (bs s) by rw [hE, if_pos hcn])
        have e1 := lit_eq m connectL hcn
        unfold connectL at e1
        unfold TgPost tgV at hau
        have HAU := Lib.hid hau
        clear hE hau hab hal hhd hcn HCl
        go_enter Tryd.func19, Tryd.ntmps19
        go_wp2_with fail
        generalize w.alloc (.cells #[.int .i64 0, .string ⟨#[]⟩, .string ⟨#[]⟩] 32) = W0 at *
        refine (HSV.out _).mono ?_
        rintro e w1 ⟨rfl, hb⟩
        have HN1 := Lib.hid (HN.out.later hb)
        have HB1 := Lib.hid (HB0.out.trans (hb.mono HB0.out.size))
        clear hb
        go_wp2_with fail
        refine (HCT.out _).mono ?_
        rintro e w' ⟨rfl, hw⟩
        subst hw
        go_wp2_with fail
        refine (HAU.out _).mono ?_
        rintro e w4 ⟨rfl, hb⟩
        have HN4 := HN1.out.later hb
        have HB4 := Lib.hid (HB1.out.trans (hb.mono HB1.out.size))
        have q0 := HN4.c0
        have q1 := HN4.c1
        have q2 := HN4.c2
        have r0 := HN4.f0
        have r1 := HN4.f1
        have r2 := HN4.f2
        have hlt := HN4.lt
        have HH := Lib.hid HN4
        clear hb HN4
        generalize authL (bs s) = x at *
        go_wp2_with fail
        obtain ⟨z0, z1, z2⟩ := HH.out.put (.int .i64 x.1) (.string (mkS x.2.1)) (.string (mkS x.2.2))
        refine bodyPost_ret (v := .tuple #[.agg #[.int .i64 x.1, .string (mkS x.2.1), .string (mkS x.2.2)], .int .i64 (tgSt x)]) ?_ rfl ⟨?_, Thr.below HB4.out (Nat.le_refl _) _ _ _⟩
        · simp [results, Tryd.results19, go_sem, z0, z1, z2]
        · rw [HV.out]; rfl
      · have e1 := lit_ne m connectL hcn
        unfold connectL at e1
        rw [if_neg hcn] at hE
        clear hau
        by_cases ho : bs m = optionsL
        · have e2 := lit_eq m optionsL ho
          unfold optionsL at e2
          by_cases h42 : bs s = [42]
          · have e3 := lit_eq s [42] h42
            have HV := Lib.hid (show tgt (bs m) (bs s) = (4, [], []) by rw [hE, if_pos ⟨ho, h42⟩])
            clear hE hab hal hhd hcn ho h42 HCl
            go_enter Tryd.func19, Tryd.ntmps19
            go_wp2_with fail
            generalize w.alloc (.cells #[.int .i64 0, .string ⟨#[]⟩, .string ⟨#[]⟩] 32) = W0 at *
            refine (HSV.out _).mono ?_
            rintro e w1 ⟨rfl, hb⟩
            have HN1 := Lib.hid (HN.out.later hb)
            have HB1 := Lib.hid (HB0.out.trans (hb.mono HB0.out.size))
            clear hb
            go_wp2_with fail
            refine (HCT.out _).mono ?_
            rintro e w' ⟨rfl, hw⟩
            subst hw
            have HN1b := HN1.out
            have q0 := HN1b.c0
            have q1 := HN1b.c1
            have q2 := HN1b.c2
            have r0 := HN1b.f0
            have r1 := HN1b.f1
            have r2 := HN1b.f2
            have hlt := HN1b.lt
            have HH := Lib.hid HN1b
            clear HN1b
            go_wp2_with fail
            obtain ⟨z0, z1, z2⟩ := HH.out.put (.int .i64 4) (.string ⟨#[]⟩) (.string ⟨#[]⟩)
            refine bodyPost_ret (v := .tuple #[.agg #[.int .i64 4, .string ⟨#[]⟩, .string ⟨#[]⟩], .int .i64 0]) ?_ rfl ⟨?_, Thr.below HB1.out (Nat.le_refl _) _ _ _⟩
            · simp [results, Tryd.results19, go_sem, z0, z1, z2]
            · rw [HV.out]; rfl
          · have e3 := lit_ne s [42] h42
            rw [if_neg (fun h => h42 h.2)] at hE
            clear hcn ho h42
            by_cases h47 : s[0] = 47
            · have HV := Lib.hid (show tgt (bs m) (bs s) = (1, [], bs s) by rw [hE, if_pos (by rw [hhd, h47])])
              have e4 : ((s[0].toNat : Int) == 47) = true := by rw [h47]; rfl
              have hp2 : (0 : Int) < (s.size : Int) := by omega
              clear hE hab hal hhd h47
              go_enter Tryd.func19, Tryd.ntmps19
              go_wp2_with fail
              generalize w.alloc (.cells #[.int .i64 0, .string ⟨#[]⟩, .string ⟨#[]⟩] 32) = W0 at *
              refine (HSV.out _).mono ?_
              rintro e w1 ⟨rfl, hb⟩
              have HN1 := Lib.hid (HN.out.later hb)
              have HB1 := Lib.hid (HB0.out.trans (hb.mono HB0.out.size))
              clear hb
              go_wp2_with fail
              refine (HCT.out _).mono ?_
              rintro e w' ⟨rfl, hw⟩
              subst hw
              go_wp2_with fail
              refine (HCl.out _).mono ?_
              rintro e w4 ⟨rfl, hb⟩
              have HN4 := HN1.out.later hb
              have HB4 := Lib.hid (HB1.out.trans (hb.mono HB1.out.size))
              have q0 := HN4.c0
              have q1 := HN4.c1
              have q2 := HN4.c2
              have r0 := HN4.f0
              have r1 := HN4.f1
              have r2 := HN4.f2
              have hlt := HN4.lt
              have HH := Lib.hid HN4
              clear hb HN4
              go_wp2_with fail
              obtain ⟨z0, z1, z2⟩ := HH.out.put (.int .i64 1) (.string ⟨#[]⟩) (.string s)
              refine bodyPost_ret (v := .tuple #[.agg #[.int .i64 1, .string ⟨#[]⟩, .string s], .int .i64 0]) ?_ rfl ⟨?_, Thr.below HB4.out (Nat.le_refl _) _ _ _⟩
              · simp [results, Tryd.results19, go_sem, z0, z1, z2]
              · rw [HV.out]; show _ = Ending.returned (.tuple #[.agg #[_, _, .string (mkS (bs s))], _]); rw [mkS_bs]; rfl
            · have HV := Lib.hid (show tgt (bs m) (bs s) = absL (bs s) by rw [hE, if_neg (by rw [hhd]; simpa using h47)])
              have e4 : ((s[0].toNat : Int) == 47) = false := by
                rw [beq_eq_false_iff_ne]
                intro e
                exact h47 (UInt8.toNat_inj.1 (show s[0].toNat = 47 by omega))
              have hp2 : (0 : Int) < (s.size : Int) := by omega
              have hab2 := fun W => hab W hal
              unfold TgPost tgV at hab2
              have HAB := Lib.hid hab2
              clear hE hab hab2 hal hhd h47 HCl
              go_enter Tryd.func19, Tryd.ntmps19
              go_wp2_with fail
              generalize w.alloc (.cells #[.int .i64 0, .string ⟨#[]⟩, .string ⟨#[]⟩] 32) = W0 at *
              refine (HSV.out _).mono ?_
              rintro e w1 ⟨rfl, hb⟩
              have HN1 := Lib.hid (HN.out.later hb)
              have HB1 := Lib.hid (HB0.out.trans (hb.mono HB0.out.size))
              clear hb
              go_wp2_with fail
              refine (HCT.out _).mono ?_
              rintro e w' ⟨rfl, hw⟩
              subst hw
              go_wp2_with fail
              refine (HAB.out _).mono ?_
              rintro e w4 ⟨rfl, hb⟩
              have HN4 := HN1.out.later hb
              have HB4 := Lib.hid (HB1.out.trans (hb.mono HB1.out.size))
              have q0 := HN4.c0
              have q1 := HN4.c1
              have q2 := HN4.c2
              have r0 := HN4.f0
              have r1 := HN4.f1
              have r2 := HN4.f2
              have hlt := HN4.lt
              have HH := Lib.hid HN4
              clear hb HN4
              generalize absL (bs s) = x at *
              go_wp2_with fail
              obtain ⟨z0, z1, z2⟩ := HH.out.put (.int .i64 x.1) (.string (mkS x.2.1)) (.string (mkS x.2.2))
              refine bodyPost_ret (v := .tuple #[.agg #[.int .i64 x.1, .string (mkS x.2.1), .string (mkS x.2.2)], .int .i64 (tgSt x)]) ?_ rfl ⟨?_, Thr.below HB4.out (Nat.le_refl _) _ _ _⟩
              · simp [results, Tryd.results19, go_sem, z0, z1, z2]
              · rw [HV.out]; rfl
        · have e2 := lit_ne m optionsL ho
          unfold optionsL at e2
          rw [if_neg (fun h => ho h.1)] at hE
          clear hcn ho
          by_cases h47 : s[0] = 47
          · have HV := Lib.hid (show tgt (bs m) (bs s) = (1, [], bs s) by rw [hE, if_pos (by rw [hhd, h47])])
            have e4 : ((s[0].toNat : Int) == 47) = true := by rw [h47]; rfl
            have hp2 : (0 : Int) < (s.size : Int) := by omega
            clear hE hab hal hhd h47
            go_enter Tryd.func19, Tryd.ntmps19
            go_wp2_with fail
            generalize w.alloc (.cells #[.int .i64 0, .string ⟨#[]⟩, .string ⟨#[]⟩] 32) = W0 at *
            refine (HSV.out _).mono ?_
            rintro e w1 ⟨rfl, hb⟩
            have HN1 := Lib.hid (HN.out.later hb)
            have HB1 := Lib.hid (HB0.out.trans (hb.mono HB0.out.size))
            clear hb
            go_wp2_with fail
            refine (HCT.out _).mono ?_
            rintro e w' ⟨rfl, hw⟩
            subst hw
            go_wp2_with fail
            refine (HCl.out _).mono ?_
            rintro e w4 ⟨rfl, hb⟩
            have HN4 := HN1.out.later hb
            have HB4 := Lib.hid (HB1.out.trans (hb.mono HB1.out.size))
            have q0 := HN4.c0
            have q1 := HN4.c1
            have q2 := HN4.c2
            have r0 := HN4.f0
            have r1 := HN4.f1
            have r2 := HN4.f2
            have hlt := HN4.lt
            have HH := Lib.hid HN4
            clear hb HN4
            go_wp2_with fail
            obtain ⟨z0, z1, z2⟩ := HH.out.put (.int .i64 1) (.string ⟨#[]⟩) (.string s)
            refine bodyPost_ret (v := .tuple #[.agg #[.int .i64 1, .string ⟨#[]⟩, .string s], .int .i64 0]) ?_ rfl ⟨?_, Thr.below HB4.out (Nat.le_refl _) _ _ _⟩
            · simp [results, Tryd.results19, go_sem, z0, z1, z2]
            · rw [HV.out]; show _ = Ending.returned (.tuple #[.agg #[_, _, .string (mkS (bs s))], _]); rw [mkS_bs]; rfl
          · have HV := Lib.hid (show tgt (bs m) (bs s) = absL (bs s) by rw [hE, if_neg (by rw [hhd]; simpa using h47)])
            have e4 : ((s[0].toNat : Int) == 47) = false := by
              rw [beq_eq_false_iff_ne]
              intro e
              exact h47 (UInt8.toNat_inj.1 (show s[0].toNat = 47 by omega))
            have hp2 : (0 : Int) < (s.size : Int) := by omega
            have hab2 := fun W => hab W hal
            unfold TgPost tgV at hab2
            have HAB := Lib.hid hab2
            clear hE hab hab2 hal hhd h47 HCl
            go_enter Tryd.func19, Tryd.ntmps19
            go_wp2_with fail
            generalize w.alloc (.cells #[.int .i64 0, .string ⟨#[]⟩, .string ⟨#[]⟩] 32) = W0 at *
            refine (HSV.out _).mono ?_
            rintro e w1 ⟨rfl, hb⟩
            have HN1 := Lib.hid (HN.out.later hb)
            have HB1 := Lib.hid (HB0.out.trans (hb.mono HB0.out.size))
            clear hb
            go_wp2_with fail
            refine (HCT.out _).mono ?_
            rintro e w' ⟨rfl, hw⟩
            subst hw
            go_wp2_with fail
            refine (HAB.out _).mono ?_
            rintro e w4 ⟨rfl, hb⟩
            have HN4 := HN1.out.later hb
            have HB4 := Lib.hid (HB1.out.trans (hb.mono HB1.out.size))
            have q0 := HN4.c0
            have q1 := HN4.c1
            have q2 := HN4.c2
            have r0 := HN4.f0
            have r1 := HN4.f1
            have r2 := HN4.f2
            have hlt := HN4.lt
            have HH := Lib.hid HN4
            clear hb HN4
            generalize absL (bs s) = x at *
            go_wp2_with fail
            obtain ⟨z0, z1, z2⟩ := HH.out.put (.int .i64 x.1) (.string (mkS x.2.1)) (.string (mkS x.2.2))
            refine bodyPost_ret (v := .tuple #[.agg #[.int .i64 x.1, .string (mkS x.2.1), .string (mkS x.2.2)], .int .i64 (tgSt x)]) ?_ rfl ⟨?_, Thr.below HB4.out (Nat.le_refl _) _ _ _⟩
            · simp [results, Tryd.results19, go_sem, z0, z1, z2]
            · rw [HV.out]; rfl
    · rw [h2] at hct2 hok
      have HCT := Lib.hid hct2
      have HV := Lib.hid (show tgt (bs m) (bs s) = (0, [], []) by rw [hE, if_pos (show tgtOk (bs s) = false from hok)])
      clear hE hok hsv hct2 hau hab hal hhd h1 h2 hne HCl
      go_enter Tryd.func19, Tryd.ntmps19
      go_wp2_with fail
      generalize w.alloc (.cells #[.int .i64 0, .string ⟨#[]⟩, .string ⟨#[]⟩] 32) = W0 at *
      refine (HSV.out _).mono ?_
      rintro e w1 ⟨rfl, hb⟩
      have HN1 := Lib.hid (HN.out.later hb)
      have HB1 := Lib.hid (HB0.out.trans (hb.mono HB0.out.size))
      clear hb
      go_wp2_with fail
      refine (HCT.out _).mono ?_
      rintro e w' ⟨rfl, hw⟩
      subst hw
      have HN1b := HN1.out
      have q0 := HN1b.c0
      have q1 := HN1b.c1
      have q2 := HN1b.c2
      have r0 := HN1b.f0
      have r1 := HN1b.f1
      have r2 := HN1b.f2
      have hlt := HN1b.lt
      have HH := Lib.hid HN1b
      clear HN1b
      go_wp2_with fail
      obtain ⟨z0, z1, z2⟩ := HH.out.put (.int .i64 0) (.string ⟨#[]⟩) (.string ⟨#[]⟩)
      refine bodyPost_ret (v := .tuple #[.agg #[.int .i64 0, .string ⟨#[]⟩, .string ⟨#[]⟩], .int .i64 400]) ?_ rfl ⟨?_, Thr.below HB1.out (Nat.le_refl _) _ _ _⟩
      · simp [results, Tryd.results19, go_sem, z0, z1, z2]
      · rw [HV.out]; rfl
end Tk
end Go.Proofs.YtliinjibnikfgaaDoor
