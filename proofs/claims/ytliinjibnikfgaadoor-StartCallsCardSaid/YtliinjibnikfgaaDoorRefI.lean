/- The document's own hosts: an address in brackets; port, Host. -/
import Derived.Test.YtliinjibnikfgaaDoorRefH
namespace Go.Proofs.YtliinjibnikfgaaDoor
open Go.RowKit
namespace Tk

set_option maxHeartbeats 8000000 in
set_option maxRecDepth 100000 in
theorem rname_br (s : ByteArray) (w : World) (hs : s.size ≤ 1099511627) (hp : 0 < s.size) (h91 : s[0] = 91) :
    Calls Tryd.prog 117 #[.string s] w (RI (nmI (bs s)) w) := by
  have hV : nmI (bs s) = if adLen (bs s) = 0 ∨ adLen (bs s) + 1 = s.size ∨ (bs s).getD (adLen (bs s) + 1) 0 ≠ 93 then -1 else (adLen (bs s) : Int) + 2 := by
    unfold nmI; rw [if_pos (by rw [bs_head s hp, h91]), length_bs]
  have HV := Lib.hid hV
  have he := not_empty_of s hp
  have e0 : ((s[0].toNat : Int) == 91) = true := by rw [h91]; rfl
  have hp' : (0 : Int) < (s.size : Int) := by omega
  have hT : ∀ i (h : i < s.size), 1 ≤ i → ((bs s).drop 1).getD (i - 1) 0 = s[i] := by
    intro i h h1
    rw [List.getD, List.getElem?_drop, show 1 + (i - 1) = i by omega]
    have := getD_bs s i h
    rw [List.getD] at this
    exact this
  have hTl : ((bs s).drop 1).length = s.size - 1 := by rw [List.length_drop, length_bs]
  have HT := Lib.hid hT
  have HTl := Lib.hid hTl
  have hadl : adLen (bs s) = (((bs s).drop 1).takeWhile inAddr).length := rfl
  have HAd := Lib.hid hadl
  clear hV h91 hT hTl hadl
  go_enter Tryd.func117, Tryd.ntmps117
  go_wp2_with fail
  go_loop [3] (fun vi => ∃ i : Nat, 1 ≤ i ∧ i ≤ s.size ∧ vi = .int .i64 i ∧ Hid ((((bs s).drop 1).take (i - 1)).all inAddr = true)) (fun vi => s.size - (RowKit.intOf vi).toNat)
  case atStart => exact ⟨1, Nat.le_refl _, by omega, rfl, rfl⟩
  case round =>
    obtain ⟨i, hi1, hi, rfl, hI⟩ := hrel
    by_cases hlt : i < s.size
    · have hnx : (((bs s).drop 1).take (i + 1 - 1)).all inAddr = ((((bs s).drop 1).take (i - 1)).all inAddr && inAddr s[i]) := by
        rw [show i + 1 - 1 = (i - 1) + 1 by omega, take_snoc ((bs s).drop 1) (i - 1) (by rw [HTl.out]; omega), List.all_append, HT.out i hlt hi1]; simp
      have hst : inAddr s[i] = false → adLen (bs s) = i - 1 := fun h => by
        rw [HAd.out]
        exact takeW_next inAddr ((bs s).drop 1) (i - 1) (by rw [HTl.out]; omega) hI.out (by rw [HT.out i hlt hi1]; exact h)
      have hgd := getD_bs s i hlt
      have HGD := Lib.hid hgd
      have HNX := Lib.hid hnx
      have HST := Lib.hid hst
      have hA : inAddr s[i] = (isDig s[i] || decide (65 ≤ s[i].toNat ∧ s[i].toNat ≤ 70) || decide (97 ≤ s[i].toNat ∧ s[i].toNat ≤ 102) || decide (s[i].toNat = 58) || decide (s[i].toNat = 46)) := rfl
      have hdd : isDig s[i] = (decide (48 ≤ s[i].toNat) && decide (s[i].toNat ≤ 57)) := rfl
      have HDg := rDigit_any s[i] w
      clear hnx hst hgd
      cases hd : isDig s[i]
      · rw [hd] at HDg hA hdd
        have HDg2 := Lib.hid HDg
        have HDD := Lib.hid hdd
        have HA := Lib.hid hA
        clear HDg hd hA hdd
        by_cases h0 : 65 ≤ s[i].toNat <;> by_cases h1 : s[i].toNat ≤ 70 <;> by_cases h2 : 97 ≤ s[i].toNat <;> by_cases h3 : s[i].toNat ≤ 102 <;> by_cases h4 : s[i].toNat = 58 <;> by_cases h5 : s[i].toNat = 46
        all_goals
          first
          | omega
          | (first | (have e4 : ((s[i].toNat : Int) == 58) = true := (by rw [beq_iff_eq]; omega)) | (have e4 : ((s[i].toNat : Int) == 58) = false := (by rw [beq_eq_false_iff_ne]; omega))
             first | (have e5 : ((s[i].toNat : Int) == 46) = true := (by rw [beq_iff_eq]; omega)) | (have e5 : ((s[i].toNat : Int) == 46) = false := (by rw [beq_eq_false_iff_ne]; omega))
             first
             | (have hin : inAddr s[i] = true := (by rw [HA.out]; simp; omega)
                have hI2 : Hid ((((bs s).drop 1).take (i + 1 - 1)).all inAddr = true) := (by show _ = _; rw [HNX.out, hI.out, hin]; rfl)
                clear h4 h5 hin
                go_wp2_with fail
                refine HDg2.out.mono ?_
                rintro e w' ⟨rfl, rfl⟩
                go_wp2_with fail
                exact ⟨⟨i + 1, by omega, by omega, by go_num, hI2⟩, by simp [RowKit.intOf]; omega⟩)
             | (have hin : inAddr s[i] = false := (by rw [HA.out, Bool.eq_false_iff]; simp; omega)
                have hlen := HST.out hin
                have hv := HV.out
                rw [hlen] at hv
                have hsz : ((i : Int) == (s.size : Int)) = false := (by rw [beq_eq_false_iff_ne]; omega)
                by_cases hi0 : i = 1
                · have ei : ((i : Int) == 1) = true := (by rw [beq_iff_eq]; omega)
                  have HV2 := Lib.hid (show nmI (bs s) = -1 by rw [hv, if_pos (.inl (by omega))])
                  clear h4 h5 hin hlen hv hi0
                  go_wp2_with fail
                  refine HDg2.out.mono ?_
                  rintro e w' ⟨rfl, rfl⟩
                  go_wp2_with fail
                  go_ret
                  exact ⟨retI (by rw [HV2.out]), rfl⟩
                · have ei : ((i : Int) == 1) = false := (by rw [beq_eq_false_iff_ne]; omega)
                  by_cases h93 : s[i] = 93
                  · have e93 : ((s[i].toNat : Int) != 93) = false := (by rw [h93]; rfl)
                    have HV2 := Lib.hid (show nmI (bs s) = (i : Int) + 1 by
                      rw [hv, if_neg (by
                        rintro (h | h | h)
                        · omega
                        · omega
                        · rw [show i - 1 + 1 = i by omega, HGD.out] at h; exact h h93)]
                      omega)
                    clear h4 h5 hin hlen hv hi0 h93
                    go_wp2_with fail
                    refine HDg2.out.mono ?_
                    rintro e w' ⟨rfl, rfl⟩
                    go_wp2_with fail
                    go_ret
                    exact ⟨retI (by rw [HV2.out]), rfl⟩
                  · have e93 : ((s[i].toNat : Int) != 93) = true := (by
                      rw [bne_iff_ne]
                      intro e
                      exact h93 (UInt8.toNat_inj.1 (show s[i].toNat = 93 by omega)))
                    have HV2 := Lib.hid (show nmI (bs s) = -1 by
                      rw [hv, if_pos (.inr (.inr (by rw [show i - 1 + 1 = i by omega, HGD.out]; exact h93)))])
                    clear h4 h5 hin hlen hv hi0 h93
                    go_wp2_with fail
                    refine HDg2.out.mono ?_
                    rintro e w' ⟨rfl, rfl⟩
                    go_wp2_with fail
                    go_ret
                    exact ⟨retI (by rw [HV2.out]), rfl⟩))
      · rw [hd] at HDg hA
        have hin : inAddr s[i] = true := by rw [hA]; rfl
        have hI2 : Hid ((((bs s).drop 1).take (i + 1 - 1)).all inAddr = true) := by
          show _ = _
          rw [HNX.out, hI.out, hin]; rfl
        have HDg2 := Lib.hid HDg
        clear HDg hd hA hdd hin
        go_wp2_with fail
        refine HDg2.out.mono ?_
        rintro e w' ⟨rfl, rfl⟩
        go_wp2_with fail
        exact ⟨⟨i + 1, by omega, by omega, by go_num, hI2⟩, by simp [RowKit.intOf]; omega⟩
    · have hlen : adLen (bs s) = s.size - 1 := by
        rw [HAd.out]
        have := hI.out
        rw [List.take_of_length_le (by rw [HTl.out]; omega)] at this
        rw [takeW_end inAddr _ this, HTl.out]
      have hv := HV.out
      rw [hlen, if_pos (.inr (.inl (by omega)))] at hv
      have HV2 := Lib.hid hv
      have hsz : ((i : Int) == (s.size : Int)) = true := by rw [beq_iff_eq]; omega
      clear hlen hv
      by_cases hi0 : i = 1
      · have ei : ((i : Int) == 1) = true := by rw [beq_iff_eq]; omega
        clear hi0
        go_wp2_with fail
        go_ret
        exact ⟨retI (by rw [HV2.out]), rfl⟩
      · have ei : ((i : Int) == 1) = false := by rw [beq_eq_false_iff_ne]; omega
        clear hi0
        go_wp2_with fail
        go_ret
        exact ⟨retI (by rw [HV2.out]), rfl⟩

theorem rname_any (s : ByteArray) (w : World) (hs : s.size ≤ 1099511627) :
    Calls Tryd.prog 117 #[.string s] w (RI (nmI (bs s)) w) := by
  by_cases hz : s.size = 0
  · exact rname_empty s w hz
  · have hp : 0 < s.size := by omega
    by_cases h91 : s[0] = 91
    · exact rname_br s w hs hp h91
    · exact rname_plain s w hs hp h91

theorem nmI_le (l : Bs) (h : 0 ≤ nmI l) : (nmI l).toNat ≤ l.length := (nm_is l h).2

set_option maxHeartbeats 8000000 in
set_option maxRecDepth 100000 in
theorem rport_any (s : ByteArray) (w : World) (hs : s.size ≤ 1099511627) :
    Calls Tryd.prog 79 #[.string s] w (RI (ptI (bs s)) w) := by
  have hn := rname_any s w hs
  unfold RI at hn
  have hV : ptI (bs s) = if nmI (bs s) < 0 then -1 else if nmI (bs s) = s.size then 0 else if (bs s).getD (nmI (bs s)).toNat 0 ≠ 58 ∨ 5 < s.size - (nmI (bs s)).toNat - 1 then -1 else if ((bs s).drop ((nmI (bs s)).toNat + 1)).all isDig then ((s.size - (nmI (bs s)).toNat - 1 : Nat) : Int) else -1 := by
    unfold ptI; rw [length_bs]
  by_cases h0 : nmI (bs s) < 0
  · rw [if_pos h0] at hV
    have HV := Lib.hid hV
    have HN := Lib.hid hn
    clear hV hn
    generalize nmI (bs s) = i at *
    go_enter Tryd.func79, Tryd.ntmps79
    go_wp2_with fail
    refine HN.out.mono ?_
    rintro e w' ⟨rfl, rfl⟩
    go_wp2_with fail
    go_ret
    exact ⟨retI (by rw [HV.out]), rfl⟩
  · have hle := nmI_le (bs s) (by omega)
    rw [length_bs] at hle
    rw [if_neg h0] at hV
    obtain ⟨i, hi⟩ : ∃ i : Nat, nmI (bs s) = i := ⟨(nmI (bs s)).toNat, by omega⟩
    rw [hi, Int.toNat_natCast] at hV hle
    rw [hi] at hn
    have HN := Lib.hid hn
    clear h0 hn hi
    by_cases hsz : i = s.size
    · have es : ((i : Int) == (s.size : Int)) = true := by rw [beq_iff_eq]; omega
      rw [if_pos (by omega)] at hV
      have HV := Lib.hid hV
      clear hV hsz
      go_enter Tryd.func79, Tryd.ntmps79
      go_wp2_with fail
      refine HN.out.mono ?_
      rintro e w' ⟨rfl, rfl⟩
      go_wp2_with fail
      go_ret
      exact ⟨retI (by rw [HV.out]), rfl⟩
    · have es : ((i : Int) == (s.size : Int)) = false := by rw [beq_eq_false_iff_ne]; omega
      rw [if_neg (by omega)] at hV
      have hlt : i < s.size := by omega
      rw [getD_bs s i hlt] at hV
      clear hsz
      by_cases h58 : s[i] = 58
      · have e58 : ((s[i].toNat : Int) != 58) = false := by rw [h58]; rfl
        by_cases h5 : 5 < s.size - i - 1
        · rw [if_pos (.inr h5)] at hV
          have HV := Lib.hid hV
          have h5' : (5 : Int) < (s.size : Int) - (i : Int) - 1 := by omega
          clear hV h58 h5
          go_enter Tryd.func79, Tryd.ntmps79
          go_wp2_with fail
          refine HN.out.mono ?_
          rintro e w' ⟨rfl, rfl⟩
          go_wp2_with fail
          go_ret
          exact ⟨retI (by rw [HV.out]), rfl⟩
        · rw [if_neg (by rintro (h | h); exact h h58; exact h5 h)] at hV
          have HV := Lib.hid hV
          have h5' : ¬ (5 : Int) < (s.size : Int) - (i : Int) - 1 := by omega
          clear hV h58 h5
          go_enter Tryd.func79, Tryd.ntmps79
          go_wp2_with fail
          refine HN.out.mono ?_
          rintro e w' ⟨rfl, rfl⟩
          go_wp2_with fail
          go_loop [5] (fun vk => ∃ k : Nat, i + 1 ≤ k ∧ k ≤ s.size ∧ vk = .int .i64 k ∧ Hid (((bs s).drop (i + 1)).all isDig = ((bs s).drop k).all isDig)) (fun vk => s.size - (RowKit.intOf vk).toNat)
          case atStart => exact ⟨i + 1, Nat.le_refl _, by omega, by go_num, rfl⟩
          case round =>
            obtain ⟨k, hk1, hk, rfl, hK⟩ := hrel
            by_cases hk2 : k < s.size
            · have D := Lib.hid (bs_drop s k hk2)
              have HC := rDigit_any s[k] w
              cases hd : isDig s[k]
              · rw [hd] at HC
                have hv := HV.out
                rw [hK.out, D.out, List.all_cons, hd, Bool.false_and, if_neg (by simp)] at hv
                have HV2 := Lib.hid hv
                have HC2 := Lib.hid HC
                clear HC hd hv
                go_wp2_with fail
                refine HC2.out.mono ?_
                rintro e w' ⟨rfl, rfl⟩
                go_wp2_with fail
                go_ret
                exact ⟨retI (by rw [HV2.out]), rfl⟩
              · rw [hd] at HC
                have hK2 : Hid (((bs s).drop (i + 1)).all isDig = ((bs s).drop (k + 1)).all isDig) := by
                  show _ = _
                  rw [hK.out, D.out, List.all_cons, hd, Bool.true_and]
                have HC2 := Lib.hid HC
                clear HC hd
                go_wp2_with fail
                refine HC2.out.mono ?_
                rintro e w' ⟨rfl, rfl⟩
                go_wp2_with fail
                exact ⟨⟨k + 1, by omega, by omega, by go_num, hK2⟩, by simp [RowKit.intOf]; omega⟩
            · have hv := HV.out
              rw [hK.out, List.drop_eq_nil_of_le (by rw [length_bs]; omega), List.all_nil, if_pos rfl] at hv
              have hv2 : ptI (bs s) = (s.size : Int) - (i : Int) - 1 := by rw [hv]; omega
              have HV2 := Lib.hid hv2
              clear hv hv2
              go_wp2_with fail
              go_ret
              exact ⟨retI (by rw [HV2.out]), rfl⟩
      · have e58 : ((s[i].toNat : Int) != 58) = true := by
          rw [bne_iff_ne]
          intro e
          exact h58 (UInt8.toNat_inj.1 (show s[i].toNat = 58 by omega))
        rw [if_pos (.inl h58)] at hV
        have HV := Lib.hid hV
        clear hV h58
        go_enter Tryd.func79, Tryd.ntmps79
        go_wp2_with fail
        refine HN.out.mono ?_
        rintro e w' ⟨rfl, rfl⟩
        go_wp2_with fail
        go_ret
        exact ⟨retI (by rw [HV.out]), rfl⟩

set_option maxHeartbeats 2000000 in
theorem rhost_any (s : ByteArray) (w : World) (hs : s.size ≤ 1099511627) :
    Calls Tryd.prog 23 #[.string s] w fun e w' => e = .returned (.bool (hostL (bs s))) ∧ w = w' := by
  have hp := rport_any s w hs
  unfold RI at hp
  have HV := Lib.hid (host_pt (bs s))
  have HP := Lib.hid hp
  clear hp
  generalize ptI (bs s) = v at *
  by_cases hv : 0 ≤ v
  all_goals
    go_enter Tryd.func23, Tryd.ntmps23
    go_wp2_with fail
    refine HP.out.mono ?_
    rintro e w' ⟨rfl, rfl⟩
    go_wp2_with fail
    go_ret
    exact ⟨retB2 (by rw [HV.out] <;> simp [hv]), rfl⟩
end Tk
end Go.Proofs.YtliinjibnikfgaaDoor
