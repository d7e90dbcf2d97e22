/- start's hosts. -/
import Derived.Test.YtliinjibnikfgaaDoorStaC
namespace Go.Proofs.YtliinjibnikfgaaDoor
open Go.RowKit
namespace Tk

theorem cutl1 (c : UInt8) (l : Bs) : (cutL c l).1.length ≤ l.length := by
  unfold cutL
  split
  · exact (List.takeWhile_sublist (· != c) (l := l)).length_le
  · exact Nat.le_refl _
theorem cutl2 (c : UInt8) (l : Bs) : (cutL c l).2.1.length ≤ l.length := by
  unfold cutL
  split
  · refine Nat.le_trans (by simp) ((List.dropWhile_sublist (· != c) (l := l)).length_le)
  · simp

def CutPPost (l : Bs) (w : World) (e : Ending) (w' : World) : Prop := e = .returned (.tuple #[.string (mkS (hostN l)), .string (mkS (hostP l))]) ∧ Below w.heap.size w w'

set_option maxHeartbeats 1000000 in
set_option maxRecDepth 100000 in
theorem cutPort_any (s : ByteArray) (w : World) (hs : s.size ≤ 1099511627) :
    Calls Tryd.prog 61 #[.string s] w (CutPPost (bs s) w) := by
  have hx := Tryd.strings_IndexByte s 93 w
  have hx2 : Calls Tryd.prog 106 #[.string s, .int .u8 93] w fun e w' => e = .returned (.int .i64 (Lib.indexByte (bs s) 93)) ∧ w' = w := hx
  have hg := Lib.indexByte_ge (bs s) 93
  have hi : Lib.indexByte (bs s) 93 = (cIn (bs s) : Int) - 1 := by unfold cIn; omega
  have hle := cIn_le (bs s)
  rw [length_bs] at hle
  have hN : hostN (bs s) = (bs s).take (cIn (bs s) + (cutL 58 ((bs s).drop (cIn (bs s)))).1.length) := rfl
  have hP : hostP (bs s) = (cutL 58 ((bs s).drop (cIn (bs s)))).2.1 := rfl
  have hl := cutl1 58 ((bs s).drop (cIn (bs s)))
  rw [List.length_drop, length_bs] at hl
  rw [hi] at hx2
  generalize cIn (bs s) = i at *
  have hd : bs (s.extract i s.size) = (bs s).drop i := by
    rw [bs_extract, List.take_of_length_le (by rw [List.length_drop, length_bs]; exact Nat.le_refl _)]
  have hez : (s.extract i s.size).size = s.size - i := by rw [← length_bs, hd, List.length_drop, length_bs]
  have hc := cutB_any (s.extract i s.size) 58 w (by omega)
  rw [hd] at hc
  have htk : mkS ((bs s).take (i + (cutL 58 ((bs s).drop i)).1.length)) = s.extract 0 (i + (cutL 58 ((bs s).drop i)).1.length) := by rw [extract_mkS]; simp
  have hz1 : (mkS (cutL 58 ((bs s).drop i)).1).size = (cutL 58 ((bs s).drop i)).1.length := size_mkS _
  rw [← hN] at htk
  have HZ := Lib.hid hz1
  generalize (cutL 58 ((bs s).drop i)).1.length = k at *
  rw [← hP] at hc
  generalize mkS (cutL 58 ((bs s).drop i)).1 = A at *
  generalize (cutL 58 ((bs s).drop i)).2.2 = f at *
  have HX := Lib.hid hx2
  have HC := Lib.hid hc
  have HT := Lib.hid htk
  have hzz : A.size = k := HZ.out
  clear hx hx2 hg hi hN hP hd hez hc htk hz1 HZ
  subst hzz
  go_enter Tryd.func61, Tryd.ntmps61
  go_wp2_with fail
  refine HX.out.mono ?_
  rintro e w' ⟨rfl, rfl⟩
  go_wp2_with fail
  refine HC.out.mono ?_
  rintro e w2 ⟨rfl, hb⟩
  have HB := Lib.hid hb
  clear hb
  go_wp2_with fail
  go_ret2
  exact ⟨by rw [HT.out]; rfl, HB.out⟩

theorem hostN_len (l : Bs) : (hostN l).length ≤ l.length := by
  unfold hostN; rw [List.length_take]; omega
theorem hostP_len (l : Bs) : (hostP l).length ≤ l.length := by
  unfold hostP
  have := cutl2 58 (l.drop (cIn l))
  rw [List.length_drop] at this
  omega

theorem trim_pre (n : Bs) : Lib.trimPrefix n [91] = if Lib.hasPrefix n [91] then n.drop 1 else n := rfl
theorem trim_suf (n : Bs) : Lib.trimSuffix n [93] = if Lib.hasSuffix n [93] then n.take (n.length - 1) else n := rfl

set_option maxHeartbeats 4000000 in
set_option maxRecDepth 100000 in
theorem host_any (s : ByteArray) (w : World) (hs : s.size ≤ 1099511627) :
    Calls Tryd.prog 16 #[.string s] w fun e w' => e = .returned (.bool (hostL (bs s))) ∧ Below w.heap.size w w' := by
  have HC := Lib.hid (cutPort_any s w hs)
  unfold CutPPost at HC
  have hn := hostN_len (bs s)
  have hp := hostP_len (bs s)
  rw [length_bs] at hn hp
  have hpz := size_mkS (hostP (bs s))
  have hnz := size_mkS (hostN (bs s))
  have hV : hostL (bs s) = (portOk (hostP (bs s)) && nameOk (hostN (bs s))) := rfl
  have hdg := fun W => allDigit_any (mkS (hostP (bs s))) W (by rw [hpz]; omega)
  rw [bs_mkS] at hdg
  have hpre := fun W => Tryd.strings_CutPrefix (mkS (hostN (bs s))) ⟨#[91]⟩ W
  have hpre2 : ∀ W, Calls Tryd.prog 64 #[.string (mkS (hostN (bs s))), .string ⟨#[91]⟩] W fun e w' => e = .returned (.tuple #[.string (mkS (Lib.trimPrefix (hostN (bs s)) [91])), .bool (Lib.hasPrefix (hostN (bs s)) [91])]) ∧ w' = W := hpre
  clear hpre
  by_cases h5 : (hostP (bs s)).length ≤ 5
  · cases hd : (hostP (bs s)).all isDig
    · rw [hd] at hdg
      have hv : hostL (bs s) = false := by rw [hV]; unfold portOk; rw [hd]; simp
      have HV := Lib.hid hv
      have HD := Lib.hid hdg
      have h5' : ¬ (5 : Int) < ((mkS (hostP (bs s))).size : Int) := by omega
      clear hV hv hdg hpre2 hd h5 hpz hnz hn hp
      generalize mkS (hostP (bs s)) = P at *
      generalize mkS (hostN (bs s)) = N at *
      go_enter Tryd.func16, Tryd.ntmps16
      go_wp2_with fail
      refine HC.out.mono ?_
      rintro e w' ⟨rfl, hb⟩
      have HB := Lib.hid hb
      clear hb
      go_wp2_with fail
      refine (HD.out _).mono ?_
      rintro e w2 ⟨rfl, hb⟩
      have HB2 := Lib.hid (HB.out.trans (hb.mono HB.out.size))
      clear hb
      go_wp2_with fail
      go_ret
      exact ⟨retB (by rw [HV.out]), HB2.out⟩
    · rw [hd] at hdg
      have hv : hostL (bs s) = nameOk (hostN (bs s)) := by rw [hV]; unfold portOk; rw [hd, decide_eq_true h5]; rfl
      have HD := Lib.hid hdg
      have h5' : ¬ (5 : Int) < ((mkS (hostP (bs s))).size : Int) := by omega
      cases hq : Lib.hasPrefix (hostN (bs s)) [91]
      · rw [trim_pre, hq] at hpre2
        have hv2 : hostL (bs s) = someL inName (hostN (bs s)) := by rw [hv]; unfold nameOk; rw [hq]; rfl
        have hsm := fun W => someName_any (mkS (hostN (bs s))) W (by rw [hnz]; omega)
        rw [bs_mkS] at hsm
        have HS := Lib.hid hsm
        have HV := Lib.hid hv2
        have HP := Lib.hid hpre2
        clear hV hv hv2 hdg hpre2 hd h5 hpz hnz hn hp hq hsm
        generalize mkS (hostP (bs s)) = P at *
        go_enter Tryd.func16, Tryd.ntmps16
        go_wp2_with fail
        refine HC.out.mono ?_
        rintro e w' ⟨rfl, hb⟩
        have HB := Lib.hid hb
        clear hb
        go_wp2_with fail
        refine (HD.out _).mono ?_
        rintro e w2 ⟨rfl, hb⟩
        have HB2 := Lib.hid (HB.out.trans (hb.mono HB.out.size))
        clear hb
        go_wp2_with fail
        refine (HP.out _).mono ?_
        rintro e w' ⟨rfl, rfl⟩
        go_wp2_with fail
        refine (HS.out _).mono ?_
        rintro e w3 ⟨rfl, hb⟩
        have HB3 := Lib.hid (HB2.out.trans (hb.mono HB2.out.size))
        clear hb
        go_wp2_with fail
        go_ret
        exact ⟨retB (by rw [HV.out]), HB3.out⟩
      · rw [trim_pre, hq] at hpre2
        have hv2 : hostL (bs s) = brOk (hostN (bs s)) := by rw [hv]; unfold nameOk; rw [hq]; rfl
        have hdl : ((hostN (bs s)).drop 1).length ≤ s.size := by rw [List.length_drop]; omega
        have hbr : brOk (hostN (bs s)) = (Lib.hasSuffix ((hostN (bs s)).drop 1) [93] && someL inAddr (((hostN (bs s)).drop 1).take (((hostN (bs s)).drop 1).length - 1))) := rfl
        rw [hbr] at hv2
        have hpre3 : ∀ W, Calls Tryd.prog 64 #[.string (mkS (hostN (bs s))), .string ⟨#[91]⟩] W fun e w' => e = .returned (.tuple #[.string (mkS ((hostN (bs s)).drop 1)), .bool true]) ∧ w' = W := hpre2
        generalize (hostN (bs s)).drop 1 = D at *
        have hsuf := fun W => Tryd.strings_CutSuffix (mkS D) ⟨#[93]⟩ W (by rw [size_mkS]; omega)
        have hsuf2 : ∀ W, Calls Tryd.prog 65 #[.string (mkS D), .string ⟨#[93]⟩] W fun e w' => e = .returned (.tuple #[.string (mkS (Lib.trimSuffix D [93])), .bool (Lib.hasSuffix D [93])]) ∧ w' = W := hsuf
        cases hf : Lib.hasSuffix D [93]
        · rw [trim_suf, hf] at hsuf2
          have hv3 : hostL (bs s) = false := by rw [hv2, hf]; rfl
          have HV := Lib.hid hv3
          have HP := Lib.hid hpre3
          have HU := Lib.hid hsuf2
          clear hV hv hv2 hv3 hbr hdg hpre2 hpre3 hsuf hsuf2 hd h5 hpz hnz hn hp hq hdl hf
          generalize mkS (hostP (bs s)) = P at *
          generalize mkS (hostN (bs s)) = N at *
          go_enter Tryd.func16, Tryd.ntmps16
          go_wp2_with fail
          refine HC.out.mono ?_
          rintro e w' ⟨rfl, hb⟩
          have HB := Lib.hid hb
          clear hb
          go_wp2_with fail
          refine (HD.out _).mono ?_
          rintro e w2 ⟨rfl, hb⟩
          have HB2 := Lib.hid (HB.out.trans (hb.mono HB.out.size))
          clear hb
          go_wp2_with fail
          refine (HP.out _).mono ?_
          rintro e w' ⟨rfl, rfl⟩
          go_wp2_with fail
          refine (HU.out _).mono ?_
          rintro e w' ⟨rfl, rfl⟩
          go_wp2_with fail
          go_ret
          exact ⟨retB (by rw [HV.out]), HB2.out⟩
        · rw [trim_suf, hf] at hsuf2
          have hv3 : hostL (bs s) = someL inAddr (D.take (D.length - 1)) := by rw [hv2, hf]; rfl
          have hsuf3 : ∀ W, Calls Tryd.prog 65 #[.string (mkS D), .string ⟨#[93]⟩] W fun e w' => e = .returned (.tuple #[.string (mkS (D.take (D.length - 1))), .bool true]) ∧ w' = W := hsuf2
          have hsm := fun W => someAddr_any (mkS (D.take (D.length - 1))) W (by rw [size_mkS, List.length_take]; omega)
          rw [bs_mkS] at hsm
          have HS := Lib.hid hsm
          have HV := Lib.hid hv3
          have HP := Lib.hid hpre3
          have HU := Lib.hid hsuf3
          clear hV hv hv2 hv3 hbr hdg hpre2 hpre3 hsuf hsuf2 hsuf3 hd h5 hpz hnz hn hp hq hdl hf hsm
          generalize D.take (D.length - 1) = E at *
          generalize mkS (hostP (bs s)) = P at *
          generalize mkS (hostN (bs s)) = N at *
          go_enter Tryd.func16, Tryd.ntmps16
          go_wp2_with fail
          refine HC.out.mono ?_
          rintro e w' ⟨rfl, hb⟩
          have HB := Lib.hid hb
          clear hb
          go_wp2_with fail
          refine (HD.out _).mono ?_
          rintro e w2 ⟨rfl, hb⟩
          have HB2 := Lib.hid (HB.out.trans (hb.mono HB.out.size))
          clear hb
          go_wp2_with fail
          refine (HP.out _).mono ?_
          rintro e w' ⟨rfl, rfl⟩
          go_wp2_with fail
          refine (HU.out _).mono ?_
          rintro e w' ⟨rfl, rfl⟩
          go_wp2_with fail
          refine (HS.out _).mono ?_
          rintro e w3 ⟨rfl, hb⟩
          have HB3 := Lib.hid (HB2.out.trans (hb.mono HB2.out.size))
          clear hb
          go_wp2_with fail
          go_ret
          exact ⟨retB (by rw [HV.out]), HB3.out⟩
  · have hv : hostL (bs s) = false := by rw [hV]; unfold portOk; rw [decide_eq_false h5]; rfl
    have HV := Lib.hid hv
    have h5' : (5 : Int) < ((mkS (hostP (bs s))).size : Int) := by omega
    clear hV hv hdg hpre2 h5 hpz hnz hn hp
    generalize mkS (hostP (bs s)) = P at *
    generalize mkS (hostN (bs s)) = N at *
    go_enter Tryd.func16, Tryd.ntmps16
    go_wp2_with fail
    refine HC.out.mono ?_
    rintro e w' ⟨rfl, hb⟩
    have HB := Lib.hid hb
    clear hb
    go_wp2_with fail
    go_ret
    exact ⟨retB (by rw [HV.out]), HB.out⟩
end Tk
end Go.Proofs.YtliinjibnikfgaaDoor
