/- RefA RefU RcB RefQ Uq0, put together. -/
import Derived.Test.YtnbipbeeengiaaaGreatDoorQK
import Derived.Test.YtnbipbeeengiaaaGreatDoorQJ
import Derived.Test.YtnbipbeeengiaaaGreatDoorQI
import Derived.Test.YtnbipbeeengiaaaGreatDoorQF
import Derived.Laws.OwnMore
namespace Go.Proofs.YtnbipbeeengiaaaGreatDoor
open Go.RowKit
namespace Tk

theorem retB2 {a b : Bool} (h : a = b) : Ending.returned (.bool a) = .returned (.bool b) := by rw [h]

set_option maxHeartbeats 400000 in
theorem rDigit_any (c : UInt8) (w : World) :
    Calls Tryz.prog 86 #[.int .u8 (c.toNat : Int)] w fun e w' => e = .returned (.bool (isDig c)) ∧ w = w' := by
  have hlt := c.toNat_lt
  have HD := Lib.hid (show isDig c = (decide (48 ≤ c.toNat) && decide (c.toNat ≤ 57)) from rfl)
  generalize c.toNat = n at *
  by_cases h0 : 48 ≤ n <;> by_cases h1 : n ≤ 57
  all_goals
    first
    | omega
    | (go_enter Tryz.func86, Tryz.ntmps86
       go_wp2_with fail
       go_ret
       exact ⟨retB2 (by rw [HD.out, Bool.eq_iff_iff]; simp; omega), rfl⟩)

set_option maxHeartbeats 1000000 in
theorem rLetter_any (c : UInt8) (w : World) :
    Calls Tryz.prog 85 #[.int .u8 (c.toNat : Int)] w fun e w' => e = .returned (.bool (isLet c)) ∧ w = w' := by
  have hlt := c.toNat_lt
  have HD := Lib.hid (show isLet c = (decide (65 ≤ c.toNat ∧ c.toNat ≤ 90) || decide (97 ≤ c.toNat ∧ c.toNat ≤ 122)) from rfl)
  generalize c.toNat = n at *
  by_cases h0 : 65 ≤ n <;> by_cases h1 : n ≤ 90 <;> by_cases h2 : 97 ≤ n <;> by_cases h3 : n ≤ 122
  all_goals
    first
    | omega
    | (go_enter Tryz.func85, Tryz.ntmps85
       go_wp2_with fail
       go_ret
       exact ⟨retB2 (by rw [HD.out, Bool.eq_iff_iff]; simp; omega), rfl⟩)

set_option maxHeartbeats 1000000 in
theorem rIn_any (c : UInt8) (s : ByteArray) (w : World) (hs : s.size ≤ 1099511627776) :
    Calls Tryz.prog 87 #[.int .u8 (c.toNat : Int), .string s] w fun e w' => e = .returned (.bool ((bs s).contains c)) ∧ w = w' := by
  go_enter Tryz.func87, Tryz.ntmps87
  go_wp2_with fail
  go_loop [5] (fun v => ∃ i : Nat, i ≤ s.size ∧ v = .int .i64 i ∧ Hid ((bs s).contains c = ((bs s).drop i).contains c)) (fun v => s.size - (RowKit.intOf v).toNat)
  case atStart => exact ⟨0, Nat.zero_le _, rfl, rfl⟩
  case round =>
    obtain ⟨i, hi, rfl, hd⟩ := hrel
    by_cases hlt : i < s.size
    · have D := Lib.hid (bs_drop s i hlt)
      by_cases hc : s[i] = c
      · have e1 : ((s[i].toNat : Int) == (c.toNat : Int)) = true := by rw [hc]; simp
        have fin : (bs s).contains c = true := by rw [hd.out, D.out, List.contains_cons, hc]; simp
        have HF := Lib.hid fin
        clear fin hc
        go_wp2_with fail
        go_ret
        exact ⟨retB2 (by have h := HF.out; simp at h; simp [h]), rfl⟩
      · have e1 : ((s[i].toNat : Int) == (c.toNat : Int)) = false := by
          rw [beq_eq_false_iff_ne]
          intro e
          exact hc (UInt8.toNat_inj.1 (by omega))
        have nx : (bs s).contains c = ((bs s).drop (i + 1)).contains c := by
          rw [hd.out, D.out, List.contains_cons]
          have : (c == s[i]) = false := beq_eq_false_iff_ne.2 (fun e => hc e.symm)
          rw [this, Bool.false_or]
        have HX := Lib.hid nx
        clear nx hc
        go_wp2_with fail
        exact ⟨⟨i + 1, by omega, by go_num, HX⟩, by simp [RowKit.intOf]; omega⟩
    · have fin : (bs s).contains c = false := by rw [hd.out, List.drop_eq_nil_of_le (by rw [length_bs]; omega)]; rfl
      have HF := Lib.hid fin
      clear fin
      go_wp2_with fail
      go_ret
      exact ⟨retB2 (by have h := HF.out; simp at h; simp [h]), rfl⟩

def tmarks : Bs := [33, 35, 36, 37, 38, 39, 42, 43, 45, 46, 94, 95, 96, 124, 126]
theorem kind_tchar (c : UInt8) : decide (2 ≤ kindOf c.toNat) = (isLet c || isDig c || tmarks.contains c) := by
  have := u8_all (fun c => decide (2 ≤ kindOf c.toNat) == (isLet c || isDig c || tmarks.contains c)) (by decide +kernel) c
  simpa using this

set_option maxHeartbeats 1000000 in
theorem rTchar_any (c : UInt8) (w : World) :
    Calls Tryz.prog 58 #[.int .u8 (c.toNat : Int)] w fun e w' => e = .returned (.bool (decide (2 ≤ kindOf c.toNat))) ∧ w = w' := by
  have HL := rLetter_any c w
  have HD := rDigit_any c w
  have hx := rIn_any c ⟨#[33, 35, 36, 37, 38, 39, 42, 43, 45, 46, 94, 95, 96, 124, 126]⟩ w (by decide)
  have hx2 : Calls Tryz.prog 87 #[.int .u8 (c.toNat : Int), .string ⟨#[33, 35, 36, 37, 38, 39, 42, 43, 45, 46, 94, 95, 96, 124, 126]⟩] w fun e w' => e = .returned (.bool (tmarks.contains c)) ∧ w = w' := hx
  have HX := Lib.hid hx2
  have HN := Lib.hid (kind_tchar c)
  clear hx hx2
  generalize tmarks.contains c = tm at *
  cases hl : isLet c
  · rw [hl] at HL HN
    have HL2 := Lib.hid HL
    clear HL
    cases hd : isDig c
    · rw [hd] at HD HN
      have HD2 := Lib.hid HD
      clear HD hl hd
      go_enter Tryz.func58, Tryz.ntmps58
      go_wp2_with fail
      refine HL2.out.mono ?_
      rintro e w' ⟨rfl, rfl⟩
      go_wp2_with fail
      refine HD2.out.mono ?_
      rintro e w' ⟨rfl, rfl⟩
      go_wp2_with fail
      refine HX.out.mono ?_
      rintro e w' ⟨rfl, rfl⟩
      go_wp2_with fail
      go_ret
      exact ⟨retB2 (by rw [HN.out]; rfl), rfl⟩
    · rw [hd] at HD HN
      have HD2 := Lib.hid HD
      clear HD hl hd
      go_enter Tryz.func58, Tryz.ntmps58
      go_wp2_with fail
      refine HL2.out.mono ?_
      rintro e w' ⟨rfl, rfl⟩
      go_wp2_with fail
      refine HD2.out.mono ?_
      rintro e w' ⟨rfl, rfl⟩
      go_wp2_with fail
      go_ret
      exact ⟨retB2 (by rw [HN.out]; rfl), rfl⟩
  · rw [hl] at HL HN
    have HL2 := Lib.hid HL
    clear HL hl HD
    go_enter Tryz.func58, Tryz.ntmps58
    go_wp2_with fail
    refine HL2.out.mono ?_
    rintro e w' ⟨rfl, rfl⟩
    go_wp2_with fail
    go_ret
    exact ⟨retB2 (by rw [HN.out]; rfl), rfl⟩

set_option maxHeartbeats 1000000 in
theorem rToken_any (s : ByteArray) (w : World) (hs : s.size ≤ 1099511627776) :
    Calls Tryz.prog 17 #[.string s] w fun e w' => e = .returned (.bool (tokL (bs s))) ∧ w = w' := by
  have hV : tokL (bs s) = (!(bs s).isEmpty && allL 2 (bs s)) := rfl
  have HV := Lib.hid hV
  clear hV
  go_enter Tryz.func17, Tryz.ntmps17
  go_wp2_with fail
  go_loop [3] (fun v => ∃ i : Nat, i ≤ s.size ∧ v = .int .i64 i ∧ Hid (allL 2 (bs s) = allL 2 ((bs s).drop i))) (fun v => s.size - (RowKit.intOf v).toNat)
  case atStart => exact ⟨0, Nat.zero_le _, rfl, rfl⟩
  case round =>
    obtain ⟨i, hi, rfl, hd⟩ := hrel
    by_cases hlt : i < s.size
    · have D := Lib.hid (bs_drop s i hlt)
      have HC := rTchar_any s[i] w
      cases hk : decide (2 ≤ kindOf s[i].toNat)
      · rw [hk] at HC
        have fin : tokL (bs s) = false := by rw [HV.out, hd.out, D.out, allL_cons, hk]; simp
        have HF := Lib.hid fin
        have HC2 := Lib.hid HC
        clear fin HC hk
        go_wp2_with fail
        refine HC2.out.mono ?_
        rintro e w' ⟨rfl, rfl⟩
        go_wp2_with fail
        go_ret
        exact ⟨retB2 (by rw [HF.out]), rfl⟩
      · rw [hk] at HC
        have nx : allL 2 (bs s) = allL 2 ((bs s).drop (i + 1)) := by rw [hd.out, D.out, allL_cons, hk, Bool.true_and]
        have HX := Lib.hid nx
        have HC2 := Lib.hid HC
        clear nx HC hk
        go_wp2_with fail
        refine HC2.out.mono ?_
        rintro e w' ⟨rfl, rfl⟩
        go_wp2_with fail
        exact ⟨⟨i + 1, by omega, by go_num, HX⟩, by simp [RowKit.intOf]; omega⟩
    · have ha : allL 2 (bs s) = true := by rw [hd.out, List.drop_eq_nil_of_le (by rw [length_bs]; omega)]; rfl
      have fin : tokL (bs s) = !(bs s).isEmpty := by rw [HV.out, ha]; simp
      cases he : (bs s).isEmpty
      · have he2 : s.toList.isEmpty = false := by rw [toList_bs]; exact he
        have HF := Lib.hid (show tokL (bs s) = true by rw [fin, he]; rfl)
        clear fin ha he
        go_wp2_with fail
        go_ret
        exact ⟨retB2 (by rw [HF.out] <;> first | rfl | simp), rfl⟩
      · have he2 : s.toList.isEmpty = true := by rw [toList_bs]; exact he
        have HF := Lib.hid (show tokL (bs s) = false by rw [fin, he]; rfl)
        clear fin ha he
        go_wp2_with fail
        go_ret
        exact ⟨retB2 (by rw [HF.out] <;> first | rfl | simp), rfl⟩

theorem kind_char8 (c : UInt8) : decide (1 ≤ kindOf c.toNat) = (decide (c.toNat = 9) || (decide (32 ≤ c.toNat) && decide (c.toNat ≤ 126)) || decide (128 ≤ c.toNat)) := by
  have := u8_all (fun c => decide (1 ≤ kindOf c.toNat) == (decide (c.toNat = 9) || (decide (32 ≤ c.toNat) && decide (c.toNat ≤ 126)) || decide (128 ≤ c.toNat))) (by decide +kernel) c
  simpa using this

set_option maxHeartbeats 1000000 in
theorem rChar_any (c : UInt8) (w : World) :
    Calls Tryz.prog 138 #[.int .u8 (c.toNat : Int)] w fun r w' => r = .returned (.bool (decide (1 ≤ kindOf c.toNat))) ∧ w = w' := by
  have hlt := c.toNat_lt
  have HD := Lib.hid (kind_char8 c)
  generalize decide (1 ≤ kindOf c.toNat) = kb at *
  generalize c.toNat = n at *
  by_cases h9 : n = 9 <;> by_cases h0 : 32 ≤ n <;> by_cases h1 : n ≤ 126 <;> by_cases h2 : 128 ≤ n
  all_goals
    first
    | omega
    | ((first | (have e9 : ((n : Int) == 9) = true := (by rw [beq_iff_eq]; omega)) | (have e9 : ((n : Int) == 9) = false := (by rw [beq_eq_false_iff_ne]; omega)))
       have H9 := Lib.hid h9
       clear h9
       go_enter Tryz.func138, Tryz.ntmps138
       go_wp2_with fail
       go_ret
       have h9 := H9.out
       exact ⟨retB2 (by rw [HD.out, Bool.eq_iff_iff]; simp; omega), rfl⟩)

set_option maxHeartbeats 1000000 in
theorem rChars_any (s : ByteArray) (w : World) (hs : s.size ≤ 1099511627776) :
    Calls Tryz.prog 93 #[.string s] w fun r w' => r = .returned (.bool (allL 1 (bs s))) ∧ w = w' := by
  go_enter Tryz.func93, Tryz.ntmps93
  go_wp2_with fail
  go_loop [3] (fun v => ∃ i : Nat, i ≤ s.size ∧ v = .int .i64 i ∧ Hid (allL 1 (bs s) = allL 1 ((bs s).drop i))) (fun v => s.size - (RowKit.intOf v).toNat)
  case atStart => exact ⟨0, Nat.zero_le _, rfl, rfl⟩
  case round =>
    obtain ⟨i, hi, rfl, hd⟩ := hrel
    by_cases hlt : i < s.size
    · have D := Lib.hid (bs_drop s i hlt)
      have HC := rChar_any s[i] w
      cases hk : decide (1 ≤ kindOf s[i].toNat)
      · rw [hk] at HC
        have fin : allL 1 (bs s) = false := by rw [hd.out, D.out, allL_cons, hk]; rfl
        have HF := Lib.hid fin
        have HC2 := Lib.hid HC
        clear fin HC hk
        go_wp2_with fail
        refine HC2.out.mono ?_
        rintro e w' ⟨rfl, rfl⟩
        go_wp2_with fail
        go_ret
        exact ⟨by rw [HF.out]; rfl, rfl⟩
      · rw [hk] at HC
        have nx : allL 1 (bs s) = allL 1 ((bs s).drop (i + 1)) := by rw [hd.out, D.out, allL_cons, hk, Bool.true_and]
        have HX := Lib.hid nx
        have HC2 := Lib.hid HC
        clear nx HC hk
        go_wp2_with fail
        refine HC2.out.mono ?_
        rintro e w' ⟨rfl, rfl⟩
        go_wp2_with fail
        exact ⟨⟨i + 1, by omega, by go_num, HX⟩, by simp [RowKit.intOf]; omega⟩
    · have fin : allL 1 (bs s) = true := by rw [hd.out, List.drop_eq_nil_of_le (by rw [length_bs]; omega)]; rfl
      have HF := Lib.hid fin
      clear fin
      go_wp2_with fail
      go_ret
      exact ⟨by rw [HF.out]; rfl, rfl⟩
end Tk
end Go.Proofs.YtnbipbeeengiaaaGreatDoor
namespace Go.Proofs.YtnbipbeeengiaaaGreatDoor
open Go.RowKit
namespace Tk

def RNum (l : Bs) (w : World) (e : Ending) (w' : World) : Prop := e = .returned (.tuple #[.int .i64 (numL l).1, .int .i64 (numL l).2]) ∧ w = w'

theorem valFrom_snoc (a : Nat) (l : Bs) (c : UInt8) : valFrom a (l ++ [c]) = valFrom a l * 10 + (c.toNat - 48) := by simp [valFrom]
theorem valFrom_take (l : Bs) (i : Nat) : valFrom 0 (l.take i) ≤ valFrom 0 l := by
  have e : l = l.take i ++ l.drop i := (List.take_append_drop i l).symm
  have := valFrom_ge (l.drop i) (valFrom 0 (l.take i))
  rw [← valFrom_append, ← e] at this
  exact this

set_option maxRecDepth 100000 in
set_option maxHeartbeats 4000000 in
theorem rnumber_any (s : ByteArray) (w : World) (hs : s.size ≤ 1099511627776) :
    Calls Tryz.prog 118 #[.string s] w (RNum (bs s) w) := by
  by_cases h0 : s.size = 0
  · have hb : bs s = [] := List.eq_nil_of_length_eq_zero (by rw [length_bs]; exact h0)
    have he : s.toList.isEmpty = true := by rw [toList_bs, hb]; rfl
    have HB := Lib.hid hb
    clear hb h0
    go_enter Tryz.func118, Tryz.ntmps118
    go_wp2_with fail
    go_ret2
    exact ⟨by rw [HB.out]; rfl, rfl⟩
  · have hb : bs s ≠ [] := fun e => h0 (by rw [← length_bs, e]; rfl)
    have he : s.toList.isEmpty = false := by rw [toList_bs]; simpa using hb
    have hnum : numL (bs s) = numGo 0 (bs s) := by unfold numL; rw [if_neg hb]
    have hbad := numGo_bad (bs s) 0
    have hval := numGo_val (bs s) 0
    rw [← hnum] at hbad hval
    have HBad := Lib.hid hbad
    have HVal := Lib.hid hval
    have HL := Lib.hid (length_bs s)
    clear hnum hb h0 hbad hval
    go_enter Tryz.func118, Tryz.ntmps118
    go_wp2_with fail
    go_loop [4] (fun vi => ∃ i : Nat, i ≤ s.size ∧ vi = .int .i64 i ∧ Hid (∀ x ∈ (bs s).take i, isDig x = true)) (fun vi => s.size - (RowKit.intOf vi).toNat)
    case atStart => exact ⟨0, Nat.zero_le _, rfl, fun x hx => by simp at hx⟩
    case round =>
      obtain ⟨i, hi, rfl, hI⟩ := hrel
      by_cases hlt : i < s.size
      · have HC := rDigit_any s[i] w
        have hmem : s[i] ∈ bs s := by
          have e := getD_bs s i hlt
          rw [← e, List.getD, List.getElem?_eq_getElem (by rw [length_bs]; exact hlt)]
          exact List.getElem_mem _
        cases hk : isDig s[i]
        · rw [hk] at HC
          have HF := Lib.hid (HBad.out ⟨_, hmem, hk⟩)
          have HC2 := Lib.hid HC
          clear HC hk hmem
          go_wp2_with fail
          refine HC2.out.mono ?_
          rintro e w' ⟨rfl, rfl⟩
          go_wp2_with fail
          go_ret2
          exact ⟨by rw [HF.out]; rfl, rfl⟩
        · rw [hk] at HC
          have hI2 : Hid (∀ x ∈ (bs s).take (i + 1), isDig x = true) := by
            intro x hx
            rw [take_snoc (bs s) i (by rw [length_bs]; exact hlt), getD_bs s i hlt, List.mem_append, List.mem_singleton] at hx
            rcases hx with hx | rfl
            · exact hI.out x hx
            · exact hk
          have HC2 := Lib.hid HC
          clear HC hk hmem
          go_wp2_with fail
          refine HC2.out.mono ?_
          rintro e w' ⟨rfl, rfl⟩
          go_wp2_with fail
          exact ⟨⟨i + 1, by omega, by go_num, hI2⟩, by simp [RowKit.intOf]; omega⟩
      · have hall : ∀ x ∈ bs s, isDig x = true := by
          have := hI.out
          rw [List.take_of_length_le (by rw [length_bs]; omega)] at this
          exact this
        have HA := Lib.hid hall
        have HV := Lib.hid (HVal.out hall)
        clear hall hI
        go_wp2_with fail
        go_loop [5, 6] (fun vn vi => ∃ (n i : Nat), n ≤ 9007199254740991 ∧ i ≤ s.size ∧ vn = .int .i64 n ∧ vi = .int .i64 i ∧ Hid (valFrom 0 ((bs s).take i) = n)) (fun _ vi => s.size - (RowKit.intOf vi).toNat)
        case atStart => exact ⟨0, 0, by omega, by omega, rfl, rfl, rfl⟩
        case round =>
          obtain ⟨n, i, hn, hi, rfl, rfl, hd⟩ := hrel
          by_cases hlt2 : i < s.size
          · have hdg := HA.out s[i] (by
              have e := getD_bs s i hlt2
              rw [← e, List.getD, List.getElem?_eq_getElem (by rw [length_bs]; exact hlt2)]
              exact List.getElem_mem _)
            obtain ⟨d0, d1⟩ := dig_bd _ hdg
            have hnx : valFrom 0 ((bs s).take (i + 1)) = n * 10 + (s[i].toNat - 48) := by
              rw [take_snoc (bs s) i (by rw [length_bs]; exact hlt2), getD_bs s i hlt2, valFrom_snoc, hd.out]
            have hle := valFrom_take (bs s) (i + 1)
            rw [hnx] at hle
            have HNX := Lib.hid hnx
            have HLe := Lib.hid hle
            have k0 : (48 : Int) ≤ (s[i].toNat : Int) := by omega
            have k1 : (s[i].toNat : Int) ≤ 57 := by omega
            clear hnx hle hdg d0 d1
            go_wp2_with fail
            · have hx : (9007199254740991 - ((s[i].toNat : Int) - 48)) / 10 < (n : Int) := by assumption
              go_ret2
              have hbig := HLe.out
              exact ⟨by rw [HV.out, if_pos (show maxN < _ by unfold maxN; omega)]; rfl, rfl⟩
            · have hx : (n : Int) ≤ (9007199254740991 - ((s[i].toNat : Int) - 48)) / 10 := by assumption
              refine ⟨⟨n * 10 + (s[i].toNat - 48), i + 1, by omega, by omega, ?_, by go_num, HNX⟩, by simp [RowKit.intOf]; omega⟩
              congr 1
              omega
          · have hfin : valFrom 0 (bs s) = n := by
              have := hd.out
              rw [List.take_of_length_le (by rw [length_bs]; omega)] at this
              exact this
            have HF := Lib.hid hfin
            clear hfin
            go_wp2_with fail
            go_ret2
            exact ⟨by rw [HV.out, HF.out, if_neg (show ¬ maxN < n by unfold maxN; omega)]; rfl, rfl⟩
end Tk
end Go.Proofs.YtnbipbeeengiaaaGreatDoor
namespace Go.Proofs.YtnbipbeeengiaaaGreatDoor
open Go.RowKit
namespace Tk

theorem dig_atC (i : Nat) (h : i < 10) : (⟨#[48, 49, 50, 51, 52, 53, 54, 55, 56, 57]⟩ : ByteArray).extract i (i + 1) = mkS (digL i) := by
  rw [digL, dif_pos h]
  have key : ∀ j : Fin 10, (⟨#[48, 49, 50, 51, 52, 53, 54, 55, 56, 57]⟩ : ByteArray).extract j.val (j.val + 1) = mkS [UInt8.ofNat (48 + j.val)] := by decide +kernel
  exact key ⟨i, h⟩
theorem numGo_code : ∀ (l : Bs) (n : Nat), ((numGo n l).2 = 0 ∨ (numGo n l).2 = 3 ∨ (numGo n l).2 = 4) ∧ (numGo n l).1 ≤ maxN
  | [], n => by
    unfold numGo
    split
    · exact ⟨.inr (.inl rfl), Nat.zero_le _⟩
    · exact ⟨.inl rfl, by show n ≤ maxN; omega⟩
  | c :: t, n => by
    unfold numGo
    split
    · exact numGo_code t _
    · exact ⟨.inr (.inr rfl), Nat.zero_le _⟩
theorem num_code (l : Bs) : ((numL l).2 = 0 ∨ (numL l).2 = 3 ∨ (numL l).2 = 4) ∧ (numL l).1 ≤ 9007199254740991 := by
  unfold numL
  split
  · exact ⟨.inr (.inr rfl), Nat.zero_le _⟩
  · exact numGo_code l 0

set_option maxHeartbeats 4000000 in
set_option maxRecDepth 100000 in
theorem rcdig_nat : ∀ (k u : Nat), u ≤ k → u ≤ 9223372036854775807 → ∀ w : World, Calls Tryz.prog 74 #[.int .i64 (u : Int)] w fun e w' => e = .returned (.string (mkS (digL u))) ∧ w = w' := by
  intro k
  induction k with
  | zero =>
    intro u hu hm w
    obtain rfl : u = 0 := by omega
    have HE := Lib.hid (dig_atC 0 (by decide))
    go_enter Tryz.func74, Tryz.ntmps74
    go_wp2_with fail
    go_ret
    exact ⟨by rw [← HE.out]; rfl, rfl⟩
  | succ k ih =>
    intro u hu hm w
    by_cases hs : u < 10
    · have HE := Lib.hid (dig_atC u hs)
      have m1 : (u : Int) < 10 := by omega
      have m2 : IntKind.i64.wrap ((u : Int) + 1) = (u : Int) + 1 := IntWalk.i64_in _ (by omega)
      have g0 : (0 : Int) ≤ (u : Int) := by omega
      have g1 : (u : Int) ≤ (u : Int) + 1 := by omega
      have g2 : (u : Int) + 1 ≤ 10 := by omega
      have m3 : ((u : Int) + 1).toNat = u + 1 := by omega
      clear ih
      go_enter Tryz.func74, Tryz.ntmps74
      go_wp2_with fail
      go_ret
      exact ⟨by rw [← HE.out]; rfl, rfl⟩
    · have H1 := Lib.hid (ih (u / 10) (by omega) (by omega) w)
      have H2 := Lib.hid (ih (u % 10) (by omega) (by omega) w)
      have HE := Lib.hid (digL_big u hs)
      have m1 : ¬ (u : Int) < 10 := by omega
      have q1 : Int.tdiv (u : Int) 10 = ((u / 10 : Nat) : Int) := by rw [Int.tdiv_eq_ediv_of_nonneg (by omega)]; omega
      have q2 : Int.tmod (u : Int) 10 = ((u % 10 : Nat) : Int) := by rw [Int.tmod_eq_emod_of_nonneg (by omega)]; omega
      have z1 : (mkS (digL (u / 10))).size ≤ 100 := by rw [size_mkS]; have := digL_len 18 (u / 10) (by omega); omega
      have z2 : (mkS (digL (u % 10))).size ≤ 100 := by rw [size_mkS]; have := digL_len 18 (u % 10) (by omega); omega
      clear ih
      go_enter Tryz.func74, Tryz.ntmps74
      go_wp2_with fail
      refine H1.out.mono ?_
      rintro e w1 ⟨rfl, rfl⟩
      go_wp2_with fail
      refine H2.out.mono ?_
      rintro e w1 ⟨rfl, rfl⟩
      go_wp2_with fail
      go_ret
      exact ⟨by rw [HE.out, ← mkS_append]; rfl, rfl⟩

theorem secN_nil : secN [] = -1 := by decide
/-- a directive, as a value -/
def dirV (d : Dir) : Value := .agg #[.string (mkS d.1), .string (mkS d.2.1), .bool d.2.2]

set_option maxHeartbeats 4000000 in
set_option maxRecDepth 100000 in
theorem rcnumber_any (d : Dir) (w : World) (hz : d.2.1.length ≤ 1000000) (hh : d.2.2 = false → d.2.1 = []) : Calls Tryz.prog 68 #[dirV d] w fun e w' => e = .returned (.int .i64 (secN d.2.1)) ∧ Below w.heap.size w w' := by
  obtain ⟨nm, t, h⟩ := d
  simp only at hz hh
  unfold dirV
  have HN : Hid (∀ W : World, Calls Tryz.prog 118 #[.string (mkS t)] W fun e w' => e = .returned (.tuple #[.int .i64 (numL t).1, .int .i64 (numL t).2]) ∧ W = w') := fun W => by
    have h := rnumber_any (mkS t) W (by rw [size_mkS]; omega)
    rw [bs_mkS] at h
    exact h
  have HE : Hid (secN t = if (numL t).2 = 0 then min ((numL t).1 : Int) mxD else if (numL t).2 = 3 then mxD else -1) := rfl
  have HB := Lib.hid (below_allocC w (.cells #[.string (mkS nm), .string (mkS t), .bool h] 71))
  have hBx := Bx.new w 71 #[.string (mkS nm), .string (mkS t), .bool h]
  have c0 := hBx.cell 0 _ rfl
  have c1 := hBx.cell 1 _ rfl
  have c2 := hBx.cell 2 _ rfl
  obtain ⟨hcase, hval⟩ := num_code t
  have hno : h = false → (numL t).2 = 4 := fun e => by rw [hh e]; rfl
  clear hBx hh hz
  generalize secN t = r at *
  generalize numL t = z at *
  obtain ⟨n, c⟩ := z
  simp only at *
  rcases hcase with rfl | rfl | rfl
  · have ht : h = true := by cases h with | true => rfl | false => exact absurd (hno rfl) (by decide)
    subst ht
    clear hno
    by_cases hm : (2147483648 : Int) < (n : Int)
    · have hr : r = 2147483648 := by rw [HE.out, if_pos rfl]; show min (n : Int) 2147483648 = _; omega
      subst hr
      clear HE
      go_enter Tryz.func68, Tryz.ntmps68
      go_wp2_with fail
      refine (HN.out _).mono ?_
      rintro e w1 ⟨rfl, rfl⟩
      go_wp2_with fail
      go_ret
      exact ⟨rfl, HB.out⟩
    · have hr : r = (n : Int) := by rw [HE.out, if_pos rfl]; show min (n : Int) 2147483648 = _; omega
      subst hr
      clear HE
      go_enter Tryz.func68, Tryz.ntmps68
      go_wp2_with fail
      refine (HN.out _).mono ?_
      rintro e w1 ⟨rfl, rfl⟩
      go_wp2_with fail
      go_ret
      exact ⟨rfl, HB.out⟩
  · have ht : h = true := by cases h with | true => rfl | false => exact absurd (hno rfl) (by decide)
    subst ht
    clear hno
    have hr : r = 2147483648 := by rw [HE.out]; rfl
    subst hr
    clear HE
    go_enter Tryz.func68, Tryz.ntmps68
    go_wp2_with fail
    refine (HN.out _).mono ?_
    rintro e w1 ⟨rfl, rfl⟩
    go_wp2_with fail
    go_ret
    exact ⟨rfl, HB.out⟩
  · have hr : r = -1 := by rw [HE.out]; rfl
    subst hr
    clear HE hno
    cases h
    all_goals
      go_enter Tryz.func68, Tryz.ntmps68
      go_wp2_with fail
      refine (HN.out _).mono ?_
      rintro e w1 ⟨rfl, rfl⟩
      go_wp2_with fail
      go_ret
      exact ⟨rfl, HB.out⟩
end Tk
end Go.Proofs.YtnbipbeeengiaaaGreatDoor
namespace Go.Proofs.YtnbipbeeengiaaaGreatDoor
open Go.RowKit
namespace Tk

theorem cells_newQ (w : World) (cs : Array Value) (T : TypeId) (j : Nat) (u : Value) (h : cs.toList[j]? = some u) : (w.alloc (.cells cs T)).cell? ((⟨w.heap.size, 0, none⟩ : Addr).add j) = some u := by
  have e : (w.alloc (.cells cs T)).cell? ⟨w.heap.size, j, none⟩ = some u := by
    rw [Lib.cell_of_heap (heap_alloc_last w _)]
    rw [Array.getElem?_toList] at h
    exact h
  by_cases hj : j = 0
  · subst hj; simpa [Addr.add] using e
  · simpa [Addr.add, hj] using e

def preQ (s : ByteArray) (i : Nat) : Bs := 34 :: ((bs s).take i).flatMap esc
theorem preQ_len (s : ByteArray) (i : Nat) (h : i ≤ s.size) : (preQ s i).length ≤ 1 + 2 * i ∧ 1 ≤ (preQ s i).length := by
  unfold preQ
  have := esc_len ((bs s).take i)
  rw [List.length_take, length_bs] at this
  rw [List.length_cons]
  omega
theorem preQ_next (s : ByteArray) (i : Nat) (h : i < s.size) : preQ s (i + 1) = preQ s i ++ esc s[i] := by
  unfold preQ; rw [esc_take s i h]; rfl
theorem preQ_all (s : ByteArray) : preQ s s.size ++ [34] = quoteL (bs s) := by
  unfold preQ quoteL; rw [List.take_of_length_le (by rw [length_bs]; exact Nat.le_refl _)]; rfl
theorem bytesQ_app (a b : Bs) : Lib.byteCells (a ++ b) = Lib.byteCells a ++ Lib.byteCells b := by simp [Lib.byteCells]
theorem escQ_b (c : UInt8) (h : c = 34 ∨ c = 92) : esc c = [92] ++ [c] := by unfold esc; rw [if_pos h]; rfl

end Tk
end Go.Proofs.YtnbipbeeengiaaaGreatDoor
namespace Go.Proofs.YtnbipbeeengiaaaGreatDoor
namespace Tk

/-- what the bytes between the quotes say, if they may stand there -/
def inn : Bs → Option Bs
  | [] => some []
  | [c] => if c = 34 ∨ c = 92 then none else some [c]
  | c :: d :: t => if c = 34 then none else if c = 92 then (inn t).map (d :: ·) else (inn (d :: t)).map (c :: ·)

theorem inn_q (t : Bs) : inn (34 :: t) = none := by cases t <;> simp [inn]
theorem inn_b (d : UInt8) (t : Bs) : inn (92 :: d :: t) = (inn t).map (d :: ·) := by simp [inn]
theorem inn_b1 : inn [92] = none := by simp [inn]
theorem inn_o (c : UInt8) (t : Bs) (h : c ≠ 34) (h2 : c ≠ 92) : inn (c :: t) = (inn t).map (c :: ·) := by
  cases t with
  | nil => simp [inn, h, h2]
  | cons d t => simp [inn, h, h2]

theorem close_inn : ∀ (k : Nat) (t : Bs), t.length ≤ k → (closeLen (t ++ [34]) = t.length ↔ inn t ≠ none) ∧ ∀ u, inn t = some u → unq (t ++ [34]) = u
  | _, [], _ => by
    refine ⟨by simp [inn, closeLen], fun u h => ?_⟩
    simp [inn] at h
    subst h; rfl
  | 0, c :: t, h => by simp at h
  | k + 1, c :: t, h => by
    simp only [List.length_cons] at h
    by_cases h34 : c = 34
    · subst h34
      rw [List.cons_append, closeLen_q, inn_q]
      exact ⟨by simp, fun u h => by cases h⟩
    · by_cases h92 : c = 92
      · subst h92
        cases t with
        | nil =>
          rw [inn_b1]
          exact ⟨by simp [closeLen], fun u h => by cases h⟩
        | cons d t =>
          simp only [List.length_cons] at h
          obtain ⟨i1, i2⟩ := close_inn k t (by omega)
          rw [List.cons_append, List.cons_append, closeLen_b, unq_bs, inn_b]
          constructor
          · simp only [List.length_cons]
            constructor
            · intro e
              have := i1.1 (by omega)
              cases hi : inn t with
              | none => exact absurd hi this
              | some v => simp
            · intro e
              have : inn t ≠ none := fun hn => e (by rw [hn]; rfl)
              have := i1.2 this
              omega
          · intro u hu
            cases hi : inn t with
            | none => rw [hi] at hu; cases hu
            | some v =>
              rw [hi] at hu
              simp at hu
              rw [i2 v hi, hu]
      · obtain ⟨i1, i2⟩ := close_inn k t (by omega)
        rw [List.cons_append, closeLen_o c _ h92 h34, unq_o c _ h92 (by simp), inn_o c t h34 h92]
        constructor
        · simp only [List.length_cons]
          constructor
          · intro e
            have := i1.1 (by omega)
            cases hi : inn t with
            | none => exact absurd hi this
            | some v => simp
          · intro e
            have : inn t ≠ none := fun hn => e (by rw [hn]; rfl)
            have := i1.2 this
            omega
        · intro u hu
          cases hi : inn t with
          | none => rw [hi] at hu; cases hu
          | some v =>
            rw [hi] at hu
            simp at hu
            rw [i2 v hi, hu]
theorem close_last : ∀ (k : Nat) (t : Bs) (c : UInt8), t.length ≤ k → c ≠ 34 → closeLen (t ++ [c]) ≠ t.length
  | _, [], c, _, hc => by
    show closeLen [c] ≠ 0
    unfold closeLen
    split
    · decide
    · first | decide | (rw [if_neg hc]; decide)
  | 0, a :: t, c, h, _ => by simp at h
  | k + 1, a :: t, c, h, hc => by
    simp only [List.length_cons] at h
    rw [List.cons_append]
    by_cases h34 : a = 34
    · subst h34; rw [closeLen_q]; simp
    · by_cases h92 : a = 92
      · subst h92
        cases t with
        | nil => simp [closeLen]
        | cons d t =>
          simp only [List.length_cons] at h
          have := close_last k t c (by omega) hc
          rw [List.cons_append, closeLen_b]
          simp only [List.length_cons]; omega
      · have := close_last k t c (by omega) hc
        rw [closeLen_o a _ h92 h34]
        simp only [List.length_cons]; omega

theorem uq_short (l : Bs) (h : l.length < 2) : unqOk l = false := by
  match l, h with
  | [], _ => rfl
  | [c], _ =>
    unfold unqOk
    rw [closing_head]
    simp [closeLen]
theorem uq_first (c : UInt8) (t : Bs) (h : c ≠ 34) : unqOk (c :: t) = false := by unfold unqOk; simp [h]
theorem uq_last (t : Bs) (c : UInt8) (h : c ≠ 34) : unqOk (34 :: (t ++ [c])) = false := by
  unfold unqOk
  rw [closing_head]
  have := close_last t.length t c (Nat.le_refl _) h
  have e : decide (1 + closeLen (t ++ [c]) + 1 = (34 :: (t ++ [c])).length) = false := by
    rw [decide_eq_false_iff_not]; simp only [List.length_cons, List.length_append, List.length_nil]; omega
  rw [e]; simp
theorem uq_chars (l : Bs) (h : allL 1 l = false) : unqOk l = false := by unfold unqOk; rw [h]; simp
theorem uq_is (t : Bs) (h : allL 1 (34 :: (t ++ [34])) = true) : unqOk (34 :: (t ++ [34])) = (inn t).isSome ∧ ∀ u, inn t = some u → unq (t ++ [34]) = u := by
  obtain ⟨i1, i2⟩ := close_inn t.length t (Nat.le_refl _)
  refine ⟨?_, i2⟩
  unfold unqOk
  rw [closing_head, h]
  have e : decide (1 + closeLen (t ++ [34]) + 1 = (34 :: (t ++ [34])).length) = decide (closeLen (t ++ [34]) = t.length) := by
    simp only [List.length_cons, List.length_append, List.length_nil, decide_eq_decide]; omega
  rw [e]
  cases hi : inn t with
  | none =>
    have : ¬ closeLen (t ++ [34]) = t.length := fun e => i1.1 e hi
    simp [this]
  | some u =>
    have := i1.2 (by rw [hi]; simp)
    simp [this]
end Tk
end Go.Proofs.YtnbipbeeengiaaaGreatDoor
