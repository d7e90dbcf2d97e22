/- start's tests of one byte. -/
import Derived.Test.YtliinjibnikfgaaDoorSta1
import Derived.Test.YtliinjibnikfgaaDoorTkA
namespace Go.Proofs.YtliinjibnikfgaaDoor
open Go.RowKit
namespace Tk

theorem retB {a b : Bool} (h : a = b) : Ending.returned (.bool a) = .returned (.bool b) := by rw [h]

set_option maxHeartbeats 400000 in
theorem sdigit_any (c : UInt8) (w : World) :
    Calls Tryd.prog 63 #[.int .u8 (c.toNat : Int)] w fun e w' => e = .returned (.bool (isDig c)) ∧ w = w' := by
  have hlt := c.toNat_lt
  have HD := Lib.hid (show isDig c = (decide (48 ≤ c.toNat) && decide (c.toNat ≤ 57)) from rfl)
  generalize c.toNat = n at *
  by_cases h0 : 48 ≤ n <;> by_cases h1 : n ≤ 57
  all_goals
    first
    | omega
    | (go_enter Tryd.func63, Tryd.ntmps63
       go_wp2_with fail
       go_ret
       exact ⟨retB (by rw [HD.out, Bool.eq_iff_iff]; simp; omega), rfl⟩)

set_option maxHeartbeats 400000 in
theorem visible_any (c : UInt8) (w : World) :
    Calls Tryd.prog 75 #[.int .u8 (c.toNat : Int)] w fun e w' => e = .returned (.bool (vis c)) ∧ w = w' := by
  have hlt := c.toNat_lt
  have HD := Lib.hid (show vis c = (decide (33 ≤ c.toNat) && decide (c.toNat ≤ 126)) from rfl)
  generalize c.toNat = n at *
  by_cases h0 : 32 < n <;> by_cases h1 : n ≤ 126
  all_goals
    first
    | omega
    | (go_enter Tryd.func75, Tryd.ntmps75
       go_wp2_with fail
       go_ret
       exact ⟨retB (by rw [HD.out, Bool.eq_iff_iff]; simp; omega), rfl⟩)

set_option maxHeartbeats 1000000 in
theorem letter_any (c : UInt8) (w : World) :
    Calls Tryd.prog 109 #[.int .u8 (c.toNat : Int)] w fun e w' => e = .returned (.bool (isLet c)) ∧ w = w' := by
  have hlt := c.toNat_lt
  have HD := Lib.hid (show isLet c = (decide (65 ≤ c.toNat ∧ c.toNat ≤ 90) || decide (97 ≤ c.toNat ∧ c.toNat ≤ 122)) from rfl)
  generalize c.toNat = n at *
  by_cases h0 : 65 ≤ n <;> by_cases h1 : n ≤ 90 <;> by_cases h2 : 97 ≤ n <;> by_cases h3 : n ≤ 122
  all_goals
    first
    | omega
    | (go_enter Tryd.func109, Tryd.ntmps109
       go_wp2_with fail
       go_ret
       exact ⟨retB (by rw [HD.out, Bool.eq_iff_iff]; simp; omega), rfl⟩)

theorem ix_cons (a c : UInt8) (t : Bs) : Lib.indexByte (a :: t) c = if a == c then 0 else if Lib.indexByte t c == -1 then -1 else Lib.indexByte t c + 1 := rfl
theorem ix_contains (c : UInt8) : ∀ l : Bs, decide (0 ≤ Lib.indexByte l c) = l.contains c
  | [] => by simp [Lib.indexByte]
  | a :: t => by
    have ih := ix_contains c t
    have hg := Lib.indexByte_ge t c
    rw [List.contains_cons, ← ih, ix_cons]
    by_cases h : a = c
    · subst h; simp
    · have h1 : (a == c) = false := beq_eq_false_iff_ne.2 h
      have h2 : (c == a) = false := beq_eq_false_iff_ne.2 (fun e => h e.symm)
      rw [h1, h2, Bool.false_or]
      generalize Lib.indexByte t c = k at *
      by_cases hm : k = -1
      · subst hm; rfl
      · have h3 : (k == -1) = false := by rw [beq_eq_false_iff_ne]; exact hm
        rw [h3, Bool.eq_iff_iff]; simp; omega

set_option maxHeartbeats 1000000 in
theorem inName_any (c : UInt8) (w : World) :
    Calls Tryd.prog 68 #[.int .u8 (c.toNat : Int)] w fun e w' => e = .returned (.bool (inName c)) ∧ w = w' := by
  have HL := letter_any c w
  have HD := sdigit_any c w
  have hx := Tryd.strings_IndexByte ⟨#[45, 46, 95, 126, 33, 36, 38, 39, 40, 41, 42, 43, 44, 59, 61, 37]⟩ (c.toNat : Int) w
  have hc : (c.toNat : Int).toNat.toUInt8 = c := by simp
  rw [hc] at hx
  have hm := ix_contains c marksL
  have hx2 : Calls Tryd.prog 106 #[.string ⟨#[45, 46, 95, 126, 33, 36, 38, 39, 40, 41, 42, 43, 44, 59, 61, 37]⟩, .int .u8 (c.toNat : Int)] w fun e w' => e = .returned (.int .i64 (Lib.indexByte marksL c)) ∧ w' = w := hx
  generalize Lib.indexByte marksL c = k at *
  have HX := Lib.hid hx2
  have HN := Lib.hid (show inName c = (isLet c || isDig c || marksL.contains c) from rfl)
  have HM := Lib.hid hm
  clear hx hx2 hm hc
  cases hl : isLet c
  · rw [hl] at HL HN
    have HL2 := Lib.hid HL
    clear HL
    cases hd : isDig c
    · rw [hd] at HD HN
      have HD2 := Lib.hid HD
      clear HD hl hd
      by_cases hk : 0 ≤ k
      all_goals
        go_enter Tryd.func68, Tryd.ntmps68
        go_wp2_with fail
        refine HL2.out.mono ?_
        rintro e w' ⟨rfl, rfl⟩
        go_wp2_with fail
        refine HD2.out.mono ?_
        rintro e w' ⟨rfl, rfl⟩
        go_wp2_with fail
        refine HX.out.mono ?_
        rintro e w' ⟨rfl, rfl⟩
        go_wp2_with fail
        go_ret
        exact ⟨retB (by rw [HN.out, ← HM.out]; simp [hk]), rfl⟩
    · rw [hd] at HD HN
      have HD2 := Lib.hid HD
      clear HD hl hd
      go_enter Tryd.func68, Tryd.ntmps68
      go_wp2_with fail
      refine HL2.out.mono ?_
      rintro e w' ⟨rfl, rfl⟩
      go_wp2_with fail
      refine HD2.out.mono ?_
      rintro e w' ⟨rfl, rfl⟩
      go_wp2_with fail
      go_ret
      exact ⟨retB (by rw [HN.out]; rfl), rfl⟩
  · rw [hl] at HL HN
    have HL2 := Lib.hid HL
    clear HL hl HD
    go_enter Tryd.func68, Tryd.ntmps68
    go_wp2_with fail
    refine HL2.out.mono ?_
    rintro e w' ⟨rfl, rfl⟩
    go_wp2_with fail
    go_ret
    exact ⟨retB (by rw [HN.out]; rfl), rfl⟩

set_option maxHeartbeats 2000000 in
theorem inAddress_any (c : UInt8) (w : World) :
    Calls Tryd.prog 67 #[.int .u8 (c.toNat : Int)] w fun e w' => e = .returned (.bool (inAddr c)) ∧ w = w' := by
  have hlt := c.toNat_lt
  have HD := Lib.hid (sdigit_any c w)
  have HN := Lib.hid (show inAddr c = (isDig c || decide (65 ≤ c.toNat ∧ c.toNat ≤ 70) || decide (97 ≤ c.toNat ∧ c.toNat ≤ 102) || decide (c.toNat = 58) || decide (c.toNat = 46)) from rfl)
  cases hd : isDig c
  · rw [hd] at HD HN
    clear hd
    generalize c.toNat = n at *
    by_cases h0 : 65 ≤ n <;> by_cases h1 : n ≤ 70 <;> by_cases h2 : 97 ≤ n <;> by_cases h3 : n ≤ 102 <;> by_cases h4 : n = 58 <;> by_cases h5 : n = 46
    all_goals
      first
      | omega
      | (first | (have e4 : ((n : Int) == 58) = true := (by rw [beq_iff_eq]; omega)) | (have e4 : ((n : Int) == 58) = false := (by rw [beq_eq_false_iff_ne]; omega))
         first | (have e5 : ((n : Int) == 46) = true := (by rw [beq_iff_eq]; omega)) | (have e5 : ((n : Int) == 46) = false := (by rw [beq_eq_false_iff_ne]; omega))
         have H4 := Lib.hid h4
         have H5 := Lib.hid h5
         clear h4 h5
         go_enter Tryd.func67, Tryd.ntmps67
         go_wp2_with fail
         refine HD.out.mono ?_
         rintro e w' ⟨rfl, rfl⟩
         go_wp2_with fail
         go_ret
         have h4 := H4.out
         have h5 := H5.out
         exact ⟨retB (by rw [HN.out, Bool.eq_iff_iff]; simp; omega), rfl⟩)
  · rw [hd] at HD HN
    clear hd
    generalize c.toNat = n at *
    go_enter Tryd.func67, Tryd.ntmps67
    go_wp2_with fail
    refine HD.out.mono ?_
    rintro e w' ⟨rfl, rfl⟩
    go_wp2_with fail
    go_ret
    exact ⟨retB (by rw [HN.out]; rfl), rfl⟩
end Tk
end Go.Proofs.YtliinjibnikfgaaDoor
