/- MethodCalls: methods and statuses are what the document says. -/
import Derived.Test.YtnbipbeeengiaaaLawMtN
namespace Go.Proofs.Ytnbipbeeengiaaa
open Go.RowKit
namespace Tk

set_option maxHeartbeats 8000000 in
set_option maxRecDepth 100000 in
theorem mcalls_any (x : Bs) (n : Int) (w : World) : Calls Try.prog 4 #[.string (mkS x), .int .i64 n] w fun e w' => e = .returned (.bool true) ∧ Below w.heap.size w w' := by
  have HL : Hid (∀ W : World, Calls Try.prog 6 #[] W fun e w' => e = .returned (.bool true) ∧ Below W.heap.size W w') := fun W => livesM_any W
  have HB0 := Lib.hid (Below.refl w.heap.size w)
  have hxz := size_mkS x
  by_cases h1 : 100 < x.length
  · have g1 : (100 : Int) < ((mkS x).size : Int) := by omega
    clear h1 hxz
    go_enter Try.func4, Try.ntmps4
    go_wp2_with fail
    refine (HL.out _).mono ?_
    rintro e w2 ⟨rfl, hb2⟩
    have HB1 := Lib.hid (HB0.out.trans (hb2.mono HB0.out.size))
    clear hb2 HB0
    go_wp2_with fail
    go_ret
    exact ⟨rfl, HB1.out⟩
  · have g1 : ¬ (100 : Int) < ((mkS x).size : Int) := by omega
    have HN := Lib.hid (fun W => names_anyM W)
    have HN2 := Lib.hid (fun W => rnames_anyM W)
    have HS : Hid (∀ v1 v2 W, IsStrs W v1 nmsM → IsStrs W v2 nmsM → Calls Try.prog 14 #[v1, v2] W fun e w' => e = .returned (.bool true) ∧ Below W.heap.size W w') := fun v1 v2 W h1 h2 => by
      have h := same_any v1 v2 nmsM nmsM W h1 h2 (by decide) (by decide)
      rw [decide_eq_true rfl] at h
      refine h.mono ?_
      rintro e w' ⟨rfl, k, rfl⟩
      exact ⟨rfl, ⟨rfl, rfl, rfl, Nat.le_refl _, fun _ _ => rfl⟩⟩
    have A0 : Hid (∀ W : World, Calls Try.prog 8 #[.string (mkS x)] W fun e w' => e = .returned (.bool (knowM x)) ∧ Below W.heap.size W w') := fun W => known_anyM x W
    have R0 : Hid (∀ W : World, Calls Try.prog 16 #[.string (mkS x)] W fun e w' => e = .returned (.bool (knowM x)) ∧ Below W.heap.size W w') := fun W => rknown_anyM x W
    have A1 : Hid (∀ W : World, Calls Try.prog 17 #[.string (mkS x)] W fun e w' => e = .returned (.bool (safeM x)) ∧ Below W.heap.size W w') := fun W => safe_anyM x W
    have R1 : Hid (∀ W : World, Calls Try.prog 18 #[.string (mkS x)] W fun e w' => e = .returned (.bool (safeM x)) ∧ W = w') := fun W => rsafe_anyM x W
    have A2 : Hid (∀ W : World, Calls Try.prog 19 #[.string (mkS x)] W fun e w' => e = .returned (.bool (idemM x)) ∧ Below W.heap.size W w') := fun W => idem_anyM x W
    have R2 : Hid (∀ W : World, Calls Try.prog 20 #[.string (mkS x)] W fun e w' => e = .returned (.bool (idemM x)) ∧ W = w') := fun W => ridem_anyM x W
    have A3 : Hid (∀ W : World, Calls Try.prog 9 #[.string (mkS x)] W fun e w' => e = .returned (.bool (cachM x)) ∧ Below W.heap.size W w') := fun W => cached_anyM x W
    have R3 : Hid (∀ W : World, Calls Try.prog 21 #[.string (mkS x)] W fun e w' => e = .returned (.bool (cachM x)) ∧ W = w') := fun W => rcached_anyM x W
    have A4 : Hid (∀ W : World, Calls Try.prog 10 #[.int .i64 n] W fun e w' => e = .returned (.bool (heuM n)) ∧ Below W.heap.size W w') := fun W => heu_anyM n W
    have R4 : Hid (∀ W : World, Calls Try.prog 22 #[.int .i64 n] W fun e w' => e = .returned (.bool (heuM n)) ∧ Below W.heap.size W w') := fun W => rheu_anyM n W
    have A5 : Hid (∀ W : World, Calls Try.prog 12 #[.int .i64 n] W fun e w' => e = .returned (.bool (finM n)) ∧ W = w') := fun W => fin_anyM n W
    have R5 : Hid (∀ W : World, Calls Try.prog 23 #[.int .i64 n] W fun e w' => e = .returned (.bool (finM n)) ∧ W = w') := fun W => rfin_anyM n W
    have A6 : Hid (∀ W : World, Calls Try.prog 11 #[.int .i64 n] W fun e w' => e = .returned (.bool (undM n)) ∧ Below W.heap.size W w') := fun W => und_anyM n W
    have R6 : Hid (∀ W : World, Calls Try.prog 24 #[.int .i64 n] W fun e w' => e = .returned (.bool (undM n)) ∧ Below W.heap.size W w') := fun W => rund_anyM n W
    have A7 : Hid (∀ W : World, Calls Try.prog 13 #[.int .i64 n] W fun e w' => e = .returned (.bool (brkM n)) ∧ Below W.heap.size W w') := fun W => brk_anyM n W
    have R7 : Hid (∀ W : World, Calls Try.prog 25 #[.int .i64 n] W fun e w' => e = .returned (.bool (brkM n)) ∧ Below W.heap.size W w') := fun W => rbrk_anyM n W
    generalize knowM x = q0 at *
    generalize safeM x = q1 at *
    generalize idemM x = q2 at *
    generalize cachM x = q3 at *
    generalize heuM n = q4 at *
    generalize finM n = q5 at *
    generalize undM n = q6 at *
    generalize brkM n = q7 at *
    clear h1 hxz
    go_enter Try.func4, Try.ntmps4
    go_wp2_with fail
    refine (HL.out _).mono ?_
    rintro e w2 ⟨rfl, hb2⟩
    have HB1 := Lib.hid (HB0.out.trans (hb2.mono HB0.out.size))
    clear hb2 HB0
    go_wp2_with fail
    refine (HN.out _).mono ?_
    rintro e w2 ⟨a1, c1, rfl, hs1, hb2⟩
    have HB2 := Lib.hid (HB1.out.trans (hb2.mono HB1.out.size))
    have HS1 := Lib.hid hs1
    clear hb2 HB1 hs1
    go_wp2_with fail
    refine (HN2.out _).mono ?_
    rintro e w3 ⟨a2, c2, rfl, hs2, hb3⟩
    have HB3 := Lib.hid (HB2.out.trans (hb3.mono HB2.out.size))
    have HS2 := Lib.hid hs2
    have HS3 := Lib.hid (isStrsM_below HS1.out hb3)
    clear hb3 HB2 hs2 HS1
    go_wp2_with fail
    refine (HS.out _ _ _ HS3.out HS2.out).mono ?_
    rintro e w4 ⟨rfl, hb4⟩
    have HB4 := Lib.hid (HB3.out.trans (hb4.mono HB3.out.size))
    clear hb4 HB3 HS3 HS2
    go_wp2_with fail
    refine (A0.out _).mono ?_
    rintro e w2 ⟨rfl, hb2⟩
    have HB5 := Lib.hid (HB4.out.trans (hb2.mono HB4.out.size))
    clear hb2 HB4
    go_wp2_with fail
    refine (R0.out _).mono ?_
    rintro e w2 ⟨rfl, hb2⟩
    have HB6 := Lib.hid (HB5.out.trans (hb2.mono HB5.out.size))
    clear hb2 HB5
    go_wp2_with fail
    refine (A1.out _).mono ?_
    rintro e w2 ⟨rfl, hb2⟩
    have HB7 := Lib.hid (HB6.out.trans (hb2.mono HB6.out.size))
    clear hb2 HB6
    go_wp2_with fail
    refine (R1.out _).mono ?_
    rintro e w2 ⟨rfl, rfl⟩
    go_wp2_with fail
    refine (A2.out _).mono ?_
    rintro e w2 ⟨rfl, hb2⟩
    have HB8 := Lib.hid (HB7.out.trans (hb2.mono HB7.out.size))
    clear hb2 HB7
    go_wp2_with fail
    refine (R2.out _).mono ?_
    rintro e w2 ⟨rfl, rfl⟩
    go_wp2_with fail
    refine (A3.out _).mono ?_
    rintro e w2 ⟨rfl, hb2⟩
    have HB9 := Lib.hid (HB8.out.trans (hb2.mono HB8.out.size))
    clear hb2 HB8
    go_wp2_with fail
    refine (R3.out _).mono ?_
    rintro e w2 ⟨rfl, rfl⟩
    go_wp2_with fail
    refine (A4.out _).mono ?_
    rintro e w2 ⟨rfl, hb2⟩
    have HB10 := Lib.hid (HB9.out.trans (hb2.mono HB9.out.size))
    clear hb2 HB9
    go_wp2_with fail
    refine (R4.out _).mono ?_
    rintro e w2 ⟨rfl, hb2⟩
    have HB11 := Lib.hid (HB10.out.trans (hb2.mono HB10.out.size))
    clear hb2 HB10
    go_wp2_with fail
    refine (A5.out _).mono ?_
    rintro e w2 ⟨rfl, rfl⟩
    go_wp2_with fail
    refine (R5.out _).mono ?_
    rintro e w2 ⟨rfl, rfl⟩
    go_wp2_with fail
    refine (A6.out _).mono ?_
    rintro e w2 ⟨rfl, hb2⟩
    have HB12 := Lib.hid (HB11.out.trans (hb2.mono HB11.out.size))
    clear hb2 HB11
    go_wp2_with fail
    refine (R6.out _).mono ?_
    rintro e w2 ⟨rfl, hb2⟩
    have HB13 := Lib.hid (HB12.out.trans (hb2.mono HB12.out.size))
    clear hb2 HB12
    go_wp2_with fail
    refine (A7.out _).mono ?_
    rintro e w2 ⟨rfl, hb2⟩
    have HB14 := Lib.hid (HB13.out.trans (hb2.mono HB13.out.size))
    clear hb2 HB13
    go_wp2_with fail
    refine (R7.out _).mono ?_
    rintro e w2 ⟨rfl, hb2⟩
    have HB15 := Lib.hid (HB14.out.trans (hb2.mono HB14.out.size))
    clear hb2 HB14
    go_wp2_with fail
    go_ret
    exact ⟨rfl, HB15.out⟩
theorem mcalls_anyS (s : ByteArray) (n : Int) (w : World) : Calls Try.prog 4 #[.string s, .int .i64 n] w fun e w' => e = .returned (.bool true) ∧ Below w.heap.size w w' := by
  have h := mcalls_any (bs s) n w
  rw [mkS_bs] at h
  exact h
end Tk
end Go.Proofs.Ytnbipbeeengiaaa
