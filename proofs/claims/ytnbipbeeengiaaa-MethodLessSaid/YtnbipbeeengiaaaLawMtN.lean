/- The law's lives; MethodNames: the chapter's examples. -/
import Derived.Test.YtnbipbeeengiaaaMetB
namespace Go.Proofs.Ytnbipbeeengiaaa
open Go.RowKit
namespace Tk

set_option maxHeartbeats 8000000 in
set_option maxRecDepth 100000 in
theorem livesM_any (w : World) : Calls Try.prog 6 #[] w fun e w' => e = .returned (.bool true) ∧ Below w.heap.size w w' := by
  have H0 : Hid (∀ W : World, Calls Try.prog 19 #[.string ⟨#[80, 79, 83, 84]⟩] W fun e w' => e = .returned (.bool false) ∧ Below W.heap.size W w') := fun W => by
    have h := idem_anyM [80, 79, 83, 84] W
    rw [show idemM [80, 79, 83, 84] = false by decide] at h
    exact h
  have H1 : Hid (∀ W : World, Calls Try.prog 19 #[.string ⟨#[68, 69, 76, 69, 84, 69]⟩] W fun e w' => e = .returned (.bool true) ∧ Below W.heap.size W w') := fun W => by
    have h := idem_anyM [68, 69, 76, 69, 84, 69] W
    rw [show idemM [68, 69, 76, 69, 84, 69] = true by decide] at h
    exact h
  have H2 : Hid (∀ W : World, Calls Try.prog 17 #[.string ⟨#[71, 69, 84]⟩] W fun e w' => e = .returned (.bool true) ∧ Below W.heap.size W w') := fun W => by
    have h := safe_anyM [71, 69, 84] W
    rw [show safeM [71, 69, 84] = true by decide] at h
    exact h
  have H3 : Hid (∀ W : World, Calls Try.prog 17 #[.string ⟨#[80, 85, 84]⟩] W fun e w' => e = .returned (.bool false) ∧ Below W.heap.size W w') := fun W => by
    have h := safe_anyM [80, 85, 84] W
    rw [show safeM [80, 85, 84] = false by decide] at h
    exact h
  have HB0 := Lib.hid (Below.refl w.heap.size w)
  go_enter Try.func6, Try.ntmps6
  go_wp2_with fail
  refine (H0.out _).mono ?_
  rintro e w2 ⟨rfl, hb2⟩
  have HB1 := Lib.hid (HB0.out.trans (hb2.mono HB0.out.size))
  clear hb2 HB0
  go_wp2_with fail
  refine (H1.out _).mono ?_
  rintro e w2 ⟨rfl, hb2⟩
  have HB2 := Lib.hid (HB1.out.trans (hb2.mono HB1.out.size))
  clear hb2 HB1
  go_wp2_with fail
  refine (H2.out _).mono ?_
  rintro e w2 ⟨rfl, hb2⟩
  have HB3 := Lib.hid (HB2.out.trans (hb2.mono HB2.out.size))
  clear hb2 HB2
  go_wp2_with fail
  refine (H3.out _).mono ?_
  rintro e w2 ⟨rfl, hb2⟩
  have HB4 := Lib.hid (HB3.out.trans (hb2.mono HB3.out.size))
  clear hb2 HB3
  go_wp2_with fail
  go_ret
  exact ⟨rfl, HB4.out⟩

set_option maxHeartbeats 8000000 in
set_option maxRecDepth 100000 in
theorem mnames_any (w : World) : Calls Try.prog 3 #[] w fun e w' => e = .returned (.bool true) ∧ Below w.heap.size w w' := by
  have HL : Hid (∀ W : World, Calls Try.prog 6 #[] W fun e w' => e = .returned (.bool true) ∧ Below W.heap.size W w') := fun W => livesM_any W
  have HN := Lib.hid (fun W => names_anyM W)
  have H0 : Hid (∀ W : World, Calls Try.prog 8 #[.string ⟨#[80, 65, 84, 67, 72]⟩] W fun e w' => e = .returned (.bool true) ∧ Below W.heap.size W w') := fun W => by
    have h := known_anyM [80, 65, 84, 67, 72] W
    rw [show knowM [80, 65, 84, 67, 72] = true by decide] at h
    exact h
  have H1 : Hid (∀ W : World, Calls Try.prog 8 #[.string ⟨#[103, 101, 116]⟩] W fun e w' => e = .returned (.bool false) ∧ Below W.heap.size W w') := fun W => by
    have h := known_anyM [103, 101, 116] W
    rw [show knowM [103, 101, 116] = false by decide] at h
    exact h
  have H2 : Hid (∀ W : World, Calls Try.prog 9 #[.string ⟨#[72, 69, 65, 68]⟩] W fun e w' => e = .returned (.bool true) ∧ Below W.heap.size W w') := fun W => by
    have h := cached_anyM [72, 69, 65, 68] W
    rw [show cachM [72, 69, 65, 68] = true by decide] at h
    exact h
  have H3 : Hid (∀ W : World, Calls Try.prog 9 #[.string ⟨#[80, 79, 83, 84]⟩] W fun e w' => e = .returned (.bool false) ∧ Below W.heap.size W w') := fun W => by
    have h := cached_anyM [80, 79, 83, 84] W
    rw [show cachM [80, 79, 83, 84] = false by decide] at h
    exact h
  have H4 : Hid (∀ W : World, Calls Try.prog 10 #[.int .i64 404] W fun e w' => e = .returned (.bool true) ∧ Below W.heap.size W w') := fun W => by
    have h := heu_anyM 404 W
    rw [show heuM 404 = true by decide] at h
    exact h
  have H5 : Hid (∀ W : World, Calls Try.prog 10 #[.int .i64 302] W fun e w' => e = .returned (.bool false) ∧ Below W.heap.size W w') := fun W => by
    have h := heu_anyM 302 W
    rw [show heuM 302 = false by decide] at h
    exact h
  have H6 : Hid (∀ W : World, Calls Try.prog 11 #[.int .i64 302] W fun e w' => e = .returned (.bool true) ∧ Below W.heap.size W w') := fun W => by
    have h := und_anyM 302 W
    rw [show undM 302 = true by decide] at h
    exact h
  have H7 : Hid (∀ W : World, Calls Try.prog 11 #[.int .i64 206] W fun e w' => e = .returned (.bool false) ∧ Below W.heap.size W w') := fun W => by
    have h := und_anyM 206 W
    rw [show undM 206 = false by decide] at h
    exact h
  have H8 : Hid (∀ W : World, Calls Try.prog 12 #[.int .i64 200] W fun e w' => e = .returned (.bool true) ∧ W = w') := fun W => by
    have h := fin_anyM 200 W
    rw [show finM 200 = true by decide] at h
    exact h
  have H9 : Hid (∀ W : World, Calls Try.prog 12 #[.int .i64 199] W fun e w' => e = .returned (.bool false) ∧ W = w') := fun W => by
    have h := fin_anyM 199 W
    rw [show finM 199 = false by decide] at h
    exact h
  have H10 : Hid (∀ W : World, Calls Try.prog 12 #[.int .i64 600] W fun e w' => e = .returned (.bool false) ∧ W = w') := fun W => by
    have h := fin_anyM 600 W
    rw [show finM 600 = false by decide] at h
    exact h
  have H11 : Hid (∀ W : World, Calls Try.prog 13 #[.int .i64 503] W fun e w' => e = .returned (.bool true) ∧ Below W.heap.size W w') := fun W => by
    have h := brk_anyM 503 W
    rw [show brkM 503 = true by decide] at h
    exact h
  have H12 : Hid (∀ W : World, Calls Try.prog 13 #[.int .i64 501] W fun e w' => e = .returned (.bool false) ∧ Below W.heap.size W w') := fun W => by
    have h := brk_anyM 501 W
    rw [show brkM 501 = false by decide] at h
    exact h
  have HB0 := Lib.hid (Below.refl w.heap.size w)
  go_enter Try.func3, Try.ntmps3
  go_wp2_with fail
  refine (HL.out _).mono ?_
  rintro e w2 ⟨rfl, hb2⟩
  have HB1 := Lib.hid (HB0.out.trans (hb2.mono HB0.out.size))
  clear hb2 HB0
  go_wp2_with fail
  refine (HN.out _).mono ?_
  rintro e w2 ⟨a, c, rfl, ⟨a', c', hv, k⟩, hb2⟩
  have HB2 := Lib.hid (HB1.out.trans (hb2.mono HB1.out.size))
  injection hv with hv1 hv9 hv2
  clear hv9
  subst hv1 hv2
  obtain ⟨b, o, rfl, c0⟩ := k 0 mtCONNECT rfl
  obtain ⟨b', o', e8, c8⟩ := k 8 mtTRACE rfl
  injection e8 with e8
  injection e8 with e9 e10 e11
  clear e11
  subst e9 e10
  have s0 : w2.cell? ⟨b, o, none⟩ = some (.string (mkS mtCONNECT)) := c0
  have s8 : w2.cell? ⟨b, o + 8, none⟩ = some (.string (mkS mtTRACE)) := c8
  have e0 : ((mkS mtCONNECT).toList == ([67, 79, 78, 78, 69, 67, 84] : List UInt8)) = true := by rw [toList_bs, bs_mkS]; decide
  have e8 : ((mkS mtTRACE).toList == ([84, 82, 65, 67, 69] : List UInt8)) = true := by rw [toList_bs, bs_mkS]; decide
  clear c0 c8 k hb2 HB1
  generalize mtCONNECT = t0 at *
  generalize mtTRACE = t8 at *
  go_wp2_with fail
  refine (H0.out _).mono ?_
  rintro e w2 ⟨rfl, hb2⟩
  have HB3 := Lib.hid (HB2.out.trans (hb2.mono HB2.out.size))
  clear hb2 HB2
  go_wp2_with fail
  refine (H1.out _).mono ?_
  rintro e w2 ⟨rfl, hb2⟩
  have HB4 := Lib.hid (HB3.out.trans (hb2.mono HB3.out.size))
  clear hb2 HB3
  go_wp2_with fail
  refine (H2.out _).mono ?_
  rintro e w2 ⟨rfl, hb2⟩
  have HB5 := Lib.hid (HB4.out.trans (hb2.mono HB4.out.size))
  clear hb2 HB4
  go_wp2_with fail
  refine (H3.out _).mono ?_
  rintro e w2 ⟨rfl, hb2⟩
  have HB6 := Lib.hid (HB5.out.trans (hb2.mono HB5.out.size))
  clear hb2 HB5
  go_wp2_with fail
  refine (H4.out _).mono ?_
  rintro e w2 ⟨rfl, hb2⟩
  have HB7 := Lib.hid (HB6.out.trans (hb2.mono HB6.out.size))
  clear hb2 HB6
  go_wp2_with fail
  refine (H5.out _).mono ?_
  rintro e w2 ⟨rfl, hb2⟩
  have HB8 := Lib.hid (HB7.out.trans (hb2.mono HB7.out.size))
  clear hb2 HB7
  go_wp2_with fail
  refine (H6.out _).mono ?_
  rintro e w2 ⟨rfl, hb2⟩
  have HB9 := Lib.hid (HB8.out.trans (hb2.mono HB8.out.size))
  clear hb2 HB8
  go_wp2_with fail
  refine (H7.out _).mono ?_
  rintro e w2 ⟨rfl, hb2⟩
  have HB10 := Lib.hid (HB9.out.trans (hb2.mono HB9.out.size))
  clear hb2 HB9
  go_wp2_with fail
  refine (H8.out _).mono ?_
  rintro e w2 ⟨rfl, rfl⟩
  go_wp2_with fail
  refine (H9.out _).mono ?_
  rintro e w2 ⟨rfl, rfl⟩
  go_wp2_with fail
  refine (H10.out _).mono ?_
  rintro e w2 ⟨rfl, rfl⟩
  go_wp2_with fail
  refine (H11.out _).mono ?_
  rintro e w2 ⟨rfl, hb2⟩
  have HB11 := Lib.hid (HB10.out.trans (hb2.mono HB10.out.size))
  clear hb2 HB10
  go_wp2_with fail
  refine (H12.out _).mono ?_
  rintro e w2 ⟨rfl, hb2⟩
  have HB12 := Lib.hid (HB11.out.trans (hb2.mono HB11.out.size))
  clear hb2 HB11
  go_wp2_with fail
  go_ret
  exact ⟨rfl, HB12.out⟩
end Tk
end Go.Proofs.Ytnbipbeeengiaaa
