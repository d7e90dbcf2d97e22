/- VaryNames: the chapter's examples. -/
import Derived.Test.YthooghgiokgdhaaDoorQC
import Derived.Test.YthooghgiokgdhaaDoorQJoinF
import Derived.Deep.Cut
namespace Go.Proofs.YthooghgiokgdhaaDoor
open Go.RowKit
namespace Tk

theorem isFlds_litW (W : World) (l : List (Bs × Bs)) (cs : Array Value) (h : cs.toList = fcells l) (hm : l.length ≤ 1000) (hs : cs.size = l.length * 2) : IsFlds (W.alloc (.cells cs 27)) (.slice (some ⟨W.heap.size, 0, none⟩) l.length l.length) l := by
  have h1 := World.ownsRow_lit (base := W.heap.size) (e := 27) (size := 2) W cs l.length (Nat.le_refl _) (by unfold maxLen; omega) hs
  rw [h] at h1
  exact isFlds_own h1
theorem isFlds_nilW (W : World) : IsFlds W (.slice none 0 0) [] := ⟨none, 0, rfl, Nat.le_refl _, fun j f hj => by simp at hj⟩
theorem isStrs_nilW (W : World) : IsStrs W (.slice none 0 0) [] := ⟨none, 0, rfl, fun j f hj => by simp at hj⟩
def fF : List (Bs × Bs) := [([65], [120, 32, 9, 32, 121]), ([97], [122])]
def gF : List (Bs × Bs) := [([97], [120, 32, 121, 44, 32, 122])]
theorem vn1 : listF [([86, 97, 114, 121], [97]), ([86, 97, 114, 121], [42])] nVary = [[97], [42]] ∧ listF [] nVary = [] := by decide
theorem vn2 : nmsV [[97], [42]] = [] := by unfold nmsV; rw [if_pos (by decide)]
theorem vn3 : nmsV [] = [] := by
  unfold nmsV
  rw [if_neg (by decide)]
  have := set_len []
  exact List.eq_nil_of_length_eq_zero (by simpa using this)
theorem vn4 : valV (allF fF [97]) = [43, 120, 32, 121, 44, 32, 122] ∧ valV (allF fF [98]) = [45] ∧ valV (allF [([98], [])] [66]) = [43] := by decide +kernel
theorem vn5 : mchV fF gF [[97], [98]] = true ∧ mchV fF [] [[97]] = false ∧ mchV fF [] [] = true := by decide +kernel
theorem vn6 : keyV (vlV fF) [[65], [98]] = [97, 58, 55, 58, 43, 120, 32, 121, 44, 32, 122, 10, 98, 58, 49, 58, 45, 10] := by decide +kernel
theorem vn7 : lowL [72, 58, 56, 48] ++ 32 :: [47, 80] = [104, 58, 56, 48, 32, 47, 80] := by decide

/-- what the examples keep -/
structure VnH (w : World) (vf vg : Value) (W : World) : Prop where
  f : IsFlds W vf fF
  g : IsFlds W vg gF
  ut : Utf W
  tn : TenV W
  bl : Below w.heap.size w W
theorem VnH.later {w W W' : World} {vf vg : Value} (h : VnH w vf vg W) (hb : Below W.heap.size W W') : VnH w vf vg W' :=
  ⟨isFlds_below h.f hb, isFlds_below h.g hb, h.ut.later hb, h.tn.later hb, h.bl.trans (hb.mono h.bl.size)⟩

set_option maxHeartbeats 8000000 in
set_option maxRecDepth 100000 in
theorem vnames_any (w : World) (hU : Utf w) (hT : TenV w) : Calls Tryd.prog 3 #[] w fun e w' => e = .returned (.bool true) ∧ Below w.heap.size w w' := by
  have HO := Lib.hid (fun (n x : ByteArray) (W : World) => vone_any n x W)
  have HN1 : Hid (∀ (v : Value) (W : World), IsFlds W v [([86, 97, 114, 121], [97]), ([86, 97, 114, 121], [42])] → Calls Tryd.prog 8 #[v] W fun e w' => ∃ a c, e = .returned (.tuple #[.slice a 0 c, .bool true]) ∧ Below W.heap.size W w') := fun v W hs => by
    have h := names_any v _ W hs (by decide) (by decide)
    rw [vn1.1] at h
    refine h.mono ?_
    rintro e w' ⟨v', rfl, ho, hb⟩
    rw [vn2] at ho
    obtain ⟨a, c, rfl, -⟩ := isStrs_own ho
    exact ⟨a, c, rfl, hb⟩
  have HN2 : Hid (∀ W : World, Calls Tryd.prog 8 #[.slice none 0 0] W fun e w' => ∃ a c, e = .returned (.tuple #[.slice a 0 c, .bool false]) ∧ Below W.heap.size W w') := fun W => by
    have h := names_any _ [] W (isFlds_nilW W) (by decide) (by decide)
    rw [vn1.2] at h
    refine h.mono ?_
    rintro e w' ⟨v', rfl, ho, hb⟩
    rw [vn3] at ho
    obtain ⟨a, c, rfl, -⟩ := isStrs_own ho
    exact ⟨a, c, rfl, hb⟩
  have HV1 : Hid (∀ (v : Value) (W : World), Utf W → IsFlds W v fF → Calls Tryd.prog 10 #[v, .string ⟨#[97]⟩] W fun e w' => e = .returned (.string ⟨#[43, 120, 32, 121, 44, 32, 122]⟩) ∧ Below W.heap.size W w') := fun v W hu hs => by
    have h := vval_any v fF [97] W hu hs (by decide) (by decide) (by decide)
    rw [vn4.1] at h; exact h
  have HV2 : Hid (∀ (v : Value) (W : World), Utf W → IsFlds W v fF → Calls Tryd.prog 10 #[v, .string ⟨#[98]⟩] W fun e w' => e = .returned (.string ⟨#[45]⟩) ∧ Below W.heap.size W w') := fun v W hu hs => by
    have h := vval_any v fF [98] W hu hs (by decide) (by decide) (by decide)
    rw [vn4.2.1] at h; exact h
  have HV3 : Hid (∀ (v : Value) (W : World), Utf W → IsFlds W v [([98], [])] → Calls Tryd.prog 10 #[v, .string ⟨#[66]⟩] W fun e w' => e = .returned (.string ⟨#[43]⟩) ∧ Below W.heap.size W w') := fun v W hu hs => by
    have h := vval_any v _ [66] W hu hs (by decide) (by decide) (by decide)
    rw [vn4.2.2] at h; exact h
  have HM1 : Hid (∀ (v va vb : Value) (W : World), Utf W → IsStrs W v [[97], [98]] → IsFlds W va fF → IsFlds W vb gF → Calls Tryd.prog 11 #[v, va, vb] W fun e w' => e = .returned (.bool true) ∧ Below W.heap.size W w') := fun v va vb W hu hs ha hb => by
    have h := match_any v va vb fF gF [[97], [98]] W hs hu ha hb (by decide) (by decide) (by decide) (by decide) (by decide) (by decide)
    rw [vn5.1] at h; exact h
  have HM2 : Hid (∀ (v va : Value) (W : World), Utf W → IsStrs W v [[97]] → IsFlds W va fF → Calls Tryd.prog 11 #[v, va, .slice none 0 0] W fun e w' => e = .returned (.bool false) ∧ Below W.heap.size W w') := fun v va W hu hs ha => by
    have h := match_any v va _ fF [] [[97]] W hs hu ha (isFlds_nilW W) (by decide) (by decide) (by decide) (by decide) (by decide) (by decide)
    rw [vn5.2.1] at h; exact h
  have HM3 : Hid (∀ (va : Value) (W : World), Utf W → IsFlds W va fF → Calls Tryd.prog 11 #[.slice none 0 0, va, .slice none 0 0] W fun e w' => e = .returned (.bool true) ∧ Below W.heap.size W w') := fun va W hu ha => by
    have h := match_any _ va _ fF [] [] W (isStrs_nilW W) hu ha (isFlds_nilW W) (by decide) (by decide) (by decide) (by decide) (by decide) (by decide)
    rw [vn5.2.2] at h; exact h
  have HK : Hid (∀ (v va : Value) (W : World), Utf W → TenV W → IsStrs W v [[65], [98]] → IsFlds W va fF → Calls Tryd.prog 12 #[v, va] W fun e w' => e = .returned (.string ⟨#[97, 58, 55, 58, 43, 120, 32, 121, 44, 32, 122, 10, 98, 58, 49, 58, 45, 10]⟩) ∧ Below W.heap.size W w') := fun v va W hu ht hs ha => by
    have h := key_any v va fF [[65], [98]] W hs hu ht ha (by decide) (by decide) (by decide) (by decide)
    rw [vn6] at h; exact h
  have HP : Hid (∀ W : World, Calls Tryd.prog 13 #[.string ⟨#[72, 58, 56, 48]⟩, .string ⟨#[47, 80]⟩] W fun e w' => e = .returned (.string ⟨#[104, 58, 56, 48, 32, 47, 80]⟩) ∧ Below W.heap.size W w') := fun W => by
    have h := primary_any [72, 58, 56, 48] [47, 80] W (by decide) (by decide)
    rw [vn7] at h; exact h
  have HLv := Lib.hid (fun W : World => lives12_any W)
  have HT0 := Lib.hid hT
  have HU0 := Lib.hid hU
  have B0 := Lib.hid (Below.refl w.heap.size w)
  clear hU hT
  go_enter Tryd.func3, Tryd.ntmps3
  go_wp2_with fail
  refine (HLv.out _).mono ?_
  rintro e w1 ⟨rfl, hb⟩
  have B1 := Lib.hid (B0.out.trans (hb.mono B0.out.size))
  clear hb
  go_wp2_with fail
  refine (HO.out ⟨#[86, 97, 114, 121]⟩ ⟨#[97]⟩ _).mono ?_
  rintro e w2 ⟨rfl, hb⟩
  have B2 := Lib.hid (B1.out.trans (hb.mono B1.out.size))
  clear hb
  go_wp2_with fail
  refine (HO.out ⟨#[86, 97, 114, 121]⟩ ⟨#[42]⟩ _).mono ?_
  rintro e w3 ⟨rfl, hb⟩
  have B3 := Lib.hid (B2.out.trans (hb.mono B2.out.size))
  clear hb
  have hb := below_allocV w3 (.cells #[.string ⟨#[86, 97, 114, 121]⟩, .string ⟨#[97]⟩, .string ⟨#[86, 97, 114, 121]⟩, .string ⟨#[42]⟩] 27)
  have hl := isFlds_litW w3 [([86, 97, 114, 121], [97]), ([86, 97, 114, 121], [42])] #[.string ⟨#[86, 97, 114, 121]⟩, .string ⟨#[97]⟩, .string ⟨#[86, 97, 114, 121]⟩, .string ⟨#[42]⟩] rfl (by decide) rfl
  have B4 := Lib.hid (B3.out.trans (hb.mono B3.out.size))
  have L4 := Lib.hid hl
  clear hb hl
  go_wp2_with fail
  refine (HN1.out _ _ L4.out).mono ?_
  rintro e w5 ⟨a1, c1, rfl, hb⟩
  have B5 := Lib.hid (B4.out.trans (hb.mono B4.out.size))
  clear hb
  go_wp2_with fail
  refine (HN2.out _).mono ?_
  rintro e w6 ⟨a2, c2, rfl, hb⟩
  have B6 := Lib.hid (B5.out.trans (hb.mono B5.out.size))
  clear hb
  go_wp2_with fail
  refine (HO.out ⟨#[65]⟩ ⟨#[120, 32, 9, 32, 121]⟩ _).mono ?_
  rintro e w7 ⟨rfl, hb⟩
  have B7 := Lib.hid (B6.out.trans (hb.mono B6.out.size))
  clear hb
  go_wp2_with fail
  refine (HO.out ⟨#[97]⟩ ⟨#[122]⟩ _).mono ?_
  rintro e w8 ⟨rfl, hb⟩
  have B8 := Lib.hid (B7.out.trans (hb.mono B7.out.size))
  clear hb
  have hb := below_allocV w8 (.cells #[.string ⟨#[65]⟩, .string ⟨#[120, 32, 9, 32, 121]⟩, .string ⟨#[97]⟩, .string ⟨#[122]⟩] 27)
  have hl := isFlds_litW w8 fF #[.string ⟨#[65]⟩, .string ⟨#[120, 32, 9, 32, 121]⟩, .string ⟨#[97]⟩, .string ⟨#[122]⟩] rfl (by decide) rfl
  have B9 := Lib.hid (B8.out.trans (hb.mono B8.out.size))
  have L9 := Lib.hid hl
  clear hb hl
  go_upto_region 6 with fail
  generalize hWf : w8.alloc (.cells #[.string ⟨#[65]⟩, .string ⟨#[120, 32, 9, 32, 121]⟩, .string ⟨#[97]⟩, .string ⟨#[122]⟩] 27) = w9 at *
  generalize hgf : w8.heap.size = gf at *
  clear hWf hgf
  go_wp2_with fail
  refine (HO.out ⟨#[97]⟩ ⟨#[120, 32, 121, 44, 32, 122]⟩ _).mono ?_
  rintro e w10 ⟨rfl, hb⟩
  have B10 := Lib.hid (B9.out.trans (hb.mono B9.out.size))
  have LF := Lib.hid (isFlds_below L9.out hb)
  clear hb
  have hb := below_allocV w10 (.cells #[.string ⟨#[97]⟩, .string ⟨#[120, 32, 121, 44, 32, 122]⟩] 27)
  have hl := isFlds_litW w10 gF #[.string ⟨#[97]⟩, .string ⟨#[120, 32, 121, 44, 32, 122]⟩] rfl (by decide) rfl
  have B11 := Lib.hid (B10.out.trans (hb.mono B10.out.size))
  have L11 := Lib.hid hl
  clear hb hl
  have hb := below_allocV w10 (.cells #[.string ⟨#[97]⟩, .string ⟨#[120, 32, 121, 44, 32, 122]⟩] 27)
  have H11 := Lib.hid (⟨isFlds_below LF.out hb, L11.out, HU0.out.later B11.out, HT0.out.later B11.out, B11.out⟩ : VnH w _ _ _)
  clear hb
  go_upto_region 7 with fail
  generalize hWg : w10.alloc (.cells #[.string ⟨#[97]⟩, .string ⟨#[120, 32, 121, 44, 32, 122]⟩] 27) = w11 at *
  generalize hgg : w10.heap.size = gg at *
  clear hWg hgg LF L11 L9 B11
  go_wp2_with fail
  refine (HV1.out _ _ H11.out.ut H11.out.f).mono ?_
  rintro e w12 ⟨rfl, hb⟩
  have H12 := Lib.hid (H11.out.later hb)
  clear hb
  go_wp2_with fail
  refine (HV2.out _ _ H12.out.ut H12.out.f).mono ?_
  rintro e w13 ⟨rfl, hb⟩
  have H13 := Lib.hid (H12.out.later hb)
  clear hb
  go_wp2_with fail
  refine (HO.out ⟨#[98]⟩ ⟨#[]⟩ _).mono ?_
  rintro e w14 ⟨rfl, hb⟩
  have H14 := Lib.hid (H13.out.later hb)
  clear hb
  have hb := below_allocV w14 (.cells #[.string ⟨#[98]⟩, .string ⟨#[]⟩] 27)
  have hl := isFlds_litW w14 [([98], [])] #[.string ⟨#[98]⟩, .string ⟨#[]⟩] rfl (by decide) rfl
  have H15 := Lib.hid (H14.out.later hb)
  have L15 := Lib.hid hl
  clear hb hl
  go_wp2_with fail
  refine (HV3.out _ _ H15.out.ut L15.out).mono ?_
  rintro e w16 ⟨rfl, hb⟩
  have H16 := Lib.hid (H15.out.later hb)
  clear hb
  have hb := below_allocV w16 (.cells #[.string ⟨#[97]⟩, .string ⟨#[98]⟩] 9)
  have hl := isStrs_lit w16 [[97], [98]] #[.string ⟨#[97]⟩, .string ⟨#[98]⟩] 9 2 rfl
  have H17 := Lib.hid (H16.out.later hb)
  have L17 := Lib.hid hl
  clear hb hl
  go_wp2_with fail
  refine (HM1.out _ _ _ _ H17.out.ut L17.out H17.out.f H17.out.g).mono ?_
  rintro e w18 ⟨rfl, hb⟩
  have H18 := Lib.hid (H17.out.later hb)
  clear hb
  have hb := below_allocV w18 (.cells #[.string ⟨#[97]⟩] 9)
  have hl := isStrs_lit w18 [[97]] #[.string ⟨#[97]⟩] 9 1 rfl
  have H19 := Lib.hid (H18.out.later hb)
  have L19 := Lib.hid hl
  clear hb hl
  go_wp2_with fail
  refine (HM2.out _ _ _ H19.out.ut L19.out H19.out.f).mono ?_
  rintro e w20 ⟨rfl, hb⟩
  have H20 := Lib.hid (H19.out.later hb)
  clear hb
  go_wp2_with fail
  refine (HM3.out _ _ H20.out.ut H20.out.f).mono ?_
  rintro e w21 ⟨rfl, hb⟩
  have H21 := Lib.hid (H20.out.later hb)
  clear hb
  have hb := below_allocV w21 (.cells #[.string ⟨#[65]⟩, .string ⟨#[98]⟩] 9)
  have hl := isStrs_lit w21 [[65], [98]] #[.string ⟨#[65]⟩, .string ⟨#[98]⟩] 9 2 rfl
  have H22 := Lib.hid (H21.out.later hb)
  have L22 := Lib.hid hl
  clear hb hl
  go_wp2_with fail
  refine (HK.out _ _ _ H22.out.ut H22.out.tn L22.out H22.out.f).mono ?_
  rintro e w23 ⟨rfl, hb⟩
  have H23 := Lib.hid (H22.out.later hb)
  clear hb
  go_wp2_with fail
  refine (HP.out _).mono ?_
  rintro e w24 ⟨rfl, hb⟩
  have H24 := Lib.hid (H23.out.later hb)
  clear hb
  go_wp2_with fail
  go_ret
  exact ⟨rfl, H24.out.bl⟩
end Tk
end Go.Proofs.YthooghgiokgdhaaDoor
