/- The law FramingNames: the chapter's examples, call by call. -/
import Derived.Test.YtapnlopeipdjmaaDoorFrmE
namespace Go.Proofs.YtapnlopeipdjmaaDoor
open Go.RowKit
namespace Tk

/-- an answer's frame, answered -/
def RspIs (t : ByteArray) (s m : Int) (l : List (Bs × Bs)) (K N S : Int) : Prop := ∀ (W : World) (v : Value), IsFlds W v l → Calls Tryd.prog 14 #[.string t, .int .i64 s, .int .i64 m, v] W fun e w' => e = .returned (.tuple #[.agg #[.int .i64 K, .int .i64 N], .int .i64 S]) ∧ Below W.heap.size W w'
theorem rsp_is (t : ByteArray) (s m : Int) (l : List (Bs × Bs)) (K N S : Nat) (h : rsK (bs t) s m l = K ∧ rsN (bs t) s m l = N ∧ rsS (bs t) s m l = S) (hz : sumF l ≤ 1000000) (hl : l.length ≤ 1048576) : RspIs t s m l K N S := fun W v hs => by
  have := response04_any t s m v l W hs hz hl
  rw [h.1, h.2.1, h.2.2] at this
  exact this
def BareIs (t : ByteArray) (s : Int) (b : Bool) : Prop := ∀ W : World, Calls Tryd.prog 15 #[.string t, .int .i64 s] W fun e w' => e = .returned (.bool b) ∧ W = w'
theorem bare_is (t : ByteArray) (s : Int) (b : Bool) (h : bareB (bs t) s = b) : BareIs t s b := fun W => by
  have := bare_any t s W
  rw [h] at this
  exact this

def ex_lC : List (Bs × Bs) := [([84, 114, 97, 110, 115, 102, 101, 114, 45, 69, 110, 99, 111, 100, 105, 110, 103], [67, 104, 117, 110, 107, 101, 100])]
def ex_lG : List (Bs × Bs) := [([84, 114, 97, 110, 115, 102, 101, 114, 45, 69, 110, 99, 111, 100, 105, 110, 103], [103, 122, 105, 112, 44, 32, 99, 104, 117, 110, 107, 101, 100])]
def ex_l56 : List (Bs × Bs) := [([67, 111, 110, 116, 101, 110, 116, 45, 76, 101, 110, 103, 116, 104], [53]), ([67, 111, 110, 116, 101, 110, 116, 45, 76, 101, 110, 103, 116, 104], [54])]
def ex_lP : List (Bs × Bs) := [([67, 111, 110, 116, 101, 110, 116, 45, 76, 101, 110, 103, 116, 104], [43, 53])]
def ex_lE : List (Bs × Bs) := [([67, 111, 110, 116, 101, 110, 116, 45, 76, 101, 110, 103, 116, 104], [])]
def ex_lN : List (Bs × Bs) := []
def ex_l9 : List (Bs × Bs) := [([67, 111, 110, 116, 101, 110, 116, 45, 76, 101, 110, 103, 116, 104], [57])]
def ex_l0 : List (Bs × Bs) := [([67, 111, 110, 116, 101, 110, 116, 45, 76, 101, 110, 103, 116, 104], [48])]
def ex_lX : List (Bs × Bs) := [([67, 111, 110, 116, 101, 110, 116, 45, 76, 101, 110, 103, 116, 104], [57, 57, 57, 57, 57, 57, 57, 57, 57, 57, 57, 57, 57, 57, 57, 57, 57, 57, 57, 57])]
theorem q1_is : ReqIs 1 ex_lC 3 0 0 := freq_is 1 ex_lC 3 0 0 (by decide +kernel) (by decide) (by decide)
theorem q2_is : ReqIs 0 ex_lC 0 0 400 := freq_is 0 ex_lC 0 0 400 (by decide +kernel) (by decide) (by decide)
theorem q3_is : ReqIs 1 ex_lG 0 0 501 := freq_is 1 ex_lG 0 0 501 (by decide +kernel) (by decide) (by decide)
theorem q4_is : ReqIs 1 ex_l56 0 0 400 := freq_is 1 ex_l56 0 0 400 (by decide +kernel) (by decide) (by decide)
theorem q5_is : ReqIs 1 ex_lP 0 0 400 := freq_is 1 ex_lP 0 0 400 (by decide +kernel) (by decide) (by decide)
theorem q6_is : ReqIs 1 ex_lE 0 0 400 := freq_is 1 ex_lE 0 0 400 (by decide +kernel) (by decide) (by decide)
theorem q7_is : ReqIs 1 ex_lN 1 0 0 := freq_is 1 ex_lN 1 0 0 (by decide +kernel) (by decide) (by decide)
theorem q8_is : ReqIs 1 ex_lX 0 0 400 := freq_is 1 ex_lX 0 0 400 (by decide +kernel) (by decide) (by decide)
theorem r1_is : RspIs ⟨#[71, 69, 84]⟩ 200 1 ex_lN 4 0 0 := rsp_is _ 200 1 ex_lN 4 0 0 (by decide +kernel) (by decide) (by decide)
theorem r2_is : RspIs ⟨#[72, 69, 65, 68]⟩ 200 1 ex_lC 1 0 0 := rsp_is _ 200 1 ex_lC 1 0 0 (by decide +kernel) (by decide) (by decide)
theorem r3_is : RspIs ⟨#[71, 69, 84]⟩ 304 1 ex_l9 1 0 0 := rsp_is _ 304 1 ex_l9 1 0 0 (by decide +kernel) (by decide) (by decide)
theorem r4_is : RspIs ⟨#[71, 69, 84]⟩ 200 1 ex_l0 1 0 0 := rsp_is _ 200 1 ex_l0 1 0 0 (by decide +kernel) (by decide) (by decide)
theorem b1_is : BareIs ⟨#[67, 79, 78, 78, 69, 67, 84]⟩ 200 true := bare_is _ 200 _ (by decide +kernel)
theorem b2_is : BareIs ⟨#[67, 79, 78, 78, 69, 67, 84]⟩ 404 false := bare_is _ 404 _ (by decide +kernel)
theorem b3_is : BareIs ⟨#[71, 69, 84]⟩ 101 true := bare_is _ 101 _ (by decide +kernel)
theorem b4_is : BareIs ⟨#[71, 69, 84]⟩ 204 true := bare_is _ 204 _ (by decide +kernel)
theorem b5_is : BareIs ⟨#[104, 101, 97, 100]⟩ 200 false := bare_is _ 200 _ (by decide +kernel)

set_option maxRecDepth 100000 in
set_option maxHeartbeats 32000000 in
theorem fnames_any (w : World) : Calls Tryd.prog 3 #[] w (Yes2 w) := by
  have HL := Lib.hid (lives04_any w)
  have q1 := q1_is
  have q2 := q2_is
  have q3 := q3_is
  have q4 := q4_is
  have q5 := q5_is
  have q6 := q6_is
  have q7 := q7_is
  have q8 := q8_is
  have r1 := r1_is
  have r2 := r2_is
  have r3 := r3_is
  have r4 := r4_is
  have b1 := b1_is
  have b2 := b2_is
  have b3 := b3_is
  have b4 := b4_is
  have b5 := b5_is
  unfold ReqIs at q1 q2 q3 q4 q5 q6 q7 q8
  unfold RspIs at r1 r2 r3 r4
  unfold BareIs at b1 b2 b3 b4 b5
  have Cq1 := Lib.hid q1
  have Cq2 := Lib.hid q2
  have Cq3 := Lib.hid q3
  have Cq4 := Lib.hid q4
  have Cq5 := Lib.hid q5
  have Cq6 := Lib.hid q6
  have Cq7 := Lib.hid q7
  have Cq8 := Lib.hid q8
  have Cr1 := Lib.hid r1
  have Cr2 := Lib.hid r2
  have Cr3 := Lib.hid r3
  have Cr4 := Lib.hid r4
  have Cb1 := Lib.hid b1
  have Cb2 := Lib.hid b2
  have Cb3 := Lib.hid b3
  have Cb4 := Lib.hid b4
  have Cb5 := Lib.hid b5
  clear q1 q2 q3 q4 q5 q6 q7 q8 r1 r2 r3 r4 b1 b2 b3 b4 b5
  unfold Yes2 at HL ⊢
  go_enter Tryd.func3, Tryd.ntmps3
  go_wp2_with fail
  refine HL.out.mono ?_
  rintro e w0 ⟨rfl, hb⟩
  have HB0 := Lib.hid hb
  clear hb
  go_wp2_with fail
  refine (one04_any _ _ _).mono ?_
  rintro e w1 ⟨rfl, hb⟩
  have HB1 := Lib.hid (HB0.out.trans (hb.mono HB0.out.size))
  clear hb HB0
  have hbal : Below w1.heap.size w1 (w1.alloc (Obj.cells #[.string ⟨#[84, 114, 97, 110, 115, 102, 101, 114, 45, 69, 110, 99, 111, 100, 105, 110, 103]⟩, .string ⟨#[67, 104, 117, 110, 107, 101, 100]⟩] 24)) := (Below.refl _ _).alloc (Nat.le_refl _) _
  have HB2 := Lib.hid (HB1.out.trans (hbal.mono HB1.out.size))
  clear hbal HB1
  have F4 := Lib.hid (isFlds_cells w1 ex_lC #[.string ⟨#[84, 114, 97, 110, 115, 102, 101, 114, 45, 69, 110, 99, 111, 100, 105, 110, 103]⟩, .string ⟨#[67, 104, 117, 110, 107, 101, 100]⟩] 1 rfl rfl)
  go_wp2_with fail
  generalize w1.alloc (Obj.cells #[.string ⟨#[84, 114, 97, 110, 115, 102, 101, 114, 45, 69, 110, 99, 111, 100, 105, 110, 103]⟩, .string ⟨#[67, 104, 117, 110, 107, 101, 100]⟩] 24) = w3 at *
  generalize w1.heap.size = g3 at *
  refine (Cq1.out _ _ F4.out).mono ?_
  rintro e w5 ⟨rfl, hb⟩
  have HB5 := Lib.hid (HB2.out.trans (hb.mono HB2.out.size))
  have F6 := Lib.hid (isFlds_below F4.out hb)
  clear hb HB2 F4
  have hbal : Below w5.heap.size w5 (w5.alloc (Obj.cells #[.int .i64 3, .int .i64 0] 28)) := (Below.refl _ _).alloc (Nat.le_refl _) _
  have HB7 := Lib.hid (HB5.out.trans (hbal.mono HB5.out.size))
  have F8 := Lib.hid (isFlds_below F6.out hbal)
  clear hbal HB5 F6
  have F10 := Lib.hid (Two.new w5 28 (.int .i64 3) (.int .i64 0))
  go_wp2_with fail
  generalize w5.alloc (Obj.cells #[.int .i64 3, .int .i64 0] 28) = w9 at *
  generalize w5.heap.size = g9 at *
  refine (Cq2.out _ _ F8.out).mono ?_
  rintro e w11 ⟨rfl, hb⟩
  have HB11 := Lib.hid (HB7.out.trans (hb.mono HB7.out.size))
  have F12 := Lib.hid (isFlds_below F8.out hb)
  have F13 := Lib.hid (F10.out.later hb)
  clear hb HB7 F8 F10
  have hbal : Below w11.heap.size w11 (w11.alloc (Obj.cells #[.int .i64 0, .int .i64 0] 28)) := (Below.refl _ _).alloc (Nat.le_refl _) _
  have HB14 := Lib.hid (HB11.out.trans (hbal.mono HB11.out.size))
  have F15 := Lib.hid (isFlds_below F12.out hbal)
  have F16 := Lib.hid (F13.out.later hbal)
  clear hbal HB11 F12 F13
  go_wp2_with fail
  generalize w11.alloc (Obj.cells #[.int .i64 0, .int .i64 0] 28) = w17 at *
  generalize w11.heap.size = g17 at *
  refine (one04_any _ _ _).mono ?_
  rintro e w18 ⟨rfl, hb⟩
  have HB18 := Lib.hid (HB14.out.trans (hb.mono HB14.out.size))
  have F19 := Lib.hid (isFlds_below F15.out hb)
  have F20 := Lib.hid (F16.out.later hb)
  clear hb HB14 F15 F16
  have hbal : Below w18.heap.size w18 (w18.alloc (Obj.cells #[.string ⟨#[84, 114, 97, 110, 115, 102, 101, 114, 45, 69, 110, 99, 111, 100, 105, 110, 103]⟩, .string ⟨#[103, 122, 105, 112, 44, 32, 99, 104, 117, 110, 107, 101, 100]⟩] 24)) := (Below.refl _ _).alloc (Nat.le_refl _) _
  have HB21 := Lib.hid (HB18.out.trans (hbal.mono HB18.out.size))
  have F22 := Lib.hid (isFlds_below F19.out hbal)
  have F23 := Lib.hid (F20.out.later hbal)
  clear hbal HB18 F19 F20
  have F25 := Lib.hid (isFlds_cells w18 ex_lG #[.string ⟨#[84, 114, 97, 110, 115, 102, 101, 114, 45, 69, 110, 99, 111, 100, 105, 110, 103]⟩, .string ⟨#[103, 122, 105, 112, 44, 32, 99, 104, 117, 110, 107, 101, 100]⟩] 1 rfl rfl)
  go_wp2_with fail
  generalize w18.alloc (Obj.cells #[.string ⟨#[84, 114, 97, 110, 115, 102, 101, 114, 45, 69, 110, 99, 111, 100, 105, 110, 103]⟩, .string ⟨#[103, 122, 105, 112, 44, 32, 99, 104, 117, 110, 107, 101, 100]⟩] 24) = w24 at *
  generalize w18.heap.size = g24 at *
  refine (Cq3.out _ _ F25.out).mono ?_
  rintro e w26 ⟨rfl, hb⟩
  have HB26 := Lib.hid (HB21.out.trans (hb.mono HB21.out.size))
  have F27 := Lib.hid (isFlds_below F22.out hb)
  have F28 := Lib.hid (F23.out.later hb)
  have F29 := Lib.hid (isFlds_below F25.out hb)
  clear hb HB21 F22 F23 F25
  clear F29
  have hbal : Below w26.heap.size w26 (w26.alloc (Obj.cells #[.int .i64 0, .int .i64 0] 28)) := (Below.refl _ _).alloc (Nat.le_refl _) _
  have HB30 := Lib.hid (HB26.out.trans (hbal.mono HB26.out.size))
  have F31 := Lib.hid (isFlds_below F27.out hbal)
  have F32 := Lib.hid (F28.out.later hbal)
  clear hbal HB26 F27 F28
  go_wp2_with fail
  generalize w26.alloc (Obj.cells #[.int .i64 0, .int .i64 0] 28) = w33 at *
  generalize w26.heap.size = g33 at *
  refine (one04_any _ _ _).mono ?_
  rintro e w34 ⟨rfl, hb⟩
  have HB34 := Lib.hid (HB30.out.trans (hb.mono HB30.out.size))
  have F35 := Lib.hid (isFlds_below F31.out hb)
  have F36 := Lib.hid (F32.out.later hb)
  clear hb HB30 F31 F32
  go_wp2_with fail
  refine (one04_any _ _ _).mono ?_
  rintro e w37 ⟨rfl, hb⟩
  have HB37 := Lib.hid (HB34.out.trans (hb.mono HB34.out.size))
  have F38 := Lib.hid (isFlds_below F35.out hb)
  have F39 := Lib.hid (F36.out.later hb)
  clear hb HB34 F35 F36
  have hbal : Below w37.heap.size w37 (w37.alloc (Obj.cells #[.string ⟨#[67, 111, 110, 116, 101, 110, 116, 45, 76, 101, 110, 103, 116, 104]⟩, .string ⟨#[53]⟩, .string ⟨#[67, 111, 110, 116, 101, 110, 116, 45, 76, 101, 110, 103, 116, 104]⟩, .string ⟨#[54]⟩] 24)) := (Below.refl _ _).alloc (Nat.le_refl _) _
  have HB40 := Lib.hid (HB37.out.trans (hbal.mono HB37.out.size))
  have F41 := Lib.hid (isFlds_below F38.out hbal)
  have F42 := Lib.hid (F39.out.later hbal)
  clear hbal HB37 F38 F39
  have F44 := Lib.hid (isFlds_cells w37 ex_l56 #[.string ⟨#[67, 111, 110, 116, 101, 110, 116, 45, 76, 101, 110, 103, 116, 104]⟩, .string ⟨#[53]⟩, .string ⟨#[67, 111, 110, 116, 101, 110, 116, 45, 76, 101, 110, 103, 116, 104]⟩, .string ⟨#[54]⟩] 2 rfl rfl)
  go_wp2_with fail
  generalize w37.alloc (Obj.cells #[.string ⟨#[67, 111, 110, 116, 101, 110, 116, 45, 76, 101, 110, 103, 116, 104]⟩, .string ⟨#[53]⟩, .string ⟨#[67, 111, 110, 116, 101, 110, 116, 45, 76, 101, 110, 103, 116, 104]⟩, .string ⟨#[54]⟩] 24) = w43 at *
  generalize w37.heap.size = g43 at *
  refine (Cq4.out _ _ F44.out).mono ?_
  rintro e w45 ⟨rfl, hb⟩
  have HB45 := Lib.hid (HB40.out.trans (hb.mono HB40.out.size))
  have F46 := Lib.hid (isFlds_below F41.out hb)
  have F47 := Lib.hid (F42.out.later hb)
  have F48 := Lib.hid (isFlds_below F44.out hb)
  clear hb HB40 F41 F42 F44
  clear F48
  have hbal : Below w45.heap.size w45 (w45.alloc (Obj.cells #[.int .i64 0, .int .i64 0] 28)) := (Below.refl _ _).alloc (Nat.le_refl _) _
  have HB49 := Lib.hid (HB45.out.trans (hbal.mono HB45.out.size))
  have F50 := Lib.hid (isFlds_below F46.out hbal)
  have F51 := Lib.hid (F47.out.later hbal)
  clear hbal HB45 F46 F47
  go_wp2_with fail
  generalize w45.alloc (Obj.cells #[.int .i64 0, .int .i64 0] 28) = w52 at *
  generalize w45.heap.size = g52 at *
  refine (one04_any _ _ _).mono ?_
  rintro e w53 ⟨rfl, hb⟩
  have HB53 := Lib.hid (HB49.out.trans (hb.mono HB49.out.size))
  have F54 := Lib.hid (isFlds_below F50.out hb)
  have F55 := Lib.hid (F51.out.later hb)
  clear hb HB49 F50 F51
  have hbal : Below w53.heap.size w53 (w53.alloc (Obj.cells #[.string ⟨#[67, 111, 110, 116, 101, 110, 116, 45, 76, 101, 110, 103, 116, 104]⟩, .string ⟨#[43, 53]⟩] 24)) := (Below.refl _ _).alloc (Nat.le_refl _) _
  have HB56 := Lib.hid (HB53.out.trans (hbal.mono HB53.out.size))
  have F57 := Lib.hid (isFlds_below F54.out hbal)
  have F58 := Lib.hid (F55.out.later hbal)
  clear hbal HB53 F54 F55
  have F60 := Lib.hid (isFlds_cells w53 ex_lP #[.string ⟨#[67, 111, 110, 116, 101, 110, 116, 45, 76, 101, 110, 103, 116, 104]⟩, .string ⟨#[43, 53]⟩] 1 rfl rfl)
  go_wp2_with fail
  generalize w53.alloc (Obj.cells #[.string ⟨#[67, 111, 110, 116, 101, 110, 116, 45, 76, 101, 110, 103, 116, 104]⟩, .string ⟨#[43, 53]⟩] 24) = w59 at *
  generalize w53.heap.size = g59 at *
  refine (Cq5.out _ _ F60.out).mono ?_
  rintro e w61 ⟨rfl, hb⟩
  have HB61 := Lib.hid (HB56.out.trans (hb.mono HB56.out.size))
  have F62 := Lib.hid (isFlds_below F57.out hb)
  have F63 := Lib.hid (F58.out.later hb)
  have F64 := Lib.hid (isFlds_below F60.out hb)
  clear hb HB56 F57 F58 F60
  clear F64
  have hbal : Below w61.heap.size w61 (w61.alloc (Obj.cells #[.int .i64 0, .int .i64 0] 28)) := (Below.refl _ _).alloc (Nat.le_refl _) _
  have HB65 := Lib.hid (HB61.out.trans (hbal.mono HB61.out.size))
  have F66 := Lib.hid (isFlds_below F62.out hbal)
  have F67 := Lib.hid (F63.out.later hbal)
  clear hbal HB61 F62 F63
  go_wp2_with fail
  generalize w61.alloc (Obj.cells #[.int .i64 0, .int .i64 0] 28) = w68 at *
  generalize w61.heap.size = g68 at *
  refine (one04_any _ _ _).mono ?_
  rintro e w69 ⟨rfl, hb⟩
  have HB69 := Lib.hid (HB65.out.trans (hb.mono HB65.out.size))
  have F70 := Lib.hid (isFlds_below F66.out hb)
  have F71 := Lib.hid (F67.out.later hb)
  clear hb HB65 F66 F67
  have hbal : Below w69.heap.size w69 (w69.alloc (Obj.cells #[.string ⟨#[67, 111, 110, 116, 101, 110, 116, 45, 76, 101, 110, 103, 116, 104]⟩, .string ⟨#[]⟩] 24)) := (Below.refl _ _).alloc (Nat.le_refl _) _
  have HB72 := Lib.hid (HB69.out.trans (hbal.mono HB69.out.size))
  have F73 := Lib.hid (isFlds_below F70.out hbal)
  have F74 := Lib.hid (F71.out.later hbal)
  clear hbal HB69 F70 F71
  have F76 := Lib.hid (isFlds_cells w69 ex_lE #[.string ⟨#[67, 111, 110, 116, 101, 110, 116, 45, 76, 101, 110, 103, 116, 104]⟩, .string ⟨#[]⟩] 1 rfl rfl)
  go_wp2_with fail
  generalize w69.alloc (Obj.cells #[.string ⟨#[67, 111, 110, 116, 101, 110, 116, 45, 76, 101, 110, 103, 116, 104]⟩, .string ⟨#[]⟩] 24) = w75 at *
  generalize w69.heap.size = g75 at *
  refine (Cq6.out _ _ F76.out).mono ?_
  rintro e w77 ⟨rfl, hb⟩
  have HB77 := Lib.hid (HB72.out.trans (hb.mono HB72.out.size))
  have F78 := Lib.hid (isFlds_below F73.out hb)
  have F79 := Lib.hid (F74.out.later hb)
  have F80 := Lib.hid (isFlds_below F76.out hb)
  clear hb HB72 F73 F74 F76
  clear F80
  have hbal : Below w77.heap.size w77 (w77.alloc (Obj.cells #[.int .i64 0, .int .i64 0] 28)) := (Below.refl _ _).alloc (Nat.le_refl _) _
  have HB81 := Lib.hid (HB77.out.trans (hbal.mono HB77.out.size))
  have F82 := Lib.hid (isFlds_below F78.out hbal)
  have F83 := Lib.hid (F79.out.later hbal)
  clear hbal HB77 F78 F79
  go_wp2_with fail
  generalize w77.alloc (Obj.cells #[.int .i64 0, .int .i64 0] 28) = w84 at *
  generalize w77.heap.size = g84 at *
  refine (Cq7.out _ _ (isFlds_nil _)).mono ?_
  rintro e w85 ⟨rfl, hb⟩
  have HB85 := Lib.hid (HB81.out.trans (hb.mono HB81.out.size))
  have F86 := Lib.hid (isFlds_below F82.out hb)
  have F87 := Lib.hid (F83.out.later hb)
  clear hb HB81 F82 F83
  have hbal : Below w85.heap.size w85 (w85.alloc (Obj.cells #[.int .i64 1, .int .i64 0] 28)) := (Below.refl _ _).alloc (Nat.le_refl _) _
  have HB88 := Lib.hid (HB85.out.trans (hbal.mono HB85.out.size))
  have F89 := Lib.hid (isFlds_below F86.out hbal)
  have F90 := Lib.hid (F87.out.later hbal)
  clear hbal HB85 F86 F87
  have F92 := Lib.hid (Two.new w85 28 (.int .i64 1) (.int .i64 0))
  go_wp2_with fail
  generalize w85.alloc (Obj.cells #[.int .i64 1, .int .i64 0] 28) = w91 at *
  generalize w85.heap.size = g91 at *
  refine (Cr1.out _ _ (isFlds_nil _)).mono ?_
  rintro e w93 ⟨rfl, hb⟩
  have HB93 := Lib.hid (HB88.out.trans (hb.mono HB88.out.size))
  have F94 := Lib.hid (isFlds_below F89.out hb)
  have F95 := Lib.hid (F90.out.later hb)
  have F96 := Lib.hid (F92.out.later hb)
  clear hb HB88 F89 F90 F92
  have hbal : Below w93.heap.size w93 (w93.alloc (Obj.cells #[.int .i64 4, .int .i64 0] 28)) := (Below.refl _ _).alloc (Nat.le_refl _) _
  have HB97 := Lib.hid (HB93.out.trans (hbal.mono HB93.out.size))
  have F98 := Lib.hid (isFlds_below F94.out hbal)
  have F99 := Lib.hid (F95.out.later hbal)
  have F100 := Lib.hid (F96.out.later hbal)
  clear hbal HB93 F94 F95 F96
  have F102 := Lib.hid (Two.new w93 28 (.int .i64 4) (.int .i64 0))
  go_wp2_with fail
  generalize w93.alloc (Obj.cells #[.int .i64 4, .int .i64 0] 28) = w101 at *
  generalize w93.heap.size = g101 at *
  refine (Cr2.out _ _ F98.out).mono ?_
  rintro e w103 ⟨rfl, hb⟩
  have HB103 := Lib.hid (HB97.out.trans (hb.mono HB97.out.size))
  have F104 := Lib.hid (isFlds_below F98.out hb)
  have F105 := Lib.hid (F99.out.later hb)
  have F106 := Lib.hid (F100.out.later hb)
  have F107 := Lib.hid (F102.out.later hb)
  clear hb HB97 F98 F99 F100 F102
  clear F104
  have hbal : Below w103.heap.size w103 (w103.alloc (Obj.cells #[.int .i64 1, .int .i64 0] 28)) := (Below.refl _ _).alloc (Nat.le_refl _) _
  have HB108 := Lib.hid (HB103.out.trans (hbal.mono HB103.out.size))
  have F109 := Lib.hid (F105.out.later hbal)
  have F110 := Lib.hid (F106.out.later hbal)
  have F111 := Lib.hid (F107.out.later hbal)
  clear hbal HB103 F105 F106 F107
  have F113 := Lib.hid (Two.new w103 28 (.int .i64 1) (.int .i64 0))
  go_wp2_with fail
  generalize w103.alloc (Obj.cells #[.int .i64 1, .int .i64 0] 28) = w112 at *
  generalize w103.heap.size = g112 at *
  refine (one04_any _ _ _).mono ?_
  rintro e w114 ⟨rfl, hb⟩
  have HB114 := Lib.hid (HB108.out.trans (hb.mono HB108.out.size))
  have F115 := Lib.hid (F109.out.later hb)
  have F116 := Lib.hid (F110.out.later hb)
  have F117 := Lib.hid (F111.out.later hb)
  have F118 := Lib.hid (F113.out.later hb)
  clear hb HB108 F109 F110 F111 F113
  have hbal : Below w114.heap.size w114 (w114.alloc (Obj.cells #[.string ⟨#[67, 111, 110, 116, 101, 110, 116, 45, 76, 101, 110, 103, 116, 104]⟩, .string ⟨#[57]⟩] 24)) := (Below.refl _ _).alloc (Nat.le_refl _) _
  have HB119 := Lib.hid (HB114.out.trans (hbal.mono HB114.out.size))
  have F120 := Lib.hid (F115.out.later hbal)
  have F121 := Lib.hid (F116.out.later hbal)
  have F122 := Lib.hid (F117.out.later hbal)
  have F123 := Lib.hid (F118.out.later hbal)
  clear hbal HB114 F115 F116 F117 F118
  have F125 := Lib.hid (isFlds_cells w114 ex_l9 #[.string ⟨#[67, 111, 110, 116, 101, 110, 116, 45, 76, 101, 110, 103, 116, 104]⟩, .string ⟨#[57]⟩] 1 rfl rfl)
  go_wp2_with fail
  generalize w114.alloc (Obj.cells #[.string ⟨#[67, 111, 110, 116, 101, 110, 116, 45, 76, 101, 110, 103, 116, 104]⟩, .string ⟨#[57]⟩] 24) = w124 at *
  generalize w114.heap.size = g124 at *
  refine (Cr3.out _ _ F125.out).mono ?_
  rintro e w126 ⟨rfl, hb⟩
  have HB126 := Lib.hid (HB119.out.trans (hb.mono HB119.out.size))
  have F127 := Lib.hid (F120.out.later hb)
  have F128 := Lib.hid (F121.out.later hb)
  have F129 := Lib.hid (F122.out.later hb)
  have F130 := Lib.hid (F123.out.later hb)
  have F131 := Lib.hid (isFlds_below F125.out hb)
  clear hb HB119 F120 F121 F122 F123 F125
  clear F131
  have hbal : Below w126.heap.size w126 (w126.alloc (Obj.cells #[.int .i64 1, .int .i64 0] 28)) := (Below.refl _ _).alloc (Nat.le_refl _) _
  have HB132 := Lib.hid (HB126.out.trans (hbal.mono HB126.out.size))
  have F133 := Lib.hid (F127.out.later hbal)
  have F134 := Lib.hid (F128.out.later hbal)
  have F135 := Lib.hid (F129.out.later hbal)
  have F136 := Lib.hid (F130.out.later hbal)
  clear hbal HB126 F127 F128 F129 F130
  have F138 := Lib.hid (Two.new w126 28 (.int .i64 1) (.int .i64 0))
  go_wp2_with fail
  generalize w126.alloc (Obj.cells #[.int .i64 1, .int .i64 0] 28) = w137 at *
  generalize w126.heap.size = g137 at *
  refine (one04_any _ _ _).mono ?_
  rintro e w139 ⟨rfl, hb⟩
  have HB139 := Lib.hid (HB132.out.trans (hb.mono HB132.out.size))
  have F140 := Lib.hid (F133.out.later hb)
  have F141 := Lib.hid (F134.out.later hb)
  have F142 := Lib.hid (F135.out.later hb)
  have F143 := Lib.hid (F136.out.later hb)
  have F144 := Lib.hid (F138.out.later hb)
  clear hb HB132 F133 F134 F135 F136 F138
  have hbal : Below w139.heap.size w139 (w139.alloc (Obj.cells #[.string ⟨#[67, 111, 110, 116, 101, 110, 116, 45, 76, 101, 110, 103, 116, 104]⟩, .string ⟨#[48]⟩] 24)) := (Below.refl _ _).alloc (Nat.le_refl _) _
  have HB145 := Lib.hid (HB139.out.trans (hbal.mono HB139.out.size))
  have F146 := Lib.hid (F140.out.later hbal)
  have F147 := Lib.hid (F141.out.later hbal)
  have F148 := Lib.hid (F142.out.later hbal)
  have F149 := Lib.hid (F143.out.later hbal)
  have F150 := Lib.hid (F144.out.later hbal)
  clear hbal HB139 F140 F141 F142 F143 F144
  have F152 := Lib.hid (isFlds_cells w139 ex_l0 #[.string ⟨#[67, 111, 110, 116, 101, 110, 116, 45, 76, 101, 110, 103, 116, 104]⟩, .string ⟨#[48]⟩] 1 rfl rfl)
  go_wp2_with fail
  generalize w139.alloc (Obj.cells #[.string ⟨#[67, 111, 110, 116, 101, 110, 116, 45, 76, 101, 110, 103, 116, 104]⟩, .string ⟨#[48]⟩] 24) = w151 at *
  generalize w139.heap.size = g151 at *
  refine (Cr4.out _ _ F152.out).mono ?_
  rintro e w153 ⟨rfl, hb⟩
  have HB153 := Lib.hid (HB145.out.trans (hb.mono HB145.out.size))
  have F154 := Lib.hid (F146.out.later hb)
  have F155 := Lib.hid (F147.out.later hb)
  have F156 := Lib.hid (F148.out.later hb)
  have F157 := Lib.hid (F149.out.later hb)
  have F158 := Lib.hid (F150.out.later hb)
  have F159 := Lib.hid (isFlds_below F152.out hb)
  clear hb HB145 F146 F147 F148 F149 F150 F152
  clear F159
  have hbal : Below w153.heap.size w153 (w153.alloc (Obj.cells #[.int .i64 1, .int .i64 0] 28)) := (Below.refl _ _).alloc (Nat.le_refl _) _
  have HB160 := Lib.hid (HB153.out.trans (hbal.mono HB153.out.size))
  have F161 := Lib.hid (F154.out.later hbal)
  have F162 := Lib.hid (F155.out.later hbal)
  have F163 := Lib.hid (F156.out.later hbal)
  have F164 := Lib.hid (F157.out.later hbal)
  have F165 := Lib.hid (F158.out.later hbal)
  clear hbal HB153 F154 F155 F156 F157 F158
  have F167 := Lib.hid (Two.new w153 28 (.int .i64 1) (.int .i64 0))
  go_wp2_with fail
  generalize w153.alloc (Obj.cells #[.int .i64 1, .int .i64 0] 28) = w166 at *
  generalize w153.heap.size = g166 at *
  refine (one04_any _ _ _).mono ?_
  rintro e w168 ⟨rfl, hb⟩
  have HB168 := Lib.hid (HB160.out.trans (hb.mono HB160.out.size))
  have F169 := Lib.hid (F161.out.later hb)
  have F170 := Lib.hid (F162.out.later hb)
  have F171 := Lib.hid (F163.out.later hb)
  have F172 := Lib.hid (F164.out.later hb)
  have F173 := Lib.hid (F165.out.later hb)
  have F174 := Lib.hid (F167.out.later hb)
  clear hb HB160 F161 F162 F163 F164 F165 F167
  have hbal : Below w168.heap.size w168 (w168.alloc (Obj.cells #[.string ⟨#[67, 111, 110, 116, 101, 110, 116, 45, 76, 101, 110, 103, 116, 104]⟩, .string ⟨#[57, 57, 57, 57, 57, 57, 57, 57, 57, 57, 57, 57, 57, 57, 57, 57, 57, 57, 57, 57]⟩] 24)) := (Below.refl _ _).alloc (Nat.le_refl _) _
  have HB175 := Lib.hid (HB168.out.trans (hbal.mono HB168.out.size))
  have F176 := Lib.hid (F169.out.later hbal)
  have F177 := Lib.hid (F170.out.later hbal)
  have F178 := Lib.hid (F171.out.later hbal)
  have F179 := Lib.hid (F172.out.later hbal)
  have F180 := Lib.hid (F173.out.later hbal)
  have F181 := Lib.hid (F174.out.later hbal)
  clear hbal HB168 F169 F170 F171 F172 F173 F174
  have F183 := Lib.hid (isFlds_cells w168 ex_lX #[.string ⟨#[67, 111, 110, 116, 101, 110, 116, 45, 76, 101, 110, 103, 116, 104]⟩, .string ⟨#[57, 57, 57, 57, 57, 57, 57, 57, 57, 57, 57, 57, 57, 57, 57, 57, 57, 57, 57, 57]⟩] 1 rfl rfl)
  go_wp2_with fail
  generalize w168.alloc (Obj.cells #[.string ⟨#[67, 111, 110, 116, 101, 110, 116, 45, 76, 101, 110, 103, 116, 104]⟩, .string ⟨#[57, 57, 57, 57, 57, 57, 57, 57, 57, 57, 57, 57, 57, 57, 57, 57, 57, 57, 57, 57]⟩] 24) = w182 at *
  generalize w168.heap.size = g182 at *
  refine (Cq8.out _ _ F183.out).mono ?_
  rintro e w184 ⟨rfl, hb⟩
  have HB184 := Lib.hid (HB175.out.trans (hb.mono HB175.out.size))
  have F185 := Lib.hid (F176.out.later hb)
  have F186 := Lib.hid (F177.out.later hb)
  have F187 := Lib.hid (F178.out.later hb)
  have F188 := Lib.hid (F179.out.later hb)
  have F189 := Lib.hid (F180.out.later hb)
  have F190 := Lib.hid (F181.out.later hb)
  have F191 := Lib.hid (isFlds_below F183.out hb)
  clear hb HB175 F176 F177 F178 F179 F180 F181 F183
  clear F191
  have hbal : Below w184.heap.size w184 (w184.alloc (Obj.cells #[.int .i64 0, .int .i64 0] 28)) := (Below.refl _ _).alloc (Nat.le_refl _) _
  have HB192 := Lib.hid (HB184.out.trans (hbal.mono HB184.out.size))
  have F193 := Lib.hid (F185.out.later hbal)
  have F194 := Lib.hid (F186.out.later hbal)
  have F195 := Lib.hid (F187.out.later hbal)
  have F196 := Lib.hid (F188.out.later hbal)
  have F197 := Lib.hid (F189.out.later hbal)
  have F198 := Lib.hid (F190.out.later hbal)
  clear hbal HB184 F185 F186 F187 F188 F189 F190
  have za := F193.out.c0
  have zb := F194.out.c0
  have zc := F195.out.c0
  have zd := F196.out.c0
  have zn := F197.out.c0
  have zp := F198.out.c0
  clear F193 F194 F195 F196 F197 F198 Cq1 Cq2 Cq3 Cq4 Cq5 Cq6 Cq7 Cq8 Cr1 Cr2 Cr3 Cr4 HL
  go_wp2_with fail
  generalize w184.alloc (Obj.cells #[.int .i64 0, .int .i64 0] 28) = w199 at *
  generalize w184.heap.size = g199 at *
  refine (Cb1.out _).mono ?_
  rintro e w' ⟨rfl, rfl⟩
  go_wp2_with fail
  refine (Cb2.out _).mono ?_
  rintro e w' ⟨rfl, rfl⟩
  go_wp2_with fail
  refine (Cb3.out _).mono ?_
  rintro e w' ⟨rfl, rfl⟩
  go_wp2_with fail
  refine (Cb4.out _).mono ?_
  rintro e w' ⟨rfl, rfl⟩
  go_wp2_with fail
  refine (Cb5.out _).mono ?_
  rintro e w' ⟨rfl, rfl⟩
  go_wp2_with fail
  go_ret
  exact ⟨rfl, HB192.out⟩
end Tk
end Go.Proofs.YtapnlopeipdjmaaDoor
