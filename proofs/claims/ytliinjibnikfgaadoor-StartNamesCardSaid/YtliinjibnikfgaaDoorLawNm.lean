/- The law StartNames: the chapter's examples, call by call. -/
import Derived.Test.YtliinjibnikfgaaDoorStaL
import Derived.Test.YtliinjibnikfgaaDoorStaG
namespace Go.Proofs.YtliinjibnikfgaaDoor
open Go.RowKit
namespace Tk

theorem status_is (s : ByteArray) (m n : Nat) (r : Bs) (x : Nat) (hs : s.size ≤ 1099511627) (h : (staM (bs s), staN (bs s), staR (bs s), staE (bs s)) = (m, n, r, x)) (W : World) :
    Calls Tryd.prog 10 #[.string s] W fun e w' => e = .returned (.tuple #[.int .i64 (m : Int), .int .i64 (n : Int), .string (mkS r), .int .i64 (x : Int)]) ∧ Below W.heap.size W w' := by
  injection h with h1 h
  injection h with h2 h
  injection h with h3 h4
  subst h1 h2 h3 h4
  exact status_any s W hs
theorem rline_is (m t : ByteArray) (n : Int) (l : Bs) (x : Int) (hm : m.size ≤ 1099511627) (ht : t.size ≤ 1099511627) (h : (rlS (bs m) (bs t) n, rlE (bs m) (bs t) n) = (l, x)) (W : World) :
    Calls Tryd.prog 12 #[.string m, .string t, .int .i64 n] W fun e w' => e = .returned (.tuple #[.string (mkS l), .int .i64 x]) ∧ Below W.heap.size W w' := by
  injection h with h1 h2
  subst h1 h2
  exact requestLine_any m t n W hm ht
theorem sline_is (m n : Int) (r : ByteArray) (l : Bs) (x : Int) (hr : r.size ≤ 1099511627) (h : slS m n (bs r) = l ∧ slE m n (bs r) = x) (W : World) (hT : Tens W) :
    Calls Tryd.prog 13 #[.int .i64 m, .int .i64 n, .string r] W fun e w' => e = .returned (.tuple #[.string (mkS l), .int .i64 x]) ∧ Below W.heap.size W w' := by
  obtain ⟨h1, h2⟩ := h
  subst h1 h2
  exact statusLine_any m n r W hT hr
theorem host_is2 (s : ByteArray) (b : Bool) (hs : s.size ≤ 1099511627) (h : hostL (bs s) = b) (W : World) :
    Calls Tryd.prog 16 #[.string s] W fun e w' => e = .returned (.bool b) ∧ Below W.heap.size W w' := by
  subst h
  exact host_any s W hs
theorem sl304 : slS 1 304 [120] = [72, 84, 84, 80, 47, 49, 46, 49, 32, 51, 48, 52, 32, 120] ∧ slE 1 304 [120] = 0 := by
  have hb : slB 1 304 [120] = true := by decide +kernel
  obtain ⟨a, b⟩ := sl_yes hb
  rw [a, b]
  unfold staLine
  rw [show (304 : Int).toNat = 304 from rfl, digL_three 304 (by omega) (by omega)]
  exact ⟨by decide, rfl⟩
theorem sl600 : slS 1 600 [120] = [] ∧ slE 1 600 [120] = 4 := sl_no (by decide +kernel)

set_option maxHeartbeats 4000000 in
set_option maxRecDepth 100000 in
theorem tgf_is (m s : ByteArray) (f : Int) (H P : ByteArray) (hm : m.size ≤ 1000000000) (hs : s.size ≤ 1000000000) (h : ((tgt (bs m) (bs s)).1 : Int) = f ∧ mkS (tgt (bs m) (bs s)).2.1 = H ∧ mkS (tgt (bs m) (bs s)).2.2 = P) (W : World) :
    Calls Tryd.prog 14 #[.string m, .string s] W fun e w' => e = .returned (.agg #[.int .i64 f, .string H, .string P]) ∧ Below W.heap.size W w' := by
  have ht := fun W => target_any m s W hm hs
  unfold TgPost tgV at ht
  obtain ⟨h1, h2, h3⟩ := h
  rw [h1, h2, h3] at ht
  have HT := Lib.hid ht
  have HN := Lib.hid (Thr.new W 32 (.int .i64 0) (.string ⟨#[]⟩) (.string ⟨#[]⟩))
  have HB0 := Lib.hid (show Below W.heap.size W (W.alloc (.cells #[.int .i64 0, .string ⟨#[]⟩, .string ⟨#[]⟩] 32)) from (Below.refl _ _).alloc (Nat.le_refl _) _)
  clear ht h1 h2 h3 hm hs
  generalize tgSt (tgt (bs m) (bs s)) = st at *
  go_enter Tryd.func14, Tryd.ntmps14
  go_wp2_with fail
  generalize W.alloc (.cells #[.int .i64 0, .string ⟨#[]⟩, .string ⟨#[]⟩] 32) = W0 at *
  refine (HT.out _).mono ?_
  rintro e w1 ⟨rfl, hb⟩
  have HN1 := Lib.hid (HN.out.later hb)
  have HB1 := Lib.hid (HB0.out.trans (hb.mono HB0.out.size))
  clear hb
  have hM := Thr.new w1 32 (.int .i64 f) (.string H) (.string P)
  have hb2 : Below w1.heap.size w1 (w1.alloc (Obj.cells #[.int .i64 f, .string H, .string P] 32)) := (Below.refl _ _).alloc (Nat.le_refl _) _
  have HB2 := Lib.hid (HB1.out.trans (hb2.mono HB1.out.size))
  have HN2 := HN1.out.later hb2
  have HN2c := Lib.hid HN2
  have a0 := hM.c0
  have a1 := hM.c1
  have a2 := hM.c2
  have q0 := HN2.c0
  have q1 := HN2.c1
  have q2 := HN2.c2
  have r0 := HN2.f0
  have r1 := HN2.f1
  have r2 := HN2.f2
  have hlt := HN2.lt
  clear hM hb2 HN2
  go_wp2_with fail
  obtain ⟨z0, z1, z2⟩ := HN2c.out.put (.int .i64 f) (.string H) (.string P)
  refine bodyPost_ret (v := .agg #[.int .i64 f, .string H, .string P]) ?_ rfl ⟨rfl, Thr.below HB2.out (Nat.le_refl _) _ _ _⟩
  simp [results, Tryd.results14, go_sem, z0, z1, z2]

set_option maxHeartbeats 4000000 in
set_option maxRecDepth 100000 in
theorem refused_is (m s : ByteArray) (hm : m.size ≤ 1000000000) (hs : s.size ≤ 1000000000) (h : tgt (bs m) (bs s) = (0, [], [])) (W : World) :
    Calls Tryd.prog 15 #[.string m, .string s] W fun e w' => e = .returned (.bool true) ∧ Below W.heap.size W w' := by
  have ht := fun W => target_any m s W hm hs
  unfold TgPost tgV at ht
  rw [h] at ht
  have ht2 : ∀ W, Calls Tryd.prog 19 #[.string m, .string s] W fun e w' => e = .returned (.tuple #[.agg #[.int .i64 0, .string ⟨#[]⟩, .string ⟨#[]⟩], .int .i64 400]) ∧ Below W.heap.size W w' := ht
  have HT := Lib.hid ht2
  clear ht ht2 h hm hs
  go_enter Tryd.func15, Tryd.ntmps15
  go_wp2_with fail
  refine (HT.out _).mono ?_
  rintro e w1 ⟨rfl, hb⟩
  have hM := Thr.new w1 32 (.int .i64 0) (.string ⟨#[]⟩) (.string ⟨#[]⟩)
  have HB1 := Lib.hid (hb.alloc hb.size (Obj.cells #[.int .i64 0, .string ⟨#[]⟩, .string ⟨#[]⟩] 32))
  have a0 := hM.c0
  have a1 := hM.c1
  have a2 := hM.c2
  clear hM hb
  go_wp2_with fail
  go_ret
  exact ⟨rfl, HB1.out⟩

set_option maxHeartbeats 16000000 in
set_option maxRecDepth 100000 in
theorem snames_any (w : World) (hT : Tens w) : Calls Tryd.prog 3 #[] w (Yes3 w) := by
  have HL := Lib.hid (lives03_any w)
  have HTT := Lib.hid hT
  have H1 := Lib.hid (status_is ⟨#[72, 84, 84, 80, 47, 49, 46, 48, 32, 52, 48, 52, 32, 78, 111, 116, 32, 70, 111, 117, 110, 100]⟩ 0 404 [78, 111, 116, 32, 70, 111, 117, 110, 100] 0 (by decide) (by decide +kernel))
  have H2 := Lib.hid (status_is ⟨#[72, 84, 84, 80, 47, 49, 46, 49, 32, 50, 48, 48, 32]⟩ 1 200 [] 0 (by decide) (by decide +kernel))
  have H3 := Lib.hid (status_is ⟨#[72, 84, 84, 80, 47, 49, 46, 49, 32, 50, 48, 48]⟩ 0 0 [] 4 (by decide) (by decide +kernel))
  have H4 := Lib.hid (status_is ⟨#[72, 84, 84, 80, 47, 49, 46, 49, 32, 48, 57, 57, 32, 120]⟩ 0 0 [] 4 (by decide) (by decide +kernel))
  have H5 := Lib.hid (request_is ⟨#[71, 69, 84, 32, 47, 32, 104, 116, 116, 112, 47, 49, 46, 49]⟩ [] [] 0 400 (by decide) (by decide +kernel))
  have H6 := Lib.hid (request_is ⟨#[71, 40, 84, 32, 47, 32, 72, 84, 84, 80, 47, 49, 46, 49]⟩ [] [] 0 400 (by decide) (by decide +kernel))
  have H7 := Lib.hid (request_is ⟨#[71, 69, 84, 32, 47, 32, 72, 84, 84, 80, 47, 49, 46, 50]⟩ [] [] 0 505 (by decide) (by decide +kernel))
  have H8 := Lib.hid (rline_is ⟨#[71, 69, 84]⟩ ⟨#[47, 97]⟩ 0 [71, 69, 84, 32, 47, 97, 32, 72, 84, 84, 80, 47, 49, 46, 48] 0 (by decide) (by decide) (by decide +kernel))
  have H9 := Lib.hid (rline_is ⟨#[71, 69, 84]⟩ ⟨#[]⟩ 0 [] 4 (by decide) (by decide) (by decide +kernel))
  have H10 := Lib.hid (sline_is 1 304 ⟨#[120]⟩ [72, 84, 84, 80, 47, 49, 46, 49, 32, 51, 48, 52, 32, 120] 0 (by decide) sl304)
  have H11 := Lib.hid (sline_is 1 600 ⟨#[120]⟩ [] 4 (by decide) sl600)
  have H12 := Lib.hid (tgf_is ⟨#[71, 69, 84]⟩ ⟨#[47, 97, 63, 98]⟩ 1 ⟨#[]⟩ ⟨#[47, 97, 63, 98]⟩ (by decide) (by decide) (by refine ⟨?_, ?_, ?_⟩ <;> decide +kernel))
  have H13 := Lib.hid (tgf_is ⟨#[79, 80, 84, 73, 79, 78, 83]⟩ ⟨#[42]⟩ 4 ⟨#[]⟩ ⟨#[]⟩ (by decide) (by decide) (by refine ⟨?_, ?_, ?_⟩ <;> decide +kernel))
  have H14 := Lib.hid (tgf_is ⟨#[67, 79, 78, 78, 69, 67, 84]⟩ ⟨#[72, 58, 49]⟩ 3 ⟨#[104, 58, 49]⟩ ⟨#[]⟩ (by decide) (by decide) (by refine ⟨?_, ?_, ?_⟩ <;> decide +kernel))
  have H15 := Lib.hid (tgf_is ⟨#[71, 69, 84]⟩ ⟨#[72, 84, 84, 80, 58, 47, 47, 91, 58, 58, 49, 93, 58, 56, 48, 47, 120]⟩ 2 ⟨#[91, 58, 58, 49, 93, 58, 56, 48]⟩ ⟨#[47, 120]⟩ (by decide) (by decide) (by refine ⟨?_, ?_, ?_⟩ <;> decide +kernel))
  have H16 := Lib.hid (refused_is ⟨#[71, 69, 84]⟩ ⟨#[42]⟩ (by decide) (by decide) (by decide +kernel))
  have H17 := Lib.hid (refused_is ⟨#[71, 69, 84]⟩ ⟨#[97]⟩ (by decide) (by decide) (by decide +kernel))
  have H18 := Lib.hid (refused_is ⟨#[71, 69, 84]⟩ ⟨#[47, 35]⟩ (by decide) (by decide) (by decide +kernel))
  have H19 := Lib.hid (refused_is ⟨#[67, 79, 78, 78, 69, 67, 84]⟩ ⟨#[47]⟩ (by decide) (by decide) (by decide +kernel))
  have H20 := Lib.hid (refused_is ⟨#[67, 79, 78, 78, 69, 67, 84]⟩ ⟨#[104]⟩ (by decide) (by decide) (by decide +kernel))
  have H21 := Lib.hid (refused_is ⟨#[67, 79, 78, 78, 69, 67, 84]⟩ ⟨#[104, 58]⟩ (by decide) (by decide) (by decide +kernel))
  have H22 := Lib.hid (refused_is ⟨#[71, 69, 84]⟩ ⟨#[104, 116, 116, 112, 58, 47, 47]⟩ (by decide) (by decide) (by decide +kernel))
  have H23 := Lib.hid (refused_is ⟨#[71, 69, 84]⟩ ⟨#[104, 116, 116, 112, 58, 47, 47, 47, 120]⟩ (by decide) (by decide) (by decide +kernel))
  have H24 := Lib.hid (refused_is ⟨#[71, 69, 84]⟩ ⟨#[]⟩ (by decide) (by decide) (by decide +kernel))
  have H25 := Lib.hid (refused_is ⟨#[71, 69, 84]⟩ ⟨#[104, 116, 116, 112, 58, 47, 47, 97, 32, 98]⟩ (by decide) (by decide) (by decide +kernel))
  have H26 := Lib.hid (host_is2 ⟨#[97, 46, 98, 58, 56, 48]⟩ true (by decide) (by decide +kernel))
  have H27 := Lib.hid (host_is2 ⟨#[97, 58]⟩ true (by decide) (by decide +kernel))
  have H28 := Lib.hid (host_is2 ⟨#[]⟩ false (by decide) (by decide +kernel))
  have H29 := Lib.hid (host_is2 ⟨#[97, 58, 49, 50, 51, 52, 53, 54]⟩ false (by decide) (by decide +kernel))
  have H30 := Lib.hid (host_is2 ⟨#[91, 93]⟩ false (by decide) (by decide +kernel))
  have H31 := Lib.hid (host_is2 ⟨#[97, 47, 98]⟩ false (by decide) (by decide +kernel))
  have fC1 : ((mkS [78, 111, 116, 32, 70, 111, 117, 110, 100]).toList == [78, 111, 116, 32, 70, 111, 117, 110, 100]) = true := by rw [toList_bs]; rfl
  have fC2 : ((mkS [71, 69, 84, 32, 47, 97, 32, 72, 84, 84, 80, 47, 49, 46, 48]).toList == [71, 69, 84, 32, 47, 97, 32, 72, 84, 84, 80, 47, 49, 46, 48]) = true := by rw [toList_bs]; rfl
  have fC3 : ((mkS [72, 84, 84, 80, 47, 49, 46, 49, 32, 51, 48, 52, 32, 120]).toList == [72, 84, 84, 80, 47, 49, 46, 49, 32, 51, 48, 52, 32, 120]) = true := by rw [toList_bs]; rfl
  have fC0 : (mkS []).toList.isEmpty = true := by rw [toList_bs]; rfl
  generalize mkS [78, 111, 116, 32, 70, 111, 117, 110, 100] = C1 at *
  generalize mkS [71, 69, 84, 32, 47, 97, 32, 72, 84, 84, 80, 47, 49, 46, 48] = C2 at *
  generalize mkS [72, 84, 84, 80, 47, 49, 46, 49, 32, 51, 48, 52, 32, 120] = C3 at *
  generalize mkS [] = C0 at *
  clear hT
  go_enter Tryd.func3, Tryd.ntmps3
  go_wp2_with fail
  refine HL.out.mono ?_
  rintro e w1 ⟨rfl, hb⟩
  have HB1 := Lib.hid hb
  clear hb
  go_wp2_with fail
  refine (H1.out _).mono ?_
  rintro e w2 ⟨rfl, hb⟩
  have HB2 := Lib.hid (HB1.out.trans (hb.mono HB1.out.size))
  clear hb H1
  go_wp2_with fail
  refine (H2.out _).mono ?_
  rintro e w3 ⟨rfl, hb⟩
  have HB3 := Lib.hid (HB2.out.trans (hb.mono HB2.out.size))
  clear hb H2
  go_wp2_with fail
  refine (H3.out _).mono ?_
  rintro e w4 ⟨rfl, hb⟩
  have HB4 := Lib.hid (HB3.out.trans (hb.mono HB3.out.size))
  clear hb H3
  go_wp2_with fail
  refine (H4.out _).mono ?_
  rintro e w5 ⟨rfl, hb⟩
  have HB5 := Lib.hid (HB4.out.trans (hb.mono HB4.out.size))
  clear hb H4
  go_wp2_with fail
  refine (H5.out _).mono ?_
  rintro e w6 ⟨rfl, hb⟩
  have HB6 := Lib.hid (HB5.out.trans (hb.mono HB5.out.size))
  clear hb H5
  go_wp2_with fail
  refine (H6.out _).mono ?_
  rintro e w7 ⟨rfl, hb⟩
  have HB7 := Lib.hid (HB6.out.trans (hb.mono HB6.out.size))
  clear hb H6
  go_wp2_with fail
  refine (H7.out _).mono ?_
  rintro e w8 ⟨rfl, hb⟩
  have HB8 := Lib.hid (HB7.out.trans (hb.mono HB7.out.size))
  clear hb H7
  go_wp2_with fail
  refine (H8.out _).mono ?_
  rintro e w9 ⟨rfl, hb⟩
  have HB9 := Lib.hid (HB8.out.trans (hb.mono HB8.out.size))
  clear hb H8
  go_wp2_with fail
  refine (H9.out _).mono ?_
  rintro e w10 ⟨rfl, hb⟩
  have HB10 := Lib.hid (HB9.out.trans (hb.mono HB9.out.size))
  clear hb H9
  go_wp2_with fail
  refine (H10.out _ (HTT.out.later HB10.out)).mono ?_
  rintro e w11 ⟨rfl, hb⟩
  have HB11 := Lib.hid (HB10.out.trans (hb.mono HB10.out.size))
  clear hb H10
  go_wp2_with fail
  refine (H11.out _ (HTT.out.later HB11.out)).mono ?_
  rintro e w12 ⟨rfl, hb⟩
  have HB12 := Lib.hid (HB11.out.trans (hb.mono HB11.out.size))
  clear hb H11
  go_wp2_with fail
  refine (H12.out _).mono ?_
  rintro e w13 ⟨rfl, hb⟩
  have HB13 := Lib.hid (HB12.out.trans (hb.mono HB12.out.size))
  clear hb H12
  go_wp2_with fail
  refine (H13.out _).mono ?_
  rintro e w14 ⟨rfl, hb⟩
  have HB14 := Lib.hid (HB13.out.trans (hb.mono HB13.out.size))
  clear hb H13
  go_wp2_with fail
  refine (H14.out _).mono ?_
  rintro e w15 ⟨rfl, hb⟩
  have HB15 := Lib.hid (HB14.out.trans (hb.mono HB14.out.size))
  clear hb H14
  go_wp2_with fail
  refine (H15.out _).mono ?_
  rintro e w16 ⟨rfl, hb⟩
  have HB16 := Lib.hid (HB15.out.trans (hb.mono HB15.out.size))
  clear hb H15
  go_wp2_with fail
  refine (H16.out _).mono ?_
  rintro e w17 ⟨rfl, hb⟩
  have HB17 := Lib.hid (HB16.out.trans (hb.mono HB16.out.size))
  clear hb H16
  go_wp2_with fail
  refine (H17.out _).mono ?_
  rintro e w18 ⟨rfl, hb⟩
  have HB18 := Lib.hid (HB17.out.trans (hb.mono HB17.out.size))
  clear hb H17
  go_wp2_with fail
  refine (H18.out _).mono ?_
  rintro e w19 ⟨rfl, hb⟩
  have HB19 := Lib.hid (HB18.out.trans (hb.mono HB18.out.size))
  clear hb H18
  go_wp2_with fail
  refine (H19.out _).mono ?_
  rintro e w20 ⟨rfl, hb⟩
  have HB20 := Lib.hid (HB19.out.trans (hb.mono HB19.out.size))
  clear hb H19
  go_wp2_with fail
  refine (H20.out _).mono ?_
  rintro e w21 ⟨rfl, hb⟩
  have HB21 := Lib.hid (HB20.out.trans (hb.mono HB20.out.size))
  clear hb H20
  go_wp2_with fail
  refine (H21.out _).mono ?_
  rintro e w22 ⟨rfl, hb⟩
  have HB22 := Lib.hid (HB21.out.trans (hb.mono HB21.out.size))
  clear hb H21
  go_wp2_with fail
  refine (H22.out _).mono ?_
  rintro e w23 ⟨rfl, hb⟩
  have HB23 := Lib.hid (HB22.out.trans (hb.mono HB22.out.size))
  clear hb H22
  go_wp2_with fail
  refine (H23.out _).mono ?_
  rintro e w24 ⟨rfl, hb⟩
  have HB24 := Lib.hid (HB23.out.trans (hb.mono HB23.out.size))
  clear hb H23
  go_wp2_with fail
  refine (H24.out _).mono ?_
  rintro e w25 ⟨rfl, hb⟩
  have HB25 := Lib.hid (HB24.out.trans (hb.mono HB24.out.size))
  clear hb H24
  go_wp2_with fail
  refine (H25.out _).mono ?_
  rintro e w26 ⟨rfl, hb⟩
  have HB26 := Lib.hid (HB25.out.trans (hb.mono HB25.out.size))
  clear hb H25
  go_wp2_with fail
  refine (H26.out _).mono ?_
  rintro e w27 ⟨rfl, hb⟩
  have HB27 := Lib.hid (HB26.out.trans (hb.mono HB26.out.size))
  clear hb H26
  go_wp2_with fail
  refine (H27.out _).mono ?_
  rintro e w28 ⟨rfl, hb⟩
  have HB28 := Lib.hid (HB27.out.trans (hb.mono HB27.out.size))
  clear hb H27
  go_wp2_with fail
  refine (H28.out _).mono ?_
  rintro e w29 ⟨rfl, hb⟩
  have HB29 := Lib.hid (HB28.out.trans (hb.mono HB28.out.size))
  clear hb H28
  go_wp2_with fail
  refine (H29.out _).mono ?_
  rintro e w30 ⟨rfl, hb⟩
  have HB30 := Lib.hid (HB29.out.trans (hb.mono HB29.out.size))
  clear hb H29
  go_wp2_with fail
  refine (H30.out _).mono ?_
  rintro e w31 ⟨rfl, hb⟩
  have HB31 := Lib.hid (HB30.out.trans (hb.mono HB30.out.size))
  clear hb H30
  go_wp2_with fail
  refine (H31.out _).mono ?_
  rintro e w32 ⟨rfl, hb⟩
  have HB32 := Lib.hid (HB31.out.trans (hb.mono HB31.out.size))
  clear hb H31
  go_wp2_with fail
  go_ret
  exact ⟨rfl, HB32.out⟩
end Tk
end Go.Proofs.YtliinjibnikfgaaDoor
