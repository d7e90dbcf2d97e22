/- The law ChunkNames: its walk. -/
import Derived.Test.YtanilbckakoogaaDoorChkL
import Derived.Test.YtanilbckakoogaaDoorChkN
namespace Go.Proofs.YtanilbckakoogaaDoor
open Go.RowKit
namespace Tk

/-- what a fresh decoder tells of bytes -/
def statD (L X C M : Nat) (t : Bs) : Nat := (feedD (newD L X C M) t).2.bad

set_option maxRecDepth 100000 in
set_option maxHeartbeats 2000000 in
theorem status_any (L X C M : Nat) (t : ByteArray) (w : World) (hv : ErrV w.heap.size w) (ht : t.size ≤ 1000) (hL : L ≤ 1000) (hX : X ≤ 1000) (hC : C ≤ 1000) (hM : M ≤ 1000) :
    Calls Tryd.prog 43 #[.agg #[.int .i64 L, .int .i64 X, .int .i64 C, .int .i64 M], .string t] w fun e w' => e = .returned (.int .i64 (statD L X C M (bs t))) ∧ Below w.heap.size w w' := by
  have hz := heap_alloc_last w (.cells #[.int .i64 L, .int .i64 X, .int .i64 C, .int .i64 M] 50)
  have k0 : (w.alloc (.cells #[.int .i64 L, .int .i64 X, .int .i64 C, .int .i64 M] 50)).cell? ⟨w.heap.size, 0, none⟩ = some (.int .i64 L) := by rw [Lib.cell_of_heap hz]; rfl
  have k1 : (w.alloc (.cells #[.int .i64 L, .int .i64 X, .int .i64 C, .int .i64 M] 50)).cell? ⟨w.heap.size, 1, none⟩ = some (.int .i64 X) := by rw [Lib.cell_of_heap hz]; rfl
  have k2 : (w.alloc (.cells #[.int .i64 L, .int .i64 X, .int .i64 C, .int .i64 M] 50)).cell? ⟨w.heap.size, 2, none⟩ = some (.int .i64 C) := by rw [Lib.cell_of_heap hz]; rfl
  have k3 : (w.alloc (.cells #[.int .i64 L, .int .i64 X, .int .i64 C, .int .i64 M] 50)).cell? ⟨w.heap.size, 3, none⟩ = some (.int .i64 M) := by rw [Lib.cell_of_heap hz]; rfl
  have HB0 := Lib.hid (show Below w.heap.size w (w.alloc (.cells #[.int .i64 L, .int .i64 X, .int .i64 C, .int .i64 M] 50)) from (Below.refl _ _).alloc (Nat.le_refl _) _)
  have HV := Lib.hid hv
  have HT := Lib.hid ht
  have HN := Lib.hid (fun (B : Nat) (W : World) (h : B ≤ W.heap.size) => new_any L X C M L X C M B W h (by omega) (by omega) (by omega) (by omega))
  have HLim := Lib.hid (show Lim (newD L X C M) from ⟨by show L ≤ _; omega, by show X ≤ _; omega, by show C ≤ _; omega, by show M ≤ _; omega⟩)
  clear hz hv ht hL hX hC hM
  go_enter Tryd.func43, Tryd.ntmps43
  go_wp2_with fail
  generalize w.alloc (.cells #[.int .i64 L, .int .i64 X, .int .i64 C, .int .i64 M] 50) = w0 at *
  generalize w.heap.size = g at k0 k1 k2 k3 ⊢
  refine (HN.out w.heap.size w0 HB0.out.size).mono ?_
  rintro e w1 ⟨b, rfl, hb, hd, hbel⟩
  have HB1 := Lib.hid (HB0.out.trans (hbel.mono HB0.out.size))
  have HD := Lib.hid hd
  clear hb hd hbel
  unfold ptr
  go_wp2_with fail
  refine (feed_any t HD.out 0 (newD_fit L X C M) (by have := HT.out; omega) HLim.out (HV.out.later HB1.out)).mono ?_
  unfold FeedPost
  rintro e w2 ⟨rfl, hd⟩
  have HB2 := Lib.hid (HB1.out.trans (DecTo.below HD.out hd))
  clear hd
  go_wp2_with fail
  go_ret
  exact ⟨rfl, HB2.out⟩

def t1F : List (Bs × Bs) := [([84], [49])]
def nF : List (Bs × Bs) := [([], [49])]
def abB : Bs := [97, 98, 99, 100, 101]
def e1L : Bs := [50, 13, 10, 97, 98, 13, 10, 50, 13, 10, 99, 100, 13, 10, 49, 13, 10, 101, 13, 10, 48, 13, 10, 84, 58, 32, 49, 13, 10, 13, 10]
theorem t1F_ok : okFs t1F = true := by decide +kernel
theorem nF_ok : okFs nF = false := by decide +kernel
theorem t1F_lines : linesF t1F = [84, 58, 32, 49, 13, 10] := by decide +kernel
theorem e1_is : encL 2 abB [84, 58, 32, 49, 13, 10] = e1L := by
  have h1 : chunksL 2 abB = hexL 2 ++ [13, 10] ++ [97, 98] ++ [13, 10] ++ chunksL 2 [99, 100, 101] := chunksL_cons 2 abB (by decide) (by decide)
  have h2 : chunksL 2 [99, 100, 101] = hexL 2 ++ [13, 10] ++ [99, 100] ++ [13, 10] ++ chunksL 2 [101] := chunksL_cons 2 _ (by decide) (by decide)
  have h3 : chunksL 2 [101] = hexL 1 ++ [13, 10] ++ [101] ++ [13, 10] ++ chunksL 2 [] := chunksL_cons 2 _ (by decide) (by decide)
  have d2 : hexL 2 = [50] := hexF_small hexc 2 (by decide)
  have d1 : hexL 1 = [49] := hexF_small hexc 1 (by decide)
  unfold encL
  rw [h1, h2, h3, chunksL_nil, d2, d1]
  rfl
theorem e3_is (k : Nat) : encL k [] [] = [48, 13, 10, 13, 10] := by unfold encL; rw [chunksL_nil]; rfl
theorem flds_at1 (x y : Bs) (w : World) : IsFlds (w.alloc (.cells #[.string (mkS x), .string (mkS y)] 26)) (.slice (some ⟨w.heap.size, 0, none⟩) 1 1) [(x, y)] := by
  refine ⟨some ⟨w.heap.size, 0, none⟩, 1, rfl, Nat.le_refl _, fun j f hj => ⟨w.heap.size, 0, rfl, ?_⟩⟩
  have hj0 : j = 0 := by
    have := (List.getElem?_eq_some_iff.1 hj).1
    simpa using this
  subst hj0
  simp only [List.getElem?_cons_zero, Option.some.injEq] at hj
  subst hj
  exact cell_new w _ _ _
theorem flds_nil0 (w : World) : IsFlds w (.slice none 0 0) [] := ⟨none, 0, rfl, Nat.le_refl _, fun j f hj => by simp at hj⟩

set_option maxRecDepth 100000 in
theorem fed1 : (feedD roomD e1L).2.bad = 0 ∧ (feedD roomD e1L).2.mode = 5 ∧ (feedD roomD e1L).2.body = abB ∧ (feedD roomD e1L).2.trl.length = 1 := by decide +kernel
theorem szs : sizeL [49, 70, 59, 120, 61, 34, 121, 34] = (31, 0) ∧ sizeL [] = (0, 400) ∧ sizeL [49, 32] = (0, 400) ∧ sizeL [48, 48, 48, 48, 48, 48, 48, 48, 48, 48, 48, 48, 48, 48, 48, 48, 49] = (0, 400) ∧ sizeL [102, 102, 102, 102, 102, 102, 102, 102, 102, 102, 102, 102, 102, 102, 102] = (0, 413) := by decide +kernel
set_option maxRecDepth 100000 in
theorem sts : statD 12 12 1 3 [52, 13, 10] = 413 ∧ statD 12 12 1 3 [51, 13, 10, 97, 98, 99, 13, 10, 49, 13, 10] = 413 ∧ statD 12 12 1 3 [51, 13, 10, 97, 98, 99, 100] = 400 ∧ statD 12 12 1 3 [51, 10] = 400 ∧ statD 12 12 1 3 [51, 13, 120] = 400 ∧
    statD 12 12 1 3 [51, 59, 120, 120, 120, 120, 120, 120, 120, 120, 120, 120, 120, 120] = 400 ∧ statD 12 12 1 3 [48, 13, 10, 97, 58, 49, 13, 10, 98, 58, 50, 13, 10] = 431 ∧ statD 12 12 1 3 [48, 13, 10, 58, 13, 10] = 400 ∧ statD 12 12 1 3 [51, 13, 10, 97, 98] = 0 := by decide +kernel
theorem LimBox2.cell {g : Nat} {w : World} (h : w.heap[g]? = some (.cells #[.int .i64 12, .int .i64 12, .int .i64 1, .int .i64 3] 50 (0, 0))) (i : Nat) (v : Value) (hv : (#[.int .i64 12, .int .i64 12, .int .i64 1, .int .i64 3] : Array Value)[i]? = some v) : w.cell? ⟨g, i, none⟩ = some v := by rw [Lib.cell_of_heap h]; exact hv

set_option maxRecDepth 100000 in
set_option maxHeartbeats 16000000 in
theorem names05_any (w : World) (hv : ErrV w.heap.size w) (hB : Bruijn w.heap.size w) :
    Calls Tryd.prog 4 #[] w (Yes2 w) := by
  have HL := Lib.hid (lives05_any w hv)
  have HV := Lib.hid hv
  have HBj := Lib.hid hB
  have HE1 := Lib.hid (fun (v : Value) (W : World) (h : IsFlds W v t1F) (hB : Bruijn W.heap.size W) => encode_any ⟨#[97, 98, 99, 100, 101]⟩ 2 v t1F W h (by decide) (by decide) (by decide) hB (by decide))
  have HE2 := Lib.hid (fun (v : Value) (W : World) (h : IsFlds W v nF) (hB : Bruijn W.heap.size W) => encode_any ⟨#[]⟩ 0 v nF W h (by decide) (by decide) (by decide) hB (by decide))
  have HE3 := Lib.hid (fun (v : Value) (W : World) (h : IsFlds W v []) (hB : Bruijn W.heap.size W) => encode_any ⟨#[]⟩ 5 v [] W h (by decide) (by decide) (by decide) hB (by decide))
  unfold EncPost at HE1 HE2 HE3
  rw [t1F_ok, t1F_lines, if_pos rfl, show encK 2 (bs ⟨#[97, 98, 99, 100, 101]⟩) = 2 from rfl, show bs ⟨#[97, 98, 99, 100, 101]⟩ = abB from rfl, e1_is, show byE t1F = 0 by unfold byE; rw [t1F_ok]; rfl] at HE1
  rw [nF_ok, show byE nF = 4 by unfold byE; rw [nF_ok]; rfl] at HE2
  rw [show okFs [] = true from rfl, if_pos rfl, show linesF [] = [] from rfl, show bs ⟨#[]⟩ = [] from rfl, e3_is, show byE [] = 0 from rfl] at HE3
  have HSz : Hid (∀ (s : ByteArray) (l : Bs) (a c : Nat) (x y : Int) (W : World), bs s = l → sizeL l = (a, c) → (a : Int) = x → (c : Int) = y → s.size ≤ 1000 → Below w.heap.size w W → Calls Tryd.prog 39 #[.string s] W fun e w' => e = .returned (.tuple #[.int .i64 x, .int .i64 y]) ∧ Below W.heap.size W w') := by
    intro s l a c x y W hl h hx hy hs hW
    have h1 := size_any s W.heap.size W (by omega) (HV.out.later hW).top
    unfold SizePost at h1
    rw [hl, h] at h1
    subst hx hy
    exact h1
  have HSt : Hid (∀ (s : ByteArray) (l : Bs) (c : Nat) (y : Int) (W : World), bs s = l → statD 12 12 1 3 l = c → (c : Int) = y → s.size ≤ 1000 → Below w.heap.size w W → Calls Tryd.prog 43 #[.agg #[.int .i64 12, .int .i64 12, .int .i64 1, .int .i64 3], .string s] W fun e w' => e = .returned (.int .i64 y) ∧ Below W.heap.size W w') := by
    intro s l c y W hl h hy hs hW
    have h1 := status_any 12 12 1 3 s W (HV.out.later hW).top hs (by decide) (by decide) (by decide) (by decide)
    rw [hl, h] at h1
    subst hy
    exact h1
  obtain ⟨z1, z2, z3, z4, z5⟩ := szs
  obtain ⟨t1, t2, t3, t4, t5, t6, t7, t8, t9⟩ := sts
  obtain ⟨q1, q2, q3, q4⟩ := fed1
  have hq1 : ((mkS e1L).toList == ([50, 13, 10, 97, 98, 13, 10, 50, 13, 10, 99, 100, 13, 10, 49, 13, 10, 101, 13, 10, 48, 13, 10, 84, 58, 32, 49, 13, 10, 13, 10] : List UInt8)) = true := by decide +kernel
  have hq2 : ((mkS [48, 13, 10, 13, 10]).toList == ([48, 13, 10, 13, 10] : List UInt8)) = true := by decide +kernel
  have hq3 : ((mkS abB).toList == ([97, 98, 99, 100, 101] : List UInt8)) = true := by decide +kernel
  unfold Yes2 at HL ⊢
  clear hv hB
  go_enter Tryd.func4, Tryd.ntmps4
  go_wp2_with fail
  refine HL.out.mono ?_
  rintro e w1 ⟨rfl, hb⟩
  have hb1 : Below w1.heap.size w1 (w1.alloc (.cells #[.string ⟨#[84]⟩, .string ⟨#[49]⟩] 26)) := (Below.refl _ _).alloc (Nat.le_refl _) _
  have HF := Lib.hid (flds_at1 [84] [49] w1)
  have HB2 := Lib.hid (hb.trans (hb1.mono hb.size))
  clear hb hb1
  go_wp2_with fail
  refine (HE1.out _ _ HF.out (HBj.out.later HB2.out).top).mono ?_
  rintro e w2 ⟨rfl, hb⟩
  have hb1 : Below w2.heap.size w2 (w2.alloc (.cells #[.string ⟨#[]⟩, .string ⟨#[49]⟩] 26)) := (Below.refl _ _).alloc (Nat.le_refl _) _
  have HF2 := Lib.hid (flds_at1 [] [49] w2)
  have hb2 := HB2.out.trans (hb.mono HB2.out.size)
  have HB3 := Lib.hid (hb2.trans (hb1.mono hb2.size))
  clear hb hb1 hb2
  go_wp2_with fail
  refine (HE2.out _ _ HF2.out (HBj.out.later HB3.out).top).mono ?_
  rintro e w3 ⟨rfl, hb⟩
  have HB4 := Lib.hid (HB3.out.trans (hb.mono HB3.out.size))
  clear hb
  go_wp2_with fail
  refine (HE3.out _ _ (flds_nil0 _) (HBj.out.later HB4.out).top).mono ?_
  rintro e w4 ⟨rfl, hb⟩
  have HB5 := Lib.hid (HB4.out.trans (hb.mono HB4.out.size))
  clear hb
  go_wp2_with fail
  refine (roomy_any _).mono ?_
  rintro e w5 ⟨rfl, hb⟩
  have HB6 := Lib.hid (HB5.out.trans (hb.mono HB5.out.size))
  clear hb
  go_wp2_with fail
  refine (new_any 200 1000 30 1000 200 1000 30 1000 w.heap.size w5 HB6.out.size rfl rfl rfl rfl).mono ?_
  rintro e w6 ⟨b, rfl, hb, hd, hbel⟩
  have HB7 := Lib.hid (HB6.out.trans (hbel.mono HB6.out.size))
  have HD0 := Lib.hid (show Dec w.heap.size b roomD (.slice none 0 0) (.slice none 0 0) (.slice none 0 0) w6 from hd)
  clear hb hd hbel
  unfold ptr
  go_wp2_with fail
  refine (feed_any (mkS e1L) HD0.out 0 (newD_fit 200 1000 30 1000) (by decide) room_lim (HV.out.later HB7.out)).mono ?_
  unfold FeedPost
  rw [bs_mkS]
  generalize feedD roomD e1L = fd at *
  rintro e w7 ⟨rfl, hd⟩
  have HB8 := Lib.hid (HB7.out.trans (DecTo.below HD0.out hd))
  obtain ⟨v1, v2, v3, hd, -⟩ := hd
  have HD := Lib.hid hd
  clear hd HE1 HE2 HE3 HF HF2 HB2 HB3 HB4 HB5 HB6
  have hz := heap_alloc_last w7 (.cells #[.int .i64 12, .int .i64 12, .int .i64 1, .int .i64 3] 50)
  have hbz : Below w7.heap.size w7 (w7.alloc (.cells #[.int .i64 12, .int .i64 12, .int .i64 1, .int .i64 3] 50)) := (Below.refl _ _).alloc (Nat.le_refl _) _
  have HB9 := Lib.hid (HB8.out.trans (hbz.mono HB8.out.size))
  have HD2 := Lib.hid (HD.out.below hbz)
  have HBx := Lib.hid hz
  clear hbz hz HD HB8 HB7 HD0
  go_wp2_with fail
  generalize w7.alloc (.cells #[.int .i64 12, .int .i64 12, .int .i64 1, .int .i64 3] 50) = w8 at *
  generalize w7.heap.size = g at *
  have HGl := Lib.hid (show g < w8.heap.size from (Array.getElem?_eq_some_iff.1 HBx.out).1)
  refine (HSz.out ⟨#[49, 70, 59, 120, 61, 34, 121, 34]⟩ [49, 70, 59, 120, 61, 34, 121, 34] _ _ 31 0 _ rfl z1 rfl rfl (by decide) HB9.out).mono ?_
  rintro e s1 ⟨rfl, hb⟩
  have HC1 := Lib.hid hb
  have HB11 := Lib.hid (HB9.out.trans (HC1.out.mono HB9.out.size))
  clear hb
  go_wp2_with fail
  refine (HSz.out ⟨#[]⟩ [] _ _ 0 400 _ rfl z2 rfl rfl (by decide) HB11.out).mono ?_
  rintro e s2 ⟨rfl, hb⟩
  have HC2 := Lib.hid (HC1.out.trans (hb.mono HC1.out.size))
  have HB12 := Lib.hid (HB9.out.trans (HC2.out.mono HB9.out.size))
  clear HC1 HB11 hb
  go_wp2_with fail
  refine (HSz.out ⟨#[49, 32]⟩ [49, 32] _ _ 0 400 _ rfl z3 rfl rfl (by decide) HB12.out).mono ?_
  rintro e s3 ⟨rfl, hb⟩
  have HC3 := Lib.hid (HC2.out.trans (hb.mono HC2.out.size))
  have HB13 := Lib.hid (HB9.out.trans (HC3.out.mono HB9.out.size))
  clear HC2 HB12 hb
  go_wp2_with fail
  refine (HSz.out ⟨#[48, 48, 48, 48, 48, 48, 48, 48, 48, 48, 48, 48, 48, 48, 48, 48, 49]⟩ [48, 48, 48, 48, 48, 48, 48, 48, 48, 48, 48, 48, 48, 48, 48, 48, 49] _ _ 0 400 _ rfl z4 rfl rfl (by decide) HB13.out).mono ?_
  rintro e s4 ⟨rfl, hb⟩
  have HC4 := Lib.hid (HC3.out.trans (hb.mono HC3.out.size))
  have HB14 := Lib.hid (HB9.out.trans (HC4.out.mono HB9.out.size))
  clear HC3 HB13 hb
  go_wp2_with fail
  refine (HSz.out ⟨#[102, 102, 102, 102, 102, 102, 102, 102, 102, 102, 102, 102, 102, 102, 102]⟩ [102, 102, 102, 102, 102, 102, 102, 102, 102, 102, 102, 102, 102, 102, 102] _ _ 0 413 _ rfl z5 rfl rfl (by decide) HB14.out).mono ?_
  rintro e s5 ⟨rfl, hb⟩
  have HC5 := Lib.hid (HC4.out.trans (hb.mono HC4.out.size))
  have HB15 := Lib.hid (HB9.out.trans (HC5.out.mono HB9.out.size))
  clear HC4 HB14 hb
  go_wp2_with fail
  refine (feed_nil _ _).mono ?_
  rintro e s6 ⟨rfl, hb⟩
  have HC6 := Lib.hid (HC5.out.trans (hb.mono HC5.out.size))
  have HB16 := Lib.hid (HB9.out.trans (HC6.out.mono HB9.out.size))
  have HD6 := Lib.hid (HD2.out.below HC6.out)
  have HDy := Lib.hid (done_yes HD6.out q2)
  have hbd := body_any HD6.out
  rw [q3] at hbd
  have htr := trailers_any HD6.out (by rw [q4]; decide)
  unfold OwnPost at htr
  rw [q4] at htr
  have HBd := Lib.hid hbd
  have HTr := Lib.hid htr
  clear hb HC5 HB15 HD2 HD6 hbd htr
  unfold ptr at HDy HBd HTr
  go_wp2_with fail
  refine HDy.out.mono ?_
  rintro e s7 ⟨rfl, rfl⟩
  go_wp2_with fail
  refine HBd.out.mono ?_
  rintro e s7 ⟨rfl, rfl⟩
  go_wp2_with fail
  refine HTr.out.mono ?_
  rintro e s7 ⟨tv, rfl, ho, hb⟩
  obtain ⟨ta, tc, rfl⟩ : ∃ a c, tv = .slice a 1 c := by
    rcases ho.2 with ⟨hv, h0⟩ | ⟨g, cap, cur, hv, _⟩
    · exact absurd h0 (by decide)
    · exact ⟨_, _, hv⟩
  have HC7 := Lib.hid (HC6.out.trans (hb.mono HC6.out.size))
  have HB17 := Lib.hid (HB9.out.trans (HC7.out.mono HB9.out.size))
  have hbx := (HC7.out.block g HGl.out).trans HBx.out
  have k0 := LimBox2.cell hbx 0 _ rfl
  have k1 := LimBox2.cell hbx 1 _ rfl
  have k2 := LimBox2.cell hbx 2 _ rfl
  have k3 := LimBox2.cell hbx 3 _ rfl
  clear ho hb hbx HTr HBd HDy HC6 HB16
  go_wp2_with fail
  refine (HSt.out ⟨#[52, 13, 10]⟩ [52, 13, 10] _ 413 _ rfl t1 rfl (by decide) HB17.out).mono ?_
  rintro e s8 ⟨rfl, hb⟩
  have HC8 := Lib.hid (HC7.out.trans (hb.mono HC7.out.size))
  have HB18 := Lib.hid (HB9.out.trans (HC8.out.mono HB9.out.size))
  have hbx := (HC8.out.block g HGl.out).trans HBx.out
  clear k0 k1 k2 k3
  have k0 := LimBox2.cell hbx 0 _ rfl
  have k1 := LimBox2.cell hbx 1 _ rfl
  have k2 := LimBox2.cell hbx 2 _ rfl
  have k3 := LimBox2.cell hbx 3 _ rfl
  clear hb hbx HC7 HB17
  go_wp2_with fail
  refine (HSt.out ⟨#[51, 13, 10, 97, 98, 99, 13, 10, 49, 13, 10]⟩ [51, 13, 10, 97, 98, 99, 13, 10, 49, 13, 10] _ 413 _ rfl t2 rfl (by decide) HB18.out).mono ?_
  rintro e s9 ⟨rfl, hb⟩
  have HC9 := Lib.hid (HC8.out.trans (hb.mono HC8.out.size))
  have HB19 := Lib.hid (HB9.out.trans (HC9.out.mono HB9.out.size))
  have hbx := (HC9.out.block g HGl.out).trans HBx.out
  clear k0 k1 k2 k3
  have k0 := LimBox2.cell hbx 0 _ rfl
  have k1 := LimBox2.cell hbx 1 _ rfl
  have k2 := LimBox2.cell hbx 2 _ rfl
  have k3 := LimBox2.cell hbx 3 _ rfl
  clear hb hbx HC8 HB18
  go_wp2_with fail
  refine (HSt.out ⟨#[51, 13, 10, 97, 98, 99, 100]⟩ [51, 13, 10, 97, 98, 99, 100] _ 400 _ rfl t3 rfl (by decide) HB19.out).mono ?_
  rintro e s10 ⟨rfl, hb⟩
  have HC10 := Lib.hid (HC9.out.trans (hb.mono HC9.out.size))
  have HB20 := Lib.hid (HB9.out.trans (HC10.out.mono HB9.out.size))
  have hbx := (HC10.out.block g HGl.out).trans HBx.out
  clear k0 k1 k2 k3
  have k0 := LimBox2.cell hbx 0 _ rfl
  have k1 := LimBox2.cell hbx 1 _ rfl
  have k2 := LimBox2.cell hbx 2 _ rfl
  have k3 := LimBox2.cell hbx 3 _ rfl
  clear hb hbx HC9 HB19
  go_wp2_with fail
  refine (HSt.out ⟨#[51, 10]⟩ [51, 10] _ 400 _ rfl t4 rfl (by decide) HB20.out).mono ?_
  rintro e s11 ⟨rfl, hb⟩
  have HC11 := Lib.hid (HC10.out.trans (hb.mono HC10.out.size))
  have HB21 := Lib.hid (HB9.out.trans (HC11.out.mono HB9.out.size))
  have hbx := (HC11.out.block g HGl.out).trans HBx.out
  clear k0 k1 k2 k3
  have k0 := LimBox2.cell hbx 0 _ rfl
  have k1 := LimBox2.cell hbx 1 _ rfl
  have k2 := LimBox2.cell hbx 2 _ rfl
  have k3 := LimBox2.cell hbx 3 _ rfl
  clear hb hbx HC10 HB20
  go_wp2_with fail
  refine (HSt.out ⟨#[51, 13, 120]⟩ [51, 13, 120] _ 400 _ rfl t5 rfl (by decide) HB21.out).mono ?_
  rintro e s12 ⟨rfl, hb⟩
  have HC12 := Lib.hid (HC11.out.trans (hb.mono HC11.out.size))
  have HB22 := Lib.hid (HB9.out.trans (HC12.out.mono HB9.out.size))
  have hbx := (HC12.out.block g HGl.out).trans HBx.out
  clear k0 k1 k2 k3
  have k0 := LimBox2.cell hbx 0 _ rfl
  have k1 := LimBox2.cell hbx 1 _ rfl
  have k2 := LimBox2.cell hbx 2 _ rfl
  have k3 := LimBox2.cell hbx 3 _ rfl
  clear hb hbx HC11 HB21
  go_wp2_with fail
  refine (HSt.out ⟨#[51, 59, 120, 120, 120, 120, 120, 120, 120, 120, 120, 120, 120, 120]⟩ [51, 59, 120, 120, 120, 120, 120, 120, 120, 120, 120, 120, 120, 120] _ 400 _ rfl t6 rfl (by decide) HB22.out).mono ?_
  rintro e s13 ⟨rfl, hb⟩
  have HC13 := Lib.hid (HC12.out.trans (hb.mono HC12.out.size))
  have HB23 := Lib.hid (HB9.out.trans (HC13.out.mono HB9.out.size))
  have hbx := (HC13.out.block g HGl.out).trans HBx.out
  clear k0 k1 k2 k3
  have k0 := LimBox2.cell hbx 0 _ rfl
  have k1 := LimBox2.cell hbx 1 _ rfl
  have k2 := LimBox2.cell hbx 2 _ rfl
  have k3 := LimBox2.cell hbx 3 _ rfl
  clear hb hbx HC12 HB22
  go_wp2_with fail
  refine (HSt.out ⟨#[48, 13, 10, 97, 58, 49, 13, 10, 98, 58, 50, 13, 10]⟩ [48, 13, 10, 97, 58, 49, 13, 10, 98, 58, 50, 13, 10] _ 431 _ rfl t7 rfl (by decide) HB23.out).mono ?_
  rintro e s14 ⟨rfl, hb⟩
  have HC14 := Lib.hid (HC13.out.trans (hb.mono HC13.out.size))
  have HB24 := Lib.hid (HB9.out.trans (HC14.out.mono HB9.out.size))
  have hbx := (HC14.out.block g HGl.out).trans HBx.out
  clear k0 k1 k2 k3
  have k0 := LimBox2.cell hbx 0 _ rfl
  have k1 := LimBox2.cell hbx 1 _ rfl
  have k2 := LimBox2.cell hbx 2 _ rfl
  have k3 := LimBox2.cell hbx 3 _ rfl
  clear hb hbx HC13 HB23
  go_wp2_with fail
  refine (HSt.out ⟨#[48, 13, 10, 58, 13, 10]⟩ [48, 13, 10, 58, 13, 10] _ 400 _ rfl t8 rfl (by decide) HB24.out).mono ?_
  rintro e s15 ⟨rfl, hb⟩
  have HC15 := Lib.hid (HC14.out.trans (hb.mono HC14.out.size))
  have HB25 := Lib.hid (HB9.out.trans (HC15.out.mono HB9.out.size))
  have hbx := (HC15.out.block g HGl.out).trans HBx.out
  clear k0 k1 k2 k3
  have k0 := LimBox2.cell hbx 0 _ rfl
  have k1 := LimBox2.cell hbx 1 _ rfl
  have k2 := LimBox2.cell hbx 2 _ rfl
  have k3 := LimBox2.cell hbx 3 _ rfl
  clear hb hbx HC14 HB24
  go_wp2_with fail
  refine (HSt.out ⟨#[51, 13, 10, 97, 98]⟩ [51, 13, 10, 97, 98] _ 0 _ rfl t9 rfl (by decide) HB25.out).mono ?_
  rintro e s16 ⟨rfl, hb⟩
  have HC16 := Lib.hid (HC15.out.trans (hb.mono HC15.out.size))
  have HB26 := Lib.hid (HB9.out.trans (HC16.out.mono HB9.out.size))
  have hbx := (HC16.out.block g HGl.out).trans HBx.out
  clear k0 k1 k2 k3
  have k0 := LimBox2.cell hbx 0 _ rfl
  have k1 := LimBox2.cell hbx 1 _ rfl
  have k2 := LimBox2.cell hbx 2 _ rfl
  have k3 := LimBox2.cell hbx 3 _ rfl
  clear hb hbx HC15 HB25
  go_wp2_with fail
  refine (done_nil _).mono ?_
  rintro e s17 ⟨rfl, rfl⟩
  go_wp2_with fail
  refine (body_nil _).mono ?_
  rintro e s17 ⟨rfl, rfl⟩
  go_wp2_with fail
  go_ret
  exact ⟨rfl, HB26.out⟩
end Tk
end Go.Proofs.YtanilbckakoogaaDoor
