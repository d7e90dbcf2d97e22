/- The law MessageNames: its walk. -/
import Derived.Test.YtpcdaaijlgilkaaGreatDoorQNmMs
import Derived.Test.YtpcdaaijlgilkaaGreatDoorQMsgY
import Derived.Deep.RegionHeld3
namespace Go.Proofs.YtpcdaaijlgilkaaGreatDoor
open Go.RowKit
namespace Tk

def nmA : Msg := { m := [71, 69, 84], t := [47], mi := 1, f := [([72, 111, 115, 116], [97])] }
def nmB : Msg := { m := [80, 79, 83, 84], t := [47, 120], mi := 1, f := [([72, 111, 115, 116], [97]), ([67, 111, 110, 116, 101, 110, 116, 45, 76, 101, 110, 103, 116, 104], [50])], body := [97, 98] }
def nmTwo : Bs := [13, 10, 71, 69, 84, 32, 47, 32, 72, 84, 84, 80, 47, 49, 46, 49, 13, 10, 72, 111, 115, 116, 58, 32, 97, 13, 10, 13, 10, 80, 79, 83, 84, 32, 47, 120, 32, 72, 84, 84, 80, 47, 49, 46, 49, 13, 10, 72, 111, 115, 116, 58, 32, 97, 13, 10, 67, 111, 110, 116, 101, 110, 116, 45, 76, 101, 110, 103, 116, 104, 58, 32, 50, 13, 10, 13, 10, 97, 98, 71, 69, 84, 32, 47, 32, 72, 84, 84, 80, 47, 49, 46, 49, 13, 10, 72, 111, 115, 116, 58, 32, 97, 13, 10, 13, 10]
set_option maxRecDepth 100000 in
theorem nm_two1 : allS roomP nmTwo = 0 := by decide +kernel
theorem nm_two2 : allM roomP nmTwo = [nmA, nmB, nmA] := by kernel_rfl
theorem end_rsp (s : Pr) : (endP s).rsp = s.rsp := by unfold endP; split; rfl; split <;> rfl
theorem blk_keep {w w' : World} {g : Nat} {o : Obj} (h : w.heap[g]? = some o) (hb : Below w.heap.size w w') : w'.heap[g]? = some o := (hb.block g (Array.getElem?_eq_some_iff.1 h).1).trans h
set_option maxRecDepth 100000 in
theorem nm_s0 : allS roomP [13, 10, 13, 10, 71, 69, 84, 32, 47, 32, 72, 84, 84, 80, 47, 49, 46, 49, 13, 10, 72, 111, 115, 116, 58, 32, 97, 13, 10, 13, 10] = 400 := by decide +kernel
set_option maxRecDepth 100000 in
theorem nm_s1 : allS roomP [71, 69, 84, 32, 47, 32, 72, 84, 84, 80, 47, 49, 46, 49, 10, 72, 111, 115, 116, 58, 32, 97, 13, 10, 13, 10] = 400 := by decide +kernel
set_option maxRecDepth 100000 in
theorem nm_s2 : allS roomP [71, 69, 84, 32, 47, 32, 72, 84, 84, 80, 47, 51, 46, 48, 13, 10] = 505 := by decide +kernel
set_option maxRecDepth 100000 in
theorem nm_s3 : allS roomP [71, 69, 84, 32, 47, 32, 72, 84, 84, 80, 47, 49, 46, 49, 13, 10, 72, 111, 115, 116, 32, 58, 32, 97, 13, 10] = 400 := by decide +kernel
set_option maxRecDepth 100000 in
theorem nm_s4 : allS roomP [71, 69, 84, 32, 47, 32, 72, 84, 84, 80, 47, 49, 46, 49, 13, 10, 32, 72, 111, 115, 116, 58, 32, 97, 13, 10] = 400 := by decide +kernel
set_option maxRecDepth 100000 in
theorem nm_s5 : allS roomP [71, 69, 84, 32, 47, 32, 72, 84, 84, 80, 47, 49, 46, 49, 13, 10, 72, 111, 115, 116, 58, 32, 97, 13, 10, 72, 111, 115, 116, 58, 32, 97, 13, 10, 13, 10] = 400 := by decide +kernel
set_option maxRecDepth 100000 in
theorem nm_s6 : allS roomP [71, 69, 84, 32, 47, 32, 72, 84, 84, 80, 47, 49, 46, 48, 13, 10, 13, 10] = 0 := by decide +kernel
set_option maxRecDepth 100000 in
theorem nm_s7 : allS roomP [71, 69, 84, 32, 47, 32, 72, 84, 84, 80, 47, 49, 46, 49, 13, 10, 72, 111, 115, 116, 58, 32, 97, 47, 98, 13, 10, 13, 10] = 400 := by decide +kernel
set_option maxRecDepth 100000 in
theorem nm_s8 : allS roomP [71, 69, 84, 32, 47, 32, 72, 84, 84, 80, 47, 49, 46, 49, 13, 10, 72, 111, 115, 116] = 400 := by decide +kernel
set_option maxRecDepth 100000 in
theorem nm_t0 : allS (newP 20 40 2 3 false) [71, 69, 84, 32, 47, 97, 97, 97, 97, 97, 97, 97, 97, 97, 97, 97, 97, 97, 97, 97, 97, 97, 97, 97, 97] = 431 := by decide +kernel
set_option maxRecDepth 100000 in
theorem nm_t1 : allS (newP 20 40 2 3 false) [71, 69, 84, 32, 47, 32, 72, 84, 84, 80, 47, 49, 46, 49, 13, 10, 65, 58, 32, 49, 13, 10, 66, 58, 32, 50, 13, 10, 67, 58, 32, 51, 13, 10] = 431 := by decide +kernel
set_option maxRecDepth 100000 in
theorem nm_t2 : allS (newP 20 40 2 3 false) [71, 69, 84, 32, 47, 32, 72, 84, 84, 80, 47, 49, 46, 48, 13, 10, 67, 111, 110, 116, 101, 110, 116, 45, 76, 101, 110, 103, 116, 104, 58, 32, 52, 13, 10, 13, 10] = 413 := by decide +kernel
set_option maxRecDepth 100000 in
theorem nm_t3 : allS (newP 30 60 2 3 false) [71, 69, 84, 32, 47, 32, 72, 84, 84, 80, 47, 49, 46, 48, 13, 10, 67, 111, 110, 116, 101, 110, 116, 45, 76, 101, 110, 103, 116, 104, 58, 32, 52, 13, 10, 13, 10] = 413 := by decide +kernel
set_option maxRecDepth 100000 in
theorem nm_r1 : (fun s : Pr => (waitP s, s.msg.st, s.msg.body, s.msg.r)) (feedP (q0 [[71, 69, 84]]) [72, 84, 84, 80, 47, 49, 46, 49, 32, 50, 48, 48, 32, 79, 75, 13, 10, 84, 114, 97, 110, 115, 102, 101, 114, 45, 69, 110, 99, 111, 100, 105, 110, 103, 58, 32, 99, 104, 117, 110, 107, 101, 100, 13, 10, 13, 10, 50, 13, 10, 97, 98, 13, 10, 48, 13, 10, 13, 10]).2 = (true, 200, [97, 98], [79, 75]) := by decide +kernel
set_option maxRecDepth 100000 in
theorem nm_r2 : (fun s : Pr => (waitP s, s.msg.st, s.msg.body)) (feedP (q0 [[72, 69, 65, 68]]) [72, 84, 84, 80, 47, 49, 46, 49, 32, 50, 48, 48, 32, 79, 75, 13, 10, 67, 111, 110, 116, 101, 110, 116, 45, 76, 101, 110, 103, 116, 104, 58, 32, 57, 13, 10, 13, 10]).2 = (true, 200, []) := by decide +kernel
set_option maxRecDepth 100000 in
theorem nm_100 : (fun s : Pr => (waitP s, s.msg.st)) (feedP (q0 [[71, 69, 84]]) [72, 84, 84, 80, 47, 49, 46, 49, 32, 49, 48, 48, 32, 71, 111, 13, 10, 13, 10]).2 = (true, 100) := by decide +kernel
set_option maxRecDepth 100000 in
theorem nm_200 : (fun s : Pr => (waitP s, s.mode, s.kind, s.bad, s.body, s.msg.st)) (feedP (q0 [[71, 69, 84]]) [72, 84, 84, 80, 47, 49, 46, 49, 32, 50, 48, 48, 32, 79, 75, 13, 10, 13, 10, 97, 98, 99]).2 = (false, 5, 4, 0, [97, 98, 99], 200) := by decide +kernel
set_option maxRecDepth 100000 in
theorem nm_q : (fun s : Pr => (leftP s, s.kind, (endP s).bad)) (feedP roomP [71, 69, 84, 32, 47, 32, 72, 84, 84]).2 = (9, 0, 400) := by decide +kernel

set_option maxRecDepth 100000 in
set_option maxHeartbeats 64000000 in
theorem names06_any (w : World) (hv : ErrV w.heap.size w) :
    Calls Tryz.prog 3 #[] w (Yes2 w) := by
  have HVe := Lib.hid (fun (W : World) (hb : Below w.heap.size w W) => (hv.later hb).top)
  have HL := Lib.hid (lives06_any _ hv)
  clear hv
  unfold Yes2 at HL ⊢
  go_enter Tryz.func3, Tryz.ntmps3
  go_wp2_with fail
  refine HL.out.mono ?_
  rintro e w1 ⟨rfl, hb⟩
  have HB1 := Lib.hid hb
  clear hb HL
  go_wp2_with fail
  refine (roomy_any _).mono ?_
  rintro e w2 ⟨rfl, hb⟩
  have HB2 := Lib.hid (HB1.out.trans (hb.mono HB1.out.size))
  clear hb HB1
  have hx1 : (w2.alloc (.cells #[.int .i64 200, .int .i64 1000, .int .i64 30, .int .i64 1000] 24)).heap[w2.heap.size]? = some (.cells #[.int .i64 200, .int .i64 1000, .int .i64 30, .int .i64 1000] 24 (0, 0)) := heap_alloc_last w2 _
  have hz1 : (w2.alloc (.cells #[.int .i64 200, .int .i64 1000, .int .i64 30, .int .i64 1000] 24)).heap.size = w2.heap.size + 1 := by simp
  have hx2 : ((w2.alloc (.cells #[.int .i64 200, .int .i64 1000, .int .i64 30, .int .i64 1000] 24)).alloc (.cells #[.int .i64 20, .int .i64 40, .int .i64 2, .int .i64 3] 24)).heap[w2.heap.size + 1]? = some (.cells #[.int .i64 20, .int .i64 40, .int .i64 2, .int .i64 3] 24 (0, 0)) := by rw [← hz1]; exact heap_alloc_last _ _
  have hx3 : ((w2.alloc (.cells #[.int .i64 200, .int .i64 1000, .int .i64 30, .int .i64 1000] 24)).alloc (.cells #[.int .i64 20, .int .i64 40, .int .i64 2, .int .i64 3] 24)).heap[w2.heap.size]? = some (.cells #[.int .i64 200, .int .i64 1000, .int .i64 30, .int .i64 1000] 24 (0, 0)) := (Below.heap_alloc _ _ _ (by omega)).trans hx1
  have HX2 := Lib.hid hx2
  have HX3 := Lib.hid hx3
  have HB3 := Lib.hid ((HB2.out.alloc HB2.out.size (.cells #[.int .i64 200, .int .i64 1000, .int .i64 30, .int .i64 1000] 24)).alloc (by rw [hz1]; have := HB2.out.size; omega) (.cells #[.int .i64 20, .int .i64 40, .int .i64 2, .int .i64 3] 24))
  have HG := Lib.hid (show w2.heap.size + 1 < ((w2.alloc (.cells #[.int .i64 200, .int .i64 1000, .int .i64 30, .int .i64 1000] 24)).alloc (.cells #[.int .i64 20, .int .i64 40, .int .i64 2, .int .i64 3] 24)).heap.size from (Array.getElem?_eq_some_iff.1 hx2).1)
  clear hx1 hx2 hx3 hz1
  go_upto_region 5 with (fail)
  generalize (w2.alloc (.cells #[.int .i64 200, .int .i64 1000, .int .i64 30, .int .i64 1000] 24)).alloc (.cells #[.int .i64 20, .int .i64 40, .int .i64 2, .int .i64 3] 24) = wB at *
  generalize hg2 : w2.heap.size + 1 = g2 at *
  generalize w2.heap.size = g1 at *
  have HL1 := Lib.hid (fun (W : World) (hb : Below wB.heap.size wB W) (i : Nat) (v : Value) (hv : (#[.int .i64 200, .int .i64 1000, .int .i64 30, .int .i64 1000] : Array Value)[i]? = some v) => lim_cell ((hb.block g1 (by have := HG.out; omega)).trans HX3.out) i v hv)
  have HL2 := Lib.hid (fun (W : World) (hb : Below wB.heap.size wB W) (i : Nat) (v : Value) (hv : (#[.int .i64 20, .int .i64 40, .int .i64 2, .int .i64 3] : Array Value)[i]? = some v) => lim_cell ((hb.block g2 HG.out).trans HX2.out) i v hv)
  have HBb := Lib.hid (fun (W : World) (hb : Below wB.heap.size wB W) => HB3.out.trans (hb.mono HB3.out.size))
  clear hg2 HB2 HB3 HX2 HX3 HG
  have k0 := HL1.out wB (Below.refl _ _) 0 _ rfl
  have k1 := HL1.out wB (Below.refl _ _) 1 _ rfl
  have k2 := HL1.out wB (Below.refl _ _) 2 _ rfl
  have k3 := HL1.out wB (Below.refl _ _) 3 _ rfl
  have HA := Lib.hid (fun (W : World) (hb : Below wB.heap.size wB W) => pall_any 200 1000 30 1000 200 1000 30 1000 ⟨#[13, 10, 71, 69, 84, 32, 47, 32, 72, 84, 84, 80, 47, 49, 46, 49, 13, 10, 72, 111, 115, 116, 58, 32, 97, 13, 10, 13, 10, 80, 79, 83, 84, 32, 47, 120, 32, 72, 84, 84, 80, 47, 49, 46, 49, 13, 10, 72, 111, 115, 116, 58, 32, 97, 13, 10, 67, 111, 110, 116, 101, 110, 116, 45, 76, 101, 110, 103, 116, 104, 58, 32, 50, 13, 10, 13, 10, 97, 98, 71, 69, 84, 32, 47, 32, 72, 84, 84, 80, 47, 49, 46, 49, 13, 10, 72, 111, 115, 116, 58, 32, 97, 13, 10, 13, 10]⟩ W rfl rfl rfl rfl room_limP (by decide) (HVe.out W (HBb.out W hb)))
  unfold AllPost at HA
  rw [show bs ⟨#[13, 10, 71, 69, 84, 32, 47, 32, 72, 84, 84, 80, 47, 49, 46, 49, 13, 10, 72, 111, 115, 116, 58, 32, 97, 13, 10, 13, 10, 80, 79, 83, 84, 32, 47, 120, 32, 72, 84, 84, 80, 47, 49, 46, 49, 13, 10, 72, 111, 115, 116, 58, 32, 97, 13, 10, 67, 111, 110, 116, 101, 110, 116, 45, 76, 101, 110, 103, 116, 104, 58, 32, 50, 13, 10, 13, 10, 97, 98, 71, 69, 84, 32, 47, 32, 72, 84, 84, 80, 47, 49, 46, 49, 13, 10, 72, 111, 115, 116, 58, 32, 97, 13, 10, 13, 10]⟩ = nmTwo from rfl, show newP 200 1000 30 1000 false = roomP from rfl, nm_two1] at HA
  go_wp2_with fail
  refine (HA.out _ (Below.refl _ _)).mono ?_
  rintro e w5 ⟨v3, Vs, rfl, hmap, hms, hbe⟩
  have HB5 := Lib.hid hbe
  have hVs := nm_two2
  rw [← hmap] at hVs
  have hl3 : Vs.length = 3 := by have := congrArg List.length hVs; simpa using this
  obtain ⟨x0, x1, x2, rfl⟩ : ∃ a b c, Vs = [a, b, c] := by
    match Vs, hl3 with
    | [a, b, c], _ => exact ⟨a, b, c, rfl⟩
  simp only [List.map_cons, List.map_nil, List.cons.injEq, and_true] at hVs
  have HXs := Lib.hid hVs
  obtain ⟨av, cv, rfl⟩ := hms.val
  have HMs := Lib.hid hms
  have HBo := HBb
  have HLo1 := HL1
  have HLo2 := HL2
  clear HBb HL1 HL2
  have HBb := Lib.hid (fun (W : World) (hb : Below w5.heap.size w5 W) => HBo.out W (HB5.out.trans (hb.mono HB5.out.size)))
  have HL1 := Lib.hid (fun (W : World) (hb : Below w5.heap.size w5 W) => HLo1.out W (HB5.out.trans (hb.mono HB5.out.size)))
  have HL2 := Lib.hid (fun (W : World) (hb : Below w5.heap.size w5 W) => HLo2.out W (HB5.out.trans (hb.mono HB5.out.size)))
  clear hmap hms hbe hVs hl3 HA k0 k1 k2 k3 HBo HLo1 HLo2

  as_aux_lemma =>
    have HSt := Lib.hid (fun (t : ByteArray) (st : Nat) (hz : t.size ≤ 100000) (hs : allS roomP (bs t) = st) (W : World) (hb : Below w5.heap.size w5 W) => stat_any 200 1000 30 1000 200 1000 30 1000 t st W rfl rfl rfl rfl room_limP hz (HVe.out W (HBb.out W hb)) hs)
    go_upto_region 6 with (fail)
    have HB60 := Lib.hid (show Below w5.heap.size w5 w5.drew from (Below.refl _ _).trans ⟨rfl, rfl, rfl, Nat.le_refl _, fun _ _ => rfl⟩)
    refine wp_region_held_drew (S := (fun w' => w'.cell? ⟨g1, 0, none⟩ = some (.int .i64 200) ∧ w'.cell? ⟨g1, 1, none⟩ = some (.int .i64 1000) ∧ w'.cell? ⟨g1, 2, none⟩ = some (.int .i64 30) ∧ w'.cell? ⟨g1, 3, none⟩ = some (.int .i64 1000))) (by kernel_rfl) ⟨HL1.out _ HB60.out 0 _ rfl, HL1.out _ HB60.out 1 _ rfl, HL1.out _ HB60.out 2 _ rfl, HL1.out _ HB60.out 3 _ rfl⟩ (fun hHeld => ?_)
    refine wpAnyH_take (i := 0) (v := ?_) rfl (by kernel_rfl) (by kernel_rfl) (by kernel_rfl) (fun _ _ _ h => h) (Or.inl ⟨by kernel_rfl, ?_⟩) (by assumption) ?_
    case refine_2 => (intro w hSw; (try dsimp only at hSw); obtain ⟨hS0, hS1, hS2, hS3⟩ := hSw; go_simp; try with_reducible rfl)
    try simp only [Act.put, List.getElem_toArray, List.getElem_cons_zero, List.setIfInBounds_toArray, List.set_cons_zero, List.set_cons_succ]
    refine wpAnyH_ready (rs := [1]) (by kernel_rfl) (by simp) ?_
    refine AllReadyH.cons rfl (fun K hK => ?_) AllReadyH.nil
    go_simp
    refine (HSt.out ⟨#[13, 10, 13, 10, 71, 69, 84, 32, 47, 32, 72, 84, 84, 80, 47, 49, 46, 49, 13, 10, 72, 111, 115, 116, 58, 32, 97, 13, 10, 13, 10]⟩ 400 (by decide) nm_s0 _ HB60.out).mono ?_
    rintro e wa0 ⟨rfl, hb⟩
    have HB61 := Lib.hid (HB60.out.trans (hb.mono HB60.out.size))
    clear hb
    go_simp
    refine hK.out _ _ ⟨HL1.out _ HB61.out 0 _ rfl, HL1.out _ HB61.out 1 _ rfl, HL1.out _ HB61.out 2 _ rfl, HL1.out _ HB61.out 3 _ rfl⟩ (fun hHeld0 => ?_)
    clear hK K hHeld
    refine wpAnyH_take (i := 2) (v := ?_) rfl (by kernel_rfl) (by kernel_rfl) (by kernel_rfl) (fun _ _ _ h => h) (Or.inl ⟨by kernel_rfl, ?_⟩) (by assumption) ?_
    case refine_2 => (intro w hSw; (try dsimp only at hSw); go_simp; try with_reducible rfl)
    try simp only [Act.put, List.getElem_toArray, List.getElem_cons_succ, List.getElem_cons_zero, List.setIfInBounds_toArray, List.set_cons_zero, List.set_cons_succ]
    refine wpAnyH_take (i := 3) (v := ?_) rfl (by kernel_rfl) (by kernel_rfl) (by kernel_rfl) (fun _ _ _ h => h) (Or.inl ⟨by kernel_rfl, ?_⟩) (by assumption) ?_
    case refine_2 => (intro w hSw; (try dsimp only at hSw); go_simp; try with_reducible rfl)
    try simp only [Act.put, List.getElem_toArray, List.getElem_cons_succ, List.getElem_cons_zero, List.setIfInBounds_toArray, List.set_cons_zero, List.set_cons_succ]
    refine wpAnyH_take (i := 4) (v := ?_) rfl (by kernel_rfl) (by kernel_rfl) (by kernel_rfl) (fun _ _ _ h => h) (Or.inl ⟨by kernel_rfl, ?_⟩) (by assumption) ?_
    case refine_2 => (intro w hSw; (try dsimp only at hSw); obtain ⟨hS0, hS1, hS2, hS3⟩ := hSw; go_simp; try with_reducible rfl)
    try simp only [Act.put, List.getElem_toArray, List.getElem_cons_succ, List.getElem_cons_zero, List.setIfInBounds_toArray, List.set_cons_zero, List.set_cons_succ]
    refine wpAnyH_ready (rs := [5]) (by kernel_rfl) (by simp) ?_
    refine AllReadyH.cons rfl (fun K hK => ?_) AllReadyH.nil
    go_simp
    refine (HSt.out ⟨#[71, 69, 84, 32, 47, 32, 72, 84, 84, 80, 47, 49, 46, 49, 10, 72, 111, 115, 116, 58, 32, 97, 13, 10, 13, 10]⟩ 400 (by decide) nm_s1 _ HB61.out).mono ?_
    rintro e wa1 ⟨rfl, hb⟩
    have HB62 := Lib.hid (HB61.out.trans (hb.mono HB61.out.size))
    clear hb
    go_simp
    refine hK.out _ _ ⟨HL1.out _ HB62.out 0 _ rfl, HL1.out _ HB62.out 1 _ rfl, HL1.out _ HB62.out 2 _ rfl, HL1.out _ HB62.out 3 _ rfl⟩ (fun hHeld1 => ?_)
    clear hK K hHeld0
    refine wpAnyH_take (i := 6) (v := ?_) rfl (by kernel_rfl) (by kernel_rfl) (by kernel_rfl) (fun _ _ _ h => h) (Or.inl ⟨by kernel_rfl, ?_⟩) (by assumption) ?_
    case refine_2 => (intro w hSw; (try dsimp only at hSw); go_simp; try with_reducible rfl)
    try simp only [Act.put, List.getElem_toArray, List.getElem_cons_succ, List.getElem_cons_zero, List.setIfInBounds_toArray, List.set_cons_zero, List.set_cons_succ]
    refine wpAnyH_take (i := 7) (v := ?_) rfl (by kernel_rfl) (by kernel_rfl) (by kernel_rfl) (fun _ _ _ h => h) (Or.inl ⟨by kernel_rfl, ?_⟩) (by assumption) ?_
    case refine_2 => (intro w hSw; (try dsimp only at hSw); go_simp; try with_reducible rfl)
    try simp only [Act.put, List.getElem_toArray, List.getElem_cons_succ, List.getElem_cons_zero, List.setIfInBounds_toArray, List.set_cons_zero, List.set_cons_succ]
    refine wpAnyH_take (i := 8) (v := ?_) rfl (by kernel_rfl) (by kernel_rfl) (by kernel_rfl) (fun _ _ _ h => h) (Or.inl ⟨by kernel_rfl, ?_⟩) (by assumption) ?_
    case refine_2 => (intro w hSw; (try dsimp only at hSw); go_simp; try with_reducible rfl)
    try simp only [Act.put, List.getElem_toArray, List.getElem_cons_succ, List.getElem_cons_zero, List.setIfInBounds_toArray, List.set_cons_zero, List.set_cons_succ]
    refine wpAnyH_take (i := 9) (v := ?_) rfl (by kernel_rfl) (by kernel_rfl) (by kernel_rfl) (fun _ _ _ h => h) (Or.inl ⟨by kernel_rfl, ?_⟩) (by assumption) ?_
    case refine_2 => (intro w hSw; (try dsimp only at hSw); obtain ⟨hS0, hS1, hS2, hS3⟩ := hSw; go_simp; try with_reducible rfl)
    try simp only [Act.put, List.getElem_toArray, List.getElem_cons_succ, List.getElem_cons_zero, List.setIfInBounds_toArray, List.set_cons_zero, List.set_cons_succ]
    refine wpAnyH_ready (rs := [10]) (by kernel_rfl) (by simp) ?_
    refine AllReadyH.cons rfl (fun K hK => ?_) AllReadyH.nil
    go_simp
    refine (HSt.out ⟨#[71, 69, 84, 32, 47, 32, 72, 84, 84, 80, 47, 51, 46, 48, 13, 10]⟩ 505 (by decide) nm_s2 _ HB62.out).mono ?_
    rintro e wa2 ⟨rfl, hb⟩
    have HB63 := Lib.hid (HB62.out.trans (hb.mono HB62.out.size))
    clear hb
    go_simp
    refine hK.out _ _ ⟨HL1.out _ HB63.out 0 _ rfl, HL1.out _ HB63.out 1 _ rfl, HL1.out _ HB63.out 2 _ rfl, HL1.out _ HB63.out 3 _ rfl⟩ (fun hHeld2 => ?_)
    clear hK K hHeld1
    refine wpAnyH_take (i := 11) (v := ?_) rfl (by kernel_rfl) (by kernel_rfl) (by kernel_rfl) (fun _ _ _ h => h) (Or.inl ⟨by kernel_rfl, ?_⟩) (by assumption) ?_
    case refine_2 => (intro w hSw; (try dsimp only at hSw); go_simp; try with_reducible rfl)
    try simp only [Act.put, List.getElem_toArray, List.getElem_cons_succ, List.getElem_cons_zero, List.setIfInBounds_toArray, List.set_cons_zero, List.set_cons_succ]
    refine wpAnyH_take (i := 12) (v := ?_) rfl (by kernel_rfl) (by kernel_rfl) (by kernel_rfl) (fun _ _ _ h => h) (Or.inl ⟨by kernel_rfl, ?_⟩) (by assumption) ?_
    case refine_2 => (intro w hSw; (try dsimp only at hSw); go_simp; try with_reducible rfl)
    try simp only [Act.put, List.getElem_toArray, List.getElem_cons_succ, List.getElem_cons_zero, List.setIfInBounds_toArray, List.set_cons_zero, List.set_cons_succ]
    refine wpAnyH_take (i := 13) (v := ?_) rfl (by kernel_rfl) (by kernel_rfl) (by kernel_rfl) (fun _ _ _ h => h) (Or.inl ⟨by kernel_rfl, ?_⟩) (by assumption) ?_
    case refine_2 => (intro w hSw; (try dsimp only at hSw); go_simp; try with_reducible rfl)
    try simp only [Act.put, List.getElem_toArray, List.getElem_cons_succ, List.getElem_cons_zero, List.setIfInBounds_toArray, List.set_cons_zero, List.set_cons_succ]
    refine wpAnyH_take (i := 14) (v := ?_) rfl (by kernel_rfl) (by kernel_rfl) (by kernel_rfl) (fun _ _ _ h => h) (Or.inl ⟨by kernel_rfl, ?_⟩) (by assumption) ?_
    case refine_2 => (intro w hSw; (try dsimp only at hSw); obtain ⟨hS0, hS1, hS2, hS3⟩ := hSw; go_simp; try with_reducible rfl)
    try simp only [Act.put, List.getElem_toArray, List.getElem_cons_succ, List.getElem_cons_zero, List.setIfInBounds_toArray, List.set_cons_zero, List.set_cons_succ]
    refine wpAnyH_ready (rs := [15]) (by kernel_rfl) (by simp) ?_
    refine AllReadyH.cons rfl (fun K hK => ?_) AllReadyH.nil
    go_simp
    refine (HSt.out ⟨#[71, 69, 84, 32, 47, 32, 72, 84, 84, 80, 47, 49, 46, 49, 13, 10, 72, 111, 115, 116, 32, 58, 32, 97, 13, 10]⟩ 400 (by decide) nm_s3 _ HB63.out).mono ?_
    rintro e wa3 ⟨rfl, hb⟩
    have HB64 := Lib.hid (HB63.out.trans (hb.mono HB63.out.size))
    clear hb
    go_simp
    refine hK.out _ _ ⟨HL1.out _ HB64.out 0 _ rfl, HL1.out _ HB64.out 1 _ rfl, HL1.out _ HB64.out 2 _ rfl, HL1.out _ HB64.out 3 _ rfl⟩ (fun hHeld3 => ?_)
    clear hK K hHeld2
    refine wpAnyH_take (i := 16) (v := ?_) rfl (by kernel_rfl) (by kernel_rfl) (by kernel_rfl) (fun _ _ _ h => h) (Or.inl ⟨by kernel_rfl, ?_⟩) (by assumption) ?_
    case refine_2 => (intro w hSw; (try dsimp only at hSw); go_simp; try with_reducible rfl)
    try simp only [Act.put, List.getElem_toArray, List.getElem_cons_succ, List.getElem_cons_zero, List.setIfInBounds_toArray, List.set_cons_zero, List.set_cons_succ]
    refine wpAnyH_take (i := 17) (v := ?_) rfl (by kernel_rfl) (by kernel_rfl) (by kernel_rfl) (fun _ _ _ h => h) (Or.inl ⟨by kernel_rfl, ?_⟩) (by assumption) ?_
    case refine_2 => (intro w hSw; (try dsimp only at hSw); go_simp; try with_reducible rfl)
    try simp only [Act.put, List.getElem_toArray, List.getElem_cons_succ, List.getElem_cons_zero, List.setIfInBounds_toArray, List.set_cons_zero, List.set_cons_succ]
    refine wpAnyH_take (i := 18) (v := ?_) rfl (by kernel_rfl) (by kernel_rfl) (by kernel_rfl) (fun _ _ _ h => h) (Or.inl ⟨by kernel_rfl, ?_⟩) (by assumption) ?_
    case refine_2 => (intro w hSw; (try dsimp only at hSw); go_simp; try with_reducible rfl)
    try simp only [Act.put, List.getElem_toArray, List.getElem_cons_succ, List.getElem_cons_zero, List.setIfInBounds_toArray, List.set_cons_zero, List.set_cons_succ]
    refine wpAnyH_take (i := 19) (v := ?_) rfl (by kernel_rfl) (by kernel_rfl) (by kernel_rfl) (fun _ _ _ h => h) (Or.inl ⟨by kernel_rfl, ?_⟩) (by assumption) ?_
    case refine_2 => (intro w hSw; (try dsimp only at hSw); obtain ⟨hS0, hS1, hS2, hS3⟩ := hSw; go_simp; try with_reducible rfl)
    try simp only [Act.put, List.getElem_toArray, List.getElem_cons_succ, List.getElem_cons_zero, List.setIfInBounds_toArray, List.set_cons_zero, List.set_cons_succ]
    refine wpAnyH_ready (rs := [20]) (by kernel_rfl) (by simp) ?_
    refine AllReadyH.cons rfl (fun K hK => ?_) AllReadyH.nil
    go_simp
    refine (HSt.out ⟨#[71, 69, 84, 32, 47, 32, 72, 84, 84, 80, 47, 49, 46, 49, 13, 10, 32, 72, 111, 115, 116, 58, 32, 97, 13, 10]⟩ 400 (by decide) nm_s4 _ HB64.out).mono ?_
    rintro e wa4 ⟨rfl, hb⟩
    have HB65 := Lib.hid (HB64.out.trans (hb.mono HB64.out.size))
    clear hb
    go_simp
    refine hK.out _ _ ⟨HL1.out _ HB65.out 0 _ rfl, HL1.out _ HB65.out 1 _ rfl, HL1.out _ HB65.out 2 _ rfl, HL1.out _ HB65.out 3 _ rfl⟩ (fun hHeld4 => ?_)
    clear hK K hHeld3
    refine wpAnyH_take (i := 21) (v := ?_) rfl (by kernel_rfl) (by kernel_rfl) (by kernel_rfl) (fun _ _ _ h => h) (Or.inl ⟨by kernel_rfl, ?_⟩) (by assumption) ?_
    case refine_2 => (intro w hSw; (try dsimp only at hSw); go_simp; try with_reducible rfl)
    try simp only [Act.put, List.getElem_toArray, List.getElem_cons_succ, List.getElem_cons_zero, List.setIfInBounds_toArray, List.set_cons_zero, List.set_cons_succ]
    refine wpAnyH_take (i := 22) (v := ?_) rfl (by kernel_rfl) (by kernel_rfl) (by kernel_rfl) (fun _ _ _ h => h) (Or.inl ⟨by kernel_rfl, ?_⟩) (by assumption) ?_
    case refine_2 => (intro w hSw; (try dsimp only at hSw); go_simp; try with_reducible rfl)
    try simp only [Act.put, List.getElem_toArray, List.getElem_cons_succ, List.getElem_cons_zero, List.setIfInBounds_toArray, List.set_cons_zero, List.set_cons_succ]
    refine wpAnyH_take (i := 23) (v := ?_) rfl (by kernel_rfl) (by kernel_rfl) (by kernel_rfl) (fun _ _ _ h => h) (Or.inl ⟨by kernel_rfl, ?_⟩) (by assumption) ?_
    case refine_2 => (intro w hSw; (try dsimp only at hSw); go_simp; try with_reducible rfl)
    try simp only [Act.put, List.getElem_toArray, List.getElem_cons_succ, List.getElem_cons_zero, List.setIfInBounds_toArray, List.set_cons_zero, List.set_cons_succ]
    refine wpAnyH_take (i := 24) (v := ?_) rfl (by kernel_rfl) (by kernel_rfl) (by kernel_rfl) (fun _ _ _ h => h) (Or.inl ⟨by kernel_rfl, ?_⟩) (by assumption) ?_
    case refine_2 => (intro w hSw; (try dsimp only at hSw); obtain ⟨hS0, hS1, hS2, hS3⟩ := hSw; go_simp; try with_reducible rfl)
    try simp only [Act.put, List.getElem_toArray, List.getElem_cons_succ, List.getElem_cons_zero, List.setIfInBounds_toArray, List.set_cons_zero, List.set_cons_succ]
    refine wpAnyH_ready (rs := [25]) (by kernel_rfl) (by simp) ?_
    refine AllReadyH.cons rfl (fun K hK => ?_) AllReadyH.nil
    go_simp
    refine (HSt.out ⟨#[71, 69, 84, 32, 47, 32, 72, 84, 84, 80, 47, 49, 46, 49, 13, 10, 72, 111, 115, 116, 58, 32, 97, 13, 10, 72, 111, 115, 116, 58, 32, 97, 13, 10, 13, 10]⟩ 400 (by decide) nm_s5 _ HB65.out).mono ?_
    rintro e wa5 ⟨rfl, hb⟩
    have HB66 := Lib.hid (HB65.out.trans (hb.mono HB65.out.size))
    clear hb
    go_simp
    refine hK.out _ _ ⟨HL1.out _ HB66.out 0 _ rfl, HL1.out _ HB66.out 1 _ rfl, HL1.out _ HB66.out 2 _ rfl, HL1.out _ HB66.out 3 _ rfl⟩ (fun hHeld5 => ?_)
    clear hK K hHeld4
    refine wpAnyH_take (i := 26) (v := ?_) rfl (by kernel_rfl) (by kernel_rfl) (by kernel_rfl) (fun _ _ _ h => h) (Or.inl ⟨by kernel_rfl, ?_⟩) (by assumption) ?_
    case refine_2 => (intro w hSw; (try dsimp only at hSw); go_simp; try with_reducible rfl)
    try simp only [Act.put, List.getElem_toArray, List.getElem_cons_succ, List.getElem_cons_zero, List.setIfInBounds_toArray, List.set_cons_zero, List.set_cons_succ]
    refine wpAnyH_take (i := 27) (v := ?_) rfl (by kernel_rfl) (by kernel_rfl) (by kernel_rfl) (fun _ _ _ h => h) (Or.inl ⟨by kernel_rfl, ?_⟩) (by assumption) ?_
    case refine_2 => (intro w hSw; (try dsimp only at hSw); go_simp; try with_reducible rfl)
    try simp only [Act.put, List.getElem_toArray, List.getElem_cons_succ, List.getElem_cons_zero, List.setIfInBounds_toArray, List.set_cons_zero, List.set_cons_succ]
    refine wpAnyH_take (i := 28) (v := ?_) rfl (by kernel_rfl) (by kernel_rfl) (by kernel_rfl) (fun _ _ _ h => h) (Or.inl ⟨by kernel_rfl, ?_⟩) (by assumption) ?_
    case refine_2 => (intro w hSw; (try dsimp only at hSw); go_simp; try with_reducible rfl)
    try simp only [Act.put, List.getElem_toArray, List.getElem_cons_succ, List.getElem_cons_zero, List.setIfInBounds_toArray, List.set_cons_zero, List.set_cons_succ]
    refine wpAnyH_take (i := 29) (v := ?_) rfl (by kernel_rfl) (by kernel_rfl) (by kernel_rfl) (fun _ _ _ h => h) (Or.inl ⟨by kernel_rfl, ?_⟩) (by assumption) ?_
    case refine_2 => (intro w hSw; (try dsimp only at hSw); obtain ⟨hS0, hS1, hS2, hS3⟩ := hSw; go_simp; try with_reducible rfl)
    try simp only [Act.put, List.getElem_toArray, List.getElem_cons_succ, List.getElem_cons_zero, List.setIfInBounds_toArray, List.set_cons_zero, List.set_cons_succ]
    refine wpAnyH_ready (rs := [30]) (by kernel_rfl) (by simp) ?_
    refine AllReadyH.cons rfl (fun K hK => ?_) AllReadyH.nil
    go_simp
    refine (HSt.out ⟨#[71, 69, 84, 32, 47, 32, 72, 84, 84, 80, 47, 49, 46, 48, 13, 10, 13, 10]⟩ 0 (by decide) nm_s6 _ HB66.out).mono ?_
    rintro e wa6 ⟨rfl, hb⟩
    have HB67 := Lib.hid (HB66.out.trans (hb.mono HB66.out.size))
    clear hb
    go_simp
    refine hK.out _ _ ⟨HL1.out _ HB67.out 0 _ rfl, HL1.out _ HB67.out 1 _ rfl, HL1.out _ HB67.out 2 _ rfl, HL1.out _ HB67.out 3 _ rfl⟩ (fun hHeld6 => ?_)
    clear hK K hHeld5
    refine wpAnyH_take (i := 31) (v := ?_) rfl (by kernel_rfl) (by kernel_rfl) (by kernel_rfl) (fun _ _ _ h => h) (Or.inl ⟨by kernel_rfl, ?_⟩) (by assumption) ?_
    case refine_2 => (intro w hSw; (try dsimp only at hSw); go_simp; try with_reducible rfl)
    try simp only [Act.put, List.getElem_toArray, List.getElem_cons_succ, List.getElem_cons_zero, List.setIfInBounds_toArray, List.set_cons_zero, List.set_cons_succ]
    refine wpAnyH_take (i := 32) (v := ?_) rfl (by kernel_rfl) (by kernel_rfl) (by kernel_rfl) (fun _ _ _ h => h) (Or.inl ⟨by kernel_rfl, ?_⟩) (by assumption) ?_
    case refine_2 => (intro w hSw; (try dsimp only at hSw); go_simp; try with_reducible rfl)
    try simp only [Act.put, List.getElem_toArray, List.getElem_cons_succ, List.getElem_cons_zero, List.setIfInBounds_toArray, List.set_cons_zero, List.set_cons_succ]
    refine wpAnyH_take (i := 33) (v := ?_) rfl (by kernel_rfl) (by kernel_rfl) (by kernel_rfl) (fun _ _ _ h => h) (Or.inl ⟨by kernel_rfl, ?_⟩) (by assumption) ?_
    case refine_2 => (intro w hSw; (try dsimp only at hSw); go_simp; try with_reducible rfl)
    try simp only [Act.put, List.getElem_toArray, List.getElem_cons_succ, List.getElem_cons_zero, List.setIfInBounds_toArray, List.set_cons_zero, List.set_cons_succ]
    refine wpAnyH_take (i := 34) (v := ?_) rfl (by kernel_rfl) (by kernel_rfl) (by kernel_rfl) (fun _ _ _ h => h) (Or.inl ⟨by kernel_rfl, ?_⟩) (by assumption) ?_
    case refine_2 => (intro w hSw; (try dsimp only at hSw); obtain ⟨hS0, hS1, hS2, hS3⟩ := hSw; go_simp; try with_reducible rfl)
    try simp only [Act.put, List.getElem_toArray, List.getElem_cons_succ, List.getElem_cons_zero, List.setIfInBounds_toArray, List.set_cons_zero, List.set_cons_succ]
    refine wpAnyH_ready (rs := [35]) (by kernel_rfl) (by simp) ?_
    refine AllReadyH.cons rfl (fun K hK => ?_) AllReadyH.nil
    go_simp
    refine (HSt.out ⟨#[71, 69, 84, 32, 47, 32, 72, 84, 84, 80, 47, 49, 46, 49, 13, 10, 72, 111, 115, 116, 58, 32, 97, 47, 98, 13, 10, 13, 10]⟩ 400 (by decide) nm_s7 _ HB67.out).mono ?_
    rintro e wa7 ⟨rfl, hb⟩
    have HB68 := Lib.hid (HB67.out.trans (hb.mono HB67.out.size))
    clear hb
    go_simp
    refine hK.out _ _ ⟨HL1.out _ HB68.out 0 _ rfl, HL1.out _ HB68.out 1 _ rfl, HL1.out _ HB68.out 2 _ rfl, HL1.out _ HB68.out 3 _ rfl⟩ (fun hHeld7 => ?_)
    clear hK K hHeld6
    refine wpAnyH_take (i := 36) (v := ?_) rfl (by kernel_rfl) (by kernel_rfl) (by kernel_rfl) (fun _ _ _ h => h) (Or.inl ⟨by kernel_rfl, ?_⟩) (by assumption) ?_
    case refine_2 => (intro w hSw; (try dsimp only at hSw); go_simp; try with_reducible rfl)
    try simp only [Act.put, List.getElem_toArray, List.getElem_cons_succ, List.getElem_cons_zero, List.setIfInBounds_toArray, List.set_cons_zero, List.set_cons_succ]
    refine wpAnyH_take (i := 37) (v := ?_) rfl (by kernel_rfl) (by kernel_rfl) (by kernel_rfl) (fun _ _ _ h => h) (Or.inl ⟨by kernel_rfl, ?_⟩) (by assumption) ?_
    case refine_2 => (intro w hSw; (try dsimp only at hSw); go_simp; try with_reducible rfl)
    try simp only [Act.put, List.getElem_toArray, List.getElem_cons_succ, List.getElem_cons_zero, List.setIfInBounds_toArray, List.set_cons_zero, List.set_cons_succ]
    refine wpAnyH_take (i := 38) (v := ?_) rfl (by kernel_rfl) (by kernel_rfl) (by kernel_rfl) (fun _ _ _ h => h) (Or.inl ⟨by kernel_rfl, ?_⟩) (by assumption) ?_
    case refine_2 => (intro w hSw; (try dsimp only at hSw); go_simp; try with_reducible rfl)
    try simp only [Act.put, List.getElem_toArray, List.getElem_cons_succ, List.getElem_cons_zero, List.setIfInBounds_toArray, List.set_cons_zero, List.set_cons_succ]
    refine wpAnyH_take (i := 39) (v := ?_) rfl (by kernel_rfl) (by kernel_rfl) (by kernel_rfl) (fun _ _ _ h => h) (Or.inl ⟨by kernel_rfl, ?_⟩) (by assumption) ?_
    case refine_2 => (intro w hSw; (try dsimp only at hSw); obtain ⟨hS0, hS1, hS2, hS3⟩ := hSw; go_simp; try with_reducible rfl)
    try simp only [Act.put, List.getElem_toArray, List.getElem_cons_succ, List.getElem_cons_zero, List.setIfInBounds_toArray, List.set_cons_zero, List.set_cons_succ]
    refine wpAnyH_take (i := 40) (v := ?_) rfl (by kernel_rfl) (by kernel_rfl) (by kernel_rfl) (fun _ _ _ h => h) (Or.inl ⟨by kernel_rfl, ?_⟩) (by assumption) ?_
    case refine_2 => (intro w hSw; (try dsimp only at hSw); go_simp; try with_reducible rfl)
    try simp only [Act.put, List.getElem_toArray, List.getElem_cons_succ, List.getElem_cons_zero, List.setIfInBounds_toArray, List.set_cons_zero, List.set_cons_succ]
    refine wpAnyH_ready (rs := [41]) (by kernel_rfl) (by simp) ?_
    refine AllReadyH.cons rfl (fun K hK => ?_) AllReadyH.nil
    go_simp
    refine (HSt.out ((⟨#[71, 69, 84, 32, 47, 32, 72, 84, 84, 80, 47, 49, 46, 49, 13, 10, 72, 111, 115, 116, 58, 32, 97, 13, 10, 13, 10]⟩ : ByteArray).extract 0 20) 400 (by decide) nm_s8 _ HB68.out).mono ?_
    rintro e wa8 ⟨rfl, hb⟩
    have HB69 := Lib.hid (HB68.out.trans (hb.mono HB68.out.size))
    clear hb
    go_simp
    refine hK.out _ _ ⟨HL1.out _ HB69.out 0 _ rfl, HL1.out _ HB69.out 1 _ rfl, HL1.out _ HB69.out 2 _ rfl, HL1.out _ HB69.out 3 _ rfl⟩ (fun hHeld8 => ?_)
    clear hK K hHeld7
    refine wpAnyH_take (i := 42) (v := ?_) rfl (by kernel_rfl) (by kernel_rfl) (by kernel_rfl) (fun _ _ _ h => h) (Or.inl ⟨by kernel_rfl, ?_⟩) (by assumption) ?_
    case refine_2 => (intro w hSw; (try dsimp only at hSw); go_simp; try with_reducible rfl)
    try simp only [Act.put, List.getElem_toArray, List.getElem_cons_succ, List.getElem_cons_zero, List.setIfInBounds_toArray, List.set_cons_zero, List.set_cons_succ]
    refine wpAnyH_take (i := 43) (v := ?_) rfl (by kernel_rfl) (by kernel_rfl) (by kernel_rfl) (fun _ _ _ h => h) (Or.inl ⟨by kernel_rfl, ?_⟩) (by assumption) ?_
    case refine_2 => (intro w hSw; (try dsimp only at hSw); go_simp; try with_reducible rfl)
    try simp only [Act.put, List.getElem_toArray, List.getElem_cons_succ, List.getElem_cons_zero, List.setIfInBounds_toArray, List.set_cons_zero, List.set_cons_succ]
    refine wpAnyH_take (i := 44) (v := ?_) rfl (by kernel_rfl) (by kernel_rfl) (by kernel_rfl) (fun _ _ _ h => h) (Or.inl ⟨by kernel_rfl, ?_⟩) (by assumption) ?_
    case refine_2 => (intro w hSw; (try dsimp only at hSw); go_simp; try with_reducible rfl)
    try simp only [Act.put, List.getElem_toArray, List.getElem_cons_succ, List.getElem_cons_zero, List.setIfInBounds_toArray, List.set_cons_zero, List.set_cons_succ]
    refine wpAnyH_done (by kernel_rfl) ?_ _
    clear hHeld8 HSt HB60 HB61 HB62 HB63 HB64 HB65 HB66 HB67 HB68
    as_aux_lemma =>
      have j0 := HL2.out wa8 HB69.out 0 _ rfl
      have j1 := HL2.out wa8 HB69.out 1 _ rfl
      have j2 := HL2.out wa8 HB69.out 2 _ rfl
      have j3 := HL2.out wa8 HB69.out 3 _ rfl
      go_wp2_with fail
      refine (stat_any 20 40 2 3 20 40 2 3 ⟨#[71, 69, 84, 32, 47, 97, 97, 97, 97, 97, 97, 97, 97, 97, 97, 97, 97, 97, 97, 97, 97, 97, 97, 97, 97]⟩ 431 _ rfl rfl rfl rfl (by unfold LimP; decide) (by decide) (HVe.out _ (HBb.out _ HB69.out)) nm_t0).mono ?_
      rintro e wb0 ⟨rfl, hb⟩
      have HB70 := Lib.hid (HB69.out.trans (hb.mono HB69.out.size))
      have j0 := HL2.out wb0 HB70.out 0 _ rfl
      have j1 := HL2.out wb0 HB70.out 1 _ rfl
      have j2 := HL2.out wb0 HB70.out 2 _ rfl
      have j3 := HL2.out wb0 HB70.out 3 _ rfl
      clear hb
      go_wp2_with fail
      refine (stat_any 20 40 2 3 20 40 2 3 ⟨#[71, 69, 84, 32, 47, 32, 72, 84, 84, 80, 47, 49, 46, 49, 13, 10, 65, 58, 32, 49, 13, 10, 66, 58, 32, 50, 13, 10, 67, 58, 32, 51, 13, 10]⟩ 431 _ rfl rfl rfl rfl (by unfold LimP; decide) (by decide) (HVe.out _ (HBb.out _ HB70.out)) nm_t1).mono ?_
      rintro e wb1 ⟨rfl, hb⟩
      have HB71 := Lib.hid (HB70.out.trans (hb.mono HB70.out.size))
      have j0 := HL2.out wb1 HB71.out 0 _ rfl
      have j1 := HL2.out wb1 HB71.out 1 _ rfl
      have j2 := HL2.out wb1 HB71.out 2 _ rfl
      have j3 := HL2.out wb1 HB71.out 3 _ rfl
      clear hb
      go_wp2_with fail
      refine (stat_any 20 40 2 3 20 40 2 3 ⟨#[71, 69, 84, 32, 47, 32, 72, 84, 84, 80, 47, 49, 46, 48, 13, 10, 67, 111, 110, 116, 101, 110, 116, 45, 76, 101, 110, 103, 116, 104, 58, 32, 52, 13, 10, 13, 10]⟩ 413 _ rfl rfl rfl rfl (by unfold LimP; decide) (by decide) (HVe.out _ (HBb.out _ HB71.out)) nm_t2).mono ?_
      rintro e wb2 ⟨rfl, hb⟩
      have HB72 := Lib.hid (HB71.out.trans (hb.mono HB71.out.size))
      have j0 := HL2.out wb2 HB72.out 0 _ rfl
      have j1 := HL2.out wb2 HB72.out 1 _ rfl
      have j2 := HL2.out wb2 HB72.out 2 _ rfl
      have j3 := HL2.out wb2 HB72.out 3 _ rfl
      clear hb
      go_wp2_with fail
      refine (stat_any 30 60 2 3 30 60 2 3 ⟨#[71, 69, 84, 32, 47, 32, 72, 84, 84, 80, 47, 49, 46, 48, 13, 10, 67, 111, 110, 116, 101, 110, 116, 45, 76, 101, 110, 103, 116, 104, 58, 32, 52, 13, 10, 13, 10]⟩ 413 _ rfl rfl rfl rfl (by unfold LimP; decide) (by decide) (HVe.out _ (HBb.out _ HB72.out)) nm_t3).mono ?_
      rintro e wb3 ⟨rfl, hb⟩
      have HB73 := Lib.hid (HB72.out.trans (hb.mono HB72.out.size))
      have j0 := HL2.out wb3 HB73.out 0 _ rfl
      have j1 := HL2.out wb3 HB73.out 1 _ rfl
      have j2 := HL2.out wb3 HB73.out 2 _ rfl
      have j3 := HL2.out wb3 HB73.out 3 _ rfl
      clear hb
      clear j0 j1 j2 j3
      go_wp2_with fail
      as_aux_lemma =>
        obtain ⟨R1, hR1⟩ : ∃ R, R = (feedP (q0 [[71, 69, 84]]) [72, 84, 84, 80, 47, 49, 46, 49, 32, 50, 48, 48, 32, 79, 75, 13, 10, 84, 114, 97, 110, 115, 102, 101, 114, 45, 69, 110, 99, 111, 100, 105, 110, 103, 58, 32, 99, 104, 117, 110, 107, 101, 100, 13, 10, 13, 10, 50, 13, 10, 97, 98, 13, 10, 48, 13, 10, 13, 10]).2 := ⟨_, rfl⟩
        have hf1 := nm_r1
        rw [← hR1] at hf1
        simp only [Prod.mk.injEq] at hf1
        have HF1 := Lib.hid hf1
        have HRs1 := Lib.hid (resp_any ⟨#[71, 69, 84]⟩ ⟨#[72, 84, 84, 80, 47, 49, 46, 49, 32, 50, 48, 48, 32, 79, 75, 13, 10, 84, 114, 97, 110, 115, 102, 101, 114, 45, 69, 110, 99, 111, 100, 105, 110, 103, 58, 32, 99, 104, 117, 110, 107, 101, 100, 13, 10, 13, 10, 50, 13, 10, 97, 98, 13, 10, 48, 13, 10, 13, 10]⟩ R1 _ (HVe.out _ (HBb.out _ HB73.out)) (by decide +kernel) (by decide) (by decide) hR1.symm HF1.out.1 (by have := HF1.out.2.1; omega))
        unfold MsgOut at HRs1
        clear hR1 hf1
        refine HRs1.out.mono ?_
        rintro e wc1 ⟨p1, n1, c1, q1, l1, d1, rfl, hb⟩
        have HB81 := Lib.hid (HB73.out.trans (hb.mono HB73.out.size))
        have hAl : Below w5.heap.size w5 (wc1.alloc (.cells #[.string (mkS R1.msg.m), .string (mkS R1.msg.t), .int .i64 R1.msg.st, .string (mkS R1.msg.r), .int .i64 R1.msg.mi, .slice p1 n1 c1, .string (mkS R1.msg.body), .slice q1 l1 d1] 32)) := HB81.out.alloc HB81.out.size _
        have HBx1 := Lib.hid (show (wc1.alloc (.cells #[.string (mkS R1.msg.m), .string (mkS R1.msg.t), .int .i64 R1.msg.st, .string (mkS R1.msg.r), .int .i64 R1.msg.mi, .slice p1 n1 c1, .string (mkS R1.msg.body), .slice q1 l1 d1] 32)).heap[wc1.heap.size]? = some (.cells #[.string (mkS R1.msg.m), .string (mkS R1.msg.t), .int .i64 R1.msg.st, .string (mkS R1.msg.r), .int .i64 R1.msg.mi, .slice p1 n1 c1, .string (mkS R1.msg.body), .slice q1 l1 d1] 32 (0, 0)) from heap_alloc_last wc1 _)
        have HB91 := Lib.hid hAl
        clear hAl hb HRs1
        go_upto_region 9 with (fail)
        generalize wc1.alloc (.cells #[.string (mkS R1.msg.m), .string (mkS R1.msg.t), .int .i64 R1.msg.st, .string (mkS R1.msg.r), .int .i64 R1.msg.mi, .slice p1 n1 c1, .string (mkS R1.msg.body), .slice q1 l1 d1] 32) = wd1 at *
        generalize wc1.heap.size = g7 at *
        go_wp2_with fail
        obtain ⟨R2, hR2⟩ : ∃ R, R = (feedP (q0 [[72, 69, 65, 68]]) [72, 84, 84, 80, 47, 49, 46, 49, 32, 50, 48, 48, 32, 79, 75, 13, 10, 67, 111, 110, 116, 101, 110, 116, 45, 76, 101, 110, 103, 116, 104, 58, 32, 57, 13, 10, 13, 10]).2 := ⟨_, rfl⟩
        have hf2 := nm_r2
        rw [← hR2] at hf2
        simp only [Prod.mk.injEq] at hf2
        have HF2 := Lib.hid hf2
        have HRs2 := Lib.hid (resp_any ⟨#[72, 69, 65, 68]⟩ ⟨#[72, 84, 84, 80, 47, 49, 46, 49, 32, 50, 48, 48, 32, 79, 75, 13, 10, 67, 111, 110, 116, 101, 110, 116, 45, 76, 101, 110, 103, 116, 104, 58, 32, 57, 13, 10, 13, 10]⟩ R2 _ (HVe.out _ (HBb.out _ HB91.out)) (by decide +kernel) (by decide) (by decide) hR2.symm HF2.out.1 (by have := HF2.out.2.1; omega))
        unfold MsgOut at HRs2
        clear hR2 hf2
        refine HRs2.out.mono ?_
        rintro e wc2 ⟨p2, n2, c2, q2, l2, d2, rfl, hb⟩
        have HBk1 := Lib.hid (blk_keep HBx1.out hb)
        have HB82 := Lib.hid (HB91.out.trans (hb.mono HB91.out.size))
        have hAl : Below w5.heap.size w5 (wc2.alloc (.cells #[.string (mkS R2.msg.m), .string (mkS R2.msg.t), .int .i64 R2.msg.st, .string (mkS R2.msg.r), .int .i64 R2.msg.mi, .slice p2 n2 c2, .string (mkS R2.msg.body), .slice q2 l2 d2] 32)) := HB82.out.alloc HB82.out.size _
        have HBx2 := Lib.hid (show (wc2.alloc (.cells #[.string (mkS R2.msg.m), .string (mkS R2.msg.t), .int .i64 R2.msg.st, .string (mkS R2.msg.r), .int .i64 R2.msg.mi, .slice p2 n2 c2, .string (mkS R2.msg.body), .slice q2 l2 d2] 32)).heap[wc2.heap.size]? = some (.cells #[.string (mkS R2.msg.m), .string (mkS R2.msg.t), .int .i64 R2.msg.st, .string (mkS R2.msg.r), .int .i64 R2.msg.mi, .slice p2 n2 c2, .string (mkS R2.msg.body), .slice q2 l2 d2] 32 (0, 0)) from heap_alloc_last wc2 _)
        have HB92 := Lib.hid hAl
        clear hAl hb HRs2
        as_aux_lemma =>
          have HM2 := Lib.hid (HMs.out.below HB92.out)
          have HBk2 := Lib.hid (show (wc2.alloc (.cells #[.string (mkS R2.msg.m), .string (mkS R2.msg.t), .int .i64 R2.msg.st, .string (mkS R2.msg.r), .int .i64 R2.msg.mi, .slice p2 n2 c2, .string (mkS R2.msg.body), .slice q2 l2 d2] 32)).heap[g7]? = some _ from blk_keep HBk1.out ((Below.refl _ _).alloc (Nat.le_refl _) _))
          have HBp := Lib.hid (fun (W : World) (hb : Below (wc2.alloc (.cells #[.string (mkS R2.msg.m), .string (mkS R2.msg.t), .int .i64 R2.msg.st, .string (mkS R2.msg.r), .int .i64 R2.msg.mi, .slice p2 n2 c2, .string (mkS R2.msg.body), .slice q2 l2 d2] 32)).heap.size (wc2.alloc (.cells #[.string (mkS R2.msg.m), .string (mkS R2.msg.t), .int .i64 R2.msg.st, .string (mkS R2.msg.r), .int .i64 R2.msg.mi, .slice p2 n2 c2, .string (mkS R2.msg.body), .slice q2 l2 d2] 32)) W) => HB92.out.trans (hb.mono HB92.out.size))
          have k0 := HL1.out _ HB92.out 0 _ rfl
          have k1 := HL1.out _ HB92.out 1 _ rfl
          have k2 := HL1.out _ HB92.out 2 _ rfl
          have k3 := HL1.out _ HB92.out 3 _ rfl
          clear HMs HBk1 HBx1 HL2 HB82 HB91
          go_upto_region 10 with (fail)
          generalize wc2.alloc (.cells #[.string (mkS R2.msg.m), .string (mkS R2.msg.t), .int .i64 R2.msg.st, .string (mkS R2.msg.r), .int .i64 R2.msg.mi, .slice p2 n2 c2, .string (mkS R2.msg.body), .slice q2 l2 d2] 32) = wp at *
          generalize wc2.heap.size = g10 at *
          go_wp2_with fail
          refine (presponses_any 200 1000 30 1000 200 1000 30 1000 wp.heap.size wp (Nat.le_refl _) rfl rfl rfl rfl).mono ?_
          rintro e wq1 ⟨b, V, rfl, hbb, ⟨q, hq7, hqm, hp⟩, hvm, hbe⟩
          obtain rfl : q = 2 := hqm rfl
          have HVp := Lib.hid (fun (W : World) (hb : Below wp.heap.size wp W) => (HVe.out wp (HBb.out wp HB92.out)).later hb)
          have HSy1 := Lib.hid (show Sync wp.heap.size b (q0 []) V wq1 from ⟨2, by omega, fun _ => rfl, hp⟩)
          have HC1 := Lib.hid (show Below wp.heap.size wp wq1 from hbe)
          have HVm := Lib.hid hvm
          clear hbb hq7 hqm hp hvm hbe k0 k1 k2 k3
          have HFi := Lib.hid (pfeedI_any ⟨#[72, 84, 84, 80]⟩ HSy1.out rfl (by decide))
          rw [show (q0 []).bad = 0 from rfl] at HFi
          unfold ptr at *
          go_wp2_with fail
          refine HFi.out.mono ?_
          rintro e wq2 ⟨rfl, ⟨q, hq7, hqm, hp⟩, hbl⟩
          obtain rfl : q = 2 := hqm rfl
          have HC2 := Lib.hid (HC1.out.trans hbl)
          have HEx := Lib.hid (pexpect_any ⟨#[71, 69, 84]⟩ hp (show wq2.ownsRow wp.heap.size 9 1 V.m 0 (strs []) by rw [HVm.out]; exact World.ownsRow_nil _ _ _ _) rfl (by decide) (by decide) (by decide +kernel))
          clear hq7 hqm hp hbl HFi HSy1 HC1 HVm
          unfold ptr at HEx
          go_wp2_with fail
          refine HEx.out.mono ?_
          rintro e wq3 ⟨rfl, v', hp3, -, hb3⟩
          have HC3 := Lib.hid (HC2.out.trans hb3)
          have hsy3 : Sync wp.heap.size b (q0 [[71, 69, 84]]) { V with m := v' } wq3 := ⟨2, by omega, fun _ => rfl, hp3⟩
          have HSy3 := Lib.hid hsy3
          obtain ⟨R3, hR3⟩ : ∃ R, R = (feedP (q0 [[71, 69, 84]]) [72, 84, 84, 80, 47, 49, 46, 49, 32, 49, 48, 48, 32, 71, 111, 13, 10, 13, 10]).2 := ⟨_, rfl⟩
          have hf3 := nm_100
          rw [← hR3] at hf3
          simp only [Prod.mk.injEq] at hf3
          have HF3 := Lib.hid hf3
          have hfr := fresh_ear [71, 69, 84] [] [72, 84, 84, 80, 47, 49, 46, 49, 32, 49, 48, 48, 32, 71, 111, 13, 10, 13, 10] hR3 (by omega)
          have HFr3 := Lib.hid hfr
          have hlm := feedP_lim [72, 84, 84, 80, 47, 49, 46, 49, 32, 49, 48, 48, 32, 71, 111, 13, 10, 13, 10] (q0 [[71, 69, 84]])
          rw [← hR3] at hlm
          have HLm3 := Lib.hid (hlm.2.2.2.2.1)
          have hfd := pfeedG_any ⟨#[72, 84, 84, 80, 47, 49, 46, 49, 32, 49, 48, 48, 32, 71, 111, 13, 10, 13, 10]⟩ hsy3 (q0_ok _) (by decide) (HVp.out _ HC3.out)
          rw [show bs ⟨#[72, 84, 84, 80, 47, 49, 46, 49, 32, 49, 48, 48, 32, 71, 111, 13, 10, 13, 10]⟩ = [72, 84, 84, 80, 47, 49, 46, 49, 32, 49, 48, 48, 32, 71, 111, 13, 10, 13, 10] from rfl, ← hR3] at hfd
          have HFd := Lib.hid hfd
          clear hp3 hb3 hsy3 hR3 hf3 hfr hlm hfd HEx HC2
          generalize (feedP (q0 [[71, 69, 84]]) [72, 84, 84, 80, 47, 49, 46, 49, 32, 49, 48, 48, 32, 71, 111, 13, 10, 13, 10]).1 = n100 at *
          unfold ptr at HFd
          go_wp2_with fail
          refine HFd.out.mono ?_
          rintro e wq4 ⟨rfl, V4, hs4, ht4⟩
          have HC4 := Lib.hid (HC3.out.trans (HSy3.out.toBelow ht4))
          have HNx := Lib.hid (pnextE_any hs4 HLm3.out (by have := HF3.out.2; omega) HF3.out.1)
          obtain ⟨q4, hp4⟩ := hs4.par
          obtain ⟨p3, c3, hvf, -⟩ := isFlds_own hp4.flds
          obtain ⟨q3, d3, hvt, -⟩ := isFlds_own hp4.trl
          have hms : (msgL R3.msg V4.f V4.t).toArray = #[.string (mkS R3.msg.m), .string (mkS R3.msg.t), .int .i64 R3.msg.st, .string (mkS R3.msg.r), .int .i64 R3.msg.mi, .slice p3 R3.msg.f.length c3, .string (mkS R3.msg.body), .slice q3 R3.msg.tr.length d3] := by unfold msgL; rw [hvf, hvt]
          rw [hms, show R3.msg.st = 100 from HF3.out.2] at HNx
          have HBn := Lib.hid (fun (W' : World) (hn : NxPost wp.heap.size b R3 V4 wq4 W') => show Below wp.heap.size wp W' ∧ ∃ V', Sync wp.heap.size b (q0 [[71, 69, 84]]) V' W' from by
            obtain ⟨V', s', t', _⟩ := hn
            rw [HFr3.out] at s'
            exact ⟨HC4.out.trans (t'.toBelow hp4 (fun _ e => e.elim)), V', s'⟩)
          clear hs4 ht4 q4 hp4 hvf hvt hms HFd HSy3 HC3
          generalize mkS R3.msg.m = X0 at *
          generalize mkS R3.msg.t = X1 at *
          generalize mkS R3.msg.r = X3 at *
          generalize mkS R3.msg.body = X6 at *
          generalize R3.msg.mi = X4 at *
          generalize R3.msg.f.length = X5 at *
          generalize R3.msg.tr.length = X7 at *
          unfold ptr at HNx
          go_wp2_with fail
          refine HNx.out.mono ?_
          rintro e wq5 ⟨rfl, hn5⟩
          obtain ⟨hb5, V5, hs5⟩ := HBn.out wq5 hn5
          have hal : Below wq5.heap.size wq5 (wq5.alloc (.cells #[.string X0, .string X1, .int .i64 (100 : Nat), .string X3, .int .i64 X4, .slice p3 X5 c3, .string X6, .slice q3 X7 d3] 32)) := (Below.refl _ _).alloc (Nat.le_refl _) _
          have HC6 := Lib.hid (show Below wp.heap.size wp (wq5.alloc (.cells #[.string X0, .string X1, .int .i64 (100 : Nat), .string X3, .int .i64 X4, .slice p3 X5 c3, .string X6, .slice q3 X7 d3] 32)) from hb5.trans (hal.mono hb5.size))
          have HSy6 := Lib.hid (hs5.below hal)
          have hx : (wq5.alloc (.cells #[.string X0, .string X1, .int .i64 (100 : Nat), .string X3, .int .i64 X4, .slice p3 X5 c3, .string X6, .slice q3 X7 d3] 32)).heap[wq5.heap.size]? = some (.cells #[.string X0, .string X1, .int .i64 (100 : Nat), .string X3, .int .i64 X4, .slice p3 X5 c3, .string X6, .slice q3 X7 d3] 32 (0, 0)) := heap_alloc_last wq5 _
          have HY6 := Lib.hid (show (wq5.alloc (.cells #[.string X0, .string X1, .int .i64 (100 : Nat), .string X3, .int .i64 X4, .slice p3 X5 c3, .string X6, .slice q3 X7 d3] 32)).cell? ⟨wq5.heap.size, 2, none⟩ = some (.int .i64 100) from (Lib.cell_of_heap hx 2).trans rfl)
          obtain ⟨q5, hp5⟩ := hs5.par
          have HN6 := Lib.hid (show wq5.heap.size < (wq5.alloc (.cells #[.string X0, .string X1, .int .i64 (100 : Nat), .string X3, .int .i64 X4, .slice p3 X5 c3, .string X6, .slice q3 X7 d3] 32)).heap.size ∧ ¬ PMine b V5 wq5.heap.size from ⟨(Array.getElem?_eq_some_iff.1 hx).1, fun hm => by have := (hp5.mineLt _ hm).2; omega⟩)
          clear hn5 hb5 hs5 hal hx q5 hp5 HNx HBn HC4
          go_upto_region 15 with (fail)
          generalize wq5.alloc (.cells #[.string X0, .string X1, .int .i64 (100 : Nat), .string X3, .int .i64 X4, .slice p3 X5 c3, .string X6, .slice q3 X7 d3] 32) = wq6 at *
          generalize wq5.heap.size = g16 at *
          as_aux_lemma =>
            obtain ⟨R4, hR4⟩ : ∃ R, R = (feedP (q0 [[71, 69, 84]]) [72, 84, 84, 80, 47, 49, 46, 49, 32, 50, 48, 48, 32, 79, 75, 13, 10, 13, 10, 97, 98, 99]).2 := ⟨_, rfl⟩
            have hf4 := nm_200
            rw [← hR4] at hf4
            simp only [Prod.mk.injEq] at hf4
            have HF4 := Lib.hid hf4
            have hlm := feedP_lim [72, 84, 84, 80, 47, 49, 46, 49, 32, 50, 48, 48, 32, 79, 75, 13, 10, 13, 10, 97, 98, 99] (q0 [[71, 69, 84]])
            rw [← hR4] at hlm
            have HLm4 := Lib.hid (⟨hlm.2.2.2.2.1, hlm.2.2.2.2.2⟩ : _ ∧ _)
            have hfd := pfeedG_any ⟨#[72, 84, 84, 80, 47, 49, 46, 49, 32, 50, 48, 48, 32, 79, 75, 13, 10, 13, 10, 97, 98, 99]⟩ HSy6.out (q0_ok _) (by decide) (HVp.out _ HC6.out)
            rw [show bs ⟨#[72, 84, 84, 80, 47, 49, 46, 49, 32, 50, 48, 48, 32, 79, 75, 13, 10, 13, 10, 97, 98, 99]⟩ = [72, 84, 84, 80, 47, 49, 46, 49, 32, 50, 48, 48, 32, 79, 75, 13, 10, 13, 10, 97, 98, 99] from rfl, ← hR4] at hfd
            have HFd := Lib.hid hfd
            clear hR4 hf4 hlm hfd
            generalize (feedP (q0 [[71, 69, 84]]) [72, 84, 84, 80, 47, 49, 46, 49, 32, 50, 48, 48, 32, 79, 75, 13, 10, 13, 10, 97, 98, 99]).1 = n200 at *
            unfold ptr at HFd
            go_wp2_with fail
            refine HFd.out.mono ?_
            rintro e wq7 ⟨rfl, V7, hs7, ht7⟩
            have HC7 := Lib.hid (HC6.out.trans (HSy6.out.toBelow ht7))
            have HSy7 := Lib.hid hs7
            have HY7 := Lib.hid ((World.cell?_of_block (w := wq6) (a := ⟨g16, 2, none⟩) (ht7.block g16 HN6.out.1 HN6.out.2 (fun e => e))).trans HY6.out)
            have HN7 := Lib.hid (⟨Nat.lt_of_lt_of_le HN6.out.1 ht7.size, ht7.not_mine HN6.out⟩ : g16 < wq7.heap.size ∧ ¬ PMine b V7 g16)
            have HNo := Lib.hid (pnext_no hs7 HF4.out.1)
            clear hs7 ht7 HFd HSy6 HC6 HY6 HN6
            unfold ptr at HNo
            unfold nxZ at HNo
            go_wp2_with fail
            refine HNo.out.mono ?_
            rintro e wq8 ⟨rfl, hb8⟩
            have hal : Below wq7.heap.size wq7 (wq8.alloc (.cells #[.string ⟨#[]⟩, .string ⟨#[]⟩, .int .i64 0, .string ⟨#[]⟩, .int .i64 0, .slice none 0 0, .string ⟨#[]⟩, .slice none 0 0] 32)) := hb8.alloc hb8.size _
            have HC9 := Lib.hid (HC7.out.trans (hal.mono HC7.out.size))
            have HSy9 := Lib.hid (HSy7.out.below hal)
            have HY9 := Lib.hid ((hal.cell (p := ⟨g16, 2, none⟩) HN7.out.1).trans HY7.out)
            have HN9 := Lib.hid (show g16 < (wq8.alloc (.cells #[.string ⟨#[]⟩, .string ⟨#[]⟩, .int .i64 0, .string ⟨#[]⟩, .int .i64 0, .slice none 0 0, .string ⟨#[]⟩, .slice none 0 0] 32)).heap.size ∧ ¬ PMine b V7 g16 from ⟨Nat.lt_of_lt_of_le HN7.out.1 hal.size, HN7.out.2⟩)
            clear hb8 hal HNo HSy7 HC7 HY7 HN7
            go_upto_region 17 with (fail)
            generalize wq8.alloc (.cells #[.string ⟨#[]⟩, .string ⟨#[]⟩, .int .i64 0, .string ⟨#[]⟩, .int .i64 0, .slice none 0 0, .string ⟨#[]⟩, .slice none 0 0] 32) = wq9 at *
            generalize wq8.heap.size = g18 at *
            have hstp : stopP R4 = false := is_go (by rw [HF4.out.2.1]; decide) HF4.out.2.2.2.1 (by rw [HLm4.out.1, HLm4.out.2]; rfl)
            have HEn := Lib.hid (pendC_any HSy9.out hstp HF4.out.2.2.1 (by rw [HF4.out.2.1]; decide))
            have hep : endP R4 = { R4 with mode := 7, msg := { R4.msg with body := R4.body } } := by
              unfold endP; rw [con_stop, hstp, HF4.out.2.2.1]; rfl
            have HEp := Lib.hid hep
            clear hstp hep
            unfold ptr at HEn
            go_wp2_with fail
            refine HEn.out.mono ?_
            rintro e wr1 ⟨rfl, V10, hs10, ht10⟩
            have HC10 := Lib.hid (HC9.out.trans (HSy9.out.toBelow ht10))
            have HY10 := Lib.hid ((World.cell?_of_block (w := wq9) (a := ⟨g16, 2, none⟩) (ht10.block g16 HN9.out.1 HN9.out.2 (fun e => e))).trans HY9.out)
            have HN10 := Lib.hid (⟨Nat.lt_of_lt_of_le HN9.out.1 ht10.size, ht10.not_mine HN9.out⟩ : g16 < wr1.heap.size ∧ ¬ PMine b V10 g16)
            rw [HEp.out] at hs10
            have HNx := Lib.hid (pnextL_any hs10 HLm4.out.1 HLm4.out.2 (by show 200 ≤ R4.msg.st; have := HF4.out.2.2.2.2.2; omega) (by unfold waitP; rw [show R4.bad = 0 from HF4.out.2.2.2.1]; rfl))
            obtain ⟨q10, hp10⟩ := hs10.par
            obtain ⟨p4, c4, hvf, -⟩ := isFlds_own hp10.flds
            obtain ⟨q4, d4, hvt, -⟩ := isFlds_own hp10.trl
            have hms : (msgL { R4.msg with body := R4.body } V10.f V10.t).toArray = #[.string (mkS R4.msg.m), .string (mkS R4.msg.t), .int .i64 R4.msg.st, .string (mkS R4.msg.r), .int .i64 R4.msg.mi, .slice p4 R4.msg.f.length c4, .string (mkS R4.body), .slice q4 R4.msg.tr.length d4] := by unfold msgL; rw [hvf, hvt]
            rw [show ({ R4 with mode := 7, msg := { R4.msg with body := R4.body } } : Pr).msg = { R4.msg with body := R4.body } from rfl, hms, show R4.body = [97, 98, 99] from HF4.out.2.2.2.2.1] at HNx
            have HBn := Lib.hid (fun (W' : World) (hn : NxPost wp.heap.size b { R4 with mode := 7, msg := { R4.msg with body := R4.body } } V10 wr1 W') => show Below wp.heap.size wp W' ∧ W'.cell? ⟨g16, 2, none⟩ = some (.int .i64 100) ∧ ∃ s5 V' q5, Par wp.heap.size b s5 q5 s5.bad s5.left V' W' ∧ s5.rsp = true from by
              obtain ⟨V', s', t', _⟩ := hn
              obtain ⟨q5, hp5⟩ := s'.par
              exact ⟨HC10.out.trans (t'.toBelow hp10 (fun _ e => e.elim)), (World.cell?_of_block (w := wr1) (a := ⟨g16, 2, none⟩) (t'.block g16 HN10.out.1 HN10.out.2 (fun e => e))).trans HY10.out, _, V', q5, hp5, HLm4.out.1⟩)
            rw [show R4.body = [97, 98, 99] from HF4.out.2.2.2.2.1] at HBn
            clear hs10 ht10 q10 hp10 hvf hvt hms HEn HSy9 HC9 HY9 HN9
            generalize mkS R4.msg.m = Y0 at *
            generalize mkS R4.msg.t = Y1 at *
            generalize mkS R4.msg.r = Y3 at *
            generalize R4.msg.f.length = Y5 at *
            generalize R4.msg.tr.length = Y7 at *
            unfold ptr at HNx
            go_wp2_with fail
            refine HNx.out.mono ?_
            rintro e wr2 ⟨rfl, hn11⟩
            obtain ⟨hb11, hy11, s5, V11, q5, hp11, hrs⟩ := HBn.out wr2 hn11
            have hal : Below wr2.heap.size wr2 (wr2.alloc (.cells #[.string Y0, .string Y1, .int .i64 R4.msg.st, .string Y3, .int .i64 R4.msg.mi, .slice p4 Y5 c4, .string (mkS [97, 98, 99]), .slice q4 Y7 d4] 32)) := (Below.refl _ _).alloc (Nat.le_refl _) _
            have HC12 := Lib.hid (show Below wp.heap.size wp (wr2.alloc (.cells #[.string Y0, .string Y1, .int .i64 R4.msg.st, .string Y3, .int .i64 R4.msg.mi, .slice p4 Y5 c4, .string (mkS [97, 98, 99]), .slice q4 Y7 d4] 32)) from hb11.trans (hal.mono hb11.size))
            have HY12 := Lib.hid ((hal.cell (p := ⟨g16, 2, none⟩) (cell_lt hy11)).trans hy11)
            have HP12 := Lib.hid (hp11.below hal)
            have HRs5 := Lib.hid hrs
            have hx : (wr2.alloc (.cells #[.string Y0, .string Y1, .int .i64 R4.msg.st, .string Y3, .int .i64 R4.msg.mi, .slice p4 Y5 c4, .string (mkS [97, 98, 99]), .slice q4 Y7 d4] 32)).heap[wr2.heap.size]? = some (.cells #[.string Y0, .string Y1, .int .i64 R4.msg.st, .string Y3, .int .i64 R4.msg.mi, .slice p4 Y5 c4, .string (mkS [97, 98, 99]), .slice q4 Y7 d4] 32 (0, 0)) := heap_alloc_last wr2 _
            have HZ12 := Lib.hid (show (wr2.alloc (.cells #[.string Y0, .string Y1, .int .i64 R4.msg.st, .string Y3, .int .i64 R4.msg.mi, .slice p4 Y5 c4, .string (mkS [97, 98, 99]), .slice q4 Y7 d4] 32)).cell? ⟨wr2.heap.size, 6, none⟩ = some (.string ⟨#[97, 98, 99]⟩) from (Lib.cell_of_heap hx 6).trans rfl)
            clear hn11 hb11 hy11 hp11 hrs hal hx HNx HBn HC10 HY10 HN10
            go_upto_region 19 with (fail)
            generalize wr2.alloc (.cells #[.string Y0, .string Y1, .int .i64 R4.msg.st, .string Y3, .int .i64 R4.msg.mi, .slice p4 Y5 c4, .string (mkS [97, 98, 99]), .slice q4 Y7 d4] 32) = wr at *
            generalize wr2.heap.size = g21 at *
            as_aux_lemma =>
              have HE12 := Lib.hid (HBp.out wr HC12.out)
              have k0 := HL1.out _ HE12.out 0 _ rfl
              have k1 := HL1.out _ HE12.out 1 _ rfl
              have k2 := HL1.out _ HE12.out 2 _ rfl
              have k3 := HL1.out _ HE12.out 3 _ rfl
              have HMr := Lib.hid (HM2.out.below HC12.out)
              have HU7 := Lib.hid (show wr.cell? ⟨g7, 6, none⟩ = some (.string ⟨#[97, 98]⟩) from by
                have h1 := Lib.cell_of_heap ((HC12.out.block g7 (Array.getElem?_eq_some_iff.1 HBk2.out).1).trans HBk2.out) 6
                rw [h1, HF1.out.2.2.1]; rfl)
              have HU8 := Lib.hid (show wr.cell? ⟨g7, 3, none⟩ = some (.string ⟨#[79, 75]⟩) from by
                have h1 := Lib.cell_of_heap ((HC12.out.block g7 (Array.getElem?_eq_some_iff.1 HBk2.out).1).trans HBk2.out) 3
                rw [h1, HF1.out.2.2.2]; rfl)
              have HU9 := Lib.hid (show wr.cell? ⟨g10, 6, none⟩ = some (.string ⟨#[]⟩) from by
                have h1 := Lib.cell_of_heap ((HC12.out.block g10 (Array.getElem?_eq_some_iff.1 HBx2.out).1).trans HBx2.out) 6
                rw [h1, HF2.out.2.2]; rfl)
              have HVr := Lib.hid (HVe.out wr (HBb.out wr HE12.out))
              have HBw := Lib.hid (HBb.out wr HE12.out)
              -- the list's cells
              obtain ⟨g3, cap3, hv3, -, hc0, -, -⟩ := HMr.out.get 0 x0 rfl
              injection hv3 with e1 e2 e3
              subst e1 e3
              obtain ⟨g3', cap3', hv3, -, hc1, -, -⟩ := HMr.out.get 1 x1 rfl
              injection hv3 with e1 e2 e3
              injection e1 with e1
              injection e1 with e1 e4
              subst e1
              obtain ⟨g3', cap3'', hv3, -, hc2, -, -⟩ := HMr.out.get 2 x2 rfl
              injection hv3 with e1 e2 e3
              injection e1 with e1
              injection e1 with e1 e4
              subst e1
              have hfl : ∀ x : MV, x ∈ [x0, x1, x2] → ∃ a n c a' n' c', x.2.1 = .slice a n c ∧ x.2.2 = .slice a' n' c' := by
                intro x hx
                obtain ⟨a, c, h1, -⟩ := isFlds_own (HMr.out.each x hx).f
                obtain ⟨a', c', h2, -⟩ := isFlds_own (HMr.out.each x hx).t
                exact ⟨a, _, c, a', _, c', h1, h2⟩
              obtain ⟨fa0, fn0, fc0, ta0, tn0, tc0, hfv0, htv0⟩ := hfl x0 (by simp)
              obtain ⟨fa1, fn1, fc1, ta1, tn1, tc1, hfv1, htv1⟩ := hfl x1 (by simp)
              obtain ⟨fa2, fn2, fc2, ta2, tn2, tc2, hfv2, htv2⟩ := hfl x2 (by simp)
              have HXe := Lib.hid (⟨hfv0, htv0, hfv2, htv2⟩ : _ ∧ _ ∧ _ ∧ _)
              have E0 := Lib.hid (show wr.cell? ⟨g3, 0, none⟩ = some (.string ⟨#[71, 69, 84]⟩) from by have h := hc0 0 _ rfl; rw [HXs.out.1] at h; exact h)
              have E1 := Lib.hid (show wr.cell? ⟨g3, 1, none⟩ = some (.string ⟨#[47]⟩) from by have h := hc0 1 _ rfl; rw [HXs.out.1] at h; exact h)
              have E2 := Lib.hid (show wr.cell? ⟨g3, 2, none⟩ = some (.int .i64 0) from by have h := hc0 2 _ rfl; rw [HXs.out.1] at h; exact h)
              have E3 := Lib.hid (show wr.cell? ⟨g3, 3, none⟩ = some (.string ⟨#[]⟩) from by have h := hc0 3 _ rfl; rw [HXs.out.1] at h; exact h)
              have E4 := Lib.hid (show wr.cell? ⟨g3, 4, none⟩ = some (.int .i64 1) from by have h := hc0 4 _ rfl; rw [HXs.out.1] at h; exact h)
              have E5 := Lib.hid (show wr.cell? ⟨g3, 5, none⟩ = some (.slice fa0 fn0 fc0) from by have h := hc0 5 _ rfl; rw [hfv0] at h; exact h)
              have E6 := Lib.hid (show wr.cell? ⟨g3, 6, none⟩ = some (.string ⟨#[]⟩) from by have h := hc0 6 _ rfl; rw [HXs.out.1] at h; exact h)
              have E7 := Lib.hid (show wr.cell? ⟨g3, 7, none⟩ = some (.slice ta0 tn0 tc0) from by have h := hc0 7 _ rfl; rw [htv0] at h; exact h)
              have E8 := Lib.hid (show wr.cell? ⟨g3, 8, none⟩ = some (.string ⟨#[80, 79, 83, 84]⟩) from by have h := hc1 0 _ rfl; rw [HXs.out.2.1] at h; exact h)
              have E9 := Lib.hid (show wr.cell? ⟨g3, 9, none⟩ = some (.string ⟨#[47, 120]⟩) from by have h := hc1 1 _ rfl; rw [HXs.out.2.1] at h; exact h)
              have E10 := Lib.hid (show wr.cell? ⟨g3, 10, none⟩ = some (.int .i64 0) from by have h := hc1 2 _ rfl; rw [HXs.out.2.1] at h; exact h)
              have E11 := Lib.hid (show wr.cell? ⟨g3, 11, none⟩ = some (.string ⟨#[]⟩) from by have h := hc1 3 _ rfl; rw [HXs.out.2.1] at h; exact h)
              have E12 := Lib.hid (show wr.cell? ⟨g3, 12, none⟩ = some (.int .i64 1) from by have h := hc1 4 _ rfl; rw [HXs.out.2.1] at h; exact h)
              have E13 := Lib.hid (show wr.cell? ⟨g3, 13, none⟩ = some (.slice fa1 fn1 fc1) from by have h := hc1 5 _ rfl; rw [hfv1] at h; exact h)
              have E14 := Lib.hid (show wr.cell? ⟨g3, 14, none⟩ = some (.string ⟨#[97, 98]⟩) from by have h := hc1 6 _ rfl; rw [HXs.out.2.1] at h; exact h)
              have E15 := Lib.hid (show wr.cell? ⟨g3, 15, none⟩ = some (.slice ta1 tn1 tc1) from by have h := hc1 7 _ rfl; rw [htv1] at h; exact h)
              have E16 := Lib.hid (show wr.cell? ⟨g3, 16, none⟩ = some (.string ⟨#[71, 69, 84]⟩) from by have h := hc2 0 _ rfl; rw [HXs.out.2.2] at h; exact h)
              have E17 := Lib.hid (show wr.cell? ⟨g3, 17, none⟩ = some (.string ⟨#[47]⟩) from by have h := hc2 1 _ rfl; rw [HXs.out.2.2] at h; exact h)
              have E18 := Lib.hid (show wr.cell? ⟨g3, 18, none⟩ = some (.int .i64 0) from by have h := hc2 2 _ rfl; rw [HXs.out.2.2] at h; exact h)
              have E19 := Lib.hid (show wr.cell? ⟨g3, 19, none⟩ = some (.string ⟨#[]⟩) from by have h := hc2 3 _ rfl; rw [HXs.out.2.2] at h; exact h)
              have E20 := Lib.hid (show wr.cell? ⟨g3, 20, none⟩ = some (.int .i64 1) from by have h := hc2 4 _ rfl; rw [HXs.out.2.2] at h; exact h)
              have E21 := Lib.hid (show wr.cell? ⟨g3, 21, none⟩ = some (.slice fa2 fn2 fc2) from by have h := hc2 5 _ rfl; rw [hfv2] at h; exact h)
              have E22 := Lib.hid (show wr.cell? ⟨g3, 22, none⟩ = some (.string ⟨#[]⟩) from by have h := hc2 6 _ rfl; rw [HXs.out.2.2] at h; exact h)
              have E23 := Lib.hid (show wr.cell? ⟨g3, 23, none⟩ = some (.slice ta2 tn2 tc2) from by have h := hc2 7 _ rfl; rw [htv2] at h; exact h)
              have HCk := Lib.hid (fun (W : World) (hb : Below wr.heap.size wr W) (p : Addr) (v : Value) (h : wr.cell? p = some v) => (hb.cell (cell_lt h)).trans h)
              clear hfl hc0 hc1 hc2 HM2 HBk2 HBx2 HB92 HF1 HF2 HL1 HBp HVe HBb
              go_wp2_with fail
              refine (prequests_any 200 1000 30 1000 200 1000 30 1000 wr.heap.size wr (Nat.le_refl _) rfl rfl rfl rfl).mono ?_
              rintro e ws1 ⟨b2, V12, rfl, hbb, hs12, hbe⟩
              have HD1 := Lib.hid hbe
              have HSq := Lib.hid hs12
              obtain ⟨R5, hR5⟩ : ∃ R, R = (feedP roomP [71, 69, 84, 32, 47, 32, 72, 84, 84]).2 := ⟨_, rfl⟩
              have hf5 := nm_q
              rw [← hR5] at hf5
              simp only [Prod.mk.injEq] at hf5
              have HF5 := Lib.hid hf5
              have hlm := feedP_lim [71, 69, 84, 32, 47, 32, 72, 84, 84] roomP
              rw [← hR5] at hlm
              have HLm5 := Lib.hid (hlm.2.2.2.2.1)
              have hfd := pfeedG_any ((⟨#[71, 69, 84, 32, 47, 32, 72, 84, 84, 80, 47, 49, 46, 49, 13, 10, 72, 111, 115, 116, 58, 32, 97, 13, 10, 13, 10]⟩ : ByteArray).extract 0 9) hs12 (new_ok 200 1000 30 1000 false room_limP) (by decide) (HVr.out.later hbe)
              rw [show newP 200 1000 30 1000 false = roomP from rfl, show bs ((⟨#[71, 69, 84, 32, 47, 32, 72, 84, 84, 80, 47, 49, 46, 49, 13, 10, 72, 111, 115, 116, 58, 32, 97, 13, 10, 13, 10]⟩ : ByteArray).extract 0 9) = [71, 69, 84, 32, 47, 32, 72, 84, 84] from by decide, ← hR5] at hfd
              have HFd := Lib.hid hfd
              clear hbb hs12 hbe hR5 hf5 hlm hfd k0 k1 k2 k3
              generalize (feedP roomP [71, 69, 84, 32, 47, 32, 72, 84, 84]).1 = n9 at *
              unfold ptr at *
              go_wp2_with fail
              refine HFd.out.mono ?_
              rintro e ws2 ⟨rfl, V13, hs13, ht13⟩
              have HD2 := Lib.hid (HD1.out.trans (HSq.out.toBelow ht13))
              have hdr : Below ws2.heap.size ws2 ws2.drew := ⟨rfl, rfl, rfl, Nat.le_refl _, fun _ _ => rfl⟩
              have hsd := hs13.below hdr
              have HDd := Lib.hid (HD2.out.trans (hdr.mono HD2.out.size))
              have HLf : Hid (Calls Tryz.prog 20 #[ptr b2] ws2.drew fun e w' => e = .returned (.int .i64 9) ∧ w' = ws2.drew) := by
                have h := pleftS_any hsd
                rw [HF5.out.1] at h
                exact Lib.hid h
              have HEn : Hid (Calls Tryz.prog 18 #[ptr b2] ws2.drew fun e w' => e = .returned (.int .i64 400) ∧ SyncTo wr.heap.size b2 (endP R5) V13 ws2.drew w') := by
                have h := pendG_any hsd (fun _ => by rw [HF5.out.2.1]; decide)
                rw [HF5.out.2.2] at h
                exact Lib.hid h
              have HS13 := Lib.hid hsd
              clear hs13 ht13 HFd HD1 HSq hdr hsd
              unfold ptr at HLf HEn
              go_upto_region 21 with (fail)
              simp only [List.append_eq, List.cons_append, List.nil_append]
              as_aux_lemma =>
                refine wp_region_held_drew (S := fun w' => Below wr.heap.size wr w') (by kernel_rfl) HDd.out (fun hHeld => ?_)
                refine wpAnyH_take (i := 0) (v := ?_) rfl (by kernel_rfl) (by kernel_rfl) (by kernel_rfl) (fun _ _ _ h => h) (Or.inl ⟨by kernel_rfl, ?_⟩) (by assumption) ?_
                case refine_2 => (intro w hSw; (try dsimp only at hSw);  go_simp; try with_reducible rfl)
                try simp only [Act.put, List.getElem_toArray, List.getElem_cons_zero, List.setIfInBounds_toArray, List.set_cons_zero, List.set_cons_succ]
                refine wpAnyH_take (i := 1) (v := ?_) rfl (by kernel_rfl) (by kernel_rfl) (by kernel_rfl) (fun _ _ _ h => h) (Or.inl ⟨by kernel_rfl, ?_⟩) (by assumption) ?_
                case refine_2 => (intro w hSw; (try dsimp only at hSw);  go_simp; try with_reducible rfl)
                try simp only [Act.put, List.getElem_toArray, List.getElem_cons_succ, List.getElem_cons_zero, List.setIfInBounds_toArray, List.set_cons_zero, List.set_cons_succ]
                refine wpAnyH_take (i := 2) (v := ?_) rfl (by kernel_rfl) (by kernel_rfl) (by kernel_rfl) (fun _ _ _ h => h) (Or.inl ⟨by kernel_rfl, ?_⟩) (by assumption) ?_
                case refine_2 => (intro w hSw; (try dsimp only at hSw);  go_simp; try with_reducible rfl)
                try simp only [Act.put, List.getElem_toArray, List.getElem_cons_succ, List.getElem_cons_zero, List.setIfInBounds_toArray, List.set_cons_zero, List.set_cons_succ]
                refine wpAnyH_take (i := 3) (v := ?_) rfl (by kernel_rfl) (by kernel_rfl) (by kernel_rfl) (fun _ _ _ h => h) (Or.inl ⟨by kernel_rfl, ?_⟩) (by assumption) ?_
                case refine_2 => (intro w hSw; (try dsimp only at hSw);  go_simp; try with_reducible rfl)
                try simp only [Act.put, List.getElem_toArray, List.getElem_cons_succ, List.getElem_cons_zero, List.setIfInBounds_toArray, List.set_cons_zero, List.set_cons_succ]
                refine wpAnyH_take (i := 4) (v := ?_) rfl (by kernel_rfl) (by kernel_rfl) (by kernel_rfl) (fun _ _ _ h => h) (Or.inl ⟨by kernel_rfl, ?_⟩) (by assumption) ?_
                case refine_2 => (intro w hSw; (try dsimp only at hSw);  go_simp; try with_reducible rfl)
                try simp only [Act.put, List.getElem_toArray, List.getElem_cons_succ, List.getElem_cons_zero, List.setIfInBounds_toArray, List.set_cons_zero, List.set_cons_succ]
                refine wpAnyH_take (i := 5) (v := ?_) rfl (by kernel_rfl) (by kernel_rfl) (by kernel_rfl) (fun _ _ _ h => h) (Or.inl ⟨by kernel_rfl, ?_⟩) (by assumption) ?_
                case refine_2 => (intro w hSw; (try dsimp only at hSw);  go_simp; try with_reducible rfl)
                try simp only [Act.put, List.getElem_toArray, List.getElem_cons_succ, List.getElem_cons_zero, List.setIfInBounds_toArray, List.set_cons_zero, List.set_cons_succ]
                refine wpAnyH_take (i := 6) (v := ?_) rfl (by kernel_rfl) (by kernel_rfl) (by kernel_rfl) (fun _ _ _ h => h) (Or.inl ⟨by kernel_rfl, ?_⟩) (by assumption) ?_
                case refine_2 => (intro w hSw; (try dsimp only at hSw);  go_simp; try with_reducible rfl)
                try simp only [Act.put, List.getElem_toArray, List.getElem_cons_succ, List.getElem_cons_zero, List.setIfInBounds_toArray, List.set_cons_zero, List.set_cons_succ]
                refine wpAnyH_take (i := 7) (v := ?_) rfl (by kernel_rfl) (by kernel_rfl) (by kernel_rfl) (fun _ _ _ h => h) (Or.inl ⟨by kernel_rfl, ?_⟩) (by assumption) ?_
                case refine_2 => (intro w hSw; (try dsimp only at hSw);  go_simp; try with_reducible rfl)
                try simp only [Act.put, List.getElem_toArray, List.getElem_cons_succ, List.getElem_cons_zero, List.setIfInBounds_toArray, List.set_cons_zero, List.set_cons_succ]
                refine wpAnyH_take (i := 8) (v := ?_) rfl (by kernel_rfl) (by kernel_rfl) (by kernel_rfl) (fun _ _ _ h => h) (Or.inl ⟨by kernel_rfl, ?_⟩) (by assumption) ?_
                case refine_2 => (intro w hSw; (try dsimp only at hSw);  go_simp; try with_reducible rfl)
                try simp only [Act.put, List.getElem_toArray, List.getElem_cons_succ, List.getElem_cons_zero, List.setIfInBounds_toArray, List.set_cons_zero, List.set_cons_succ]
                refine wpAnyH_take (i := 9) (v := ?_) rfl (by kernel_rfl) (by kernel_rfl) (by kernel_rfl) (fun _ _ _ h => h) (Or.inl ⟨by kernel_rfl, ?_⟩) (by assumption) ?_
                case refine_2 => (intro w hSw; (try dsimp only at hSw);  go_simp; try with_reducible rfl)
                try simp only [Act.put, List.getElem_toArray, List.getElem_cons_succ, List.getElem_cons_zero, List.setIfInBounds_toArray, List.set_cons_zero, List.set_cons_succ]
                refine wpAnyH_take (i := 10) (v := ?_) rfl (by kernel_rfl) (by kernel_rfl) (by kernel_rfl) (fun _ _ _ h => h) (Or.inl ⟨by kernel_rfl, ?_⟩) (by assumption) ?_
                case refine_2 => (intro w hSw; (try dsimp only at hSw);  go_simp; try with_reducible rfl)
                try simp only [Act.put, List.getElem_toArray, List.getElem_cons_succ, List.getElem_cons_zero, List.setIfInBounds_toArray, List.set_cons_zero, List.set_cons_succ]
                refine wpAnyH_take (i := 11) (v := ?_) rfl (by kernel_rfl) (by kernel_rfl) (by kernel_rfl) (fun _ _ _ h => h) (Or.inl ⟨by kernel_rfl, ?_⟩) (by assumption) ?_
                case refine_2 => (intro w hSw; (try dsimp only at hSw); have u0 := HCk.out w hSw _ _ E14.out; go_simp; try with_reducible rfl)
                try simp only [Act.put, List.getElem_toArray, List.getElem_cons_succ, List.getElem_cons_zero, List.setIfInBounds_toArray, List.set_cons_zero, List.set_cons_succ]
                refine wpAnyH_take (i := 12) (v := ?_) rfl (by kernel_rfl) (by kernel_rfl) (by kernel_rfl) (fun _ _ _ h => h) (Or.inl ⟨by kernel_rfl, ?_⟩) (by assumption) ?_
                case refine_2 => (intro w hSw; (try dsimp only at hSw);  go_simp; try with_reducible rfl)
                try simp only [Act.put, List.getElem_toArray, List.getElem_cons_succ, List.getElem_cons_zero, List.setIfInBounds_toArray, List.set_cons_zero, List.set_cons_succ]
                refine wpAnyH_take (i := 13) (v := ?_) rfl (by kernel_rfl) (by kernel_rfl) (by kernel_rfl) (fun _ _ _ h => h) (Or.inl ⟨by kernel_rfl, ?_⟩) (by assumption) ?_
                case refine_2 => (intro w hSw; (try dsimp only at hSw);  go_simp; try with_reducible rfl)
                try simp only [Act.put, List.getElem_toArray, List.getElem_cons_succ, List.getElem_cons_zero, List.setIfInBounds_toArray, List.set_cons_zero, List.set_cons_succ]
                refine wpAnyH_take (i := 14) (v := ?_) rfl (by kernel_rfl) (by kernel_rfl) (by kernel_rfl) (fun _ _ _ h => h) (Or.inl ⟨by kernel_rfl, ?_⟩) (by assumption) ?_
                case refine_2 => (intro w hSw; (try dsimp only at hSw);  go_simp; try with_reducible rfl)
                try simp only [Act.put, List.getElem_toArray, List.getElem_cons_succ, List.getElem_cons_zero, List.setIfInBounds_toArray, List.set_cons_zero, List.set_cons_succ]
                refine wpAnyH_take (i := 15) (v := ?_) rfl (by kernel_rfl) (by kernel_rfl) (by kernel_rfl) (fun _ _ _ h => h) (Or.inl ⟨by kernel_rfl, ?_⟩) (by assumption) ?_
                case refine_2 => (intro w hSw; (try dsimp only at hSw);  go_simp; try with_reducible rfl)
                try simp only [Act.put, List.getElem_toArray, List.getElem_cons_succ, List.getElem_cons_zero, List.setIfInBounds_toArray, List.set_cons_zero, List.set_cons_succ]
                refine wpAnyH_take (i := 16) (v := ?_) rfl (by kernel_rfl) (by kernel_rfl) (by kernel_rfl) (fun _ _ _ h => h) (Or.inl ⟨by kernel_rfl, ?_⟩) (by assumption) ?_
                case refine_2 => (intro w hSw; (try dsimp only at hSw);  go_simp; try with_reducible rfl)
                try simp only [Act.put, List.getElem_toArray, List.getElem_cons_succ, List.getElem_cons_zero, List.setIfInBounds_toArray, List.set_cons_zero, List.set_cons_succ]
                refine wpAnyH_take (i := 17) (v := ?_) rfl (by kernel_rfl) (by kernel_rfl) (by kernel_rfl) (fun _ _ _ h => h) (Or.inl ⟨by kernel_rfl, ?_⟩) (by assumption) ?_
                case refine_2 => (intro w hSw; (try dsimp only at hSw);  go_simp; try with_reducible rfl)
                try simp only [Act.put, List.getElem_toArray, List.getElem_cons_succ, List.getElem_cons_zero, List.setIfInBounds_toArray, List.set_cons_zero, List.set_cons_succ]
                refine wpAnyH_take (i := 18) (v := ?_) rfl (by kernel_rfl) (by kernel_rfl) (by kernel_rfl) (fun _ _ _ h => h) (Or.inl ⟨by kernel_rfl, ?_⟩) (by assumption) ?_
                case refine_2 => (intro w hSw; (try dsimp only at hSw);  go_simp; try with_reducible rfl)
                try simp only [Act.put, List.getElem_toArray, List.getElem_cons_succ, List.getElem_cons_zero, List.setIfInBounds_toArray, List.set_cons_zero, List.set_cons_succ]
                refine wpAnyH_take (i := 19) (v := ?_) rfl (by kernel_rfl) (by kernel_rfl) (by kernel_rfl) (fun _ _ _ h => h) (Or.inl ⟨by kernel_rfl, ?_⟩) (by assumption) ?_
                case refine_2 => (intro w hSw; (try dsimp only at hSw);  go_simp; try with_reducible rfl)
                try simp only [Act.put, List.getElem_toArray, List.getElem_cons_succ, List.getElem_cons_zero, List.setIfInBounds_toArray, List.set_cons_zero, List.set_cons_succ]
                refine wpAnyH_take (i := 20) (v := ?_) rfl (by kernel_rfl) (by kernel_rfl) (by kernel_rfl) (fun _ _ _ h => h) (Or.inl ⟨by kernel_rfl, ?_⟩) (by assumption) ?_
                case refine_2 => (intro w hSw; (try dsimp only at hSw);  go_simp; try with_reducible rfl)
                try simp only [Act.put, List.getElem_toArray, List.getElem_cons_succ, List.getElem_cons_zero, List.setIfInBounds_toArray, List.set_cons_zero, List.set_cons_succ]
                refine wpAnyH_take (i := 21) (v := ?_) rfl (by kernel_rfl) (by kernel_rfl) (by kernel_rfl) (fun _ _ _ h => h) (Or.inl ⟨by kernel_rfl, ?_⟩) (by assumption) ?_
                case refine_2 => (intro w hSw; (try dsimp only at hSw);  go_simp; try with_reducible rfl)
                try simp only [Act.put, List.getElem_toArray, List.getElem_cons_succ, List.getElem_cons_zero, List.setIfInBounds_toArray, List.set_cons_zero, List.set_cons_succ]
                refine wpAnyH_take (i := 22) (v := ?_) rfl (by kernel_rfl) (by kernel_rfl) (by kernel_rfl) (fun _ _ _ h => h) (Or.inl ⟨by kernel_rfl, ?_⟩) (by assumption) ?_
                case refine_2 => (intro w hSw; (try dsimp only at hSw);  go_simp; try with_reducible rfl)
                try simp only [Act.put, List.getElem_toArray, List.getElem_cons_succ, List.getElem_cons_zero, List.setIfInBounds_toArray, List.set_cons_zero, List.set_cons_succ]
                refine wpAnyH_take (i := 23) (v := ?_) rfl (by kernel_rfl) (by kernel_rfl) (by kernel_rfl) (fun _ _ _ h => h) (Or.inl ⟨by kernel_rfl, ?_⟩) (by assumption) ?_
                case refine_2 => (intro w hSw; (try dsimp only at hSw);  go_simp; try with_reducible rfl)
                try simp only [Act.put, List.getElem_toArray, List.getElem_cons_succ, List.getElem_cons_zero, List.setIfInBounds_toArray, List.set_cons_zero, List.set_cons_succ]
                refine wpAnyH_take (i := 24) (v := ?_) rfl (by kernel_rfl) (by kernel_rfl) (by kernel_rfl) (fun _ _ _ h => h) (Or.inl ⟨by kernel_rfl, ?_⟩) (by assumption) ?_
                case refine_2 => (intro w hSw; (try dsimp only at hSw);  go_simp; try with_reducible rfl)
                try simp only [Act.put, List.getElem_toArray, List.getElem_cons_succ, List.getElem_cons_zero, List.setIfInBounds_toArray, List.set_cons_zero, List.set_cons_succ]
                refine wpAnyH_take (i := 25) (v := ?_) rfl (by kernel_rfl) (by kernel_rfl) (by kernel_rfl) (fun _ _ _ h => h) (Or.inl ⟨by kernel_rfl, ?_⟩) (by assumption) ?_
                case refine_2 => (intro w hSw; (try dsimp only at hSw);  go_simp; try with_reducible rfl)
                try simp only [Act.put, List.getElem_toArray, List.getElem_cons_succ, List.getElem_cons_zero, List.setIfInBounds_toArray, List.set_cons_zero, List.set_cons_succ]
                refine wpAnyH_take (i := 26) (v := ?_) rfl (by kernel_rfl) (by kernel_rfl) (by kernel_rfl) (fun _ _ _ h => h) (Or.inl ⟨by kernel_rfl, ?_⟩) (by assumption) ?_
                case refine_2 => (intro w hSw; (try dsimp only at hSw);  go_simp; try with_reducible rfl)
                try simp only [Act.put, List.getElem_toArray, List.getElem_cons_succ, List.getElem_cons_zero, List.setIfInBounds_toArray, List.set_cons_zero, List.set_cons_succ]
                refine wpAnyH_take (i := 27) (v := ?_) rfl (by kernel_rfl) (by kernel_rfl) (by kernel_rfl) (fun _ _ _ h => h) (Or.inl ⟨by kernel_rfl, ?_⟩) (by assumption) ?_
                case refine_2 => (intro w hSw; (try dsimp only at hSw);  go_simp; try with_reducible rfl)
                try simp only [Act.put, List.getElem_toArray, List.getElem_cons_succ, List.getElem_cons_zero, List.setIfInBounds_toArray, List.set_cons_zero, List.set_cons_succ]
                refine wpAnyH_take (i := 28) (v := ?_) rfl (by kernel_rfl) (by kernel_rfl) (by kernel_rfl) (fun _ _ _ h => h) (Or.inl ⟨by kernel_rfl, ?_⟩) (by assumption) ?_
                case refine_2 => (intro w hSw; (try dsimp only at hSw);  go_simp; try with_reducible rfl)
                try simp only [Act.put, List.getElem_toArray, List.getElem_cons_succ, List.getElem_cons_zero, List.setIfInBounds_toArray, List.set_cons_zero, List.set_cons_succ]
                refine wpAnyH_take (i := 29) (v := ?_) rfl (by kernel_rfl) (by kernel_rfl) (by kernel_rfl) (fun _ _ _ h => h) (Or.inl ⟨by kernel_rfl, ?_⟩) (by assumption) ?_
                case refine_2 => (intro w hSw; (try dsimp only at hSw); have u0 := HCk.out w hSw _ _ HU7.out; go_simp; try with_reducible rfl)
                try simp only [Act.put, List.getElem_toArray, List.getElem_cons_succ, List.getElem_cons_zero, List.setIfInBounds_toArray, List.set_cons_zero, List.set_cons_succ]
                refine wpAnyH_take (i := 30) (v := ?_) rfl (by kernel_rfl) (by kernel_rfl) (by kernel_rfl) (fun _ _ _ h => h) (Or.inl ⟨by kernel_rfl, ?_⟩) (by assumption) ?_
                case refine_2 => (intro w hSw; (try dsimp only at hSw);  go_simp; try with_reducible rfl)
                try simp only [Act.put, List.getElem_toArray, List.getElem_cons_succ, List.getElem_cons_zero, List.setIfInBounds_toArray, List.set_cons_zero, List.set_cons_succ]
                refine wpAnyH_take (i := 31) (v := ?_) rfl (by kernel_rfl) (by kernel_rfl) (by kernel_rfl) (fun _ _ _ h => h) (Or.inl ⟨by kernel_rfl, ?_⟩) (by assumption) ?_
                case refine_2 => (intro w hSw; (try dsimp only at hSw);  go_simp; try with_reducible rfl)
                try simp only [Act.put, List.getElem_toArray, List.getElem_cons_succ, List.getElem_cons_zero, List.setIfInBounds_toArray, List.set_cons_zero, List.set_cons_succ]
                refine wpAnyH_take (i := 32) (v := ?_) rfl (by kernel_rfl) (by kernel_rfl) (by kernel_rfl) (fun _ _ _ h => h) (Or.inl ⟨by kernel_rfl, ?_⟩) (by assumption) ?_
                case refine_2 => (intro w hSw; (try dsimp only at hSw);  go_simp; try with_reducible rfl)
                try simp only [Act.put, List.getElem_toArray, List.getElem_cons_succ, List.getElem_cons_zero, List.setIfInBounds_toArray, List.set_cons_zero, List.set_cons_succ]
                refine wpAnyH_take (i := 33) (v := ?_) rfl (by kernel_rfl) (by kernel_rfl) (by kernel_rfl) (fun _ _ _ h => h) (Or.inl ⟨by kernel_rfl, ?_⟩) (by assumption) ?_
                case refine_2 => (intro w hSw; (try dsimp only at hSw);  go_simp; try with_reducible rfl)
                try simp only [Act.put, List.getElem_toArray, List.getElem_cons_succ, List.getElem_cons_zero, List.setIfInBounds_toArray, List.set_cons_zero, List.set_cons_succ]
                refine wpAnyH_take (i := 34) (v := ?_) rfl (by kernel_rfl) (by kernel_rfl) (by kernel_rfl) (fun _ _ _ h => h) (Or.inl ⟨by kernel_rfl, ?_⟩) (by assumption) ?_
                case refine_2 => (intro w hSw; (try dsimp only at hSw); have u0 := HCk.out w hSw _ _ HU8.out; go_simp; try with_reducible rfl)
                try simp only [Act.put, List.getElem_toArray, List.getElem_cons_succ, List.getElem_cons_zero, List.setIfInBounds_toArray, List.set_cons_zero, List.set_cons_succ]
                refine wpAnyH_take (i := 35) (v := ?_) rfl (by kernel_rfl) (by kernel_rfl) (by kernel_rfl) (fun _ _ _ h => h) (Or.inl ⟨by kernel_rfl, ?_⟩) (by assumption) ?_
                case refine_2 => (intro w hSw; (try dsimp only at hSw);  go_simp; try with_reducible rfl)
                try simp only [Act.put, List.getElem_toArray, List.getElem_cons_succ, List.getElem_cons_zero, List.setIfInBounds_toArray, List.set_cons_zero, List.set_cons_succ]
                refine wpAnyH_take (i := 36) (v := ?_) rfl (by kernel_rfl) (by kernel_rfl) (by kernel_rfl) (fun _ _ _ h => h) (Or.inl ⟨by kernel_rfl, ?_⟩) (by assumption) ?_
                case refine_2 => (intro w hSw; (try dsimp only at hSw);  go_simp; try with_reducible rfl)
                try simp only [Act.put, List.getElem_toArray, List.getElem_cons_succ, List.getElem_cons_zero, List.setIfInBounds_toArray, List.set_cons_zero, List.set_cons_succ]
                refine wpAnyH_take (i := 37) (v := ?_) rfl (by kernel_rfl) (by kernel_rfl) (by kernel_rfl) (fun _ _ _ h => h) (Or.inl ⟨by kernel_rfl, ?_⟩) (by assumption) ?_
                case refine_2 => (intro w hSw; (try dsimp only at hSw);  go_simp; try with_reducible rfl)
                try simp only [Act.put, List.getElem_toArray, List.getElem_cons_succ, List.getElem_cons_zero, List.setIfInBounds_toArray, List.set_cons_zero, List.set_cons_succ]
                refine wpAnyH_take (i := 38) (v := ?_) rfl (by kernel_rfl) (by kernel_rfl) (by kernel_rfl) (fun _ _ _ h => h) (Or.inl ⟨by kernel_rfl, ?_⟩) (by assumption) ?_
                case refine_2 => (intro w hSw; (try dsimp only at hSw);  go_simp; try with_reducible rfl)
                try simp only [Act.put, List.getElem_toArray, List.getElem_cons_succ, List.getElem_cons_zero, List.setIfInBounds_toArray, List.set_cons_zero, List.set_cons_succ]
                refine wpAnyH_take (i := 39) (v := ?_) rfl (by kernel_rfl) (by kernel_rfl) (by kernel_rfl) (fun _ _ _ h => h) (Or.inl ⟨by kernel_rfl, ?_⟩) (by assumption) ?_
                case refine_2 => (intro w hSw; (try dsimp only at hSw);  go_simp; try with_reducible rfl)
                try simp only [Act.put, List.getElem_toArray, List.getElem_cons_succ, List.getElem_cons_zero, List.setIfInBounds_toArray, List.set_cons_zero, List.set_cons_succ]
                as_aux_lemma =>
                  refine wpAnyH_take (i := 40) (v := ?_) rfl (by kernel_rfl) (by kernel_rfl) (by kernel_rfl) (fun _ _ _ h => h) (Or.inl ⟨by kernel_rfl, ?_⟩) (by assumption) ?_
                  case refine_2 => (intro w hSw; (try dsimp only at hSw);  go_simp; try with_reducible rfl)
                  try simp only [Act.put, List.getElem_toArray, List.getElem_cons_succ, List.getElem_cons_zero, List.setIfInBounds_toArray, List.set_cons_zero, List.set_cons_succ]
                  refine wpAnyH_take (i := 41) (v := ?_) rfl (by kernel_rfl) (by kernel_rfl) (by kernel_rfl) (fun _ _ _ h => h) (Or.inl ⟨by kernel_rfl, ?_⟩) (by assumption) ?_
                  case refine_2 => (intro w hSw; (try dsimp only at hSw);  go_simp; try with_reducible rfl)
                  try simp only [Act.put, List.getElem_toArray, List.getElem_cons_succ, List.getElem_cons_zero, List.setIfInBounds_toArray, List.set_cons_zero, List.set_cons_succ]
                  refine wpAnyH_take (i := 42) (v := ?_) rfl (by kernel_rfl) (by kernel_rfl) (by kernel_rfl) (fun _ _ _ h => h) (Or.inl ⟨by kernel_rfl, ?_⟩) (by assumption) ?_
                  case refine_2 => (intro w hSw; (try dsimp only at hSw);  go_simp; try with_reducible rfl)
                  try simp only [Act.put, List.getElem_toArray, List.getElem_cons_succ, List.getElem_cons_zero, List.setIfInBounds_toArray, List.set_cons_zero, List.set_cons_succ]
                  refine wpAnyH_take (i := 43) (v := ?_) rfl (by kernel_rfl) (by kernel_rfl) (by kernel_rfl) (fun _ _ _ h => h) (Or.inl ⟨by kernel_rfl, ?_⟩) (by assumption) ?_
                  case refine_2 => (intro w hSw; (try dsimp only at hSw);  go_simp; try with_reducible rfl)
                  try simp only [Act.put, List.getElem_toArray, List.getElem_cons_succ, List.getElem_cons_zero, List.setIfInBounds_toArray, List.set_cons_zero, List.set_cons_succ]
                  refine wpAnyH_take (i := 44) (v := ?_) rfl (by kernel_rfl) (by kernel_rfl) (by kernel_rfl) (fun _ _ _ h => h) (Or.inl ⟨by kernel_rfl, ?_⟩) (by assumption) ?_
                  case refine_2 => (intro w hSw; (try dsimp only at hSw);  go_simp; try with_reducible rfl)
                  try simp only [Act.put, List.getElem_toArray, List.getElem_cons_succ, List.getElem_cons_zero, List.setIfInBounds_toArray, List.set_cons_zero, List.set_cons_succ]
                  refine wpAnyH_take (i := 45) (v := ?_) rfl (by kernel_rfl) (by kernel_rfl) (by kernel_rfl) (fun _ _ _ h => h) (Or.inl ⟨by kernel_rfl, ?_⟩) (by assumption) ?_
                  case refine_2 => (intro w hSw; (try dsimp only at hSw);  go_simp; try with_reducible rfl)
                  try simp only [Act.put, List.getElem_toArray, List.getElem_cons_succ, List.getElem_cons_zero, List.setIfInBounds_toArray, List.set_cons_zero, List.set_cons_succ]
                  refine wpAnyH_take (i := 46) (v := ?_) rfl (by kernel_rfl) (by kernel_rfl) (by kernel_rfl) (fun _ _ _ h => h) (Or.inl ⟨by kernel_rfl, ?_⟩) (by assumption) ?_
                  case refine_2 => (intro w hSw; (try dsimp only at hSw); have u0 := HCk.out w hSw _ _ HU9.out; go_simp; try with_reducible rfl)
                  try simp only [Act.put, List.getElem_toArray, List.getElem_cons_succ, List.getElem_cons_zero, List.setIfInBounds_toArray, List.set_cons_zero, List.set_cons_succ]
                  refine wpAnyH_take (i := 47) (v := ?_) rfl (by kernel_rfl) (by kernel_rfl) (by kernel_rfl) (fun _ _ _ h => h) (Or.inl ⟨by kernel_rfl, ?_⟩) (by assumption) ?_
                  case refine_2 => (intro w hSw; (try dsimp only at hSw);  go_simp; try with_reducible rfl)
                  try simp only [Act.put, List.getElem_toArray, List.getElem_cons_succ, List.getElem_cons_zero, List.setIfInBounds_toArray, List.set_cons_zero, List.set_cons_succ]
                  refine wpAnyH_take (i := 48) (v := ?_) rfl (by kernel_rfl) (by kernel_rfl) (by kernel_rfl) (fun _ _ _ h => h) (Or.inl ⟨by kernel_rfl, ?_⟩) (by assumption) ?_
                  case refine_2 => (intro w hSw; (try dsimp only at hSw);  go_simp; try with_reducible rfl)
                  try simp only [Act.put, List.getElem_toArray, List.getElem_cons_succ, List.getElem_cons_zero, List.setIfInBounds_toArray, List.set_cons_zero, List.set_cons_succ]
                  refine wpAnyH_take (i := 49) (v := ?_) rfl (by kernel_rfl) (by kernel_rfl) (by kernel_rfl) (fun _ _ _ h => h) (Or.inl ⟨by kernel_rfl, ?_⟩) (by assumption) ?_
                  case refine_2 => (intro w hSw; (try dsimp only at hSw);  go_simp; try with_reducible rfl)
                  try simp only [Act.put, List.getElem_toArray, List.getElem_cons_succ, List.getElem_cons_zero, List.setIfInBounds_toArray, List.set_cons_zero, List.set_cons_succ]
                  refine wpAnyH_take (i := 50) (v := ?_) rfl (by kernel_rfl) (by kernel_rfl) (by kernel_rfl) (fun _ _ _ h => h) (Or.inl ⟨by kernel_rfl, ?_⟩) (by assumption) ?_
                  case refine_2 => (intro w hSw; (try dsimp only at hSw);  go_simp; try with_reducible rfl)
                  try simp only [Act.put, List.getElem_toArray, List.getElem_cons_succ, List.getElem_cons_zero, List.setIfInBounds_toArray, List.set_cons_zero, List.set_cons_succ]
                  refine wpAnyH_take (i := 51) (v := ?_) rfl (by kernel_rfl) (by kernel_rfl) (by kernel_rfl) (fun _ _ _ h => h) (Or.inl ⟨by kernel_rfl, ?_⟩) (by assumption) ?_
                  case refine_2 => (intro w hSw; (try dsimp only at hSw);  go_simp; try with_reducible rfl)
                  try simp only [Act.put, List.getElem_toArray, List.getElem_cons_succ, List.getElem_cons_zero, List.setIfInBounds_toArray, List.set_cons_zero, List.set_cons_succ]
                  refine wpAnyH_take (i := 52) (v := ?_) rfl (by kernel_rfl) (by kernel_rfl) (by kernel_rfl) (fun _ _ _ h => h) (Or.inl ⟨by kernel_rfl, ?_⟩) (by assumption) ?_
                  case refine_2 => (intro w hSw; (try dsimp only at hSw);  go_simp; try with_reducible rfl)
                  try simp only [Act.put, List.getElem_toArray, List.getElem_cons_succ, List.getElem_cons_zero, List.setIfInBounds_toArray, List.set_cons_zero, List.set_cons_succ]
                  refine wpAnyH_take (i := 53) (v := ?_) rfl (by kernel_rfl) (by kernel_rfl) (by kernel_rfl) (fun _ _ _ h => h) (Or.inl ⟨by kernel_rfl, ?_⟩) (by assumption) ?_
                  case refine_2 => (intro w hSw; (try dsimp only at hSw);  go_simp; try with_reducible rfl)
                  try simp only [Act.put, List.getElem_toArray, List.getElem_cons_succ, List.getElem_cons_zero, List.setIfInBounds_toArray, List.set_cons_zero, List.set_cons_succ]
                  refine wpAnyH_take (i := 54) (v := ?_) rfl (by kernel_rfl) (by kernel_rfl) (by kernel_rfl) (fun _ _ _ h => h) (Or.inl ⟨by kernel_rfl, ?_⟩) (by assumption) ?_
                  case refine_2 => (intro w hSw; (try dsimp only at hSw);  go_simp; try with_reducible rfl)
                  try simp only [Act.put, List.getElem_toArray, List.getElem_cons_succ, List.getElem_cons_zero, List.setIfInBounds_toArray, List.set_cons_zero, List.set_cons_succ]
                  refine wpAnyH_take (i := 55) (v := ?_) rfl (by kernel_rfl) (by kernel_rfl) (by kernel_rfl) (fun _ _ _ h => h) (Or.inl ⟨by kernel_rfl, ?_⟩) (by assumption) ?_
                  case refine_2 => (intro w hSw; (try dsimp only at hSw);  go_simp; try with_reducible rfl)
                  try simp only [Act.put, List.getElem_toArray, List.getElem_cons_succ, List.getElem_cons_zero, List.setIfInBounds_toArray, List.set_cons_zero, List.set_cons_succ]
                  refine wpAnyH_take (i := 56) (v := ?_) rfl (by kernel_rfl) (by kernel_rfl) (by kernel_rfl) (fun _ _ _ h => h) (Or.inl ⟨by kernel_rfl, ?_⟩) (by assumption) ?_
                  case refine_2 => (intro w hSw; (try dsimp only at hSw);  go_simp; try with_reducible rfl)
                  try simp only [Act.put, List.getElem_toArray, List.getElem_cons_succ, List.getElem_cons_zero, List.setIfInBounds_toArray, List.set_cons_zero, List.set_cons_succ]
                  refine wpAnyH_take (i := 57) (v := ?_) rfl (by kernel_rfl) (by kernel_rfl) (by kernel_rfl) (fun _ _ _ h => h) (Or.inl ⟨by kernel_rfl, ?_⟩) (by assumption) ?_
                  case refine_2 => (intro w hSw; (try dsimp only at hSw);  go_simp; try with_reducible rfl)
                  try simp only [Act.put, List.getElem_toArray, List.getElem_cons_succ, List.getElem_cons_zero, List.setIfInBounds_toArray, List.set_cons_zero, List.set_cons_succ]
                  refine wpAnyH_take (i := 58) (v := ?_) rfl (by kernel_rfl) (by kernel_rfl) (by kernel_rfl) (fun _ _ _ h => h) (Or.inl ⟨by kernel_rfl, ?_⟩) (by assumption) ?_
                  case refine_2 => (intro w hSw; (try dsimp only at hSw);  go_simp; try with_reducible rfl)
                  try simp only [Act.put, List.getElem_toArray, List.getElem_cons_succ, List.getElem_cons_zero, List.setIfInBounds_toArray, List.set_cons_zero, List.set_cons_succ]
                  refine wpAnyH_take (i := 59) (v := ?_) rfl (by kernel_rfl) (by kernel_rfl) (by kernel_rfl) (fun _ _ _ h => h) (Or.inl ⟨by kernel_rfl, ?_⟩) (by assumption) ?_
                  case refine_2 => (intro w hSw; (try dsimp only at hSw);  go_simp; try with_reducible rfl)
                  try simp only [Act.put, List.getElem_toArray, List.getElem_cons_succ, List.getElem_cons_zero, List.setIfInBounds_toArray, List.set_cons_zero, List.set_cons_succ]
                  refine wpAnyH_take (i := 60) (v := ?_) rfl (by kernel_rfl) (by kernel_rfl) (by kernel_rfl) (fun _ _ _ h => h) (Or.inl ⟨by kernel_rfl, ?_⟩) (by assumption) ?_
                  case refine_2 => (intro w hSw; (try dsimp only at hSw);  go_simp; try with_reducible rfl)
                  try simp only [Act.put, List.getElem_toArray, List.getElem_cons_succ, List.getElem_cons_zero, List.setIfInBounds_toArray, List.set_cons_zero, List.set_cons_succ]
                  refine wpAnyH_take (i := 61) (v := ?_) rfl (by kernel_rfl) (by kernel_rfl) (by kernel_rfl) (fun _ _ _ h => h) (Or.inl ⟨by kernel_rfl, ?_⟩) (by assumption) ?_
                  case refine_2 => (intro w hSw; (try dsimp only at hSw);  go_simp; try with_reducible rfl)
                  try simp only [Act.put, List.getElem_toArray, List.getElem_cons_succ, List.getElem_cons_zero, List.setIfInBounds_toArray, List.set_cons_zero, List.set_cons_succ]
                  as_aux_lemma =>
                    refine wpAnyH_take (i := 62) (v := ?_) rfl (by kernel_rfl) (by kernel_rfl) (by kernel_rfl) (fun _ _ _ h => h) (Or.inl ⟨by kernel_rfl, ?_⟩) (by assumption) ?_
                    case refine_2 => (intro w hSw; (try dsimp only at hSw); have u0 := HCk.out w hSw _ _ HY12.out; go_simp; try with_reducible rfl)
                    try simp only [Act.put, List.getElem_toArray, List.getElem_cons_succ, List.getElem_cons_zero, List.setIfInBounds_toArray, List.set_cons_zero, List.set_cons_succ]
                    refine wpAnyH_take (i := 63) (v := ?_) rfl (by kernel_rfl) (by kernel_rfl) (by kernel_rfl) (fun _ _ _ h => h) (Or.inl ⟨by kernel_rfl, ?_⟩) (by assumption) ?_
                    case refine_2 => (intro w hSw; (try dsimp only at hSw);  go_simp; try with_reducible rfl)
                    try simp only [Act.put, List.getElem_toArray, List.getElem_cons_succ, List.getElem_cons_zero, List.setIfInBounds_toArray, List.set_cons_zero, List.set_cons_succ]
                    refine wpAnyH_take (i := 64) (v := ?_) rfl (by kernel_rfl) (by kernel_rfl) (by kernel_rfl) (fun _ _ _ h => h) (Or.inl ⟨by kernel_rfl, ?_⟩) (by assumption) ?_
                    case refine_2 => (intro w hSw; (try dsimp only at hSw);  go_simp; try with_reducible rfl)
                    try simp only [Act.put, List.getElem_toArray, List.getElem_cons_succ, List.getElem_cons_zero, List.setIfInBounds_toArray, List.set_cons_zero, List.set_cons_succ]
                    refine wpAnyH_take (i := 65) (v := ?_) rfl (by kernel_rfl) (by kernel_rfl) (by kernel_rfl) (fun _ _ _ h => h) (Or.inl ⟨by kernel_rfl, ?_⟩) (by assumption) ?_
                    case refine_2 => (intro w hSw; (try dsimp only at hSw);  go_simp; try with_reducible rfl)
                    try simp only [Act.put, List.getElem_toArray, List.getElem_cons_succ, List.getElem_cons_zero, List.setIfInBounds_toArray, List.set_cons_zero, List.set_cons_succ]
                    refine wpAnyH_take (i := 66) (v := ?_) rfl (by kernel_rfl) (by kernel_rfl) (by kernel_rfl) (fun _ _ _ h => h) (Or.inl ⟨by kernel_rfl, ?_⟩) (by assumption) ?_
                    case refine_2 => (intro w hSw; (try dsimp only at hSw);  go_simp; try with_reducible rfl)
                    try simp only [Act.put, List.getElem_toArray, List.getElem_cons_succ, List.getElem_cons_zero, List.setIfInBounds_toArray, List.set_cons_zero, List.set_cons_succ]
                    refine wpAnyH_take (i := 67) (v := ?_) rfl (by kernel_rfl) (by kernel_rfl) (by kernel_rfl) (fun _ _ _ h => h) (Or.inl ⟨by kernel_rfl, ?_⟩) (by assumption) ?_
                    case refine_2 => (intro w hSw; (try dsimp only at hSw);  go_simp; try with_reducible rfl)
                    try simp only [Act.put, List.getElem_toArray, List.getElem_cons_succ, List.getElem_cons_zero, List.setIfInBounds_toArray, List.set_cons_zero, List.set_cons_succ]
                    refine wpAnyH_take (i := 68) (v := ?_) rfl (by kernel_rfl) (by kernel_rfl) (by kernel_rfl) (fun _ _ _ h => h) (Or.inl ⟨by kernel_rfl, ?_⟩) (by assumption) ?_
                    case refine_2 => (intro w hSw; (try dsimp only at hSw);  go_simp; try with_reducible rfl)
                    try simp only [Act.put, List.getElem_toArray, List.getElem_cons_succ, List.getElem_cons_zero, List.setIfInBounds_toArray, List.set_cons_zero, List.set_cons_succ]
                    refine wpAnyH_take (i := 69) (v := ?_) rfl (by kernel_rfl) (by kernel_rfl) (by kernel_rfl) (fun _ _ _ h => h) (Or.inl ⟨by kernel_rfl, ?_⟩) (by assumption) ?_
                    case refine_2 => (intro w hSw; (try dsimp only at hSw);  go_simp; try with_reducible rfl)
                    try simp only [Act.put, List.getElem_toArray, List.getElem_cons_succ, List.getElem_cons_zero, List.setIfInBounds_toArray, List.set_cons_zero, List.set_cons_succ]
                    refine wpAnyH_take (i := 70) (v := ?_) rfl (by kernel_rfl) (by kernel_rfl) (by kernel_rfl) (fun _ _ _ h => h) (Or.inl ⟨by kernel_rfl, ?_⟩) (by assumption) ?_
                    case refine_2 => (intro w hSw; (try dsimp only at hSw);  go_simp; try with_reducible rfl)
                    try simp only [Act.put, List.getElem_toArray, List.getElem_cons_succ, List.getElem_cons_zero, List.setIfInBounds_toArray, List.set_cons_zero, List.set_cons_succ]
                    refine wpAnyH_take (i := 71) (v := ?_) rfl (by kernel_rfl) (by kernel_rfl) (by kernel_rfl) (fun _ _ _ h => h) (Or.inl ⟨by kernel_rfl, ?_⟩) (by assumption) ?_
                    case refine_2 => (intro w hSw; (try dsimp only at hSw);  go_simp; try with_reducible rfl)
                    try simp only [Act.put, List.getElem_toArray, List.getElem_cons_succ, List.getElem_cons_zero, List.setIfInBounds_toArray, List.set_cons_zero, List.set_cons_succ]
                    refine wpAnyH_take (i := 72) (v := ?_) rfl (by kernel_rfl) (by kernel_rfl) (by kernel_rfl) (fun _ _ _ h => h) (Or.inl ⟨by kernel_rfl, ?_⟩) (by assumption) ?_
                    case refine_2 => (intro w hSw; (try dsimp only at hSw);  go_simp; try with_reducible rfl)
                    try simp only [Act.put, List.getElem_toArray, List.getElem_cons_succ, List.getElem_cons_zero, List.setIfInBounds_toArray, List.set_cons_zero, List.set_cons_succ]
                    refine wpAnyH_take (i := 73) (v := ?_) rfl (by kernel_rfl) (by kernel_rfl) (by kernel_rfl) (fun _ _ _ h => h) (Or.inl ⟨by kernel_rfl, ?_⟩) (by assumption) ?_
                    case refine_2 => (intro w hSw; (try dsimp only at hSw);  go_simp; try with_reducible rfl)
                    try simp only [Act.put, List.getElem_toArray, List.getElem_cons_succ, List.getElem_cons_zero, List.setIfInBounds_toArray, List.set_cons_zero, List.set_cons_succ]
                    refine wpAnyH_take (i := 74) (v := ?_) rfl (by kernel_rfl) (by kernel_rfl) (by kernel_rfl) (fun _ _ _ h => h) (Or.inl ⟨by kernel_rfl, ?_⟩) (by assumption) ?_
                    case refine_2 => (intro w hSw; (try dsimp only at hSw);  go_simp; try with_reducible rfl)
                    try simp only [Act.put, List.getElem_toArray, List.getElem_cons_succ, List.getElem_cons_zero, List.setIfInBounds_toArray, List.set_cons_zero, List.set_cons_succ]
                    refine wpAnyH_take (i := 75) (v := ?_) rfl (by kernel_rfl) (by kernel_rfl) (by kernel_rfl) (fun _ _ _ h => h) (Or.inl ⟨by kernel_rfl, ?_⟩) (by assumption) ?_
                    case refine_2 => (intro w hSw; (try dsimp only at hSw);  go_simp; try with_reducible rfl)
                    try simp only [Act.put, List.getElem_toArray, List.getElem_cons_succ, List.getElem_cons_zero, List.setIfInBounds_toArray, List.set_cons_zero, List.set_cons_succ]
                    refine wpAnyH_take (i := 76) (v := ?_) rfl (by kernel_rfl) (by kernel_rfl) (by kernel_rfl) (fun _ _ _ h => h) (Or.inl ⟨by kernel_rfl, ?_⟩) (by assumption) ?_
                    case refine_2 => (intro w hSw; (try dsimp only at hSw);  go_simp; try with_reducible rfl)
                    try simp only [Act.put, List.getElem_toArray, List.getElem_cons_succ, List.getElem_cons_zero, List.setIfInBounds_toArray, List.set_cons_zero, List.set_cons_succ]
                    refine wpAnyH_take (i := 77) (v := ?_) rfl (by kernel_rfl) (by kernel_rfl) (by kernel_rfl) (fun _ _ _ h => h) (Or.inl ⟨by kernel_rfl, ?_⟩) (by assumption) ?_
                    case refine_2 => (intro w hSw; (try dsimp only at hSw);  go_simp; try with_reducible rfl)
                    try simp only [Act.put, List.getElem_toArray, List.getElem_cons_succ, List.getElem_cons_zero, List.setIfInBounds_toArray, List.set_cons_zero, List.set_cons_succ]
                    refine wpAnyH_take (i := 78) (v := ?_) rfl (by kernel_rfl) (by kernel_rfl) (by kernel_rfl) (fun _ _ _ h => h) (Or.inl ⟨by kernel_rfl, ?_⟩) (by assumption) ?_
                    case refine_2 => (intro w hSw; (try dsimp only at hSw); have u0 := HCk.out w hSw _ _ HZ12.out; go_simp; try with_reducible rfl)
                    try simp only [Act.put, List.getElem_toArray, List.getElem_cons_succ, List.getElem_cons_zero, List.setIfInBounds_toArray, List.set_cons_zero, List.set_cons_succ]
                    refine wpAnyH_take (i := 79) (v := ?_) rfl (by kernel_rfl) (by kernel_rfl) (by kernel_rfl) (fun _ _ _ h => h) (Or.inl ⟨by kernel_rfl, ?_⟩) (by assumption) ?_
                    case refine_2 => (intro w hSw; (try dsimp only at hSw);  go_simp; try with_reducible rfl)
                    try simp only [Act.put, List.getElem_toArray, List.getElem_cons_succ, List.getElem_cons_zero, List.setIfInBounds_toArray, List.set_cons_zero, List.set_cons_succ]
                    refine wpAnyH_take (i := 80) (v := ?_) rfl (by kernel_rfl) (by kernel_rfl) (by kernel_rfl) (fun _ _ _ h => h) (Or.inl ⟨by kernel_rfl, ?_⟩) (by assumption) ?_
                    case refine_2 => (intro w hSw; (try dsimp only at hSw);  go_simp; try with_reducible rfl)
                    try simp only [Act.put, List.getElem_toArray, List.getElem_cons_succ, List.getElem_cons_zero, List.setIfInBounds_toArray, List.set_cons_zero, List.set_cons_succ]
                    refine wpAnyH_take (i := 81) (v := ?_) rfl (by kernel_rfl) (by kernel_rfl) (by kernel_rfl) (fun _ _ _ h => h) (Or.inl ⟨by kernel_rfl, ?_⟩) (by assumption) ?_
                    case refine_2 => (intro w hSw; (try dsimp only at hSw);  go_simp; try with_reducible rfl)
                    try simp only [Act.put, List.getElem_toArray, List.getElem_cons_succ, List.getElem_cons_zero, List.setIfInBounds_toArray, List.set_cons_zero, List.set_cons_succ]
                    refine wpAnyH_take (i := 82) (v := ?_) rfl (by kernel_rfl) (by kernel_rfl) (by kernel_rfl) (fun _ _ _ h => h) (Or.inl ⟨by kernel_rfl, ?_⟩) (by assumption) ?_
                    case refine_2 => (intro w hSw; (try dsimp only at hSw);  go_simp; try with_reducible rfl)
                    try simp only [Act.put, List.getElem_toArray, List.getElem_cons_succ, List.getElem_cons_zero, List.setIfInBounds_toArray, List.set_cons_zero, List.set_cons_succ]
                    refine wpAnyH_ready (rs := [83]) (by kernel_rfl) (by simp) ?_
                    refine AllReadyH.cons rfl (fun K hK => ?_) AllReadyH.nil
                    go_simp
                    refine HLf.out.mono ?_
                    rintro e wx ⟨rfl, rfl⟩
                    go_simp
                    refine hK.out _ _ HDd.out (fun hHeld1 => ?_)
                    clear hK K hHeld
                    as_aux_lemma =>
                      refine wpAnyH_take (i := 84) (v := ?_) rfl (by kernel_rfl) (by kernel_rfl) (by kernel_rfl) (fun _ _ _ h => h) (Or.inl ⟨by kernel_rfl, ?_⟩) (by assumption) ?_
                      case refine_2 => (intro w hSw; (try dsimp only at hSw);  go_simp; try with_reducible rfl)
                      try simp only [Act.put, List.getElem_toArray, List.getElem_cons_succ, List.getElem_cons_zero, List.setIfInBounds_toArray, List.set_cons_zero, List.set_cons_succ]
                      refine wpAnyH_take (i := 85) (v := ?_) rfl (by kernel_rfl) (by kernel_rfl) (by kernel_rfl) (fun _ _ _ h => h) (Or.inl ⟨by kernel_rfl, ?_⟩) (by assumption) ?_
                      case refine_2 => (intro w hSw; (try dsimp only at hSw);  go_simp; try with_reducible rfl)
                      try simp only [Act.put, List.getElem_toArray, List.getElem_cons_succ, List.getElem_cons_zero, List.setIfInBounds_toArray, List.set_cons_zero, List.set_cons_succ]
                      refine wpAnyH_take (i := 86) (v := ?_) rfl (by kernel_rfl) (by kernel_rfl) (by kernel_rfl) (fun _ _ _ h => h) (Or.inl ⟨by kernel_rfl, ?_⟩) (by assumption) ?_
                      case refine_2 => (intro w hSw; (try dsimp only at hSw);  go_simp; try with_reducible rfl)
                      try simp only [Act.put, List.getElem_toArray, List.getElem_cons_succ, List.getElem_cons_zero, List.setIfInBounds_toArray, List.set_cons_zero, List.set_cons_succ]
                      refine wpAnyH_take (i := 87) (v := ?_) rfl (by kernel_rfl) (by kernel_rfl) (by kernel_rfl) (fun _ _ _ h => h) (Or.inl ⟨by kernel_rfl, ?_⟩) (by assumption) ?_
                      case refine_2 => (intro w hSw; (try dsimp only at hSw);  go_simp; try with_reducible rfl)
                      try simp only [Act.put, List.getElem_toArray, List.getElem_cons_succ, List.getElem_cons_zero, List.setIfInBounds_toArray, List.set_cons_zero, List.set_cons_succ]
                      refine wpAnyH_ready (rs := [88]) (by kernel_rfl) (by simp) ?_
                      refine AllReadyH.cons rfl (fun K hK => ?_) AllReadyH.nil
                      go_simp
                      refine HEn.out.mono ?_
                      rintro e ws3 ⟨rfl, V14, hs14, ht14⟩
                      have HD3 := Lib.hid (HDd.out.trans (HS13.out.toBelow ht14))
                      have HSt : Hid (Calls Tryz.prog 21 #[ptr b2] ws3 fun e w' => e = .returned (.int .i64 400) ∧ w' = ws3) := by
                        have h := pstat_any hs14
                        rw [HF5.out.2.2] at h
                        exact Lib.hid h
                      obtain ⟨q14, hp14⟩ := hs14.par
                      have HExq := Lib.hid (pexpect_bad ⟨#[71, 69, 84]⟩ hp14 (by decide) (.inl ((end_rsp R5).trans HLm5.out)))
                      clear hs14 ht14 q14 hp14
                      unfold ptr at HSt HExq
                      go_simp
                      refine hK.out _ _ HD3.out (fun hHeld2 => ?_)
                      clear hK K hHeld1
                      refine wpAnyH_take (i := 89) (v := ?_) rfl (by kernel_rfl) (by kernel_rfl) (by kernel_rfl) (fun _ _ _ h => h) (Or.inl ⟨by kernel_rfl, ?_⟩) (by assumption) ?_
                      case refine_2 => (intro w hSw; (try dsimp only at hSw);  go_simp; try with_reducible rfl)
                      try simp only [Act.put, List.getElem_toArray, List.getElem_cons_succ, List.getElem_cons_zero, List.setIfInBounds_toArray, List.set_cons_zero, List.set_cons_succ]
                      refine wpAnyH_take (i := 90) (v := ?_) rfl (by kernel_rfl) (by kernel_rfl) (by kernel_rfl) (fun _ _ _ h => h) (Or.inl ⟨by kernel_rfl, ?_⟩) (by assumption) ?_
                      case refine_2 => (intro w hSw; (try dsimp only at hSw);  go_simp; try with_reducible rfl)
                      try simp only [Act.put, List.getElem_toArray, List.getElem_cons_succ, List.getElem_cons_zero, List.setIfInBounds_toArray, List.set_cons_zero, List.set_cons_succ]
                      refine wpAnyH_take (i := 91) (v := ?_) rfl (by kernel_rfl) (by kernel_rfl) (by kernel_rfl) (fun _ _ _ h => h) (Or.inl ⟨by kernel_rfl, ?_⟩) (by assumption) ?_
                      case refine_2 => (intro w hSw; (try dsimp only at hSw);  go_simp; try with_reducible rfl)
                      try simp only [Act.put, List.getElem_toArray, List.getElem_cons_succ, List.getElem_cons_zero, List.setIfInBounds_toArray, List.set_cons_zero, List.set_cons_succ]
                      refine wpAnyH_take (i := 92) (v := ?_) rfl (by kernel_rfl) (by kernel_rfl) (by kernel_rfl) (fun _ _ _ h => h) (Or.inl ⟨by kernel_rfl, ?_⟩) (by assumption) ?_
                      case refine_2 => (intro w hSw; (try dsimp only at hSw);  go_simp; try with_reducible rfl)
                      try simp only [Act.put, List.getElem_toArray, List.getElem_cons_succ, List.getElem_cons_zero, List.setIfInBounds_toArray, List.set_cons_zero, List.set_cons_succ]
                      refine wpAnyH_ready (rs := [93]) (by kernel_rfl) (by simp) ?_
                      refine AllReadyH.cons rfl (fun K hK => ?_) AllReadyH.nil
                      go_simp
                      refine HSt.out.mono ?_
                      rintro e wx ⟨rfl, rfl⟩
                      go_simp
                      refine hK.out _ _ HD3.out (fun hHeld3 => ?_)
                      clear hK K hHeld2
                      refine wpAnyH_take (i := 94) (v := ?_) rfl (by kernel_rfl) (by kernel_rfl) (by kernel_rfl) (fun _ _ _ h => h) (Or.inl ⟨by kernel_rfl, ?_⟩) (by assumption) ?_
                      case refine_2 => (intro w hSw; (try dsimp only at hSw);  go_simp; try with_reducible rfl)
                      try simp only [Act.put, List.getElem_toArray, List.getElem_cons_succ, List.getElem_cons_zero, List.setIfInBounds_toArray, List.set_cons_zero, List.set_cons_succ]
                      refine wpAnyH_take (i := 95) (v := ?_) rfl (by kernel_rfl) (by kernel_rfl) (by kernel_rfl) (fun _ _ _ h => h) (Or.inl ⟨by kernel_rfl, ?_⟩) (by assumption) ?_
                      case refine_2 => (intro w hSw; (try dsimp only at hSw);  go_simp; try with_reducible rfl)
                      try simp only [Act.put, List.getElem_toArray, List.getElem_cons_succ, List.getElem_cons_zero, List.setIfInBounds_toArray, List.set_cons_zero, List.set_cons_succ]
                      refine wpAnyH_take (i := 96) (v := ?_) rfl (by kernel_rfl) (by kernel_rfl) (by kernel_rfl) (fun _ _ _ h => h) (Or.inl ⟨by kernel_rfl, ?_⟩) (by assumption) ?_
                      case refine_2 => (intro w hSw; (try dsimp only at hSw);  go_simp; try with_reducible rfl)
                      try simp only [Act.put, List.getElem_toArray, List.getElem_cons_succ, List.getElem_cons_zero, List.setIfInBounds_toArray, List.set_cons_zero, List.set_cons_succ]
                      refine wpAnyH_take (i := 97) (v := ?_) rfl (by kernel_rfl) (by kernel_rfl) (by kernel_rfl) (fun _ _ _ h => h) (Or.inl ⟨by kernel_rfl, ?_⟩) (by assumption) ?_
                      case refine_2 => (intro w hSw; (try dsimp only at hSw);  go_simp; try with_reducible rfl)
                      try simp only [Act.put, List.getElem_toArray, List.getElem_cons_succ, List.getElem_cons_zero, List.setIfInBounds_toArray, List.set_cons_zero, List.set_cons_succ]
                      refine wpAnyH_ready (rs := [98]) (by kernel_rfl) (by simp) ?_
                      refine AllReadyH.cons rfl (fun K hK => ?_) AllReadyH.nil
                      go_simp
                      refine HExq.out.mono ?_
                      rintro e ws4 ⟨rfl, hb⟩
                      have HD4 := Lib.hid (HD3.out.trans (hb.mono HD3.out.size))
                      have HExp := Lib.hid (pexpect_bad ⟨#[]⟩ (HP12.out.below HD4.out) (by decide) (.inr ⟨HRs5.out, by decide +kernel⟩))
                      clear hb
                      unfold ptr at HExp
                      go_simp
                      refine hK.out _ _ HD4.out (fun hHeld4 => ?_)
                      clear hK K hHeld3
                      as_aux_lemma =>
                        refine wpAnyH_take (i := 99) (v := ?_) rfl (by kernel_rfl) (by kernel_rfl) (by kernel_rfl) (fun _ _ _ h => h) (Or.inl ⟨by kernel_rfl, ?_⟩) (by assumption) ?_
                        case refine_2 => (intro w hSw; (try dsimp only at hSw);  go_simp; try with_reducible rfl)
                        try simp only [Act.put, List.getElem_toArray, List.getElem_cons_succ, List.getElem_cons_zero, List.setIfInBounds_toArray, List.set_cons_zero, List.set_cons_succ]
                        refine wpAnyH_take (i := 100) (v := ?_) rfl (by kernel_rfl) (by kernel_rfl) (by kernel_rfl) (fun _ _ _ h => h) (Or.inl ⟨by kernel_rfl, ?_⟩) (by assumption) ?_
                        case refine_2 => (intro w hSw; (try dsimp only at hSw);  go_simp; try with_reducible rfl)
                        try simp only [Act.put, List.getElem_toArray, List.getElem_cons_succ, List.getElem_cons_zero, List.setIfInBounds_toArray, List.set_cons_zero, List.set_cons_succ]
                        refine wpAnyH_take (i := 101) (v := ?_) rfl (by kernel_rfl) (by kernel_rfl) (by kernel_rfl) (fun _ _ _ h => h) (Or.inl ⟨by kernel_rfl, ?_⟩) (by assumption) ?_
                        case refine_2 => (intro w hSw; (try dsimp only at hSw);  go_simp; try with_reducible rfl)
                        try simp only [Act.put, List.getElem_toArray, List.getElem_cons_succ, List.getElem_cons_zero, List.setIfInBounds_toArray, List.set_cons_zero, List.set_cons_succ]
                        refine wpAnyH_take (i := 102) (v := ?_) rfl (by kernel_rfl) (by kernel_rfl) (by kernel_rfl) (fun _ _ _ h => h) (Or.inl ⟨by kernel_rfl, ?_⟩) (by assumption) ?_
                        case refine_2 => (intro w hSw; (try dsimp only at hSw);  go_simp; try with_reducible rfl)
                        try simp only [Act.put, List.getElem_toArray, List.getElem_cons_succ, List.getElem_cons_zero, List.setIfInBounds_toArray, List.set_cons_zero, List.set_cons_succ]
                        refine wpAnyH_ready (rs := [103]) (by kernel_rfl) (by simp) ?_
                        refine AllReadyH.cons rfl (fun K hK => ?_) AllReadyH.nil
                        go_simp
                        refine HExp.out.mono ?_
                        rintro e ws5 ⟨rfl, hb⟩
                        have HD5 := Lib.hid (HD4.out.trans (hb.mono HD4.out.size))
                        clear hb
                        have HSm : Hid (Calls Tryz.prog 22 #[.agg #[.string ⟨#[71, 69, 84]⟩, .string ⟨#[47]⟩, .int .i64 0, .string ⟨#[]⟩, .int .i64 1, .slice fa0 fn0 fc0, .string ⟨#[]⟩, .slice ta0 tn0 tc0], .agg #[.string ⟨#[71, 69, 84]⟩, .string ⟨#[47]⟩, .int .i64 0, .string ⟨#[]⟩, .int .i64 1, .slice fa2 fn2 fc2, .string ⟨#[]⟩, .slice ta2 tn2 tc2]] ws5 fun e w' => e = .returned (.bool true) ∧ Below ws5.heap.size ws5 w') := by
                          have hm5 := HMr.out.below HD5.out
                          obtain ⟨_, _, _, _, _, f0, t0⟩ := hm5.get 0 x0 rfl
                          obtain ⟨_, _, _, _, _, f2, t2⟩ := hm5.get 2 x2 rfl
                          rw [HXe.out.1, HXs.out.1] at f0
                          rw [HXe.out.2.1, HXs.out.1] at t0
                          rw [HXe.out.2.2.1, HXs.out.2.2] at f2
                          rw [HXe.out.2.2.2, HXs.out.2.2] at t2
                          exact Lib.hid (msame_self nmA _ _ _ _ ws5 f0 f2 t0 t2 (by decide) (by decide) (by decide) (by decide))
                        go_simp
                        refine hK.out _ _ HD5.out (fun hHeld5 => ?_)
                        clear hK K hHeld4
                        as_aux_lemma =>
                          refine wpAnyH_take (i := 104) (v := ?_) rfl (by kernel_rfl) (by kernel_rfl) (by kernel_rfl) (fun _ _ _ h => h) (Or.inl ⟨by kernel_rfl, ?_⟩) (by assumption) ?_
                          case refine_2 => (intro w hSw; (try dsimp only at hSw);  go_simp; try with_reducible rfl)
                          try simp only [Act.put, List.getElem_toArray, List.getElem_cons_succ, List.getElem_cons_zero, List.setIfInBounds_toArray, List.set_cons_zero, List.set_cons_succ]
                          refine wpAnyH_take (i := 105) (v := ?_) rfl (by kernel_rfl) (by kernel_rfl) (by kernel_rfl) (fun _ _ _ h => h) (Or.inl ⟨by kernel_rfl, ?_⟩) (by assumption) ?_
                          case refine_2 => (intro w hSw; (try dsimp only at hSw);  go_simp; try with_reducible rfl)
                          try simp only [Act.put, List.getElem_toArray, List.getElem_cons_succ, List.getElem_cons_zero, List.setIfInBounds_toArray, List.set_cons_zero, List.set_cons_succ]
                          refine wpAnyH_take (i := 106) (v := ?_) rfl (by kernel_rfl) (by kernel_rfl) (by kernel_rfl) (fun _ _ _ h => h) (Or.inl ⟨by kernel_rfl, ?_⟩) (by assumption) ?_
                          case refine_2 => (intro w hSw; (try dsimp only at hSw);  go_simp; try with_reducible rfl)
                          try simp only [Act.put, List.getElem_toArray, List.getElem_cons_succ, List.getElem_cons_zero, List.setIfInBounds_toArray, List.set_cons_zero, List.set_cons_succ]
                          refine wpAnyH_take (i := 107) (v := ?_) rfl (by kernel_rfl) (by kernel_rfl) (by kernel_rfl) (fun _ _ _ h => h) (Or.inl ⟨by kernel_rfl, ?_⟩) (by assumption) ?_
                          case refine_2 => (intro w hSw; (try dsimp only at hSw);  go_simp; try with_reducible rfl)
                          try simp only [Act.put, List.getElem_toArray, List.getElem_cons_succ, List.getElem_cons_zero, List.setIfInBounds_toArray, List.set_cons_zero, List.set_cons_succ]
                          refine wpAnyH_take (i := 108) (v := ?_) rfl (by kernel_rfl) (by kernel_rfl) (by kernel_rfl) (fun _ _ _ h => h) (Or.inl ⟨by kernel_rfl, ?_⟩) (by assumption) ?_
                          case refine_2 => (intro w hSw; (try dsimp only at hSw);  go_simp; try with_reducible rfl)
                          try simp only [Act.put, List.getElem_toArray, List.getElem_cons_succ, List.getElem_cons_zero, List.setIfInBounds_toArray, List.set_cons_zero, List.set_cons_succ]
                          refine wpAnyH_take (i := 109) (v := ?_) rfl (by kernel_rfl) (by kernel_rfl) (by kernel_rfl) (fun _ _ _ h => h) (Or.inl ⟨by kernel_rfl, ?_⟩) (by assumption) ?_
                          case refine_2 => (intro w hSw; (try dsimp only at hSw); have u0 := HCk.out w hSw _ _ E0.out; have u1 := HCk.out w hSw _ _ E1.out; have u2 := HCk.out w hSw _ _ E2.out; have u3 := HCk.out w hSw _ _ E3.out; have u4 := HCk.out w hSw _ _ E4.out; have u5 := HCk.out w hSw _ _ E5.out; have u6 := HCk.out w hSw _ _ E6.out; have u7 := HCk.out w hSw _ _ E7.out; go_simp; try with_reducible rfl)
                          try simp only [Act.put, List.getElem_toArray, List.getElem_cons_succ, List.getElem_cons_zero, List.setIfInBounds_toArray, List.set_cons_zero, List.set_cons_succ]
                          refine wpAnyH_take (i := 110) (v := ?_) rfl (by kernel_rfl) (by kernel_rfl) (by kernel_rfl) (fun _ _ _ h => h) (Or.inl ⟨by kernel_rfl, ?_⟩) (by assumption) ?_
                          case refine_2 => (intro w hSw; (try dsimp only at hSw);  go_simp; try with_reducible rfl)
                          try simp only [Act.put, List.getElem_toArray, List.getElem_cons_succ, List.getElem_cons_zero, List.setIfInBounds_toArray, List.set_cons_zero, List.set_cons_succ]
                          refine wpAnyH_take (i := 111) (v := ?_) rfl (by kernel_rfl) (by kernel_rfl) (by kernel_rfl) (fun _ _ _ h => h) (Or.inl ⟨by kernel_rfl, ?_⟩) (by assumption) ?_
                          case refine_2 => (intro w hSw; (try dsimp only at hSw);  go_simp; try with_reducible rfl)
                          try simp only [Act.put, List.getElem_toArray, List.getElem_cons_succ, List.getElem_cons_zero, List.setIfInBounds_toArray, List.set_cons_zero, List.set_cons_succ]
                          refine wpAnyH_take (i := 112) (v := ?_) rfl (by kernel_rfl) (by kernel_rfl) (by kernel_rfl) (fun _ _ _ h => h) (Or.inl ⟨by kernel_rfl, ?_⟩) (by assumption) ?_
                          case refine_2 => (intro w hSw; (try dsimp only at hSw); have u0 := HCk.out w hSw _ _ E16.out; have u1 := HCk.out w hSw _ _ E17.out; have u2 := HCk.out w hSw _ _ E18.out; have u3 := HCk.out w hSw _ _ E19.out; have u4 := HCk.out w hSw _ _ E20.out; have u5 := HCk.out w hSw _ _ E21.out; have u6 := HCk.out w hSw _ _ E22.out; have u7 := HCk.out w hSw _ _ E23.out; go_simp; try with_reducible rfl)
                          try simp only [Act.put, List.getElem_toArray, List.getElem_cons_succ, List.getElem_cons_zero, List.setIfInBounds_toArray, List.set_cons_zero, List.set_cons_succ]
                          refine wpAnyH_ready (rs := [113]) (by kernel_rfl) (by simp) ?_
                          refine AllReadyH.cons rfl (fun K hK => ?_) AllReadyH.nil
                          go_simp
                          refine HSm.out.mono ?_
                          rintro e ws6 ⟨rfl, hb⟩
                          have HD6 := Lib.hid (HD5.out.trans (hb.mono HD5.out.size))
                          clear hb
                          have HSn := Lib.hid (msame_no ⟨#[71, 69, 84]⟩ ⟨#[80, 79, 83, 84]⟩ (by rw [toList_bs, toList_bs]; decide) ⟨#[47]⟩ ⟨#[]⟩ ⟨#[]⟩ ⟨#[47, 120]⟩ ⟨#[]⟩ ⟨#[97, 98]⟩ 0 1 0 1 fa0 ta0 fa1 ta1 fn0 tn0 fn1 tn1 fc0 tc0 fc1 tc1 ws6)
                          go_simp
                          refine hK.out _ _ HD6.out (fun hHeld6 => ?_)
                          clear hK K hHeld5
                          as_aux_lemma =>
                            refine wpAnyH_take (i := 114) (v := ?_) rfl (by kernel_rfl) (by kernel_rfl) (by kernel_rfl) (fun _ _ _ h => h) (Or.inl ⟨by kernel_rfl, ?_⟩) (by assumption) ?_
                            case refine_2 => (intro w hSw; (try dsimp only at hSw);  go_simp; try with_reducible rfl)
                            try simp only [Act.put, List.getElem_toArray, List.getElem_cons_succ, List.getElem_cons_zero, List.setIfInBounds_toArray, List.set_cons_zero, List.set_cons_succ]
                            refine wpAnyH_take (i := 115) (v := ?_) rfl (by kernel_rfl) (by kernel_rfl) (by kernel_rfl) (fun _ _ _ h => h) (Or.inl ⟨by kernel_rfl, ?_⟩) (by assumption) ?_
                            case refine_2 => (intro w hSw; (try dsimp only at hSw);  go_simp; try with_reducible rfl)
                            try simp only [Act.put, List.getElem_toArray, List.getElem_cons_succ, List.getElem_cons_zero, List.setIfInBounds_toArray, List.set_cons_zero, List.set_cons_succ]
                            refine wpAnyH_take (i := 116) (v := ?_) rfl (by kernel_rfl) (by kernel_rfl) (by kernel_rfl) (fun _ _ _ h => h) (Or.inl ⟨by kernel_rfl, ?_⟩) (by assumption) ?_
                            case refine_2 => (intro w hSw; (try dsimp only at hSw);  go_simp; try with_reducible rfl)
                            try simp only [Act.put, List.getElem_toArray, List.getElem_cons_succ, List.getElem_cons_zero, List.setIfInBounds_toArray, List.set_cons_zero, List.set_cons_succ]
                            refine wpAnyH_take (i := 117) (v := ?_) rfl (by kernel_rfl) (by kernel_rfl) (by kernel_rfl) (fun _ _ _ h => h) (Or.inl ⟨by kernel_rfl, ?_⟩) (by assumption) ?_
                            case refine_2 => (intro w hSw; (try dsimp only at hSw);  go_simp; try with_reducible rfl)
                            try simp only [Act.put, List.getElem_toArray, List.getElem_cons_succ, List.getElem_cons_zero, List.setIfInBounds_toArray, List.set_cons_zero, List.set_cons_succ]
                            refine wpAnyH_take (i := 118) (v := ?_) rfl (by kernel_rfl) (by kernel_rfl) (by kernel_rfl) (fun _ _ _ h => h) (Or.inl ⟨by kernel_rfl, ?_⟩) (by assumption) ?_
                            case refine_2 => (intro w hSw; (try dsimp only at hSw); have u0 := HCk.out w hSw _ _ E0.out; have u1 := HCk.out w hSw _ _ E1.out; have u2 := HCk.out w hSw _ _ E2.out; have u3 := HCk.out w hSw _ _ E3.out; have u4 := HCk.out w hSw _ _ E4.out; have u5 := HCk.out w hSw _ _ E5.out; have u6 := HCk.out w hSw _ _ E6.out; have u7 := HCk.out w hSw _ _ E7.out; go_simp; try with_reducible rfl)
                            try simp only [Act.put, List.getElem_toArray, List.getElem_cons_succ, List.getElem_cons_zero, List.setIfInBounds_toArray, List.set_cons_zero, List.set_cons_succ]
                            refine wpAnyH_take (i := 119) (v := ?_) rfl (by kernel_rfl) (by kernel_rfl) (by kernel_rfl) (fun _ _ _ h => h) (Or.inl ⟨by kernel_rfl, ?_⟩) (by assumption) ?_
                            case refine_2 => (intro w hSw; (try dsimp only at hSw);  go_simp; try with_reducible rfl)
                            try simp only [Act.put, List.getElem_toArray, List.getElem_cons_succ, List.getElem_cons_zero, List.setIfInBounds_toArray, List.set_cons_zero, List.set_cons_succ]
                            refine wpAnyH_take (i := 120) (v := ?_) rfl (by kernel_rfl) (by kernel_rfl) (by kernel_rfl) (fun _ _ _ h => h) (Or.inl ⟨by kernel_rfl, ?_⟩) (by assumption) ?_
                            case refine_2 => (intro w hSw; (try dsimp only at hSw);  go_simp; try with_reducible rfl)
                            try simp only [Act.put, List.getElem_toArray, List.getElem_cons_succ, List.getElem_cons_zero, List.setIfInBounds_toArray, List.set_cons_zero, List.set_cons_succ]
                            refine wpAnyH_take (i := 121) (v := ?_) rfl (by kernel_rfl) (by kernel_rfl) (by kernel_rfl) (fun _ _ _ h => h) (Or.inl ⟨by kernel_rfl, ?_⟩) (by assumption) ?_
                            case refine_2 => (intro w hSw; (try dsimp only at hSw); have u0 := HCk.out w hSw _ _ E8.out; have u1 := HCk.out w hSw _ _ E9.out; have u2 := HCk.out w hSw _ _ E10.out; have u3 := HCk.out w hSw _ _ E11.out; have u4 := HCk.out w hSw _ _ E12.out; have u5 := HCk.out w hSw _ _ E13.out; have u6 := HCk.out w hSw _ _ E14.out; have u7 := HCk.out w hSw _ _ E15.out; go_simp; try with_reducible rfl)
                            try simp only [Act.put, List.getElem_toArray, List.getElem_cons_succ, List.getElem_cons_zero, List.setIfInBounds_toArray, List.set_cons_zero, List.set_cons_succ]
                            refine wpAnyH_ready (rs := [122]) (by kernel_rfl) (by simp) ?_
                            refine AllReadyH.cons rfl (fun K hK => ?_) AllReadyH.nil
                            go_simp
                            refine HSn.out.mono ?_
                            rintro e ws7 ⟨rfl, hb⟩
                            have HD7 := Lib.hid (HD6.out.trans (hb.mono HD6.out.size))
                            clear hb
                            go_simp
                            refine hK.out _ _ HD7.out (fun hHeld7 => ?_)
                            clear hK K hHeld6
                            refine wpAnyH_take (i := 123) (v := ?_) rfl (by kernel_rfl) (by kernel_rfl) (by kernel_rfl) (fun _ _ _ h => h) (Or.inl ⟨by kernel_rfl, ?_⟩) (by assumption) ?_
                            case refine_2 => (intro w hSw; (try dsimp only at hSw);  go_simp; try with_reducible rfl)
                            try simp only [Act.put, List.getElem_toArray, List.getElem_cons_succ, List.getElem_cons_zero, List.setIfInBounds_toArray, List.set_cons_zero, List.set_cons_succ]
                            refine wpAnyH_take (i := 124) (v := ?_) rfl (by kernel_rfl) (by kernel_rfl) (by kernel_rfl) (fun _ _ _ h => h) (Or.inl ⟨by kernel_rfl, ?_⟩) (by assumption) ?_
                            case refine_2 => (intro w hSw; (try dsimp only at hSw);  go_simp; try with_reducible rfl)
                            try simp only [Act.put, List.getElem_toArray, List.getElem_cons_succ, List.getElem_cons_zero, List.setIfInBounds_toArray, List.set_cons_zero, List.set_cons_succ]
                            refine wpAnyH_take (i := 125) (v := ?_) rfl (by kernel_rfl) (by kernel_rfl) (by kernel_rfl) (fun _ _ _ h => h) (Or.inl ⟨by kernel_rfl, ?_⟩) (by assumption) ?_
                            case refine_2 => (intro w hSw; (try dsimp only at hSw);  go_simp; try with_reducible rfl)
                            try simp only [Act.put, List.getElem_toArray, List.getElem_cons_succ, List.getElem_cons_zero, List.setIfInBounds_toArray, List.set_cons_zero]
                            refine wpAnyH_done (by kernel_rfl) ?_ _
                            go_wp2_with fail
                            go_ret
                            exact ⟨rfl, HBw.out.trans (HD7.out.mono HBw.out.size)⟩
end Tk
end Go.Proofs.YtpcdaaijlgilkaaGreatDoor

