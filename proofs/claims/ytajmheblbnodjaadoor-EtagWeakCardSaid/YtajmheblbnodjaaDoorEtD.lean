/- etag.Unchanged of a request with If-None-Match; the law's one, strong, lives. -/
import Derived.Test.YtajmheblbnodjaaDoorEtC
namespace Go.Proofs.YtajmheblbnodjaaDoor
open Go.RowKit
namespace Tk

def nINM : Bs := [73, 102, 45, 78, 111, 110, 101, 45, 77, 97, 116, 99, 104]

theorem isFlds_litE (w : World) (n x : Bs) : IsFlds (w.alloc (.cells #[.string (mkS n), .string (mkS x)] 57)) (.slice (some ⟨w.heap.size, 0, none⟩) 1 1) [(n, x)] := by
  refine ⟨_, 1, rfl, Nat.le_refl _, fun j f hj => ?_⟩
  cases j with
  | zero =>
    simp at hj; subst hj
    refine ⟨w.heap.size, 0, rfl, ?_, ?_⟩
    · rw [Lib.cell_of_heap (heap_alloc_last w _)]; rfl
    · rw [Lib.cell_of_heap (heap_alloc_last w _)]; rfl
  | succ j => simp at hj

set_option maxHeartbeats 4000000 in
set_option maxRecDepth 100000 in
theorem unchT_any (v : Value) (l : List (Bs × Bs)) (c : Ck) (now : Int) (w : World) (hs : IsFlds w v l) (hz : sumF l ≤ 1000000) (hl : l.length ≤ 1048576) (hp : 0 < (allF l nINM).length) :
    Calls Tryd.prog 38 #[v, ckV c, .int .i64 now] w fun e w' => e = .returned (.bool (nmdB (allF l nINM) c)) ∧ Below w.heap.size w w' := by
  have hb0 : Below w.heap.size w (w.alloc (.cells (ckA c) 62)) := (Below.refl _ _).alloc (Nat.le_refl _) _
  have hBx := Bx.new w 62 (ckA c)
  have HA := Lib.hid (fall_any v l nINM _ (isFlds_below hs hb0) (sum_each l (by omega)) (by decide) hl)
  have hsum := sum_all nINM l
  unfold ListPost at HA
  obtain ⟨a, cap, rfl⟩ : ∃ a cap, v = .slice a l.length cap := by obtain ⟨a, c, h, -⟩ := hs; exact ⟨a, c, h⟩
  have HB0 := Lib.hid hb0
  have HBx := Lib.hid hBx
  have hsz : w.heap.size ≤ (w.alloc (.cells (ckA c) 62)).heap.size := by simp
  clear hb0 hBx hs
  generalize allF l nINM = P at *
  have HN := Lib.hid (fun (v : Value) (W : World) h => tnamed_any v P c W h (by omega))
  have hP : (0 : Int) < (P.length : Int) := by omega
  clear hsum
  generalize nmdB P c = q at *
  obtain ⟨cw, cv, ch, ca, cb⟩ := c
  unfold ckV ckA at *
  simp only at *
  unfold nINM mkS at HA
  go_enter Tryd.func38, Tryd.ntmps38
  go_wp2_with fail
  refine HA.out.mono ?_
  rintro e w1 ⟨v1, rfl, ho, hb⟩
  have hB1 := HBx.out.later hb
  have hst := isStrs_own ho
  obtain ⟨a1, c1, rfl⟩ : ∃ a c, v1 = .slice a P.length c := by obtain ⟨a, c, h, -⟩ := isStrs_own ho; exact ⟨a, c, h⟩
  have c0 := hB1.cell 0 _ rfl
  have c1 := hB1.cell 1 _ rfl
  have c2 := hB1.cell 2 _ rfl
  have c3 := hB1.cell 3 _ rfl
  have c4 := hB1.cell 4 _ rfl
  have HB1 := Lib.hid (HB0.out.trans (hb.mono hsz))
  have HN1 := Lib.hid (HN.out _ w1 hst)
  have HL := Lib.hid HB1.out.size
  clear hB1 ho hb hst
  go_wp2_with fail
  refine HN1.out.mono ?_
  rintro e w2 ⟨rfl, hb⟩
  have HB2 := Lib.hid (HB1.out.trans (hb.mono HL.out))
  clear hb
  go_wp2_with fail
  go_ret
  exact ⟨rfl, HB2.out⟩

set_option maxHeartbeats 1000000 in
set_option maxRecDepth 100000 in
theorem eone_any (n x : ByteArray) (w : World) :
    Calls Tryd.prog 37 #[.string n, .string x] w fun e w' => e = .returned (.agg #[.string n, .string x]) ∧ Below w.heap.size w w' := by
  have hT := Two.new w 57 (.string ⟨#[]⟩) (.string ⟨#[]⟩)
  have c0 := hT.c0
  have c1 := hT.c1
  have f0 := hT.f0
  have f1 := hT.f1
  have hT2 := Two.new w 57 (.string n) (.string x)
  have q0 := hT2.c0
  have q1 := hT2.c1
  clear hT hT2
  go_enter Tryd.func37, Tryd.ntmps37
  go_wp2_with fail
  refine bodyPost_ret (v := .agg #[.string n, .string x]) ?_ rfl ⟨rfl, (Below.refl _ _).alloc (Nat.le_refl _) _⟩
  simp [results, Tryd.results37, go_sem, q0, q1]

set_option maxHeartbeats 1000000 in
set_option maxRecDepth 100000 in
theorem estrong_any (v : ByteArray) (w : World) :
    Calls Tryd.prog 39 #[.string v] w fun e w' => e = .returned (.agg #[.bool false, .string v, .bool true, .int .i64 0, .bool false]) ∧ Below w.heap.size w w' := by
  have hT := Bx.new w 62 #[.bool false, .string ⟨#[]⟩, .bool false, .int .i64 0, .bool false]
  have f0 := hT.frozen 0
  have f1 := hT.frozen 1
  have f2 := hT.frozen 2
  have f3 := hT.frozen 3
  have f4 := hT.frozen 4
  have c0 := hT.cell 0 _ rfl
  have c1 := hT.cell 1 _ rfl
  have c2 := hT.cell 2 _ rfl
  have c3 := hT.cell 3 _ rfl
  have c4 := hT.cell 4 _ rfl
  have hT2 := Bx.new w 62 #[.bool false, .string v, .bool true, .int .i64 0, .bool false]
  have q0 := hT2.cell 0 _ rfl
  have q1 := hT2.cell 1 _ rfl
  have q2 := hT2.cell 2 _ rfl
  have q3 := hT2.cell 3 _ rfl
  have q4 := hT2.cell 4 _ rfl
  clear hT hT2
  go_enter Tryd.func39, Tryd.ntmps39
  go_wp2_with fail
  refine bodyPost_ret (v := .agg #[.bool false, .string v, .bool true, .int .i64 0, .bool false]) ?_ rfl ⟨rfl, (Below.refl _ _).alloc (Nat.le_refl _) _⟩
  simp [results, Tryd.results39, go_sem, q0, q1, q2, q3, q4]

/-- the example's value of If-None-Match -/
def exE : Bs := [34, 97, 34, 44, 32, 87, 47, 34, 98, 34]
theorem exE_all : allF [(nINM, exE)] nINM = [exE] := by decide +kernel
theorem exE_b : nmdB [exE] ⟨false, [98], true, 0, false⟩ = true := by decide +kernel
theorem exE_c : nmdB [exE] ⟨false, [99], true, 0, false⟩ = false := by decide +kernel

set_option maxHeartbeats 4000000 in
set_option maxRecDepth 100000 in
theorem lives11_any (w : World) : Calls Tryd.prog 17 #[] w fun e w' => e = .returned (.bool true) ∧ Below w.heap.size w w' := by
  have HO := Lib.hid (eone_any ⟨#[73, 102, 45, 78, 111, 110, 101, 45, 77, 97, 116, 99, 104]⟩ ⟨#[34, 97, 34, 44, 32, 87, 47, 34, 98, 34]⟩ w)
  have HS := Lib.hid (fun (v : ByteArray) (W : World) => estrong_any v W)
  have HU : Hid (∀ (v : Value) (W : World), IsFlds W v [(nINM, exE)] → Calls Tryd.prog 38 #[v, .agg #[.bool false, .string ⟨#[98]⟩, .bool true, .int .i64 0, .bool false], .int .i64 0] W fun e w' => e = .returned (.bool true) ∧ Below W.heap.size W w') := fun v W hs => by
    have := unchT_any v [(nINM, exE)] ⟨false, [98], true, 0, false⟩ 0 W hs (by decide) (by decide) (by rw [exE_all]; decide)
    rw [exE_all, exE_b] at this
    exact this
  have HU2 : Hid (∀ (v : Value) (W : World), IsFlds W v [(nINM, exE)] → Calls Tryd.prog 38 #[v, .agg #[.bool false, .string ⟨#[99]⟩, .bool true, .int .i64 0, .bool false], .int .i64 0] W fun e w' => e = .returned (.bool false) ∧ Below W.heap.size W w') := fun v W hs => by
    have := unchT_any v [(nINM, exE)] ⟨false, [99], true, 0, false⟩ 0 W hs (by decide) (by decide) (by rw [exE_all]; decide)
    rw [exE_all, exE_c] at this
    exact this
  go_enter Tryd.func17, Tryd.ntmps17
  go_wp2_with fail
  refine HO.out.mono ?_
  rintro e w1 ⟨rfl, hb⟩
  have hfl : IsFlds (w1.alloc (.cells #[.string ⟨#[73, 102, 45, 78, 111, 110, 101, 45, 77, 97, 116, 99, 104]⟩, .string ⟨#[34, 97, 34, 44, 32, 87, 47, 34, 98, 34]⟩] 57)) (.slice (some ⟨w1.heap.size, 0, none⟩) 1 1) [(nINM, exE)] := isFlds_litE w1 nINM exE
  have HF1 := Lib.hid hfl
  have HB1 := Lib.hid (hb.trans (((Below.refl w1.heap.size w1).alloc (Nat.le_refl _) (.cells #[.string ⟨#[73, 102, 45, 78, 111, 110, 101, 45, 77, 97, 116, 99, 104]⟩, .string ⟨#[34, 97, 34, 44, 32, 87, 47, 34, 98, 34]⟩] 57)).mono hb.size))
  clear hb hfl
  go_wp2_with fail
  refine (HS.out _ _).mono ?_
  rintro e w2 ⟨rfl, hb⟩
  have HF2 := Lib.hid (isFlds_below HF1.out hb)
  have HB2 := Lib.hid (HB1.out.trans (hb.mono HB1.out.size))
  clear hb
  go_wp2_with fail
  refine (HU.out _ _ HF2.out).mono ?_
  rintro e w3 ⟨rfl, hb⟩
  have HF3 := Lib.hid (isFlds_below HF2.out hb)
  have HB3 := Lib.hid (HB2.out.trans (hb.mono HB2.out.size))
  clear hb
  go_wp2_with fail
  refine (HS.out _ _).mono ?_
  rintro e w4 ⟨rfl, hb⟩
  have HF4 := Lib.hid (isFlds_below HF3.out hb)
  have HB4 := Lib.hid (HB3.out.trans (hb.mono HB3.out.size))
  clear hb
  go_wp2_with fail
  refine (HU2.out _ _ HF4.out).mono ?_
  rintro e w5 ⟨rfl, hb⟩
  have HB5 := Lib.hid (HB4.out.trans (hb.mono HB4.out.size))
  clear hb
  go_wp2_with fail
  go_ret
  exact ⟨rfl, HB5.out⟩
end Tk
end Go.Proofs.YtajmheblbnodjaaDoor
