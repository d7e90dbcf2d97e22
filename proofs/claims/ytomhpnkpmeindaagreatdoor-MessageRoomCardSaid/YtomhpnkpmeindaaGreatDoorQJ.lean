/- MsgU MsgV MsgW MsgX, put together. -/
import Derived.Test.YtomhpnkpmeindaaGreatDoorQI
import Derived.Test.YtomhpnkpmeindaaGreatDoorQD
namespace Go.Proofs.YtomhpnkpmeindaaGreatDoor
open Go.RowKit
namespace Tk

variable {B b : Nat} {s : Pr} {q z lf : Nat} {V : PV} {w : World}
theorem wait_eq {s : Pr} {q : Nat} (hq : s.bad = 0 → q = s.mode) : (decide (q = 7) && decide (s.bad = 0)) = waitP s := by
  unfold waitP
  by_cases hb : s.bad = 0
  · rw [hq hb]
  · simp [hb]

set_option maxHeartbeats 2000000 in
set_option maxRecDepth 100000 in
theorem pnext_no (h : Sync B b s V w) (hw : waitP s = false) :
    Calls Tryz.prog 15 #[ptr b] w fun e w' => e = .returned (.tuple #[.agg nxZ.toArray, .bool false]) ∧ Below w.heap.size w w' := by
  obtain ⟨q, hq, hqm, h⟩ := h
  obtain ⟨Z, hZ⟩ : ∃ Z, Z = w.alloc (.cells nxZ.toArray 37) := ⟨_, rfl⟩
  have hZb : Below w.heap.size w Z := by rw [hZ]; exact (Below.refl _ _).alloc (Nat.le_refl _) _
  have HM := Lib.hid (pmade_any (h.below hZb))
  have HW := Lib.hid (pwaits_any (h.below hZb) hq)
  rw [wait_eq hqm, hw] at HW
  have HZb := Lib.hid hZb
  have hblk0 : Z.heap[w.heap.size]? = some (.cells nxZ.toArray 37 (0, 0)) := by rw [hZ]; exact heap_alloc_last w _
  have g0 : Z.cell? ⟨w.heap.size, 0, none⟩ = some (.string ⟨#[]⟩) := by rw [Lib.cell_of_heap hblk0]; rfl
  have g1 : Z.cell? ⟨w.heap.size, 1, none⟩ = some (.string ⟨#[]⟩) := by rw [Lib.cell_of_heap hblk0]; rfl
  have g2 : Z.cell? ⟨w.heap.size, 2, none⟩ = some (.int .i64 0) := by rw [Lib.cell_of_heap hblk0]; rfl
  have g3 : Z.cell? ⟨w.heap.size, 3, none⟩ = some (.string ⟨#[]⟩) := by rw [Lib.cell_of_heap hblk0]; rfl
  have g4 : Z.cell? ⟨w.heap.size, 4, none⟩ = some (.int .i64 0) := by rw [Lib.cell_of_heap hblk0]; rfl
  have g5 : Z.cell? ⟨w.heap.size, 5, none⟩ = some (.slice none 0 0) := by rw [Lib.cell_of_heap hblk0]; rfl
  have g6 : Z.cell? ⟨w.heap.size, 6, none⟩ = some (.string ⟨#[]⟩) := by rw [Lib.cell_of_heap hblk0]; rfl
  have g7 : Z.cell? ⟨w.heap.size, 7, none⟩ = some (.slice none 0 0) := by rw [Lib.cell_of_heap hblk0]; rfl
  have z0 := Lib.frozen_of_heap hblk0 0
  have z1 := Lib.frozen_of_heap hblk0 1
  have z2 := Lib.frozen_of_heap hblk0 2
  have z3 := Lib.frozen_of_heap hblk0 3
  have z4 := Lib.frozen_of_heap hblk0 4
  have z5 := Lib.frozen_of_heap hblk0 5
  have z6 := Lib.frozen_of_heap hblk0 6
  have z7 := Lib.frozen_of_heap hblk0 7
  have HBl := Lib.hid (show ∀ W : World, Below w.heap.size w W → Below w.heap.size w (W.setCells w.heap.size 0 nxZ) from fun W hb => by
    obtain ⟨r1, r2, r3, r4⟩ := setCells_rest w.heap.size nxZ 0 W
    exact hb.trans ⟨r2, r3, r4, Nat.le_of_eq r1.symm, fun k hk => setCells_other _ _ 0 W k (by omega)⟩)
  have HZk := Lib.hid hblk0
  clear h hw hqm hq hZb hblk0
  unfold ptr at *
  go_enter Tryz.func15, Tryz.ntmps15
  go_wp2_with fail
  rw [show w.alloc (.cells #[.string ⟨#[]⟩, .string ⟨#[]⟩, .int .i64 0, .string ⟨#[]⟩, .int .i64 0, .slice none 0 0, .string ⟨#[]⟩, .slice none 0 0] 37) = Z from hZ.symm]
  clear hZ
  refine HM.out.mono ?_
  rintro e w' ⟨rfl, rfl⟩
  go_wp2_with fail
  refine HW.out.mono ?_
  rintro e w' ⟨rfl, rfl⟩
  have hPut := setCells_blk w.heap.size 37 nxZ 0 w' _ HZk.out (by show 8 ≤ 8; omega)
  have y0 : (w'.setCells w.heap.size 0 nxZ).cell? ⟨w.heap.size, 0, none⟩ = some (.string ⟨#[]⟩) := by rw [Lib.cell_of_heap hPut]; rfl
  have y1 : (w'.setCells w.heap.size 0 nxZ).cell? ⟨w.heap.size, 1, none⟩ = some (.string ⟨#[]⟩) := by rw [Lib.cell_of_heap hPut]; rfl
  have y2 : (w'.setCells w.heap.size 0 nxZ).cell? ⟨w.heap.size, 2, none⟩ = some (.int .i64 0) := by rw [Lib.cell_of_heap hPut]; rfl
  have y3 : (w'.setCells w.heap.size 0 nxZ).cell? ⟨w.heap.size, 3, none⟩ = some (.string ⟨#[]⟩) := by rw [Lib.cell_of_heap hPut]; rfl
  have y4 : (w'.setCells w.heap.size 0 nxZ).cell? ⟨w.heap.size, 4, none⟩ = some (.int .i64 0) := by rw [Lib.cell_of_heap hPut]; rfl
  have y5 : (w'.setCells w.heap.size 0 nxZ).cell? ⟨w.heap.size, 5, none⟩ = some (.slice none 0 0) := by rw [Lib.cell_of_heap hPut]; rfl
  have y6 : (w'.setCells w.heap.size 0 nxZ).cell? ⟨w.heap.size, 6, none⟩ = some (.string ⟨#[]⟩) := by rw [Lib.cell_of_heap hPut]; rfl
  have y7 : (w'.setCells w.heap.size 0 nxZ).cell? ⟨w.heap.size, 7, none⟩ = some (.slice none 0 0) := by rw [Lib.cell_of_heap hPut]; rfl
  have HN := Lib.hid (HBl.out _ HZb.out)
  generalize hW9 : w'.setCells w.heap.size 0 nxZ = W9 at y0 y1 y2 y3 y4 y5 y6 y7 HN
  have HW8 := Lib.hid hW9
  clear hW9 hPut
  go_wp2_with fail
  refine bodyPost_at (W := W9) HW8.out ?_
  refine bodyPost_ret (v := .tuple #[.agg #[.string ⟨#[]⟩, .string ⟨#[]⟩, .int .i64 0, .string ⟨#[]⟩, .int .i64 0, .slice none 0 0, .string ⟨#[]⟩, .slice none 0 0], .bool false]) ?_ rfl ⟨rfl, HN.out⟩
  simp [results, Tryz.results15, go_sem, y0, y1, y2, y3, y4, y5, y6, y7]

theorem end_idle {s : Pr} (h1 : conP s = false ∨ s.kind ≠ 4) (h2 : leftP s = 0 ∨ s.bad ≠ 0) : endP s = s := by
  unfold endP
  rw [if_neg, if_neg]
  · rcases h2 with h2 | h2 <;> simp [h2]
  · rcases h1 with h1 | h1 <;> simp [h1]
theorem end_400 {s : Pr} (h1 : conP s = false ∨ s.kind ≠ 4) (h2 : 0 < leftP s) (h3 : s.bad = 0) : endP s = { s with bad := 400 } := by
  unfold endP
  rw [if_neg, if_pos]
  · simp [h2, h3]
  · rcases h1 with h1 | h1 <;> simp [h1]
theorem con_stop (s : Pr) : conP s = !stopP s := by
  unfold conP stopP
  by_cases h7 : s.mode = 7
  · simp [h7]
  · by_cases hb : s.bad = 0
    · cases s.rsp <;> simp [h7, hb]
    · simp [hb]

set_option maxHeartbeats 4000000 in
set_option maxRecDepth 100000 in
theorem pend_any {n : Nat} (h : Sync B b s V w) (ho : s.Ok n) (hr : Rq s) :
    Calls Tryz.prog 16 #[ptr b] w fun e w' => e = .returned (.int .i64 (endP s).bad) ∧ SyncTo B b (endP s) V w w' := by
  obtain ⟨q, hq, hqm, h⟩ := h
  have HM := Lib.hid (pmade_any h)
  have HC := Lib.hid (pconsumes_any h hq)
  rw [consP_rq hr.rq hqm] at HC
  have HL := Lib.hid (pleft_any h hq)
  have hlf : (if q = 7 ∧ s.bad = 0 then 0 else s.left) = leftP s := by
    unfold leftP
    rw [← wait_eq hqm]
    by_cases h1 : q = 7 <;> by_cases h2 : s.bad = 0 <;> simp [h1, h2]
  rw [hlf] at HL
  have c7 : w.cell? ⟨b, 7, none⟩ = some (.int .i64 s.bad) := h.cell 7 _ rfl
  have c20 : w.cell? ⟨b, 20, none⟩ = some (.int .i64 s.kind) := h.cell 20 _ rfl
  have f7 := h.frz 7
  have hk4 : conP s = false ∨ s.kind ≠ 4 := by
    cases hs : stopP s
    · exact .inr (ho.ord.kind hr.m5 (not_stop hs).1)
    · left; rw [con_stop, hs]; rfl
  have hk4i : stopP s = false → ((s.kind : Int) == 4) = false := fun hs => by
    have := ho.ord.kind hr.m5 (not_stop hs).1
    simp; omega
  have HS0 := Lib.hid (show SyncTo B b s V w w from ⟨V, ⟨q, hq, hqm, h⟩, PTn.refl⟩)
  have HS4 := Lib.hid (show SyncTo B b { s with bad := 400 } V w (w.setCell ⟨b, 7, none⟩ (.int .i64 400)) from ⟨V, ⟨q, hq, fun e => absurd (show (400 : Nat) = 0 from e) (by omega), h.set 7 (.int .i64 400) { s with bad := 400 } q 400 s.left rfl rfl rfl rfl rfl rfl (fun e => ⟨e, rfl⟩)⟩, PTn.set 7 _⟩)
  have HK := Lib.hid hk4
  clear h ho hr hq hqm hlf hk4
  unfold ptr at *
  by_cases hl0 : leftP s = 0
  · have he := end_idle HK.out (.inl hl0)
    rw [he]
    rw [hl0] at HL
    clear he hl0 HS4 f7
    cases hs : stopP s
    · have hki := hk4i hs
      rw [hs] at HC
      clear hk4i hs
      go_enter Tryz.func16, Tryz.ntmps16
      go_wp2_with fail
      refine HM.out.mono ?_
      rintro e w' ⟨rfl, rfl⟩
      go_wp2_with fail
      refine HC.out.mono ?_
      rintro e w' ⟨rfl, rfl⟩
      go_wp2_with fail
      refine HL.out.mono ?_
      rintro e w' ⟨rfl, rfl⟩
      go_wp2_with fail
      go_ret
      exact ⟨rfl, HS0.out⟩
    · rw [hs] at HC
      clear hk4i hs
      go_enter Tryz.func16, Tryz.ntmps16
      go_wp2_with fail
      refine HM.out.mono ?_
      rintro e w' ⟨rfl, rfl⟩
      go_wp2_with fail
      refine HC.out.mono ?_
      rintro e w' ⟨rfl, rfl⟩
      go_wp2_with fail
      refine HL.out.mono ?_
      rintro e w' ⟨rfl, rfl⟩
      go_wp2_with fail
      go_ret
      exact ⟨rfl, HS0.out⟩
  · have hlp : (0 : Int) < ((leftP s : Nat) : Int) := by omega
    by_cases hb : s.bad = 0
    · have he := end_400 HK.out (by omega) hb
      rw [he]
      have hst : stopP s = false ∨ stopP s = true := by cases stopP s <;> simp
      have hbz : ((s.bad : Int) == 0) = true := by simp [hb]
      clear he hl0 HS0 hb
      show Calls _ _ _ _ fun e w' => e = .returned (.int .i64 ((400 : Nat) : Int)) ∧ SyncTo B b { s with bad := 400 } V w w'
      generalize leftP s = lp at *
      generalize s.bad = bd at *
      rcases hst with hs | hs
      · have hki := hk4i hs
        rw [hs] at HC
        clear hk4i hs
        go_enter Tryz.func16, Tryz.ntmps16
        go_wp2_with fail
        refine HM.out.mono ?_
        rintro e w' ⟨rfl, rfl⟩
        go_wp2_with fail
        refine HC.out.mono ?_
        rintro e w' ⟨rfl, rfl⟩
        go_wp2_with fail
        refine HL.out.mono ?_
        rintro e w' ⟨rfl, rfl⟩
        go_wp2_with fail
        go_ret
        exact ⟨rfl, HS4.out⟩
      · rw [hs] at HC
        clear hk4i hs
        go_enter Tryz.func16, Tryz.ntmps16
        go_wp2_with fail
        refine HM.out.mono ?_
        rintro e w' ⟨rfl, rfl⟩
        go_wp2_with fail
        refine HC.out.mono ?_
        rintro e w' ⟨rfl, rfl⟩
        go_wp2_with fail
        refine HL.out.mono ?_
        rintro e w' ⟨rfl, rfl⟩
        go_wp2_with fail
        go_ret
        exact ⟨rfl, HS4.out⟩
    · have he := end_idle HK.out (.inr hb)
      rw [he]
      have hbz : ((s.bad : Int) == 0) = false := by simp [hb]
      have hs : stopP s = true := by unfold stopP; simp [hb]
      rw [hs] at HC
      clear he hl0 HS4 f7 hb hk4i hs
      generalize leftP s = lp at *
      go_enter Tryz.func16, Tryz.ntmps16
      go_wp2_with fail
      refine HM.out.mono ?_
      rintro e w' ⟨rfl, rfl⟩
      go_wp2_with fail
      refine HC.out.mono ?_
      rintro e w' ⟨rfl, rfl⟩
      go_wp2_with fail
      refine HL.out.mono ?_
      rintro e w' ⟨rfl, rfl⟩
      go_wp2_with fail
      go_ret
      exact ⟨rfl, HS0.out⟩

theorem sameFs_self : ∀ l : List (Bs × Bs), sameFs l l = true
  | [] => rfl
  | f :: t => by simp [sameFs, eqF, sameFs_self t]
set_option maxHeartbeats 4000000 in
set_option maxRecDepth 100000 in
/-- messages that are equal -/
theorem msame_self (m : Msg) (v1 v2 u1 u2 : Value) (w : World) (h1 : IsFlds w v1 m.f) (h2 : IsFlds w u1 m.f) (h3 : IsFlds w v2 m.tr) (h4 : IsFlds w u2 m.tr)
    (hz : ∀ f ∈ m.f, f.1.length ≤ 1099511627776) (hl : m.f.length ≤ 1099511627) (hz2 : ∀ f ∈ m.tr, f.1.length ≤ 1099511627776) (hl2 : m.tr.length ≤ 1099511627) :
    Calls Tryz.prog 17 #[.agg (msgL m v1 v2).toArray, .agg (msgL m u1 u2).toArray] w fun e w' => e = .returned (.bool true) ∧ Below w.heap.size w w' := by
  have HF := Lib.hid (fun (W : World) (hb : Below w.heap.size w W) => fsame_any v1 u1 m.f m.f W (isFlds_below h1 hb) (isFlds_below h2 hb) (fun f hf => hz f (by rcases hf with h | h <;> exact h)) hl hl)
  have HG := Lib.hid (fun (W : World) (hb : Below w.heap.size w W) => fsame_any v2 u2 m.tr m.tr W (isFlds_below h3 hb) (isFlds_below h4 hb) (fun f hf => hz2 f (by rcases hf with h | h <;> exact h)) hl2 hl2)
  rw [sameFs_self] at HF HG
  obtain ⟨a1, k1, rfl⟩ : ∃ a c, v1 = .slice a m.f.length c := by obtain ⟨a, c, h, -⟩ := h1; exact ⟨a, c, h⟩
  obtain ⟨a2, k2, rfl⟩ : ∃ a c, u1 = .slice a m.f.length c := by obtain ⟨a, c, h, -⟩ := h2; exact ⟨a, c, h⟩
  obtain ⟨a3, k3, rfl⟩ : ∃ a c, v2 = .slice a m.tr.length c := by obtain ⟨a, c, h, -⟩ := h3; exact ⟨a, c, h⟩
  obtain ⟨a4, k4, rfl⟩ : ∃ a c, u2 = .slice a m.tr.length c := by obtain ⟨a, c, h, -⟩ := h4; exact ⟨a, c, h⟩
  clear h1 h2 h3 h4 hz hl hz2 hl2
  have e1 : ((mkS m.m).toList == (mkS m.m).toList) = true := by simp
  have e2 : ((mkS m.t).toList == (mkS m.t).toList) = true := by simp
  have e3 : ((mkS m.r).toList == (mkS m.r).toList) = true := by simp
  have e4 : ((mkS m.body).toList == (mkS m.body).toList) = true := by simp
  have e5 : ((m.st : Int) == (m.st : Int)) = true := by simp
  have e6 : ((m.mi : Int) == (m.mi : Int)) = true := by simp
  show Calls _ _ #[.agg #[.string (mkS m.m), .string (mkS m.t), .int .i64 m.st, .string (mkS m.r), .int .i64 m.mi, .slice a1 m.f.length k1, .string (mkS m.body), .slice a3 m.tr.length k3], .agg #[.string (mkS m.m), .string (mkS m.t), .int .i64 m.st, .string (mkS m.r), .int .i64 m.mi, .slice a2 m.f.length k2, .string (mkS m.body), .slice a4 m.tr.length k4]] _ _
  generalize mkS m.m = x1 at *
  generalize mkS m.t = x2 at *
  generalize mkS m.r = x3 at *
  generalize mkS m.body = x4 at *
  generalize (m.st : Int) = y1 at *
  generalize (m.mi : Int) = y2 at *
  generalize m.f.length = n1 at *
  generalize m.tr.length = n2 at *
  go_enter Tryz.func17, Tryz.ntmps17
  have hB : Below w.heap.size w ((w.alloc (.cells #[.string x1, .string x2, .int .i64 y1, .string x3, .int .i64 y2, .slice a1 n1 k1, .string x4, .slice a3 n2 k3] 37)).alloc (.cells #[.string x1, .string x2, .int .i64 y1, .string x3, .int .i64 y2, .slice a2 n1 k2, .string x4, .slice a4 n2 k4] 37)) := ((Below.refl _ _).alloc (Nat.le_refl _) _).alloc (by simp) _
  have HB := Lib.hid hB
  have hw0 : (w.alloc (.cells #[.string x1, .string x2, .int .i64 y1, .string x3, .int .i64 y2, .slice a1 n1 k1, .string x4, .slice a3 n2 k3] 37)).heap.size = w.heap.size + 1 := by simp
  have u7 : ((w.alloc (.cells #[.string x1, .string x2, .int .i64 y1, .string x3, .int .i64 y2, .slice a1 n1 k1, .string x4, .slice a3 n2 k3] 37)).alloc (.cells #[.string x1, .string x2, .int .i64 y1, .string x3, .int .i64 y2, .slice a2 n1 k2, .string x4, .slice a4 n2 k4] 37)).cell? ⟨w.heap.size, 7, none⟩ = some (.slice a3 n2 k3) := by rw [(Below.refl (w.alloc (.cells #[.string x1, .string x2, .int .i64 y1, .string x3, .int .i64 y2, .slice a1 n1 k1, .string x4, .slice a3 n2 k3] 37)).heap.size (w.alloc (.cells #[.string x1, .string x2, .int .i64 y1, .string x3, .int .i64 y2, .slice a1 n1 k1, .string x4, .slice a3 n2 k3] 37)) |>.alloc (Nat.le_refl _) _).cell (p := ⟨w.heap.size, 7, none⟩) (by show w.heap.size < _; omega), Lib.cell_of_heap (heap_alloc_last w _)]; rfl
  have v7 : ((w.alloc (.cells #[.string x1, .string x2, .int .i64 y1, .string x3, .int .i64 y2, .slice a1 n1 k1, .string x4, .slice a3 n2 k3] 37)).alloc (.cells #[.string x1, .string x2, .int .i64 y1, .string x3, .int .i64 y2, .slice a2 n1 k2, .string x4, .slice a4 n2 k4] 37)).cell? ⟨w.heap.size + 1, 7, none⟩ = some (.slice a4 n2 k4) := by rw [← hw0, Lib.cell_of_heap (heap_alloc_last (w.alloc (.cells #[.string x1, .string x2, .int .i64 y1, .string x3, .int .i64 y2, .slice a1 n1 k1, .string x4, .slice a3 n2 k3] 37)) _)]; rfl
  clear hB hw0
  go_wp2_with fail
  refine (HF.out _ HB.out).mono ?_
  rintro e w2 ⟨rfl, hb2⟩
  have u8 := (hb2.cell (cell_lt u7)).trans u7
  have v8 := (hb2.cell (cell_lt v7)).trans v7
  have HB2 := Lib.hid (HB.out.trans (hb2.mono HB.out.size))
  clear hb2 u7 v7
  go_wp2_with fail
  refine (HG.out _ HB2.out).mono ?_
  rintro e w3 ⟨rfl, hb3⟩
  have HB3 := Lib.hid (HB2.out.trans (hb3.mono HB2.out.size))
  clear hb3
  go_wp2_with fail
  go_ret
  exact ⟨rfl, HB3.out⟩
end Tk
end Go.Proofs.YtomhpnkpmeindaaGreatDoor
namespace Go.Proofs.YtomhpnkpmeindaaGreatDoor
open Go.RowKit
namespace Tk

/-- a message and the rows of its fields and trailers -/
abbrev MV := Msg × Value × Value
def mcells (Vs : List MV) : List Value := Vs.flatMap fun x => msgL x.1 x.2.1 x.2.2
theorem msgL_len (m : Msg) (v u : Value) : (msgL m v u).length = 8 := rfl
theorem mcells_len : ∀ Vs : List MV, (mcells Vs).length = Vs.length * 8
  | [] => rfl
  | x :: t => by
    have := mcells_len t
    unfold mcells at *
    rw [List.flatMap_cons, List.length_append, this, msgL_len, List.length_cons]; omega
theorem mcells_snoc (Vs : List MV) (x : MV) : mcells (Vs ++ [x]) = mcells Vs ++ msgL x.1 x.2.1 x.2.2 := by unfold mcells; simp
theorem msgInfo : (Tryz.prog.info? 37).map (fun i => (i.zero, i.size, i.bytes)) = some (some (.agg #[.string .empty, .string .empty, .int .i64 0, .string .empty, .int .i64 0, .slice none 0 0, .string .empty, .slice none 0 0]), 8, 128) := by kernel_rfl

structure MsgR (B : Nat) (w : World) (x : MV) : Prop where
  f : w.ownsRow B 82 2 x.2.1 x.1.f.length (fcells x.1.f)
  t : w.ownsRow B 82 2 x.2.2 x.1.tr.length (fcells x.1.tr)
/-- a list of messages -/
structure Msgs (B : Nat) (w : World) (v : Value) (Vs : List MV) : Prop where
  own : w.ownsRow B 37 8 v Vs.length (mcells Vs)
  each : ∀ x ∈ Vs, MsgR B w x
def MBlk (v : Value) (Vs : List MV) (k : Nat) : Prop := v.ownBlock = some k ∨ ∃ x ∈ Vs, x.2.1.ownBlock = some k ∨ x.2.2.ownBlock = some k
/-- it shares nothing with a parser -/
def MAp (b : Nat) (V : PV) (v : Value) (Vs : List MV) : Prop := ∀ k, MBlk v Vs k → ¬ PMine b V k

variable {B b : Nat} {s : Pr} {q z lf : Nat} {V V' : PV} {w w' w2 : World} {v v' : Value} {Vs : List MV}
theorem MsgR.same {x : MV} (h : MsgR B w x) (hk : ∀ k, x.2.1.ownBlock = some k ∨ x.2.2.ownBlock = some k → w'.heap[k]? = w.heap[k]?) : MsgR B w' x :=
  ⟨own_heap h.f fun k e => hk k (.inl e), own_heap h.t fun k e => hk k (.inr e)⟩
theorem Msgs.same (h : Msgs B w v Vs) (hk : ∀ k, MBlk v Vs k → w'.heap[k]? = w.heap[k]?) : Msgs B w' v Vs :=
  ⟨own_heap h.own fun k e => hk k (.inl e), fun x hx => (h.each x hx).same fun k e => hk k (.inr ⟨x, hx, e⟩)⟩
theorem Msgs.lt (h : Msgs B w v Vs) (k : Nat) (hk : MBlk v Vs k) : B ≤ k ∧ k < w.heap.size := by
  rcases hk with hk | ⟨x, hx, hk | hk⟩
  · exact h.own.lt k hk
  · exact (h.each x hx).f.lt k hk
  · exact (h.each x hx).t.lt k hk
theorem Msgs.below (h : Msgs B w v Vs) (hb : Below w.heap.size w w') : Msgs B w' v Vs := h.same fun k hk => hb.block k (h.lt k hk).2
theorem Msgs.draws (h : Msgs B w v Vs) (n : Nat) : Msgs B (w.drewN n) v Vs := h.below ⟨rfl, rfl, rfl, Nat.le_refl _, fun _ _ => rfl⟩
theorem Msgs.nil (B : Nat) (w : World) : Msgs B w (.slice none 0 0) [] := ⟨World.ownsRow_nil _ _ _ _, fun x hx => by cases hx⟩
theorem MAp.nil (b : Nat) (V : PV) : MAp b V (.slice none 0 0) [] := fun k hk => by
  rcases hk with hk | ⟨x, hx, _⟩
  · cases hk
  · cases hx
theorem Msgs.turn (h : Msgs B w v Vs) (hap : MAp b V v Vs) (ht : PTn b V V' (fun _ => False) w w') : Msgs B w' v Vs ∧ MAp b V' v Vs := by
  refine ⟨h.same fun k hk => ht.block k (h.lt k hk).2 (hap k hk) (fun e => e), fun k hk hm => ?_⟩
  rcases ht.new k hm with h1 | h1
  · exact hap k hk h1
  · have := (h.lt k hk).2; omega
theorem Msgs.next (h : Msgs B w v Vs) (hap : MAp b V v Vs) (hp : Par B b s q z lf V w) (hn : NxPost B b s V w w') :
    ∃ V', Sync B b s.fresh V' w' ∧ PTn b V V' (fun _ => False) w w' ∧ Msgs B w' v Vs ∧ MAp b V' v Vs ∧ MsgR B w' (s.msg, V.f, V.t) ∧ ∀ k, V.f.ownBlock = some k ∨ V.t.ownBlock = some k → ¬ PMine b V' k := by
  obtain ⟨V', h1, h2, h3⟩ := hn
  obtain ⟨a1, a2⟩ := h.turn hap h2
  exact ⟨V', h1, h2, a1, a2, (show MsgR B w (s.msg, V.f, V.t) from ⟨hp.flds, hp.trl⟩).same fun k e => (h3 k e).2, fun k e => (h3 k e).1⟩
theorem Msgs.snoc (h : Msgs B w v Vs) (x : MV) (hx : MsgR B w x) (ho : w2.ownsRow B 37 8 v' (Vs.length + 1) (mcells Vs ++ msgL x.1 x.2.1 x.2.2)) (hg : w.grownBy w2 v.ownBlock) : Msgs B w2 v' (Vs ++ [x]) := by
  have hr : ∀ y, MsgR B w y → MsgR B w2 y := fun y hy => hy.same fun k e => hg.block k (by rcases e with e | e; exact (hy.f.lt k e).2; exact (hy.t.lt k e).2) (fun e2 => by
    rcases e with e | e
    · exact own_ne2 hy.f h.own (by decide) k e2.symm e
    · exact own_ne2 hy.t h.own (by decide) k e2.symm e)
  refine ⟨by rw [mcells_snoc, List.length_append]; exact ho, fun y hy => ?_⟩
  rcases List.mem_append.1 hy with hy | hy
  · exact hr y (h.each y hy)
  · simp at hy; subst hy; exact hr _ hx
theorem MAp.snoc (hap : MAp b V v Vs) (hp : Par B b s q z lf V w) (x : MV) (hx : ∀ k, x.2.1.ownBlock = some k ∨ x.2.2.ownBlock = some k → ¬ PMine b V k) (hst : Stay w v v') : MAp b V v' (Vs ++ [x]) := by
  rintro k (hk | ⟨y, hy, hk⟩) hm
  · rcases hst k hk with h1 | h1
    · exact hap k (.inl h1) hm
    · have := (hp.mineLt k hm).2; omega
  · rcases List.mem_append.1 hy with hy | hy
    · exact hap k (.inr ⟨y, hy, hk⟩) hm
    · simp at hy; subst hy; exact hx k hk hm
theorem Par.grownBy (h : Par B b s q z lf V w) (hap : MAp b V v Vs) (hg : w.grownBy w2 v.ownBlock) : Par B b s q z lf V w2 :=
  h.same hg.size fun k hk => hg.block k (h.mineLt k hk).2 fun e => hap k (.inl e.symm) hk
theorem Sync.grownBy (h : Sync B b s V w) (hap : MAp b V v Vs) (hg : w.grownBy w2 v.ownBlock) : Sync B b s V w2 := by
  obtain ⟨q, h1, h2, h3⟩ := h
  exact ⟨q, h1, h2, h3.grownBy hap hg⟩
theorem Sync.below (h : Sync B b s V w) (hb : Below w.heap.size w w') : Sync B b s V w' := by
  obtain ⟨q, h1, h2, h3⟩ := h
  exact ⟨q, h1, h2, h3.below hb⟩
theorem Sync.par (h : Sync B b s V w) : ∃ q, Par B b s q s.bad s.left V w := by obtain ⟨q, _, _, h⟩ := h; exact ⟨q, h⟩
theorem Sync.toBelow (h : Sync B b s V w) (ht : PTn b V V' (fun _ => False) w w') : Below B w w' := by
  obtain ⟨q, _, _, h⟩ := h
  exact ht.toBelow h fun k e => e.elim
/-- a message of a list -/
theorem Msgs.get (h : Msgs B w v Vs) (i : Nat) (x : MV) (hi : Vs[i]? = some x) :
    ∃ g cap, v = .slice (some ⟨g, 0, none⟩) Vs.length cap ∧ Vs.length ≤ cap ∧ (∀ j u, (msgL x.1 x.2.1 x.2.2)[j]? = some u → w.cell? ⟨g, i * 8 + j, none⟩ = some u) ∧ IsFlds w x.2.1 x.1.f ∧ IsFlds w x.2.2 x.1.tr := by
  have hil := (List.getElem?_eq_some_iff.1 hi).1
  have hr := h.each x (List.mem_of_getElem? hi)
  rcases h.own.2 with ⟨_, h0⟩ | ⟨g, cap, cur, hv, hb, hg, hnc, hcm, hcs, ht⟩
  · omega
  · refine ⟨g, cap, hv, hnc, fun j u hu => ?_, isFlds_own hr.f, isFlds_own hr.t⟩
    have hj : j < 8 := (List.getElem?_eq_some_iff.1 hu).1
    have hm : (mcells Vs)[i * 8 + j]? = some u := by
      have hs : Vs = Vs.take i ++ x :: Vs.drop (i + 1) := by
        have e := List.getElem_of_getElem? hi
        rw [← (List.getElem?_eq_some_iff.1 hi).2, List.getElem_cons_drop, List.take_append_drop]
      have hl := mcells_len (Vs.take i)
      rw [List.length_take, Nat.min_eq_left (by omega)] at hl
      rw [hs]
      unfold mcells at hl ⊢
      rw [List.flatMap_append, List.flatMap_cons, List.getElem?_append_right (by omega), hl, show i * 8 + j - i * 8 = j by omega, List.getElem?_append_left (by rw [msgL_len]; exact hj)]
      exact hu
    rw [← ht, List.getElem?_take] at hm
    split at hm
    · rw [Lib.cell_of_heap hg, ← Array.getElem?_toList]
      exact hm
    · cases hm

theorem Msgs.val {B : Nat} {w : World} {v : Value} {Vs : List MV} (h : Msgs B w v Vs) : ∃ a cap, v = .slice a Vs.length cap := by
  rcases h.own.2 with ⟨hv, h0⟩ | ⟨g, cap, cur, hv, _⟩
  · exact ⟨none, 0, by rw [hv, h0]⟩
  · exact ⟨_, _, hv⟩

theorem go_rq : ∀ (l : Bs) (s : Pr), Rq s → Rq (goP s l).2
  | [], s, h => h
  | c :: t, s, h => by
    cases hs : stopP s
    · rw [goP_cons s c t hs]
      have h1 : Rq (stepP s c) := ⟨(stepP_lim s c).2.2.2.2.1.trans h.rq, stepP_m2 c h.m2, stepP_m5 c h.rq h.m5⟩
      split
      · exact go_rq t _ (fresh_rq h1.rq)
      · exact go_rq t _ h1
    · rw [goP_stop s _ hs]; exact h
theorem Pr.Ok.self {s : Pr} {n : Nat} (h : s.Ok n) : s.Ok s.left := ⟨{ h.fit with left := Nat.le_refl _ }, h.ord, h.lim⟩
/-- all that was not fed yet is fed -/
theorem all_step {s0 sp : Pr} {ms : List Msg} {b : Bs} {i : Nat} (h : goP s0 (b.take i) = (ms, sp)) (hr : Run sp) (hi : i ≤ b.length) :
    i + (feedP sp (b.drop i)).1 ≤ b.length ∧
    (waitP (feedP sp (b.drop i)).2 = true → 1 ≤ (feedP sp (b.drop i)).1 ∧ goP s0 (b.take (i + (feedP sp (b.drop i)).1)) = (ms ++ [(feedP sp (b.drop i)).2.msg], (feedP sp (b.drop i)).2.fresh)) ∧
    (waitP (feedP sp (b.drop i)).2 = false → allM s0 b = ms ∧ allS s0 b = (endP (feedP sp (b.drop i)).2).bad) := by
  have hle := feedP_le (b.drop i) sp
  rw [List.length_drop] at hle
  have e1 : (b.drop i).take (b.length - i) = b.drop i := List.take_of_length_le (by simp)
  by_cases hgo : stopP sp = false ∧ i < b.length
  · obtain ⟨h1, h2, h3⟩ := go_part h hgo.1 hgo.2 (Nat.le_refl _)
    rw [e1] at h1 h2 h3
    refine ⟨h3, fun hw => ⟨h2, ?_⟩, fun hw => ?_⟩
    · rw [h1]; unfold takeP; rw [if_pos hw]
    · have h4 : takeP (feedP sp (b.drop i)).2 = ([], (feedP sp (b.drop i)).2) := by unfold takeP; rw [if_neg (by simp [hw])]
      rw [h4, List.append_nil] at h1
      refine all_of h1 ?_
      cases hs : stopP (feedP sp (b.drop i)).2
      · right
        have := feedP_all _ _ hs
        rw [List.length_drop] at this
        omega
      · exact .inl rfl
  · have h0 : feedP sp (b.drop i) = (0, sp) := by
      cases hs : stopP sp
      · have hil : b.length ≤ i := by
          refine Nat.le_of_not_lt fun h => hgo ⟨hs, h⟩
        rw [List.drop_of_length_le hil]; rfl
      · exact feedP_stop _ _ hs
    rw [h0]
    refine ⟨by simpa using hi, fun hw => ?_, fun _ => all_of h ?_⟩
    · unfold Run at hr; rw [hr] at hw; cases hw
    · cases hs : stopP sp
      · right; exact Nat.le_of_not_lt fun h => hgo ⟨hs, h⟩
      · exact .inl rfl
end Tk
end Go.Proofs.YtomhpnkpmeindaaGreatDoor
namespace Go.Proofs.YtomhpnkpmeindaaGreatDoor
open Go.RowKit
namespace Tk

variable {B b : Nat} {s : Pr} {q z lf : Nat} {V V' : PV} {w w' w2 : World} {v v' : Value} {Vs : List MV}
/-- what All leaves -/
def AllPost (s0 : Pr) (b : Bs) (w : World) (e : Ending) (w' : World) : Prop := ∃ v Vs, e = .returned (.tuple #[v, .int .i64 (allS s0 b)]) ∧ Vs.map (·.1) = allM s0 b ∧ Msgs w.heap.size w' v Vs ∧ Below w.heap.size w w'

set_option maxHeartbeats 8000000 in
set_option maxRecDepth 100000 in
theorem pall_any (L H C M : Int) (l h c m : Nat) (t : ByteArray) (w : World) (hl : max L 0 = l) (hh : max H 0 = h) (hc : max C 0 = c) (hm : max M 0 = m) (hlim : LimP (newP l h c m false)) (ht : t.size ≤ 100000) (hv : ErrV w.heap.size w) :
    Calls Tryz.prog 10 #[.agg #[.int .i64 L, .int .i64 H, .int .i64 C, .int .i64 M], .string t] w (AllPost (newP l h c m false) (bs t) w) := by
  obtain ⟨i0, hi, hz0, hz1, hz2⟩ := info_parts msgInfo
  have HLen := Lib.hid (length_bs t)
  have hb0 : Below w.heap.size w (w.alloc (.cells #[.int .i64 L, .int .i64 H, .int .i64 C, .int .i64 M] 23)) := (Below.refl _ _).alloc (Nat.le_refl _) _
  have HB0 := Lib.hid hb0
  have HRq := Lib.hid (prequests_any L H C M l h c m w.heap.size (w.alloc (.cells #[.int .i64 L, .int .i64 H, .int .i64 C, .int .i64 M] 23)) hb0.size hl hh hc hm)
  have HOk0 := Lib.hid (new_ok l h c m false hlim)
  have HR0 := Lib.hid (new_rq l h c m)
  have HRun0 := Lib.hid (run_new l h c m false)
  obtain ⟨s0, hs0⟩ : ∃ s0, s0 = newP l h c m false := ⟨_, rfl⟩
  rw [← hs0] at HRq HOk0 HR0 HRun0 ⊢
  have HV := Lib.hid hv
  have HT := Lib.hid ht
  clear hl hh hc hm hlim hv hb0 hs0 ht
  go_enter Tryz.func10, Tryz.ntmps10
  go_wp2_with fail
  refine HRq.out.mono ?_
  rintro e w1 ⟨b, V, rfl, hbw, hsy, hbe⟩
  have HSy := Lib.hid hsy
  have HB1 := Lib.hid (HB0.out.trans (hbe.mono HB0.out.size))
  have HBb := Lib.hid (show w.heap.size ≤ b from Nat.le_trans HB0.out.size hbw)
  clear hsy hbe hbw HB0 HRq
  unfold ptr
  go_wp2_with fail
  go_loopw [1, 7] (fun v1 v7 wr => ∃ (i : Nat) (sp : Pr) (Vp : PV) (Vs : List MV) (tx : ByteArray), i ≤ t.size ∧ v1 = .string tx ∧ Hid (bs tx = (bs t).drop i) ∧ Hid (goP s0 ((bs t).take i) = (Vs.map (·.1), sp)) ∧ Hid (Run sp) ∧ Hid (Sync w.heap.size b sp Vp wr) ∧ Hid (Msgs w.heap.size wr v7 Vs) ∧ Hid (MAp b Vp v7 Vs) ∧ Hid (Below w.heap.size w wr)) (fun v1 _ _ => (match v1 with | .string x => x.size | _ => 0))
  case atStart => exact ⟨0, s0, V, [], t, Nat.zero_le _, rfl, Lib.hid rfl, Lib.hid rfl, HRun0, HSy, Lib.hid (Msgs.nil _ _), Lib.hid (MAp.nil _ _), HB1⟩
  case round =>
    obtain ⟨i, sp, Vp, Vs, tx, hi1, rfl, HTx, HGo, HRun, HSp, HMs, HAp, HB⟩ := hrel
    rename World => W
    obtain ⟨av, cv, rfl⟩ := HMs.out.val
    have hli : ((bs t).take i).length = i := by rw [List.length_take, HLen.out]; omega
    have hokp : sp.Ok i := by
      have h1 := go_ok ((bs t).take i) s0 0 HOk0.out
      rw [HGo.out, hli, Nat.zero_add] at h1
      exact h1
    have hrqp : Rq sp := by
      have h1 := go_rq ((bs t).take i) s0 HR0.out
      rw [HGo.out] at h1
      exact h1
    have hst := all_step HGo.out HRun.out (by rw [HLen.out]; exact hi1)
    have hlx : tx.size = t.size - i := by rw [← length_bs tx, HTx.out, List.length_drop, HLen.out]
    have hfd := pfeed_any tx HSp.out hokp.self hrqp (by have := hokp.fit.left; have := HT.out; omega) (HV.out.later HB.out)
    have hok2 := feedP_ok ((bs t).drop i) sp i hokp
    have hrq2 := feedP_rq ((bs t).drop i) sp hrqp
    rw [HTx.out] at hfd
    have hn := hst.1
    rw [HLen.out] at hn
    generalize hnn : (feedP sp ((bs t).drop i)).1 = n at *
    generalize hss : (feedP sp ((bs t).drop i)).2 = s2 at *
    have HFd := Lib.hid hfd
    have HSt := Lib.hid hst.2
    have HOk2 := Lib.hid hok2
    have HRq2 := Lib.hid hrq2
    have HN := Lib.hid hn
    have r0 : (0 : Int) ≤ (n : Int) := by omega
    have r1 : (n : Int) ≤ (tx.size : Int) := by omega
    have HTs := Lib.hid hlx
    clear hokp hli hrqp hst hlx hfd hok2 hrq2 hn hnn hss hi1
    unfold ptr at HFd
    go_wp2_with fail
    refine HFd.out.mono ?_
    rintro e w2 ⟨rfl, V2, hs2, ht2⟩
    obtain ⟨hm2, ha2⟩ := HMs.out.turn HAp.out ht2
    have HM2 := Lib.hid hm2
    have HA2 := Lib.hid ha2
    have HS2 := Lib.hid hs2
    have HB2 := Lib.hid (HB.out.trans (HSp.out.toBelow ht2))
    clear hm2 ha2 hs2 ht2 HMs HAp HSp HFd HB
    go_wp2_with fail
    cases hw : waitP s2
    · have hno := HSt.out.2 hw
      have HNo := Lib.hid hno
      have HNx := Lib.hid (pnext_no HS2.out hw)
      unfold ptr nxZ at HNx
      clear hw hno HSt
      refine HNx.out.mono ?_
      rintro e w3 ⟨rfl, hb30⟩
      have hb3 : Below w2.heap.size w2 (w3.alloc (.cells #[.string ⟨#[]⟩, .string ⟨#[]⟩, .int .i64 0, .string ⟨#[]⟩, .int .i64 0, .slice none 0 0, .string ⟨#[]⟩, .slice none 0 0] 37)) := hb30.alloc hb30.size _
      have HM3 := Lib.hid (HM2.out.below hb3)
      have HB3 := Lib.hid (HB2.out.trans (hb3.mono HB2.out.size))
      have HS3 := Lib.hid (HS2.out.below hb3)
      clear hb30 hb3 HM2 HB2 HS2 HNx
      go_wp2_with fail
      generalize w3.alloc (.cells #[.string ⟨#[]⟩, .string ⟨#[]⟩, .int .i64 0, .string ⟨#[]⟩, .int .i64 0, .slice none 0 0, .string ⟨#[]⟩, .slice none 0 0] 37) = w4 at *
      refine (pend_any HS3.out HOk2.out HRq2.out).mono ?_
      rintro e w5 ⟨rfl, V4, hs4, ht4⟩
      obtain ⟨hm4, -⟩ := HM3.out.turn HA2.out ht4
      have HM4 := Lib.hid hm4
      have HB4 := Lib.hid (HB3.out.trans (HS3.out.toBelow ht4))
      have HNo2 := Lib.hid (⟨HNo.out.1, HNo.out.2⟩ : _ ∧ _)
      clear hm4 hs4 ht4 HM3 HB3 HS3 HNo
      go_wp2_with fail
      go_ret2
      exact ⟨.slice av Vs.length cv, Vs, by rw [HNo2.out.2]; rfl, HNo2.out.1.symm, HM4.out, HB4.out⟩
    · have hyes := HSt.out.1 hw
      have HYes := Lib.hid hyes
      have HNx := Lib.hid (pnext_any HS2.out HRq2.out.rq hw)
      obtain ⟨a1, k1, hvf⟩ : ∃ a c, V2.f = .slice a s2.msg.f.length c := by obtain ⟨q, h⟩ := HS2.out.par; obtain ⟨a, c, hv, -⟩ := isFlds_own h.flds; exact ⟨a, c, hv⟩
      obtain ⟨a2, k2, hvt⟩ : ∃ a c, V2.t = .slice a s2.msg.tr.length c := by obtain ⟨q, h⟩ := HS2.out.par; obtain ⟨a, c, hv, -⟩ := isFlds_own h.trl; exact ⟨a, c, hv⟩
      have hmsg : (msgL s2.msg V2.f V2.t).toArray = #[.string (mkS s2.msg.m), .string (mkS s2.msg.t), .int .i64 s2.msg.st, .string (mkS s2.msg.r), .int .i64 s2.msg.mi, .slice a1 s2.msg.f.length k1, .string (mkS s2.msg.body), .slice a2 s2.msg.tr.length k2] := by unfold msgL; rw [hvf, hvt]
      rw [hmsg] at HNx
      have HMsg := Lib.hid hmsg
      unfold ptr at HNx
      clear hw hyes HSt hvf hvt hmsg
      refine HNx.out.mono ?_
      rintro e w3 ⟨rfl, hn3⟩
      obtain ⟨q2, hpar⟩ := HS2.out.par
      obtain ⟨V3, hs3, ht3, hm3, ha3, hr3, hd3⟩ := HM2.out.next HA2.out hpar hn3
      have hb5 : Below w3.heap.size w3 ((w3.alloc (.cells #[.string (mkS s2.msg.m), .string (mkS s2.msg.t), .int .i64 s2.msg.st, .string (mkS s2.msg.r), .int .i64 s2.msg.mi, .slice a1 s2.msg.f.length k1, .string (mkS s2.msg.body), .slice a2 s2.msg.tr.length k2] 37)).alloc (.cells #[.string (mkS s2.msg.m), .string (mkS s2.msg.t), .int .i64 s2.msg.st, .string (mkS s2.msg.r), .int .i64 s2.msg.mi, .slice a1 s2.msg.f.length k1, .string (mkS s2.msg.body), .slice a2 s2.msg.tr.length k2] 37)) := ((Below.refl _ _).alloc (Nat.le_refl _) _).alloc (by simp) _
      obtain ⟨x, hx⟩ : ∃ x : MV, x = (s2.msg, V2.f, V2.t) := ⟨_, rfl⟩
      have hcells : msgL x.1 x.2.1 x.2.2 = [.string (mkS s2.msg.m), .string (mkS s2.msg.t), .int .i64 s2.msg.st, .string (mkS s2.msg.r), .int .i64 s2.msg.mi, .slice a1 s2.msg.f.length k1, .string (mkS s2.msg.body), .slice a2 s2.msg.tr.length k2] := by rw [hx]; exact congrArg Array.toList HMsg.out
      rw [← hx] at hr3
      have HX := Lib.hid (show x.1 = s2.msg from by rw [hx])
      have hd4 : ∀ k, x.2.1.ownBlock = some k ∨ x.2.2.ownBlock = some k → ¬ PMine b V3 k := by rw [hx]; exact hd3
      have HS3 := Lib.hid (hs3.below hb5)
      have HM3 := Lib.hid (hm3.below hb5)
      have HA3 := Lib.hid ha3
      have HR3 := Lib.hid (hr3.same fun k e => hb5.block k (by rcases e with e | e; exact (hr3.f.lt k e).2; exact (hr3.t.lt k e).2))
      have HD3 := Lib.hid hd4
      have HB3 := Lib.hid ((HB2.out.trans (HS2.out.toBelow ht3)).trans (hb5.mono (HB2.out.trans (HS2.out.toBelow ht3)).size))
      have HC := Lib.hid hcells
      have hw4 : (w3.alloc (.cells #[.string (mkS s2.msg.m), .string (mkS s2.msg.t), .int .i64 s2.msg.st, .string (mkS s2.msg.r), .int .i64 s2.msg.mi, .slice a1 s2.msg.f.length k1, .string (mkS s2.msg.body), .slice a2 s2.msg.tr.length k2] 37)).heap.size = w3.heap.size + 1 := by simp
      have hc1 : ∀ j u, ([.string (mkS s2.msg.m), .string (mkS s2.msg.t), .int .i64 s2.msg.st, .string (mkS s2.msg.r), .int .i64 s2.msg.mi, .slice a1 s2.msg.f.length k1, .string (mkS s2.msg.body), .slice a2 s2.msg.tr.length k2] : List Value)[j]? = some u → ((w3.alloc (.cells #[.string (mkS s2.msg.m), .string (mkS s2.msg.t), .int .i64 s2.msg.st, .string (mkS s2.msg.r), .int .i64 s2.msg.mi, .slice a1 s2.msg.f.length k1, .string (mkS s2.msg.body), .slice a2 s2.msg.tr.length k2] 37)).alloc (.cells #[.string (mkS s2.msg.m), .string (mkS s2.msg.t), .int .i64 s2.msg.st, .string (mkS s2.msg.r), .int .i64 s2.msg.mi, .slice a1 s2.msg.f.length k1, .string (mkS s2.msg.body), .slice a2 s2.msg.tr.length k2] 37)).cell? ((⟨w3.heap.size + 1, 0, none⟩ : Addr).add j) = some u := by
        intro j u hj
        have h1 := heap_alloc_last (w3.alloc (.cells #[.string (mkS s2.msg.m), .string (mkS s2.msg.t), .int .i64 s2.msg.st, .string (mkS s2.msg.r), .int .i64 s2.msg.mi, .slice a1 s2.msg.f.length k1, .string (mkS s2.msg.body), .slice a2 s2.msg.tr.length k2] 37)) (Obj.cells #[.string (mkS s2.msg.m), .string (mkS s2.msg.t), .int .i64 s2.msg.st, .string (mkS s2.msg.r), .int .i64 s2.msg.mi, .slice a1 s2.msg.f.length k1, .string (mkS s2.msg.body), .slice a2 s2.msg.tr.length k2] 37)
        rw [hw4] at h1
        rw [show (⟨w3.heap.size + 1, 0, none⟩ : Addr).add j = ⟨w3.heap.size + 1, j, none⟩ by by_cases h0 : j = 0 <;> simp [Addr.add, h0]]
        rw [Lib.cell_of_heap h1, ← Array.getElem?_toList]
        exact hj
      have hc2 : ∀ u ∈ ([.string (mkS s2.msg.m), .string (mkS s2.msg.t), .int .i64 s2.msg.st, .string (mkS s2.msg.r), .int .i64 s2.msg.mi, .slice a1 s2.msg.f.length k1, .string (mkS s2.msg.body), .slice a2 s2.msg.tr.length k2] : List Value), u.oneCell' = true := by intro u hu; simp at hu; rcases hu with rfl | rfl | rfl | rfl | rfl | rfl | rfl | rfl <;> rfl
      have HC1 := Lib.hid hc1
      have HC2 := Lib.hid hc2
      have hvl : Vs.length ≤ 100000 := by
        have h1 := go_few ((bs t).take i) s0
        rw [HGo.out] at h1
        have h1 : Vs.length ≤ ((bs t).take i).length := by simpa only [List.length_map] using h1
        have h2 : ((bs t).take i).length ≤ t.size := by rw [List.length_take, HLen.out]; omega
        have := HT.out
        omega
      have HBs := Lib.hid (show w.heap.size ≤ ((w3.alloc (.cells #[.string (mkS s2.msg.m), .string (mkS s2.msg.t), .int .i64 s2.msg.st, .string (mkS s2.msg.r), .int .i64 s2.msg.mi, .slice a1 s2.msg.f.length k1, .string (mkS s2.msg.body), .slice a2 s2.msg.tr.length k2] 37)).alloc (.cells #[.string (mkS s2.msg.m), .string (mkS s2.msg.t), .int .i64 s2.msg.st, .string (mkS s2.msg.r), .int .i64 s2.msg.mi, .slice a1 s2.msg.f.length k1, .string (mkS s2.msg.body), .slice a2 s2.msg.tr.length k2] 37)).heap.size from HB3.out.size)
      clear hs3 ht3 hm3 ha3 hr3 hd3 hd4 hpar hn3 HNx HM2 HA2 HB2 HS2 hb5 hcells hc1 hc2 hw4 hx
      go_wp2_with (at_builtin; refine append_stay (by rfl) _ _ 26 rfl w.heap.size 37 i0 (.agg #[.string .empty, .string .empty, .int .i64 0, .string .empty, .int .i64 0, .slice none 0 0, .string .empty, .slice none 0 0]) 8 128 Tryz.underlying26 hi hz0 hz1 hz2 rfl (by decide) _ _ _ rfl HM3.out.own ⟨w3.heap.size + 1, 0, none⟩ 1 1 [.string (mkS s2.msg.m), .string (mkS s2.msg.t), .int .i64 s2.msg.st, .string (mkS s2.msg.r), .int .i64 s2.msg.mi, .slice a1 s2.msg.f.length k1, .string (mkS s2.msg.body), .slice a2 s2.msg.tr.length k2] rfl rfl HC1.out HC2.out ?c3 ?c4 HBs.out ?_)
      case c3 => unfold maxLen; omega
      case c4 => omega
      intro v' w6 ho hg hst
      have HM6 := Lib.hid (HM3.out.snoc x HR3.out (by rw [HC.out]; exact ho) hg)
      obtain ⟨qz, hpz⟩ := HS3.out.par
      have HA6 := Lib.hid (HA3.out.snoc hpz x HD3.out hst)
      have HS6 := Lib.hid (HS3.out.grownBy HA3.out hg)
      have HB6 := Lib.hid (HB3.out.trans (show Below w.heap.size _ w6 from ⟨hg.os, hg.tape, hg.output, hg.size, fun k hk => hg.block k (Nat.lt_of_lt_of_le hk HBs.out) (fun e => by have := (HM3.out.own.lt k e.symm).1; omega)⟩))
      obtain ⟨av', cv', rfl⟩ := HM6.out.val
      clear hpz ho hg hst HM3 HA3 HS3 HB3
      go_wp2_with fail
      refine ⟨⟨i + n, s2.fresh, V3, Vs ++ [x], tx.extract n tx.size, HN.out, rfl, Lib.hid ?_, Lib.hid ?_, Lib.hid (run_fresh s2), HS6, HM6, HA6, HB6⟩, ?_⟩
      · rw [bs_extract, HTx.out, List.drop_drop, List.take_of_length_le (by rw [List.length_drop, HLen.out]; have := HTs.out; omega)]
      · rw [List.map_append, List.map_cons, List.map_nil, HX.out]; exact HYes.out.2
      · have h1 := HYes.out.1
        have h2 := HN.out
        have h3 := HTs.out
        simp only [ByteArray.size_extract]
        omega
end Tk
end Go.Proofs.YtomhpnkpmeindaaGreatDoor
namespace Go.Proofs.YtomhpnkpmeindaaGreatDoor
open Go.RowKit
namespace Tk

def getB : Bs := [71, 69, 84, 32, 47, 32, 72, 84, 84, 80, 47, 49, 46, 49, 13, 10, 72, 111, 115, 116, 58, 32, 97, 13, 10, 13, 10]
def badB : Bs := [71, 69, 84, 32, 47, 32, 72, 84, 84, 80, 47, 49, 46, 49, 13, 10, 13, 10]
def roomP : Pr := newP 200 1000 30 1000 false
set_option maxRecDepth 100000 in
theorem lives_get : allS roomP getB = 0 ∧ (allM roomP getB).map (fun m => (m.m, m.t, m.mi, m.f.length)) = [([71, 69, 84], [47], 1, 1)] := by decide +kernel
set_option maxRecDepth 100000 in
theorem lives_bad : allS roomP badB = 400 ∧ (allM roomP badB).length = 0 := by decide +kernel
theorem room_limP : LimP (newP 200 1000 30 1000 false) := by unfold LimP; decide
theorem lim_cell {g : Nat} {L X C M : Int} {w : World} (h : w.heap[g]? = some (.cells #[.int .i64 L, .int .i64 X, .int .i64 C, .int .i64 M] 23 (0, 0))) (i : Nat) (v : Value) (hv : (#[.int .i64 L, .int .i64 X, .int .i64 C, .int .i64 M] : Array Value)[i]? = some v) : w.cell? ⟨g, i, none⟩ = some v := by rw [Lib.cell_of_heap h]; exact hv
set_option maxHeartbeats 4000000 in
set_option maxRecDepth 100000 in
theorem lives06_any (w : World) (hv : ErrV w.heap.size w) :
    Calls Tryz.prog 9 #[] w (Yes2 w) := by
  have HV := Lib.hid hv
  obtain ⟨q1, q2⟩ := lives_get
  obtain ⟨q3, q4⟩ := lives_bad
  have Q2 := Lib.hid q2
  have Q4 := Lib.hid q4
  clear hv q2 q4
  unfold Yes2
  go_enter Tryz.func9, Tryz.ntmps9
  go_wp2_with fail
  refine (roomy_any _).mono ?_
  rintro e w1 ⟨rfl, hb1⟩
  have HB1 := Lib.hid hb1
  clear hb1
  go_wp2_with fail
  refine (pall_any 200 1000 30 1000 200 1000 30 1000 ⟨#[71, 69, 84, 32, 47, 32, 72, 84, 84, 80, 47, 49, 46, 49, 13, 10, 72, 111, 115, 116, 58, 32, 97, 13, 10, 13, 10]⟩ w1 rfl rfl rfl rfl room_limP (by decide) (HV.out.later HB1.out).top).mono ?_
  unfold AllPost
  rw [show bs ⟨#[71, 69, 84, 32, 47, 32, 72, 84, 84, 80, 47, 49, 46, 49, 13, 10, 72, 111, 115, 116, 58, 32, 97, 13, 10, 13, 10]⟩ = getB from rfl, show newP 200 1000 30 1000 false = roomP from rfl, q1]
  rintro e w2 ⟨v, Vs, rfl, hmap, hms, hbe⟩
  have HB2 := Lib.hid (HB1.out.trans (hbe.mono HB1.out.size))
  have HMs := Lib.hid hms
  have hl1 : (allM roomP getB).length = 1 := by simpa using congrArg List.length Q2.out
  rw [← hmap, List.length_map] at hl1
  obtain ⟨x, rfl⟩ := List.length_eq_one_iff.1 hl1
  have hx := Q2.out
  rw [← hmap] at hx
  simp only [List.map_cons, List.map_nil, List.cons.injEq, and_true, Prod.mk.injEq] at hx
  have HX := Lib.hid hx
  clear hmap hms hbe hl1 hx q1 Q2
  go_wp2_with fail
  refine (roomy_any _).mono ?_
  rintro e w3 ⟨rfl, hb3⟩
  have HM3 := Lib.hid (HMs.out.below hb3)
  have HB3 := Lib.hid (HB2.out.trans (hb3.mono HB2.out.size))
  clear hb3 HMs HB2
  go_wp2_with fail
  refine (pall_any 200 1000 30 1000 200 1000 30 1000 ⟨#[71, 69, 84, 32, 47, 32, 72, 84, 84, 80, 47, 49, 46, 49, 13, 10, 13, 10]⟩ w3 rfl rfl rfl rfl room_limP (by decide) (HV.out.later HB3.out).top).mono ?_
  unfold AllPost
  rw [show bs ⟨#[71, 69, 84, 32, 47, 32, 72, 84, 84, 80, 47, 49, 46, 49, 13, 10, 13, 10]⟩ = badB from rfl, show newP 200 1000 30 1000 false = roomP from rfl, q3]
  rintro e w4 ⟨v2, Vs2, rfl, hmap, hms, hbe⟩
  have HB4 := Lib.hid (HB3.out.trans (hbe.mono HB3.out.size))
  have hl2 := Q4.out
  rw [← hmap, List.length_map] at hl2
  obtain ⟨a2, c2, hv2⟩ := hms.val
  rw [hl2] at hv2
  subst hv2
  obtain ⟨g, cap, hv1, hcap, hc, hf, ht⟩ := (HM3.out.below hbe).get 0 x rfl
  subst hv1
  obtain ⟨x1, x2, x3, x4⟩ := HX.out
  have k0 : w4.cell? ⟨g, 0, none⟩ = some (.string ⟨#[71, 69, 84]⟩) := by have := hc 0 _ rfl; rw [x1] at this; exact this
  have k1 : w4.cell? ⟨g, 1, none⟩ = some (.string ⟨#[47]⟩) := by have := hc 1 _ rfl; rw [x2] at this; exact this
  have k4 : w4.cell? ⟨g, 4, none⟩ = some (.int .i64 1) := by have := hc 4 _ rfl; rw [x3] at this; exact this
  obtain ⟨af, cf, hvf, -⟩ := hf
  rw [x4] at hvf
  have k5 : w4.cell? ⟨g, 5, none⟩ = some (.slice af 1 cf) := by have := hc 5 _ rfl; rw [hvf] at this; exact this
  clear hmap hms hbe hl2 hc ht hvf x1 x2 x3 x4 HM3 HX Q4 q3
  go_wp2_with fail
  go_ret
  exact ⟨rfl, HB4.out⟩
end Tk
end Go.Proofs.YtomhpnkpmeindaaGreatDoor
