/- date: Parse. -/
import Derived.Test.YtajmheblbnodjaaDoorDtL
namespace Go.Proofs.YtajmheblbnodjaaDoor
open Go.RowKit
namespace Tk

/-- the year of now, put into the range -/
def clampT (now : Int) : Int := min (max now 0) 253402300799
def yNow (now : Int) : Int := (civ (clampT now)).y
theorem clampT_ok (now : Int) : okT (clampT now) = true := by rw [okT_iff]; unfold clampT maxT; omega
theorem yNow_rg (now : Int) : 1970 ≤ yNow now ∧ yNow now ≤ 9999 := (civ_rg ((okT_iff _).1 (clampT_ok now)).1 ((okT_iff _).1 (clampT_ok now)).2).y
/-- what is left to try -/
def pRest (s : Bs) (y : Int) : Nat → Option Int
  | 0 => pP s y
  | 1 => match wrB s y with | some t => some t | none => wrC s
  | 2 => wrC s
  | _ => none
theorem two_alloc (w1 : World) (A B : Array Value) (T U : TypeId) : ((w1.alloc (.cells A T)).alloc (.cells B U)).heap[w1.heap.size]? = some (.cells A T (0, 0)) ∧ ((w1.alloc (.cells A T)).alloc (.cells B U)).heap[w1.heap.size + 1]? = some (.cells B U (0, 0)) ∧ Below w1.heap.size w1 ((w1.alloc (.cells A T)).alloc (.cells B U)) := by
  have hb := (Below.refl w1.heap.size w1).alloc (Nat.le_refl _) (.cells A T)
  have hz : (w1.alloc (.cells A T)).heap.size = w1.heap.size + 1 := Array.size_push _
  have h1 := heap_alloc_last w1 (.cells A T)
  have h2 := heap_alloc_last (w1.alloc (.cells A T)) (.cells B U)
  rw [hz] at h2
  refine ⟨?_, h2, hb.alloc hb.size _⟩
  rw [Below.heap_alloc _ _ _ (by rw [hz]; omega)]; exact h1
theorem optE_some (t : Int) : optE (some t) = 0 ∧ optV (some t) = t := ⟨rfl, rfl⟩
theorem optE_none : optE none = 4 ∧ optV none = 0 := ⟨rfl, rfl⟩

set_option maxHeartbeats 8000000 in
set_option maxRecDepth 100000 in
theorem parse_any (s : ByteArray) (now : Int) (w : World) (hN : NamH w) (hs : s.size ≤ 1000000) :
    Calls Tryd.prog 15 #[.string s, .int .i64 now] w (OptPost (pP (bs s) (yNow now)) w) := by
  obtain ⟨hx1, hx2⟩ := civX_ok (clampT_ok now)
  have hC := civil_any (clampT now) w (by have := (okT_iff _).1 (clampT_ok now); unfold maxT at this; omega)
  unfold CivPost at hC
  rw [hx1, hx2] at hC
  have hy := yNow_rg now
  have hyE : (civ (clampT now)).y = yNow now := rfl
  have HA : Hid (∀ W, Below w.heap.size w W → Calls Tryd.prog 33 #[.string s, .int .i64 (yNow now)] W (OptPost (wrA (bs s)) W)) := fun W hb => parseFixdate_any s _ W (hN.later hb) hs
  have HB : Hid (∀ W, Below w.heap.size w W → Calls Tryd.prog 34 #[.string s, .int .i64 (yNow now)] W (OptPost (wrB (bs s) (yNow now)) W)) := fun W hb => parseRFC850_any s _ W (hN.later hb) hs hy
  have HC : Hid (∀ W, Below w.heap.size w W → Calls Tryd.prog 35 #[.string s, .int .i64 (yNow now)] W (OptPost (wrC (bs s)) W)) := fun W hb => parseAsctime_any s _ W (hN.later hb) hs
  have H0 := Lib.hid (show pP (bs s) (yNow now) = pRest (bs s) (yNow now) 0 from rfl)
  have HA1 := Lib.hid (fun (h : wrA (bs s) = none) => show pRest (bs s) (yNow now) 0 = pRest (bs s) (yNow now) 1 by unfold pRest pP; rw [h]; rfl)
  have HA2 := Lib.hid (fun t (h : wrA (bs s) = some t) => show pRest (bs s) (yNow now) 0 = some t by unfold pRest pP; rw [h]; rfl)
  have HB1 := Lib.hid (fun (h : wrB (bs s) (yNow now) = none) => show pRest (bs s) (yNow now) 1 = pRest (bs s) (yNow now) 2 by unfold pRest; rw [h]; rfl)
  have HB2 := Lib.hid (fun t (h : wrB (bs s) (yNow now) = some t) => show pRest (bs s) (yNow now) 1 = some t by unfold pRest; rw [h]; rfl)
  have HC1 := Lib.hid (show pRest (bs s) (yNow now) 2 = wrC (bs s) from rfl)
  have HC2 := Lib.hid (show pRest (bs s) (yNow now) 3 = none from rfl)
  have eA := enters_of Tryd.func33 (by kernel_rfl) rfl
  have eB := enters_of Tryd.func34 (by kernel_rfl) rfl
  have eC := enters_of Tryd.func35 (by kernel_rfl) rfl
  clear hN hx1 hx2 hy
  unfold OptPost at HA HB HC ⊢
  obtain ⟨t0, ht0⟩ : ∃ t0, t0 = clampT now := ⟨_, rfl⟩
  rw [← ht0] at hC hyE
  generalize pP (bs s) (yNow now) = R at *
  generalize hQ : pRest (bs s) (yNow now) = Q at *
  generalize wrA (bs s) = oA at *
  generalize wrB (bs s) (yNow now) = oB at *
  generalize wrC (bs s) = oC at *
  generalize yNow now = Y at *
  clear hQ
  generalize civ t0 = c at *
  obtain ⟨v0, v1, v2, v3, v4, v5, v6⟩ := c
  unfold cvV at hC
  dsimp only at hC hyE
  subst hyE
  have HCi := Lib.hid hC
  clear hC
  unfold clampT at ht0
  rw [ht0] at HCi
  clear ht0
  go_enter Tryd.func15, Tryd.ntmps15
  go_wp2_with fail
  go_step3
  go_wp2_with fail
  refine HCi.out.mono ?_
  rintro e w1 ⟨rfl, hb⟩
  have HB0 := Lib.hid hb
  clear hb
  go_wp2_with fail
  go_step3
  go_wp2_with fail
  obtain ⟨g1, g2, gb⟩ := two_alloc w1 #[.int .i64 v0, .int .i64 v1, .int .i64 v2, .int .i64 v3, .int .i64 v4, .int .i64 v5, .int .i64 v6] #[.func (.func 33) #[] #[], .func (.func 34) #[] #[], .func (.func 35) #[] #[]] 23 52
  generalize (w1.alloc (.cells #[.int .i64 v0, .int .i64 v1, .int .i64 v2, .int .i64 v3, .int .i64 v4, .int .i64 v5, .int .i64 v6] 23)).alloc (.cells #[.func (.func 33) #[] #[], .func (.func 34) #[] #[], .func (.func 35) #[] #[]] 52) = W3 at *
  have HB3 := Lib.hid (HB0.out.trans (gb.mono HB0.out.size))
  have HS3 : Hid (w1.heap.size + 2 ≤ W3.heap.size) := by have := (Array.getElem?_eq_some_iff.1 g2).1; show _ ≤ _; omega
  have K0 : Hid (W3.cell? ⟨w1.heap.size, 0, none⟩ = some (.int .i64 v0)) := by show _ = _; rw [Lib.cell_of_heap g1]; rfl
  have K1 : Hid (W3.cell? ⟨w1.heap.size + 1, 0, none⟩ = some (.func (.func 33) #[] #[])) := by show _ = _; rw [Lib.cell_of_heap g2]; rfl
  have K2 : Hid (W3.cell? ⟨w1.heap.size + 1, 1, none⟩ = some (.func (.func 34) #[] #[])) := by show _ = _; rw [Lib.cell_of_heap g2]; rfl
  have K3 : Hid (W3.cell? ⟨w1.heap.size + 1, 2, none⟩ = some (.func (.func 35) #[] #[])) := by show _ = _; rw [Lib.cell_of_heap g2]; rfl
  clear g1 g2 gb HB0
  go_loopw [4, 5, 10, 21] (fun vt ve _ vk wr => ∃ k : Nat, k ≤ 3 ∧ vk = .int .i64 (k : Int) ∧ vt = .int .i64 0 ∧ ((k = 0 ∧ ve = .int .i64 0) ∨ ve = .int .i64 4) ∧ Hid (Below w.heap.size w wr) ∧ Hid (w1.heap.size + 2 ≤ wr.heap.size) ∧ Hid (wr.cell? ⟨w1.heap.size, 0, none⟩ = some (.int .i64 v0)) ∧ Hid (wr.cell? ⟨w1.heap.size + 1, 0, none⟩ = some (.func (.func 33) #[] #[])) ∧ Hid (wr.cell? ⟨w1.heap.size + 1, 1, none⟩ = some (.func (.func 34) #[] #[])) ∧ Hid (wr.cell? ⟨w1.heap.size + 1, 2, none⟩ = some (.func (.func 35) #[] #[])) ∧ Hid (R = Q k)) (fun _ _ _ vk _ => (3 - RowKit.intOf vk).toNat)
  case atStart => exact ⟨0, by omega, rfl, rfl, .inl ⟨rfl, rfl⟩, HB3, HS3, K0, K1, K2, K3, H0⟩
  case round =>
    obtain ⟨k, hk, rfl, rfl, hve, HBw, HSz, HCl, HF0, HF1, HF2, HQ⟩ := hrel
    rename World => wr
    have hks : k = 0 ∨ k = 1 ∨ k = 2 ∨ k = 3 := by omega
    clear HB3 HS3 K0 K1 K2 K3 HCi
    rcases hks with rfl | rfl | rfl | rfl
    · have hf := HF0.out
      have hcl := HCl.out
      cases oA with
      | some t =>
        have HE := Lib.hid (HQ.out.trans (HA2.out t rfl))
        have HX := Lib.hid (HA.out wr HBw.out)
        clear HA HB HC HA1 HA2 HB1 HB2 HC1 HC2 HQ H0
        go_wp2_with fail
        refine HX.out.mono ?_
        rintro e w4 ⟨rfl, hb⟩
        have HB4 := Lib.hid (HBw.out.trans (hb.mono HBw.out.size))
        clear hb
        go_wp2_with fail
        try rw [Exit.noGoto_ret]
        go_ret2
        exact ⟨ret2 (by rw [HE.out]; try rfl) (by rw [HE.out]; try rfl), HB4.out⟩
      | none =>
        have HE := Lib.hid (HQ.out.trans (HA1.out rfl))
        have HX := Lib.hid (HA.out wr HBw.out)
        clear HA HB HC HA1 HA2 HB1 HB2 HC1 HC2 HQ
        go_wp2_with fail
        refine HX.out.mono ?_
        rintro e w4 ⟨rfl, hb⟩
        have HB4 := Lib.hid (HBw.out.trans (hb.mono HBw.out.size))
        have HS4 := Lib.hid (Nat.le_trans HSz.out hb.size)
        have hs4 := HSz.out
        have HG0 := Lib.hid ((hb.cell (p := ⟨w1.heap.size, 0, none⟩) (by show w1.heap.size < _; omega)).trans HCl.out)
        have HG1 := Lib.hid ((hb.cell (p := ⟨w1.heap.size + 1, 0, none⟩) (by show w1.heap.size + 1 < _; omega)).trans HF0.out)
        have HG2 := Lib.hid ((hb.cell (p := ⟨w1.heap.size + 1, 1, none⟩) (by show w1.heap.size + 1 < _; omega)).trans HF1.out)
        have HG3 := Lib.hid ((hb.cell (p := ⟨w1.heap.size + 1, 2, none⟩) (by show w1.heap.size + 1 < _; omega)).trans HF2.out)
        clear hb hs4
        go_wp2_with fail
        refine ⟨⟨1, by omega, by go_num, rfl, .inr rfl, HB4, HS4, HG0, HG1, HG2, HG3, HE⟩, by simp only [RowKit.intOf]; omega⟩
    · have hf := HF1.out
      have hcl := HCl.out
      cases oB with
      | some t =>
        have HE := Lib.hid (HQ.out.trans (HB2.out t rfl))
        have HX := Lib.hid (HB.out wr HBw.out)
        clear HA HB HC HA1 HA2 HB1 HB2 HC1 HC2 HQ H0
        go_wp2_with fail
        refine HX.out.mono ?_
        rintro e w4 ⟨rfl, hb⟩
        have HB4 := Lib.hid (HBw.out.trans (hb.mono HBw.out.size))
        clear hb
        go_wp2_with fail
        try rw [Exit.noGoto_ret]
        go_ret2
        exact ⟨ret2 (by rw [HE.out]; try rfl) (by rw [HE.out]; try rfl), HB4.out⟩
      | none =>
        have HE := Lib.hid (HQ.out.trans (HB1.out rfl))
        have HX := Lib.hid (HB.out wr HBw.out)
        clear HA HB HC HA1 HA2 HB1 HB2 HC1 HC2 HQ
        go_wp2_with fail
        refine HX.out.mono ?_
        rintro e w4 ⟨rfl, hb⟩
        have HB4 := Lib.hid (HBw.out.trans (hb.mono HBw.out.size))
        have HS4 := Lib.hid (Nat.le_trans HSz.out hb.size)
        have hs4 := HSz.out
        have HG0 := Lib.hid ((hb.cell (p := ⟨w1.heap.size, 0, none⟩) (by show w1.heap.size < _; omega)).trans HCl.out)
        have HG1 := Lib.hid ((hb.cell (p := ⟨w1.heap.size + 1, 0, none⟩) (by show w1.heap.size + 1 < _; omega)).trans HF0.out)
        have HG2 := Lib.hid ((hb.cell (p := ⟨w1.heap.size + 1, 1, none⟩) (by show w1.heap.size + 1 < _; omega)).trans HF1.out)
        have HG3 := Lib.hid ((hb.cell (p := ⟨w1.heap.size + 1, 2, none⟩) (by show w1.heap.size + 1 < _; omega)).trans HF2.out)
        clear hb hs4
        go_wp2_with fail
        refine ⟨⟨2, by omega, by go_num, rfl, .inr rfl, HB4, HS4, HG0, HG1, HG2, HG3, HE⟩, by simp only [RowKit.intOf]; omega⟩
    · have hf := HF2.out
      have hcl := HCl.out
      cases oC with
      | some t =>
        have HE := Lib.hid (HQ.out.trans HC1.out)
        have HX := Lib.hid (HC.out wr HBw.out)
        clear HA HB HC HA1 HA2 HB1 HB2 HC1 HC2 HQ H0
        go_wp2_with fail
        refine HX.out.mono ?_
        rintro e w4 ⟨rfl, hb⟩
        have HB4 := Lib.hid (HBw.out.trans (hb.mono HBw.out.size))
        clear hb
        go_wp2_with fail
        try rw [Exit.noGoto_ret]
        go_ret2
        exact ⟨ret2 (by rw [HE.out]; try rfl) (by rw [HE.out]; try rfl), HB4.out⟩
      | none =>
        have HE := Lib.hid ((HQ.out.trans HC1.out).trans HC2.out.symm)
        have HX := Lib.hid (HC.out wr HBw.out)
        clear HA HB HC HA1 HA2 HB1 HB2 HC1 HC2 HQ
        go_wp2_with fail
        refine HX.out.mono ?_
        rintro e w4 ⟨rfl, hb⟩
        have HB4 := Lib.hid (HBw.out.trans (hb.mono HBw.out.size))
        have HS4 := Lib.hid (Nat.le_trans HSz.out hb.size)
        have hs4 := HSz.out
        have HG0 := Lib.hid ((hb.cell (p := ⟨w1.heap.size, 0, none⟩) (by show w1.heap.size < _; omega)).trans HCl.out)
        have HG1 := Lib.hid ((hb.cell (p := ⟨w1.heap.size + 1, 0, none⟩) (by show w1.heap.size + 1 < _; omega)).trans HF0.out)
        have HG2 := Lib.hid ((hb.cell (p := ⟨w1.heap.size + 1, 1, none⟩) (by show w1.heap.size + 1 < _; omega)).trans HF1.out)
        have HG3 := Lib.hid ((hb.cell (p := ⟨w1.heap.size + 1, 2, none⟩) (by show w1.heap.size + 1 < _; omega)).trans HF2.out)
        clear hb hs4
        go_wp2_with fail
        refine ⟨⟨3, by omega, by go_num, rfl, .inr rfl, HB4, HS4, HG0, HG1, HG2, HG3, HE⟩, by simp only [RowKit.intOf]; omega⟩
    · obtain rfl : _ = Value.int .i64 4 := by rcases hve with ⟨h, -⟩ | h; exact absurd h (by decide); exact h
      have HE := Lib.hid (HQ.out.trans HC2.out)
      clear HA HB HC HA1 HA2 HB1 HB2 HC1 HC2 HQ H0
      go_wp2_with fail
      try rw [Exit.noGoto_ret]
      go_ret2
      exact ⟨ret2 (by rw [HE.out]; try rfl) (by rw [HE.out]; try rfl), HBw.out⟩
end Tk
end Go.Proofs.YtajmheblbnodjaaDoor
