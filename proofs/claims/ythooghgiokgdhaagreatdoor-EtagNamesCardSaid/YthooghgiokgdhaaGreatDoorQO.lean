/- DtM EtQ EtE, put together. -/
import Derived.Test.YthooghgiokgdhaaGreatDoorQN
import Derived.Test.YthooghgiokgdhaaGreatDoorQI
import Derived.Test.YthooghgiokgdhaaGreatDoorQJ
namespace Go.Proofs.YthooghgiokgdhaaGreatDoor
open Go.RowKit
namespace Tk

/-- the year of now, put into the range -/
def clampT (now : Int) : Int := min (max now 0) 253402300799
def yNow (now : Int) : Int := (civ (clampT now)).y
theorem clampT_ok (now : Int) : okT (clampT now) = true := by rw [okT_iff]; unfold clampT maxT; omega
theorem yNow_rg (now : Int) : 1970 ≤ yNow now ∧ yNow now ≤ 9999 := (civ_rg ((okT_iff _).1 (clampT_ok now)).1 ((okT_iff _).1 (clampT_ok now)).2).y
/-- what is left to try -/
def pRest (s : Bs) (y : Int) : Nat → Option Int
  | 0 => pP s y
  | 1 => match wrB s y with | some t => some t | none => wrC s
  | 2 => wrC s
  | _ => none
theorem two_alloc (w1 : World) (A B : Array Value) (T U : TypeId) : ((w1.alloc (.cells A T)).alloc (.cells B U)).heap[w1.heap.size]? = some (.cells A T (0, 0)) ∧ ((w1.alloc (.cells A T)).alloc (.cells B U)).heap[w1.heap.size + 1]? = some (.cells B U (0, 0)) ∧ Below w1.heap.size w1 ((w1.alloc (.cells A T)).alloc (.cells B U)) := by
  have hb := (Below.refl w1.heap.size w1).alloc (Nat.le_refl _) (.cells A T)
  have hz : (w1.alloc (.cells A T)).heap.size = w1.heap.size + 1 := Array.size_push _
  have h1 := heap_alloc_last w1 (.cells A T)
  have h2 := heap_alloc_last (w1.alloc (.cells A T)) (.cells B U)
  rw [hz] at h2
  refine ⟨?_, h2, hb.alloc hb.size _⟩
  rw [Below.heap_alloc _ _ _ (by rw [hz]; omega)]; exact h1
theorem optE_some (t : Int) : optE (some t) = 0 ∧ optV (some t) = t := ⟨rfl, rfl⟩
theorem optE_none : optE none = 4 ∧ optV none = 0 := ⟨rfl, rfl⟩

set_option maxHeartbeats 8000000 in
set_option maxRecDepth 100000 in
theorem parse_any (s : ByteArray) (now : Int) (w : World) (hN : NamH w) (hs : s.size ≤ 1000000) :
    Calls Tryz.prog 173 #[.string s, .int .i64 now] w (OptPost (pP (bs s) (yNow now)) w) := by
  obtain ⟨hx1, hx2⟩ := civX_ok (clampT_ok now)
  have hC := civil_any (clampT now) w (by have := (okT_iff _).1 (clampT_ok now); unfold maxT at this; omega)
  unfold CivPost at hC
  rw [hx1, hx2] at hC
  have hy := yNow_rg now
  have hyE : (civ (clampT now)).y = yNow now := rfl
  have HA : Hid (∀ W, Below w.heap.size w W → Calls Tryz.prog 218 #[.string s, .int .i64 (yNow now)] W (OptPost (wrA (bs s)) W)) := fun W hb => parseFixdate_any s _ W (hN.later hb) hs
  have HB : Hid (∀ W, Below w.heap.size w W → Calls Tryz.prog 219 #[.string s, .int .i64 (yNow now)] W (OptPost (wrB (bs s) (yNow now)) W)) := fun W hb => parseRFC850_any s _ W (hN.later hb) hs hy
  have HC : Hid (∀ W, Below w.heap.size w W → Calls Tryz.prog 220 #[.string s, .int .i64 (yNow now)] W (OptPost (wrC (bs s)) W)) := fun W hb => parseAsctime_any s _ W (hN.later hb) hs
  have H0 := Lib.hid (show pP (bs s) (yNow now) = pRest (bs s) (yNow now) 0 from rfl)
  have HA1 := Lib.hid (fun (h : wrA (bs s) = none) => show pRest (bs s) (yNow now) 0 = pRest (bs s) (yNow now) 1 by unfold pRest pP; rw [h]; rfl)
  have HA2 := Lib.hid (fun t (h : wrA (bs s) = some t) => show pRest (bs s) (yNow now) 0 = some t by unfold pRest pP; rw [h]; rfl)
  have HB1 := Lib.hid (fun (h : wrB (bs s) (yNow now) = none) => show pRest (bs s) (yNow now) 1 = pRest (bs s) (yNow now) 2 by unfold pRest; rw [h]; rfl)
  have HB2 := Lib.hid (fun t (h : wrB (bs s) (yNow now) = some t) => show pRest (bs s) (yNow now) 1 = some t by unfold pRest; rw [h]; rfl)
  have HC1 := Lib.hid (show pRest (bs s) (yNow now) 2 = wrC (bs s) from rfl)
  have HC2 := Lib.hid (show pRest (bs s) (yNow now) 3 = none from rfl)
  have eA := enters_of Tryz.func218 (by kernel_rfl) rfl
  have eB := enters_of Tryz.func219 (by kernel_rfl) rfl
  have eC := enters_of Tryz.func220 (by kernel_rfl) rfl
  clear hN hx1 hx2 hy
  unfold OptPost at HA HB HC ⊢
  obtain ⟨t0, ht0⟩ : ∃ t0, t0 = clampT now := ⟨_, rfl⟩
  rw [← ht0] at hC hyE
  generalize pP (bs s) (yNow now) = R at *
  generalize hQ : pRest (bs s) (yNow now) = Q at *
  generalize wrA (bs s) = oA at *
  generalize wrB (bs s) (yNow now) = oB at *
  generalize wrC (bs s) = oC at *
  generalize yNow now = Y at *
  clear hQ
  generalize civ t0 = c at *
  obtain ⟨v0, v1, v2, v3, v4, v5, v6⟩ := c
  unfold cvV at hC
  dsimp only at hC hyE
  subst hyE
  have HCi := Lib.hid hC
  clear hC
  unfold clampT at ht0
  rw [ht0] at HCi
  clear ht0
  go_enter Tryz.func173, Tryz.ntmps173
  go_wp2_with fail
  go_step3
  go_wp2_with fail
  refine HCi.out.mono ?_
  rintro e w1 ⟨rfl, hb⟩
  have HB0 := Lib.hid hb
  clear hb
  go_wp2_with fail
  go_step3
  go_wp2_with fail
  obtain ⟨g1, g2, gb⟩ := two_alloc w1 #[.int .i64 v0, .int .i64 v1, .int .i64 v2, .int .i64 v3, .int .i64 v4, .int .i64 v5, .int .i64 v6] #[.func (.func 218) #[] #[], .func (.func 219) #[] #[], .func (.func 220) #[] #[]] 204 244
  generalize (w1.alloc (.cells #[.int .i64 v0, .int .i64 v1, .int .i64 v2, .int .i64 v3, .int .i64 v4, .int .i64 v5, .int .i64 v6] 204)).alloc (.cells #[.func (.func 218) #[] #[], .func (.func 219) #[] #[], .func (.func 220) #[] #[]] 244) = W3 at *
  have HB3 := Lib.hid (HB0.out.trans (gb.mono HB0.out.size))
  have HS3 : Hid (w1.heap.size + 2 ≤ W3.heap.size) := by have := (Array.getElem?_eq_some_iff.1 g2).1; show _ ≤ _; omega
  have K0 : Hid (W3.cell? ⟨w1.heap.size, 0, none⟩ = some (.int .i64 v0)) := by show _ = _; rw [Lib.cell_of_heap g1]; rfl
  have K1 : Hid (W3.cell? ⟨w1.heap.size + 1, 0, none⟩ = some (.func (.func 218) #[] #[])) := by show _ = _; rw [Lib.cell_of_heap g2]; rfl
  have K2 : Hid (W3.cell? ⟨w1.heap.size + 1, 1, none⟩ = some (.func (.func 219) #[] #[])) := by show _ = _; rw [Lib.cell_of_heap g2]; rfl
  have K3 : Hid (W3.cell? ⟨w1.heap.size + 1, 2, none⟩ = some (.func (.func 220) #[] #[])) := by show _ = _; rw [Lib.cell_of_heap g2]; rfl
  clear g1 g2 gb HB0
  go_loopw [4, 5, 10, 21] (fun vt ve _ vk wr => ∃ k : Nat, k ≤ 3 ∧ vk = .int .i64 (k : Int) ∧ vt = .int .i64 0 ∧ ((k = 0 ∧ ve = .int .i64 0) ∨ ve = .int .i64 4) ∧ Hid (Below w.heap.size w wr) ∧ Hid (w1.heap.size + 2 ≤ wr.heap.size) ∧ Hid (wr.cell? ⟨w1.heap.size, 0, none⟩ = some (.int .i64 v0)) ∧ Hid (wr.cell? ⟨w1.heap.size + 1, 0, none⟩ = some (.func (.func 218) #[] #[])) ∧ Hid (wr.cell? ⟨w1.heap.size + 1, 1, none⟩ = some (.func (.func 219) #[] #[])) ∧ Hid (wr.cell? ⟨w1.heap.size + 1, 2, none⟩ = some (.func (.func 220) #[] #[])) ∧ Hid (R = Q k)) (fun _ _ _ vk _ => (3 - RowKit.intOf vk).toNat)
  case atStart => exact ⟨0, by omega, rfl, rfl, .inl ⟨rfl, rfl⟩, HB3, HS3, K0, K1, K2, K3, H0⟩
  case round =>
    obtain ⟨k, hk, rfl, rfl, hve, HBw, HSz, HCl, HF0, HF1, HF2, HQ⟩ := hrel
    rename World => wr
    have hks : k = 0 ∨ k = 1 ∨ k = 2 ∨ k = 3 := by omega
    clear HB3 HS3 K0 K1 K2 K3 HCi
    rcases hks with rfl | rfl | rfl | rfl
    · have hf := HF0.out
      have hcl := HCl.out
      cases oA with
      | some t =>
        have HE := Lib.hid (HQ.out.trans (HA2.out t rfl))
        have HX := Lib.hid (HA.out wr HBw.out)
        clear HA HB HC HA1 HA2 HB1 HB2 HC1 HC2 HQ H0
        go_wp2_with fail
        refine HX.out.mono ?_
        rintro e w4 ⟨rfl, hb⟩
        have HB4 := Lib.hid (HBw.out.trans (hb.mono HBw.out.size))
        clear hb
        go_wp2_with fail
        try rw [Exit.noGoto_ret]
        go_ret2
        exact ⟨ret2 (by rw [HE.out]; try rfl) (by rw [HE.out]; try rfl), HB4.out⟩
      | none =>
        have HE := Lib.hid (HQ.out.trans (HA1.out rfl))
        have HX := Lib.hid (HA.out wr HBw.out)
        clear HA HB HC HA1 HA2 HB1 HB2 HC1 HC2 HQ
        go_wp2_with fail
        refine HX.out.mono ?_
        rintro e w4 ⟨rfl, hb⟩
        have HB4 := Lib.hid (HBw.out.trans (hb.mono HBw.out.size))
        have HS4 := Lib.hid (Nat.le_trans HSz.out hb.size)
        have hs4 := HSz.out
        have HG0 := Lib.hid ((hb.cell (p := ⟨w1.heap.size, 0, none⟩) (by show w1.heap.size < _; omega)).trans HCl.out)
        have HG1 := Lib.hid ((hb.cell (p := ⟨w1.heap.size + 1, 0, none⟩) (by show w1.heap.size + 1 < _; omega)).trans HF0.out)
        have HG2 := Lib.hid ((hb.cell (p := ⟨w1.heap.size + 1, 1, none⟩) (by show w1.heap.size + 1 < _; omega)).trans HF1.out)
        have HG3 := Lib.hid ((hb.cell (p := ⟨w1.heap.size + 1, 2, none⟩) (by show w1.heap.size + 1 < _; omega)).trans HF2.out)
        clear hb hs4
        go_wp2_with fail
        refine ⟨⟨1, by omega, by go_num, rfl, .inr rfl, HB4, HS4, HG0, HG1, HG2, HG3, HE⟩, by simp only [RowKit.intOf]; omega⟩
    · have hf := HF1.out
      have hcl := HCl.out
      cases oB with
      | some t =>
        have HE := Lib.hid (HQ.out.trans (HB2.out t rfl))
        have HX := Lib.hid (HB.out wr HBw.out)
        clear HA HB HC HA1 HA2 HB1 HB2 HC1 HC2 HQ H0
        go_wp2_with fail
        refine HX.out.mono ?_
        rintro e w4 ⟨rfl, hb⟩
        have HB4 := Lib.hid (HBw.out.trans (hb.mono HBw.out.size))
        clear hb
        go_wp2_with fail
        try rw [Exit.noGoto_ret]
        go_ret2
        exact ⟨ret2 (by rw [HE.out]; try rfl) (by rw [HE.out]; try rfl), HB4.out⟩
      | none =>
        have HE := Lib.hid (HQ.out.trans (HB1.out rfl))
        have HX := Lib.hid (HB.out wr HBw.out)
        clear HA HB HC HA1 HA2 HB1 HB2 HC1 HC2 HQ
        go_wp2_with fail
        refine HX.out.mono ?_
        rintro e w4 ⟨rfl, hb⟩
        have HB4 := Lib.hid (HBw.out.trans (hb.mono HBw.out.size))
        have HS4 := Lib.hid (Nat.le_trans HSz.out hb.size)
        have hs4 := HSz.out
        have HG0 := Lib.hid ((hb.cell (p := ⟨w1.heap.size, 0, none⟩) (by show w1.heap.size < _; omega)).trans HCl.out)
        have HG1 := Lib.hid ((hb.cell (p := ⟨w1.heap.size + 1, 0, none⟩) (by show w1.heap.size + 1 < _; omega)).trans HF0.out)
        have HG2 := Lib.hid ((hb.cell (p := ⟨w1.heap.size + 1, 1, none⟩) (by show w1.heap.size + 1 < _; omega)).trans HF1.out)
        have HG3 := Lib.hid ((hb.cell (p := ⟨w1.heap.size + 1, 2, none⟩) (by show w1.heap.size + 1 < _; omega)).trans HF2.out)
        clear hb hs4
        go_wp2_with fail
        refine ⟨⟨2, by omega, by go_num, rfl, .inr rfl, HB4, HS4, HG0, HG1, HG2, HG3, HE⟩, by simp only [RowKit.intOf]; omega⟩
    · have hf := HF2.out
      have hcl := HCl.out
      cases oC with
      | some t =>
        have HE := Lib.hid (HQ.out.trans HC1.out)
        have HX := Lib.hid (HC.out wr HBw.out)
        clear HA HB HC HA1 HA2 HB1 HB2 HC1 HC2 HQ H0
        go_wp2_with fail
        refine HX.out.mono ?_
        rintro e w4 ⟨rfl, hb⟩
        have HB4 := Lib.hid (HBw.out.trans (hb.mono HBw.out.size))
        clear hb
        go_wp2_with fail
        try rw [Exit.noGoto_ret]
        go_ret2
        exact ⟨ret2 (by rw [HE.out]; try rfl) (by rw [HE.out]; try rfl), HB4.out⟩
      | none =>
        have HE := Lib.hid ((HQ.out.trans HC1.out).trans HC2.out.symm)
        have HX := Lib.hid (HC.out wr HBw.out)
        clear HA HB HC HA1 HA2 HB1 HB2 HC1 HC2 HQ
        go_wp2_with fail
        refine HX.out.mono ?_
        rintro e w4 ⟨rfl, hb⟩
        have HB4 := Lib.hid (HBw.out.trans (hb.mono HBw.out.size))
        have HS4 := Lib.hid (Nat.le_trans HSz.out hb.size)
        have hs4 := HSz.out
        have HG0 := Lib.hid ((hb.cell (p := ⟨w1.heap.size, 0, none⟩) (by show w1.heap.size < _; omega)).trans HCl.out)
        have HG1 := Lib.hid ((hb.cell (p := ⟨w1.heap.size + 1, 0, none⟩) (by show w1.heap.size + 1 < _; omega)).trans HF0.out)
        have HG2 := Lib.hid ((hb.cell (p := ⟨w1.heap.size + 1, 1, none⟩) (by show w1.heap.size + 1 < _; omega)).trans HF1.out)
        have HG3 := Lib.hid ((hb.cell (p := ⟨w1.heap.size + 1, 2, none⟩) (by show w1.heap.size + 1 < _; omega)).trans HF2.out)
        clear hb hs4
        go_wp2_with fail
        refine ⟨⟨3, by omega, by go_num, rfl, .inr rfl, HB4, HS4, HG0, HG1, HG2, HG3, HE⟩, by simp only [RowKit.intOf]; omega⟩
    · obtain rfl : _ = Value.int .i64 4 := by rcases hve with ⟨h, -⟩ | h; exact absurd h (by decide); exact h
      have HE := Lib.hid (HQ.out.trans HC2.out)
      clear HA HB HC HA1 HA2 HB1 HB2 HC1 HC2 HQ H0
      go_wp2_with fail
      try rw [Exit.noGoto_ret]
      go_ret2
      exact ⟨ret2 (by rw [HE.out]; try rfl) (by rw [HE.out]; try rfl), HBw.out⟩
end Tk
end Go.Proofs.YthooghgiokgdhaaGreatDoor
namespace Go.Proofs.YthooghgiokgdhaaGreatDoor
namespace Tk

def nIMS : Bs := [73, 102, 45, 77, 111, 100, 105, 102, 105, 101, 100, 45, 83, 105, 110, 99, 101]
def nIM : Bs := [73, 102, 45, 77, 97, 116, 99, 104]
def nIUS : Bs := [73, 102, 45, 85, 110, 109, 111, 100, 105, 102, 105, 101, 100, 45, 83, 105, 110, 99, 101]
def nIR : Bs := [73, 102, 45, 82, 97, 110, 103, 101]
def nRa : Bs := [82, 97, 110, 103, 101]
def nET : Bs := [69, 84, 97, 103]
def nLM : Bs := [76, 97, 115, 116, 45, 77, 111, 100, 105, 102, 105, 101, 100]
def nWs : List Bs := [nIM, nINM, nIMS, nIUS, nIR, nRa]
def oneV (L : List Bs) (now : Int) : Option Int := match L with | [v] => pP v (yNow now) | _ => none
def oneG (L : List Bs) : Tg := match L with | [v] => tgG v | _ => (false, [])
def oneO (L : List Bs) : Bool := match L with | [v] => tgO v | _ => false
def ofC (l : List (Bs × Bs)) (now : Int) : Ck := ⟨(oneG (allF l nET)).1, (oneG (allF l nET)).2, oneO (allF l nET), optV (oneV (allF l nLM) now), (oneV (allF l nLM) now).isSome⟩
def sncB (o : Option Int) (c : Ck) : Bool := match o with | some t => c.b && decide (c.a ≤ t) | none => false
def unB (f : List (Bs × Bs)) (c : Ck) (now : Int) : Bool := if 0 < (allF f nINM).length then nmdB (allF f nINM) c else sncB (oneV (allF f nIMS) now) c
def delAll (L : List Bs) (l : List (Bs × Bs)) : List (Bs × Bs) := L.foldl (fun l n => delF n l) l
def askA (c : Ck) : List (Bs × Bs) := if (c.h && opq c.v) = true then [(nINM, tgT (c.w, c.v))] else []
def askZ (c : Ck) : List (Bs × Bs) := if (c.b && okT c.a) = true then [(nIMS, fmtL c.a)] else []
def askL (l : List (Bs × Bs)) (c : Ck) : List (Bs × Bs) := delAll nWs l ++ askA c ++ askZ c
end Tk
end Go.Proofs.YthooghgiokgdhaaGreatDoor
namespace Go.Proofs.YthooghgiokgdhaaGreatDoor
open Go.RowKit
namespace Tk

theorem tgRet2 {g : Tg} {a : Bool} {v : Bs} {o p : Bool} (h1 : g = (a, v)) (h2 : o = p) : Ending.returned (.tuple #[.agg #[.bool a, .string (mkS v)], .bool p]) = .returned (.tuple #[tgVal g, .bool o]) := by
  subst h1 h2; rfl
theorem opRet {a b : Int} {o p : Bool} (h1 : a = b) (h2 : o = p) : Ending.returned (.tuple #[.int .i64 a, .bool o]) = .returned (.tuple #[.int .i64 b, .bool p]) := by
  subst h1 h2; rfl
theorem one_not (P : List Bs) (h : P.length ≠ 1) : oneG P = (false, []) ∧ oneO P = false ∧ ∀ now, oneV P now = none := by
  match P, h with
  | [], _ => exact ⟨rfl, rfl, fun _ => rfl⟩
  | _ :: _ :: _, _ => exact ⟨rfl, rfl, fun _ => rfl⟩
theorem one_mem (name : Bs) (l : List (Bs × Bs)) (x : Bs) (h : allF l name = [x]) : x.length ≤ sumF l := all_piece name l x (by rw [h]; simp)

set_option maxHeartbeats 4000000 in
set_option maxRecDepth 100000 in
theorem tagOf_any (v : Value) (l : List (Bs × Bs)) (w : World) (hs : IsFlds w v l) (hz : sumF l ≤ 1000000) (hl : l.length ≤ 1048576) :
    Calls Tryz.prog 106 #[v] w fun e w' => e = .returned (.tuple #[tgVal (oneG (allF l nET)), .bool (oneO (allF l nET))]) ∧ Below w.heap.size w w' := by
  have hb0 : Below w.heap.size w (w.alloc (.cells #[.bool false, .string ⟨#[]⟩] 81)) := (Below.refl _ _).alloc (Nat.le_refl _) _
  have HA := Lib.hid (fall_any v l nET _ (isFlds_below hs hb0) (sum_each l (by omega)) (by decide) hl)
  have hone := one_mem nET l
  unfold ListPost at HA
  obtain ⟨a, cap, rfl⟩ : ∃ a cap, v = .slice a l.length cap := by obtain ⟨a, c, h, -⟩ := hs; exact ⟨a, c, h⟩
  have HT := Lib.hid (Two.new w 81 (.bool false) (.string ⟨#[]⟩))
  have HB0 := Lib.hid hb0
  have hsz : w.heap.size ≤ (w.alloc (.cells #[.bool false, .string ⟨#[]⟩] 81)).heap.size := by simp
  clear hb0 hs
  generalize allF l nET = P at *
  unfold nET mkS at HA
  by_cases hP : P.length = 1
  · obtain ⟨x, rfl⟩ : ∃ x, P = [x] := by
      match P, hP with
      | [x], _ => exact ⟨x, rfl⟩
    have hx := hone x rfl
    have hxz := size_mkS x
    have hC := fun W : World => tparse_any (mkS x) W (by omega)
    rw [bs_mkS] at hC
    unfold TgPost at hC
    have HC := Lib.hid hC
    have HG : Hid (oneG [x] = tgG x ∧ oneO [x] = tgO x) := ⟨rfl, rfl⟩
    have HTN := Lib.hid (fun h => tg_no x h)
    have hE0 : tgO x = true → tgE x = 0 := fun h => by unfold tgE; rw [if_pos h]
    have HE0 := Lib.hid hE0
    clear hone hP hC hE0 hx hxz
    generalize oneG [x] = G at *
    generalize oneO [x] = O at *
    cases hk : tgO x
    · have HQ : Hid (G = (false, []) ∧ O = false) := ⟨HG.out.1.trans (HTN.out hk).1, HG.out.2.trans hk⟩
      rw [(HTN.out hk).1, (HTN.out hk).2] at HC
      unfold tgVal at HC
      clear hk HG HTN HE0
      go_enter Tryz.func106, Tryz.ntmps106
      go_wp2_with fail
      refine HA.out.mono ?_
      rintro e w1 ⟨v1, rfl, ho, hb⟩
      have HT1 := Lib.hid (HT.out.later hb)
      obtain ⟨a', c', rfl, hc⟩ := isStrs_own ho
      obtain ⟨b, o, rfl, hc2⟩ := hc 0 x rfl
      have hc3 : w1.cell? ⟨b, o, none⟩ = some (.string (mkS x)) := hc2
      have HB1 := Lib.hid (HB0.out.trans (hb.mono hsz))
      clear hc hc2 ho hb
      go_wp2_with fail
      refine (HC.out _).mono ?_
      rintro e w2 ⟨rfl, hb⟩
      have HB2 := Lib.hid (HB1.out.trans (hb.mono HB1.out.size))
      have hb3 : Below w2.heap.size w2 (w2.alloc (.cells #[.bool false, .string (mkS [])] 81)) := (Below.refl _ _).alloc (Nat.le_refl _) _
      have hT3 := (HT1.out.later hb).later hb3
      have HB3 := Lib.hid (HB2.out.trans (hb3.mono HB2.out.size))
      have f0 := hT3.f0
      have f1 := hT3.f1
      have c0 := hT3.c0
      have c1 := hT3.c1
      have hput := hT3.put (.bool false) (.string ⟨#[]⟩)
      have q0 := hput.1
      have q1 := hput.2
      clear hput hb hb3 hT3
      go_wp2_with fail
      refine bodyPost_ret (v := .tuple #[.agg #[.bool false, .string (mkS [])], .bool false]) ?_ rfl ⟨tgRet2 HQ.out.1 HQ.out.2, ?_⟩
      · simp [results, Tryz.results106, go_sem, q0, q1]; rfl
      · exact (HB3.out.setCell (p := ⟨w.heap.size, 0, none⟩) (Nat.le_refl _) _).setCell (p := ⟨w.heap.size, 1, none⟩) (Nat.le_refl _) _
    · have HQ : Hid (G = tgG x ∧ O = true) := ⟨HG.out.1, HG.out.2.trans hk⟩
      rw [HE0.out hk] at HC
      clear hk HG HTN HE0
      generalize tgG x = t at *
      obtain ⟨tk, tv⟩ := t
      unfold tgVal at HC
      go_enter Tryz.func106, Tryz.ntmps106
      go_wp2_with fail
      refine HA.out.mono ?_
      rintro e w1 ⟨v1, rfl, ho, hb⟩
      have HT1 := Lib.hid (HT.out.later hb)
      obtain ⟨a', c', rfl, hc⟩ := isStrs_own ho
      obtain ⟨b, o, rfl, hc2⟩ := hc 0 x rfl
      have hc3 : w1.cell? ⟨b, o, none⟩ = some (.string (mkS x)) := hc2
      have HB1 := Lib.hid (HB0.out.trans (hb.mono hsz))
      clear hc hc2 ho hb
      go_wp2_with fail
      refine (HC.out _).mono ?_
      rintro e w2 ⟨rfl, hb⟩
      have HB2 := Lib.hid (HB1.out.trans (hb.mono HB1.out.size))
      have hb3 : Below w2.heap.size w2 (w2.alloc (.cells #[.bool tk, .string (mkS tv)] 81)) := (Below.refl _ _).alloc (Nat.le_refl _) _
      have hT3 := (HT1.out.later hb).later hb3
      have HB3 := Lib.hid (HB2.out.trans (hb3.mono HB2.out.size))
      have f0 := hT3.f0
      have f1 := hT3.f1
      have c0 := hT3.c0
      have c1 := hT3.c1
      have hput := hT3.put (.bool tk) (.string (mkS tv))
      have q0 := hput.1
      have q1 := hput.2
      clear hput hb hb3 hT3
      go_wp2_with fail
      refine bodyPost_ret (v := .tuple #[.agg #[.bool tk, .string (mkS tv)], .bool true]) ?_ rfl ⟨tgRet2 HQ.out.1 HQ.out.2, ?_⟩
      · simp [results, Tryz.results106, go_sem, q0, q1]
      · exact (HB3.out.setCell (p := ⟨w.heap.size, 0, none⟩) (Nat.le_refl _) _).setCell (p := ⟨w.heap.size, 1, none⟩) (Nat.le_refl _) _
  · have HQ := Lib.hid (one_not P hP)
    have hne : ((P.length : Int) == 1) = false := by rw [beq_eq_false_iff_ne]; omega
    have hne2 : ((P.length : Int) != 1) = true := by unfold bne; rw [hne]; rfl
    clear hP hone
    go_enter Tryz.func106, Tryz.ntmps106
    go_wp2_with fail
    refine HA.out.mono ?_
    rintro e w1 ⟨v1, rfl, ho, hb⟩
    obtain ⟨a', c', rfl, hc⟩ := isStrs_own ho
    have hT1 := HT.out.later hb
    have HB1 := Lib.hid (HB0.out.trans (hb.mono hsz))
    have f0 := hT1.f0
    have f1 := hT1.f1
    have c0 := hT1.c0
    have c1 := hT1.c1
    have hput := hT1.put (.bool false) (.string ⟨#[]⟩)
    have q0 := hput.1
    have q1 := hput.2
    clear hput hb hc ho hT1
    go_wp2_with fail
    refine bodyPost_ret (v := .tuple #[.agg #[.bool false, .string (mkS [])], .bool false]) ?_ rfl ⟨tgRet2 HQ.out.1 HQ.out.2.1, ?_⟩
    · simp [results, Tryz.results106, go_sem, q0, q1]; rfl
    · exact (HB1.out.setCell (p := ⟨w.heap.size, 0, none⟩) (Nat.le_refl _) _).setCell (p := ⟨w.heap.size, 1, none⟩) (Nat.le_refl _) _

set_option maxHeartbeats 4000000 in
set_option maxRecDepth 100000 in
theorem timeOf_any (v : Value) (l : List (Bs × Bs)) (name : Bs) (now : Int) (w : World) (hN : NamH w) (hs : IsFlds w v l) (hz : sumF l ≤ 1000000) (hl : l.length ≤ 1048576) (hn : name.length ≤ 1000) :
    Calls Tryz.prog 107 #[v, .string (mkS name), .int .i64 now] w fun e w' => e = .returned (.tuple #[.int .i64 (optV (oneV (allF l name) now)), .bool (oneV (allF l name) now).isSome]) ∧ Below w.heap.size w w' := by
  have HA := Lib.hid (fall_any v l name w hs (sum_each l (by omega)) (by omega) hl)
  have hone := one_mem name l
  unfold ListPost at HA
  obtain ⟨a, cap, rfl⟩ : ∃ a cap, v = .slice a l.length cap := by obtain ⟨a, c, h, -⟩ := hs; exact ⟨a, c, h⟩
  clear hs
  generalize allF l name = P at *
  by_cases hP : P.length = 1
  · obtain ⟨x, rfl⟩ : ∃ x, P = [x] := by
      match P, hP with
      | [x], _ => exact ⟨x, rfl⟩
    have hx := hone x rfl
    have HC : Hid (∀ W : World, Below w.heap.size w W → Calls Tryz.prog 173 #[.string (mkS x), .int .i64 now] W (OptPost (oneV [x] now) W)) := fun W hb => by
      have := parse_any (mkS x) now W (hN.later hb) (by rw [size_mkS]; omega)
      rw [bs_mkS] at this
      exact this
    unfold OptPost at HC
    clear hN hone hP hx
    generalize oneV [x] now = o at *
    cases o with
    | none =>
      go_enter Tryz.func107, Tryz.ntmps107
      go_wp2_with fail
      refine HA.out.mono ?_
      rintro e w1 ⟨v1, rfl, ho, hb⟩
      obtain ⟨a', c', rfl, hc⟩ := isStrs_own ho
      obtain ⟨b, o, rfl, hc2⟩ := hc 0 x rfl
      have hc3 : w1.cell? ⟨b, o, none⟩ = some (.string (mkS x)) := hc2
      have HB1 := Lib.hid hb
      have HC1 : Hid (Calls Tryz.prog 173 #[.string (mkS x), .int .i64 now] w1 fun e w' => e = .returned (.tuple #[.int .i64 0, .int .i64 4]) ∧ Below w1.heap.size w1 w') := HC.out w1 hb
      clear hc hc2 ho hb HC
      go_wp2_with fail
      refine HC1.out.mono ?_
      rintro e w2 ⟨rfl, hb⟩
      have HB2 := Lib.hid (HB1.out.trans (hb.mono HB1.out.size))
      clear hb
      go_wp2_with fail
      go_ret2
      exact ⟨rfl, HB2.out⟩
    | some t =>
      go_enter Tryz.func107, Tryz.ntmps107
      go_wp2_with fail
      refine HA.out.mono ?_
      rintro e w1 ⟨v1, rfl, ho, hb⟩
      obtain ⟨a', c', rfl, hc⟩ := isStrs_own ho
      obtain ⟨b, o, rfl, hc2⟩ := hc 0 x rfl
      have hc3 : w1.cell? ⟨b, o, none⟩ = some (.string (mkS x)) := hc2
      have HB1 := Lib.hid hb
      have HC1 : Hid (Calls Tryz.prog 173 #[.string (mkS x), .int .i64 now] w1 fun e w' => e = .returned (.tuple #[.int .i64 t, .int .i64 0]) ∧ Below w1.heap.size w1 w') := HC.out w1 hb
      clear hc hc2 ho hb HC
      go_wp2_with fail
      refine HC1.out.mono ?_
      rintro e w2 ⟨rfl, hb⟩
      have HB2 := Lib.hid (HB1.out.trans (hb.mono HB1.out.size))
      clear hb
      go_wp2_with fail
      go_ret2
      exact ⟨rfl, HB2.out⟩
  · have HQ := Lib.hid ((one_not P hP).2.2 now)
    have hne : ((P.length : Int) == 1) = false := by rw [beq_eq_false_iff_ne]; omega
    have hne2 : ((P.length : Int) != 1) = true := by unfold bne; rw [hne]; rfl
    clear hP hone hN
    generalize oneV P now = o at *
    go_enter Tryz.func107, Tryz.ntmps107
    go_wp2_with fail
    refine HA.out.mono ?_
    rintro e w1 ⟨v1, rfl, ho, hb⟩
    obtain ⟨a', c', rfl, hc⟩ := isStrs_own ho
    have HB1 := Lib.hid hb
    clear hb hc ho
    go_wp2_with fail
    go_ret2
    exact ⟨opRet (by rw [HQ.out]; rfl) (by rw [HQ.out]; rfl), HB1.out⟩

set_option maxHeartbeats 4000000 in
set_option maxRecDepth 100000 in
/-- Unchanged of any request -/
theorem unch_any (v : Value) (l : List (Bs × Bs)) (c : Ck) (now : Int) (w : World) (hN : NamH w) (hs : IsFlds w v l) (hz : sumF l ≤ 1000000) (hl : l.length ≤ 1048576) :
    Calls Tryz.prog 53 #[v, ckV c, .int .i64 now] w fun e w' => e = .returned (.bool (unB l c now)) ∧ Below w.heap.size w w' := by
  by_cases hp : 0 < (allF l nINM).length
  · unfold unB
    rw [if_pos hp]
    exact unchT_any v l c now w hs hz hl hp
  have hun : unB l c now = sncB (oneV (allF l nIMS) now) c := by unfold unB; rw [if_neg hp]
  have HU := Lib.hid hun
  have hb0 : Below w.heap.size w (w.alloc (.cells (ckA c) 89)) := (Below.refl _ _).alloc (Nat.le_refl _) _
  have hBx := Bx.new w 89 (ckA c)
  have HA := Lib.hid (fall_any v l nINM _ (isFlds_below hs hb0) (sum_each l (by omega)) (by decide) hl)
  unfold ListPost at HA
  have HTm : Hid (∀ W : World, Below w.heap.size w W → Calls Tryz.prog 107 #[v, .string (mkS nIMS), .int .i64 now] W fun e w' => e = .returned (.tuple #[.int .i64 (optV (oneV (allF l nIMS) now)), .bool (oneV (allF l nIMS) now).isSome]) ∧ Below W.heap.size W w') :=
    fun W hb => timeOf_any v l nIMS now W (hN.later hb) (isFlds_below hs hb) hz hl (by decide)
  obtain ⟨a, cap, rfl⟩ : ∃ a cap, v = .slice a l.length cap := by obtain ⟨a, c, h, -⟩ := hs; exact ⟨a, c, h⟩
  have HB0 := Lib.hid hb0
  have HBx := Lib.hid hBx
  have hsz : w.heap.size ≤ (w.alloc (.cells (ckA c) 89)).heap.size := by simp
  have hP : ¬ (0 : Int) < ((allF l nINM).length : Int) := by omega
  clear hb0 hBx hs hN hun hp
  generalize allF l nINM = P at *
  generalize unB l c now = q at *
  generalize oneV (allF l nIMS) now = o at *
  unfold nINM mkS at HA
  unfold nIMS mkS at HTm
  obtain ⟨cw, cv, ch, ca, cb⟩ := c
  unfold ckV ckA at *
  simp only at *
  cases o with
  | none =>
    have HQ : Hid (q = false) := HU.out
    clear HU
    go_enter Tryz.func53, Tryz.ntmps53
    go_wp2_with fail
    refine HA.out.mono ?_
    rintro e w1 ⟨v1, rfl, ho, hb⟩
    obtain ⟨a1, c1, rfl⟩ : ∃ a c, v1 = .slice a P.length c := by obtain ⟨a, c, h, -⟩ := isStrs_own ho; exact ⟨a, c, h⟩
    have HB1 := Lib.hid (HB0.out.trans (hb.mono hsz))
    have HT1 : Hid (Calls Tryz.prog 107 #[.slice a l.length cap, .string ⟨#[73, 102, 45, 77, 111, 100, 105, 102, 105, 101, 100, 45, 83, 105, 110, 99, 101]⟩, .int .i64 now] w1 fun e w' => e = .returned (.tuple #[.int .i64 0, .bool false]) ∧ Below w1.heap.size w1 w') := HTm.out w1 HB1.out
    clear hb ho HTm
    go_wp2_with fail
    refine HT1.out.mono ?_
    rintro e w2 ⟨rfl, hb⟩
    have HB2 := Lib.hid (HB1.out.trans (hb.mono HB1.out.size))
    clear hb
    go_wp2_with fail
    go_ret
    exact ⟨by rw [HQ.out]; rfl, HB2.out⟩
  | some t =>
    have HQ : Hid (q = (cb && decide (ca ≤ t))) := HU.out
    clear HU
    cases cb
    · go_enter Tryz.func53, Tryz.ntmps53
      go_wp2_with fail
      refine HA.out.mono ?_
      rintro e w1 ⟨v1, rfl, ho, hb⟩
      obtain ⟨a1, c1, rfl⟩ : ∃ a c, v1 = .slice a P.length c := by obtain ⟨a, c, h, -⟩ := isStrs_own ho; exact ⟨a, c, h⟩
      have HB1 := Lib.hid (HB0.out.trans (hb.mono hsz))
      have HX1 := Lib.hid (HBx.out.later hb)
      have HT1 : Hid (Calls Tryz.prog 107 #[.slice a l.length cap, .string ⟨#[73, 102, 45, 77, 111, 100, 105, 102, 105, 101, 100, 45, 83, 105, 110, 99, 101]⟩, .int .i64 now] w1 fun e w' => e = .returned (.tuple #[.int .i64 t, .bool true]) ∧ Below w1.heap.size w1 w') := HTm.out w1 HB1.out
      clear hb ho HTm
      go_wp2_with fail
      refine HT1.out.mono ?_
      rintro e w2 ⟨rfl, hb⟩
      have HB2 := Lib.hid (HB1.out.trans (hb.mono HB1.out.size))
      have hX2 := HX1.out.later hb
      have c4 := hX2.cell 4 _ rfl
      have c3 := hX2.cell 3 _ rfl
      clear hb hX2
      go_wp2_with fail
      go_ret
      exact ⟨by rw [HQ.out]; rfl, HB2.out⟩
    · go_enter Tryz.func53, Tryz.ntmps53
      go_wp2_with fail
      refine HA.out.mono ?_
      rintro e w1 ⟨v1, rfl, ho, hb⟩
      obtain ⟨a1, c1, rfl⟩ : ∃ a c, v1 = .slice a P.length c := by obtain ⟨a, c, h, -⟩ := isStrs_own ho; exact ⟨a, c, h⟩
      have HB1 := Lib.hid (HB0.out.trans (hb.mono hsz))
      have HX1 := Lib.hid (HBx.out.later hb)
      have HT1 : Hid (Calls Tryz.prog 107 #[.slice a l.length cap, .string ⟨#[73, 102, 45, 77, 111, 100, 105, 102, 105, 101, 100, 45, 83, 105, 110, 99, 101]⟩, .int .i64 now] w1 fun e w' => e = .returned (.tuple #[.int .i64 t, .bool true]) ∧ Below w1.heap.size w1 w') := HTm.out w1 HB1.out
      clear hb ho HTm
      go_wp2_with fail
      refine HT1.out.mono ?_
      rintro e w2 ⟨rfl, hb⟩
      have HB2 := Lib.hid (HB1.out.trans (hb.mono HB1.out.size))
      have hX2 := HX1.out.later hb
      have c4 := hX2.cell 4 _ rfl
      have c3 := hX2.cell 3 _ rfl
      clear hb hX2
      go_wp2_with fail
      go_ret
      exact ⟨by rw [HQ.out]; rfl, HB2.out⟩
end Tk
end Go.Proofs.YthooghgiokgdhaaGreatDoor
