/- field.Line: the field of a line, or that it is none. -/
import Derived.Test.YtanilbckakoogaaGreatDoorFldB
namespace Go.Proofs.YtanilbckakoogaaGreatDoor
open Go.RowKit
namespace Tk

def lnN (l : Bs) : Bs := if lineOk l then lineN l else []
def lnV (l : Bs) : Bs := if lineOk l then lineV l else []
def lnE (l : Bs) : Int := if lineOk l then 0 else 4
def LinePost (l : Bs) (w : World) (e : Ending) (w' : World) : Prop := e = .returned (.tuple #[.agg #[.string (mkS (lnN l)), .string (mkS (lnV l))], .int .i64 (lnE l)]) ∧ Below w.heap.size w w'
theorem ln_ok (l : Bs) (h : lineOk l = true) : lnN l = lineN l ∧ lnV l = lineV l ∧ lnE l = 0 := by unfold lnN lnV lnE; rw [h]; exact ⟨rfl, rfl, rfl⟩
theorem ln_no (l : Bs) (h : lineOk l = false) : lnN l = [] ∧ lnV l = [] ∧ lnE l = 4 := by unfold lnN lnV lnE; rw [h]; exact ⟨rfl, rfl, rfl⟩

theorem cut_len1 (c : UInt8) (l : Bs) : (cutL c l).1.length ≤ l.length := by
  unfold cutL
  split
  · exact (List.takeWhile_sublist (· != c) (l := l)).length_le
  · exact Nat.le_refl _
theorem cut_len2 (c : UInt8) (l : Bs) : (cutL c l).2.1.length ≤ l.length := by
  unfold cutL
  split
  · refine Nat.le_trans (by simp) ((List.dropWhile_sublist (· != c) (l := l)).length_le)
  · simp

/-- a block of two cells of the call's own, and what becomes of it -/
def Two (w : World) (g : Nat) (T : TypeId) (a b : Value) : Prop := w.heap[g]? = some (.cells #[a, b] T (0, 0))
theorem Two.new (w : World) (T : TypeId) (a b : Value) : Two (w.alloc (.cells #[a, b] T)) w.heap.size T a b := heap_alloc_last w _
theorem Two.later {w w' : World} {g : Nat} {T : TypeId} {a b : Value} (h : Two w g T a b) (hb : Below w.heap.size w w') : Two w' g T a b := by
  unfold Two at *
  have hlt : g < w.heap.size := (Array.getElem?_eq_some_iff.1 h).1
  rw [hb.block g hlt]; exact h
theorem Two.draws {w : World} {g : Nat} {T : TypeId} {a b : Value} (h : Two w g T a b) (n : Nat) : Two (w.drewN n) g T a b := h
theorem Two.lt {w : World} {g : Nat} {T : TypeId} {a b : Value} (h : Two w g T a b) : g < w.heap.size := (Array.getElem?_eq_some_iff.1 h).1
theorem Two.c0 {w : World} {g : Nat} {T : TypeId} {a b : Value} (h : Two w g T a b) : w.cell? ⟨g, 0, none⟩ = some a := by rw [Lib.cell_of_heap h]; rfl
theorem Two.c1 {w : World} {g : Nat} {T : TypeId} {a b : Value} (h : Two w g T a b) : w.cell? ⟨g, 1, none⟩ = some b := by rw [Lib.cell_of_heap h]; rfl
theorem Two.f0 {w : World} {g : Nat} {T : TypeId} {a b : Value} (h : Two w g T a b) : w.frozen? ⟨g, 0, none⟩ = false := Lib.frozen_of_heap h 0
theorem Two.f1 {w : World} {g : Nat} {T : TypeId} {a b : Value} (h : Two w g T a b) : w.frozen? ⟨g, 1, none⟩ = false := Lib.frozen_of_heap h 1

theorem Two.set {w : World} {g : Nat} {T : TypeId} {a b : Value} (h : Two w g T a b) (a' b' : Value) (o : Obj) :
    (((w.setCell ⟨g, 0, none⟩ a').setCell ⟨g, 1, none⟩ b').alloc o).cell? ⟨g, 0, none⟩ = some a' ∧ (((w.setCell ⟨g, 0, none⟩ a').setCell ⟨g, 1, none⟩ b').alloc o).cell? ⟨g, 1, none⟩ = some b' := by
  have hlt : g < ((w.setCell ⟨g, 0, none⟩ a').setCell ⟨g, 1, none⟩ b').heap.size := by simpa using h.lt
  have h1 : (w.setCell ⟨g, 0, none⟩ a').cell? ⟨g, 1, none⟩ = some b := by
    rw [World.cell?_setCell_other (w := w) (a := ⟨g, 0, none⟩) (b := ⟨g, 1, none⟩) (h := by intro e; injection e with _ e2; cases e2)]; exact h.c1
  constructor
  · rw [World.cell?_alloc_lt _ _ _ hlt, World.cell?_setCell_other (w := w.setCell ⟨g, 0, none⟩ a') (a := ⟨g, 1, none⟩) (b := ⟨g, 0, none⟩) (h := by intro e; injection e with _ e2; cases e2)]
    exact World.cell?_setCell_same _ _ _ h.c0
  · rw [World.cell?_alloc_lt _ _ _ hlt]
    exact World.cell?_setCell_same _ _ _ h1
theorem Two.put {w : World} {g : Nat} {T : TypeId} {a b : Value} (h : Two w g T a b) (a' b' : Value) :
    ((w.setCell ⟨g, 0, none⟩ a').setCell ⟨g, 1, none⟩ b').cell? ⟨g, 0, none⟩ = some a' ∧ ((w.setCell ⟨g, 0, none⟩ a').setCell ⟨g, 1, none⟩ b').cell? ⟨g, 1, none⟩ = some b' := by
  have h1 : (w.setCell ⟨g, 0, none⟩ a').cell? ⟨g, 1, none⟩ = some b := by
    rw [World.cell?_setCell_other (w := w) (a := ⟨g, 0, none⟩) (b := ⟨g, 1, none⟩) (h := by intro e; injection e with _ e2; cases e2)]; exact h.c1
  constructor
  · rw [World.cell?_setCell_other (w := w.setCell ⟨g, 0, none⟩ a') (a := ⟨g, 1, none⟩) (b := ⟨g, 0, none⟩) (h := by intro e; injection e with _ e2; cases e2)]
    exact World.cell?_setCell_same _ _ _ h.c0
  · exact World.cell?_setCell_same _ _ _ h1
theorem Two.below {w0 w : World} {B g : Nat} {T : TypeId} {a b : Value} (hb : Below B w0 w) (h : Two w g T a b) (hg : B ≤ g) (a' b' : Value) (o : Obj) : Below B w0 (((w.setCell ⟨g, 0, none⟩ a').setCell ⟨g, 1, none⟩ b').alloc o) :=
  ((hb.setCell (p := ⟨g, 0, none⟩) hg _).setCell (p := ⟨g, 1, none⟩) hg _).alloc (by have := h.lt; simp; omega) _

set_option maxHeartbeats 4000000 in
set_option maxRecDepth 100000 in
theorem line_no (s : ByteArray) (w : World) (hs : s.size ≤ 1099511627) (hc : (cutL 58 (bs s)).2.2 = false) :
    Calls Tryz.prog 61 #[.string s] w (LinePost (bs s) w) := by
  have HC := Lib.hid (fun W : World => cut_any s 58 W (by omega))
  unfold CutPost at HC
  rw [hc] at HC
  have hno : lineOk (bs s) = false := by unfold lineOk; rw [hc]; rfl
  obtain ⟨e1, e2, e3⟩ := ln_no _ hno
  have E1 := Lib.hid e1
  have E2 := Lib.hid e2
  have E3 := Lib.hid e3
  have l1 := cut_len1 58 (bs s)
  have l2 := cut_len2 58 (bs s)
  rw [length_bs] at l1 l2
  have HCl := Lib.hid (fun W : World => clone_any (mkS (cutL 58 (bs s)).1) W (by rw [size_mkS]; omega))
  have HTr := Lib.hid (fun W : World => trim_any (mkS (cutL 58 (bs s)).2.1) W (by rw [size_mkS]; omega))
  rw [bs_mkS] at HCl HTr
  have HN := Lib.hid (Two.new w 40 (.string ⟨#[]⟩) (.string ⟨#[]⟩))
  have HB0 := Lib.hid (show Below w.heap.size w (w.alloc (.cells #[.string ⟨#[]⟩, .string ⟨#[]⟩] 40)) from (Below.refl _ _).alloc (Nat.le_refl _) _)
  clear hc hno e1 e2 e3
  go_enter Tryz.func61, Tryz.ntmps61
  go_wp2_with fail
  generalize w.alloc (.cells #[.string ⟨#[]⟩, .string ⟨#[]⟩] 40) = W0 at *
  refine (HC.out _).mono ?_
  rintro e w' ⟨rfl, n, rfl⟩
  have HN1 := Lib.hid (HN.out.draws n)
  have HB1 := Lib.hid (HB0.out.trans (⟨rfl, rfl, rfl, Nat.le_refl _, fun _ _ => rfl⟩ : Below w.heap.size W0 (W0.drewN n)))
  go_wp2_with fail
  refine (HCl.out _).mono ?_
  rintro e w2 ⟨rfl, hb⟩
  have HN2 := Lib.hid (HN1.out.later hb)
  have HB2 := Lib.hid (HB1.out.trans (hb.mono HB1.out.size))
  clear hb
  go_wp2_with fail
  refine (HTr.out _).mono ?_
  rintro e w3 ⟨rfl, hb⟩
  have HN3 := HN2.out.later hb
  have HB3 := Lib.hid (HB2.out.trans (hb.mono HB2.out.size))
  have q0 := HN3.c0
  have q1 := HN3.c1
  have r0 := HN3.f0
  have r1 := HN3.f1
  have hlt := HN3.lt
  have HH := Lib.hid HN3
  clear hb HN3
  go_wp2_with fail
  obtain ⟨z0, z1⟩ := HH.out.set (.string ⟨#[]⟩) (.string ⟨#[]⟩) (Obj.cells #[.string (mkS (cutL 58 (bs s)).1), .string (mkS (trimL (cutL 58 (bs s)).2.1))] 40)
  refine bodyPost_ret (v := .tuple #[.agg #[.string ⟨#[]⟩, .string ⟨#[]⟩], .int .i64 4]) ?_ rfl ⟨?_, ?_⟩
  · simp [results, Tryz.results61, go_sem, z0, z1]
  · rw [E1.out, E2.out, E3.out]; rfl
  · exact Two.below HB3.out HH.out (Nat.le_refl _) _ _ _
set_option maxHeartbeats 4000000 in
set_option maxRecDepth 100000 in
theorem line_bad (s : ByteArray) (w : World) (hs : s.size ≤ 1099511627) (hc : (cutL 58 (bs s)).2.2 = true) (hk : okF (cutL 58 (bs s)).1 (trimL (cutL 58 (bs s)).2.1) = false) :
    Calls Tryz.prog 61 #[.string s] w (LinePost (bs s) w) := by
  have HC := Lib.hid (fun W : World => cut_any s 58 W (by omega))
  unfold CutPost at HC
  rw [hc] at HC
  have hlo : lineOk (bs s) = okF (cutL 58 (bs s)).1 (trimL (cutL 58 (bs s)).2.1) := by unfold lineOk; rw [hc]; rfl
  have l1 := cut_len1 58 (bs s)
  have l2 := cut_len2 58 (bs s)
  have l3 := trim_sublist (cutL 58 (bs s)).2.1
  rw [length_bs] at l1 l2
  have HCl := Lib.hid (fun W : World => clone_any (mkS (cutL 58 (bs s)).1) W (by rw [size_mkS]; omega))
  have HTr := Lib.hid (fun W : World => trim_any (mkS (cutL 58 (bs s)).2.1) W (by rw [size_mkS]; omega))
  have HCk := Lib.hid (fun W : World => check_any' (mkS (cutL 58 (bs s)).1) (mkS (trimL (cutL 58 (bs s)).2.1)) W (by rw [size_mkS]; omega) (by rw [size_mkS]; omega))
  rw [bs_mkS] at HCl HTr
  rw [bs_mkS, bs_mkS] at HCk
  have HN := Lib.hid (Two.new w 40 (.string ⟨#[]⟩) (.string ⟨#[]⟩))
  have HB0 := Lib.hid (show Below w.heap.size w (w.alloc (.cells #[.string ⟨#[]⟩, .string ⟨#[]⟩] 40)) from (Below.refl _ _).alloc (Nat.le_refl _) _)
  rw [okE_no _ _ hk] at HCk
  obtain ⟨e1, e2, e3⟩ := ln_no _ (hlo.trans hk)
  have E1 := Lib.hid e1
  have E2 := Lib.hid e2
  have E3 := Lib.hid e3
  clear hc hk hlo e1 e2 e3
  generalize trimL (cutL 58 (bs s)).2.1 = V at *
  generalize (cutL 58 (bs s)).1 = N at *
  go_enter Tryz.func61, Tryz.ntmps61
  go_wp2_with fail
  generalize w.alloc (.cells #[.string ⟨#[]⟩, .string ⟨#[]⟩] 40) = W0 at *
  refine (HC.out _).mono ?_
  rintro e w' ⟨rfl, n, rfl⟩
  have HN1 := Lib.hid (HN.out.draws n)
  have HB1 := Lib.hid (HB0.out.trans (⟨rfl, rfl, rfl, Nat.le_refl _, fun _ _ => rfl⟩ : Below w.heap.size W0 (W0.drewN n)))
  go_wp2_with fail
  refine (HCl.out _).mono ?_
  rintro e w2 ⟨rfl, hb⟩
  have HN2 := Lib.hid (HN1.out.later hb)
  have HB2 := Lib.hid (HB1.out.trans (hb.mono HB1.out.size))
  clear hb
  go_wp2_with fail
  refine (HTr.out _).mono ?_
  rintro e w3 ⟨rfl, hb⟩
  have HN3 := Lib.hid (HN2.out.later hb)
  have HB3 := Lib.hid (HB2.out.trans (hb.mono HB2.out.size))
  have hlt := HN3.out.lt
  clear hb
  have HF3 := Lib.hid (Two.new w3 40 (.string (mkS N)) (.string (mkS V)))
  have HN4 := Lib.hid (HN3.out.later ((Below.refl _ _).alloc (Nat.le_refl _) (Obj.cells #[.string (mkS N), .string (mkS V)] 40)))
  have HB4 := Lib.hid (HB3.out.alloc HB3.out.size (Obj.cells #[.string (mkS N), .string (mkS V)] 40))
  go_wp2_with fail
  generalize w3.alloc (Obj.cells #[.string (mkS N), .string (mkS V)] 40) = w4 at *
  generalize w3.heap.size = f at *
  refine (HCk.out _).mono ?_
  rintro e w5 ⟨rfl, hb⟩
  have HF5 := HF3.out.later hb
  have HN5 := HN4.out.later hb
  have HB5 := Lib.hid (HB4.out.trans (hb.mono HB4.out.size))
  have q0 := HN5.c0
  have q1 := HN5.c1
  have r0 := HN5.f0
  have r1 := HN5.f1
  have s0 := HF5.c0
  have s1 := HF5.c1
  have HH := Lib.hid HN5
  clear hb HN5 HF5
  go_wp2_with fail
  obtain ⟨z0, z1⟩ := HH.out.put (.string ⟨#[]⟩) (.string ⟨#[]⟩)
  refine bodyPost_ret (v := .tuple #[.agg #[.string ⟨#[]⟩, .string ⟨#[]⟩], .int .i64 4]) ?_ rfl ⟨?_, ?_⟩
  · simp [results, Tryz.results61, go_sem, z0, z1]
  · rw [E1.out, E2.out, E3.out]; rfl
  · exact (HB5.out.setCell (p := ⟨w.heap.size, 0, none⟩) (Nat.le_refl _) _).setCell (p := ⟨w.heap.size, 1, none⟩) (Nat.le_refl _) _

set_option maxHeartbeats 4000000 in
set_option maxRecDepth 100000 in
theorem line_yes (s : ByteArray) (w : World) (hs : s.size ≤ 1099511627) (hc : (cutL 58 (bs s)).2.2 = true) (hk : okF (cutL 58 (bs s)).1 (trimL (cutL 58 (bs s)).2.1) = true) :
    Calls Tryz.prog 61 #[.string s] w (LinePost (bs s) w) := by
  have HC := Lib.hid (fun W : World => cut_any s 58 W (by omega))
  unfold CutPost at HC
  rw [hc] at HC
  have hlo : lineOk (bs s) = okF (cutL 58 (bs s)).1 (trimL (cutL 58 (bs s)).2.1) := by unfold lineOk; rw [hc]; rfl
  have l1 := cut_len1 58 (bs s)
  have l2 := cut_len2 58 (bs s)
  have l3 := trim_sublist (cutL 58 (bs s)).2.1
  rw [length_bs] at l1 l2
  have HCl := Lib.hid (fun W : World => clone_any (mkS (cutL 58 (bs s)).1) W (by rw [size_mkS]; omega))
  have HTr := Lib.hid (fun W : World => trim_any (mkS (cutL 58 (bs s)).2.1) W (by rw [size_mkS]; omega))
  have HCk := Lib.hid (fun W : World => check_any' (mkS (cutL 58 (bs s)).1) (mkS (trimL (cutL 58 (bs s)).2.1)) W (by rw [size_mkS]; omega) (by rw [size_mkS]; omega))
  rw [bs_mkS] at HCl HTr
  rw [bs_mkS, bs_mkS] at HCk
  have HN := Lib.hid (Two.new w 40 (.string ⟨#[]⟩) (.string ⟨#[]⟩))
  have HB0 := Lib.hid (show Below w.heap.size w (w.alloc (.cells #[.string ⟨#[]⟩, .string ⟨#[]⟩] 40)) from (Below.refl _ _).alloc (Nat.le_refl _) _)
  rw [okE_ok _ _ hk] at HCk
  obtain ⟨e1, e2, e3⟩ := ln_ok _ (hlo.trans hk)
  have E1 := Lib.hid (show lnN (bs s) = (cutL 58 (bs s)).1 from e1)
  have E2 := Lib.hid (show lnV (bs s) = trimL (cutL 58 (bs s)).2.1 from e2)
  have E3 := Lib.hid e3
  clear hc hk hlo e1 e2 e3
  generalize trimL (cutL 58 (bs s)).2.1 = V at *
  generalize (cutL 58 (bs s)).1 = N at *
  go_enter Tryz.func61, Tryz.ntmps61
  go_wp2_with fail
  generalize w.alloc (.cells #[.string ⟨#[]⟩, .string ⟨#[]⟩] 40) = W0 at *
  refine (HC.out _).mono ?_
  rintro e w' ⟨rfl, n, rfl⟩
  have HN1 := Lib.hid (HN.out.draws n)
  have HB1 := Lib.hid (HB0.out.trans (⟨rfl, rfl, rfl, Nat.le_refl _, fun _ _ => rfl⟩ : Below w.heap.size W0 (W0.drewN n)))
  go_wp2_with fail
  refine (HCl.out _).mono ?_
  rintro e w2 ⟨rfl, hb⟩
  have HN2 := Lib.hid (HN1.out.later hb)
  have HB2 := Lib.hid (HB1.out.trans (hb.mono HB1.out.size))
  clear hb
  go_wp2_with fail
  refine (HTr.out _).mono ?_
  rintro e w3 ⟨rfl, hb⟩
  have HN3 := Lib.hid (HN2.out.later hb)
  have HB3 := Lib.hid (HB2.out.trans (hb.mono HB2.out.size))
  have hlt := HN3.out.lt
  clear hb
  have HF3 := Lib.hid (Two.new w3 40 (.string (mkS N)) (.string (mkS V)))
  have HN4 := Lib.hid (HN3.out.later ((Below.refl _ _).alloc (Nat.le_refl _) (Obj.cells #[.string (mkS N), .string (mkS V)] 40)))
  have HB4 := Lib.hid (HB3.out.alloc HB3.out.size (Obj.cells #[.string (mkS N), .string (mkS V)] 40))
  go_wp2_with fail
  generalize w3.alloc (Obj.cells #[.string (mkS N), .string (mkS V)] 40) = w4 at *
  generalize w3.heap.size = f at *
  refine (HCk.out _).mono ?_
  rintro e w5 ⟨rfl, hb⟩
  have HF5 := HF3.out.later hb
  have HN5 := HN4.out.later hb
  have HB5 := Lib.hid (HB4.out.trans (hb.mono HB4.out.size))
  have q0 := HN5.c0
  have q1 := HN5.c1
  have r0 := HN5.f0
  have r1 := HN5.f1
  have s0 := HF5.c0
  have s1 := HF5.c1
  have HH := Lib.hid HN5
  clear hb HN5 HF5
  go_wp2_with fail
  obtain ⟨z0, z1⟩ := HH.out.put (.string (mkS N)) (.string (mkS V))
  refine bodyPost_ret (v := .tuple #[.agg #[.string (mkS N), .string (mkS V)], .int .i64 0]) ?_ rfl ⟨?_, ?_⟩
  · simp [results, Tryz.results61, go_sem, z0, z1]
  · rw [E1.out, E2.out, E3.out]
  · exact (HB5.out.setCell (p := ⟨w.heap.size, 0, none⟩) (Nat.le_refl _) _).setCell (p := ⟨w.heap.size, 1, none⟩) (Nat.le_refl _) _

theorem line_any (s : ByteArray) (w : World) (hs : s.size ≤ 1099511627) :
    Calls Tryz.prog 61 #[.string s] w (LinePost (bs s) w) := by
  cases hc : (cutL 58 (bs s)).2.2
  · exact line_no s w hs hc
  · cases hk : okF (cutL 58 (bs s)).1 (trimL (cutL 58 (bs s)).2.1)
    · exact line_bad s w hs hc hk
    · exact line_yes s w hs hc hk
end Tk
end Go.Proofs.YtanilbckakoogaaGreatDoor
