/- start.Target: what a target denotes: a CONNECT's. -/
import Derived.Test.YtliinjibnikfgaaDoorStaE
import Derived.Test.YtliinjibnikfgaaDoorTokE
namespace Go.Proofs.YtliinjibnikfgaaDoor
open Go.RowKit
namespace Tk

/-- a block of three cells of the call's own, and what becomes of it -/
def Thr (w : World) (g : Nat) (T : TypeId) (a b c : Value) : Prop := w.heap[g]? = some (.cells #[a, b, c] T (0, 0))
theorem Thr.new (w : World) (T : TypeId) (a b c : Value) : Thr (w.alloc (.cells #[a, b, c] T)) w.heap.size T a b c := heap_alloc_last w _
theorem Thr.lt {w : World} {g : Nat} {T : TypeId} {a b c : Value} (h : Thr w g T a b c) : g < w.heap.size := (Array.getElem?_eq_some_iff.1 h).1
theorem Thr.later {w w' : World} {g : Nat} {T : TypeId} {a b c : Value} (h : Thr w g T a b c) (hb : Below w.heap.size w w') : Thr w' g T a b c := by
  unfold Thr at *
  have hlt : g < w.heap.size := (Array.getElem?_eq_some_iff.1 h).1
  rw [hb.block g hlt]; exact h
theorem Thr.c0 {w : World} {g : Nat} {T : TypeId} {a b c : Value} (h : Thr w g T a b c) : w.cell? ⟨g, 0, none⟩ = some a := by rw [Lib.cell_of_heap h]; rfl
theorem Thr.c1 {w : World} {g : Nat} {T : TypeId} {a b c : Value} (h : Thr w g T a b c) : w.cell? ⟨g, 1, none⟩ = some b := by rw [Lib.cell_of_heap h]; rfl
theorem Thr.c2 {w : World} {g : Nat} {T : TypeId} {a b c : Value} (h : Thr w g T a b c) : w.cell? ⟨g, 2, none⟩ = some c := by rw [Lib.cell_of_heap h]; rfl
theorem Thr.f0 {w : World} {g : Nat} {T : TypeId} {a b c : Value} (h : Thr w g T a b c) : w.frozen? ⟨g, 0, none⟩ = false := Lib.frozen_of_heap h 0
theorem Thr.f1 {w : World} {g : Nat} {T : TypeId} {a b c : Value} (h : Thr w g T a b c) : w.frozen? ⟨g, 1, none⟩ = false := Lib.frozen_of_heap h 1
theorem Thr.f2 {w : World} {g : Nat} {T : TypeId} {a b c : Value} (h : Thr w g T a b c) : w.frozen? ⟨g, 2, none⟩ = false := Lib.frozen_of_heap h 2
theorem ne_off (g i j : Nat) (h : i ≠ j) : (⟨g, i, none⟩ : Addr) ≠ ⟨g, j, none⟩ := fun e => by injection e with _ e2; exact h e2
theorem Thr.put {w : World} {g : Nat} {T : TypeId} {a b c : Value} (h : Thr w g T a b c) (a' b' c' : Value) :
    (((w.setCell ⟨g, 0, none⟩ a').setCell ⟨g, 1, none⟩ b').setCell ⟨g, 2, none⟩ c').cell? ⟨g, 0, none⟩ = some a' ∧ (((w.setCell ⟨g, 0, none⟩ a').setCell ⟨g, 1, none⟩ b').setCell ⟨g, 2, none⟩ c').cell? ⟨g, 1, none⟩ = some b' ∧ (((w.setCell ⟨g, 0, none⟩ a').setCell ⟨g, 1, none⟩ b').setCell ⟨g, 2, none⟩ c').cell? ⟨g, 2, none⟩ = some c' := by
  have p0 : (w.setCell ⟨g, 0, none⟩ a').cell? ⟨g, 0, none⟩ = some a' := World.cell?_setCell_same _ _ _ h.c0
  have p1 : (w.setCell ⟨g, 0, none⟩ a').cell? ⟨g, 1, none⟩ = some b := (World.cell?_setCell_other w ⟨g, 0, none⟩ ⟨g, 1, none⟩ a' (ne_off g 0 1 (by omega))).trans h.c1
  have p2 : (w.setCell ⟨g, 0, none⟩ a').cell? ⟨g, 2, none⟩ = some c := (World.cell?_setCell_other w ⟨g, 0, none⟩ ⟨g, 2, none⟩ a' (ne_off g 0 2 (by omega))).trans h.c2
  generalize w.setCell ⟨g, 0, none⟩ a' = w1 at *
  have q0 : (w1.setCell ⟨g, 1, none⟩ b').cell? ⟨g, 0, none⟩ = some a' := (World.cell?_setCell_other w1 ⟨g, 1, none⟩ ⟨g, 0, none⟩ b' (ne_off g 1 0 (by omega))).trans p0
  have q1 : (w1.setCell ⟨g, 1, none⟩ b').cell? ⟨g, 1, none⟩ = some b' := World.cell?_setCell_same _ _ _ p1
  have q2 : (w1.setCell ⟨g, 1, none⟩ b').cell? ⟨g, 2, none⟩ = some c := (World.cell?_setCell_other w1 ⟨g, 1, none⟩ ⟨g, 2, none⟩ b' (ne_off g 1 2 (by omega))).trans p2
  generalize w1.setCell ⟨g, 1, none⟩ b' = w2 at *
  exact ⟨(World.cell?_setCell_other w2 ⟨g, 2, none⟩ ⟨g, 0, none⟩ c' (ne_off g 2 0 (by omega))).trans q0, (World.cell?_setCell_other w2 ⟨g, 2, none⟩ ⟨g, 1, none⟩ c' (ne_off g 2 1 (by omega))).trans q1, World.cell?_setCell_same _ _ _ q2⟩
theorem Thr.below {w0 w : World} {B g : Nat} (hb : Below B w0 w) (hg : B ≤ g) (a' b' c' : Value) : Below B w0 (((w.setCell ⟨g, 0, none⟩ a').setCell ⟨g, 1, none⟩ b').setCell ⟨g, 2, none⟩ c') :=
  ((hb.setCell (p := ⟨g, 0, none⟩) hg _).setCell (p := ⟨g, 1, none⟩) hg _).setCell (p := ⟨g, 2, none⟩) hg _

def tgSt (t : Nat × Bs × Bs) : Int := if t.1 = 0 then 400 else 0
def tgV (t : Nat × Bs × Bs) : Value := .tuple #[.agg #[.int .i64 t.1, .string (mkS t.2.1), .string (mkS t.2.2)], .int .i64 (tgSt t)]
def TgPost (t : Nat × Bs × Bs) (w : World) (e : Ending) (w' : World) : Prop := e = .returned (tgV t) ∧ Below w.heap.size w w'

def authL (s : Bs) : Nat × Bs × Bs := if hostP s ≠ [] ∧ hostL s = true then (3, lowL s, []) else (0, [], [])

set_option maxHeartbeats 4000000 in
set_option maxRecDepth 100000 in
theorem authority_any (s : ByteArray) (w : World) (hs : s.size ≤ 1099511627) :
    Calls Tryd.prog 77 #[.string s] w (TgPost (authL (bs s)) w) := by
  have hc := fun W => cutPort_any s W hs
  unfold CutPPost at hc
  have hh := fun W => host_any s W hs
  have hl := fun W => show Calls Tryd.prog 114 #[.string s] W (fun e w' => e = .returned (.string (mkS (lowL (bs s)))) ∧ Below W.heap.size W w') from tlower_any s W (by omega)
  have HN := Lib.hid (Thr.new w 32 (.int .i64 0) (.string ⟨#[]⟩) (.string ⟨#[]⟩))
  have HB0 := Lib.hid (show Below w.heap.size w (w.alloc (.cells #[.int .i64 0, .string ⟨#[]⟩, .string ⟨#[]⟩] 32)) from (Below.refl _ _).alloc (Nat.le_refl _) _)
  have hA : authL (bs s) = if hostP (bs s) ≠ [] ∧ hostL (bs s) = true then (3, lowL (bs s), []) else (0, [], []) := rfl
  have hpe := toList_bs (mkS (hostP (bs s)))
  rw [bs_mkS] at hpe
  have HC := Lib.hid hc
  have HL := Lib.hid hl
  clear hc hl
  by_cases hp : hostP (bs s) = []
  · have e1 : (mkS (hostP (bs s))).toList.isEmpty = true := by rw [hpe, hp]; rfl
    have HV := Lib.hid (show authL (bs s) = (0, [], []) by rw [hA, if_neg (fun h => h.1 hp)])
    clear hA hpe hp hh
    generalize mkS (hostP (bs s)) = P at *
    generalize mkS (hostN (bs s)) = N at *
    go_enter Tryd.func77, Tryd.ntmps77
    go_wp2_with fail
    generalize w.alloc (.cells #[.int .i64 0, .string ⟨#[]⟩, .string ⟨#[]⟩] 32) = W0 at *
    refine (HC.out _).mono ?_
    rintro e w1 ⟨rfl, hb⟩
    have HN1 := HN.out.later hb
    have HB1 := Lib.hid (HB0.out.trans (hb.mono HB0.out.size))
    have q0 := HN1.c0
    have q1 := HN1.c1
    have q2 := HN1.c2
    have r0 := HN1.f0
    have r1 := HN1.f1
    have r2 := HN1.f2
    have hlt := HN1.lt
    have HH := Lib.hid HN1
    clear hb HN1
    go_wp2_with fail
    obtain ⟨z0, z1, z2⟩ := HH.out.put (.int .i64 0) (.string ⟨#[]⟩) (.string ⟨#[]⟩)
    refine bodyPost_ret (v := .tuple #[.agg #[.int .i64 0, .string ⟨#[]⟩, .string ⟨#[]⟩], .int .i64 400]) ?_ rfl ⟨?_, Thr.below HB1.out (Nat.le_refl _) _ _ _⟩
    · simp [results, Tryd.results77, go_sem, z0, z1, z2]
    · rw [HV.out]; rfl
  · have e1 : (mkS (hostP (bs s))).toList.isEmpty = false := by rw [hpe]; simpa using hp
    cases hk : hostL (bs s)
    · rw [hk] at hh
      have HHo := Lib.hid hh
      have HV := Lib.hid (show authL (bs s) = (0, [], []) by rw [hA, if_neg (fun h => by rw [hk] at h; exact absurd h.2 (by decide))])
      clear hA hpe hp hh hk
      generalize mkS (hostP (bs s)) = P at *
      generalize mkS (hostN (bs s)) = N at *
      go_enter Tryd.func77, Tryd.ntmps77
      go_wp2_with fail
      generalize w.alloc (.cells #[.int .i64 0, .string ⟨#[]⟩, .string ⟨#[]⟩] 32) = W0 at *
      refine (HC.out _).mono ?_
      rintro e w1 ⟨rfl, hb⟩
      have HN1 := Lib.hid (HN.out.later hb)
      have HB1 := Lib.hid (HB0.out.trans (hb.mono HB0.out.size))
      clear hb
      go_wp2_with fail
      refine (HHo.out _).mono ?_
      rintro e w2 ⟨rfl, hb⟩
      have HN2 := HN1.out.later hb
      have HB2 := Lib.hid (HB1.out.trans (hb.mono HB1.out.size))
      have q0 := HN2.c0
      have q1 := HN2.c1
      have q2 := HN2.c2
      have r0 := HN2.f0
      have r1 := HN2.f1
      have r2 := HN2.f2
      have hlt := HN2.lt
      have HH := Lib.hid HN2
      clear hb HN2
      go_wp2_with fail
      obtain ⟨z0, z1, z2⟩ := HH.out.put (.int .i64 0) (.string ⟨#[]⟩) (.string ⟨#[]⟩)
      refine bodyPost_ret (v := .tuple #[.agg #[.int .i64 0, .string ⟨#[]⟩, .string ⟨#[]⟩], .int .i64 400]) ?_ rfl ⟨?_, Thr.below HB2.out (Nat.le_refl _) _ _ _⟩
      · simp [results, Tryd.results77, go_sem, z0, z1, z2]
      · rw [HV.out]; rfl
    · rw [hk] at hh
      have HHo := Lib.hid hh
      have HV := Lib.hid (show authL (bs s) = (3, lowL (bs s), []) by rw [hA, if_pos ⟨hp, hk⟩])
      clear hA hpe hp hh hk
      generalize mkS (hostP (bs s)) = P at *
      generalize mkS (hostN (bs s)) = N at *
      go_enter Tryd.func77, Tryd.ntmps77
      go_wp2_with fail
      generalize w.alloc (.cells #[.int .i64 0, .string ⟨#[]⟩, .string ⟨#[]⟩] 32) = W0 at *
      refine (HC.out _).mono ?_
      rintro e w1 ⟨rfl, hb⟩
      have HN1 := Lib.hid (HN.out.later hb)
      have HB1 := Lib.hid (HB0.out.trans (hb.mono HB0.out.size))
      clear hb
      go_wp2_with fail
      refine (HHo.out _).mono ?_
      rintro e w2 ⟨rfl, hb⟩
      have HN2 := Lib.hid (HN1.out.later hb)
      have HB2 := Lib.hid (HB1.out.trans (hb.mono HB1.out.size))
      clear hb
      go_wp2_with fail
      refine (HL.out _).mono ?_
      rintro e w3 ⟨rfl, hb⟩
      have HN3 := HN2.out.later hb
      have HB3 := Lib.hid (HB2.out.trans (hb.mono HB2.out.size))
      have q0 := HN3.c0
      have q1 := HN3.c1
      have q2 := HN3.c2
      have r0 := HN3.f0
      have r1 := HN3.f1
      have r2 := HN3.f2
      have hlt := HN3.lt
      have HH := Lib.hid HN3
      clear hb HN3
      go_wp2_with fail
      obtain ⟨z0, z1, z2⟩ := HH.out.put (.int .i64 3) (.string (mkS (lowL (bs s)))) (.string ⟨#[]⟩)
      refine bodyPost_ret (v := .tuple #[.agg #[.int .i64 3, .string (mkS (lowL (bs s))), .string ⟨#[]⟩], .int .i64 0]) ?_ rfl ⟨?_, Thr.below HB3.out (Nat.le_refl _) _ _ _⟩
      · simp [results, Tryd.results77, go_sem, z0, z1, z2]
      · rw [HV.out]; rfl
end Tk
end Go.Proofs.YtliinjibnikfgaaDoor
