/- CtB CtC CtQ, put together. -/
import Derived.Test.YtnbipbeeengiaaaGreatDoorQD
import Derived.Maps.OwnOps
import Derived.Maps.OwnSet
import Derived.Maps.Views
import Derived.StringKeys
import Derived.Test.YtnbipbeeengiaaaGreatDoorQC
namespace Go.Proofs.YtnbipbeeengiaaaGreatDoor
open Go.RowKit
namespace Tk

def ctlA (c : Ctl) : Array Value := #[.int .i64 c.a0, .int .i64 c.a1, .int .i64 c.a2, .int .i64 c.a3, .int .i64 c.a4, .int .i64 c.a5, .bool c.b0, .bool c.b1, .bool c.b2, .bool c.b3, .bool c.b4, .bool c.b5, .bool c.b6, .bool c.b7, .bool c.b8]
/-- what a setter does: the control in block g becomes this one; nothing else that lay is turned -/
def SetPost (g : Nat) (c : Ctl) (w : World) (e : Ending) (w' : World) : Prop := e = .returned (.tuple #[]) ∧ Bx w' g 63 (ctlA c) ∧ w.grownBy w' (some g)

set_option maxHeartbeats 2000000 in
set_option maxRecDepth 100000 in
theorem setter0 (g : Nat) (c : Ctl) (t : Bs) (h : Bool) (w : World) (hB : Bx w g 63 (ctlA c)) (ht : t.length ≤ 1099511627776) :
    Calls Tryz.prog 94 #[.pointer (some ⟨g, 0, none⟩), argV t h] w (SetPost g (set0 c t h) w) := by
  have hA := Bx.new w 113 #[.string (mkS t), .bool h]
  have c0 := hA.cell 0 _ rfl
  have c1 := hA.cell 1 _ rfl
  have hb0 : Below w.heap.size w (w.alloc (.cells #[.string (mkS t), .bool h] 113)) := (Below.refl _ _).alloc (Nat.le_refl _) _
  have HB := Lib.hid (hB.later hb0)
  have HG := Lib.hid (grownC_below hb0 (some g))
  have HS : Hid (∀ W : World, Calls Tryz.prog 96 #[.agg #[.string (mkS t), .bool h]] W fun e w' => e = .returned (.int .i64 (secN t)) ∧ Below W.heap.size W w') := fun W => secs_any t h W ht
  have HL : Hid (∀ W : World, Bx W g 63 (ctlA c) → Calls Tryz.prog 95 #[.pointer (some ⟨g, 0, none⟩), .int .i64 (max (secN t) 0)] W fun e w' => e = .returned (.tuple #[]) ∧ Bx w' g 63 (ctlA (set0 c t h)) ∧ W.grownBy w' (some g)) := fun W hb => least_any g 0 _ _ c.a0 _ W hb rfl
  clear hA hb0 hB
  unfold SetPost argV
  generalize hs0 : set0 c t h = c' at *
  clear hs0
  generalize secN t = n at *
  go_enter Tryz.func94, Tryz.ntmps94
  go_wp2_with fail
  generalize w.alloc (.cells #[.string (mkS t), .bool h] 113) = W at *
  generalize w.heap.size = z at *
  have HD := Lib.hid (show Below W.heap.size W W.drew from (Below.refl _ _).drew)
  go_region_with (first
      | (go_at_call 96; refine (HS.out _).mono ?_; rintro e w5 ⟨rfl, hb1⟩; have hb := HD.out.trans hb1; have hB5 : Bx w5 g 63 (ctlA c) := HB.out.later hb; have hG5 : w.grownBy w5 (some g) := grownC_trans HG.out (grownC_below hb (some g)); clear hb hb1)
      | (go_at_call 95; refine (HL.out _ hB5).mono ?_; rintro e w6 ⟨rfl, hB6, hG6⟩))
  all_goals
    have HB6 := Lib.hid hB6
    have HG6 := Lib.hid (grownC_trans hG5 hG6)
    clear hB6 hG6 hB5 hG5
    go_wp2_with fail
    refine bodyPost_end (v := .tuple #[]) ?_ rfl ⟨rfl, HB6.out, HG6.out⟩
    simp [results, Tryz.results94, go_sem]

set_option maxHeartbeats 2000000 in
set_option maxRecDepth 100000 in
theorem setter1 (g : Nat) (c : Ctl) (t : Bs) (h : Bool) (w : World) (hB : Bx w g 63 (ctlA c)) (ht : t.length ≤ 1099511627776) :
    Calls Tryz.prog 97 #[.pointer (some ⟨g, 0, none⟩), argV t h] w (SetPost g (set1 c t h) w) := by
  have hA := Bx.new w 113 #[.string (mkS t), .bool h]
  have c0 := hA.cell 0 _ rfl
  have c1 := hA.cell 1 _ rfl
  have hb0 : Below w.heap.size w (w.alloc (.cells #[.string (mkS t), .bool h] 113)) := (Below.refl _ _).alloc (Nat.le_refl _) _
  have HB := Lib.hid (hB.later hb0)
  have HG := Lib.hid (grownC_below hb0 (some g))
  have HS : Hid (∀ W : World, Calls Tryz.prog 96 #[.agg #[.string (mkS t), .bool h]] W fun e w' => e = .returned (.int .i64 (secN t)) ∧ Below W.heap.size W w') := fun W => secs_any t h W ht
  have HL : Hid (∀ W : World, Bx W g 63 (ctlA c) → Calls Tryz.prog 95 #[.pointer (some ⟨g, 1, none⟩), .int .i64 (max (secN t) 0)] W fun e w' => e = .returned (.tuple #[]) ∧ Bx w' g 63 (ctlA (set1 c t h)) ∧ W.grownBy w' (some g)) := fun W hb => least_any g 1 _ _ c.a1 _ W hb rfl
  clear hA hb0 hB
  unfold SetPost argV
  generalize hs1 : set1 c t h = c' at *
  clear hs1
  generalize secN t = n at *
  go_enter Tryz.func97, Tryz.ntmps97
  go_wp2_with fail
  generalize w.alloc (.cells #[.string (mkS t), .bool h] 113) = W at *
  generalize w.heap.size = z at *
  have HD := Lib.hid (show Below W.heap.size W W.drew from (Below.refl _ _).drew)
  go_region_with (first
      | (go_at_call 96; refine (HS.out _).mono ?_; rintro e w5 ⟨rfl, hb1⟩; have hb := HD.out.trans hb1; have hB5 : Bx w5 g 63 (ctlA c) := HB.out.later hb; have hG5 : w.grownBy w5 (some g) := grownC_trans HG.out (grownC_below hb (some g)); clear hb hb1)
      | (go_at_call 95; refine (HL.out _ hB5).mono ?_; rintro e w6 ⟨rfl, hB6, hG6⟩))
  all_goals
    have HB6 := Lib.hid hB6
    have HG6 := Lib.hid (grownC_trans hG5 hG6)
    clear hB6 hG6 hB5 hG5
    go_wp2_with fail
    refine bodyPost_end (v := .tuple #[]) ?_ rfl ⟨rfl, HB6.out, HG6.out⟩
    simp [results, Tryz.results97, go_sem]

set_option maxHeartbeats 2000000 in
set_option maxRecDepth 100000 in
theorem setter2 (g : Nat) (c : Ctl) (t : Bs) (h : Bool) (w : World) (hB : Bx w g 63 (ctlA c)) (ht : t.length ≤ 1099511627776) :
    Calls Tryz.prog 98 #[.pointer (some ⟨g, 0, none⟩), argV t h] w (SetPost g (set2 c t h) w) := by
  have hA := Bx.new w 113 #[.string (mkS t), .bool h]
  have c0 := hA.cell 0 _ rfl
  have c1 := hA.cell 1 _ rfl
  have hb0 : Below w.heap.size w (w.alloc (.cells #[.string (mkS t), .bool h] 113)) := (Below.refl _ _).alloc (Nat.le_refl _) _
  have HB := Lib.hid (hB.later hb0)
  have HG := Lib.hid (grownC_below hb0 (some g))
  have HS : Hid (∀ W : World, Calls Tryz.prog 99 #[.agg #[.string (mkS t), .bool h]] W fun e w' => e = .returned (.int .i64 (staleN t h)) ∧ Below W.heap.size W w') := fun W => stale_any t h W ht
  clear hA hb0 hB
  unfold SetPost argV
  have c2 : (w.alloc (.cells #[.string (mkS t), .bool h] 113)).cell? ⟨g, 2, none⟩ = some (.int .i64 c.a2) := HB.out.cell 2 _ rfl
  have f2 := HB.out.frozen 2
  have hlt := HB.out.lt
  have HSt : Hid (∀ W : World, Bx W g 63 (ctlA c) → Bx (W.setCell ⟨g, 2, none⟩ (.int .i64 (max c.a2 (staleN t h)))) g 63 (ctlA (set2 c t h))) := fun W hb => hb.set 2 _
  generalize hs2 : set2 c t h = c' at *
  clear hs2
  generalize staleN t h = n at *
  generalize hc2 : c.a2 = m at *
  clear hc2
  go_enter Tryz.func98, Tryz.ntmps98
  go_wp2_with fail
  generalize w.alloc (.cells #[.string (mkS t), .bool h] 113) = W at *
  generalize w.heap.size = z at *
  have HD := Lib.hid (show Below W.heap.size W W.drew from (Below.refl _ _).drew)
  go_region_with (first
      | (go_at_call 99; refine (HS.out _).mono ?_; rintro e w5 ⟨rfl, hb1⟩; have hb := HD.out.trans hb1; have hB5 : Bx w5 g 63 (ctlA c) := HB.out.later hb; have hG5 : w.grownBy w5 (some g) := grownC_trans HG.out (grownC_below hb (some g)); have c5 : w5.cell? ⟨g, 2, none⟩ = some (.int .i64 m) := (hb.cell (p := ⟨g, 2, none⟩) hlt).trans c2; have f5 := hB5.frozen 2; clear hb hb1))
  all_goals
    have HB6 := Lib.hid (HSt.out _ hB5)
    have HG6 := Lib.hid (grownC_trans hG5 (grown_setC _ g 2 (.int .i64 (max m n))))
    clear hB5 hG5
    go_wp2_with fail
    refine bodyPost_end (v := .tuple #[]) ?_ rfl ⟨rfl, HB6.out, HG6.out⟩
    simp [results, Tryz.results98, go_sem]

set_option maxHeartbeats 2000000 in
set_option maxRecDepth 100000 in
theorem setter3 (g : Nat) (c : Ctl) (t : Bs) (h : Bool) (w : World) (hB : Bx w g 63 (ctlA c)) (ht : t.length ≤ 1099511627776) :
    Calls Tryz.prog 100 #[.pointer (some ⟨g, 0, none⟩), argV t h] w (SetPost g (set3 c t h) w) := by
  have hA := Bx.new w 113 #[.string (mkS t), .bool h]
  have c0 := hA.cell 0 _ rfl
  have c1 := hA.cell 1 _ rfl
  have hb0 : Below w.heap.size w (w.alloc (.cells #[.string (mkS t), .bool h] 113)) := (Below.refl _ _).alloc (Nat.le_refl _) _
  have HB := Lib.hid (hB.later hb0)
  have HG := Lib.hid (grownC_below hb0 (some g))
  have HS : Hid (∀ W : World, Calls Tryz.prog 96 #[.agg #[.string (mkS t), .bool h]] W fun e w' => e = .returned (.int .i64 (secN t)) ∧ Below W.heap.size W w') := fun W => secs_any t h W ht
  have HL : Hid (∀ W : World, Bx W g 63 (ctlA c) → Calls Tryz.prog 95 #[.pointer (some ⟨g, 3, none⟩), .int .i64 (secN t)] W fun e w' => e = .returned (.tuple #[]) ∧ Bx w' g 63 (ctlA (set3 c t h)) ∧ W.grownBy w' (some g)) := fun W hb => least_any g 3 _ _ c.a3 _ W hb rfl
  clear hA hb0 hB
  unfold SetPost argV
  generalize hs3 : set3 c t h = c' at *
  clear hs3
  generalize secN t = n at *
  go_enter Tryz.func100, Tryz.ntmps100
  go_wp2_with fail
  generalize w.alloc (.cells #[.string (mkS t), .bool h] 113) = W at *
  generalize w.heap.size = z at *
  have HD := Lib.hid (show Below W.heap.size W W.drew from (Below.refl _ _).drew)
  go_region_with (first
      | (go_at_call 96; refine (HS.out _).mono ?_; rintro e w5 ⟨rfl, hb1⟩; have hb := HD.out.trans hb1; have hB5 : Bx w5 g 63 (ctlA c) := HB.out.later hb; have hG5 : w.grownBy w5 (some g) := grownC_trans HG.out (grownC_below hb (some g)); clear hb hb1)
      | (go_at_call 95; refine (HL.out _ hB5).mono ?_; rintro e w6 ⟨rfl, hB6, hG6⟩))
  all_goals
    have HB6 := Lib.hid hB6
    have HG6 := Lib.hid (grownC_trans hG5 hG6)
    clear hB6 hG6 hB5 hG5
    go_wp2_with fail
    refine bodyPost_end (v := .tuple #[]) ?_ rfl ⟨rfl, HB6.out, HG6.out⟩
    simp [results, Tryz.results100, go_sem]

set_option maxHeartbeats 2000000 in
set_option maxRecDepth 100000 in
theorem setter4 (g : Nat) (c : Ctl) (t : Bs) (h : Bool) (w : World) (hB : Bx w g 63 (ctlA c)) (ht : t.length ≤ 1099511627776) :
    Calls Tryz.prog 101 #[.pointer (some ⟨g, 0, none⟩), argV t h] w (SetPost g (set4 c t h) w) := by
  have hA := Bx.new w 113 #[.string (mkS t), .bool h]
  have c0 := hA.cell 0 _ rfl
  have c1 := hA.cell 1 _ rfl
  have hb0 : Below w.heap.size w (w.alloc (.cells #[.string (mkS t), .bool h] 113)) := (Below.refl _ _).alloc (Nat.le_refl _) _
  have HB := Lib.hid (hB.later hb0)
  have HG := Lib.hid (grownC_below hb0 (some g))
  have HS : Hid (∀ W : World, Calls Tryz.prog 96 #[.agg #[.string (mkS t), .bool h]] W fun e w' => e = .returned (.int .i64 (secN t)) ∧ Below W.heap.size W w') := fun W => secs_any t h W ht
  have HL : Hid (∀ W : World, Bx W g 63 (ctlA c) → Calls Tryz.prog 95 #[.pointer (some ⟨g, 4, none⟩), .int .i64 (secN t)] W fun e w' => e = .returned (.tuple #[]) ∧ Bx w' g 63 (ctlA (set4 c t h)) ∧ W.grownBy w' (some g)) := fun W hb => least_any g 4 _ _ c.a4 _ W hb rfl
  clear hA hb0 hB
  unfold SetPost argV
  generalize hs4 : set4 c t h = c' at *
  clear hs4
  generalize secN t = n at *
  go_enter Tryz.func101, Tryz.ntmps101
  go_wp2_with fail
  generalize w.alloc (.cells #[.string (mkS t), .bool h] 113) = W at *
  generalize w.heap.size = z at *
  have HD := Lib.hid (show Below W.heap.size W W.drew from (Below.refl _ _).drew)
  go_region_with (first
      | (go_at_call 96; refine (HS.out _).mono ?_; rintro e w5 ⟨rfl, hb1⟩; have hb := HD.out.trans hb1; have hB5 : Bx w5 g 63 (ctlA c) := HB.out.later hb; have hG5 : w.grownBy w5 (some g) := grownC_trans HG.out (grownC_below hb (some g)); clear hb hb1)
      | (go_at_call 95; refine (HL.out _ hB5).mono ?_; rintro e w6 ⟨rfl, hB6, hG6⟩))
  all_goals
    have HB6 := Lib.hid hB6
    have HG6 := Lib.hid (grownC_trans hG5 hG6)
    clear hB6 hG6 hB5 hG5
    go_wp2_with fail
    refine bodyPost_end (v := .tuple #[]) ?_ rfl ⟨rfl, HB6.out, HG6.out⟩
    simp [results, Tryz.results101, go_sem]

set_option maxHeartbeats 2000000 in
set_option maxRecDepth 100000 in
theorem setter5 (g : Nat) (c : Ctl) (t : Bs) (h : Bool) (w : World) (hB : Bx w g 63 (ctlA c)) (ht : t.length ≤ 1099511627776) :
    Calls Tryz.prog 102 #[.pointer (some ⟨g, 0, none⟩), argV t h] w (SetPost g (set5 c t h) w) := by
  have hA := Bx.new w 113 #[.string (mkS t), .bool h]
  have c0 := hA.cell 0 _ rfl
  have c1 := hA.cell 1 _ rfl
  have hb0 : Below w.heap.size w (w.alloc (.cells #[.string (mkS t), .bool h] 113)) := (Below.refl _ _).alloc (Nat.le_refl _) _
  have HB := Lib.hid (hB.later hb0)
  have HG := Lib.hid (grownC_below hb0 (some g))
  have HS : Hid (∀ W : World, Calls Tryz.prog 96 #[.agg #[.string (mkS t), .bool h]] W fun e w' => e = .returned (.int .i64 (secN t)) ∧ Below W.heap.size W w') := fun W => secs_any t h W ht
  have HL : Hid (∀ W : World, Bx W g 63 (ctlA c) → Calls Tryz.prog 95 #[.pointer (some ⟨g, 5, none⟩), .int .i64 (secN t)] W fun e w' => e = .returned (.tuple #[]) ∧ Bx w' g 63 (ctlA (set5 c t h)) ∧ W.grownBy w' (some g)) := fun W hb => least_any g 5 _ _ c.a5 _ W hb rfl
  clear hA hb0 hB
  unfold SetPost argV
  generalize hs5 : set5 c t h = c' at *
  clear hs5
  generalize secN t = n at *
  go_enter Tryz.func102, Tryz.ntmps102
  go_wp2_with fail
  generalize w.alloc (.cells #[.string (mkS t), .bool h] 113) = W at *
  generalize w.heap.size = z at *
  have HD := Lib.hid (show Below W.heap.size W W.drew from (Below.refl _ _).drew)
  go_region_with (first
      | (go_at_call 96; refine (HS.out _).mono ?_; rintro e w5 ⟨rfl, hb1⟩; have hb := HD.out.trans hb1; have hB5 : Bx w5 g 63 (ctlA c) := HB.out.later hb; have hG5 : w.grownBy w5 (some g) := grownC_trans HG.out (grownC_below hb (some g)); clear hb hb1)
      | (go_at_call 95; refine (HL.out _ hB5).mono ?_; rintro e w6 ⟨rfl, hB6, hG6⟩))
  all_goals
    have HB6 := Lib.hid hB6
    have HG6 := Lib.hid (grownC_trans hG5 hG6)
    clear hB6 hG6 hB5 hG5
    go_wp2_with fail
    refine bodyPost_end (v := .tuple #[]) ?_ rfl ⟨rfl, HB6.out, HG6.out⟩
    simp [results, Tryz.results102, go_sem]

set_option maxHeartbeats 2000000 in
set_option maxRecDepth 100000 in
theorem setter6 (g : Nat) (c : Ctl) (t : Bs) (h : Bool) (w : World) (hB : Bx w g 63 (ctlA c)) (_ht : t.length ≤ 1099511627776) :
    Calls Tryz.prog 103 #[.pointer (some ⟨g, 0, none⟩), argV t h] w (SetPost g (set6 c t h) w) := by
  have hA := Bx.new w 113 #[.string (mkS t), .bool h]
  have c0 := hA.cell 0 _ rfl
  have c1 := hA.cell 1 _ rfl
  have hb0 : Below w.heap.size w (w.alloc (.cells #[.string (mkS t), .bool h] 113)) := (Below.refl _ _).alloc (Nat.le_refl _) _
  have HB := Lib.hid (hB.later hb0)
  have HG := Lib.hid (grownC_below hb0 (some g))
  clear hA hb0 hB
  unfold SetPost argV
  have HB6 := Lib.hid (HB.out.set 6 (.bool true))
  have HG6 := Lib.hid (grownC_trans HG.out (grown_setC _ g 6 (.bool true)))
  have f2 := HB.out.frozen 6
  have c2 := HB.out.cell 6 _ rfl
  go_enter Tryz.func103, Tryz.ntmps103
  go_wp2_with fail
  refine bodyPost_end (v := .tuple #[]) ?_ rfl ⟨rfl, HB6.out, HG6.out⟩
  simp [results, Tryz.results103, go_sem]

set_option maxHeartbeats 2000000 in
set_option maxRecDepth 100000 in
theorem setter7 (g : Nat) (c : Ctl) (t : Bs) (h : Bool) (w : World) (hB : Bx w g 63 (ctlA c)) (_ht : t.length ≤ 1099511627776) :
    Calls Tryz.prog 104 #[.pointer (some ⟨g, 0, none⟩), argV t h] w (SetPost g (set7 c t h) w) := by
  have hA := Bx.new w 113 #[.string (mkS t), .bool h]
  have c0 := hA.cell 0 _ rfl
  have c1 := hA.cell 1 _ rfl
  have hb0 : Below w.heap.size w (w.alloc (.cells #[.string (mkS t), .bool h] 113)) := (Below.refl _ _).alloc (Nat.le_refl _) _
  have HB := Lib.hid (hB.later hb0)
  have HG := Lib.hid (grownC_below hb0 (some g))
  clear hA hb0 hB
  unfold SetPost argV
  have HB6 := Lib.hid (HB.out.set 7 (.bool true))
  have HG6 := Lib.hid (grownC_trans HG.out (grown_setC _ g 7 (.bool true)))
  have f2 := HB.out.frozen 7
  have c2 := HB.out.cell 7 _ rfl
  go_enter Tryz.func104, Tryz.ntmps104
  go_wp2_with fail
  refine bodyPost_end (v := .tuple #[]) ?_ rfl ⟨rfl, HB6.out, HG6.out⟩
  simp [results, Tryz.results104, go_sem]

set_option maxHeartbeats 2000000 in
set_option maxRecDepth 100000 in
theorem setter8 (g : Nat) (c : Ctl) (t : Bs) (h : Bool) (w : World) (hB : Bx w g 63 (ctlA c)) (_ht : t.length ≤ 1099511627776) :
    Calls Tryz.prog 105 #[.pointer (some ⟨g, 0, none⟩), argV t h] w (SetPost g (set8 c t h) w) := by
  have hA := Bx.new w 113 #[.string (mkS t), .bool h]
  have c0 := hA.cell 0 _ rfl
  have c1 := hA.cell 1 _ rfl
  have hb0 : Below w.heap.size w (w.alloc (.cells #[.string (mkS t), .bool h] 113)) := (Below.refl _ _).alloc (Nat.le_refl _) _
  have HB := Lib.hid (hB.later hb0)
  have HG := Lib.hid (grownC_below hb0 (some g))
  clear hA hb0 hB
  unfold SetPost argV
  have HB6 := Lib.hid (HB.out.set 8 (.bool true))
  have HG6 := Lib.hid (grownC_trans HG.out (grown_setC _ g 8 (.bool true)))
  have f2 := HB.out.frozen 8
  have c2 := HB.out.cell 8 _ rfl
  go_enter Tryz.func105, Tryz.ntmps105
  go_wp2_with fail
  refine bodyPost_end (v := .tuple #[]) ?_ rfl ⟨rfl, HB6.out, HG6.out⟩
  simp [results, Tryz.results105, go_sem]

set_option maxHeartbeats 2000000 in
set_option maxRecDepth 100000 in
theorem setter9 (g : Nat) (c : Ctl) (t : Bs) (h : Bool) (w : World) (hB : Bx w g 63 (ctlA c)) (_ht : t.length ≤ 1099511627776) :
    Calls Tryz.prog 106 #[.pointer (some ⟨g, 0, none⟩), argV t h] w (SetPost g (set9 c t h) w) := by
  have hA := Bx.new w 113 #[.string (mkS t), .bool h]
  have c0 := hA.cell 0 _ rfl
  have c1 := hA.cell 1 _ rfl
  have hb0 : Below w.heap.size w (w.alloc (.cells #[.string (mkS t), .bool h] 113)) := (Below.refl _ _).alloc (Nat.le_refl _) _
  have HB := Lib.hid (hB.later hb0)
  have HG := Lib.hid (grownC_below hb0 (some g))
  clear hA hb0 hB
  unfold SetPost argV
  have HB6 := Lib.hid (HB.out.set 9 (.bool true))
  have HG6 := Lib.hid (grownC_trans HG.out (grown_setC _ g 9 (.bool true)))
  have f2 := HB.out.frozen 9
  have c2 := HB.out.cell 9 _ rfl
  go_enter Tryz.func106, Tryz.ntmps106
  go_wp2_with fail
  refine bodyPost_end (v := .tuple #[]) ?_ rfl ⟨rfl, HB6.out, HG6.out⟩
  simp [results, Tryz.results106, go_sem]

set_option maxHeartbeats 2000000 in
set_option maxRecDepth 100000 in
theorem setter10 (g : Nat) (c : Ctl) (t : Bs) (h : Bool) (w : World) (hB : Bx w g 63 (ctlA c)) (_ht : t.length ≤ 1099511627776) :
    Calls Tryz.prog 107 #[.pointer (some ⟨g, 0, none⟩), argV t h] w (SetPost g (set10 c t h) w) := by
  have hA := Bx.new w 113 #[.string (mkS t), .bool h]
  have c0 := hA.cell 0 _ rfl
  have c1 := hA.cell 1 _ rfl
  have hb0 : Below w.heap.size w (w.alloc (.cells #[.string (mkS t), .bool h] 113)) := (Below.refl _ _).alloc (Nat.le_refl _) _
  have HB := Lib.hid (hB.later hb0)
  have HG := Lib.hid (grownC_below hb0 (some g))
  clear hA hb0 hB
  unfold SetPost argV
  have HB6 := Lib.hid (HB.out.set 10 (.bool true))
  have HG6 := Lib.hid (grownC_trans HG.out (grown_setC _ g 10 (.bool true)))
  have f2 := HB.out.frozen 10
  have c2 := HB.out.cell 10 _ rfl
  go_enter Tryz.func107, Tryz.ntmps107
  go_wp2_with fail
  refine bodyPost_end (v := .tuple #[]) ?_ rfl ⟨rfl, HB6.out, HG6.out⟩
  simp [results, Tryz.results107, go_sem]

set_option maxHeartbeats 2000000 in
set_option maxRecDepth 100000 in
theorem setter11 (g : Nat) (c : Ctl) (t : Bs) (h : Bool) (w : World) (hB : Bx w g 63 (ctlA c)) (_ht : t.length ≤ 1099511627776) :
    Calls Tryz.prog 108 #[.pointer (some ⟨g, 0, none⟩), argV t h] w (SetPost g (set11 c t h) w) := by
  have hA := Bx.new w 113 #[.string (mkS t), .bool h]
  have c0 := hA.cell 0 _ rfl
  have c1 := hA.cell 1 _ rfl
  have hb0 : Below w.heap.size w (w.alloc (.cells #[.string (mkS t), .bool h] 113)) := (Below.refl _ _).alloc (Nat.le_refl _) _
  have HB := Lib.hid (hB.later hb0)
  have HG := Lib.hid (grownC_below hb0 (some g))
  clear hA hb0 hB
  unfold SetPost argV
  have HB6 := Lib.hid (HB.out.set 11 (.bool true))
  have HG6 := Lib.hid (grownC_trans HG.out (grown_setC _ g 11 (.bool true)))
  have f2 := HB.out.frozen 11
  have c2 := HB.out.cell 11 _ rfl
  go_enter Tryz.func108, Tryz.ntmps108
  go_wp2_with fail
  refine bodyPost_end (v := .tuple #[]) ?_ rfl ⟨rfl, HB6.out, HG6.out⟩
  simp [results, Tryz.results108, go_sem]

set_option maxHeartbeats 2000000 in
set_option maxRecDepth 100000 in
theorem setter12 (g : Nat) (c : Ctl) (t : Bs) (h : Bool) (w : World) (hB : Bx w g 63 (ctlA c)) (_ht : t.length ≤ 1099511627776) :
    Calls Tryz.prog 109 #[.pointer (some ⟨g, 0, none⟩), argV t h] w (SetPost g (set12 c t h) w) := by
  have hA := Bx.new w 113 #[.string (mkS t), .bool h]
  have c0 := hA.cell 0 _ rfl
  have c1 := hA.cell 1 _ rfl
  have hb0 : Below w.heap.size w (w.alloc (.cells #[.string (mkS t), .bool h] 113)) := (Below.refl _ _).alloc (Nat.le_refl _) _
  have HB := Lib.hid (hB.later hb0)
  have HG := Lib.hid (grownC_below hb0 (some g))
  clear hA hb0 hB
  unfold SetPost argV
  have HB6 := Lib.hid (HB.out.set 12 (.bool true))
  have HG6 := Lib.hid (grownC_trans HG.out (grown_setC _ g 12 (.bool true)))
  have f2 := HB.out.frozen 12
  have c2 := HB.out.cell 12 _ rfl
  go_enter Tryz.func109, Tryz.ntmps109
  go_wp2_with fail
  refine bodyPost_end (v := .tuple #[]) ?_ rfl ⟨rfl, HB6.out, HG6.out⟩
  simp [results, Tryz.results109, go_sem]

set_option maxHeartbeats 2000000 in
set_option maxRecDepth 100000 in
theorem setter13 (g : Nat) (c : Ctl) (t : Bs) (h : Bool) (w : World) (hB : Bx w g 63 (ctlA c)) (_ht : t.length ≤ 1099511627776) :
    Calls Tryz.prog 110 #[.pointer (some ⟨g, 0, none⟩), argV t h] w (SetPost g (set13 c t h) w) := by
  have hA := Bx.new w 113 #[.string (mkS t), .bool h]
  have c0 := hA.cell 0 _ rfl
  have c1 := hA.cell 1 _ rfl
  have hb0 : Below w.heap.size w (w.alloc (.cells #[.string (mkS t), .bool h] 113)) := (Below.refl _ _).alloc (Nat.le_refl _) _
  have HB := Lib.hid (hB.later hb0)
  have HG := Lib.hid (grownC_below hb0 (some g))
  clear hA hb0 hB
  unfold SetPost argV
  have HB6 := Lib.hid (HB.out.set 13 (.bool true))
  have HG6 := Lib.hid (grownC_trans HG.out (grown_setC _ g 13 (.bool true)))
  have f2 := HB.out.frozen 13
  have c2 := HB.out.cell 13 _ rfl
  go_enter Tryz.func110, Tryz.ntmps110
  go_wp2_with fail
  refine bodyPost_end (v := .tuple #[]) ?_ rfl ⟨rfl, HB6.out, HG6.out⟩
  simp [results, Tryz.results110, go_sem]

set_option maxHeartbeats 2000000 in
set_option maxRecDepth 100000 in
theorem setter14 (g : Nat) (c : Ctl) (t : Bs) (h : Bool) (w : World) (hB : Bx w g 63 (ctlA c)) (_ht : t.length ≤ 1099511627776) :
    Calls Tryz.prog 111 #[.pointer (some ⟨g, 0, none⟩), argV t h] w (SetPost g (set14 c t h) w) := by
  have hA := Bx.new w 113 #[.string (mkS t), .bool h]
  have c0 := hA.cell 0 _ rfl
  have c1 := hA.cell 1 _ rfl
  have hb0 : Below w.heap.size w (w.alloc (.cells #[.string (mkS t), .bool h] 113)) := (Below.refl _ _).alloc (Nat.le_refl _) _
  have HB := Lib.hid (hB.later hb0)
  have HG := Lib.hid (grownC_below hb0 (some g))
  clear hA hb0 hB
  unfold SetPost argV
  have HB6 := Lib.hid (HB.out.set 14 (.bool true))
  have HG6 := Lib.hid (grownC_trans HG.out (grown_setC _ g 14 (.bool true)))
  have f2 := HB.out.frozen 14
  have c2 := HB.out.cell 14 _ rfl
  go_enter Tryz.func111, Tryz.ntmps111
  go_wp2_with fail
  refine bodyPost_end (v := .tuple #[]) ?_ rfl ⟨rfl, HB6.out, HG6.out⟩
  simp [results, Tryz.results111, go_sem]

end Tk
end Go.Proofs.YtnbipbeeengiaaaGreatDoor
namespace Go.Proofs.YtnbipbeeengiaaaGreatDoor
open Go.RowKit Go.Maps Go.WideMaps
namespace Tk

/-- how a function without bound values reads -/
def fnElem : Value → Option (DataW Unit × List MemPlace)
  | .func (.func f) a b => if a.size = 0 ∧ b.size = 0 then some (.lit (.int .i64 f), []) else none
  | .nilFunc => some (.lit (.int .i64 (-1)), [])
  | _ => none
theorem fnElem_mk (f : Nat) : fnElem (.func (.func f) #[] #[]) = some (.lit (.int .i64 f), []) := by simp [fnElem]
theorem fnElem_nil : fnElem .nilFunc = some (.lit (.int .i64 (-1)), []) := rfl
theorem fnElem_inv {v : Value} {f : Nat} {ps : List MemPlace} (h : fnElem v = some (.lit (.int .i64 f), ps)) : v = .func (.func f) #[] #[] := by
  unfold fnElem at h
  split at h
  · rename_i g a b
    split at h
    · rename_i hs
      obtain ⟨h1, h2⟩ := hs
      injection h with h
      injection h with h3 _
      injection h3 with h3
      injection h3 with _ h3
      obtain rfl : g = f := Int.ofNat.inj h3
      rw [Array.eq_empty_of_size_eq_zero h1, Array.eq_empty_of_size_eq_zero h2]
    · cases h
  · injection h with h
    injection h with h3 _
    injection h3 with h3
    injection h3 with _ h3
    have h4 : (-1 : Int) = (f : Int) := h3
    omega
  · cases h
theorem zeroSetter (w : World) : (zeroValue 115).run Tryz.prog w = .ok .nilFunc w := by kernel_rfl
theorem strKeyC : Maps.Keyed Tryz.prog 9 := string_keyed Tryz.underlying9
theorem keyIsC (s : ByteArray) (h : s.size ≤ 1099511627776) : keyOf Tryz.prog 9 (.string s) = some (.string (bs s)) :=
  keyOf_string_mk Tryz.underlying9 (s := s) (by simp only [maxLen]; omega)

def findL : List (Bs × Nat) → Bs → Option Nat
  | [], _ => none
  | (y, f) :: t, x => if x = y then some f else findL t x
/-- the datum reads by these names -/
def FnD (D : DataW Unit) (L : List (Bs × Nat)) : Prop :=
  Maps.IsMap D ∧ ∀ x : Bs, Maps.has D (.string x) = (findL L x).isSome ∧ ∀ z, D.atKey (.string x) z = match findL L x with | some f => .lit (.int .i64 f) | none => z
theorem FnD.nil : FnD (.map []) [] := ⟨Maps.isMap_empty, fun x => ⟨by simp [Maps.has_eq, findL], fun z => by simp [DataW.atKey, findL]⟩⟩
theorem FnD.put {D : DataW Unit} {L : List (Bs × Nat)} (h : FnD D L) (y : Bs) (f : Nat) : FnD (D.put (.string y) (.lit (.int .i64 f))) ((y, f) :: L) := by
  refine ⟨h.1.put _ _, fun x => ?_⟩
  by_cases e : x = y
  · subst e
    refine ⟨?_, fun z => ?_⟩
    · rw [Maps.has_put_same h.1 (by simp [WideAt.IsKeyLit])]; simp [findL]
    · rw [Maps.atKey_put_same h.1 (by simp [WideAt.IsKeyLit])]; simp [findL]
  · have hne : Lit.string x ≠ Lit.string y := fun h => e (by injection h)
    refine ⟨?_, fun z => ?_⟩
    · rw [Maps.has_put_other hne, (h.2 x).1]; simp [findL, e]
    · rw [Maps.atKey_put_other hne, (h.2 x).2]; simp [findL, e]
/-- block b is a map of functions by these names -/
def FnMap (w : World) (b : Nat) (L : List (Bs × Nat)) : Prop := ∃ D, w.ownsMap Tryz.prog 9 fnElem b 15 D ∧ FnD D L
theorem FnMap.lt {w : World} {b : Nat} {L : List (Bs × Nat)} (h : FnMap w b L) : b < w.heap.size := by obtain ⟨D, h, -⟩ := h; exact h.lt
theorem FnMap.kept {w w' : World} {b : Nat} {L : List (Bs × Nat)} {r : Option Nat} (h : FnMap w b L) (hg : w.grownBy w' r) (hr : some b ≠ r) : FnMap w' b L := by
  obtain ⟨D, h1, h2⟩ := h
  exact ⟨D, h1.kept hg hr, h2⟩
theorem FnMap.same {w w' : World} {b : Nat} {L : List (Bs × Nat)} (h : FnMap w b L) (hb : w'.heap[b]? = w.heap[b]?) : FnMap w' b L := by
  obtain ⟨D, ⟨es, ck, h1, h2⟩, h3⟩ := h
  exact ⟨D, ⟨es, ck, hb.trans h1, h2⟩, h3⟩

/-- an entry of a map that is written out -/
theorem wpList_insert_own {H : Type} {P : Program} (w : World) {ops : Array Oper} {rest : List Oper} {o : Oper} {a : Act} {Q : Exit → Act → World → Prop}
    (hg : o.guard = none) (m x v : Operand) (t : TypeId) (hop : o.op = Op.insert t m x v)
    (k e : TypeId) (K : Keyed P k) (ht : P.underlying t = some (.map k e)) (R : Value → Option (DataW H × List MemPlace)) (b n : Nat) (D : DataW H)
    (hm : a.eval m = .map (some b)) (hown : w.ownsMap P k R b n D) (hn : n < maxLen) (key val : Value) (kl : Lit) (hx : a.eval x = key) (hv : a.eval v = val) (hkey : keyOf P k key = some kl)
    (d : DataW H) (ps : List MemPlace) (hval : R val = some (d, ps))
    (hK : ∀ w', w'.ownsMap P k R b (n + 1) (D.put kl d) → w.grownBy w' (some b) → wpList P ops Q rest (a.put o.dst undef) w') :
    wpList P ops Q (o :: rest) a w := by
  refine wpList_plain hg fun K' hK' => ?_
  obtain ⟨w', hrun, r1, r2⟩ := hown.update K ht hn hkey hval
  unfold Oper.wp
  simp [execOp, hop, hm, hx, hv, hrun, Result.andThen]
  exact hK' _ _ (hK w' r1 r2)

def setL : List (Bs × Nat) := [(dn14, 111), (dn13, 110), (dn12, 109), (dn11, 108), (dn10, 107), (dn9, 106), (dn8, 105), (dn7, 104), (dn6, 103), (dn5, 102), (dn4, 101), (dn3, 100), (dn2, 98), (dn1, 97), (dn0, 94)]
def SettersPost (w : World) (e : Ending) (w' : World) : Prop := e = .returned (.map (some w.heap.size)) ∧ FnMap w' w.heap.size setL ∧ Below w.heap.size w w'

set_option maxHeartbeats 8000000 in
set_option maxRecDepth 100000 in
theorem setters_any (w : World) : Calls Tryz.prog 66 #[] w (SettersPost w) := by
  have hmm := @run_makeMap Tryz.prog
  have HM := Lib.hid (World.ownsMap_made w Tryz.prog 9 fnElem)
  have HB := Lib.hid (show Below w.heap.size w (w.alloc (.map #[] 0)) from (Below.refl _ _).alloc (Nat.le_refl _) _)
  have hsz : w.heap.size ≤ (w.alloc (.map #[] 0)).heap.size := by simp
  unfold SettersPost
  go_enter Tryz.func66, Tryz.ntmps66
  go_wp2_with (refine wpList_insert_own _ rfl _ _ _ 107 rfl 9 115 strKeyC Tryz.underlying107 fnElem w.heap.size _ _ rfl HM.out (by decide) _ _ _ rfl rfl (keyIsC _ (by decide)) _ _ (fnElem_mk _) ?_
               intro w1 hown1 hgrow1
               have HM := Lib.hid hown1
               have HB := Lib.hid (HB.out.grown hgrow1 hsz (fun r e => by cases e; exact Nat.le_refl _))
               have hsz := Nat.le_trans hsz hgrow1.size
               clear hown1 hgrow1)
  go_ret
  exact ⟨rfl, ⟨_, HM.out, (((((((((((((((FnD.nil.put dn0 _).put dn1 _).put dn2 _).put dn3 _).put dn4 _).put dn5 _).put dn6 _).put dn7 _).put dn8 _).put dn9 _).put dn10 _).put dn11 _).put dn12 _).put dn13 _).put dn14 _)⟩, HB.out⟩
end Tk
end Go.Proofs.YtnbipbeeengiaaaGreatDoor
namespace Go.Proofs.YtnbipbeeengiaaaGreatDoor
open Go.RowKit
namespace Tk

theorem dirOf_len (p : Bs) : (dirOf p).length ≤ 1 := by unfold dirOf; split <;> simp
theorem flatOf_len : ∀ P : List Bs, (P.flatMap dirOf).length ≤ P.length
  | [] => by simp
  | p :: t => by
    have h1 := dirOf_len p
    have h2 := flatOf_len t
    rw [List.flatMap_cons, List.length_append, List.length_cons]; omega
theorem dirsV_len (v : Bs) : (dirsV v).length ≤ v.length + 1 := Nat.le_trans (flatOf_len _) (split_len v)
theorem dirsL_len : ∀ l : List Bs, (dirsL l).length ≤ Lib.lens l + l.length
  | [] => by simp [dirsL]
  | v :: t => by
    have h1 := dirsV_len v
    have h2 := dirsL_len t
    have e : dirsL (v :: t) = dirsV v ++ dirsL t := rfl
    have e2 : Lib.lens (v :: t) = v.length + Lib.lens t := by simp [Lib.lens]
    rw [e, List.length_append, List.length_cons, e2]; omega
theorem cut_lens (c : UInt8) (l : Bs) : (cutL c l).1.length ≤ l.length ∧ (cutL c l).2.1.length ≤ l.length := by
  have hd : ∀ (p : UInt8 → Bool) (l : Bs), (l.dropWhile p).length ≤ l.length := by
    intro p l
    induction l with
    | nil => simp
    | cons a t ih => rw [List.dropWhile_cons]; split <;> simp at * <;> omega
  have ht : ∀ (p : UInt8 → Bool) (l : Bs), (l.takeWhile p).length ≤ l.length := by
    intro p l
    induction l with
    | nil => simp
    | cons a t ih => rw [List.takeWhile_cons]; split <;> simp at * <;> omega
  unfold cutL
  split
  · refine ⟨ht _ _, ?_⟩
    have := hd (· != c) l
    simp only [List.length_drop]
    omega
  · simp
theorem unq_len : ∀ l : Bs, (unq l).length ≤ l.length
  | [] => by simp [unq]
  | [_] => by simp [unq]
  | c :: d :: t => by
    have h1 := unq_len t
    have h2 := unq_len (d :: t)
    unfold unq
    split
    · simp at *; omega
    · rw [List.length_cons, List.length_cons]; omega
theorem unqT_len (t : Bs) : (unqT t).length ≤ t.length := by
  unfold unqT
  split
  · have := unq_len (t.drop 1); simp at this ⊢; omega
  · exact Nat.le_refl _
theorem dirOf_bound (p : Bs) (d : Dir) (h : d ∈ dirOf p) : d.1.length ≤ p.length ∧ d.2.1.length ≤ p.length := by
  unfold dirOf at h
  split at h
  · rw [List.mem_singleton] at h
    subst h
    have h1 := cut_lens 61 p
    have h2 := unqT_len (cutL 61 p).2.1
    simp only [length_lowL]
    omega
  · simp at h
theorem dirsV_bound (v : Bs) (d : Dir) (h : d ∈ dirsV v) : d.1.length ≤ v.length ∧ d.2.1.length ≤ v.length := by
  unfold dirsV at h
  rw [List.mem_flatMap] at h
  obtain ⟨p, hp, hd⟩ := h
  have h1 := split_piece v p hp
  have h2 := dirOf_bound p d hd
  omega
theorem dirsL_bound (l : List Bs) (b : Nat) (hb : ∀ v ∈ l, v.length ≤ b) (d : Dir) (h : d ∈ dirsL l) : d.1.length ≤ b ∧ d.2.1.length ≤ b := by
  unfold dirsL at h
  rw [List.mem_flatMap] at h
  obtain ⟨v, hv, hd⟩ := h
  have h1 := dirsV_bound v d hd
  have h2 := hb v hv
  omega

/-! names -/
theorem low_kind (c : UInt8) (h : 2 ≤ kindOf c.toNat) : 2 ≤ kindOf (lowB c).toNat := by
  have : ∀ n : Nat, n < 256 → 2 ≤ kindOf n → 2 ≤ kindOf (lowB (UInt8.ofNat n)).toNat := by decide +kernel
  have h2 := this c.toNat c.toNat_lt h
  rwa [UInt8.ofNat_toNat] at h2
theorem tok_low {n : Bs} (h : tokB n = true) : tokB (lowL n) = true := by
  unfold tokB at *
  rw [Bool.and_eq_true] at *
  refine ⟨?_, ?_⟩
  · have := h.1; cases n with
    | nil => simp at this
    | cons a t => rfl
  · have h2 := h.2
    unfold allL at *
    rw [List.all_eq_true] at *
    intro x hx
    unfold lowL at hx
    rw [List.mem_map] at hx
    obtain ⟨y, hy, rfl⟩ := hx
    have := h2 y hy
    simp only [decide_eq_true_eq] at *
    exact low_kind y this
theorem dirOf_name (p : Bs) (d : Dir) (h : d ∈ dirOf p) : tokB d.1 = true ∧ lowL d.1 = d.1 := by
  unfold dirOf at h
  split at h
  · rename_i ht
    rw [List.mem_singleton] at h
    subst h
    exact ⟨tok_low ht, lowL_lowL _⟩
  · simp at h
theorem dirsL_name (l : List Bs) (d : Dir) (h : d ∈ dirsL l) : tokB d.1 = true ∧ lowL d.1 = d.1 := by
  unfold dirsL dirsV at h
  rw [List.mem_flatMap] at h
  obtain ⟨v, -, hd⟩ := h
  rw [List.mem_flatMap] at hd
  obtain ⟨p, -, hd⟩ := hd
  exact dirOf_name p d hd
theorem tok_name {n : Bs} (h : tokB n = true) (hl : lowL n = n) : nameB n = true := by
  have ht : ∀ x ∈ n, 2 ≤ kindOf x.toNat := by
    unfold tokB allL at h
    rw [Bool.and_eq_true, List.all_eq_true] at h
    intro x hx
    exact of_decide_eq_true (h.2 x hx)
  unfold nameB
  rw [h, decide_eq_true hl, Bool.true_and, Bool.true_and, List.all_eq_true]
  intro x hx
  have h2 := ht x hx
  have e : ∀ c : UInt8, x = c → 2 ≤ kindOf c.toNat := fun c hc => hc ▸ h2
  simp only [Bool.and_eq_true, bne_iff_ne]
  refine ⟨⟨⟨⟨?_, ?_⟩, ?_⟩, ?_⟩, ?_⟩ <;> (intro hc; have := e _ hc; revert this; decide)
/-- a name alone -/
theorem parse_name {n : Bs} (h : tokB n = true) (hl : lowL n = n) : parseL [n] = oneC (n, [], false) := by
  have hn := tok_name h hl
  have e : splitL n = [n] := by
    have := split_joined2 [n] (by intro q hq; rw [List.mem_singleton] at hq; subst hq; exact plain_name hn)
    rwa [Lib.join_one] at this
  unfold parseL dirsL dirsV
  rw [List.flatMap_cons, List.flatMap_nil, List.append_nil, e, List.flatMap_cons, List.flatMap_nil, List.append_nil, dirOf_flag hn]
  rfl

/-! truths -/
def flags (c : Ctl) : List Bool := [c.b0, c.b1, c.b2, c.b3, c.b4, c.b5, c.b6, c.b7, c.b8]
theorem flags_one (n t : Bs) (h : Bool) : flags (oneC (n, t, h)) = flags (oneC (n, [], false)) := by
  unfold oneC setC
  simp only []
  by_cases e0 : n = dn0
  · rw [if_pos e0, if_pos e0]; rfl
  rw [if_neg e0, if_neg e0]
  by_cases e1 : n = dn1
  · rw [if_pos e1, if_pos e1]; rfl
  rw [if_neg e1, if_neg e1]
  by_cases e2 : n = dn2
  · rw [if_pos e2, if_pos e2]; rfl
  rw [if_neg e2, if_neg e2]
  by_cases e3 : n = dn3
  · rw [if_pos e3, if_pos e3]; rfl
  rw [if_neg e3, if_neg e3]
  by_cases e4 : n = dn4
  · rw [if_pos e4, if_pos e4]; rfl
  rw [if_neg e4, if_neg e4]
  by_cases e5 : n = dn5
  · rw [if_pos e5, if_pos e5]; rfl
  rw [if_neg e5, if_neg e5]
  by_cases e6 : n = dn6
  · rw [if_pos e6, if_pos e6]; rfl
  rw [if_neg e6, if_neg e6]
  by_cases e7 : n = dn7
  · rw [if_pos e7, if_pos e7]; rfl
  rw [if_neg e7, if_neg e7]
  by_cases e8 : n = dn8
  · rw [if_pos e8, if_pos e8]; rfl
  rw [if_neg e8, if_neg e8]
  by_cases e9 : n = dn9
  · rw [if_pos e9, if_pos e9]; rfl
  rw [if_neg e9, if_neg e9]
  by_cases e10 : n = dn10
  · rw [if_pos e10, if_pos e10]; rfl
  rw [if_neg e10, if_neg e10]
  by_cases e11 : n = dn11
  · rw [if_pos e11, if_pos e11]; rfl
  rw [if_neg e11, if_neg e11]
  by_cases e12 : n = dn12
  · rw [if_pos e12, if_pos e12]; rfl
  rw [if_neg e12, if_neg e12]
  by_cases e13 : n = dn13
  · rw [if_pos e13, if_pos e13]; rfl
  rw [if_neg e13, if_neg e13]
  by_cases e14 : n = dn14
  · rw [if_pos e14, if_pos e14]; rfl
  rw [if_neg e14, if_neg e14]
theorem fold_mem : ∀ (ds : List Dir) (c : Ctl) (d : Dir), vC c → d ∈ ds → ∃ x y, vC x ∧ foldC c ds = joinC x (joinC (oneC d) y)
  | [], _, _, _, h => by simp at h
  | e :: t, c, d, hv, h => by
    have e1 : foldC c (e :: t) = foldC (setC c e) t := rfl
    rcases List.mem_cons.1 h with rfl | h
    · refine ⟨c, foldC noneC t, hv, ?_⟩
      rw [e1, fold_join t (v_setC d hv), set_join d hv, join_assoc]
    · obtain ⟨x, y, hx, hh⟩ := fold_mem t (setC c e) d (v_setC e hv) h
      exact ⟨x, y, hx, by rw [e1, hh]⟩
theorem parse_flags (l : List Bs) (d : Dir) (h : d ∈ dirsL l) :
    ((parseL [d.1]).b0 = true → (parseL l).b0 = true) ∧ ((parseL [d.1]).b1 = true → (parseL l).b1 = true) ∧ ((parseL [d.1]).b7 = true → (parseL l).b7 = true) ∧ ((parseL [d.1]).b8 = true → (parseL l).b8 = true) := by
  obtain ⟨h1, h2⟩ := dirsL_name l d h
  rw [parse_name h1 h2]
  obtain ⟨x, y, -, e⟩ := fold_mem (dirsL l) noneC d v_none h
  have ef := flags_one d.1 d.2.1 d.2.2
  have e2 : ((d.1, d.2.1, d.2.2) : Dir) = d := rfl
  rw [e2] at ef
  unfold flags at ef
  simp only [List.cons.injEq] at ef
  have e3 : parseL l = joinC x (joinC (oneC d) y) := e
  rw [e3]
  unfold joinC
  simp only [Bool.or_eq_true]
  obtain ⟨f0, f1, f2, f3, f4, f5, f6, f7, f8, -⟩ := ef
  exact ⟨fun k => .inr (.inl (f0.trans k)), fun k => .inr (.inl (f1.trans k)), fun k => .inr (.inl (f7.trans k)), fun k => .inr (.inl (f8.trans k))⟩

/-! one more directive -/
theorem more_num {a m : Int} (k : vNc m) : a < 0 ∨ (0 ≤ leastI a m ∧ leastI a m ≤ a) := by
  have := least_or a m
  unfold vNc at *
  omega
theorem more_max (a m : Int) : a ≤ max a m := by omega
/-! the text -/
theorem numP_len (n : Bs) (a : Int) (h : a ≤ 9223372036854775807) (hn : n.length ≤ 30) : (numP n a).length ≤ 1 ∧ Lib.lens (numP n a) ≤ 60 := by
  unfold numP
  split
  · simp [Lib.lens]
  · have := digL_len 18 a.toNat (by omega)
    refine ⟨by simp, ?_⟩
    simp [Lib.lens]; omega
theorem staP_len (a : Int) (h : a ≤ 9223372036854775807) : (staP a).length ≤ 1 ∧ Lib.lens (staP a) ≤ 60 := by
  unfold staP
  split
  · simp [Lib.lens]
  · split
    · exact ⟨by simp, by decide⟩
    · have := digL_len 18 a.toNat (by omega)
      refine ⟨by simp, ?_⟩
      have hd : dn2.length = 9 := by decide
      simp [Lib.lens, hd]; omega
theorem flgP_len (n : Bs) (b : Bool) (hn : n.length ≤ 30) : (flgP n b).length ≤ 1 ∧ Lib.lens (flgP n b) ≤ 60 := by
  unfold flgP
  split <;> simp [Lib.lens]; omega
theorem lens_app (a b : List Bs) : Lib.lens (a ++ b) = Lib.lens a + Lib.lens b := by
  induction a with
  | nil => simp [Lib.lens]
  | cons x t ih => simp [Lib.lens] at ih ⊢; omega
def segL (P : List Bs) (k : Nat) : Prop := P.length ≤ k ∧ Lib.lens P ≤ 60 * k
theorem segL.app {P Q : List Bs} {k : Nat} (h : segL P k) (h2 : Q.length ≤ 1 ∧ Lib.lens Q ≤ 60) : segL (P ++ Q) (k + 1) := by
  unfold segL at *
  rw [List.length_append, lens_app]; omega
def i64C (c : Ctl) : Prop := c.a0 ≤ 9223372036854775807 ∧ c.a1 ≤ 9223372036854775807 ∧ c.a2 ≤ 9223372036854775807 ∧ c.a3 ≤ 9223372036854775807 ∧ c.a4 ≤ 9223372036854775807 ∧ c.a5 ≤ 9223372036854775807
theorem parts_len15 (c : Ctl) (h : i64C c) : segL (partsC c) 15 := by
  obtain ⟨h0, h1, h2, h3, h4, h5⟩ := h
  have s0 : segL (numP dn0 c.a0) 1 := by have := numP_len dn0 c.a0 h0 (by decide); unfold segL; omega
  exact ((((((((((((((s0.app (numP_len dn1 c.a1 h1 (by decide))).app (staP_len c.a2 h2)).app (numP_len dn3 c.a3 h3 (by decide))).app (numP_len dn4 c.a4 h4 (by decide))).app (numP_len dn5 c.a5 h5 (by decide))).app (flgP_len dn6 c.b0 (by decide))).app (flgP_len dn7 c.b1 (by decide))).app (flgP_len dn8 c.b2 (by decide))).app (flgP_len dn9 c.b3 (by decide))).app (flgP_len dn10 c.b4 (by decide))).app (flgP_len dn11 c.b5 (by decide))).app (flgP_len dn12 c.b6 (by decide))).app (flgP_len dn13 c.b7 (by decide))).app (flgP_len dn14 c.b8 (by decide)))
theorem text_len (c : Ctl) (h : i64C c) : (textC c).length ≤ 1000 := by
  obtain ⟨h1, h2⟩ := parts_len15 c h
  unfold textC
  cases hp : partsC c with
  | nil => simp [Lib.join]
  | cons x r =>
    rw [hp] at h1 h2
    rw [Lib.join_length]
    simp at h1 ⊢
    omega
end Tk
end Go.Proofs.YtnbipbeeengiaaaGreatDoor
