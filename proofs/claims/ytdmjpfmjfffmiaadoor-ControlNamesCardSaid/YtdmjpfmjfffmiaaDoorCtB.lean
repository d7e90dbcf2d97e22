/- control: what each directive's setter does to a control. -/
import Derived.Test.YtdmjpfmjfffmiaaDoorCtA
namespace Go.Proofs.YtdmjpfmjfffmiaaDoor
open Go.RowKit
namespace Tk

def ctlA (c : Ctl) : Array Value := #[.int .i64 c.a0, .int .i64 c.a1, .int .i64 c.a2, .int .i64 c.a3, .int .i64 c.a4, .int .i64 c.a5, .bool c.b0, .bool c.b1, .bool c.b2, .bool c.b3, .bool c.b4, .bool c.b5, .bool c.b6, .bool c.b7, .bool c.b8]
/-- what a setter does: the control in block g becomes this one; nothing else that lay is turned -/
def SetPost (g : Nat) (c : Ctl) (w : World) (e : Ending) (w' : World) : Prop := e = .returned (.tuple #[]) ∧ Bx w' g 36 (ctlA c) ∧ w.grownBy w' (some g)

set_option maxHeartbeats 2000000 in
set_option maxRecDepth 100000 in
theorem setter0 (g : Nat) (c : Ctl) (t : Bs) (h : Bool) (w : World) (hB : Bx w g 36 (ctlA c)) (ht : t.length ≤ 1099511627776) :
    Calls Tryd.prog 72 #[.pointer (some ⟨g, 0, none⟩), argV t h] w (SetPost g (set0 c t h) w) := by
  have hA := Bx.new w 72 #[.string (mkS t), .bool h]
  have c0 := hA.cell 0 _ rfl
  have c1 := hA.cell 1 _ rfl
  have hb0 : Below w.heap.size w (w.alloc (.cells #[.string (mkS t), .bool h] 72)) := (Below.refl _ _).alloc (Nat.le_refl _) _
  have HB := Lib.hid (hB.later hb0)
  have HG := Lib.hid (grownC_below hb0 (some g))
  have HS : Hid (∀ W : World, Calls Tryd.prog 74 #[.agg #[.string (mkS t), .bool h]] W fun e w' => e = .returned (.int .i64 (secN t)) ∧ Below W.heap.size W w') := fun W => secs_any t h W ht
  have HL : Hid (∀ W : World, Bx W g 36 (ctlA c) → Calls Tryd.prog 73 #[.pointer (some ⟨g, 0, none⟩), .int .i64 (max (secN t) 0)] W fun e w' => e = .returned (.tuple #[]) ∧ Bx w' g 36 (ctlA (set0 c t h)) ∧ W.grownBy w' (some g)) := fun W hb => least_any g 0 _ _ c.a0 _ W hb rfl
  clear hA hb0 hB
  unfold SetPost argV
  generalize hs0 : set0 c t h = c' at *
  clear hs0
  generalize secN t = n at *
  go_enter Tryd.func72, Tryd.ntmps72
  go_wp2_with fail
  generalize w.alloc (.cells #[.string (mkS t), .bool h] 72) = W at *
  generalize w.heap.size = z at *
  have HD := Lib.hid (show Below W.heap.size W W.drew from (Below.refl _ _).drew)
  go_region_with (first
      | (go_at_call 74; refine (HS.out _).mono ?_; rintro e w5 ⟨rfl, hb1⟩; have hb := HD.out.trans hb1; have hB5 : Bx w5 g 36 (ctlA c) := HB.out.later hb; have hG5 : w.grownBy w5 (some g) := grownC_trans HG.out (grownC_below hb (some g)); clear hb hb1)
      | (go_at_call 73; refine (HL.out _ hB5).mono ?_; rintro e w6 ⟨rfl, hB6, hG6⟩))
  all_goals
    have HB6 := Lib.hid hB6
    have HG6 := Lib.hid (grownC_trans hG5 hG6)
    clear hB6 hG6 hB5 hG5
    go_wp2_with fail
    refine bodyPost_end (v := .tuple #[]) ?_ rfl ⟨rfl, HB6.out, HG6.out⟩
    simp [results, Tryd.results72, go_sem]

set_option maxHeartbeats 2000000 in
set_option maxRecDepth 100000 in
theorem setter1 (g : Nat) (c : Ctl) (t : Bs) (h : Bool) (w : World) (hB : Bx w g 36 (ctlA c)) (ht : t.length ≤ 1099511627776) :
    Calls Tryd.prog 75 #[.pointer (some ⟨g, 0, none⟩), argV t h] w (SetPost g (set1 c t h) w) := by
  have hA := Bx.new w 72 #[.string (mkS t), .bool h]
  have c0 := hA.cell 0 _ rfl
  have c1 := hA.cell 1 _ rfl
  have hb0 : Below w.heap.size w (w.alloc (.cells #[.string (mkS t), .bool h] 72)) := (Below.refl _ _).alloc (Nat.le_refl _) _
  have HB := Lib.hid (hB.later hb0)
  have HG := Lib.hid (grownC_below hb0 (some g))
  have HS : Hid (∀ W : World, Calls Tryd.prog 74 #[.agg #[.string (mkS t), .bool h]] W fun e w' => e = .returned (.int .i64 (secN t)) ∧ Below W.heap.size W w') := fun W => secs_any t h W ht
  have HL : Hid (∀ W : World, Bx W g 36 (ctlA c) → Calls Tryd.prog 73 #[.pointer (some ⟨g, 1, none⟩), .int .i64 (max (secN t) 0)] W fun e w' => e = .returned (.tuple #[]) ∧ Bx w' g 36 (ctlA (set1 c t h)) ∧ W.grownBy w' (some g)) := fun W hb => least_any g 1 _ _ c.a1 _ W hb rfl
  clear hA hb0 hB
  unfold SetPost argV
  generalize hs1 : set1 c t h = c' at *
  clear hs1
  generalize secN t = n at *
  go_enter Tryd.func75, Tryd.ntmps75
  go_wp2_with fail
  generalize w.alloc (.cells #[.string (mkS t), .bool h] 72) = W at *
  generalize w.heap.size = z at *
  have HD := Lib.hid (show Below W.heap.size W W.drew from (Below.refl _ _).drew)
  go_region_with (first
      | (go_at_call 74; refine (HS.out _).mono ?_; rintro e w5 ⟨rfl, hb1⟩; have hb := HD.out.trans hb1; have hB5 : Bx w5 g 36 (ctlA c) := HB.out.later hb; have hG5 : w.grownBy w5 (some g) := grownC_trans HG.out (grownC_below hb (some g)); clear hb hb1)
      | (go_at_call 73; refine (HL.out _ hB5).mono ?_; rintro e w6 ⟨rfl, hB6, hG6⟩))
  all_goals
    have HB6 := Lib.hid hB6
    have HG6 := Lib.hid (grownC_trans hG5 hG6)
    clear hB6 hG6 hB5 hG5
    go_wp2_with fail
    refine bodyPost_end (v := .tuple #[]) ?_ rfl ⟨rfl, HB6.out, HG6.out⟩
    simp [results, Tryd.results75, go_sem]

set_option maxHeartbeats 2000000 in
set_option maxRecDepth 100000 in
theorem setter2 (g : Nat) (c : Ctl) (t : Bs) (h : Bool) (w : World) (hB : Bx w g 36 (ctlA c)) (ht : t.length ≤ 1099511627776) :
    Calls Tryd.prog 76 #[.pointer (some ⟨g, 0, none⟩), argV t h] w (SetPost g (set2 c t h) w) := by
  have hA := Bx.new w 72 #[.string (mkS t), .bool h]
  have c0 := hA.cell 0 _ rfl
  have c1 := hA.cell 1 _ rfl
  have hb0 : Below w.heap.size w (w.alloc (.cells #[.string (mkS t), .bool h] 72)) := (Below.refl _ _).alloc (Nat.le_refl _) _
  have HB := Lib.hid (hB.later hb0)
  have HG := Lib.hid (grownC_below hb0 (some g))
  have HS : Hid (∀ W : World, Calls Tryd.prog 77 #[.agg #[.string (mkS t), .bool h]] W fun e w' => e = .returned (.int .i64 (staleN t h)) ∧ Below W.heap.size W w') := fun W => stale_any t h W ht
  clear hA hb0 hB
  unfold SetPost argV
  have c2 : (w.alloc (.cells #[.string (mkS t), .bool h] 72)).cell? ⟨g, 2, none⟩ = some (.int .i64 c.a2) := HB.out.cell 2 _ rfl
  have f2 := HB.out.frozen 2
  have hlt := HB.out.lt
  have HSt : Hid (∀ W : World, Bx W g 36 (ctlA c) → Bx (W.setCell ⟨g, 2, none⟩ (.int .i64 (max c.a2 (staleN t h)))) g 36 (ctlA (set2 c t h))) := fun W hb => hb.set 2 _
  generalize hs2 : set2 c t h = c' at *
  clear hs2
  generalize staleN t h = n at *
  generalize hc2 : c.a2 = m at *
  clear hc2
  go_enter Tryd.func76, Tryd.ntmps76
  go_wp2_with fail
  generalize w.alloc (.cells #[.string (mkS t), .bool h] 72) = W at *
  generalize w.heap.size = z at *
  have HD := Lib.hid (show Below W.heap.size W W.drew from (Below.refl _ _).drew)
  go_region_with (first
      | (go_at_call 77; refine (HS.out _).mono ?_; rintro e w5 ⟨rfl, hb1⟩; have hb := HD.out.trans hb1; have hB5 : Bx w5 g 36 (ctlA c) := HB.out.later hb; have hG5 : w.grownBy w5 (some g) := grownC_trans HG.out (grownC_below hb (some g)); have c5 : w5.cell? ⟨g, 2, none⟩ = some (.int .i64 m) := (hb.cell (p := ⟨g, 2, none⟩) hlt).trans c2; have f5 := hB5.frozen 2; clear hb hb1))
  all_goals
    have HB6 := Lib.hid (HSt.out _ hB5)
    have HG6 := Lib.hid (grownC_trans hG5 (grown_setC _ g 2 (.int .i64 (max m n))))
    clear hB5 hG5
    go_wp2_with fail
    refine bodyPost_end (v := .tuple #[]) ?_ rfl ⟨rfl, HB6.out, HG6.out⟩
    simp [results, Tryd.results76, go_sem]

set_option maxHeartbeats 2000000 in
set_option maxRecDepth 100000 in
theorem setter3 (g : Nat) (c : Ctl) (t : Bs) (h : Bool) (w : World) (hB : Bx w g 36 (ctlA c)) (ht : t.length ≤ 1099511627776) :
    Calls Tryd.prog 78 #[.pointer (some ⟨g, 0, none⟩), argV t h] w (SetPost g (set3 c t h) w) := by
  have hA := Bx.new w 72 #[.string (mkS t), .bool h]
  have c0 := hA.cell 0 _ rfl
  have c1 := hA.cell 1 _ rfl
  have hb0 : Below w.heap.size w (w.alloc (.cells #[.string (mkS t), .bool h] 72)) := (Below.refl _ _).alloc (Nat.le_refl _) _
  have HB := Lib.hid (hB.later hb0)
  have HG := Lib.hid (grownC_below hb0 (some g))
  have HS : Hid (∀ W : World, Calls Tryd.prog 74 #[.agg #[.string (mkS t), .bool h]] W fun e w' => e = .returned (.int .i64 (secN t)) ∧ Below W.heap.size W w') := fun W => secs_any t h W ht
  have HL : Hid (∀ W : World, Bx W g 36 (ctlA c) → Calls Tryd.prog 73 #[.pointer (some ⟨g, 3, none⟩), .int .i64 (secN t)] W fun e w' => e = .returned (.tuple #[]) ∧ Bx w' g 36 (ctlA (set3 c t h)) ∧ W.grownBy w' (some g)) := fun W hb => least_any g 3 _ _ c.a3 _ W hb rfl
  clear hA hb0 hB
  unfold SetPost argV
  generalize hs3 : set3 c t h = c' at *
  clear hs3
  generalize secN t = n at *
  go_enter Tryd.func78, Tryd.ntmps78
  go_wp2_with fail
  generalize w.alloc (.cells #[.string (mkS t), .bool h] 72) = W at *
  generalize w.heap.size = z at *
  have HD := Lib.hid (show Below W.heap.size W W.drew from (Below.refl _ _).drew)
  go_region_with (first
      | (go_at_call 74; refine (HS.out _).mono ?_; rintro e w5 ⟨rfl, hb1⟩; have hb := HD.out.trans hb1; have hB5 : Bx w5 g 36 (ctlA c) := HB.out.later hb; have hG5 : w.grownBy w5 (some g) := grownC_trans HG.out (grownC_below hb (some g)); clear hb hb1)
      | (go_at_call 73; refine (HL.out _ hB5).mono ?_; rintro e w6 ⟨rfl, hB6, hG6⟩))
  all_goals
    have HB6 := Lib.hid hB6
    have HG6 := Lib.hid (grownC_trans hG5 hG6)
    clear hB6 hG6 hB5 hG5
    go_wp2_with fail
    refine bodyPost_end (v := .tuple #[]) ?_ rfl ⟨rfl, HB6.out, HG6.out⟩
    simp [results, Tryd.results78, go_sem]

set_option maxHeartbeats 2000000 in
set_option maxRecDepth 100000 in
theorem setter4 (g : Nat) (c : Ctl) (t : Bs) (h : Bool) (w : World) (hB : Bx w g 36 (ctlA c)) (ht : t.length ≤ 1099511627776) :
    Calls Tryd.prog 79 #[.pointer (some ⟨g, 0, none⟩), argV t h] w (SetPost g (set4 c t h) w) := by
  have hA := Bx.new w 72 #[.string (mkS t), .bool h]
  have c0 := hA.cell 0 _ rfl
  have c1 := hA.cell 1 _ rfl
  have hb0 : Below w.heap.size w (w.alloc (.cells #[.string (mkS t), .bool h] 72)) := (Below.refl _ _).alloc (Nat.le_refl _) _
  have HB := Lib.hid (hB.later hb0)
  have HG := Lib.hid (grownC_below hb0 (some g))
  have HS : Hid (∀ W : World, Calls Tryd.prog 74 #[.agg #[.string (mkS t), .bool h]] W fun e w' => e = .returned (.int .i64 (secN t)) ∧ Below W.heap.size W w') := fun W => secs_any t h W ht
  have HL : Hid (∀ W : World, Bx W g 36 (ctlA c) → Calls Tryd.prog 73 #[.pointer (some ⟨g, 4, none⟩), .int .i64 (secN t)] W fun e w' => e = .returned (.tuple #[]) ∧ Bx w' g 36 (ctlA (set4 c t h)) ∧ W.grownBy w' (some g)) := fun W hb => least_any g 4 _ _ c.a4 _ W hb rfl
  clear hA hb0 hB
  unfold SetPost argV
  generalize hs4 : set4 c t h = c' at *
  clear hs4
  generalize secN t = n at *
  go_enter Tryd.func79, Tryd.ntmps79
  go_wp2_with fail
  generalize w.alloc (.cells #[.string (mkS t), .bool h] 72) = W at *
  generalize w.heap.size = z at *
  have HD := Lib.hid (show Below W.heap.size W W.drew from (Below.refl _ _).drew)
  go_region_with (first
      | (go_at_call 74; refine (HS.out _).mono ?_; rintro e w5 ⟨rfl, hb1⟩; have hb := HD.out.trans hb1; have hB5 : Bx w5 g 36 (ctlA c) := HB.out.later hb; have hG5 : w.grownBy w5 (some g) := grownC_trans HG.out (grownC_below hb (some g)); clear hb hb1)
      | (go_at_call 73; refine (HL.out _ hB5).mono ?_; rintro e w6 ⟨rfl, hB6, hG6⟩))
  all_goals
    have HB6 := Lib.hid hB6
    have HG6 := Lib.hid (grownC_trans hG5 hG6)
    clear hB6 hG6 hB5 hG5
    go_wp2_with fail
    refine bodyPost_end (v := .tuple #[]) ?_ rfl ⟨rfl, HB6.out, HG6.out⟩
    simp [results, Tryd.results79, go_sem]

set_option maxHeartbeats 2000000 in
set_option maxRecDepth 100000 in
theorem setter5 (g : Nat) (c : Ctl) (t : Bs) (h : Bool) (w : World) (hB : Bx w g 36 (ctlA c)) (ht : t.length ≤ 1099511627776) :
    Calls Tryd.prog 80 #[.pointer (some ⟨g, 0, none⟩), argV t h] w (SetPost g (set5 c t h) w) := by
  have hA := Bx.new w 72 #[.string (mkS t), .bool h]
  have c0 := hA.cell 0 _ rfl
  have c1 := hA.cell 1 _ rfl
  have hb0 : Below w.heap.size w (w.alloc (.cells #[.string (mkS t), .bool h] 72)) := (Below.refl _ _).alloc (Nat.le_refl _) _
  have HB := Lib.hid (hB.later hb0)
  have HG := Lib.hid (grownC_below hb0 (some g))
  have HS : Hid (∀ W : World, Calls Tryd.prog 74 #[.agg #[.string (mkS t), .bool h]] W fun e w' => e = .returned (.int .i64 (secN t)) ∧ Below W.heap.size W w') := fun W => secs_any t h W ht
  have HL : Hid (∀ W : World, Bx W g 36 (ctlA c) → Calls Tryd.prog 73 #[.pointer (some ⟨g, 5, none⟩), .int .i64 (secN t)] W fun e w' => e = .returned (.tuple #[]) ∧ Bx w' g 36 (ctlA (set5 c t h)) ∧ W.grownBy w' (some g)) := fun W hb => least_any g 5 _ _ c.a5 _ W hb rfl
  clear hA hb0 hB
  unfold SetPost argV
  generalize hs5 : set5 c t h = c' at *
  clear hs5
  generalize secN t = n at *
  go_enter Tryd.func80, Tryd.ntmps80
  go_wp2_with fail
  generalize w.alloc (.cells #[.string (mkS t), .bool h] 72) = W at *
  generalize w.heap.size = z at *
  have HD := Lib.hid (show Below W.heap.size W W.drew from (Below.refl _ _).drew)
  go_region_with (first
      | (go_at_call 74; refine (HS.out _).mono ?_; rintro e w5 ⟨rfl, hb1⟩; have hb := HD.out.trans hb1; have hB5 : Bx w5 g 36 (ctlA c) := HB.out.later hb; have hG5 : w.grownBy w5 (some g) := grownC_trans HG.out (grownC_below hb (some g)); clear hb hb1)
      | (go_at_call 73; refine (HL.out _ hB5).mono ?_; rintro e w6 ⟨rfl, hB6, hG6⟩))
  all_goals
    have HB6 := Lib.hid hB6
    have HG6 := Lib.hid (grownC_trans hG5 hG6)
    clear hB6 hG6 hB5 hG5
    go_wp2_with fail
    refine bodyPost_end (v := .tuple #[]) ?_ rfl ⟨rfl, HB6.out, HG6.out⟩
    simp [results, Tryd.results80, go_sem]

set_option maxHeartbeats 2000000 in
set_option maxRecDepth 100000 in
theorem setter6 (g : Nat) (c : Ctl) (t : Bs) (h : Bool) (w : World) (hB : Bx w g 36 (ctlA c)) (_ht : t.length ≤ 1099511627776) :
    Calls Tryd.prog 81 #[.pointer (some ⟨g, 0, none⟩), argV t h] w (SetPost g (set6 c t h) w) := by
  have hA := Bx.new w 72 #[.string (mkS t), .bool h]
  have c0 := hA.cell 0 _ rfl
  have c1 := hA.cell 1 _ rfl
  have hb0 : Below w.heap.size w (w.alloc (.cells #[.string (mkS t), .bool h] 72)) := (Below.refl _ _).alloc (Nat.le_refl _) _
  have HB := Lib.hid (hB.later hb0)
  have HG := Lib.hid (grownC_below hb0 (some g))
  clear hA hb0 hB
  unfold SetPost argV
  have HB6 := Lib.hid (HB.out.set 6 (.bool true))
  have HG6 := Lib.hid (grownC_trans HG.out (grown_setC _ g 6 (.bool true)))
  have f2 := HB.out.frozen 6
  have c2 := HB.out.cell 6 _ rfl
  go_enter Tryd.func81, Tryd.ntmps81
  go_wp2_with fail
  refine bodyPost_end (v := .tuple #[]) ?_ rfl ⟨rfl, HB6.out, HG6.out⟩
  simp [results, Tryd.results81, go_sem]

set_option maxHeartbeats 2000000 in
set_option maxRecDepth 100000 in
theorem setter7 (g : Nat) (c : Ctl) (t : Bs) (h : Bool) (w : World) (hB : Bx w g 36 (ctlA c)) (_ht : t.length ≤ 1099511627776) :
    Calls Tryd.prog 82 #[.pointer (some ⟨g, 0, none⟩), argV t h] w (SetPost g (set7 c t h) w) := by
  have hA := Bx.new w 72 #[.string (mkS t), .bool h]
  have c0 := hA.cell 0 _ rfl
  have c1 := hA.cell 1 _ rfl
  have hb0 : Below w.heap.size w (w.alloc (.cells #[.string (mkS t), .bool h] 72)) := (Below.refl _ _).alloc (Nat.le_refl _) _
  have HB := Lib.hid (hB.later hb0)
  have HG := Lib.hid (grownC_below hb0 (some g))
  clear hA hb0 hB
  unfold SetPost argV
  have HB6 := Lib.hid (HB.out.set 7 (.bool true))
  have HG6 := Lib.hid (grownC_trans HG.out (grown_setC _ g 7 (.bool true)))
  have f2 := HB.out.frozen 7
  have c2 := HB.out.cell 7 _ rfl
  go_enter Tryd.func82, Tryd.ntmps82
  go_wp2_with fail
  refine bodyPost_end (v := .tuple #[]) ?_ rfl ⟨rfl, HB6.out, HG6.out⟩
  simp [results, Tryd.results82, go_sem]

set_option maxHeartbeats 2000000 in
set_option maxRecDepth 100000 in
theorem setter8 (g : Nat) (c : Ctl) (t : Bs) (h : Bool) (w : World) (hB : Bx w g 36 (ctlA c)) (_ht : t.length ≤ 1099511627776) :
    Calls Tryd.prog 83 #[.pointer (some ⟨g, 0, none⟩), argV t h] w (SetPost g (set8 c t h) w) := by
  have hA := Bx.new w 72 #[.string (mkS t), .bool h]
  have c0 := hA.cell 0 _ rfl
  have c1 := hA.cell 1 _ rfl
  have hb0 : Below w.heap.size w (w.alloc (.cells #[.string (mkS t), .bool h] 72)) := (Below.refl _ _).alloc (Nat.le_refl _) _
  have HB := Lib.hid (hB.later hb0)
  have HG := Lib.hid (grownC_below hb0 (some g))
  clear hA hb0 hB
  unfold SetPost argV
  have HB6 := Lib.hid (HB.out.set 8 (.bool true))
  have HG6 := Lib.hid (grownC_trans HG.out (grown_setC _ g 8 (.bool true)))
  have f2 := HB.out.frozen 8
  have c2 := HB.out.cell 8 _ rfl
  go_enter Tryd.func83, Tryd.ntmps83
  go_wp2_with fail
  refine bodyPost_end (v := .tuple #[]) ?_ rfl ⟨rfl, HB6.out, HG6.out⟩
  simp [results, Tryd.results83, go_sem]

set_option maxHeartbeats 2000000 in
set_option maxRecDepth 100000 in
theorem setter9 (g : Nat) (c : Ctl) (t : Bs) (h : Bool) (w : World) (hB : Bx w g 36 (ctlA c)) (_ht : t.length ≤ 1099511627776) :
    Calls Tryd.prog 84 #[.pointer (some ⟨g, 0, none⟩), argV t h] w (SetPost g (set9 c t h) w) := by
  have hA := Bx.new w 72 #[.string (mkS t), .bool h]
  have c0 := hA.cell 0 _ rfl
  have c1 := hA.cell 1 _ rfl
  have hb0 : Below w.heap.size w (w.alloc (.cells #[.string (mkS t), .bool h] 72)) := (Below.refl _ _).alloc (Nat.le_refl _) _
  have HB := Lib.hid (hB.later hb0)
  have HG := Lib.hid (grownC_below hb0 (some g))
  clear hA hb0 hB
  unfold SetPost argV
  have HB6 := Lib.hid (HB.out.set 9 (.bool true))
  have HG6 := Lib.hid (grownC_trans HG.out (grown_setC _ g 9 (.bool true)))
  have f2 := HB.out.frozen 9
  have c2 := HB.out.cell 9 _ rfl
  go_enter Tryd.func84, Tryd.ntmps84
  go_wp2_with fail
  refine bodyPost_end (v := .tuple #[]) ?_ rfl ⟨rfl, HB6.out, HG6.out⟩
  simp [results, Tryd.results84, go_sem]

set_option maxHeartbeats 2000000 in
set_option maxRecDepth 100000 in
theorem setter10 (g : Nat) (c : Ctl) (t : Bs) (h : Bool) (w : World) (hB : Bx w g 36 (ctlA c)) (_ht : t.length ≤ 1099511627776) :
    Calls Tryd.prog 85 #[.pointer (some ⟨g, 0, none⟩), argV t h] w (SetPost g (set10 c t h) w) := by
  have hA := Bx.new w 72 #[.string (mkS t), .bool h]
  have c0 := hA.cell 0 _ rfl
  have c1 := hA.cell 1 _ rfl
  have hb0 : Below w.heap.size w (w.alloc (.cells #[.string (mkS t), .bool h] 72)) := (Below.refl _ _).alloc (Nat.le_refl _) _
  have HB := Lib.hid (hB.later hb0)
  have HG := Lib.hid (grownC_below hb0 (some g))
  clear hA hb0 hB
  unfold SetPost argV
  have HB6 := Lib.hid (HB.out.set 10 (.bool true))
  have HG6 := Lib.hid (grownC_trans HG.out (grown_setC _ g 10 (.bool true)))
  have f2 := HB.out.frozen 10
  have c2 := HB.out.cell 10 _ rfl
  go_enter Tryd.func85, Tryd.ntmps85
  go_wp2_with fail
  refine bodyPost_end (v := .tuple #[]) ?_ rfl ⟨rfl, HB6.out, HG6.out⟩
  simp [results, Tryd.results85, go_sem]

set_option maxHeartbeats 2000000 in
set_option maxRecDepth 100000 in
theorem setter11 (g : Nat) (c : Ctl) (t : Bs) (h : Bool) (w : World) (hB : Bx w g 36 (ctlA c)) (_ht : t.length ≤ 1099511627776) :
    Calls Tryd.prog 86 #[.pointer (some ⟨g, 0, none⟩), argV t h] w (SetPost g (set11 c t h) w) := by
  have hA := Bx.new w 72 #[.string (mkS t), .bool h]
  have c0 := hA.cell 0 _ rfl
  have c1 := hA.cell 1 _ rfl
  have hb0 : Below w.heap.size w (w.alloc (.cells #[.string (mkS t), .bool h] 72)) := (Below.refl _ _).alloc (Nat.le_refl _) _
  have HB := Lib.hid (hB.later hb0)
  have HG := Lib.hid (grownC_below hb0 (some g))
  clear hA hb0 hB
  unfold SetPost argV
  have HB6 := Lib.hid (HB.out.set 11 (.bool true))
  have HG6 := Lib.hid (grownC_trans HG.out (grown_setC _ g 11 (.bool true)))
  have f2 := HB.out.frozen 11
  have c2 := HB.out.cell 11 _ rfl
  go_enter Tryd.func86, Tryd.ntmps86
  go_wp2_with fail
  refine bodyPost_end (v := .tuple #[]) ?_ rfl ⟨rfl, HB6.out, HG6.out⟩
  simp [results, Tryd.results86, go_sem]

set_option maxHeartbeats 2000000 in
set_option maxRecDepth 100000 in
theorem setter12 (g : Nat) (c : Ctl) (t : Bs) (h : Bool) (w : World) (hB : Bx w g 36 (ctlA c)) (_ht : t.length ≤ 1099511627776) :
    Calls Tryd.prog 87 #[.pointer (some ⟨g, 0, none⟩), argV t h] w (SetPost g (set12 c t h) w) := by
  have hA := Bx.new w 72 #[.string (mkS t), .bool h]
  have c0 := hA.cell 0 _ rfl
  have c1 := hA.cell 1 _ rfl
  have hb0 : Below w.heap.size w (w.alloc (.cells #[.string (mkS t), .bool h] 72)) := (Below.refl _ _).alloc (Nat.le_refl _) _
  have HB := Lib.hid (hB.later hb0)
  have HG := Lib.hid (grownC_below hb0 (some g))
  clear hA hb0 hB
  unfold SetPost argV
  have HB6 := Lib.hid (HB.out.set 12 (.bool true))
  have HG6 := Lib.hid (grownC_trans HG.out (grown_setC _ g 12 (.bool true)))
  have f2 := HB.out.frozen 12
  have c2 := HB.out.cell 12 _ rfl
  go_enter Tryd.func87, Tryd.ntmps87
  go_wp2_with fail
  refine bodyPost_end (v := .tuple #[]) ?_ rfl ⟨rfl, HB6.out, HG6.out⟩
  simp [results, Tryd.results87, go_sem]

set_option maxHeartbeats 2000000 in
set_option maxRecDepth 100000 in
theorem setter13 (g : Nat) (c : Ctl) (t : Bs) (h : Bool) (w : World) (hB : Bx w g 36 (ctlA c)) (_ht : t.length ≤ 1099511627776) :
    Calls Tryd.prog 88 #[.pointer (some ⟨g, 0, none⟩), argV t h] w (SetPost g (set13 c t h) w) := by
  have hA := Bx.new w 72 #[.string (mkS t), .bool h]
  have c0 := hA.cell 0 _ rfl
  have c1 := hA.cell 1 _ rfl
  have hb0 : Below w.heap.size w (w.alloc (.cells #[.string (mkS t), .bool h] 72)) := (Below.refl _ _).alloc (Nat.le_refl _) _
  have HB := Lib.hid (hB.later hb0)
  have HG := Lib.hid (grownC_below hb0 (some g))
  clear hA hb0 hB
  unfold SetPost argV
  have HB6 := Lib.hid (HB.out.set 13 (.bool true))
  have HG6 := Lib.hid (grownC_trans HG.out (grown_setC _ g 13 (.bool true)))
  have f2 := HB.out.frozen 13
  have c2 := HB.out.cell 13 _ rfl
  go_enter Tryd.func88, Tryd.ntmps88
  go_wp2_with fail
  refine bodyPost_end (v := .tuple #[]) ?_ rfl ⟨rfl, HB6.out, HG6.out⟩
  simp [results, Tryd.results88, go_sem]

set_option maxHeartbeats 2000000 in
set_option maxRecDepth 100000 in
theorem setter14 (g : Nat) (c : Ctl) (t : Bs) (h : Bool) (w : World) (hB : Bx w g 36 (ctlA c)) (_ht : t.length ≤ 1099511627776) :
    Calls Tryd.prog 89 #[.pointer (some ⟨g, 0, none⟩), argV t h] w (SetPost g (set14 c t h) w) := by
  have hA := Bx.new w 72 #[.string (mkS t), .bool h]
  have c0 := hA.cell 0 _ rfl
  have c1 := hA.cell 1 _ rfl
  have hb0 : Below w.heap.size w (w.alloc (.cells #[.string (mkS t), .bool h] 72)) := (Below.refl _ _).alloc (Nat.le_refl _) _
  have HB := Lib.hid (hB.later hb0)
  have HG := Lib.hid (grownC_below hb0 (some g))
  clear hA hb0 hB
  unfold SetPost argV
  have HB6 := Lib.hid (HB.out.set 14 (.bool true))
  have HG6 := Lib.hid (grownC_trans HG.out (grown_setC _ g 14 (.bool true)))
  have f2 := HB.out.frozen 14
  have c2 := HB.out.cell 14 _ rfl
  go_enter Tryd.func89, Tryd.ntmps89
  go_wp2_with fail
  refine bodyPost_end (v := .tuple #[]) ?_ rfl ⟨rfl, HB6.out, HG6.out⟩
  simp [results, Tryd.results89, go_sem]

end Tk
end Go.Proofs.YtdmjpfmjfffmiaaDoor
