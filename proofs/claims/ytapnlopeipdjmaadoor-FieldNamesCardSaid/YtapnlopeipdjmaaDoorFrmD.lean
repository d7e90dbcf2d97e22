/- framing.frame, Request, Response. -/
import Derived.Test.YtapnlopeipdjmaaDoorFrmC
namespace Go.Proofs.YtapnlopeipdjmaaDoor
open Go.RowKit
namespace Tk

def FrPost (K N S : Nat) (w : World) (e : Ending) (w' : World) : Prop := e = .returned (.tuple #[.agg #[.int .i64 (K : Int), .int .i64 (N : Int)], .int .i64 (S : Int)]) ∧ Below w.heap.size w w'
theorem Two.put0 {w : World} {g : Nat} {T : TypeId} {a b : Value} (h : Two w g T a b) (a' : Value) :
    (w.setCell ⟨g, 0, none⟩ a').cell? ⟨g, 0, none⟩ = some a' ∧ (w.setCell ⟨g, 0, none⟩ a').cell? ⟨g, 1, none⟩ = some b :=
  ⟨World.cell?_setCell_same _ _ _ h.c0, by rw [World.cell?_setCell_other (w := w) (a := ⟨g, 0, none⟩) (b := ⟨g, 1, none⟩) (h := by intro e; injection e with _ e2; cases e2)]; exact h.c1⟩

/-- what Length and Coded tell -/
def LnAt (P : Program) (f : FuncId) (v : Value) (w : World) (N : Nat) (C : Bool) (S : Nat) : Prop := ∀ W, Below w.heap.size w W → Calls P f #[v] W fun e w' => e = .returned (.tuple #[.int .i64 (N : Int), .bool C, .int .i64 (S : Int)]) ∧ Below W.heap.size W w'
def CdAt (P : Program) (f : FuncId) (v : Value) (w : World) (T : Bool) (K : Nat) : Prop := ∀ W, Below w.heap.size w W → Calls P f #[v] W fun e w' => e = .returned (.tuple #[.bool T, .int .i64 (K : Int)]) ∧ Below W.heap.size W w'

set_option maxHeartbeats 4000000 in
set_option maxRecDepth 100000 in
theorem frame_m0 (m : Int) (v : Value) (n0 N K S : Nat) (C : Bool) (w : World) (HL : LnAt Tryd.prog 19 v w N C S) (HC : CdAt Tryd.prog 21 v w true K) (hv : ∃ a n c, v = .slice a n c) (hm : m = 0) :
    Calls Tryd.prog 56 #[.int .i64 m, v, .int .i64 (n0 : Int)] w (FrPost 0 0 400 w) := by
  obtain ⟨a, ln, cap, rfl⟩ := hv
  have HL2 := Lib.hid HL
  have HC2 := Lib.hid HC
  unfold LnAt at HL2
  unfold CdAt at HC2
  unfold FrPost
  clear HL HC
  have em : (m == 0) = true := by rw [hm]; rfl
  clear hm
  have HN := Lib.hid (Two.new w 28 (.int .i64 0) (.int .i64 0))
  have HB0 := Lib.hid (show Below w.heap.size w (w.alloc (.cells #[.int .i64 0, .int .i64 0] 28)) from (Below.refl _ _).alloc (Nat.le_refl _) _)
  go_enter Tryd.func56, Tryd.ntmps56
  go_wp2_with fail
  generalize w.alloc (.cells #[.int .i64 0, .int .i64 0] 28) = W0 at *
  refine (HL2.out _ HB0.out).mono ?_
  rintro e w1 ⟨rfl, hb⟩
  have HN1 := Lib.hid (HN.out.later hb)
  have HB1 := Lib.hid (HB0.out.trans (hb.mono HB0.out.size))
  clear hb
  go_wp2_with fail
  refine (HC2.out _ HB1.out).mono ?_
  rintro e w2 ⟨rfl, hb⟩
  have HN2 := HN1.out.later hb
  have HB2 := Lib.hid (HB1.out.trans (hb.mono HB1.out.size))
  have c0 := HN2.c0
  have c1 := HN2.c1
  have f0 := HN2.f0
  have f1 := HN2.f1
  have hlt := HN2.lt
  have HH := Lib.hid HN2
  clear hb HN2
  go_wp2_with fail
  have z0 := HH.out.c0
  have z1 := HH.out.c1
  refine bodyPost_ret (v := .tuple #[.agg #[.int .i64 0, .int .i64 0], .int .i64 400]) ?_ rfl ⟨rfl, ?_⟩
  · simp [results, Tryd.results56, go_sem, z0, z1]
  · exact HB2.out

set_option maxHeartbeats 4000000 in
set_option maxRecDepth 100000 in
theorem frame_both (m : Int) (v : Value) (n0 N K S : Nat) (_C : Bool) (w : World) (HL : LnAt Tryd.prog 19 v w N true S) (HC : CdAt Tryd.prog 21 v w true K) (hv : ∃ a n c, v = .slice a n c) (hm : m ≠ 0) :
    Calls Tryd.prog 56 #[.int .i64 m, v, .int .i64 (n0 : Int)] w (FrPost 0 0 400 w) := by
  obtain ⟨a, ln, cap, rfl⟩ := hv
  have HL2 := Lib.hid HL
  have HC2 := Lib.hid HC
  unfold LnAt at HL2
  unfold CdAt at HC2
  unfold FrPost
  clear HL HC
  have em : (m == 0) = false := beq_eq_false_iff_ne.2 hm
  clear hm
  have HN := Lib.hid (Two.new w 28 (.int .i64 0) (.int .i64 0))
  have HB0 := Lib.hid (show Below w.heap.size w (w.alloc (.cells #[.int .i64 0, .int .i64 0] 28)) from (Below.refl _ _).alloc (Nat.le_refl _) _)
  go_enter Tryd.func56, Tryd.ntmps56
  go_wp2_with fail
  generalize w.alloc (.cells #[.int .i64 0, .int .i64 0] 28) = W0 at *
  refine (HL2.out _ HB0.out).mono ?_
  rintro e w1 ⟨rfl, hb⟩
  have HN1 := Lib.hid (HN.out.later hb)
  have HB1 := Lib.hid (HB0.out.trans (hb.mono HB0.out.size))
  clear hb
  go_wp2_with fail
  refine (HC2.out _ HB1.out).mono ?_
  rintro e w2 ⟨rfl, hb⟩
  have HN2 := HN1.out.later hb
  have HB2 := Lib.hid (HB1.out.trans (hb.mono HB1.out.size))
  have c0 := HN2.c0
  have c1 := HN2.c1
  have f0 := HN2.f0
  have f1 := HN2.f1
  have hlt := HN2.lt
  have HH := Lib.hid HN2
  clear hb HN2
  go_wp2_with fail
  have z0 := HH.out.c0
  have z1 := HH.out.c1
  refine bodyPost_ret (v := .tuple #[.agg #[.int .i64 0, .int .i64 0], .int .i64 400]) ?_ rfl ⟨rfl, ?_⟩
  · simp [results, Tryd.results56, go_sem, z0, z1]
  · exact HB2.out

set_option maxHeartbeats 4000000 in
set_option maxRecDepth 100000 in
theorem frame_cod (m : Int) (v : Value) (n0 N K S : Nat) (_C : Bool) (w : World) (HL : LnAt Tryd.prog 19 v w N false S) (HC : CdAt Tryd.prog 21 v w true K) (hv : ∃ a n c, v = .slice a n c) (hm : m ≠ 0) (hk : K ≠ 0) :
    Calls Tryd.prog 56 #[.int .i64 m, v, .int .i64 (n0 : Int)] w (FrPost 0 0 K w) := by
  obtain ⟨a, ln, cap, rfl⟩ := hv
  have HL2 := Lib.hid HL
  have HC2 := Lib.hid HC
  unfold LnAt at HL2
  unfold CdAt at HC2
  unfold FrPost
  clear HL HC
  have em : (m == 0) = false := beq_eq_false_iff_ne.2 hm
  clear hm
  have ek : ((K : Int) != 0) = true := by rw [bne_iff_ne]; omega
  clear hk
  have HN := Lib.hid (Two.new w 28 (.int .i64 0) (.int .i64 0))
  have HB0 := Lib.hid (show Below w.heap.size w (w.alloc (.cells #[.int .i64 0, .int .i64 0] 28)) from (Below.refl _ _).alloc (Nat.le_refl _) _)
  go_enter Tryd.func56, Tryd.ntmps56
  go_wp2_with fail
  generalize w.alloc (.cells #[.int .i64 0, .int .i64 0] 28) = W0 at *
  refine (HL2.out _ HB0.out).mono ?_
  rintro e w1 ⟨rfl, hb⟩
  have HN1 := Lib.hid (HN.out.later hb)
  have HB1 := Lib.hid (HB0.out.trans (hb.mono HB0.out.size))
  clear hb
  go_wp2_with fail
  refine (HC2.out _ HB1.out).mono ?_
  rintro e w2 ⟨rfl, hb⟩
  have HN2 := HN1.out.later hb
  have HB2 := Lib.hid (HB1.out.trans (hb.mono HB1.out.size))
  have c0 := HN2.c0
  have c1 := HN2.c1
  have f0 := HN2.f0
  have f1 := HN2.f1
  have hlt := HN2.lt
  have HH := Lib.hid HN2
  clear hb HN2
  go_wp2_with fail
  have z0 := HH.out.c0
  have z1 := HH.out.c1
  refine bodyPost_ret (v := .tuple #[.agg #[.int .i64 0, .int .i64 0], .int .i64 (K : Nat)]) ?_ rfl ⟨rfl, ?_⟩
  · simp [results, Tryd.results56, go_sem, z0, z1]
  · exact HB2.out

set_option maxHeartbeats 4000000 in
set_option maxRecDepth 100000 in
theorem frame_chunks (m : Int) (v : Value) (n0 N _K S : Nat) (_C : Bool) (w : World) (HL : LnAt Tryd.prog 19 v w N false S) (HC : CdAt Tryd.prog 21 v w true 0) (hv : ∃ a n c, v = .slice a n c) (hm : m ≠ 0) :
    Calls Tryd.prog 56 #[.int .i64 m, v, .int .i64 (n0 : Int)] w (FrPost 3 0 0 w) := by
  obtain ⟨a, ln, cap, rfl⟩ := hv
  have HL2 := Lib.hid HL
  have HC2 := Lib.hid HC
  unfold LnAt at HL2
  unfold CdAt at HC2
  unfold FrPost
  clear HL HC
  have em : (m == 0) = false := beq_eq_false_iff_ne.2 hm
  clear hm
  have HN := Lib.hid (Two.new w 28 (.int .i64 0) (.int .i64 0))
  have HB0 := Lib.hid (show Below w.heap.size w (w.alloc (.cells #[.int .i64 0, .int .i64 0] 28)) from (Below.refl _ _).alloc (Nat.le_refl _) _)
  go_enter Tryd.func56, Tryd.ntmps56
  go_wp2_with fail
  generalize w.alloc (.cells #[.int .i64 0, .int .i64 0] 28) = W0 at *
  refine (HL2.out _ HB0.out).mono ?_
  rintro e w1 ⟨rfl, hb⟩
  have HN1 := Lib.hid (HN.out.later hb)
  have HB1 := Lib.hid (HB0.out.trans (hb.mono HB0.out.size))
  clear hb
  go_wp2_with fail
  refine (HC2.out _ HB1.out).mono ?_
  rintro e w2 ⟨rfl, hb⟩
  have HN2 := HN1.out.later hb
  have HB2 := Lib.hid (HB1.out.trans (hb.mono HB1.out.size))
  have c0 := HN2.c0
  have c1 := HN2.c1
  have f0 := HN2.f0
  have f1 := HN2.f1
  have hlt := HN2.lt
  have HH := Lib.hid HN2
  clear hb HN2
  go_wp2_with fail
  obtain ⟨z0, z1⟩ := HH.out.put0 (.int .i64 3)
  refine bodyPost_ret (v := .tuple #[.agg #[.int .i64 3, .int .i64 0], .int .i64 0]) ?_ rfl ⟨rfl, ?_⟩
  · simp [results, Tryd.results56, go_sem, z0, z1]
  · exact HB2.out.setCell (p := ⟨w.heap.size, 0, none⟩) (Nat.le_refl _) _

set_option maxHeartbeats 4000000 in
set_option maxRecDepth 100000 in
theorem frame_bad (m : Int) (v : Value) (n0 N K S : Nat) (C : Bool) (w : World) (HL : LnAt Tryd.prog 19 v w N C S) (HC : CdAt Tryd.prog 21 v w false K) (hv : ∃ a n c, v = .slice a n c) (hk : S ≠ 0) :
    Calls Tryd.prog 56 #[.int .i64 m, v, .int .i64 (n0 : Int)] w (FrPost 0 0 S w) := by
  obtain ⟨a, ln, cap, rfl⟩ := hv
  have HL2 := Lib.hid HL
  have HC2 := Lib.hid HC
  unfold LnAt at HL2
  unfold CdAt at HC2
  unfold FrPost
  clear HL HC
  have ek : ((S : Int) != 0) = true := by rw [bne_iff_ne]; omega
  clear hk
  have HN := Lib.hid (Two.new w 28 (.int .i64 0) (.int .i64 0))
  have HB0 := Lib.hid (show Below w.heap.size w (w.alloc (.cells #[.int .i64 0, .int .i64 0] 28)) from (Below.refl _ _).alloc (Nat.le_refl _) _)
  go_enter Tryd.func56, Tryd.ntmps56
  go_wp2_with fail
  generalize w.alloc (.cells #[.int .i64 0, .int .i64 0] 28) = W0 at *
  refine (HL2.out _ HB0.out).mono ?_
  rintro e w1 ⟨rfl, hb⟩
  have HN1 := Lib.hid (HN.out.later hb)
  have HB1 := Lib.hid (HB0.out.trans (hb.mono HB0.out.size))
  clear hb
  go_wp2_with fail
  refine (HC2.out _ HB1.out).mono ?_
  rintro e w2 ⟨rfl, hb⟩
  have HN2 := HN1.out.later hb
  have HB2 := Lib.hid (HB1.out.trans (hb.mono HB1.out.size))
  have c0 := HN2.c0
  have c1 := HN2.c1
  have f0 := HN2.f0
  have f1 := HN2.f1
  have hlt := HN2.lt
  have HH := Lib.hid HN2
  clear hb HN2
  go_wp2_with fail
  have z0 := HH.out.c0
  have z1 := HH.out.c1
  refine bodyPost_ret (v := .tuple #[.agg #[.int .i64 0, .int .i64 0], .int .i64 (S : Nat)]) ?_ rfl ⟨rfl, ?_⟩
  · simp [results, Tryd.results56, go_sem, z0, z1]
  · exact HB2.out

set_option maxHeartbeats 4000000 in
set_option maxRecDepth 100000 in
theorem frame_neither (m : Int) (v : Value) (n0 N K _S : Nat) (_C : Bool) (w : World) (HL : LnAt Tryd.prog 19 v w N false 0) (HC : CdAt Tryd.prog 21 v w false K) (hv : ∃ a n c, v = .slice a n c) :
    Calls Tryd.prog 56 #[.int .i64 m, v, .int .i64 (n0 : Int)] w (FrPost n0 0 0 w) := by
  obtain ⟨a, ln, cap, rfl⟩ := hv
  have HL2 := Lib.hid HL
  have HC2 := Lib.hid HC
  unfold LnAt at HL2
  unfold CdAt at HC2
  unfold FrPost
  clear HL HC
  have HN := Lib.hid (Two.new w 28 (.int .i64 0) (.int .i64 0))
  have HB0 := Lib.hid (show Below w.heap.size w (w.alloc (.cells #[.int .i64 0, .int .i64 0] 28)) from (Below.refl _ _).alloc (Nat.le_refl _) _)
  go_enter Tryd.func56, Tryd.ntmps56
  go_wp2_with fail
  generalize w.alloc (.cells #[.int .i64 0, .int .i64 0] 28) = W0 at *
  refine (HL2.out _ HB0.out).mono ?_
  rintro e w1 ⟨rfl, hb⟩
  have HN1 := Lib.hid (HN.out.later hb)
  have HB1 := Lib.hid (HB0.out.trans (hb.mono HB0.out.size))
  clear hb
  go_wp2_with fail
  refine (HC2.out _ HB1.out).mono ?_
  rintro e w2 ⟨rfl, hb⟩
  have HN2 := HN1.out.later hb
  have HB2 := Lib.hid (HB1.out.trans (hb.mono HB1.out.size))
  have c0 := HN2.c0
  have c1 := HN2.c1
  have f0 := HN2.f0
  have f1 := HN2.f1
  have hlt := HN2.lt
  have HH := Lib.hid HN2
  clear hb HN2
  go_wp2_with fail
  obtain ⟨z0, z1⟩ := HH.out.put0 (.int .i64 (n0 : Nat))
  refine bodyPost_ret (v := .tuple #[.agg #[.int .i64 (n0 : Nat), .int .i64 0], .int .i64 0]) ?_ rfl ⟨rfl, ?_⟩
  · simp [results, Tryd.results56, go_sem, z0, z1]
  · exact HB2.out.setCell (p := ⟨w.heap.size, 0, none⟩) (Nat.le_refl _) _

set_option maxHeartbeats 4000000 in
set_option maxRecDepth 100000 in
theorem frame_nought (m : Int) (v : Value) (n0 _N K _S : Nat) (_C : Bool) (w : World) (HL : LnAt Tryd.prog 19 v w 0 true 0) (HC : CdAt Tryd.prog 21 v w false K) (hv : ∃ a n c, v = .slice a n c) :
    Calls Tryd.prog 56 #[.int .i64 m, v, .int .i64 (n0 : Int)] w (FrPost 1 0 0 w) := by
  obtain ⟨a, ln, cap, rfl⟩ := hv
  have HL2 := Lib.hid HL
  have HC2 := Lib.hid HC
  unfold LnAt at HL2
  unfold CdAt at HC2
  unfold FrPost
  clear HL HC
  have HN := Lib.hid (Two.new w 28 (.int .i64 0) (.int .i64 0))
  have HB0 := Lib.hid (show Below w.heap.size w (w.alloc (.cells #[.int .i64 0, .int .i64 0] 28)) from (Below.refl _ _).alloc (Nat.le_refl _) _)
  go_enter Tryd.func56, Tryd.ntmps56
  go_wp2_with fail
  generalize w.alloc (.cells #[.int .i64 0, .int .i64 0] 28) = W0 at *
  refine (HL2.out _ HB0.out).mono ?_
  rintro e w1 ⟨rfl, hb⟩
  have HN1 := Lib.hid (HN.out.later hb)
  have HB1 := Lib.hid (HB0.out.trans (hb.mono HB0.out.size))
  clear hb
  go_wp2_with fail
  refine (HC2.out _ HB1.out).mono ?_
  rintro e w2 ⟨rfl, hb⟩
  have HN2 := HN1.out.later hb
  have HB2 := Lib.hid (HB1.out.trans (hb.mono HB1.out.size))
  have c0 := HN2.c0
  have c1 := HN2.c1
  have f0 := HN2.f0
  have f1 := HN2.f1
  have hlt := HN2.lt
  have HH := Lib.hid HN2
  clear hb HN2
  go_wp2_with fail
  obtain ⟨z0, z1⟩ := HH.out.put0 (.int .i64 1)
  refine bodyPost_ret (v := .tuple #[.agg #[.int .i64 1, .int .i64 0], .int .i64 0]) ?_ rfl ⟨rfl, ?_⟩
  · simp [results, Tryd.results56, go_sem, z0, z1]
  · exact HB2.out.setCell (p := ⟨w.heap.size, 0, none⟩) (Nat.le_refl _) _

set_option maxHeartbeats 4000000 in
set_option maxRecDepth 100000 in
theorem frame_len (m : Int) (v : Value) (n0 N K _S : Nat) (_C : Bool) (w : World) (HL : LnAt Tryd.prog 19 v w N true 0) (HC : CdAt Tryd.prog 21 v w false K) (hv : ∃ a n c, v = .slice a n c) (hk : N ≠ 0) :
    Calls Tryd.prog 56 #[.int .i64 m, v, .int .i64 (n0 : Int)] w (FrPost 2 N 0 w) := by
  obtain ⟨a, ln, cap, rfl⟩ := hv
  have HL2 := Lib.hid HL
  have HC2 := Lib.hid HC
  unfold LnAt at HL2
  unfold CdAt at HC2
  unfold FrPost
  clear HL HC
  have ek : ((N : Int) == 0) = false := by rw [beq_eq_false_iff_ne]; omega
  clear hk
  have HN := Lib.hid (Two.new w 28 (.int .i64 0) (.int .i64 0))
  have HB0 := Lib.hid (show Below w.heap.size w (w.alloc (.cells #[.int .i64 0, .int .i64 0] 28)) from (Below.refl _ _).alloc (Nat.le_refl _) _)
  go_enter Tryd.func56, Tryd.ntmps56
  go_wp2_with fail
  generalize w.alloc (.cells #[.int .i64 0, .int .i64 0] 28) = W0 at *
  refine (HL2.out _ HB0.out).mono ?_
  rintro e w1 ⟨rfl, hb⟩
  have HN1 := Lib.hid (HN.out.later hb)
  have HB1 := Lib.hid (HB0.out.trans (hb.mono HB0.out.size))
  clear hb
  go_wp2_with fail
  refine (HC2.out _ HB1.out).mono ?_
  rintro e w2 ⟨rfl, hb⟩
  have HN2 := HN1.out.later hb
  have HB2 := Lib.hid (HB1.out.trans (hb.mono HB1.out.size))
  have c0 := HN2.c0
  have c1 := HN2.c1
  have f0 := HN2.f0
  have f1 := HN2.f1
  have hlt := HN2.lt
  have HH := Lib.hid HN2
  clear hb HN2
  go_wp2_with fail
  obtain ⟨z0, z1⟩ := HH.out.put (.int .i64 2) (.int .i64 (N : Nat))
  refine bodyPost_ret (v := .tuple #[.agg #[.int .i64 2, .int .i64 (N : Nat)], .int .i64 0]) ?_ rfl ⟨rfl, ?_⟩
  · simp [results, Tryd.results56, go_sem, z0, z1]
  · exact (HB2.out.setCell (p := ⟨w.heap.size, 0, none⟩) (Nat.le_refl _) _).setCell (p := ⟨w.heap.size, 1, none⟩) (Nat.le_refl _) _

theorem flds_slice' {w : World} {v : Value} {l : List (Bs × Bs)} (h : IsFlds w v l) : ∃ a n c, v = .slice a n c := by obtain ⟨a, c, e, -⟩ := h; exact ⟨a, _, c, e⟩
theorem frame_any (m : Int) (v : Value) (l : List (Bs × Bs)) (n0 : Nat) (w : World) (hs : IsFlds w v l) (hz : sumF l ≤ 1000000) (hl : l.length ≤ 1048576) :
    Calls Tryd.prog 56 #[.int .i64 m, v, .int .i64 (n0 : Int)] w (FrPost (frK m l n0) (frN m l) (frS m l) w) := by
  have HL : LnAt Tryd.prog 19 v w (lenN l) (hasF l nmCL) (lenS l) := fun W hb => length_any v l W (isFlds_below hs hb) hz hl
  have HC : CdAt Tryd.prog 21 v w (hasF l nmTE) (codS l) := fun W hb => coded_any v l W (isFlds_below hs hb) hz hl
  have hv := flds_slice' hs
  cases hT : hasF l nmTE
  · rw [hT] at HC
    by_cases hS : lenS l = 0
    · rw [hS] at HL
      cases hc : hasF l nmCL
      · rw [hc] at HL
        obtain ⟨e1, e2, e3⟩ := fr_neither m l n0 hT hc
        rw [e1, e2, e3]
        exact frame_neither m v n0 (lenN l) (codS l) 0 false w HL HC hv
      · rw [hc] at HL
        by_cases hN : lenN l = 0
        · obtain ⟨e1, e2, e3⟩ := fr_nought m l n0 hT hc hS hN
          rw [hN] at HL
          rw [e1, e2, e3]
          exact frame_nought m v n0 0 (codS l) 0 true w HL HC hv
        · obtain ⟨e1, e2, e3⟩ := fr_len m l n0 hT hc hS hN
          rw [e1, e2, e3]
          exact frame_len m v n0 (lenN l) (codS l) 0 true w HL HC hv hN
    · obtain ⟨e1, e2, e3⟩ := fr_bad m l n0 hT hS
      rw [e1, e2, e3]
      exact frame_bad m v n0 (lenN l) (codS l) (lenS l) _ w HL HC hv hS
  · rw [hT] at HC
    by_cases hm : m = 0
    · obtain ⟨e1, e2, e3⟩ := fr_400 m l n0 hT (by simp [hm])
      rw [e1, e2, e3]
      exact frame_m0 m v n0 (lenN l) (codS l) (lenS l) _ w HL HC hv hm
    · cases hc : hasF l nmCL
      · rw [hc] at HL
        have hd : (decide (m = 0) || hasF l nmCL) = false := by simp [hm, hc]
        by_cases hk : codS l = 0
        · obtain ⟨e1, e2, e3⟩ := fr_chunks m l n0 hT hd hk
          rw [hk] at HC
          rw [e1, e2, e3]
          exact frame_chunks m v n0 (lenN l) 0 (lenS l) false w HL HC hv hm
        · obtain ⟨e1, e2, e3⟩ := fr_501 m l n0 hT hd hk
          rw [e1, e2, e3]
          exact frame_cod m v n0 (lenN l) (codS l) (lenS l) false w HL HC hv hm hk
      · rw [hc] at HL
        obtain ⟨e1, e2, e3⟩ := fr_400 m l n0 hT (by simp [hc])
        rw [e1, e2, e3]
        exact frame_both m v n0 (lenN l) (codS l) (lenS l) true w HL HC hv hm

set_option maxHeartbeats 2000000 in
set_option maxRecDepth 100000 in
theorem request04_any (m : Int) (v : Value) (l : List (Bs × Bs)) (w : World) (hs : IsFlds w v l) (hz : sumF l ≤ 1000000) (hl : l.length ≤ 1048576) :
    Calls Tryd.prog 13 #[.int .i64 m, v] w (FrPost (frK m l 1) (frN m l) (frS m l) w) := by
  have HF : Hid (∀ W, Below w.heap.size w W → Calls Tryd.prog 56 #[.int .i64 m, v, .int .i64 1] W (FrPost (frK m l 1) (frN m l) (frS m l) W)) := fun W hb => frame_any m v l 1 W (isFlds_below hs hb) hz hl
  obtain ⟨a, ln, cap, rfl⟩ := flds_slice' hs
  unfold FrPost at HF ⊢
  clear hs hz
  generalize frK m l 1 = K at *
  generalize frN m l = N at *
  generalize frS m l = S at *
  have HN := Lib.hid (Two.new w 28 (.int .i64 0) (.int .i64 0))
  have HB0 := Lib.hid (show Below w.heap.size w (w.alloc (.cells #[.int .i64 0, .int .i64 0] 28)) from (Below.refl _ _).alloc (Nat.le_refl _) _)
  go_enter Tryd.func13, Tryd.ntmps13
  go_wp2_with fail
  generalize w.alloc (.cells #[.int .i64 0, .int .i64 0] 28) = W0 at *
  refine (HF.out _ HB0.out).mono ?_
  rintro e w1 ⟨rfl, hb⟩
  have HN2 := HN.out.later hb
  have HB2 := Lib.hid (HB0.out.trans (hb.mono HB0.out.size))
  have c0 := HN2.c0
  have c1 := HN2.c1
  have f0 := HN2.f0
  have f1 := HN2.f1
  have hlt := HN2.lt
  have HH := Lib.hid HN2
  clear hb HN2
  go_wp2_with fail
  obtain ⟨z0, z1⟩ := HH.out.put (.int .i64 (K : Nat)) (.int .i64 (N : Nat))
  refine bodyPost_ret (v := .tuple #[.agg #[.int .i64 (K : Nat), .int .i64 (N : Nat)], .int .i64 (S : Nat)]) ?_ rfl ⟨rfl, ?_⟩
  · simp [results, Tryd.results13, go_sem, z0, z1]
  · exact (HB2.out.setCell (p := ⟨w.heap.size, 0, none⟩) (Nat.le_refl _) _).setCell (p := ⟨w.heap.size, 1, none⟩) (Nat.le_refl _) _

set_option maxHeartbeats 2000000 in
set_option maxRecDepth 100000 in
theorem response04_any (t : ByteArray) (s m : Int) (v : Value) (l : List (Bs × Bs)) (w : World) (hs : IsFlds w v l) (hz : sumF l ≤ 1000000) (hl : l.length ≤ 1048576) :
    Calls Tryd.prog 14 #[.string t, .int .i64 s, .int .i64 m, v] w (FrPost (rsK (bs t) s m l) (rsN (bs t) s m l) (rsS (bs t) s m l) w) := by
  have HF : Hid (∀ W, Below w.heap.size w W → Calls Tryd.prog 56 #[.int .i64 m, v, .int .i64 4] W (FrPost (frK m l 4) (frN m l) (frS m l) W)) := fun W hb => frame_any m v l 4 W (isFlds_below hs hb) hz hl
  have HBr := bare_any t s
  have e1 : rsK (bs t) s m l = if bareB (bs t) s then 1 else frK m l 4 := rfl
  have e2 : rsN (bs t) s m l = if bareB (bs t) s then 0 else frN m l := rfl
  have e3 : rsS (bs t) s m l = if bareB (bs t) s then 0 else frS m l := rfl
  obtain ⟨a, ln, cap, rfl⟩ := flds_slice' hs
  unfold FrPost at HF ⊢
  clear hs hz
  rw [e1, e2, e3]
  clear e1 e2 e3
  generalize frK m l 4 = K at *
  generalize frN m l = N at *
  generalize frS m l = S at *
  have HN := Lib.hid (Two.new w 28 (.int .i64 0) (.int .i64 0))
  have HB0 := Lib.hid (show Below w.heap.size w (w.alloc (.cells #[.int .i64 0, .int .i64 0] 28)) from (Below.refl _ _).alloc (Nat.le_refl _) _)
  cases hB : bareB (bs t) s
  · rw [hB] at HBr
    rw [if_neg (by decide), if_neg (by decide), if_neg (by decide)]
    have HB1 := Lib.hid HBr
    clear HBr hB
    go_enter Tryd.func14, Tryd.ntmps14
    go_wp2_with fail
    generalize w.alloc (.cells #[.int .i64 0, .int .i64 0] 28) = W0 at *
    refine (HB1.out _).mono ?_
    rintro e w' ⟨rfl, rfl⟩
    go_wp2_with fail
    refine (HF.out _ HB0.out).mono ?_
    rintro e w1 ⟨rfl, hb⟩
    have HN2 := HN.out.later hb
    have HB2 := Lib.hid (HB0.out.trans (hb.mono HB0.out.size))
    have c0 := HN2.c0
    have c1 := HN2.c1
    have f0 := HN2.f0
    have f1 := HN2.f1
    have hlt := HN2.lt
    have HH := Lib.hid HN2
    clear hb HN2
    go_wp2_with fail
    obtain ⟨z0, z1⟩ := HH.out.put (.int .i64 (K : Nat)) (.int .i64 (N : Nat))
    refine bodyPost_ret (v := .tuple #[.agg #[.int .i64 (K : Nat), .int .i64 (N : Nat)], .int .i64 (S : Nat)]) ?_ rfl ⟨rfl, ?_⟩
    · simp [results, Tryd.results14, go_sem, z0, z1]
    · exact (HB2.out.setCell (p := ⟨w.heap.size, 0, none⟩) (Nat.le_refl _) _).setCell (p := ⟨w.heap.size, 1, none⟩) (Nat.le_refl _) _
  · rw [hB] at HBr
    rw [if_pos rfl, if_pos rfl, if_pos rfl]
    have HB1 := Lib.hid HBr
    clear HBr hB HF
    go_enter Tryd.func14, Tryd.ntmps14
    go_wp2_with fail
    generalize w.alloc (.cells #[.int .i64 0, .int .i64 0] 28) = W0 at *
    have HH := HN
    have c0 := HN.out.c0
    have c1 := HN.out.c1
    have f0 := HN.out.f0
    have f1 := HN.out.f1
    have hlt := HN.out.lt
    refine (HB1.out _).mono ?_
    rintro e w' ⟨rfl, rfl⟩
    go_wp2_with fail
    obtain ⟨z0, z1⟩ := HH.out.put (.int .i64 1) (.int .i64 0)
    refine bodyPost_ret (v := .tuple #[.agg #[.int .i64 1, .int .i64 0], .int .i64 0]) ?_ rfl ⟨rfl, ?_⟩
    · simp [results, Tryd.results14, go_sem, z0, z1]
    · exact (HB0.out.setCell (p := ⟨w.heap.size, 0, none⟩) (Nat.le_refl _) _).setCell (p := ⟨w.heap.size, 1, none⟩) (Nat.le_refl _) _
end Tk
end Go.Proofs.YtapnlopeipdjmaaDoor
