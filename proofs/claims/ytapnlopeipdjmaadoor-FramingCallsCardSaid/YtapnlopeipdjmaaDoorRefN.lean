/- The document's own frame, Request and Response. -/
import Derived.Test.YtapnlopeipdjmaaDoorRefM
namespace Go.Proofs.YtapnlopeipdjmaaDoor
open Go.RowKit
namespace Tk

def RfPost (K N : Nat) (b : Bool) (S : Nat) (w : World) (e : Ending) (w' : World) : Prop := e = .returned (.tuple #[.agg #[.int .i64 (K : Int), .int .i64 (N : Int)], .bool b, .int .i64 (S : Int)]) ∧ Below w.heap.size w w'

set_option maxHeartbeats 4000000 in
set_option maxRecDepth 100000 in
theorem rframe_m0 (m : Int) (v : Value) (N K S : Nat) (C : Bool) (w : World) (HL : LnAt Tryd.prog 20 v w N C S) (HC : CdAt Tryd.prog 22 v w true K) (hv : ∃ a n c, v = .slice a n c) (hm : m = 0) :
    Calls Tryd.prog 58 #[.int .i64 m, v] w (RfPost 0 0 true 400 w) := by
  obtain ⟨a, ln, cap, rfl⟩ := hv
  have HL2 := Lib.hid HL
  have HC2 := Lib.hid HC
  unfold LnAt at HL2
  unfold CdAt at HC2
  unfold RfPost
  clear HL HC
  have em : (m == 0) = true := by rw [hm]; rfl
  clear hm
  have HN := Lib.hid (Two.new w 28 (.int .i64 0) (.int .i64 0))
  have HB0 := Lib.hid (show Below w.heap.size w (w.alloc (.cells #[.int .i64 0, .int .i64 0] 28)) from (Below.refl _ _).alloc (Nat.le_refl _) _)
  go_enter Tryd.func58, Tryd.ntmps58
  go_wp2_with fail
  generalize w.alloc (.cells #[.int .i64 0, .int .i64 0] 28) = W0 at *
  refine (HL2.out _ HB0.out).mono ?_
  rintro e w1 ⟨rfl, hb⟩
  have HN1 := Lib.hid (HN.out.later hb)
  have HB1 := Lib.hid (HB0.out.trans (hb.mono HB0.out.size))
  clear hb
  go_wp2_with fail
  refine (HC2.out _ HB1.out).mono ?_
  rintro e w2 ⟨rfl, hb⟩
  have HN2 := HN1.out.later hb
  have HB2 := Lib.hid (HB1.out.trans (hb.mono HB1.out.size))
  have c0 := HN2.c0
  have c1 := HN2.c1
  have f0 := HN2.f0
  have f1 := HN2.f1
  have hlt := HN2.lt
  have HH := Lib.hid HN2
  clear hb HN2
  go_wp2_with fail
  obtain ⟨z0, z1⟩ := HH.out.put (.int .i64 0) (.int .i64 0)
  refine bodyPost_ret (v := .tuple #[.agg #[.int .i64 0, .int .i64 0], .bool true, .int .i64 400]) ?_ rfl ⟨rfl, ?_⟩
  · simp [results, Tryd.results58, go_sem, z0, z1]
  · exact (HB2.out.setCell (p := ⟨w.heap.size, 0, none⟩) (Nat.le_refl _) _).setCell (p := ⟨w.heap.size, 1, none⟩) (Nat.le_refl _) _

set_option maxHeartbeats 4000000 in
set_option maxRecDepth 100000 in
theorem rframe_both (m : Int) (v : Value) (N K S : Nat) (_C : Bool) (w : World) (HL : LnAt Tryd.prog 20 v w N true S) (HC : CdAt Tryd.prog 22 v w true K) (hv : ∃ a n c, v = .slice a n c) (hm : m ≠ 0) :
    Calls Tryd.prog 58 #[.int .i64 m, v] w (RfPost 0 0 true 400 w) := by
  obtain ⟨a, ln, cap, rfl⟩ := hv
  have HL2 := Lib.hid HL
  have HC2 := Lib.hid HC
  unfold LnAt at HL2
  unfold CdAt at HC2
  unfold RfPost
  clear HL HC
  have em : (m == 0) = false := beq_eq_false_iff_ne.2 hm
  clear hm
  have HN := Lib.hid (Two.new w 28 (.int .i64 0) (.int .i64 0))
  have HB0 := Lib.hid (show Below w.heap.size w (w.alloc (.cells #[.int .i64 0, .int .i64 0] 28)) from (Below.refl _ _).alloc (Nat.le_refl _) _)
  go_enter Tryd.func58, Tryd.ntmps58
  go_wp2_with fail
  generalize w.alloc (.cells #[.int .i64 0, .int .i64 0] 28) = W0 at *
  refine (HL2.out _ HB0.out).mono ?_
  rintro e w1 ⟨rfl, hb⟩
  have HN1 := Lib.hid (HN.out.later hb)
  have HB1 := Lib.hid (HB0.out.trans (hb.mono HB0.out.size))
  clear hb
  go_wp2_with fail
  refine (HC2.out _ HB1.out).mono ?_
  rintro e w2 ⟨rfl, hb⟩
  have HN2 := HN1.out.later hb
  have HB2 := Lib.hid (HB1.out.trans (hb.mono HB1.out.size))
  have c0 := HN2.c0
  have c1 := HN2.c1
  have f0 := HN2.f0
  have f1 := HN2.f1
  have hlt := HN2.lt
  have HH := Lib.hid HN2
  clear hb HN2
  go_wp2_with fail
  obtain ⟨z0, z1⟩ := HH.out.put (.int .i64 0) (.int .i64 0)
  refine bodyPost_ret (v := .tuple #[.agg #[.int .i64 0, .int .i64 0], .bool true, .int .i64 400]) ?_ rfl ⟨rfl, ?_⟩
  · simp [results, Tryd.results58, go_sem, z0, z1]
  · exact (HB2.out.setCell (p := ⟨w.heap.size, 0, none⟩) (Nat.le_refl _) _).setCell (p := ⟨w.heap.size, 1, none⟩) (Nat.le_refl _) _

set_option maxHeartbeats 4000000 in
set_option maxRecDepth 100000 in
theorem rframe_cod (m : Int) (v : Value) (N K S : Nat) (_C : Bool) (w : World) (HL : LnAt Tryd.prog 20 v w N false S) (HC : CdAt Tryd.prog 22 v w true K) (hv : ∃ a n c, v = .slice a n c) (hm : m ≠ 0) (hk : K ≠ 0) :
    Calls Tryd.prog 58 #[.int .i64 m, v] w (RfPost 0 0 true K w) := by
  obtain ⟨a, ln, cap, rfl⟩ := hv
  have HL2 := Lib.hid HL
  have HC2 := Lib.hid HC
  unfold LnAt at HL2
  unfold CdAt at HC2
  unfold RfPost
  clear HL HC
  have em : (m == 0) = false := beq_eq_false_iff_ne.2 hm
  clear hm
  have ek : ((K : Int) != 0) = true := by rw [bne_iff_ne]; omega
  clear hk
  have HN := Lib.hid (Two.new w 28 (.int .i64 0) (.int .i64 0))
  have HB0 := Lib.hid (show Below w.heap.size w (w.alloc (.cells #[.int .i64 0, .int .i64 0] 28)) from (Below.refl _ _).alloc (Nat.le_refl _) _)
  go_enter Tryd.func58, Tryd.ntmps58
  go_wp2_with fail
  generalize w.alloc (.cells #[.int .i64 0, .int .i64 0] 28) = W0 at *
  refine (HL2.out _ HB0.out).mono ?_
  rintro e w1 ⟨rfl, hb⟩
  have HN1 := Lib.hid (HN.out.later hb)
  have HB1 := Lib.hid (HB0.out.trans (hb.mono HB0.out.size))
  clear hb
  go_wp2_with fail
  refine (HC2.out _ HB1.out).mono ?_
  rintro e w2 ⟨rfl, hb⟩
  have HN2 := HN1.out.later hb
  have HB2 := Lib.hid (HB1.out.trans (hb.mono HB1.out.size))
  have c0 := HN2.c0
  have c1 := HN2.c1
  have f0 := HN2.f0
  have f1 := HN2.f1
  have hlt := HN2.lt
  have HH := Lib.hid HN2
  clear hb HN2
  go_wp2_with fail
  obtain ⟨z0, z1⟩ := HH.out.put (.int .i64 0) (.int .i64 0)
  refine bodyPost_ret (v := .tuple #[.agg #[.int .i64 0, .int .i64 0], .bool true, .int .i64 (K : Nat)]) ?_ rfl ⟨rfl, ?_⟩
  · simp [results, Tryd.results58, go_sem, z0, z1]
  · exact (HB2.out.setCell (p := ⟨w.heap.size, 0, none⟩) (Nat.le_refl _) _).setCell (p := ⟨w.heap.size, 1, none⟩) (Nat.le_refl _) _

set_option maxHeartbeats 4000000 in
set_option maxRecDepth 100000 in
theorem rframe_chunks (m : Int) (v : Value) (N _K S : Nat) (_C : Bool) (w : World) (HL : LnAt Tryd.prog 20 v w N false S) (HC : CdAt Tryd.prog 22 v w true 0) (hv : ∃ a n c, v = .slice a n c) (hm : m ≠ 0) :
    Calls Tryd.prog 58 #[.int .i64 m, v] w (RfPost 3 0 true 0 w) := by
  obtain ⟨a, ln, cap, rfl⟩ := hv
  have HL2 := Lib.hid HL
  have HC2 := Lib.hid HC
  unfold LnAt at HL2
  unfold CdAt at HC2
  unfold RfPost
  clear HL HC
  have em : (m == 0) = false := beq_eq_false_iff_ne.2 hm
  clear hm
  have HN := Lib.hid (Two.new w 28 (.int .i64 0) (.int .i64 0))
  have HB0 := Lib.hid (show Below w.heap.size w (w.alloc (.cells #[.int .i64 0, .int .i64 0] 28)) from (Below.refl _ _).alloc (Nat.le_refl _) _)
  go_enter Tryd.func58, Tryd.ntmps58
  go_wp2_with fail
  generalize w.alloc (.cells #[.int .i64 0, .int .i64 0] 28) = W0 at *
  refine (HL2.out _ HB0.out).mono ?_
  rintro e w1 ⟨rfl, hb⟩
  have HN1 := Lib.hid (HN.out.later hb)
  have HB1 := Lib.hid (HB0.out.trans (hb.mono HB0.out.size))
  clear hb
  go_wp2_with fail
  refine (HC2.out _ HB1.out).mono ?_
  rintro e w2 ⟨rfl, hb⟩
  have HN2 := HN1.out.later hb
  have HB2 := Lib.hid (HB1.out.trans (hb.mono HB1.out.size))
  have c0 := HN2.c0
  have c1 := HN2.c1
  have f0 := HN2.f0
  have f1 := HN2.f1
  have hlt := HN2.lt
  have HH := Lib.hid HN2
  clear hb HN2
  go_wp2_with fail
  obtain ⟨z0, z1⟩ := HH.out.put (.int .i64 3) (.int .i64 0)
  refine bodyPost_ret (v := .tuple #[.agg #[.int .i64 3, .int .i64 0], .bool true, .int .i64 0]) ?_ rfl ⟨rfl, ?_⟩
  · simp [results, Tryd.results58, go_sem, z0, z1]
  · exact (HB2.out.setCell (p := ⟨w.heap.size, 0, none⟩) (Nat.le_refl _) _).setCell (p := ⟨w.heap.size, 1, none⟩) (Nat.le_refl _) _

set_option maxHeartbeats 4000000 in
set_option maxRecDepth 100000 in
theorem rframe_bad (m : Int) (v : Value) (N K S : Nat) (C : Bool) (w : World) (HL : LnAt Tryd.prog 20 v w N C S) (HC : CdAt Tryd.prog 22 v w false K) (hv : ∃ a n c, v = .slice a n c) (hk : S ≠ 0) :
    Calls Tryd.prog 58 #[.int .i64 m, v] w (RfPost 0 0 true S w) := by
  obtain ⟨a, ln, cap, rfl⟩ := hv
  have HL2 := Lib.hid HL
  have HC2 := Lib.hid HC
  unfold LnAt at HL2
  unfold CdAt at HC2
  unfold RfPost
  clear HL HC
  have ek : ((S : Int) != 0) = true := by rw [bne_iff_ne]; omega
  clear hk
  have HN := Lib.hid (Two.new w 28 (.int .i64 0) (.int .i64 0))
  have HB0 := Lib.hid (show Below w.heap.size w (w.alloc (.cells #[.int .i64 0, .int .i64 0] 28)) from (Below.refl _ _).alloc (Nat.le_refl _) _)
  go_enter Tryd.func58, Tryd.ntmps58
  go_wp2_with fail
  generalize w.alloc (.cells #[.int .i64 0, .int .i64 0] 28) = W0 at *
  refine (HL2.out _ HB0.out).mono ?_
  rintro e w1 ⟨rfl, hb⟩
  have HN1 := Lib.hid (HN.out.later hb)
  have HB1 := Lib.hid (HB0.out.trans (hb.mono HB0.out.size))
  clear hb
  go_wp2_with fail
  refine (HC2.out _ HB1.out).mono ?_
  rintro e w2 ⟨rfl, hb⟩
  have HN2 := HN1.out.later hb
  have HB2 := Lib.hid (HB1.out.trans (hb.mono HB1.out.size))
  have c0 := HN2.c0
  have c1 := HN2.c1
  have f0 := HN2.f0
  have f1 := HN2.f1
  have hlt := HN2.lt
  have HH := Lib.hid HN2
  clear hb HN2
  go_wp2_with fail
  obtain ⟨z0, z1⟩ := HH.out.put (.int .i64 0) (.int .i64 0)
  refine bodyPost_ret (v := .tuple #[.agg #[.int .i64 0, .int .i64 0], .bool true, .int .i64 (S : Nat)]) ?_ rfl ⟨rfl, ?_⟩
  · simp [results, Tryd.results58, go_sem, z0, z1]
  · exact (HB2.out.setCell (p := ⟨w.heap.size, 0, none⟩) (Nat.le_refl _) _).setCell (p := ⟨w.heap.size, 1, none⟩) (Nat.le_refl _) _

set_option maxHeartbeats 4000000 in
set_option maxRecDepth 100000 in
theorem rframe_neither (m : Int) (v : Value) (N K _S : Nat) (_C : Bool) (w : World) (HL : LnAt Tryd.prog 20 v w N false 0) (HC : CdAt Tryd.prog 22 v w false K) (hv : ∃ a n c, v = .slice a n c) :
    Calls Tryd.prog 58 #[.int .i64 m, v] w (RfPost 1 0 false 0 w) := by
  obtain ⟨a, ln, cap, rfl⟩ := hv
  have HL2 := Lib.hid HL
  have HC2 := Lib.hid HC
  unfold LnAt at HL2
  unfold CdAt at HC2
  unfold RfPost
  clear HL HC
  have HN := Lib.hid (Two.new w 28 (.int .i64 0) (.int .i64 0))
  have HB0 := Lib.hid (show Below w.heap.size w (w.alloc (.cells #[.int .i64 0, .int .i64 0] 28)) from (Below.refl _ _).alloc (Nat.le_refl _) _)
  go_enter Tryd.func58, Tryd.ntmps58
  go_wp2_with fail
  generalize w.alloc (.cells #[.int .i64 0, .int .i64 0] 28) = W0 at *
  refine (HL2.out _ HB0.out).mono ?_
  rintro e w1 ⟨rfl, hb⟩
  have HN1 := Lib.hid (HN.out.later hb)
  have HB1 := Lib.hid (HB0.out.trans (hb.mono HB0.out.size))
  clear hb
  go_wp2_with fail
  refine (HC2.out _ HB1.out).mono ?_
  rintro e w2 ⟨rfl, hb⟩
  have HN2 := HN1.out.later hb
  have HB2 := Lib.hid (HB1.out.trans (hb.mono HB1.out.size))
  have c0 := HN2.c0
  have c1 := HN2.c1
  have f0 := HN2.f0
  have f1 := HN2.f1
  have hlt := HN2.lt
  have HH := Lib.hid HN2
  clear hb HN2
  go_wp2_with fail
  obtain ⟨z0, z1⟩ := HH.out.put (.int .i64 1) (.int .i64 0)
  refine bodyPost_ret (v := .tuple #[.agg #[.int .i64 1, .int .i64 0], .bool false, .int .i64 0]) ?_ rfl ⟨rfl, ?_⟩
  · simp [results, Tryd.results58, go_sem, z0, z1]
  · exact (HB2.out.setCell (p := ⟨w.heap.size, 0, none⟩) (Nat.le_refl _) _).setCell (p := ⟨w.heap.size, 1, none⟩) (Nat.le_refl _) _

set_option maxHeartbeats 4000000 in
set_option maxRecDepth 100000 in
theorem rframe_nought (m : Int) (v : Value) (_N K _S : Nat) (_C : Bool) (w : World) (HL : LnAt Tryd.prog 20 v w 0 true 0) (HC : CdAt Tryd.prog 22 v w false K) (hv : ∃ a n c, v = .slice a n c) :
    Calls Tryd.prog 58 #[.int .i64 m, v] w (RfPost 1 0 true 0 w) := by
  obtain ⟨a, ln, cap, rfl⟩ := hv
  have HL2 := Lib.hid HL
  have HC2 := Lib.hid HC
  unfold LnAt at HL2
  unfold CdAt at HC2
  unfold RfPost
  clear HL HC
  have HN := Lib.hid (Two.new w 28 (.int .i64 0) (.int .i64 0))
  have HB0 := Lib.hid (show Below w.heap.size w (w.alloc (.cells #[.int .i64 0, .int .i64 0] 28)) from (Below.refl _ _).alloc (Nat.le_refl _) _)
  go_enter Tryd.func58, Tryd.ntmps58
  go_wp2_with fail
  generalize w.alloc (.cells #[.int .i64 0, .int .i64 0] 28) = W0 at *
  refine (HL2.out _ HB0.out).mono ?_
  rintro e w1 ⟨rfl, hb⟩
  have HN1 := Lib.hid (HN.out.later hb)
  have HB1 := Lib.hid (HB0.out.trans (hb.mono HB0.out.size))
  clear hb
  go_wp2_with fail
  refine (HC2.out _ HB1.out).mono ?_
  rintro e w2 ⟨rfl, hb⟩
  have HN2 := HN1.out.later hb
  have HB2 := Lib.hid (HB1.out.trans (hb.mono HB1.out.size))
  have c0 := HN2.c0
  have c1 := HN2.c1
  have f0 := HN2.f0
  have f1 := HN2.f1
  have hlt := HN2.lt
  have HH := Lib.hid HN2
  clear hb HN2
  go_wp2_with fail
  obtain ⟨z0, z1⟩ := HH.out.put (.int .i64 1) (.int .i64 0)
  refine bodyPost_ret (v := .tuple #[.agg #[.int .i64 1, .int .i64 0], .bool true, .int .i64 0]) ?_ rfl ⟨rfl, ?_⟩
  · simp [results, Tryd.results58, go_sem, z0, z1]
  · exact (HB2.out.setCell (p := ⟨w.heap.size, 0, none⟩) (Nat.le_refl _) _).setCell (p := ⟨w.heap.size, 1, none⟩) (Nat.le_refl _) _

set_option maxHeartbeats 4000000 in
set_option maxRecDepth 100000 in
theorem rframe_len (m : Int) (v : Value) (N K _S : Nat) (_C : Bool) (w : World) (HL : LnAt Tryd.prog 20 v w N true 0) (HC : CdAt Tryd.prog 22 v w false K) (hv : ∃ a n c, v = .slice a n c) (hk : N ≠ 0) :
    Calls Tryd.prog 58 #[.int .i64 m, v] w (RfPost 2 N true 0 w) := by
  obtain ⟨a, ln, cap, rfl⟩ := hv
  have HL2 := Lib.hid HL
  have HC2 := Lib.hid HC
  unfold LnAt at HL2
  unfold CdAt at HC2
  unfold RfPost
  clear HL HC
  have ek : (0 : Int) < (N : Int) := by omega
  clear hk
  have HN := Lib.hid (Two.new w 28 (.int .i64 0) (.int .i64 0))
  have HB0 := Lib.hid (show Below w.heap.size w (w.alloc (.cells #[.int .i64 0, .int .i64 0] 28)) from (Below.refl _ _).alloc (Nat.le_refl _) _)
  go_enter Tryd.func58, Tryd.ntmps58
  go_wp2_with fail
  generalize w.alloc (.cells #[.int .i64 0, .int .i64 0] 28) = W0 at *
  refine (HL2.out _ HB0.out).mono ?_
  rintro e w1 ⟨rfl, hb⟩
  have HN1 := Lib.hid (HN.out.later hb)
  have HB1 := Lib.hid (HB0.out.trans (hb.mono HB0.out.size))
  clear hb
  go_wp2_with fail
  refine (HC2.out _ HB1.out).mono ?_
  rintro e w2 ⟨rfl, hb⟩
  have HN2 := HN1.out.later hb
  have HB2 := Lib.hid (HB1.out.trans (hb.mono HB1.out.size))
  have c0 := HN2.c0
  have c1 := HN2.c1
  have f0 := HN2.f0
  have f1 := HN2.f1
  have hlt := HN2.lt
  have HH := Lib.hid HN2
  clear hb HN2
  go_wp2_with fail
  obtain ⟨z0, z1⟩ := HH.out.put (.int .i64 2) (.int .i64 (N : Nat))
  refine bodyPost_ret (v := .tuple #[.agg #[.int .i64 2, .int .i64 (N : Nat)], .bool true, .int .i64 0]) ?_ rfl ⟨rfl, ?_⟩
  · simp [results, Tryd.results58, go_sem, z0, z1]
  · exact (HB2.out.setCell (p := ⟨w.heap.size, 0, none⟩) (Nat.le_refl _) _).setCell (p := ⟨w.heap.size, 1, none⟩) (Nat.le_refl _) _

/-- what the document's frame tells: whether there is either field -/
def told (l : List (Bs × Bs)) : Bool := hasF l nmTE || hasF l nmCL
theorem rframe_any (m : Int) (v : Value) (l : List (Bs × Bs)) (w : World) (hs : IsFlds w v l) (hz : sumF l ≤ 1000000) (hl : l.length ≤ 1048576) :
    Calls Tryd.prog 58 #[.int .i64 m, v] w fun e w' => ∃ b, RfPost (frK m l 1) (frN m l) b (frS m l) w e w' ∧ (b = true → frK m l 4 = frK m l 1) ∧ (b = false → frS m l = 0 ∧ frK m l 4 = 4 ∧ frN m l = 0) := by
  have HL : LnAt Tryd.prog 20 v w (lenN l) (hasF l nmCL) (lenS l) := fun W hb => rlength_any v l W (isFlds_below hs hb) hz hl
  have HC : CdAt Tryd.prog 22 v w (hasF l nmTE) (codS l) := fun W hb => rcoded_any v l W (isFlds_below hs hb) hz hl
  have hv := flds_slice' hs
  cases hT : hasF l nmTE
  · rw [hT] at HC
    by_cases hS : lenS l = 0
    · rw [hS] at HL
      cases hc : hasF l nmCL
      · rw [hc] at HL
        obtain ⟨e1, e2, e3⟩ := fr_neither m l 1 hT hc
        obtain ⟨-, e4, -⟩ := fr_neither m l 4 hT hc
        rw [e1, e2, e3]
        exact (rframe_neither m v (lenN l) (codS l) 0 false w HL HC hv).mono fun e w' h => ⟨false, h, (fun h => by cases h), fun _ => ⟨rfl, e4, rfl⟩⟩
      · rw [hc] at HL
        by_cases hN : lenN l = 0
        · obtain ⟨e1, e2, e3⟩ := fr_nought m l 1 hT hc hS hN
          obtain ⟨-, e4, -⟩ := fr_nought m l 4 hT hc hS hN
          rw [hN] at HL
          rw [e1, e2, e3]
          exact (rframe_nought m v 0 (codS l) 0 true w HL HC hv).mono fun e w' h => ⟨true, h, (fun _ => e4), fun h => by cases h⟩
        · obtain ⟨e1, e2, e3⟩ := fr_len m l 1 hT hc hS hN
          obtain ⟨-, e4, -⟩ := fr_len m l 4 hT hc hS hN
          rw [e1, e2, e3]
          exact (rframe_len m v (lenN l) (codS l) 0 true w HL HC hv hN).mono fun e w' h => ⟨true, h, (fun _ => e4), fun h => by cases h⟩
    · obtain ⟨e1, e2, e3⟩ := fr_bad m l 1 hT hS
      obtain ⟨-, e4, -⟩ := fr_bad m l 4 hT hS
      rw [e1, e2, e3]
      exact (rframe_bad m v (lenN l) (codS l) (lenS l) _ w HL HC hv hS).mono fun e w' h => ⟨true, h, (fun _ => e4), fun h => by cases h⟩
  · rw [hT] at HC
    by_cases hm : m = 0
    · obtain ⟨e1, e2, e3⟩ := fr_400 m l 1 hT (by simp [hm])
      obtain ⟨-, e4, -⟩ := fr_400 m l 4 hT (by simp [hm])
      rw [e1, e2, e3]
      exact (rframe_m0 m v (lenN l) (codS l) (lenS l) _ w HL HC hv hm).mono fun e w' h => ⟨true, h, (fun _ => e4), fun h => by cases h⟩
    · cases hc : hasF l nmCL
      · rw [hc] at HL
        have hd : (decide (m = 0) || hasF l nmCL) = false := by simp [hm, hc]
        by_cases hk : codS l = 0
        · obtain ⟨e1, e2, e3⟩ := fr_chunks m l 1 hT hd hk
          obtain ⟨-, e4, -⟩ := fr_chunks m l 4 hT hd hk
          rw [hk] at HC
          rw [e1, e2, e3]
          exact (rframe_chunks m v (lenN l) 0 (lenS l) false w HL HC hv hm).mono fun e w' h => ⟨true, h, (fun _ => e4), fun h => by cases h⟩
        · obtain ⟨e1, e2, e3⟩ := fr_501 m l 1 hT hd hk
          obtain ⟨-, e4, -⟩ := fr_501 m l 4 hT hd hk
          rw [e1, e2, e3]
          exact (rframe_cod m v (lenN l) (codS l) (lenS l) false w HL HC hv hm hk).mono fun e w' h => ⟨true, h, (fun _ => e4), fun h => by cases h⟩
      · rw [hc] at HL
        obtain ⟨e1, e2, e3⟩ := fr_400 m l 1 hT (by simp [hc])
        obtain ⟨-, e4, -⟩ := fr_400 m l 4 hT (by simp [hc])
        rw [e1, e2, e3]
        exact (rframe_both m v (lenN l) (codS l) (lenS l) true w HL HC hv hm).mono fun e w' h => ⟨true, h, (fun _ => e4), fun h => by cases h⟩

set_option maxHeartbeats 2000000 in
set_option maxRecDepth 100000 in
theorem rrequest04_any (m : Int) (v : Value) (l : List (Bs × Bs)) (w : World) (hs : IsFlds w v l) (hz : sumF l ≤ 1000000) (hl : l.length ≤ 1048576) :
    Calls Tryd.prog 17 #[.int .i64 m, v] w (FrPost (frK m l 1) (frN m l) (frS m l) w) := by
  have HF : Hid (∀ W, Below w.heap.size w W → Calls Tryd.prog 58 #[.int .i64 m, v] W (fun e w' => ∃ b, RfPost (frK m l 1) (frN m l) b (frS m l) W e w')) := fun W hb => (rframe_any m v l W (isFlds_below hs hb) hz hl).mono fun e w' ⟨b, h, _⟩ => ⟨b, h⟩
  obtain ⟨a, ln, cap, rfl⟩ := flds_slice' hs
  unfold FrPost
  unfold RfPost at HF
  clear hs hz
  generalize frK m l 1 = K at *
  generalize frN m l = N at *
  generalize frS m l = S at *
  have HN := Lib.hid (Two.new w 28 (.int .i64 0) (.int .i64 0))
  have HB0 := Lib.hid (show Below w.heap.size w (w.alloc (.cells #[.int .i64 0, .int .i64 0] 28)) from (Below.refl _ _).alloc (Nat.le_refl _) _)
  go_enter Tryd.func17, Tryd.ntmps17
  go_wp2_with fail
  generalize w.alloc (.cells #[.int .i64 0, .int .i64 0] 28) = W0 at *
  refine (HF.out _ HB0.out).mono ?_
  rintro e w1 ⟨b, rfl, hb⟩
  have HN2 := HN.out.later hb
  have HB2 := Lib.hid (HB0.out.trans (hb.mono HB0.out.size))
  have HM := Lib.hid (Two.new w1 28 (.int .i64 (K : Int)) (.int .i64 (N : Int)))
  have hbal : Below w1.heap.size w1 (w1.alloc (.cells #[.int .i64 (K : Int), .int .i64 (N : Int)] 28)) := (Below.refl _ _).alloc (Nat.le_refl _) _
  have HN3 := HN2.later hbal
  have HB3 := Lib.hid (HB2.out.trans (hbal.mono HB2.out.size))
  have c0 := HN3.c0
  have c1 := HN3.c1
  have f0 := HN3.f0
  have f1 := HN3.f1
  have m0 := HM.out.c0
  have m1 := HM.out.c1
  have hlt := HN3.lt
  have HH := Lib.hid HN3
  clear hb HN2 HN3 hbal
  go_wp2_with fail
  generalize w1.alloc (.cells #[.int .i64 (K : Int), .int .i64 (N : Int)] 28) = w2 at *
  obtain ⟨z0, z1⟩ := HH.out.put (.int .i64 (K : Nat)) (.int .i64 (N : Nat))
  refine bodyPost_ret (v := .tuple #[.agg #[.int .i64 (K : Nat), .int .i64 (N : Nat)], .int .i64 (S : Nat)]) ?_ rfl ⟨rfl, ?_⟩
  · simp [results, Tryd.results17, go_sem, z0, z1]
  · exact (HB3.out.setCell (p := ⟨w.heap.size, 0, none⟩) (Nat.le_refl _) _).setCell (p := ⟨w.heap.size, 1, none⟩) (Nat.le_refl _) _

set_option maxHeartbeats 2000000 in
set_option maxRecDepth 100000 in
theorem rresponse04_any (t : ByteArray) (s m : Int) (v : Value) (l : List (Bs × Bs)) (w : World) (hs : IsFlds w v l) (hz : sumF l ≤ 1000000) (hl : l.length ≤ 1048576) :
    Calls Tryd.prog 18 #[.string t, .int .i64 s, .int .i64 m, v] w (FrPost (rsK (bs t) s m l) (rsN (bs t) s m l) (rsS (bs t) s m l) w) := by
  have HF : Hid (∀ W, Below w.heap.size w W → Calls Tryd.prog 58 #[.int .i64 m, v] W (fun e w' => ∃ b, RfPost (frK m l 1) (frN m l) b (frS m l) W e w' ∧ (b = true → frK m l 4 = frK m l 1) ∧ (b = false → frS m l = 0 ∧ frK m l 4 = 4 ∧ frN m l = 0))) := fun W hb => rframe_any m v l W (isFlds_below hs hb) hz hl
  have HBr := rbare_any t s
  have e1 : rsK (bs t) s m l = if bareB (bs t) s then 1 else frK m l 4 := rfl
  have e2 : rsN (bs t) s m l = if bareB (bs t) s then 0 else frN m l := rfl
  have e3 : rsS (bs t) s m l = if bareB (bs t) s then 0 else frS m l := rfl
  obtain ⟨a, ln, cap, rfl⟩ := flds_slice' hs
  unfold FrPost
  unfold RfPost at HF
  clear hs hz
  rw [e1, e2, e3]
  clear e1 e2 e3
  generalize frK m l 4 = K4 at *
  generalize frK m l 1 = K at *
  generalize frN m l = N at *
  generalize frS m l = S at *
  have HN := Lib.hid (Two.new w 28 (.int .i64 0) (.int .i64 0))
  have HB0 := Lib.hid (show Below w.heap.size w (w.alloc (.cells #[.int .i64 0, .int .i64 0] 28)) from (Below.refl _ _).alloc (Nat.le_refl _) _)
  cases hB : bareB (bs t) s
  · rw [hB] at HBr
    rw [if_neg (by decide), if_neg (by decide), if_neg (by decide)]
    have HB1 := Lib.hid HBr
    clear HBr hB
    go_enter Tryd.func18, Tryd.ntmps18
    go_wp2_with fail
    generalize w.alloc (.cells #[.int .i64 0, .int .i64 0] 28) = W0 at *
    refine (HB1.out _).mono ?_
    rintro e w' ⟨rfl, rfl⟩
    go_wp2_with fail
    refine (HF.out _ HB0.out).mono ?_
    rintro e w1 ⟨b, ⟨rfl, hb⟩, hbt, hbf⟩
    have HBT := Lib.hid hbt
    have HBF := Lib.hid hbf
    have HN2 := HN.out.later hb
    have HB2 := Lib.hid (HB0.out.trans (hb.mono HB0.out.size))
    have HM := Lib.hid (Two.new w1 28 (.int .i64 (K : Int)) (.int .i64 (N : Int)))
    have hbal : Below w1.heap.size w1 (w1.alloc (.cells #[.int .i64 (K : Int), .int .i64 (N : Int)] 28)) := (Below.refl _ _).alloc (Nat.le_refl _) _
    have HN3 := HN2.later hbal
    have HB3 := Lib.hid (HB2.out.trans (hbal.mono HB2.out.size))
    have c0 := HN3.c0
    have c1 := HN3.c1
    have f0 := HN3.f0
    have f1 := HN3.f1
    have m0 := HM.out.c0
    have m1 := HM.out.c1
    have hlt := HN3.lt
    have HH := Lib.hid HN3
    clear hb HN2 HN3 hbal hbt hbf
    cases b
    · have X := Lib.hid (HBF.out rfl)
      go_wp2_with fail
      generalize w1.alloc (.cells #[.int .i64 (K : Int), .int .i64 (N : Int)] 28) = w2 at *
      obtain ⟨z0, z1⟩ := HH.out.put (.int .i64 4) (.int .i64 0)
      refine bodyPost_ret (v := .tuple #[.agg #[.int .i64 4, .int .i64 0], .int .i64 0]) ?_ rfl ⟨by rw [X.out.1, X.out.2.1, X.out.2.2]; rfl, ?_⟩
      · simp [results, Tryd.results18, go_sem, z0, z1]
      · exact (HB3.out.setCell (p := ⟨w.heap.size, 0, none⟩) (Nat.le_refl _) _).setCell (p := ⟨w.heap.size, 1, none⟩) (Nat.le_refl _) _
    · have x1 := Lib.hid (HBT.out rfl)
      go_wp2_with fail
      generalize w1.alloc (.cells #[.int .i64 (K : Int), .int .i64 (N : Int)] 28) = w2 at *
      obtain ⟨z0, z1⟩ := HH.out.put (.int .i64 (K : Nat)) (.int .i64 (N : Nat))
      refine bodyPost_ret (v := .tuple #[.agg #[.int .i64 (K : Nat), .int .i64 (N : Nat)], .int .i64 (S : Nat)]) ?_ rfl ⟨by rw [x1.out], ?_⟩
      · simp [results, Tryd.results18, go_sem, z0, z1]
      · exact (HB3.out.setCell (p := ⟨w.heap.size, 0, none⟩) (Nat.le_refl _) _).setCell (p := ⟨w.heap.size, 1, none⟩) (Nat.le_refl _) _
  · rw [hB] at HBr
    rw [if_pos rfl, if_pos rfl, if_pos rfl]
    have HB1 := Lib.hid HBr
    clear HBr hB HF
    go_enter Tryd.func18, Tryd.ntmps18
    go_wp2_with fail
    generalize w.alloc (.cells #[.int .i64 0, .int .i64 0] 28) = W0 at *
    have HH := HN
    have c0 := HN.out.c0
    have c1 := HN.out.c1
    have f0 := HN.out.f0
    have f1 := HN.out.f1
    have hlt := HN.out.lt
    refine (HB1.out _).mono ?_
    rintro e w' ⟨rfl, rfl⟩
    go_wp2_with fail
    obtain ⟨z0, z1⟩ := HH.out.put (.int .i64 1) (.int .i64 0)
    refine bodyPost_ret (v := .tuple #[.agg #[.int .i64 1, .int .i64 0], .int .i64 0]) ?_ rfl ⟨rfl, ?_⟩
    · simp [results, Tryd.results18, go_sem, z0, z1]
    · exact (HB0.out.setCell (p := ⟨w.heap.size, 0, none⟩) (Nat.le_refl _) _).setCell (p := ⟨w.heap.size, 1, none⟩) (Nat.le_refl _) _
end Tk
end Go.Proofs.YtapnlopeipdjmaaDoor
