/- FrmC FrmD MsgG MsgH MsgI MsgGR MsgHR, put together. -/
import Derived.Test.YtpcdaaijlgilkaaGreatDoorQG
import Derived.Test.YtpcdaaijlgilkaaGreatDoorQA
import Derived.Test.YtpcdaaijlgilkaaGreatDoorQC
import Derived.Deep.RegionHeld3
namespace Go.Proofs.YtpcdaaijlgilkaaGreatDoor
open Go.RowKit
namespace Tk

def CodPost (l : List (Bs × Bs)) (w : World) (e : Ending) (w' : World) : Prop := e = .returned (.tuple #[.bool (hasF l nmTE), .int .i64 (codS l : Nat)]) ∧ Below w.heap.size w w'
theorem cod_ret (l : List (Bs × Bs)) (b : Bool) (s : Nat) (h2 : hasF l nmTE = b) (h3 : codS l = s) : Ending.returned (.tuple #[.bool b, .int .i64 (s : Int)]) = .returned (.tuple #[.bool (hasF l nmTE), .int .i64 (codS l : Nat)]) := by rw [h2, h3]
theorem cod_no (l : List (Bs × Bs)) (h : hasF l nmTE = false) : codS l = 0 := by unfold codS; rw [h]; rfl
theorem cod_yes (l : List (Bs × Bs)) (h : hasF l nmTE = true) : codS l = if codOk (listF l nmTE) then 0 else 501 := by unfold codS; rw [h]; cases codOk (listF l nmTE) <;> rfl

set_option maxHeartbeats 4000000 in
set_option maxRecDepth 100000 in
theorem coded_any (v : Value) (l : List (Bs × Bs)) (w : World) (hs : IsFlds w v l) (hz : sumF l ≤ 1000000) (hl : l.length ≤ 1048576) :
    Calls Tryz.prog 140 #[v] w (CodPost l w) := by
  have HH : Hid (∀ W, Below w.heap.size w W → Calls Tryz.prog 151 #[v, .string ⟨#[84, 114, 97, 110, 115, 102, 101, 114, 45, 69, 110, 99, 111, 100, 105, 110, 103]⟩] W fun e w' => e = .returned (.bool (hasF l nmTE)) ∧ Below W.heap.size W w') := fun W hb => has_any v l nmTE W (isFlds_below hs hb) hz (by decide) hl
  have HLs : Hid (∀ W, Below w.heap.size w W → Calls Tryz.prog 152 #[v, .string ⟨#[84, 114, 97, 110, 115, 102, 101, 114, 45, 69, 110, 99, 111, 100, 105, 110, 103]⟩] W (ListPost W.heap.size (listF l nmTE) W)) := fun W hb => flist_any v l nmTE W (isFlds_below hs hb) hz (by decide) hl
  unfold ListPost at HLs
  have HPc := Lib.hid (fun p hp => Nat.le_trans (listF_piece nmTE l p hp) hz)
  have hln := listF_len nmTE l
  have hlp : (listF l nmTE).length ≤ 1000000 := by omega
  have HRet := Lib.hid (cod_ret l)
  have HNo := Lib.hid (cod_no l)
  have HYes := Lib.hid (cod_yes l)
  unfold CodPost
  obtain ⟨a, cap, rfl⟩ : ∃ a cap, v = .slice a l.length cap := by obtain ⟨a, c, h, -⟩ := hs; exact ⟨a, c, h⟩
  clear hs hz hln
  generalize listF l nmTE = P at *
  cases hh : hasF l nmTE
  · have HR := Lib.hid (HRet.out false 0 hh (HNo.out hh))
    rw [hh] at HH HR
    go_enter Tryz.func140, Tryz.ntmps140
    go_wp2_with fail
    refine (HH.out _ (Below.refl _ _)).mono ?_
    rintro e w1 ⟨rfl, hb⟩
    have HB1 := Lib.hid hb
    clear hb
    go_wp2_with fail
    refine (HLs.out _ HB1.out).mono ?_
    rintro e w2 ⟨v2, rfl, ho, hb⟩
    have HB2 := Lib.hid (HB1.out.trans (hb.mono HB1.out.size))
    obtain ⟨a1, c1, rfl⟩ : ∃ a c, v2 = .slice a P.length c := by obtain ⟨a, c, h, -⟩ := isStrs_own ho; exact ⟨a, c, h⟩
    clear ho hb
    go_wp2_with fail
    go_ret2
    exact ⟨HR.out, HB2.out⟩
  · have hy := HYes.out hh
    rw [hh] at HH
    by_cases h1 : P.length = 1
    · obtain ⟨p, rfl⟩ : ∃ p, P = [p] := List.length_eq_one_iff.1 h1
      have hpz := HPc.out p (by simp)
      have hpm := size_mkS p
      have hS : ∀ W : World, Calls Tryz.prog 44 #[.string (mkS p), .string ⟨#[99, 104, 117, 110, 107, 101, 100]⟩] W fun r w' => r = .returned (.bool (codOk [p])) ∧ ∃ n, w' = W.drewN n := fun W => by
        have h := tsame_any (mkS p) ⟨#[99, 104, 117, 110, 107, 101, 100]⟩ W (by omega) (by decide)
        have e : codOk [p] = decide (lowL (bs (mkS p)) = lowL (bs ⟨#[99, 104, 117, 110, 107, 101, 100]⟩)) := by
          show (true && decide (lowL p = lowL chkB)) = _
          rw [Bool.true_and]; rfl
        rw [e]; exact h
      have HS := Lib.hid hS
      clear hS hpm hpz h1
      cases hk : codOk [p]
      all_goals
        rw [hk] at hy HS
        have HR := Lib.hid (HRet.out true _ hh hy)
        rw [hh] at HR
        clear hy
        go_enter Tryz.func140, Tryz.ntmps140
        go_wp2_with fail
        refine (HH.out _ (Below.refl _ _)).mono ?_
        rintro e w1 ⟨rfl, hb⟩
        have HB1 := Lib.hid hb
        clear hb
        go_wp2_with fail
        refine (HLs.out _ HB1.out).mono ?_
        rintro e w2 ⟨v2, rfl, ho, hb⟩
        have HB2 := Lib.hid (HB1.out.trans (hb.mono HB1.out.size))
        obtain ⟨a1, c1, rfl, hc⟩ := isStrs_own ho
        obtain ⟨b, o, rfl, hc0⟩ := hc 0 p (by simp)
        rw [Nat.add_zero] at hc0
        clear ho hb hc
        go_wp2_with fail
        refine (HS.out _).mono ?_
        rintro e w3 ⟨rfl, n, rfl⟩
        go_wp2_with fail
        go_ret2
        exact ⟨HR.out, below_some_draws HB2.out _⟩
    · have hk : codOk P = false := by unfold codOk; simp [h1]
      rw [hk] at hy
      have HR := Lib.hid (HRet.out true 501 hh hy)
      rw [hh] at HR
      have hb1 : ((P.length : Int) != 1) = true := by rw [bne_iff_ne]; omega
      clear hy h1 hk
      go_enter Tryz.func140, Tryz.ntmps140
      go_wp2_with fail
      refine (HH.out _ (Below.refl _ _)).mono ?_
      rintro e w1 ⟨rfl, hb⟩
      have HB1 := Lib.hid hb
      clear hb
      go_wp2_with fail
      refine (HLs.out _ HB1.out).mono ?_
      rintro e w2 ⟨v2, rfl, ho, hb⟩
      have HB2 := Lib.hid (HB1.out.trans (hb.mono HB1.out.size))
      obtain ⟨a1, c1, rfl⟩ : ∃ a c, v2 = .slice a P.length c := by obtain ⟨a, c, h, -⟩ := isStrs_own ho; exact ⟨a, c, h⟩
      clear ho hb
      go_wp2_with fail
      go_ret2
      exact ⟨HR.out, HB2.out⟩
end Tk
end Go.Proofs.YtpcdaaijlgilkaaGreatDoor
namespace Go.Proofs.YtpcdaaijlgilkaaGreatDoor
open Go.RowKit
namespace Tk

def FrPost (K N S : Nat) (w : World) (e : Ending) (w' : World) : Prop := e = .returned (.tuple #[.agg #[.int .i64 (K : Int), .int .i64 (N : Int)], .int .i64 (S : Int)]) ∧ Below w.heap.size w w'
theorem Two.put0 {w : World} {g : Nat} {T : TypeId} {a b : Value} (h : Two w g T a b) (a' : Value) :
    (w.setCell ⟨g, 0, none⟩ a').cell? ⟨g, 0, none⟩ = some a' ∧ (w.setCell ⟨g, 0, none⟩ a').cell? ⟨g, 1, none⟩ = some b :=
  ⟨World.cell?_setCell_same _ _ _ h.c0, by rw [World.cell?_setCell_other (w := w) (a := ⟨g, 0, none⟩) (b := ⟨g, 1, none⟩) (h := by intro e; injection e with _ e2; cases e2)]; exact h.c1⟩

/-- what Length and Coded tell -/
def LnAt (P : Program) (f : FuncId) (v : Value) (w : World) (N : Nat) (C : Bool) (S : Nat) : Prop := ∀ W, Below w.heap.size w W → Calls P f #[v] W fun e w' => e = .returned (.tuple #[.int .i64 (N : Int), .bool C, .int .i64 (S : Int)]) ∧ Below W.heap.size W w'
def CdAt (P : Program) (f : FuncId) (v : Value) (w : World) (T : Bool) (K : Nat) : Prop := ∀ W, Below w.heap.size w W → Calls P f #[v] W fun e w' => e = .returned (.tuple #[.bool T, .int .i64 (K : Int)]) ∧ Below W.heap.size W w'

set_option maxHeartbeats 4000000 in
set_option maxRecDepth 100000 in
theorem frame_m0 (m : Int) (v : Value) (n0 N K S : Nat) (C : Bool) (w : World) (HL : LnAt Tryz.prog 139 v w N C S) (HC : CdAt Tryz.prog 140 v w true K) (hv : ∃ a n c, v = .slice a n c) (hm : m = 0) :
    Calls Tryz.prog 113 #[.int .i64 m, v, .int .i64 (n0 : Int)] w (FrPost 0 0 400 w) := by
  obtain ⟨a, ln, cap, rfl⟩ := hv
  have HL2 := Lib.hid HL
  have HC2 := Lib.hid HC
  unfold LnAt at HL2
  unfold CdAt at HC2
  unfold FrPost
  clear HL HC
  have em : (m == 0) = true := by rw [hm]; rfl
  clear hm
  have HN := Lib.hid (Two.new w 67 (.int .i64 0) (.int .i64 0))
  have HB0 := Lib.hid (show Below w.heap.size w (w.alloc (.cells #[.int .i64 0, .int .i64 0] 67)) from (Below.refl _ _).alloc (Nat.le_refl _) _)
  go_enter Tryz.func113, Tryz.ntmps113
  go_wp2_with fail
  generalize w.alloc (.cells #[.int .i64 0, .int .i64 0] 67) = W0 at *
  refine (HL2.out _ HB0.out).mono ?_
  rintro e w1 ⟨rfl, hb⟩
  have HN1 := Lib.hid (HN.out.later hb)
  have HB1 := Lib.hid (HB0.out.trans (hb.mono HB0.out.size))
  clear hb
  go_wp2_with fail
  refine (HC2.out _ HB1.out).mono ?_
  rintro e w2 ⟨rfl, hb⟩
  have HN2 := HN1.out.later hb
  have HB2 := Lib.hid (HB1.out.trans (hb.mono HB1.out.size))
  have c0 := HN2.c0
  have c1 := HN2.c1
  have f0 := HN2.f0
  have f1 := HN2.f1
  have hlt := HN2.lt
  have HH := Lib.hid HN2
  clear hb HN2
  go_wp2_with fail
  have z0 := HH.out.c0
  have z1 := HH.out.c1
  refine bodyPost_ret (v := .tuple #[.agg #[.int .i64 0, .int .i64 0], .int .i64 400]) ?_ rfl ⟨rfl, ?_⟩
  · simp [results, Tryz.results113, go_sem, z0, z1]
  · exact HB2.out

set_option maxHeartbeats 4000000 in
set_option maxRecDepth 100000 in
theorem frame_both (m : Int) (v : Value) (n0 N K S : Nat) (_C : Bool) (w : World) (HL : LnAt Tryz.prog 139 v w N true S) (HC : CdAt Tryz.prog 140 v w true K) (hv : ∃ a n c, v = .slice a n c) (hm : m ≠ 0) :
    Calls Tryz.prog 113 #[.int .i64 m, v, .int .i64 (n0 : Int)] w (FrPost 0 0 400 w) := by
  obtain ⟨a, ln, cap, rfl⟩ := hv
  have HL2 := Lib.hid HL
  have HC2 := Lib.hid HC
  unfold LnAt at HL2
  unfold CdAt at HC2
  unfold FrPost
  clear HL HC
  have em : (m == 0) = false := beq_eq_false_iff_ne.2 hm
  clear hm
  have HN := Lib.hid (Two.new w 67 (.int .i64 0) (.int .i64 0))
  have HB0 := Lib.hid (show Below w.heap.size w (w.alloc (.cells #[.int .i64 0, .int .i64 0] 67)) from (Below.refl _ _).alloc (Nat.le_refl _) _)
  go_enter Tryz.func113, Tryz.ntmps113
  go_wp2_with fail
  generalize w.alloc (.cells #[.int .i64 0, .int .i64 0] 67) = W0 at *
  refine (HL2.out _ HB0.out).mono ?_
  rintro e w1 ⟨rfl, hb⟩
  have HN1 := Lib.hid (HN.out.later hb)
  have HB1 := Lib.hid (HB0.out.trans (hb.mono HB0.out.size))
  clear hb
  go_wp2_with fail
  refine (HC2.out _ HB1.out).mono ?_
  rintro e w2 ⟨rfl, hb⟩
  have HN2 := HN1.out.later hb
  have HB2 := Lib.hid (HB1.out.trans (hb.mono HB1.out.size))
  have c0 := HN2.c0
  have c1 := HN2.c1
  have f0 := HN2.f0
  have f1 := HN2.f1
  have hlt := HN2.lt
  have HH := Lib.hid HN2
  clear hb HN2
  go_wp2_with fail
  have z0 := HH.out.c0
  have z1 := HH.out.c1
  refine bodyPost_ret (v := .tuple #[.agg #[.int .i64 0, .int .i64 0], .int .i64 400]) ?_ rfl ⟨rfl, ?_⟩
  · simp [results, Tryz.results113, go_sem, z0, z1]
  · exact HB2.out

set_option maxHeartbeats 4000000 in
set_option maxRecDepth 100000 in
theorem frame_cod (m : Int) (v : Value) (n0 N K S : Nat) (_C : Bool) (w : World) (HL : LnAt Tryz.prog 139 v w N false S) (HC : CdAt Tryz.prog 140 v w true K) (hv : ∃ a n c, v = .slice a n c) (hm : m ≠ 0) (hk : K ≠ 0) :
    Calls Tryz.prog 113 #[.int .i64 m, v, .int .i64 (n0 : Int)] w (FrPost 0 0 K w) := by
  obtain ⟨a, ln, cap, rfl⟩ := hv
  have HL2 := Lib.hid HL
  have HC2 := Lib.hid HC
  unfold LnAt at HL2
  unfold CdAt at HC2
  unfold FrPost
  clear HL HC
  have em : (m == 0) = false := beq_eq_false_iff_ne.2 hm
  clear hm
  have ek : ((K : Int) != 0) = true := by rw [bne_iff_ne]; omega
  clear hk
  have HN := Lib.hid (Two.new w 67 (.int .i64 0) (.int .i64 0))
  have HB0 := Lib.hid (show Below w.heap.size w (w.alloc (.cells #[.int .i64 0, .int .i64 0] 67)) from (Below.refl _ _).alloc (Nat.le_refl _) _)
  go_enter Tryz.func113, Tryz.ntmps113
  go_wp2_with fail
  generalize w.alloc (.cells #[.int .i64 0, .int .i64 0] 67) = W0 at *
  refine (HL2.out _ HB0.out).mono ?_
  rintro e w1 ⟨rfl, hb⟩
  have HN1 := Lib.hid (HN.out.later hb)
  have HB1 := Lib.hid (HB0.out.trans (hb.mono HB0.out.size))
  clear hb
  go_wp2_with fail
  refine (HC2.out _ HB1.out).mono ?_
  rintro e w2 ⟨rfl, hb⟩
  have HN2 := HN1.out.later hb
  have HB2 := Lib.hid (HB1.out.trans (hb.mono HB1.out.size))
  have c0 := HN2.c0
  have c1 := HN2.c1
  have f0 := HN2.f0
  have f1 := HN2.f1
  have hlt := HN2.lt
  have HH := Lib.hid HN2
  clear hb HN2
  go_wp2_with fail
  have z0 := HH.out.c0
  have z1 := HH.out.c1
  refine bodyPost_ret (v := .tuple #[.agg #[.int .i64 0, .int .i64 0], .int .i64 (K : Nat)]) ?_ rfl ⟨rfl, ?_⟩
  · simp [results, Tryz.results113, go_sem, z0, z1]
  · exact HB2.out

set_option maxHeartbeats 4000000 in
set_option maxRecDepth 100000 in
theorem frame_chunks (m : Int) (v : Value) (n0 N _K S : Nat) (_C : Bool) (w : World) (HL : LnAt Tryz.prog 139 v w N false S) (HC : CdAt Tryz.prog 140 v w true 0) (hv : ∃ a n c, v = .slice a n c) (hm : m ≠ 0) :
    Calls Tryz.prog 113 #[.int .i64 m, v, .int .i64 (n0 : Int)] w (FrPost 3 0 0 w) := by
  obtain ⟨a, ln, cap, rfl⟩ := hv
  have HL2 := Lib.hid HL
  have HC2 := Lib.hid HC
  unfold LnAt at HL2
  unfold CdAt at HC2
  unfold FrPost
  clear HL HC
  have em : (m == 0) = false := beq_eq_false_iff_ne.2 hm
  clear hm
  have HN := Lib.hid (Two.new w 67 (.int .i64 0) (.int .i64 0))
  have HB0 := Lib.hid (show Below w.heap.size w (w.alloc (.cells #[.int .i64 0, .int .i64 0] 67)) from (Below.refl _ _).alloc (Nat.le_refl _) _)
  go_enter Tryz.func113, Tryz.ntmps113
  go_wp2_with fail
  generalize w.alloc (.cells #[.int .i64 0, .int .i64 0] 67) = W0 at *
  refine (HL2.out _ HB0.out).mono ?_
  rintro e w1 ⟨rfl, hb⟩
  have HN1 := Lib.hid (HN.out.later hb)
  have HB1 := Lib.hid (HB0.out.trans (hb.mono HB0.out.size))
  clear hb
  go_wp2_with fail
  refine (HC2.out _ HB1.out).mono ?_
  rintro e w2 ⟨rfl, hb⟩
  have HN2 := HN1.out.later hb
  have HB2 := Lib.hid (HB1.out.trans (hb.mono HB1.out.size))
  have c0 := HN2.c0
  have c1 := HN2.c1
  have f0 := HN2.f0
  have f1 := HN2.f1
  have hlt := HN2.lt
  have HH := Lib.hid HN2
  clear hb HN2
  go_wp2_with fail
  obtain ⟨z0, z1⟩ := HH.out.put0 (.int .i64 3)
  refine bodyPost_ret (v := .tuple #[.agg #[.int .i64 3, .int .i64 0], .int .i64 0]) ?_ rfl ⟨rfl, ?_⟩
  · simp [results, Tryz.results113, go_sem, z0, z1]
  · exact HB2.out.setCell (p := ⟨w.heap.size, 0, none⟩) (Nat.le_refl _) _

set_option maxHeartbeats 4000000 in
set_option maxRecDepth 100000 in
theorem frame_bad (m : Int) (v : Value) (n0 N K S : Nat) (C : Bool) (w : World) (HL : LnAt Tryz.prog 139 v w N C S) (HC : CdAt Tryz.prog 140 v w false K) (hv : ∃ a n c, v = .slice a n c) (hk : S ≠ 0) :
    Calls Tryz.prog 113 #[.int .i64 m, v, .int .i64 (n0 : Int)] w (FrPost 0 0 S w) := by
  obtain ⟨a, ln, cap, rfl⟩ := hv
  have HL2 := Lib.hid HL
  have HC2 := Lib.hid HC
  unfold LnAt at HL2
  unfold CdAt at HC2
  unfold FrPost
  clear HL HC
  have ek : ((S : Int) != 0) = true := by rw [bne_iff_ne]; omega
  clear hk
  have HN := Lib.hid (Two.new w 67 (.int .i64 0) (.int .i64 0))
  have HB0 := Lib.hid (show Below w.heap.size w (w.alloc (.cells #[.int .i64 0, .int .i64 0] 67)) from (Below.refl _ _).alloc (Nat.le_refl _) _)
  go_enter Tryz.func113, Tryz.ntmps113
  go_wp2_with fail
  generalize w.alloc (.cells #[.int .i64 0, .int .i64 0] 67) = W0 at *
  refine (HL2.out _ HB0.out).mono ?_
  rintro e w1 ⟨rfl, hb⟩
  have HN1 := Lib.hid (HN.out.later hb)
  have HB1 := Lib.hid (HB0.out.trans (hb.mono HB0.out.size))
  clear hb
  go_wp2_with fail
  refine (HC2.out _ HB1.out).mono ?_
  rintro e w2 ⟨rfl, hb⟩
  have HN2 := HN1.out.later hb
  have HB2 := Lib.hid (HB1.out.trans (hb.mono HB1.out.size))
  have c0 := HN2.c0
  have c1 := HN2.c1
  have f0 := HN2.f0
  have f1 := HN2.f1
  have hlt := HN2.lt
  have HH := Lib.hid HN2
  clear hb HN2
  go_wp2_with fail
  have z0 := HH.out.c0
  have z1 := HH.out.c1
  refine bodyPost_ret (v := .tuple #[.agg #[.int .i64 0, .int .i64 0], .int .i64 (S : Nat)]) ?_ rfl ⟨rfl, ?_⟩
  · simp [results, Tryz.results113, go_sem, z0, z1]
  · exact HB2.out

set_option maxHeartbeats 4000000 in
set_option maxRecDepth 100000 in
theorem frame_neither (m : Int) (v : Value) (n0 N K _S : Nat) (_C : Bool) (w : World) (HL : LnAt Tryz.prog 139 v w N false 0) (HC : CdAt Tryz.prog 140 v w false K) (hv : ∃ a n c, v = .slice a n c) :
    Calls Tryz.prog 113 #[.int .i64 m, v, .int .i64 (n0 : Int)] w (FrPost n0 0 0 w) := by
  obtain ⟨a, ln, cap, rfl⟩ := hv
  have HL2 := Lib.hid HL
  have HC2 := Lib.hid HC
  unfold LnAt at HL2
  unfold CdAt at HC2
  unfold FrPost
  clear HL HC
  have HN := Lib.hid (Two.new w 67 (.int .i64 0) (.int .i64 0))
  have HB0 := Lib.hid (show Below w.heap.size w (w.alloc (.cells #[.int .i64 0, .int .i64 0] 67)) from (Below.refl _ _).alloc (Nat.le_refl _) _)
  go_enter Tryz.func113, Tryz.ntmps113
  go_wp2_with fail
  generalize w.alloc (.cells #[.int .i64 0, .int .i64 0] 67) = W0 at *
  refine (HL2.out _ HB0.out).mono ?_
  rintro e w1 ⟨rfl, hb⟩
  have HN1 := Lib.hid (HN.out.later hb)
  have HB1 := Lib.hid (HB0.out.trans (hb.mono HB0.out.size))
  clear hb
  go_wp2_with fail
  refine (HC2.out _ HB1.out).mono ?_
  rintro e w2 ⟨rfl, hb⟩
  have HN2 := HN1.out.later hb
  have HB2 := Lib.hid (HB1.out.trans (hb.mono HB1.out.size))
  have c0 := HN2.c0
  have c1 := HN2.c1
  have f0 := HN2.f0
  have f1 := HN2.f1
  have hlt := HN2.lt
  have HH := Lib.hid HN2
  clear hb HN2
  go_wp2_with fail
  obtain ⟨z0, z1⟩ := HH.out.put0 (.int .i64 (n0 : Nat))
  refine bodyPost_ret (v := .tuple #[.agg #[.int .i64 (n0 : Nat), .int .i64 0], .int .i64 0]) ?_ rfl ⟨rfl, ?_⟩
  · simp [results, Tryz.results113, go_sem, z0, z1]
  · exact HB2.out.setCell (p := ⟨w.heap.size, 0, none⟩) (Nat.le_refl _) _

set_option maxHeartbeats 4000000 in
set_option maxRecDepth 100000 in
theorem frame_nought (m : Int) (v : Value) (n0 _N K _S : Nat) (_C : Bool) (w : World) (HL : LnAt Tryz.prog 139 v w 0 true 0) (HC : CdAt Tryz.prog 140 v w false K) (hv : ∃ a n c, v = .slice a n c) :
    Calls Tryz.prog 113 #[.int .i64 m, v, .int .i64 (n0 : Int)] w (FrPost 1 0 0 w) := by
  obtain ⟨a, ln, cap, rfl⟩ := hv
  have HL2 := Lib.hid HL
  have HC2 := Lib.hid HC
  unfold LnAt at HL2
  unfold CdAt at HC2
  unfold FrPost
  clear HL HC
  have HN := Lib.hid (Two.new w 67 (.int .i64 0) (.int .i64 0))
  have HB0 := Lib.hid (show Below w.heap.size w (w.alloc (.cells #[.int .i64 0, .int .i64 0] 67)) from (Below.refl _ _).alloc (Nat.le_refl _) _)
  go_enter Tryz.func113, Tryz.ntmps113
  go_wp2_with fail
  generalize w.alloc (.cells #[.int .i64 0, .int .i64 0] 67) = W0 at *
  refine (HL2.out _ HB0.out).mono ?_
  rintro e w1 ⟨rfl, hb⟩
  have HN1 := Lib.hid (HN.out.later hb)
  have HB1 := Lib.hid (HB0.out.trans (hb.mono HB0.out.size))
  clear hb
  go_wp2_with fail
  refine (HC2.out _ HB1.out).mono ?_
  rintro e w2 ⟨rfl, hb⟩
  have HN2 := HN1.out.later hb
  have HB2 := Lib.hid (HB1.out.trans (hb.mono HB1.out.size))
  have c0 := HN2.c0
  have c1 := HN2.c1
  have f0 := HN2.f0
  have f1 := HN2.f1
  have hlt := HN2.lt
  have HH := Lib.hid HN2
  clear hb HN2
  go_wp2_with fail
  obtain ⟨z0, z1⟩ := HH.out.put0 (.int .i64 1)
  refine bodyPost_ret (v := .tuple #[.agg #[.int .i64 1, .int .i64 0], .int .i64 0]) ?_ rfl ⟨rfl, ?_⟩
  · simp [results, Tryz.results113, go_sem, z0, z1]
  · exact HB2.out.setCell (p := ⟨w.heap.size, 0, none⟩) (Nat.le_refl _) _

set_option maxHeartbeats 4000000 in
set_option maxRecDepth 100000 in
theorem frame_len (m : Int) (v : Value) (n0 N K _S : Nat) (_C : Bool) (w : World) (HL : LnAt Tryz.prog 139 v w N true 0) (HC : CdAt Tryz.prog 140 v w false K) (hv : ∃ a n c, v = .slice a n c) (hk : N ≠ 0) :
    Calls Tryz.prog 113 #[.int .i64 m, v, .int .i64 (n0 : Int)] w (FrPost 2 N 0 w) := by
  obtain ⟨a, ln, cap, rfl⟩ := hv
  have HL2 := Lib.hid HL
  have HC2 := Lib.hid HC
  unfold LnAt at HL2
  unfold CdAt at HC2
  unfold FrPost
  clear HL HC
  have ek : ((N : Int) == 0) = false := by rw [beq_eq_false_iff_ne]; omega
  clear hk
  have HN := Lib.hid (Two.new w 67 (.int .i64 0) (.int .i64 0))
  have HB0 := Lib.hid (show Below w.heap.size w (w.alloc (.cells #[.int .i64 0, .int .i64 0] 67)) from (Below.refl _ _).alloc (Nat.le_refl _) _)
  go_enter Tryz.func113, Tryz.ntmps113
  go_wp2_with fail
  generalize w.alloc (.cells #[.int .i64 0, .int .i64 0] 67) = W0 at *
  refine (HL2.out _ HB0.out).mono ?_
  rintro e w1 ⟨rfl, hb⟩
  have HN1 := Lib.hid (HN.out.later hb)
  have HB1 := Lib.hid (HB0.out.trans (hb.mono HB0.out.size))
  clear hb
  go_wp2_with fail
  refine (HC2.out _ HB1.out).mono ?_
  rintro e w2 ⟨rfl, hb⟩
  have HN2 := HN1.out.later hb
  have HB2 := Lib.hid (HB1.out.trans (hb.mono HB1.out.size))
  have c0 := HN2.c0
  have c1 := HN2.c1
  have f0 := HN2.f0
  have f1 := HN2.f1
  have hlt := HN2.lt
  have HH := Lib.hid HN2
  clear hb HN2
  go_wp2_with fail
  obtain ⟨z0, z1⟩ := HH.out.put (.int .i64 2) (.int .i64 (N : Nat))
  refine bodyPost_ret (v := .tuple #[.agg #[.int .i64 2, .int .i64 (N : Nat)], .int .i64 0]) ?_ rfl ⟨rfl, ?_⟩
  · simp [results, Tryz.results113, go_sem, z0, z1]
  · exact (HB2.out.setCell (p := ⟨w.heap.size, 0, none⟩) (Nat.le_refl _) _).setCell (p := ⟨w.heap.size, 1, none⟩) (Nat.le_refl _) _

theorem flds_slice' {w : World} {v : Value} {l : List (Bs × Bs)} (h : IsFlds w v l) : ∃ a n c, v = .slice a n c := by obtain ⟨a, c, e, -⟩ := h; exact ⟨a, _, c, e⟩
theorem frame_any (m : Int) (v : Value) (l : List (Bs × Bs)) (n0 : Nat) (w : World) (hs : IsFlds w v l) (hz : sumF l ≤ 1000000) (hl : l.length ≤ 1048576) :
    Calls Tryz.prog 113 #[.int .i64 m, v, .int .i64 (n0 : Int)] w (FrPost (frK m l n0) (frN m l) (frS m l) w) := by
  have HL : LnAt Tryz.prog 139 v w (lenN l) (hasF l nmCL) (lenS l) := fun W hb => length_any v l W (isFlds_below hs hb) hz hl
  have HC : CdAt Tryz.prog 140 v w (hasF l nmTE) (codS l) := fun W hb => coded_any v l W (isFlds_below hs hb) hz hl
  have hv := flds_slice' hs
  cases hT : hasF l nmTE
  · rw [hT] at HC
    by_cases hS : lenS l = 0
    · rw [hS] at HL
      cases hc : hasF l nmCL
      · rw [hc] at HL
        obtain ⟨e1, e2, e3⟩ := fr_neither m l n0 hT hc
        rw [e1, e2, e3]
        exact frame_neither m v n0 (lenN l) (codS l) 0 false w HL HC hv
      · rw [hc] at HL
        by_cases hN : lenN l = 0
        · obtain ⟨e1, e2, e3⟩ := fr_nought m l n0 hT hc hS hN
          rw [hN] at HL
          rw [e1, e2, e3]
          exact frame_nought m v n0 0 (codS l) 0 true w HL HC hv
        · obtain ⟨e1, e2, e3⟩ := fr_len m l n0 hT hc hS hN
          rw [e1, e2, e3]
          exact frame_len m v n0 (lenN l) (codS l) 0 true w HL HC hv hN
    · obtain ⟨e1, e2, e3⟩ := fr_bad m l n0 hT hS
      rw [e1, e2, e3]
      exact frame_bad m v n0 (lenN l) (codS l) (lenS l) _ w HL HC hv hS
  · rw [hT] at HC
    by_cases hm : m = 0
    · obtain ⟨e1, e2, e3⟩ := fr_400 m l n0 hT (by simp [hm])
      rw [e1, e2, e3]
      exact frame_m0 m v n0 (lenN l) (codS l) (lenS l) _ w HL HC hv hm
    · cases hc : hasF l nmCL
      · rw [hc] at HL
        have hd : (decide (m = 0) || hasF l nmCL) = false := by simp [hm, hc]
        by_cases hk : codS l = 0
        · obtain ⟨e1, e2, e3⟩ := fr_chunks m l n0 hT hd hk
          rw [hk] at HC
          rw [e1, e2, e3]
          exact frame_chunks m v n0 (lenN l) 0 (lenS l) false w HL HC hv hm
        · obtain ⟨e1, e2, e3⟩ := fr_501 m l n0 hT hd hk
          rw [e1, e2, e3]
          exact frame_cod m v n0 (lenN l) (codS l) (lenS l) false w HL HC hv hm hk
      · rw [hc] at HL
        obtain ⟨e1, e2, e3⟩ := fr_400 m l n0 hT (by simp [hc])
        rw [e1, e2, e3]
        exact frame_both m v n0 (lenN l) (codS l) (lenS l) true w HL HC hv hm

set_option maxHeartbeats 2000000 in
set_option maxRecDepth 100000 in
theorem request04_any (m : Int) (v : Value) (l : List (Bs × Bs)) (w : World) (hs : IsFlds w v l) (hz : sumF l ≤ 1000000) (hl : l.length ≤ 1048576) :
    Calls Tryz.prog 91 #[.int .i64 m, v] w (FrPost (frK m l 1) (frN m l) (frS m l) w) := by
  have HF : Hid (∀ W, Below w.heap.size w W → Calls Tryz.prog 113 #[.int .i64 m, v, .int .i64 1] W (FrPost (frK m l 1) (frN m l) (frS m l) W)) := fun W hb => frame_any m v l 1 W (isFlds_below hs hb) hz hl
  obtain ⟨a, ln, cap, rfl⟩ := flds_slice' hs
  unfold FrPost at HF ⊢
  clear hs hz
  generalize frK m l 1 = K at *
  generalize frN m l = N at *
  generalize frS m l = S at *
  have HN := Lib.hid (Two.new w 67 (.int .i64 0) (.int .i64 0))
  have HB0 := Lib.hid (show Below w.heap.size w (w.alloc (.cells #[.int .i64 0, .int .i64 0] 67)) from (Below.refl _ _).alloc (Nat.le_refl _) _)
  go_enter Tryz.func91, Tryz.ntmps91
  go_wp2_with fail
  generalize w.alloc (.cells #[.int .i64 0, .int .i64 0] 67) = W0 at *
  refine (HF.out _ HB0.out).mono ?_
  rintro e w1 ⟨rfl, hb⟩
  have HN2 := HN.out.later hb
  have HB2 := Lib.hid (HB0.out.trans (hb.mono HB0.out.size))
  have c0 := HN2.c0
  have c1 := HN2.c1
  have f0 := HN2.f0
  have f1 := HN2.f1
  have hlt := HN2.lt
  have HH := Lib.hid HN2
  clear hb HN2
  go_wp2_with fail
  obtain ⟨z0, z1⟩ := HH.out.put (.int .i64 (K : Nat)) (.int .i64 (N : Nat))
  refine bodyPost_ret (v := .tuple #[.agg #[.int .i64 (K : Nat), .int .i64 (N : Nat)], .int .i64 (S : Nat)]) ?_ rfl ⟨rfl, ?_⟩
  · simp [results, Tryz.results91, go_sem, z0, z1]
  · exact (HB2.out.setCell (p := ⟨w.heap.size, 0, none⟩) (Nat.le_refl _) _).setCell (p := ⟨w.heap.size, 1, none⟩) (Nat.le_refl _) _

set_option maxHeartbeats 2000000 in
set_option maxRecDepth 100000 in
theorem response04_any (t : ByteArray) (s m : Int) (v : Value) (l : List (Bs × Bs)) (w : World) (hs : IsFlds w v l) (hz : sumF l ≤ 1000000) (hl : l.length ≤ 1048576) :
    Calls Tryz.prog 90 #[.string t, .int .i64 s, .int .i64 m, v] w (FrPost (rsK (bs t) s m l) (rsN (bs t) s m l) (rsS (bs t) s m l) w) := by
  have HF : Hid (∀ W, Below w.heap.size w W → Calls Tryz.prog 113 #[.int .i64 m, v, .int .i64 4] W (FrPost (frK m l 4) (frN m l) (frS m l) W)) := fun W hb => frame_any m v l 4 W (isFlds_below hs hb) hz hl
  have HBr := bare_any t s
  have e1 : rsK (bs t) s m l = if bareB (bs t) s then 1 else frK m l 4 := rfl
  have e2 : rsN (bs t) s m l = if bareB (bs t) s then 0 else frN m l := rfl
  have e3 : rsS (bs t) s m l = if bareB (bs t) s then 0 else frS m l := rfl
  obtain ⟨a, ln, cap, rfl⟩ := flds_slice' hs
  unfold FrPost at HF ⊢
  clear hs hz
  rw [e1, e2, e3]
  clear e1 e2 e3
  generalize frK m l 4 = K at *
  generalize frN m l = N at *
  generalize frS m l = S at *
  have HN := Lib.hid (Two.new w 67 (.int .i64 0) (.int .i64 0))
  have HB0 := Lib.hid (show Below w.heap.size w (w.alloc (.cells #[.int .i64 0, .int .i64 0] 67)) from (Below.refl _ _).alloc (Nat.le_refl _) _)
  cases hB : bareB (bs t) s
  · rw [hB] at HBr
    rw [if_neg (by decide), if_neg (by decide), if_neg (by decide)]
    have HB1 := Lib.hid HBr
    clear HBr hB
    go_enter Tryz.func90, Tryz.ntmps90
    go_wp2_with fail
    generalize w.alloc (.cells #[.int .i64 0, .int .i64 0] 67) = W0 at *
    refine (HB1.out _).mono ?_
    rintro e w' ⟨rfl, rfl⟩
    go_wp2_with fail
    refine (HF.out _ HB0.out).mono ?_
    rintro e w1 ⟨rfl, hb⟩
    have HN2 := HN.out.later hb
    have HB2 := Lib.hid (HB0.out.trans (hb.mono HB0.out.size))
    have c0 := HN2.c0
    have c1 := HN2.c1
    have f0 := HN2.f0
    have f1 := HN2.f1
    have hlt := HN2.lt
    have HH := Lib.hid HN2
    clear hb HN2
    go_wp2_with fail
    obtain ⟨z0, z1⟩ := HH.out.put (.int .i64 (K : Nat)) (.int .i64 (N : Nat))
    refine bodyPost_ret (v := .tuple #[.agg #[.int .i64 (K : Nat), .int .i64 (N : Nat)], .int .i64 (S : Nat)]) ?_ rfl ⟨rfl, ?_⟩
    · simp [results, Tryz.results90, go_sem, z0, z1]
    · exact (HB2.out.setCell (p := ⟨w.heap.size, 0, none⟩) (Nat.le_refl _) _).setCell (p := ⟨w.heap.size, 1, none⟩) (Nat.le_refl _) _
  · rw [hB] at HBr
    rw [if_pos rfl, if_pos rfl, if_pos rfl]
    have HB1 := Lib.hid HBr
    clear HBr hB HF
    go_enter Tryz.func90, Tryz.ntmps90
    go_wp2_with fail
    generalize w.alloc (.cells #[.int .i64 0, .int .i64 0] 67) = W0 at *
    have HH := HN
    have c0 := HN.out.c0
    have c1 := HN.out.c1
    have f0 := HN.out.f0
    have f1 := HN.out.f1
    have hlt := HN.out.lt
    refine (HB1.out _).mono ?_
    rintro e w' ⟨rfl, rfl⟩
    go_wp2_with fail
    obtain ⟨z0, z1⟩ := HH.out.put (.int .i64 1) (.int .i64 0)
    refine bodyPost_ret (v := .tuple #[.agg #[.int .i64 1, .int .i64 0], .int .i64 0]) ?_ rfl ⟨rfl, ?_⟩
    · simp [results, Tryz.results90, go_sem, z0, z1]
    · exact (HB0.out.setCell (p := ⟨w.heap.size, 0, none⟩) (Nat.le_refl _) _).setCell (p := ⟨w.heap.size, 1, none⟩) (Nat.le_refl _) _
end Tk
end Go.Proofs.YtpcdaaijlgilkaaGreatDoor
namespace Go.Proofs.YtpcdaaijlgilkaaGreatDoor
open Go.RowKit
namespace Tk

variable {B b : Nat} {s : Pr} {q z lf : Nat} {V : PV} {X : Nat → Prop} {w : World}
theorem PTo.trans {B b : Nat} {s1 s2 : Pr} {q1 z1 l1 q2 z2 l2 : Nat} {V : PV} {X : Nat → Prop} {w w1 w2 : World} (h : PTo B b s1 q1 z1 l1 V X w w1) (h2 : ∀ V1, Par B b s1 q1 z1 l1 V1 w1 → PTo B b s2 q2 z2 l2 V1 X w1 w2) : PTo B b s2 q2 z2 l2 V X w w2 := by
  obtain ⟨V1, a1, a2⟩ := h
  obtain ⟨V2, b1, b2⟩ := h2 V1 a1
  exact ⟨V2, b1, a2.trans b2⟩
theorem Par.vf (h : Par B b s q z lf V w) : ∃ a c, V.f = .slice a s.msg.f.length c := by
  obtain ⟨a, c, hv, -⟩ := isFlds_own h.flds; exact ⟨a, c, hv⟩

set_option maxHeartbeats 4000000 in
set_option maxRecDepth 100000 in
theorem framed_any (h : Par B b s q z lf V w) (hr : s.rsp = false) (hz : sumF s.msg.f ≤ 1000000) :
    Calls Tryz.prog 76 #[ptr b] w fun e w' => e = .returned (.tuple #[.agg #[.int .i64 (pK s : Nat), .int .i64 (pN s : Nat)], .int .i64 (pS s : Nat)]) ∧ Below w.heap.size w w' := by
  have hg := sumF_ge s.msg.f
  have hpk : pK s = frK s.msg.mi s.msg.f 1 := by unfold pK; rw [hr]; rfl
  have hpn : pN s = frN s.msg.mi s.msg.f := by unfold pN; rw [hr]; rfl
  have hps : pS s = frS s.msg.mi s.msg.f := by unfold pS; rw [hr]; rfl
  have hF := fun W (hb : Below w.heap.size w W) => request04_any s.msg.mi V.f s.msg.f W (isFlds_below (isFlds_own h.flds) hb) hz (by omega)
  unfold FrPost at hF
  rw [hpk, hpn, hps]
  have c5 : w.cell? ⟨b, 5, none⟩ = some (.bool false) := by rw [← hr]; exact h.cell 5 _ rfl
  have c16 : w.cell? ⟨b, 16, none⟩ = some (.int .i64 s.msg.mi) := h.cell 16 _ rfl
  have c17 : w.cell? ⟨b, 17, none⟩ = some V.f := h.cell 17 _ rfl
  have hlt := h.lt
  obtain ⟨a, cap, hv⟩ := h.vf
  rw [hv] at c17 hF
  have HF := Lib.hid hF
  clear h hr hz hg hpk hpn hps hF hv
  generalize frK s.msg.mi s.msg.f 1 = K at *
  generalize frN s.msg.mi s.msg.f = N at *
  generalize frS s.msg.mi s.msg.f = S at *
  generalize s.msg.f.length = n at *
  generalize s.msg.mi = mi at *
  unfold ptr
  have HN := Lib.hid (Two.new w 67 (.int .i64 0) (.int .i64 0))
  have HB0 := Lib.hid (show Below w.heap.size w (w.alloc (.cells #[.int .i64 0, .int .i64 0] 67)) from (Below.refl _ _).alloc (Nat.le_refl _) _)
  go_enter Tryz.func76, Tryz.ntmps76
  go_wp2_with fail
  generalize hW0 : w.alloc (.cells #[.int .i64 0, .int .i64 0] 67) = W0 at *
  have hsz : W0.heap.size = w.heap.size + 1 := by rw [← hW0]; simp
  clear hW0
  generalize hgg : w.heap.size = g at HN hsz hlt HB0 HF ⊢
  have HGg := Lib.hid hgg
  clear hgg
  have d16 : W0.cell? ⟨b, 16, none⟩ = some (.int .i64 mi) := (HB0.out.cell (p := ⟨b, 16, none⟩) hlt).trans c16
  have d17 : W0.cell? ⟨b, 17, none⟩ = some (.slice a n cap) := (HB0.out.cell (p := ⟨b, 17, none⟩) hlt).trans c17
  have HFa : Hid (Calls Tryz.prog 91 #[.int .i64 mi, .slice a n cap] W0.drew fun e w' => e = .returned (.tuple #[.agg #[.int .i64 K, .int .i64 N], .int .i64 S]) ∧ Below W0.heap.size W0 w' ∧ w'.cell? ⟨b, 16, none⟩ = some (.int .i64 mi) ∧ w'.cell? ⟨b, 17, none⟩ = some (.slice a n cap) ∧ w'.cell? ⟨g, 0, none⟩ = some (.int .i64 0) ∧ w'.cell? ⟨g, 1, none⟩ = some (.int .i64 0) ∧ w'.frozen? ⟨g, 0, none⟩ = false ∧ w'.frozen? ⟨g, 1, none⟩ = false) := by
    have hd : Below W0.heap.size W0 W0.drew := (Below.refl _ _).drew
    refine (HF.out W0.drew (HB0.out.trans (hd.mono (by omega)))).mono ?_
    rintro e w' ⟨rfl, hb⟩
    have hb2 : Below W0.heap.size W0 w' := hd.trans hb
    have ht := HN.out.later hb2
    exact ⟨rfl, hb2, (hb2.cell (p := ⟨b, 16, none⟩) (by show b < _; omega)).trans d16, (hb2.cell (p := ⟨b, 17, none⟩) (by show b < _; omega)).trans d17, ht.c0, ht.c1, ht.f0, ht.f1⟩
  have n0 := HN.out.c0
  have n1 := HN.out.c1
  have g0 := HN.out.f0
  have g1 := HN.out.f1
  have hne : b ≠ g := by omega
  have hne2 : g ≠ b := by omega
  clear c5 c16 c17 HF
  (go_region_held3 (fun w' => w'.cell? ⟨b, 16, none⟩ = some (.int .i64 mi) ∧ w'.cell? ⟨b, 17, none⟩ = some (.slice a n cap)) (first | (refine ⟨?_, ?_⟩ <;> assumption) | go_keep) (first
      | (go_at_call 91; refine HFa.out.mono ?_; rintro e w2 ⟨rfl, hb2, t16, t17, m0, m1, l0, l1⟩)))
  have HB2 := Lib.hid hb2
  have HB0b := Lib.hid (show Below g w w2 from HB0.out.trans (hb2.mono (by omega)))
  clear hb2
  go_wp2_with fail
  refine bodyPost_ret (v := .tuple #[.agg #[.int .i64 K, .int .i64 N], .int .i64 S]) ?_ rfl ⟨rfl, ?_⟩
  · simp [results, Tryz.results76, go_sem, m0, m1]
  · rw [HGg.out]
    exact (HB0b.out.setCell (p := ⟨g, 0, none⟩) (Nat.le_refl _) _).setCell (p := ⟨g, 1, none⟩) (Nat.le_refl _) _

theorem frK_not4 (m : Int) (l : List (Bs × Bs)) : frK m l 1 ≠ 4 := by
  unfold frK; repeat' split
  all_goals omega
/-- a decoder is made for it -/
theorem Par.newDec {bd : Nat} {d : Dc} {w2 : World} (h : Par B b s q z lf V w) (hb : Below w.heap.size w w2) (hd : Dec B bd d (.slice none 0 0) (.slice none 0 0) (.slice none 0 0) w2) (hbd : w.heap.size ≤ bd) :
    Par B b { s with mode := 6, dc := d } q z lf { V with c := ptr bd, d := some bd, dl := .slice none 0 0, db := .slice none 0 0, dt := .slice none 0 0 } (w2.setCell ⟨b, 23, none⟩ (ptr bd)) ∧ PTn b V { V with c := ptr bd, d := some bd, dl := .slice none 0 0, db := .slice none 0 0, dt := .slice none 0 0 } X w (w2.setCell ⟨b, 23, none⟩ (ptr bd)) := by
  have h2 := h.below hb
  have hlt := h.lt
  obtain ⟨n1, n2, n3, n4, n5⟩ := h2.neB
  have hne : ∀ k, k ≠ b → (w2.setCell ⟨b, 23, none⟩ (ptr bd)).heap[k]? = w2.heap[k]? := fun k hk => Below.heap_setCell _ _ _ _ hk
  have hm : ∀ k, DecM { V with c := ptr bd, d := some bd, dl := .slice none 0 0, db := .slice none 0 0, dt := .slice none 0 0 } k → k = bd := by
    rintro k ⟨bd', e, hk⟩
    injection e with e
    subst e
    rcases hk with hk | hk | hk | hk
    · exact hk
    · cases hk
    · cases hk
    · cases hk
  refine ⟨⟨h.hB, ?_, Meth.heap h2.meth fun k e => hne k (fun e2 => n1 (e2 ▸ e)), own_heap h2.line fun k e => hne k (fun e2 => n2 (e2 ▸ e)), own_heap h2.flds fun k e => hne k (fun e2 => n3 (e2 ▸ e)), own_heap h2.trl fun k e => hne k (fun e2 => n4 (e2 ▸ e)), own_heap h2.body fun k e => hne k (fun e2 => n5 (e2 ▸ e)), h.lb, h.ft, fun _ => ⟨bd, rfl, rfl, hd.same fun k e => hne k (fun e2 => ?_)⟩, fun k e => ?_, fun k e ho => ?_⟩, ⟨hb.os, hb.tape, hb.output, by have := hb.size; simpa using this, fun k hk hm _ => (hne k (fun e => hm (.inl (.inl e)))).trans (hb.block k hk), fun k hk => ?_⟩⟩
  · rw [heap_setCell_same w2 b 23 _ _ _ h2.blk]; rfl
  · rcases e with e | e | e | e
    · omega
    · cases e
    · cases e
    · cases e
  · have h1 := hm k e
    have h3 := hd.lt
    have h5 := h.hB
    rw [h1]
    exact ⟨by omega, by simpa using h3⟩
  · have h3 := hm k e
    have h4 : k < w.heap.size := (h.mineLt k (.inl ho)).2
    omega
  · rcases hk with hk | hk
    · exact .inl (.inl hk)
    · have := hm k hk; exact .inr (by omega)
end Tk
end Go.Proofs.YtpcdaaijlgilkaaGreatDoor
namespace Go.Proofs.YtpcdaaijlgilkaaGreatDoor
open Go.RowKit
namespace Tk

variable {B b : Nat} {s : Pr} {q z lf : Nat} {V : PV} {X : Nat → Prop} {w : World}
/-- a parser of responses that expects none -/
def Pr.idle (s : Pr) : Bool := s.rsp && s.asked.isEmpty
def HePost (B b : Nat) (s : Pr) (q z lf : Nat) (V : PV) (X : Nat → Prop) (w : World) (e : Ending) (w' : World) : Prop := e = stE (headEndP s) ∧ PTo B b (headEndP s) q z lf V X w w'
def kinded (s : Pr) : Pr := { s with kind := pK s, len := pN s }
theorem he_400 (s : Pr) (hr : s.rsp = false) (h : hostFit s.msg = false) : headEndP s = s.fl 400 := by unfold headEndP; rw [hr, h]; rfl
theorem he_bad (s : Pr) (h : hostFit s.msg = true) (h1 : pS s ≠ 0) : headEndP s = s.fl (pS s) := by unfold headEndP; rw [h, if_neg (by simp), if_pos h1]
theorem he_413 (s : Pr) (h : hostFit s.msg = true) (h1 : pS s = 0) (h2 : pK s = 2) (h3 : s.M < pN s) : headEndP s = (kinded s).fl 413 := by
  unfold headEndP kinded; rw [h, if_neg (by simp), if_neg (by omega), if_pos h2, if_pos h3, h2]; rfl
theorem he_len (s : Pr) (h : hostFit s.msg = true) (h1 : pS s = 0) (h2 : pK s = 2) (h3 : ¬ s.M < pN s) : headEndP s = { kinded s with mode := 4 } := by
  unfold headEndP kinded; rw [h, if_neg (by simp), if_neg (by omega), if_pos h2, if_neg h3, h2]
theorem he_chk (s : Pr) (h : hostFit s.msg = true) (h1 : pS s = 0) (h2 : pK s = 3) : headEndP s = { kinded s with mode := 6, dc := newD s.L s.H s.C s.M } := by
  unfold headEndP kinded; rw [h, if_neg (by simp), if_neg (by omega), if_neg (by omega), if_pos h2, h2]
theorem he_none (s : Pr) (h : hostFit s.msg = true) (h1 : pS s = 0) (h2 : pK s ≠ 2) (h3 : pK s ≠ 3) (h4 : pK s ≠ 4) : headEndP s = { kinded s with mode := 7 } := by
  unfold headEndP kinded; rw [h, if_neg (by simp), if_neg (by omega), if_neg h2, if_neg h3, if_neg h4]
theorem Par.kinds (h : Par B b s q z lf V w) (hm : s.mode ≠ 6) : Par B b (kinded s) q z lf V ((w.setCell ⟨b, 20, none⟩ (.int .i64 (pK s : Nat))).setCell ⟨b, 21, none⟩ (.int .i64 (pN s : Nat))) :=
  (h.set 20 (.int .i64 (pK s : Nat)) { s with kind := pK s } q z lf rfl rfl rfl rfl rfl rfl (fun e => absurd e hm)).set 21 (.int .i64 (pN s : Nat)) (kinded s) q z lf rfl rfl rfl rfl rfl rfl (fun e => ⟨e, rfl⟩)

set_option maxHeartbeats 8000000 in
set_option maxRecDepth 100000 in
theorem headEnd_any (h : Par B b s q z lf V w) (hr : s.rsp = false) (hz : sumF s.msg.f ≤ 1000000) (hb0 : s.bad = 0) (hm : s.mode ≠ 6) :
    Calls Tryz.prog 66 #[ptr b] w (HePost B b s q z lf V X w) := by
  have hH := hostFits_any s.msg V.f V.t w (isFlds_own h.flds) hz
  have hF := fun W V (hp : Par B b s q z lf V W) => framed_any hp hr hz
  have c5 : w.cell? ⟨b, 5, none⟩ = some (.bool false) := by rw [← hr]; exact h.cell 5 _ rfl
  have c12 : w.cell? ⟨b, 12, none⟩ = some (.string (mkS s.msg.m)) := h.cell 12 _ rfl
  have c13 : w.cell? ⟨b, 13, none⟩ = some (.string (mkS s.msg.t)) := h.cell 13 _ rfl
  have c14 : w.cell? ⟨b, 14, none⟩ = some (.int .i64 s.msg.st) := h.cell 14 _ rfl
  have c15 : w.cell? ⟨b, 15, none⟩ = some (.string (mkS s.msg.r)) := h.cell 15 _ rfl
  have c16 : w.cell? ⟨b, 16, none⟩ = some (.int .i64 s.msg.mi) := h.cell 16 _ rfl
  have c17 : w.cell? ⟨b, 17, none⟩ = some V.f := h.cell 17 _ rfl
  have c18 : w.cell? ⟨b, 18, none⟩ = some (.string (mkS s.msg.body)) := h.cell 18 _ rfl
  have c19 : w.cell? ⟨b, 19, none⟩ = some V.t := h.cell 19 _ rfl
  have HP := Lib.hid h
  have HH := Lib.hid hH
  have HF := Lib.hid hF
  have hk4 : pK s ≠ 4 := by unfold pK; rw [hr]; exact frK_not4 _ _
  have h4 := he_400 s hr
  have hvf := h.vf
  have hvt : ∃ a c, V.t = .slice a s.msg.tr.length c := by obtain ⟨a, c, hv, -⟩ := isFlds_own h.trl; exact ⟨a, c, hv⟩
  obtain ⟨a1, cap1, hv1⟩ := hvf
  obtain ⟨a2, cap2, hv2⟩ := hvt
  rw [hv1] at c17 HH
  rw [hv2] at c19 HH
  clear h hH hF hr hz hv1 hv2
  unfold HePost
  cases hfit : hostFit s.msg
  · rw [hfit] at HH
    have HE := Lib.hid (h4 hfit)
    clear h4 hfit
    unfold ptr
    go_enter Tryz.func66, Tryz.ntmps66
    go_wp2_with fail
    refine HH.out.mono ?_
    rintro e w1 ⟨rfl, hb1⟩
    have HB1 := Lib.hid hb1
    clear hb1
    go_wp2_with fail
    go_ret2
    rw [HE.out]
    exact ⟨by rw [stE_fl _ _ (by omega)]; rfl, .of (HP.out.flaw _) HB1.out⟩
  · rw [hfit] at HH
    have HFit := Lib.hid hfit
    clear h4 hfit
    by_cases hS : pS s = 0
    · have e0 : ((pS s : Int) != 0) = false := by simp [hS]
      have HS := Lib.hid hS
      clear hS
      unfold ptr at HF ⊢
      have hm6 := hm
      have HM := Lib.hid hm
      clear hm hm6
      by_cases hK2 : pK s = 2
      · have e2 : ((pK s : Int) == 2) = true := by simp [hK2]
        by_cases hM : s.M < pN s
        · have HE := Lib.hid (he_413 s HFit.out HS.out hK2 hM)
          have i0 : (s.M : Int) < (pN s : Int) := by omega
          clear hK2 hM hk4 hb0
          go_enter Tryz.func66, Tryz.ntmps66
          go_wp2_with fail
          refine HH.out.mono ?_
          rintro e w1 ⟨rfl, hb1⟩
          have HB1 := Lib.hid hb1
          clear hb1
          go_wp2_with fail
          refine (HF.out _ _ (HP.out.below HB1.out)).mono ?_
          rintro e w2 ⟨rfl, hb2⟩
          have HB2 := Lib.hid ((HB1.out.trans (hb2.mono HB1.out.size)).alloc (HB1.out.trans (hb2.mono HB1.out.size)).size (.cells #[.int .i64 (pK s : Nat), .int .i64 (pN s : Nat)] 67))
          have hp := HP.out.below HB2.out
          have k20 : (w2.alloc (.cells #[.int .i64 (pK s : Nat), .int .i64 (pN s : Nat)] 67)).cell? ⟨b, 20, none⟩ = some (.int .i64 s.kind) := hp.cell 20 _ rfl
          have f20 := hp.frz 20
          have k21 : (w2.alloc (.cells #[.int .i64 (pK s : Nat), .int .i64 (pN s : Nat)] 67)).cell? ⟨b, 21, none⟩ = some (.int .i64 s.len) := hp.cell 21 _ rfl
          have f21 := hp.frz 21
          have hp3 := hp.kinds HM.out
          have HP3 := Lib.hid hp3
          have HT3 := Lib.hid (((PTn.of (b := b) (V := V) (X := X) HB2.out).trans (PTn.set 20 (.int .i64 (pK s : Nat)))).trans (PTn.set 21 (.int .i64 (pN s : Nat))))
          have hbx : b ≠ w2.heap.size := by have h1 := HP.out.lt; have h2 := (HB1.out.trans (hb2.mono HB1.out.size)).size; omega
          have k4 : (((w2.alloc (.cells #[.int .i64 (pK s : Nat), .int .i64 (pN s : Nat)] 67)).setCell ⟨b, 20, none⟩ (.int .i64 (pK s : Nat))).setCell ⟨b, 21, none⟩ (.int .i64 (pN s : Nat))).cell? ⟨b, 4, none⟩ = some (.int .i64 s.M) := hp3.cell 4 _ rfl
          have kx : (((w2.alloc (.cells #[.int .i64 (pK s : Nat), .int .i64 (pN s : Nat)] 67)).setCell ⟨b, 20, none⟩ (.int .i64 (pK s : Nat))).setCell ⟨b, 21, none⟩ (.int .i64 (pN s : Nat))).cell? ⟨w2.heap.size, 1, none⟩ = some (.int .i64 (pN s : Nat)) := by rw [World.cell?_setCell_other _ _ _ _ (by intro e; injection e with e1; exact hbx e1), World.cell?_setCell_other _ _ _ _ (by intro e; injection e with e1; exact hbx e1), Lib.cell_of_heap (heap_alloc_last w2 _)]; rfl
          clear hb2 hp hp3
          generalize pK s = K at *
          generalize pN s = N at *
          go_wp2_with fail
          go_quiet (fail)
          go_wp2_with fail
          go_ret2
          rw [HE.out]
          exact ⟨by rw [stE_fl _ _ (by omega)]; rfl, _, (HP3.out.flaw _).draws _, HT3.out.trans (PTn.draws _)⟩
        · have HE := Lib.hid (he_len s HFit.out HS.out hK2 hM)
          have i0 : ¬ (s.M : Int) < (pN s : Int) := by omega
          have HZ := Lib.hid hb0
          clear hK2 hM hk4 hb0
          go_enter Tryz.func66, Tryz.ntmps66
          go_wp2_with fail
          refine HH.out.mono ?_
          rintro e w1 ⟨rfl, hb1⟩
          have HB1 := Lib.hid hb1
          clear hb1
          go_wp2_with fail
          refine (HF.out _ _ (HP.out.below HB1.out)).mono ?_
          rintro e w2 ⟨rfl, hb2⟩
          have HB2 := Lib.hid ((HB1.out.trans (hb2.mono HB1.out.size)).alloc (HB1.out.trans (hb2.mono HB1.out.size)).size (.cells #[.int .i64 (pK s : Nat), .int .i64 (pN s : Nat)] 67))
          have hp := HP.out.below HB2.out
          have k20 : (w2.alloc (.cells #[.int .i64 (pK s : Nat), .int .i64 (pN s : Nat)] 67)).cell? ⟨b, 20, none⟩ = some (.int .i64 s.kind) := hp.cell 20 _ rfl
          have f20 := hp.frz 20
          have k21 : (w2.alloc (.cells #[.int .i64 (pK s : Nat), .int .i64 (pN s : Nat)] 67)).cell? ⟨b, 21, none⟩ = some (.int .i64 s.len) := hp.cell 21 _ rfl
          have f21 := hp.frz 21
          have hp3 := hp.kinds HM.out
          have HP3 := Lib.hid hp3
          have HT3 := Lib.hid (((PTn.of (b := b) (V := V) (X := X) HB2.out).trans (PTn.set 20 (.int .i64 (pK s : Nat)))).trans (PTn.set 21 (.int .i64 (pN s : Nat))))
          have hbx : b ≠ w2.heap.size := by have h1 := HP.out.lt; have h2 := (HB1.out.trans (hb2.mono HB1.out.size)).size; omega
          have k4 : (((w2.alloc (.cells #[.int .i64 (pK s : Nat), .int .i64 (pN s : Nat)] 67)).setCell ⟨b, 20, none⟩ (.int .i64 (pK s : Nat))).setCell ⟨b, 21, none⟩ (.int .i64 (pN s : Nat))).cell? ⟨b, 4, none⟩ = some (.int .i64 s.M) := hp3.cell 4 _ rfl
          have kx : (((w2.alloc (.cells #[.int .i64 (pK s : Nat), .int .i64 (pN s : Nat)] 67)).setCell ⟨b, 20, none⟩ (.int .i64 (pK s : Nat))).setCell ⟨b, 21, none⟩ (.int .i64 (pN s : Nat))).cell? ⟨w2.heap.size, 1, none⟩ = some (.int .i64 (pN s : Nat)) := by rw [World.cell?_setCell_other _ _ _ _ (by intro e; injection e with e1; exact hbx e1), World.cell?_setCell_other _ _ _ _ (by intro e; injection e with e1; exact hbx e1), Lib.cell_of_heap (heap_alloc_last w2 _)]; rfl
          clear hb2 hp hp3
          generalize pK s = K at *
          generalize pN s = N at *
          go_wp2_with fail
          go_quiet (fail)
          go_wp2_with fail
          go_ret2
          rw [HE.out]
          exact ⟨by unfold stE; rw [if_pos (by exact HZ.out)]; rfl, _, (HP3.out.draws _).as _ rfl rfl rfl rfl rfl rfl (fun e => by cases e), HT3.out.trans (PTn.draws _)⟩
      · have e2 : ((pK s : Int) == 2) = false := by rw [beq_eq_false_iff_ne]; omega
        by_cases hK3 : pK s = 3
        · have e3 : ((pK s : Int) == 3) = true := by simp [hK3]
          have HE := Lib.hid (he_chk s HFit.out HS.out hK3)
          have HZ := Lib.hid hb0
          clear hK2 hK3 hk4 hb0
          go_enter Tryz.func66, Tryz.ntmps66
          go_wp2_with fail
          refine HH.out.mono ?_
          rintro e w1 ⟨rfl, hb1⟩
          have HB1 := Lib.hid hb1
          clear hb1
          go_wp2_with fail
          refine (HF.out _ _ (HP.out.below HB1.out)).mono ?_
          rintro e w2 ⟨rfl, hb2⟩
          have HB2 := Lib.hid ((HB1.out.trans (hb2.mono HB1.out.size)).alloc (HB1.out.trans (hb2.mono HB1.out.size)).size (.cells #[.int .i64 (pK s : Nat), .int .i64 (pN s : Nat)] 67))
          have hp := HP.out.below HB2.out
          have k20 : (w2.alloc (.cells #[.int .i64 (pK s : Nat), .int .i64 (pN s : Nat)] 67)).cell? ⟨b, 20, none⟩ = some (.int .i64 s.kind) := hp.cell 20 _ rfl
          have f20 := hp.frz 20
          have k21 : (w2.alloc (.cells #[.int .i64 (pK s : Nat), .int .i64 (pN s : Nat)] 67)).cell? ⟨b, 21, none⟩ = some (.int .i64 s.len) := hp.cell 21 _ rfl
          have f21 := hp.frz 21
          have hp3 := hp.kinds HM.out
          have HP3 := Lib.hid hp3
          have HT3 := Lib.hid (((PTn.of (b := b) (V := V) (X := X) HB2.out).trans (PTn.set 20 (.int .i64 (pK s : Nat)))).trans (PTn.set 21 (.int .i64 (pN s : Nat))))
          have hbx : b ≠ w2.heap.size := by have h1 := HP.out.lt; have h2 := (HB1.out.trans (hb2.mono HB1.out.size)).size; omega
          have k1 : (((w2.alloc (.cells #[.int .i64 (pK s : Nat), .int .i64 (pN s : Nat)] 67)).setCell ⟨b, 20, none⟩ (.int .i64 (pK s : Nat))).setCell ⟨b, 21, none⟩ (.int .i64 (pN s : Nat))).cell? ⟨b, 1, none⟩ = some (.int .i64 s.L) := hp3.cell 1 _ rfl
          have k2 : (((w2.alloc (.cells #[.int .i64 (pK s : Nat), .int .i64 (pN s : Nat)] 67)).setCell ⟨b, 20, none⟩ (.int .i64 (pK s : Nat))).setCell ⟨b, 21, none⟩ (.int .i64 (pN s : Nat))).cell? ⟨b, 2, none⟩ = some (.int .i64 s.H) := hp3.cell 2 _ rfl
          have k3 : (((w2.alloc (.cells #[.int .i64 (pK s : Nat), .int .i64 (pN s : Nat)] 67)).setCell ⟨b, 20, none⟩ (.int .i64 (pK s : Nat))).setCell ⟨b, 21, none⟩ (.int .i64 (pN s : Nat))).cell? ⟨b, 3, none⟩ = some (.int .i64 s.C) := hp3.cell 3 _ rfl
          have k4 : (((w2.alloc (.cells #[.int .i64 (pK s : Nat), .int .i64 (pN s : Nat)] 67)).setCell ⟨b, 20, none⟩ (.int .i64 (pK s : Nat))).setCell ⟨b, 21, none⟩ (.int .i64 (pN s : Nat))).cell? ⟨b, 4, none⟩ = some (.int .i64 s.M) := hp3.cell 4 _ rfl
          clear hb2 hp hp3
          generalize pK s = K at *
          generalize pN s = N at *
          go_wp2_with fail
          refine (new_any s.L s.H s.C s.M s.L s.H s.C s.M B _ (by have := HP3.out.hB; have := HP3.out.lt; omega) (by omega) (by omega) (by omega) (by omega)).mono ?_
          rintro e w4 ⟨bd, rfl, hbd, hd, hb4⟩
          obtain ⟨hd5, ht5⟩ := HP3.out.newDec (X := X) hb4 hd hbd
          have hq := HP3.out.below hb4
          have j23 : w4.cell? ⟨b, 23, none⟩ = some V.c := hq.cell 23 _ rfl
          have g23 := hq.frz 23
          have HD5 := Lib.hid hd5
          have HT5 := Lib.hid (HT3.out.trans ht5)
          clear hd hb4 hd5 ht5 hq hbd
          unfold ptr at *
          go_wp2_with fail
          go_ret2
          rw [HE.out]
          exact ⟨by unfold stE; rw [if_pos (by exact HZ.out)]; rfl, _, HD5.out, HT5.out⟩
        · have e3 : ((pK s : Int) == 3) = false := by rw [beq_eq_false_iff_ne]; omega
          have e4 : ((pK s : Int) == 4) = false := by rw [beq_eq_false_iff_ne]; omega
          have HE := Lib.hid (he_none s HFit.out HS.out hK2 hK3 hk4)
          have HZ := Lib.hid hb0
          clear hK2 hK3 hk4 hb0
          go_enter Tryz.func66, Tryz.ntmps66
          go_wp2_with fail
          refine HH.out.mono ?_
          rintro e w1 ⟨rfl, hb1⟩
          have HB1 := Lib.hid hb1
          clear hb1
          go_wp2_with fail
          refine (HF.out _ _ (HP.out.below HB1.out)).mono ?_
          rintro e w2 ⟨rfl, hb2⟩
          have HB2 := Lib.hid ((HB1.out.trans (hb2.mono HB1.out.size)).alloc (HB1.out.trans (hb2.mono HB1.out.size)).size (.cells #[.int .i64 (pK s : Nat), .int .i64 (pN s : Nat)] 67))
          have hp := HP.out.below HB2.out
          have k20 : (w2.alloc (.cells #[.int .i64 (pK s : Nat), .int .i64 (pN s : Nat)] 67)).cell? ⟨b, 20, none⟩ = some (.int .i64 s.kind) := hp.cell 20 _ rfl
          have f20 := hp.frz 20
          have k21 : (w2.alloc (.cells #[.int .i64 (pK s : Nat), .int .i64 (pN s : Nat)] 67)).cell? ⟨b, 21, none⟩ = some (.int .i64 s.len) := hp.cell 21 _ rfl
          have f21 := hp.frz 21
          have hp3 := hp.kinds HM.out
          have HP3 := Lib.hid hp3
          have HT3 := Lib.hid (((PTn.of (b := b) (V := V) (X := X) HB2.out).trans (PTn.set 20 (.int .i64 (pK s : Nat)))).trans (PTn.set 21 (.int .i64 (pN s : Nat))))
          have hbx : b ≠ w2.heap.size := by have h1 := HP.out.lt; have h2 := (HB1.out.trans (hb2.mono HB1.out.size)).size; omega
          clear hb2 hp hp3
          generalize pK s = K at *
          generalize pN s = N at *
          go_wp2_with fail
          go_ret2
          rw [HE.out]
          exact ⟨by unfold stE; rw [if_pos (by exact HZ.out)]; rfl, _, HP3.out.as _ rfl rfl rfl rfl rfl rfl (fun e => by cases e), HT3.out⟩
    · have HE := Lib.hid (he_bad s HFit.out hS)
      have HS := Lib.hid hS
      have e0 : ((pS s : Int) != 0) = true := by simp [hS]
      clear hS
      unfold ptr at HF ⊢
      go_enter Tryz.func66, Tryz.ntmps66
      go_wp2_with fail
      refine HH.out.mono ?_
      rintro e w1 ⟨rfl, hb1⟩
      have HB1 := Lib.hid hb1
      clear hb1
      go_wp2_with fail
      refine (HF.out _ _ (HP.out.below HB1.out)).mono ?_
      rintro e w2 ⟨rfl, hb2⟩
      have HB2 := Lib.hid (HB1.out.trans (hb2.mono HB1.out.size))
      clear hb2
      go_wp2_with fail
      go_ret2
      rw [HE.out]
      exact ⟨by rw [stE_fl _ _ HS.out]; rfl, .of (HP.out.flaw _) (HB2.out.alloc HB2.out.size _)⟩
end Tk
end Go.Proofs.YtpcdaaijlgilkaaGreatDoor
namespace Go.Proofs.YtpcdaaijlgilkaaGreatDoor
open Go.RowKit
namespace Tk

variable {B b : Nat} {s : Pr} {q z lf : Nat} {V : PV} {w : World}
/-- one call of a state: some bytes are eaten -/
def StPost (B b : Nat) (s : Pr) (q lf : Nat) (V : PV) (g : Nat) (l : Bs) (w : World) (e : Ending) (w' : World) : Prop :=
  ∃ k s', 1 ≤ k ∧ k ≤ l.length ∧ EatsP s (l.take k) s' ∧ e = stE s' ∧ PIn B b s' q 0 lf V g (l.drop k) w w'
theorem Par.ate (h : Par B b s q z lf V w) (n : Nat) : Par B b (s.ate n) q z lf V w := h.as _ rfl rfl rfl rfl rfl rfl (fun e => ⟨e, rfl⟩)
theorem PTo.ate {X : Nat → Prop} {w' : World} (h : PTo B b s q z lf V X w w') (n : Nat) : PTo B b (s.ate n) q z lf V X w w' := by
  obtain ⟨V', h1, h2⟩ := h; exact ⟨V', h1.ate n, h2⟩
theorem stE_ate (s : Pr) (n : Nat) : stE (s.ate n) = stE s := rfl
theorem take_next {l : Bs} {i : Nat} {c : UInt8} (hc : l[i]? = some c) : l.take (i + 1) = l.take i ++ [c] := by rw [List.take_add_one, hc]; rfl
/-- the bounds that a state keeps to -/
structure Room (s : Pr) (l : Bs) : Prop where
  n : s.left + l.length ≤ 100000
  ok : s.Ok s.left
  go : stopP s = false
/-- what a state makes of what readLine leaves; f: what it does with a line; m: what it is -/
theorem rd_line {s : Pr} {l : Bs} (h : Room s l) (hm : s.mode ≤ 3) {i : Nat} (he : EatsP s (l.take i) ((s.puts (l.take i)).ate i)) {c : UInt8} (hc : l[i]? = some c) (hk : addQ (s.puts (l.take i)) c = 1) :
    EatsP s (l.take (i + 1)) ((lineP { s.puts (l.take i) with line := [], head := (s.puts (l.take i)).head + 1 } (s.puts (l.take i)).line.dropLast).ate (i + 1)) := by
  rw [take_next hc, ← stepP_1 _ c i (show (s.puts (l.take i)).mode ≤ 3 from hm) hk]
  exact he.append (EatsP.one (is_go (by show s.mode ≠ 7; omega) (not_stop h.go).2.1 (not_stop h.go).2.2))
theorem rd_long {s : Pr} {l : Bs} (h : Room s l) (hm : s.mode ≤ 3) {i : Nat} (he : EatsP s (l.take i) ((s.puts (l.take i)).ate i)) {c : UInt8} (hc : l[i]? = some c) (hk : addQ (s.puts (l.take i)) c = 2) :
    EatsP s (l.take (i + 1)) ((((s.puts (l.take i)).put c).fl 431).ate (i + 1)) := by
  rw [take_next hc, ← stepP_2 _ c i (show (s.puts (l.take i)).mode ≤ 3 from hm) hk]
  exact he.append (EatsP.one (is_go (by show s.mode ≠ 7; omega) (not_stop h.go).2.1 (not_stop h.go).2.2))
theorem rd_mal {s : Pr} {l : Bs} (h : Room s l) (hm : s.mode ≤ 3) {i : Nat} (he : EatsP s (l.take i) ((s.puts (l.take i)).ate i)) {c : UInt8} (hc : l[i]? = some c) (hk : addQ (s.puts (l.take i)) c = 3) :
    EatsP s (l.take (i + 1)) (({ (s.puts (l.take i)).put c with bad := 400 } : Pr).ate (i + 1)) := by
  rw [take_next hc, ← stepP_3 _ c i (show (s.puts (l.take i)).mode ≤ 3 from hm) hk]
  exact he.append (EatsP.one (is_go (by show s.mode ≠ 7; omega) (not_stop h.go).2.1 (not_stop h.go).2.2))
theorem getElem_lt {l : Bs} {i : Nat} {c : UInt8} (hc : l[i]? = some c) : i < l.length := (List.getElem?_eq_some_iff.1 hc).1
theorem puts_len (s : Pr) (a : Bs) : (s.puts a).line.length = s.line.length + a.length := by unfold Pr.puts; simp
theorem room_line {s : Pr} {l : Bs} (h : Room s l) : s.line.length + l.length ≤ 1048570 ∧ s.head + l.length ≤ 1048570 ∧ sumF s.msg.f ≤ 1000000 := by
  have h1 := h.ok.fit.lin
  have h2 := h.ok.fit.head
  have h3 := h.ok.fit.sum
  have h4 := h.n
  omega
theorem room_text {s : Pr} {l : Bs} (h : Room s l) (i : Nat) : (mkS (s.puts (l.take i)).line.dropLast).size ≤ 1048576 := by
  rw [size_mkS]
  have h1 := puts_len s (l.take i)
  have h2 := (room_line h).1
  simp only [List.length_dropLast, List.length_take] at *
  omega

set_option maxHeartbeats 8000000 in
set_option maxRecDepth 100000 in
theorem pbefore_any (g : Nat) (l : Bs) (h : Par B b s q 0 lf V w) (hi : Inp g l w) (hg : ¬ PMine b V g) (hm : s.mode = 0) (hr : Room s l) (hne : l ≠ []) :
    Calls Tryz.prog 40 #[ptr b, ptr g] w (StPost B b s q lf V g l w) := by
  have hb0 := (not_stop hr.go).2.1
  have hlen : 1 ≤ l.length := by cases l with
    | nil => exact absurd rfl hne
    | cons a t => simp
  have hm3 : s.mode ≤ 3 := by omega
  have hrd := readLine_any g l h hi hg hm3 hb0 (not_stop hr.go).2.2 (room_line hr).1 (room_line hr).2.1
  have HRd := Lib.hid hrd
  have HRoom := Lib.hid hr
  have HM := Lib.hid (⟨hm, hm3, hb0⟩ : _ ∧ _ ∧ _)
  have HLen := Lib.hid hlen
  have HG := Lib.hid (show g < w.heap.size ∧ ¬ PMine b V g from ⟨hi.lt, hg⟩)
  clear h hi hg hm hr hne hb0 hlen hm3 hrd
  unfold ptr at *
  go_enter Tryz.func40, Tryz.ntmps40
  go_wp2_with fail
  refine HRd.out.mono ?_
  rintro e w1 ⟨i, hi, he, hc⟩
  have HE := Lib.hid he
  rcases hc with ⟨hil, rfl, hp, hin⟩ | ⟨c, hc, ⟨hk, rfl, hp, hin⟩ | ⟨hk, rfl, hp, hin⟩ | ⟨hk, rfl, hp, hin⟩⟩
  · have HX := Lib.hid (show ∀ e, e = .returned (.tuple #[pstV 0, .nilIface]) → StPost B b s q lf V g l w e w1 from fun e' he' => by
      refine ⟨i, (s.puts (l.take i)).ate i, by have := HLen.out; omega, hi, HE.out, ?_, hp.ate _, by rw [hil, List.drop_length]; exact hin⟩
      rw [he', stE_ate]
      unfold stE
      rw [if_pos (by exact HM.out.2.2), show (s.puts (l.take i)).mode = 0 from HM.out.1])
    clear he hil hp hin hi
    go_wp2_with fail
    go_ret2
    exact HX.out _ rfl
  · have HK := Lib.hid hk
    have HC := Lib.hid hc
    have HP := Lib.hid hp
    have HIn := Lib.hid hin
    have hts := room_text HRoom.out i
    have hlt := getElem_lt hc
    have HEt := Lib.hid (rd_line HRoom.out HM.out.2.1 HE.out HC.out HK.out)
    have hf := (room_line HRoom.out).2.2
    have HLt := Lib.hid hlt
    clear hk hc hp hin he hi hlt
    have HS0 := Lib.hid (show ({ s.puts (l.take i) with line := [], head := (s.puts (l.take i)).head + 1 } : Pr).bad = 0 ∧ ({ s.puts (l.take i) with line := [], head := (s.puts (l.take i)).head + 1 } : Pr).mode = 0 ∧ ({ s.puts (l.take i) with line := [], head := (s.puts (l.take i)).head + 1 } : Pr).idle = false ∧ sumF ({ s.puts (l.take i) with line := [], head := (s.puts (l.take i)).head + 1 } : Pr).msg.f ≤ 1000000 from ⟨HM.out.2.2, HM.out.1, (not_stop HRoom.out.go).2.2, hf⟩)
    generalize ({ s.puts (l.take i) with line := [], head := (s.puts (l.take i)).head + 1 } : Pr) = s1 at *
    generalize (s.puts (l.take i)).line.dropLast = t at *
    clear hf HK HRd
    by_cases ht0 : t = []
    · have HX := Lib.hid (show ∀ e, e = .returned (.tuple #[pstV 1, .nilIface]) → StPost B b s q lf V g l w e w1 from fun e' he' => by
        have hlp : lineP s1 t = { s1 with mode := 1 } := by unfold lineP; rw [if_pos HS0.out.2.1, if_pos ht0]
        refine ⟨i + 1, _, by omega, by have := HLt.out; omega, HEt.out, ?_, ?_, HIn.out⟩
        · rw [he', stE_ate, hlp]; unfold stE; rw [if_pos (by exact HS0.out.1)]
        · rw [hlp]
          obtain ⟨V', h1, h2⟩ := HP.out
          exact ⟨V', (h1.ate (i + 1)).as _ rfl rfl rfl rfl rfl rfl (fun e => by cases e), h2⟩)
      rw [ht0]
      have hem : ((mkS []).toList == ([] : List UInt8)) = true := by rw [toList_bs, bs_mkS]; rfl
      clear ht0 hts HEt
      unfold pstV at *
      go_wp2_with fail
      go_ret2
      exact HX.out _ rfl
    · have hem : ((mkS t).toList == ([] : List UInt8)) = false := by rw [toList_bs, bs_mkS]; cases t with
        | nil => exact absurd rfl ht0
        | cons a r => rfl
      have HLP := Lib.hid (show lineP s1 t = reqP s1 t by unfold lineP; rw [if_pos HS0.out.2.1, if_neg ht0])
      clear ht0
      have hp := HP.out
      obtain ⟨V1, hp1, ht1⟩ := hp
      have hreq := prequest_any (X := fun _ => False) (mkS t) hp1 HS0.out.1 (by omega)
      rw [bs_mkS] at hreq
      have HReq := Lib.hid hreq
      have HG1 := Lib.hid (ht1.not_mine HG.out)
      have HT1 := Lib.hid ht1
      clear hreq hp1 ht1 hts
      unfold ptr at *
      go_wp2_with fail
      refine HReq.out.mono ?_
      rintro e w2 ⟨rfl, V2, hp2, ht2⟩
      have HX := Lib.hid (show ∀ e, e = stE (reqP s1 t) → StPost B b s q lf V g l w e w2 from fun e' he' => by
        refine ⟨i + 1, _, by omega, by have := HLt.out; omega, HEt.out, ?_, ⟨V2, ?_, HT1.out.trans (ht2.mono fun _ _ e => e.elim)⟩, inp_aside HIn.out HG1.out ht2 (fun e => e)⟩
        · rw [he', stE_ate, HLP.out]
        · rw [HLP.out]; exact hp2.ate _)
      have hst : stE (reqP s1 t) = .returned (.tuple #[pstV 3, .nilIface]) ∨ ∃ n, stE (reqP s1 t) = .returned (.tuple #[.nilFunc, flV n]) := by
        by_cases h0 : rSt t = 0
        · left; unfold reqP stE; rw [if_pos h0, if_pos (by exact HS0.out.1)]
        · right; exact ⟨rSt t, by unfold reqP; rw [if_neg h0, stE_fl _ _ h0]⟩
      clear hp2 ht2
      rcases hst with hst | ⟨n, hst⟩
      all_goals
        rw [hst] at HX ⊢
        clear hst
        try unfold flV at *
        try unfold pstV at *
        go_wp2_with fail
        go_ret2
        exact HX.out _ rfl

  · have hlt := getElem_lt hc
    have HX := Lib.hid (show ∀ e, e = .returned (.tuple #[.nilFunc, flV 431]) → StPost B b s q lf V g l w e w1 from fun e' he' => by
      refine ⟨i + 1, _, by omega, by omega, rd_long HRoom.out HM.out.2.1 HE.out hc hk, ?_, ?_, hin⟩
      · rw [he', stE_ate, stE_fl _ _ (by omega)]
      · obtain ⟨V', h1, h2⟩ := hp
        exact ⟨V', (h1.flaw 431).ate _, h2⟩)
    clear he hk hp hin hi hc hlt
    unfold flV at *
    go_wp2_with fail
    go_ret2
    exact HX.out _ rfl
  · have hlt := getElem_lt hc
    have hq := HM.out.1
    refine ⟨rfl, i + 1, _, by omega, by omega, rd_mal HRoom.out HM.out.2.1 HE.out hc hk, ?_, ?_, hin⟩
    · rw [stE_ate]
      unfold stE
      rw [if_neg (by show (400 : Nat) ≠ 0; omega), if_neg (by show s.mode ≠ 7; omega)]
    · obtain ⟨V', h1, h2⟩ := hp
      exact ⟨V', h1.as _ rfl rfl rfl rfl rfl rfl (fun e => absurd (show s.mode = 6 from e) (by omega)), h2⟩

set_option maxHeartbeats 8000000 in
set_option maxRecDepth 100000 in
theorem preqline_any (g : Nat) (l : Bs) (h : Par B b s q 0 lf V w) (hi : Inp g l w) (hg : ¬ PMine b V g) (hm : s.mode = 1) (hr : Room s l) (hne : l ≠ []) :
    Calls Tryz.prog 50 #[ptr b, ptr g] w (StPost B b s q lf V g l w) := by
  have hb0 := (not_stop hr.go).2.1
  have hlen : 1 ≤ l.length := by cases l with
    | nil => exact absurd rfl hne
    | cons a t => simp
  have hm3 : s.mode ≤ 3 := by omega
  have hrd := readLine_any g l h hi hg hm3 hb0 (not_stop hr.go).2.2 (room_line hr).1 (room_line hr).2.1
  have HRd := Lib.hid hrd
  have HRoom := Lib.hid hr
  have HM := Lib.hid (⟨hm, hm3, hb0⟩ : _ ∧ _ ∧ _)
  have HLen := Lib.hid hlen
  have HG := Lib.hid (show g < w.heap.size ∧ ¬ PMine b V g from ⟨hi.lt, hg⟩)
  clear h hi hg hm hr hne hb0 hlen hm3 hrd
  unfold ptr at *
  go_enter Tryz.func50, Tryz.ntmps50
  go_wp2_with fail
  refine HRd.out.mono ?_
  rintro e w1 ⟨i, hi, he, hc⟩
  have HE := Lib.hid he
  rcases hc with ⟨hil, rfl, hp, hin⟩ | ⟨c, hc, ⟨hk, rfl, hp, hin⟩ | ⟨hk, rfl, hp, hin⟩ | ⟨hk, rfl, hp, hin⟩⟩
  · have HX := Lib.hid (show ∀ e, e = .returned (.tuple #[pstV 1, .nilIface]) → StPost B b s q lf V g l w e w1 from fun e' he' => by
      refine ⟨i, (s.puts (l.take i)).ate i, by have := HLen.out; omega, hi, HE.out, ?_, hp.ate _, by rw [hil, List.drop_length]; exact hin⟩
      rw [he', stE_ate]
      unfold stE
      rw [if_pos (by exact HM.out.2.2), show (s.puts (l.take i)).mode = 1 from HM.out.1])
    clear he hil hp hin hi
    go_wp2_with fail
    go_ret2
    exact HX.out _ rfl
  · have HK := Lib.hid hk
    have HC := Lib.hid hc
    have HP := Lib.hid hp
    have HIn := Lib.hid hin
    have hts := room_text HRoom.out i
    have hlt := getElem_lt hc
    have HEt := Lib.hid (rd_line HRoom.out HM.out.2.1 HE.out HC.out HK.out)
    have hf := (room_line HRoom.out).2.2
    have HLt := Lib.hid hlt
    clear hk hc hp hin he hi hlt
    have HS0 := Lib.hid (show ({ s.puts (l.take i) with line := [], head := (s.puts (l.take i)).head + 1 } : Pr).bad = 0 ∧ ({ s.puts (l.take i) with line := [], head := (s.puts (l.take i)).head + 1 } : Pr).mode = 1 ∧ ({ s.puts (l.take i) with line := [], head := (s.puts (l.take i)).head + 1 } : Pr).idle = false ∧ sumF ({ s.puts (l.take i) with line := [], head := (s.puts (l.take i)).head + 1 } : Pr).msg.f ≤ 1000000 from ⟨HM.out.2.2, HM.out.1, (not_stop HRoom.out.go).2.2, hf⟩)
    generalize ({ s.puts (l.take i) with line := [], head := (s.puts (l.take i)).head + 1 } : Pr) = s1 at *
    generalize (s.puts (l.take i)).line.dropLast = t at *
    clear hf HK HRd
    have HLP := Lib.hid (show lineP s1 t = reqP s1 t by unfold lineP; rw [if_neg (by rw [HS0.out.2.1]; omega), if_pos HS0.out.2.1])
    have hp := HP.out
    obtain ⟨V1, hp1, ht1⟩ := hp
    have hreq := prequest_any (X := fun _ => False) (mkS t) hp1 HS0.out.1 (by omega)
    rw [bs_mkS] at hreq
    have HReq := Lib.hid hreq
    have HG1 := Lib.hid (ht1.not_mine HG.out)
    have HT1 := Lib.hid ht1
    clear hreq hp1 ht1 hts
    unfold ptr at *
    go_wp2_with fail
    refine HReq.out.mono ?_
    rintro e w2 ⟨rfl, V2, hp2, ht2⟩
    have HX := Lib.hid (show ∀ e, e = stE (reqP s1 t) → StPost B b s q lf V g l w e w2 from fun e' he' => by
      refine ⟨i + 1, _, by omega, by have := HLt.out; omega, HEt.out, ?_, ⟨V2, ?_, HT1.out.trans (ht2.mono fun _ _ e => e.elim)⟩, inp_aside HIn.out HG1.out ht2 (fun e => e)⟩
      · rw [he', stE_ate, HLP.out]
      · rw [HLP.out]; exact hp2.ate _)
    have hst : stE (reqP s1 t) = .returned (.tuple #[pstV 3, .nilIface]) ∨ ∃ n, stE (reqP s1 t) = .returned (.tuple #[.nilFunc, flV n]) := by
      by_cases h0 : rSt t = 0
      · left; unfold reqP stE; rw [if_pos h0, if_pos (by exact HS0.out.1)]
      · right; exact ⟨rSt t, by unfold reqP; rw [if_neg h0, stE_fl _ _ h0]⟩
    clear hp2 ht2
    rcases hst with hst | ⟨n, hst⟩
    all_goals
      rw [hst] at HX ⊢
      clear hst
      try unfold flV at *
      try unfold pstV at *
      go_wp2_with fail
      go_ret2
      exact HX.out _ rfl

  · have hlt := getElem_lt hc
    have HX := Lib.hid (show ∀ e, e = .returned (.tuple #[.nilFunc, flV 431]) → StPost B b s q lf V g l w e w1 from fun e' he' => by
      refine ⟨i + 1, _, by omega, by omega, rd_long HRoom.out HM.out.2.1 HE.out hc hk, ?_, ?_, hin⟩
      · rw [he', stE_ate, stE_fl _ _ (by omega)]
      · obtain ⟨V', h1, h2⟩ := hp
        exact ⟨V', (h1.flaw 431).ate _, h2⟩)
    clear he hk hp hin hi hc hlt
    unfold flV at *
    go_wp2_with fail
    go_ret2
    exact HX.out _ rfl
  · have hlt := getElem_lt hc
    have hq := HM.out.1
    refine ⟨rfl, i + 1, _, by omega, by omega, rd_mal HRoom.out HM.out.2.1 HE.out hc hk, ?_, ?_, hin⟩
    · rw [stE_ate]
      unfold stE
      rw [if_neg (by show (400 : Nat) ≠ 0; omega), if_neg (by show s.mode ≠ 7; omega)]
    · obtain ⟨V', h1, h2⟩ := hp
      exact ⟨V', h1.as _ rfl rfl rfl rfl rfl rfl (fun e => absurd (show s.mode = 6 from e) (by omega)), h2⟩
end Tk
end Go.Proofs.YtpcdaaijlgilkaaGreatDoor
namespace Go.Proofs.YtpcdaaijlgilkaaGreatDoor
open Go.RowKit
namespace Tk

variable {B b : Nat} {s : Pr} {q z lf : Nat} {V : PV} {X : Nat → Prop} {w : World}
set_option maxHeartbeats 4000000 in
set_option maxRecDepth 100000 in
theorem framedR_any (h : Par B b s q z lf V w) (hr : s.rsp = true) (ha : s.asked ≠ []) (hz : sumF s.msg.f ≤ 1000000) :
    Calls Tryz.prog 76 #[ptr b] w fun e w' => e = .returned (.tuple #[.agg #[.int .i64 (pK s : Nat), .int .i64 (pN s : Nat)], .int .i64 (pS s : Nat)]) ∧ Below w.heap.size w w' := by
  have hg := sumF_ge s.msg.f
  obtain ⟨x, tl, hxt⟩ : ∃ x tl, s.asked = x :: tl := by
    cases hq : s.asked with
    | nil => exact absurd hq ha
    | cons x tl => exact ⟨x, tl, rfl⟩
  have hpk : pK s = rsK x s.msg.st s.msg.mi s.msg.f := by unfold pK; rw [hr, hxt]; rfl
  have hpn : pN s = rsN x s.msg.st s.msg.mi s.msg.f := by unfold pN; rw [hr, hxt]; rfl
  have hps : pS s = rsS x s.msg.st s.msg.mi s.msg.f := by unfold pS; rw [hr, hxt]; rfl
  have hF := fun W (hb : Below w.heap.size w W) => response04_any (mkS x) s.msg.st s.msg.mi V.f s.msg.f W (isFlds_below (isFlds_own h.flds) hb) hz (by omega)
  unfold FrPost at hF
  rw [bs_mkS] at hF
  rw [hpk, hpn, hps]
  have hme := h.meth
  rw [hxt] at hme
  obtain ⟨mg, mo, mc, hmv, hmc, cm, -⟩ := hme.cons
  have hmlt : mg < w.heap.size := (hme.lt mg (by rw [hmv]; rfl)).2
  have c5 : w.cell? ⟨b, 5, none⟩ = some (.bool true) := by rw [← hr]; exact h.cell 5 _ rfl
  have c6 : w.cell? ⟨b, 6, none⟩ = some (.slice (some ⟨mg, mo, none⟩) (tl.length + 1) mc) := by rw [← hmv]; exact h.cell 6 _ rfl
  have c14 : w.cell? ⟨b, 14, none⟩ = some (.int .i64 s.msg.st) := h.cell 14 _ rfl
  have c16 : w.cell? ⟨b, 16, none⟩ = some (.int .i64 s.msg.mi) := h.cell 16 _ rfl
  have c17 : w.cell? ⟨b, 17, none⟩ = some V.f := h.cell 17 _ rfl
  have hlt := h.lt
  obtain ⟨a, cap, hv⟩ := h.vf
  rw [hv] at c17 hF
  have HF := Lib.hid hF
  obtain ⟨tx, htx⟩ : ∃ tx, tx = mkS x := ⟨_, rfl⟩
  rw [← htx] at cm HF
  clear h hr ha hz hg hpk hpn hps hF hv hme hmv hmc hxt
  generalize rsK x s.msg.st s.msg.mi s.msg.f = K at *
  generalize rsN x s.msg.st s.msg.mi s.msg.f = N at *
  generalize rsS x s.msg.st s.msg.mi s.msg.f = S at *
  generalize s.msg.f.length = n at *
  generalize s.msg.mi = mi at *
  generalize s.msg.st = st at *
  generalize tl.length = tn at *
  clear htx
  unfold ptr
  have HN := Lib.hid (Two.new w 67 (.int .i64 0) (.int .i64 0))
  have HB0 := Lib.hid (show Below w.heap.size w (w.alloc (.cells #[.int .i64 0, .int .i64 0] 67)) from (Below.refl _ _).alloc (Nat.le_refl _) _)
  go_enter Tryz.func76, Tryz.ntmps76
  go_wp2_with fail
  generalize hW0 : w.alloc (.cells #[.int .i64 0, .int .i64 0] 67) = W0 at *
  have hsz : W0.heap.size = w.heap.size + 1 := by rw [← hW0]; simp
  clear hW0
  generalize hgg : w.heap.size = g at HN hsz hlt hmlt HB0 HF ⊢
  have HGg := Lib.hid hgg
  clear hgg
  have d6 : W0.cell? ⟨b, 6, none⟩ = some (.slice (some ⟨mg, mo, none⟩) (tn + 1) mc) := (HB0.out.cell (p := ⟨b, 6, none⟩) hlt).trans c6
  have dm : W0.cell? ⟨mg, mo, none⟩ = some (.string tx) := (HB0.out.cell (p := ⟨mg, mo, none⟩) hmlt).trans cm
  have d14 : W0.cell? ⟨b, 14, none⟩ = some (.int .i64 st) := (HB0.out.cell (p := ⟨b, 14, none⟩) hlt).trans c14
  have d16 : W0.cell? ⟨b, 16, none⟩ = some (.int .i64 mi) := (HB0.out.cell (p := ⟨b, 16, none⟩) hlt).trans c16
  have d17 : W0.cell? ⟨b, 17, none⟩ = some (.slice a n cap) := (HB0.out.cell (p := ⟨b, 17, none⟩) hlt).trans c17
  have HFa : ∀ j, Hid (Calls Tryz.prog 90 #[.string tx, .int .i64 st, .int .i64 mi, .slice a n cap] (W0.drewN j) fun e w' => e = .returned (.tuple #[.agg #[.int .i64 K, .int .i64 N], .int .i64 S]) ∧ Below W0.heap.size W0 w' ∧ w'.cell? ⟨b, 6, none⟩ = some (.slice (some ⟨mg, mo, none⟩) (tn + 1) mc) ∧ w'.cell? ⟨mg, mo, none⟩ = some (.string tx) ∧ w'.cell? ⟨b, 14, none⟩ = some (.int .i64 st) ∧ w'.cell? ⟨b, 16, none⟩ = some (.int .i64 mi) ∧ w'.cell? ⟨b, 17, none⟩ = some (.slice a n cap) ∧ w'.cell? ⟨g, 0, none⟩ = some (.int .i64 0) ∧ w'.cell? ⟨g, 1, none⟩ = some (.int .i64 0) ∧ w'.frozen? ⟨g, 0, none⟩ = false ∧ w'.frozen? ⟨g, 1, none⟩ = false) := by
    intro j
    have hd : Below W0.heap.size W0 (W0.drewN j) := ⟨rfl, rfl, rfl, Nat.le_refl _, fun _ _ => rfl⟩
    refine Lib.hid ((HF.out (W0.drewN j) (HB0.out.trans (hd.mono (by omega)))).mono ?_)
    rintro e w' ⟨rfl, hb⟩
    have hb2 : Below W0.heap.size W0 w' := hd.trans hb
    have ht := HN.out.later hb2
    exact ⟨rfl, hb2, (hb2.cell (p := ⟨b, 6, none⟩) (by show b < _; omega)).trans d6, (hb2.cell (p := ⟨mg, mo, none⟩) (by show mg < _; omega)).trans dm, (hb2.cell (p := ⟨b, 14, none⟩) (by show b < _; omega)).trans d14, (hb2.cell (p := ⟨b, 16, none⟩) (by show b < _; omega)).trans d16, (hb2.cell (p := ⟨b, 17, none⟩) (by show b < _; omega)).trans d17, ht.c0, ht.c1, ht.f0, ht.f1⟩
  have HFa1 := HFa 1
  have n0 := HN.out.c0
  have n1 := HN.out.c1
  have g0 := HN.out.f0
  have g1 := HN.out.f1
  have hne : b ≠ g := by omega
  have hne2 : g ≠ b := by omega
  have hne3 : mg ≠ g := by omega
  have hne4 : g ≠ mg := by omega
  have i0 : (0 : Int) < ((tn : Int) + 1) := by omega
  clear c5 c6 c14 c16 c17 cm HF HFa
  (go_region_held3 (fun w' => w'.cell? ⟨b, 6, none⟩ = some (.slice (some ⟨mg, mo, none⟩) (tn + 1) mc) ∧ w'.cell? ⟨mg, mo, none⟩ = some (.string tx) ∧ w'.cell? ⟨b, 14, none⟩ = some (.int .i64 st) ∧ w'.cell? ⟨b, 16, none⟩ = some (.int .i64 mi) ∧ w'.cell? ⟨b, 17, none⟩ = some (.slice a n cap)) (first | (refine ⟨?_, ?_, ?_, ?_, ?_⟩ <;> assumption) | go_keep) (first
      | (go_at_call 90; refine HFa1.out.mono ?_; rintro e w2 ⟨rfl, hb2, t6, tm, t14, t16, t17, m0, m1, l0, l1⟩)))
  have HB2 := Lib.hid hb2
  have HB0b := Lib.hid (show Below g w w2 from HB0.out.trans (hb2.mono (by omega)))
  clear hb2
  go_wp2_with fail
  refine bodyPost_ret (v := .tuple #[.agg #[.int .i64 K, .int .i64 N], .int .i64 S]) ?_ rfl ⟨rfl, ?_⟩
  · simp [results, Tryz.results76, go_sem, m0, m1]
  · rw [HGg.out]
    exact (HB0b.out.setCell (p := ⟨g, 0, none⟩) (Nat.le_refl _) _).setCell (p := ⟨g, 1, none⟩) (Nat.le_refl _) _
end Tk
end Go.Proofs.YtpcdaaijlgilkaaGreatDoor
namespace Go.Proofs.YtpcdaaijlgilkaaGreatDoor
open Go.RowKit
namespace Tk

variable {B b : Nat} {s : Pr} {q z lf : Nat} {V : PV} {X : Nat → Prop} {w : World}
theorem heR_bad (s : Pr) (h : s.rsp = true) (h1 : pS s ≠ 0) : headEndP s = s.fl (pS s) := by unfold headEndP; rw [h, if_neg (by simp), if_pos h1]
theorem heR_413 (s : Pr) (h : s.rsp = true) (h1 : pS s = 0) (h2 : pK s = 2) (h3 : s.M < pN s) : headEndP s = (kinded s).fl 413 := by
  unfold headEndP kinded; rw [if_neg (by simp [h]), if_neg (by omega), if_pos h2, if_pos h3, h2]; rfl
theorem heR_len (s : Pr) (h : s.rsp = true) (h1 : pS s = 0) (h2 : pK s = 2) (h3 : ¬ s.M < pN s) : headEndP s = { kinded s with mode := 4 } := by
  unfold headEndP kinded; rw [if_neg (by simp [h]), if_neg (by omega), if_pos h2, if_neg h3, h2]
theorem heR_chk (s : Pr) (h : s.rsp = true) (h1 : pS s = 0) (h2 : pK s = 3) : headEndP s = { kinded s with mode := 6, dc := newD s.L s.H s.C s.M } := by
  unfold headEndP kinded; rw [if_neg (by simp [h]), if_neg (by omega), if_neg (by omega), if_pos h2, h2]
theorem heR_close (s : Pr) (h : s.rsp = true) (h1 : pS s = 0) (h2 : pK s ≠ 2) (h3 : pK s ≠ 3) (h4 : pK s = 4) : headEndP s = { kinded s with mode := 5 } := by
  unfold headEndP kinded; rw [if_neg (by simp [h]), if_neg (by omega), if_neg h2, if_neg h3, if_pos h4, h4]
theorem heR_none (s : Pr) (h : s.rsp = true) (h1 : pS s = 0) (h2 : pK s ≠ 2) (h3 : pK s ≠ 3) (h4 : pK s ≠ 4) : headEndP s = { kinded s with mode := 7 } := by
  unfold headEndP kinded; rw [if_neg (by simp [h]), if_neg (by omega), if_neg h2, if_neg h3, if_neg h4]

set_option maxHeartbeats 8000000 in
set_option maxRecDepth 100000 in
theorem headEndR_any (h : Par B b s q z lf V w) (hr : s.rsp = true) (ha : s.asked ≠ []) (hz : sumF s.msg.f ≤ 1000000) (hb0 : s.bad = 0) (hm : s.mode ≠ 6) :
    Calls Tryz.prog 66 #[ptr b] w (HePost B b s q z lf V X w) := by
  have HB1 := Lib.hid (Below.refl w.heap.size w)
  have hF := fun W V (hp : Par B b s q z lf V W) => framedR_any hp hr ha hz
  have c5 : w.cell? ⟨b, 5, none⟩ = some (.bool true) := by rw [← hr]; exact h.cell 5 _ rfl
  have HRp := Lib.hid hr
  have HP := Lib.hid h
  have HF := Lib.hid hF
  clear h hF hr ha hz
  unfold HePost
  by_cases hS : pS s = 0
  · have e0 : ((pS s : Int) != 0) = false := by simp [hS]
    have HS := Lib.hid hS
    clear hS
    unfold ptr at HF ⊢
    have hm6 := hm
    have HM := Lib.hid hm
    clear hm hm6
    by_cases hK2 : pK s = 2
    · have e2 : ((pK s : Int) == 2) = true := by simp [hK2]
      by_cases hM : s.M < pN s
      · have HE := Lib.hid (heR_413 s HRp.out HS.out hK2 hM)
        have i0 : (s.M : Int) < (pN s : Int) := by omega
        clear hK2 hM hb0
        go_enter Tryz.func66, Tryz.ntmps66
        go_wp2_with fail
        refine (HF.out _ _ HP.out).mono ?_
        rintro e w2 ⟨rfl, hb2⟩
        have HB2 := Lib.hid ((HB1.out.trans (hb2.mono HB1.out.size)).alloc (HB1.out.trans (hb2.mono HB1.out.size)).size (.cells #[.int .i64 (pK s : Nat), .int .i64 (pN s : Nat)] 67))
        have hp := HP.out.below HB2.out
        have k20 : (w2.alloc (.cells #[.int .i64 (pK s : Nat), .int .i64 (pN s : Nat)] 67)).cell? ⟨b, 20, none⟩ = some (.int .i64 s.kind) := hp.cell 20 _ rfl
        have f20 := hp.frz 20
        have k21 : (w2.alloc (.cells #[.int .i64 (pK s : Nat), .int .i64 (pN s : Nat)] 67)).cell? ⟨b, 21, none⟩ = some (.int .i64 s.len) := hp.cell 21 _ rfl
        have f21 := hp.frz 21
        have hp3 := hp.kinds HM.out
        have HP3 := Lib.hid hp3
        have HT3 := Lib.hid (((PTn.of (b := b) (V := V) (X := X) HB2.out).trans (PTn.set 20 (.int .i64 (pK s : Nat)))).trans (PTn.set 21 (.int .i64 (pN s : Nat))))
        have hbx : b ≠ w2.heap.size := by have h1 := HP.out.lt; have h2 := (HB1.out.trans (hb2.mono HB1.out.size)).size; omega
        have k4 : (((w2.alloc (.cells #[.int .i64 (pK s : Nat), .int .i64 (pN s : Nat)] 67)).setCell ⟨b, 20, none⟩ (.int .i64 (pK s : Nat))).setCell ⟨b, 21, none⟩ (.int .i64 (pN s : Nat))).cell? ⟨b, 4, none⟩ = some (.int .i64 s.M) := hp3.cell 4 _ rfl
        have kx : (((w2.alloc (.cells #[.int .i64 (pK s : Nat), .int .i64 (pN s : Nat)] 67)).setCell ⟨b, 20, none⟩ (.int .i64 (pK s : Nat))).setCell ⟨b, 21, none⟩ (.int .i64 (pN s : Nat))).cell? ⟨w2.heap.size, 1, none⟩ = some (.int .i64 (pN s : Nat)) := by rw [World.cell?_setCell_other _ _ _ _ (by intro e; injection e with e1; exact hbx e1), World.cell?_setCell_other _ _ _ _ (by intro e; injection e with e1; exact hbx e1), Lib.cell_of_heap (heap_alloc_last w2 _)]; rfl
        clear hb2 hp hp3
        generalize pK s = K at *
        generalize pN s = N at *
        go_wp2_with fail
        go_quiet (fail)
        go_wp2_with fail
        go_ret2
        rw [HE.out]
        exact ⟨by rw [stE_fl _ _ (by omega)]; rfl, _, (HP3.out.flaw _).draws _, HT3.out.trans (PTn.draws _)⟩
      · have HE := Lib.hid (heR_len s HRp.out HS.out hK2 hM)
        have i0 : ¬ (s.M : Int) < (pN s : Int) := by omega
        have HZ := Lib.hid hb0
        clear hK2 hM hb0
        go_enter Tryz.func66, Tryz.ntmps66
        go_wp2_with fail
        refine (HF.out _ _ HP.out).mono ?_
        rintro e w2 ⟨rfl, hb2⟩
        have HB2 := Lib.hid ((HB1.out.trans (hb2.mono HB1.out.size)).alloc (HB1.out.trans (hb2.mono HB1.out.size)).size (.cells #[.int .i64 (pK s : Nat), .int .i64 (pN s : Nat)] 67))
        have hp := HP.out.below HB2.out
        have k20 : (w2.alloc (.cells #[.int .i64 (pK s : Nat), .int .i64 (pN s : Nat)] 67)).cell? ⟨b, 20, none⟩ = some (.int .i64 s.kind) := hp.cell 20 _ rfl
        have f20 := hp.frz 20
        have k21 : (w2.alloc (.cells #[.int .i64 (pK s : Nat), .int .i64 (pN s : Nat)] 67)).cell? ⟨b, 21, none⟩ = some (.int .i64 s.len) := hp.cell 21 _ rfl
        have f21 := hp.frz 21
        have hp3 := hp.kinds HM.out
        have HP3 := Lib.hid hp3
        have HT3 := Lib.hid (((PTn.of (b := b) (V := V) (X := X) HB2.out).trans (PTn.set 20 (.int .i64 (pK s : Nat)))).trans (PTn.set 21 (.int .i64 (pN s : Nat))))
        have hbx : b ≠ w2.heap.size := by have h1 := HP.out.lt; have h2 := (HB1.out.trans (hb2.mono HB1.out.size)).size; omega
        have k4 : (((w2.alloc (.cells #[.int .i64 (pK s : Nat), .int .i64 (pN s : Nat)] 67)).setCell ⟨b, 20, none⟩ (.int .i64 (pK s : Nat))).setCell ⟨b, 21, none⟩ (.int .i64 (pN s : Nat))).cell? ⟨b, 4, none⟩ = some (.int .i64 s.M) := hp3.cell 4 _ rfl
        have kx : (((w2.alloc (.cells #[.int .i64 (pK s : Nat), .int .i64 (pN s : Nat)] 67)).setCell ⟨b, 20, none⟩ (.int .i64 (pK s : Nat))).setCell ⟨b, 21, none⟩ (.int .i64 (pN s : Nat))).cell? ⟨w2.heap.size, 1, none⟩ = some (.int .i64 (pN s : Nat)) := by rw [World.cell?_setCell_other _ _ _ _ (by intro e; injection e with e1; exact hbx e1), World.cell?_setCell_other _ _ _ _ (by intro e; injection e with e1; exact hbx e1), Lib.cell_of_heap (heap_alloc_last w2 _)]; rfl
        clear hb2 hp hp3
        generalize pK s = K at *
        generalize pN s = N at *
        go_wp2_with fail
        go_quiet (fail)
        go_wp2_with fail
        go_ret2
        rw [HE.out]
        exact ⟨by unfold stE; rw [if_pos (by exact HZ.out)]; rfl, _, (HP3.out.draws _).as _ rfl rfl rfl rfl rfl rfl (fun e => by cases e), HT3.out.trans (PTn.draws _)⟩
    · have e2 : ((pK s : Int) == 2) = false := by rw [beq_eq_false_iff_ne]; omega
      by_cases hK3 : pK s = 3
      · have e3 : ((pK s : Int) == 3) = true := by simp [hK3]
        have HE := Lib.hid (heR_chk s HRp.out HS.out hK3)
        have HZ := Lib.hid hb0
        clear hK2 hK3 hb0
        go_enter Tryz.func66, Tryz.ntmps66
        go_wp2_with fail
        refine (HF.out _ _ HP.out).mono ?_
        rintro e w2 ⟨rfl, hb2⟩
        have HB2 := Lib.hid ((HB1.out.trans (hb2.mono HB1.out.size)).alloc (HB1.out.trans (hb2.mono HB1.out.size)).size (.cells #[.int .i64 (pK s : Nat), .int .i64 (pN s : Nat)] 67))
        have hp := HP.out.below HB2.out
        have k20 : (w2.alloc (.cells #[.int .i64 (pK s : Nat), .int .i64 (pN s : Nat)] 67)).cell? ⟨b, 20, none⟩ = some (.int .i64 s.kind) := hp.cell 20 _ rfl
        have f20 := hp.frz 20
        have k21 : (w2.alloc (.cells #[.int .i64 (pK s : Nat), .int .i64 (pN s : Nat)] 67)).cell? ⟨b, 21, none⟩ = some (.int .i64 s.len) := hp.cell 21 _ rfl
        have f21 := hp.frz 21
        have hp3 := hp.kinds HM.out
        have HP3 := Lib.hid hp3
        have HT3 := Lib.hid (((PTn.of (b := b) (V := V) (X := X) HB2.out).trans (PTn.set 20 (.int .i64 (pK s : Nat)))).trans (PTn.set 21 (.int .i64 (pN s : Nat))))
        have hbx : b ≠ w2.heap.size := by have h1 := HP.out.lt; have h2 := (HB1.out.trans (hb2.mono HB1.out.size)).size; omega
        have k1 : (((w2.alloc (.cells #[.int .i64 (pK s : Nat), .int .i64 (pN s : Nat)] 67)).setCell ⟨b, 20, none⟩ (.int .i64 (pK s : Nat))).setCell ⟨b, 21, none⟩ (.int .i64 (pN s : Nat))).cell? ⟨b, 1, none⟩ = some (.int .i64 s.L) := hp3.cell 1 _ rfl
        have k2 : (((w2.alloc (.cells #[.int .i64 (pK s : Nat), .int .i64 (pN s : Nat)] 67)).setCell ⟨b, 20, none⟩ (.int .i64 (pK s : Nat))).setCell ⟨b, 21, none⟩ (.int .i64 (pN s : Nat))).cell? ⟨b, 2, none⟩ = some (.int .i64 s.H) := hp3.cell 2 _ rfl
        have k3 : (((w2.alloc (.cells #[.int .i64 (pK s : Nat), .int .i64 (pN s : Nat)] 67)).setCell ⟨b, 20, none⟩ (.int .i64 (pK s : Nat))).setCell ⟨b, 21, none⟩ (.int .i64 (pN s : Nat))).cell? ⟨b, 3, none⟩ = some (.int .i64 s.C) := hp3.cell 3 _ rfl
        have k4 : (((w2.alloc (.cells #[.int .i64 (pK s : Nat), .int .i64 (pN s : Nat)] 67)).setCell ⟨b, 20, none⟩ (.int .i64 (pK s : Nat))).setCell ⟨b, 21, none⟩ (.int .i64 (pN s : Nat))).cell? ⟨b, 4, none⟩ = some (.int .i64 s.M) := hp3.cell 4 _ rfl
        clear hb2 hp hp3
        generalize pK s = K at *
        generalize pN s = N at *
        go_wp2_with fail
        refine (new_any s.L s.H s.C s.M s.L s.H s.C s.M B _ (by have := HP3.out.hB; have := HP3.out.lt; omega) (by omega) (by omega) (by omega) (by omega)).mono ?_
        rintro e w4 ⟨bd, rfl, hbd, hd, hb4⟩
        obtain ⟨hd5, ht5⟩ := HP3.out.newDec (X := X) hb4 hd hbd
        have hq := HP3.out.below hb4
        have j23 : w4.cell? ⟨b, 23, none⟩ = some V.c := hq.cell 23 _ rfl
        have g23 := hq.frz 23
        have HD5 := Lib.hid hd5
        have HT5 := Lib.hid (HT3.out.trans ht5)
        clear hd hb4 hd5 ht5 hq hbd
        unfold ptr at *
        go_wp2_with fail
        go_ret2
        rw [HE.out]
        exact ⟨by unfold stE; rw [if_pos (by exact HZ.out)]; rfl, _, HD5.out, HT5.out⟩
      · have e3 : ((pK s : Int) == 3) = false := by rw [beq_eq_false_iff_ne]; omega
        by_cases hk4 : pK s = 4
        · have e4 : ((pK s : Int) == 4) = true := by simp [hk4]
          have HE := Lib.hid (heR_close s HRp.out HS.out hK2 hK3 hk4)
          have HZ := Lib.hid hb0
          clear hK2 hK3 hk4 hb0
          go_enter Tryz.func66, Tryz.ntmps66
          go_wp2_with fail
          refine (HF.out _ _ HP.out).mono ?_
          rintro e w2 ⟨rfl, hb2⟩
          have HB2 := Lib.hid ((HB1.out.trans (hb2.mono HB1.out.size)).alloc (HB1.out.trans (hb2.mono HB1.out.size)).size (.cells #[.int .i64 (pK s : Nat), .int .i64 (pN s : Nat)] 67))
          have hp := HP.out.below HB2.out
          have k20 : (w2.alloc (.cells #[.int .i64 (pK s : Nat), .int .i64 (pN s : Nat)] 67)).cell? ⟨b, 20, none⟩ = some (.int .i64 s.kind) := hp.cell 20 _ rfl
          have f20 := hp.frz 20
          have k21 : (w2.alloc (.cells #[.int .i64 (pK s : Nat), .int .i64 (pN s : Nat)] 67)).cell? ⟨b, 21, none⟩ = some (.int .i64 s.len) := hp.cell 21 _ rfl
          have f21 := hp.frz 21
          have hp3 := hp.kinds HM.out
          have HP3 := Lib.hid hp3
          have HT3 := Lib.hid (((PTn.of (b := b) (V := V) (X := X) HB2.out).trans (PTn.set 20 (.int .i64 (pK s : Nat)))).trans (PTn.set 21 (.int .i64 (pN s : Nat))))
          have hbx : b ≠ w2.heap.size := by have h1 := HP.out.lt; have h2 := (HB1.out.trans (hb2.mono HB1.out.size)).size; omega
          clear hb2 hp hp3
          generalize pK s = K at *
          generalize pN s = N at *
          go_wp2_with fail
          go_ret2
          rw [HE.out]
          exact ⟨by unfold stE; rw [if_pos (by exact HZ.out)]; rfl, _, HP3.out.as _ rfl rfl rfl rfl rfl rfl (fun e => by cases e), HT3.out⟩
        · have e4 : ((pK s : Int) == 4) = false := by rw [beq_eq_false_iff_ne]; omega
          have HE := Lib.hid (heR_none s HRp.out HS.out hK2 hK3 hk4)
          have HZ := Lib.hid hb0
          clear hK2 hK3 hk4 hb0
          go_enter Tryz.func66, Tryz.ntmps66
          go_wp2_with fail
          refine (HF.out _ _ HP.out).mono ?_
          rintro e w2 ⟨rfl, hb2⟩
          have HB2 := Lib.hid ((HB1.out.trans (hb2.mono HB1.out.size)).alloc (HB1.out.trans (hb2.mono HB1.out.size)).size (.cells #[.int .i64 (pK s : Nat), .int .i64 (pN s : Nat)] 67))
          have hp := HP.out.below HB2.out
          have k20 : (w2.alloc (.cells #[.int .i64 (pK s : Nat), .int .i64 (pN s : Nat)] 67)).cell? ⟨b, 20, none⟩ = some (.int .i64 s.kind) := hp.cell 20 _ rfl
          have f20 := hp.frz 20
          have k21 : (w2.alloc (.cells #[.int .i64 (pK s : Nat), .int .i64 (pN s : Nat)] 67)).cell? ⟨b, 21, none⟩ = some (.int .i64 s.len) := hp.cell 21 _ rfl
          have f21 := hp.frz 21
          have hp3 := hp.kinds HM.out
          have HP3 := Lib.hid hp3
          have HT3 := Lib.hid (((PTn.of (b := b) (V := V) (X := X) HB2.out).trans (PTn.set 20 (.int .i64 (pK s : Nat)))).trans (PTn.set 21 (.int .i64 (pN s : Nat))))
          have hbx : b ≠ w2.heap.size := by have h1 := HP.out.lt; have h2 := (HB1.out.trans (hb2.mono HB1.out.size)).size; omega
          clear hb2 hp hp3
          generalize pK s = K at *
          generalize pN s = N at *
          go_wp2_with fail
          go_ret2
          rw [HE.out]
          exact ⟨by unfold stE; rw [if_pos (by exact HZ.out)]; rfl, _, HP3.out.as _ rfl rfl rfl rfl rfl rfl (fun e => by cases e), HT3.out⟩
  · have HE := Lib.hid (heR_bad s HRp.out hS)
    have HS := Lib.hid hS
    have e0 : ((pS s : Int) != 0) = true := by simp [hS]
    clear hS
    unfold ptr at HF ⊢
    go_enter Tryz.func66, Tryz.ntmps66
    go_wp2_with fail
    refine (HF.out _ _ HP.out).mono ?_
    rintro e w2 ⟨rfl, hb2⟩
    have HB2 := Lib.hid (HB1.out.trans (hb2.mono HB1.out.size))
    clear hb2
    go_wp2_with fail
    go_ret2
    rw [HE.out]
    exact ⟨by rw [stE_fl _ _ HS.out]; rfl, .of (HP.out.flaw _) (HB2.out.alloc HB2.out.size _)⟩
theorem headEndA_any (h : Par B b s q z lf V w) (hr : s.idle = false) (hz : sumF s.msg.f ≤ 1000000) (hb0 : s.bad = 0) (hm : s.mode ≠ 6) :
    Calls Tryz.prog 66 #[ptr b] w (HePost B b s q z lf V X w) := by
  cases h1 : s.rsp
  · exact headEnd_any h h1 hz hb0 hm
  · refine headEndR_any h h1 (fun e => ?_) hz hb0 hm
    unfold Pr.idle at hr; rw [h1, e] at hr; cases hr
end Tk
end Go.Proofs.YtpcdaaijlgilkaaGreatDoor
