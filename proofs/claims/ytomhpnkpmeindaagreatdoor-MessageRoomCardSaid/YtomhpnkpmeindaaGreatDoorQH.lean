/- FrmC FrmD MsgG MsgH MsgI MsgJ MsgK MsgL, put together. -/
import Derived.Test.YtomhpnkpmeindaaGreatDoorQG
import Derived.Test.YtomhpnkpmeindaaGreatDoorQA
import Derived.Test.YtomhpnkpmeindaaGreatDoorQC
import Derived.Deep.RegionHeld3
import Derived.Lib.AppendStr
import Derived.Deep.RegionLaw
namespace Go.Proofs.YtomhpnkpmeindaaGreatDoor
open Go.RowKit
namespace Tk

def CodPost (l : List (Bs × Bs)) (w : World) (e : Ending) (w' : World) : Prop := e = .returned (.tuple #[.bool (hasF l nmTE), .int .i64 (codS l : Nat)]) ∧ Below w.heap.size w w'
theorem cod_ret (l : List (Bs × Bs)) (b : Bool) (s : Nat) (h2 : hasF l nmTE = b) (h3 : codS l = s) : Ending.returned (.tuple #[.bool b, .int .i64 (s : Int)]) = .returned (.tuple #[.bool (hasF l nmTE), .int .i64 (codS l : Nat)]) := by rw [h2, h3]
theorem cod_no (l : List (Bs × Bs)) (h : hasF l nmTE = false) : codS l = 0 := by unfold codS; rw [h]; rfl
theorem cod_yes (l : List (Bs × Bs)) (h : hasF l nmTE = true) : codS l = if codOk (listF l nmTE) then 0 else 501 := by unfold codS; rw [h]; cases codOk (listF l nmTE) <;> rfl

set_option maxHeartbeats 4000000 in
set_option maxRecDepth 100000 in
theorem coded_any (v : Value) (l : List (Bs × Bs)) (w : World) (hs : IsFlds w v l) (hz : sumF l ≤ 1000000) (hl : l.length ≤ 1048576) :
    Calls Tryz.prog 135 #[v] w (CodPost l w) := by
  have HH : Hid (∀ W, Below w.heap.size w W → Calls Tryz.prog 149 #[v, .string ⟨#[84, 114, 97, 110, 115, 102, 101, 114, 45, 69, 110, 99, 111, 100, 105, 110, 103]⟩] W fun e w' => e = .returned (.bool (hasF l nmTE)) ∧ Below W.heap.size W w') := fun W hb => has_any v l nmTE W (isFlds_below hs hb) hz (by decide) hl
  have HLs : Hid (∀ W, Below w.heap.size w W → Calls Tryz.prog 150 #[v, .string ⟨#[84, 114, 97, 110, 115, 102, 101, 114, 45, 69, 110, 99, 111, 100, 105, 110, 103]⟩] W (ListPost W.heap.size (listF l nmTE) W)) := fun W hb => flist_any v l nmTE W (isFlds_below hs hb) hz (by decide) hl
  unfold ListPost at HLs
  have HPc := Lib.hid (fun p hp => Nat.le_trans (listF_piece nmTE l p hp) hz)
  have hln := listF_len nmTE l
  have hlp : (listF l nmTE).length ≤ 1000000 := by omega
  have HRet := Lib.hid (cod_ret l)
  have HNo := Lib.hid (cod_no l)
  have HYes := Lib.hid (cod_yes l)
  unfold CodPost
  obtain ⟨a, cap, rfl⟩ : ∃ a cap, v = .slice a l.length cap := by obtain ⟨a, c, h, -⟩ := hs; exact ⟨a, c, h⟩
  clear hs hz hln
  generalize listF l nmTE = P at *
  cases hh : hasF l nmTE
  · have HR := Lib.hid (HRet.out false 0 hh (HNo.out hh))
    rw [hh] at HH HR
    go_enter Tryz.func135, Tryz.ntmps135
    go_wp2_with fail
    refine (HH.out _ (Below.refl _ _)).mono ?_
    rintro e w1 ⟨rfl, hb⟩
    have HB1 := Lib.hid hb
    clear hb
    go_wp2_with fail
    refine (HLs.out _ HB1.out).mono ?_
    rintro e w2 ⟨v2, rfl, ho, hb⟩
    have HB2 := Lib.hid (HB1.out.trans (hb.mono HB1.out.size))
    obtain ⟨a1, c1, rfl⟩ : ∃ a c, v2 = .slice a P.length c := by obtain ⟨a, c, h, -⟩ := isStrs_own ho; exact ⟨a, c, h⟩
    clear ho hb
    go_wp2_with fail
    go_ret2
    exact ⟨HR.out, HB2.out⟩
  · have hy := HYes.out hh
    rw [hh] at HH
    by_cases h1 : P.length = 1
    · obtain ⟨p, rfl⟩ : ∃ p, P = [p] := List.length_eq_one_iff.1 h1
      have hpz := HPc.out p (by simp)
      have hpm := size_mkS p
      have hS : ∀ W : World, Calls Tryz.prog 42 #[.string (mkS p), .string ⟨#[99, 104, 117, 110, 107, 101, 100]⟩] W fun r w' => r = .returned (.bool (codOk [p])) ∧ ∃ n, w' = W.drewN n := fun W => by
        have h := tsame_any (mkS p) ⟨#[99, 104, 117, 110, 107, 101, 100]⟩ W (by omega) (by decide)
        have e : codOk [p] = decide (lowL (bs (mkS p)) = lowL (bs ⟨#[99, 104, 117, 110, 107, 101, 100]⟩)) := by
          show (true && decide (lowL p = lowL chkB)) = _
          rw [Bool.true_and]; rfl
        rw [e]; exact h
      have HS := Lib.hid hS
      clear hS hpm hpz h1
      cases hk : codOk [p]
      all_goals
        rw [hk] at hy HS
        have HR := Lib.hid (HRet.out true _ hh hy)
        rw [hh] at HR
        clear hy
        go_enter Tryz.func135, Tryz.ntmps135
        go_wp2_with fail
        refine (HH.out _ (Below.refl _ _)).mono ?_
        rintro e w1 ⟨rfl, hb⟩
        have HB1 := Lib.hid hb
        clear hb
        go_wp2_with fail
        refine (HLs.out _ HB1.out).mono ?_
        rintro e w2 ⟨v2, rfl, ho, hb⟩
        have HB2 := Lib.hid (HB1.out.trans (hb.mono HB1.out.size))
        obtain ⟨a1, c1, rfl, hc⟩ := isStrs_own ho
        obtain ⟨b, o, rfl, hc0⟩ := hc 0 p (by simp)
        rw [Nat.add_zero] at hc0
        clear ho hb hc
        go_wp2_with fail
        refine (HS.out _).mono ?_
        rintro e w3 ⟨rfl, n, rfl⟩
        go_wp2_with fail
        go_ret2
        exact ⟨HR.out, below_some_draws HB2.out _⟩
    · have hk : codOk P = false := by unfold codOk; simp [h1]
      rw [hk] at hy
      have HR := Lib.hid (HRet.out true 501 hh hy)
      rw [hh] at HR
      have hb1 : ((P.length : Int) != 1) = true := by rw [bne_iff_ne]; omega
      clear hy h1 hk
      go_enter Tryz.func135, Tryz.ntmps135
      go_wp2_with fail
      refine (HH.out _ (Below.refl _ _)).mono ?_
      rintro e w1 ⟨rfl, hb⟩
      have HB1 := Lib.hid hb
      clear hb
      go_wp2_with fail
      refine (HLs.out _ HB1.out).mono ?_
      rintro e w2 ⟨v2, rfl, ho, hb⟩
      have HB2 := Lib.hid (HB1.out.trans (hb.mono HB1.out.size))
      obtain ⟨a1, c1, rfl⟩ : ∃ a c, v2 = .slice a P.length c := by obtain ⟨a, c, h, -⟩ := isStrs_own ho; exact ⟨a, c, h⟩
      clear ho hb
      go_wp2_with fail
      go_ret2
      exact ⟨HR.out, HB2.out⟩
end Tk
end Go.Proofs.YtomhpnkpmeindaaGreatDoor
namespace Go.Proofs.YtomhpnkpmeindaaGreatDoor
open Go.RowKit
namespace Tk

def FrPost (K N S : Nat) (w : World) (e : Ending) (w' : World) : Prop := e = .returned (.tuple #[.agg #[.int .i64 (K : Int), .int .i64 (N : Int)], .int .i64 (S : Int)]) ∧ Below w.heap.size w w'
theorem Two.put0 {w : World} {g : Nat} {T : TypeId} {a b : Value} (h : Two w g T a b) (a' : Value) :
    (w.setCell ⟨g, 0, none⟩ a').cell? ⟨g, 0, none⟩ = some a' ∧ (w.setCell ⟨g, 0, none⟩ a').cell? ⟨g, 1, none⟩ = some b :=
  ⟨World.cell?_setCell_same _ _ _ h.c0, by rw [World.cell?_setCell_other (w := w) (a := ⟨g, 0, none⟩) (b := ⟨g, 1, none⟩) (h := by intro e; injection e with _ e2; cases e2)]; exact h.c1⟩

/-- what Length and Coded tell -/
def LnAt (P : Program) (f : FuncId) (v : Value) (w : World) (N : Nat) (C : Bool) (S : Nat) : Prop := ∀ W, Below w.heap.size w W → Calls P f #[v] W fun e w' => e = .returned (.tuple #[.int .i64 (N : Int), .bool C, .int .i64 (S : Int)]) ∧ Below W.heap.size W w'
def CdAt (P : Program) (f : FuncId) (v : Value) (w : World) (T : Bool) (K : Nat) : Prop := ∀ W, Below w.heap.size w W → Calls P f #[v] W fun e w' => e = .returned (.tuple #[.bool T, .int .i64 (K : Int)]) ∧ Below W.heap.size W w'

set_option maxHeartbeats 4000000 in
set_option maxRecDepth 100000 in
theorem frame_m0 (m : Int) (v : Value) (n0 N K S : Nat) (C : Bool) (w : World) (HL : LnAt Tryz.prog 134 v w N C S) (HC : CdAt Tryz.prog 135 v w true K) (hv : ∃ a n c, v = .slice a n c) (hm : m = 0) :
    Calls Tryz.prog 109 #[.int .i64 m, v, .int .i64 (n0 : Int)] w (FrPost 0 0 400 w) := by
  obtain ⟨a, ln, cap, rfl⟩ := hv
  have HL2 := Lib.hid HL
  have HC2 := Lib.hid HC
  unfold LnAt at HL2
  unfold CdAt at HC2
  unfold FrPost
  clear HL HC
  have em : (m == 0) = true := by rw [hm]; rfl
  clear hm
  have HN := Lib.hid (Two.new w 62 (.int .i64 0) (.int .i64 0))
  have HB0 := Lib.hid (show Below w.heap.size w (w.alloc (.cells #[.int .i64 0, .int .i64 0] 62)) from (Below.refl _ _).alloc (Nat.le_refl _) _)
  go_enter Tryz.func109, Tryz.ntmps109
  go_wp2_with fail
  generalize w.alloc (.cells #[.int .i64 0, .int .i64 0] 62) = W0 at *
  refine (HL2.out _ HB0.out).mono ?_
  rintro e w1 ⟨rfl, hb⟩
  have HN1 := Lib.hid (HN.out.later hb)
  have HB1 := Lib.hid (HB0.out.trans (hb.mono HB0.out.size))
  clear hb
  go_wp2_with fail
  refine (HC2.out _ HB1.out).mono ?_
  rintro e w2 ⟨rfl, hb⟩
  have HN2 := HN1.out.later hb
  have HB2 := Lib.hid (HB1.out.trans (hb.mono HB1.out.size))
  have c0 := HN2.c0
  have c1 := HN2.c1
  have f0 := HN2.f0
  have f1 := HN2.f1
  have hlt := HN2.lt
  have HH := Lib.hid HN2
  clear hb HN2
  go_wp2_with fail
  have z0 := HH.out.c0
  have z1 := HH.out.c1
  refine bodyPost_ret (v := .tuple #[.agg #[.int .i64 0, .int .i64 0], .int .i64 400]) ?_ rfl ⟨rfl, ?_⟩
  · simp [results, Tryz.results109, go_sem, z0, z1]
  · exact HB2.out

set_option maxHeartbeats 4000000 in
set_option maxRecDepth 100000 in
theorem frame_both (m : Int) (v : Value) (n0 N K S : Nat) (_C : Bool) (w : World) (HL : LnAt Tryz.prog 134 v w N true S) (HC : CdAt Tryz.prog 135 v w true K) (hv : ∃ a n c, v = .slice a n c) (hm : m ≠ 0) :
    Calls Tryz.prog 109 #[.int .i64 m, v, .int .i64 (n0 : Int)] w (FrPost 0 0 400 w) := by
  obtain ⟨a, ln, cap, rfl⟩ := hv
  have HL2 := Lib.hid HL
  have HC2 := Lib.hid HC
  unfold LnAt at HL2
  unfold CdAt at HC2
  unfold FrPost
  clear HL HC
  have em : (m == 0) = false := beq_eq_false_iff_ne.2 hm
  clear hm
  have HN := Lib.hid (Two.new w 62 (.int .i64 0) (.int .i64 0))
  have HB0 := Lib.hid (show Below w.heap.size w (w.alloc (.cells #[.int .i64 0, .int .i64 0] 62)) from (Below.refl _ _).alloc (Nat.le_refl _) _)
  go_enter Tryz.func109, Tryz.ntmps109
  go_wp2_with fail
  generalize w.alloc (.cells #[.int .i64 0, .int .i64 0] 62) = W0 at *
  refine (HL2.out _ HB0.out).mono ?_
  rintro e w1 ⟨rfl, hb⟩
  have HN1 := Lib.hid (HN.out.later hb)
  have HB1 := Lib.hid (HB0.out.trans (hb.mono HB0.out.size))
  clear hb
  go_wp2_with fail
  refine (HC2.out _ HB1.out).mono ?_
  rintro e w2 ⟨rfl, hb⟩
  have HN2 := HN1.out.later hb
  have HB2 := Lib.hid (HB1.out.trans (hb.mono HB1.out.size))
  have c0 := HN2.c0
  have c1 := HN2.c1
  have f0 := HN2.f0
  have f1 := HN2.f1
  have hlt := HN2.lt
  have HH := Lib.hid HN2
  clear hb HN2
  go_wp2_with fail
  have z0 := HH.out.c0
  have z1 := HH.out.c1
  refine bodyPost_ret (v := .tuple #[.agg #[.int .i64 0, .int .i64 0], .int .i64 400]) ?_ rfl ⟨rfl, ?_⟩
  · simp [results, Tryz.results109, go_sem, z0, z1]
  · exact HB2.out

set_option maxHeartbeats 4000000 in
set_option maxRecDepth 100000 in
theorem frame_cod (m : Int) (v : Value) (n0 N K S : Nat) (_C : Bool) (w : World) (HL : LnAt Tryz.prog 134 v w N false S) (HC : CdAt Tryz.prog 135 v w true K) (hv : ∃ a n c, v = .slice a n c) (hm : m ≠ 0) (hk : K ≠ 0) :
    Calls Tryz.prog 109 #[.int .i64 m, v, .int .i64 (n0 : Int)] w (FrPost 0 0 K w) := by
  obtain ⟨a, ln, cap, rfl⟩ := hv
  have HL2 := Lib.hid HL
  have HC2 := Lib.hid HC
  unfold LnAt at HL2
  unfold CdAt at HC2
  unfold FrPost
  clear HL HC
  have em : (m == 0) = false := beq_eq_false_iff_ne.2 hm
  clear hm
  have ek : ((K : Int) != 0) = true := by rw [bne_iff_ne]; omega
  clear hk
  have HN := Lib.hid (Two.new w 62 (.int .i64 0) (.int .i64 0))
  have HB0 := Lib.hid (show Below w.heap.size w (w.alloc (.cells #[.int .i64 0, .int .i64 0] 62)) from (Below.refl _ _).alloc (Nat.le_refl _) _)
  go_enter Tryz.func109, Tryz.ntmps109
  go_wp2_with fail
  generalize w.alloc (.cells #[.int .i64 0, .int .i64 0] 62) = W0 at *
  refine (HL2.out _ HB0.out).mono ?_
  rintro e w1 ⟨rfl, hb⟩
  have HN1 := Lib.hid (HN.out.later hb)
  have HB1 := Lib.hid (HB0.out.trans (hb.mono HB0.out.size))
  clear hb
  go_wp2_with fail
  refine (HC2.out _ HB1.out).mono ?_
  rintro e w2 ⟨rfl, hb⟩
  have HN2 := HN1.out.later hb
  have HB2 := Lib.hid (HB1.out.trans (hb.mono HB1.out.size))
  have c0 := HN2.c0
  have c1 := HN2.c1
  have f0 := HN2.f0
  have f1 := HN2.f1
  have hlt := HN2.lt
  have HH := Lib.hid HN2
  clear hb HN2
  go_wp2_with fail
  have z0 := HH.out.c0
  have z1 := HH.out.c1
  refine bodyPost_ret (v := .tuple #[.agg #[.int .i64 0, .int .i64 0], .int .i64 (K : Nat)]) ?_ rfl ⟨rfl, ?_⟩
  · simp [results, Tryz.results109, go_sem, z0, z1]
  · exact HB2.out

set_option maxHeartbeats 4000000 in
set_option maxRecDepth 100000 in
theorem frame_chunks (m : Int) (v : Value) (n0 N _K S : Nat) (_C : Bool) (w : World) (HL : LnAt Tryz.prog 134 v w N false S) (HC : CdAt Tryz.prog 135 v w true 0) (hv : ∃ a n c, v = .slice a n c) (hm : m ≠ 0) :
    Calls Tryz.prog 109 #[.int .i64 m, v, .int .i64 (n0 : Int)] w (FrPost 3 0 0 w) := by
  obtain ⟨a, ln, cap, rfl⟩ := hv
  have HL2 := Lib.hid HL
  have HC2 := Lib.hid HC
  unfold LnAt at HL2
  unfold CdAt at HC2
  unfold FrPost
  clear HL HC
  have em : (m == 0) = false := beq_eq_false_iff_ne.2 hm
  clear hm
  have HN := Lib.hid (Two.new w 62 (.int .i64 0) (.int .i64 0))
  have HB0 := Lib.hid (show Below w.heap.size w (w.alloc (.cells #[.int .i64 0, .int .i64 0] 62)) from (Below.refl _ _).alloc (Nat.le_refl _) _)
  go_enter Tryz.func109, Tryz.ntmps109
  go_wp2_with fail
  generalize w.alloc (.cells #[.int .i64 0, .int .i64 0] 62) = W0 at *
  refine (HL2.out _ HB0.out).mono ?_
  rintro e w1 ⟨rfl, hb⟩
  have HN1 := Lib.hid (HN.out.later hb)
  have HB1 := Lib.hid (HB0.out.trans (hb.mono HB0.out.size))
  clear hb
  go_wp2_with fail
  refine (HC2.out _ HB1.out).mono ?_
  rintro e w2 ⟨rfl, hb⟩
  have HN2 := HN1.out.later hb
  have HB2 := Lib.hid (HB1.out.trans (hb.mono HB1.out.size))
  have c0 := HN2.c0
  have c1 := HN2.c1
  have f0 := HN2.f0
  have f1 := HN2.f1
  have hlt := HN2.lt
  have HH := Lib.hid HN2
  clear hb HN2
  go_wp2_with fail
  obtain ⟨z0, z1⟩ := HH.out.put0 (.int .i64 3)
  refine bodyPost_ret (v := .tuple #[.agg #[.int .i64 3, .int .i64 0], .int .i64 0]) ?_ rfl ⟨rfl, ?_⟩
  · simp [results, Tryz.results109, go_sem, z0, z1]
  · exact HB2.out.setCell (p := ⟨w.heap.size, 0, none⟩) (Nat.le_refl _) _

set_option maxHeartbeats 4000000 in
set_option maxRecDepth 100000 in
theorem frame_bad (m : Int) (v : Value) (n0 N K S : Nat) (C : Bool) (w : World) (HL : LnAt Tryz.prog 134 v w N C S) (HC : CdAt Tryz.prog 135 v w false K) (hv : ∃ a n c, v = .slice a n c) (hk : S ≠ 0) :
    Calls Tryz.prog 109 #[.int .i64 m, v, .int .i64 (n0 : Int)] w (FrPost 0 0 S w) := by
  obtain ⟨a, ln, cap, rfl⟩ := hv
  have HL2 := Lib.hid HL
  have HC2 := Lib.hid HC
  unfold LnAt at HL2
  unfold CdAt at HC2
  unfold FrPost
  clear HL HC
  have ek : ((S : Int) != 0) = true := by rw [bne_iff_ne]; omega
  clear hk
  have HN := Lib.hid (Two.new w 62 (.int .i64 0) (.int .i64 0))
  have HB0 := Lib.hid (show Below w.heap.size w (w.alloc (.cells #[.int .i64 0, .int .i64 0] 62)) from (Below.refl _ _).alloc (Nat.le_refl _) _)
  go_enter Tryz.func109, Tryz.ntmps109
  go_wp2_with fail
  generalize w.alloc (.cells #[.int .i64 0, .int .i64 0] 62) = W0 at *
  refine (HL2.out _ HB0.out).mono ?_
  rintro e w1 ⟨rfl, hb⟩
  have HN1 := Lib.hid (HN.out.later hb)
  have HB1 := Lib.hid (HB0.out.trans (hb.mono HB0.out.size))
  clear hb
  go_wp2_with fail
  refine (HC2.out _ HB1.out).mono ?_
  rintro e w2 ⟨rfl, hb⟩
  have HN2 := HN1.out.later hb
  have HB2 := Lib.hid (HB1.out.trans (hb.mono HB1.out.size))
  have c0 := HN2.c0
  have c1 := HN2.c1
  have f0 := HN2.f0
  have f1 := HN2.f1
  have hlt := HN2.lt
  have HH := Lib.hid HN2
  clear hb HN2
  go_wp2_with fail
  have z0 := HH.out.c0
  have z1 := HH.out.c1
  refine bodyPost_ret (v := .tuple #[.agg #[.int .i64 0, .int .i64 0], .int .i64 (S : Nat)]) ?_ rfl ⟨rfl, ?_⟩
  · simp [results, Tryz.results109, go_sem, z0, z1]
  · exact HB2.out

set_option maxHeartbeats 4000000 in
set_option maxRecDepth 100000 in
theorem frame_neither (m : Int) (v : Value) (n0 N K _S : Nat) (_C : Bool) (w : World) (HL : LnAt Tryz.prog 134 v w N false 0) (HC : CdAt Tryz.prog 135 v w false K) (hv : ∃ a n c, v = .slice a n c) :
    Calls Tryz.prog 109 #[.int .i64 m, v, .int .i64 (n0 : Int)] w (FrPost n0 0 0 w) := by
  obtain ⟨a, ln, cap, rfl⟩ := hv
  have HL2 := Lib.hid HL
  have HC2 := Lib.hid HC
  unfold LnAt at HL2
  unfold CdAt at HC2
  unfold FrPost
  clear HL HC
  have HN := Lib.hid (Two.new w 62 (.int .i64 0) (.int .i64 0))
  have HB0 := Lib.hid (show Below w.heap.size w (w.alloc (.cells #[.int .i64 0, .int .i64 0] 62)) from (Below.refl _ _).alloc (Nat.le_refl _) _)
  go_enter Tryz.func109, Tryz.ntmps109
  go_wp2_with fail
  generalize w.alloc (.cells #[.int .i64 0, .int .i64 0] 62) = W0 at *
  refine (HL2.out _ HB0.out).mono ?_
  rintro e w1 ⟨rfl, hb⟩
  have HN1 := Lib.hid (HN.out.later hb)
  have HB1 := Lib.hid (HB0.out.trans (hb.mono HB0.out.size))
  clear hb
  go_wp2_with fail
  refine (HC2.out _ HB1.out).mono ?_
  rintro e w2 ⟨rfl, hb⟩
  have HN2 := HN1.out.later hb
  have HB2 := Lib.hid (HB1.out.trans (hb.mono HB1.out.size))
  have c0 := HN2.c0
  have c1 := HN2.c1
  have f0 := HN2.f0
  have f1 := HN2.f1
  have hlt := HN2.lt
  have HH := Lib.hid HN2
  clear hb HN2
  go_wp2_with fail
  obtain ⟨z0, z1⟩ := HH.out.put0 (.int .i64 (n0 : Nat))
  refine bodyPost_ret (v := .tuple #[.agg #[.int .i64 (n0 : Nat), .int .i64 0], .int .i64 0]) ?_ rfl ⟨rfl, ?_⟩
  · simp [results, Tryz.results109, go_sem, z0, z1]
  · exact HB2.out.setCell (p := ⟨w.heap.size, 0, none⟩) (Nat.le_refl _) _

set_option maxHeartbeats 4000000 in
set_option maxRecDepth 100000 in
theorem frame_nought (m : Int) (v : Value) (n0 _N K _S : Nat) (_C : Bool) (w : World) (HL : LnAt Tryz.prog 134 v w 0 true 0) (HC : CdAt Tryz.prog 135 v w false K) (hv : ∃ a n c, v = .slice a n c) :
    Calls Tryz.prog 109 #[.int .i64 m, v, .int .i64 (n0 : Int)] w (FrPost 1 0 0 w) := by
  obtain ⟨a, ln, cap, rfl⟩ := hv
  have HL2 := Lib.hid HL
  have HC2 := Lib.hid HC
  unfold LnAt at HL2
  unfold CdAt at HC2
  unfold FrPost
  clear HL HC
  have HN := Lib.hid (Two.new w 62 (.int .i64 0) (.int .i64 0))
  have HB0 := Lib.hid (show Below w.heap.size w (w.alloc (.cells #[.int .i64 0, .int .i64 0] 62)) from (Below.refl _ _).alloc (Nat.le_refl _) _)
  go_enter Tryz.func109, Tryz.ntmps109
  go_wp2_with fail
  generalize w.alloc (.cells #[.int .i64 0, .int .i64 0] 62) = W0 at *
  refine (HL2.out _ HB0.out).mono ?_
  rintro e w1 ⟨rfl, hb⟩
  have HN1 := Lib.hid (HN.out.later hb)
  have HB1 := Lib.hid (HB0.out.trans (hb.mono HB0.out.size))
  clear hb
  go_wp2_with fail
  refine (HC2.out _ HB1.out).mono ?_
  rintro e w2 ⟨rfl, hb⟩
  have HN2 := HN1.out.later hb
  have HB2 := Lib.hid (HB1.out.trans (hb.mono HB1.out.size))
  have c0 := HN2.c0
  have c1 := HN2.c1
  have f0 := HN2.f0
  have f1 := HN2.f1
  have hlt := HN2.lt
  have HH := Lib.hid HN2
  clear hb HN2
  go_wp2_with fail
  obtain ⟨z0, z1⟩ := HH.out.put0 (.int .i64 1)
  refine bodyPost_ret (v := .tuple #[.agg #[.int .i64 1, .int .i64 0], .int .i64 0]) ?_ rfl ⟨rfl, ?_⟩
  · simp [results, Tryz.results109, go_sem, z0, z1]
  · exact HB2.out.setCell (p := ⟨w.heap.size, 0, none⟩) (Nat.le_refl _) _

set_option maxHeartbeats 4000000 in
set_option maxRecDepth 100000 in
theorem frame_len (m : Int) (v : Value) (n0 N K _S : Nat) (_C : Bool) (w : World) (HL : LnAt Tryz.prog 134 v w N true 0) (HC : CdAt Tryz.prog 135 v w false K) (hv : ∃ a n c, v = .slice a n c) (hk : N ≠ 0) :
    Calls Tryz.prog 109 #[.int .i64 m, v, .int .i64 (n0 : Int)] w (FrPost 2 N 0 w) := by
  obtain ⟨a, ln, cap, rfl⟩ := hv
  have HL2 := Lib.hid HL
  have HC2 := Lib.hid HC
  unfold LnAt at HL2
  unfold CdAt at HC2
  unfold FrPost
  clear HL HC
  have ek : ((N : Int) == 0) = false := by rw [beq_eq_false_iff_ne]; omega
  clear hk
  have HN := Lib.hid (Two.new w 62 (.int .i64 0) (.int .i64 0))
  have HB0 := Lib.hid (show Below w.heap.size w (w.alloc (.cells #[.int .i64 0, .int .i64 0] 62)) from (Below.refl _ _).alloc (Nat.le_refl _) _)
  go_enter Tryz.func109, Tryz.ntmps109
  go_wp2_with fail
  generalize w.alloc (.cells #[.int .i64 0, .int .i64 0] 62) = W0 at *
  refine (HL2.out _ HB0.out).mono ?_
  rintro e w1 ⟨rfl, hb⟩
  have HN1 := Lib.hid (HN.out.later hb)
  have HB1 := Lib.hid (HB0.out.trans (hb.mono HB0.out.size))
  clear hb
  go_wp2_with fail
  refine (HC2.out _ HB1.out).mono ?_
  rintro e w2 ⟨rfl, hb⟩
  have HN2 := HN1.out.later hb
  have HB2 := Lib.hid (HB1.out.trans (hb.mono HB1.out.size))
  have c0 := HN2.c0
  have c1 := HN2.c1
  have f0 := HN2.f0
  have f1 := HN2.f1
  have hlt := HN2.lt
  have HH := Lib.hid HN2
  clear hb HN2
  go_wp2_with fail
  obtain ⟨z0, z1⟩ := HH.out.put (.int .i64 2) (.int .i64 (N : Nat))
  refine bodyPost_ret (v := .tuple #[.agg #[.int .i64 2, .int .i64 (N : Nat)], .int .i64 0]) ?_ rfl ⟨rfl, ?_⟩
  · simp [results, Tryz.results109, go_sem, z0, z1]
  · exact (HB2.out.setCell (p := ⟨w.heap.size, 0, none⟩) (Nat.le_refl _) _).setCell (p := ⟨w.heap.size, 1, none⟩) (Nat.le_refl _) _

theorem flds_slice' {w : World} {v : Value} {l : List (Bs × Bs)} (h : IsFlds w v l) : ∃ a n c, v = .slice a n c := by obtain ⟨a, c, e, -⟩ := h; exact ⟨a, _, c, e⟩
theorem frame_any (m : Int) (v : Value) (l : List (Bs × Bs)) (n0 : Nat) (w : World) (hs : IsFlds w v l) (hz : sumF l ≤ 1000000) (hl : l.length ≤ 1048576) :
    Calls Tryz.prog 109 #[.int .i64 m, v, .int .i64 (n0 : Int)] w (FrPost (frK m l n0) (frN m l) (frS m l) w) := by
  have HL : LnAt Tryz.prog 134 v w (lenN l) (hasF l nmCL) (lenS l) := fun W hb => length_any v l W (isFlds_below hs hb) hz hl
  have HC : CdAt Tryz.prog 135 v w (hasF l nmTE) (codS l) := fun W hb => coded_any v l W (isFlds_below hs hb) hz hl
  have hv := flds_slice' hs
  cases hT : hasF l nmTE
  · rw [hT] at HC
    by_cases hS : lenS l = 0
    · rw [hS] at HL
      cases hc : hasF l nmCL
      · rw [hc] at HL
        obtain ⟨e1, e2, e3⟩ := fr_neither m l n0 hT hc
        rw [e1, e2, e3]
        exact frame_neither m v n0 (lenN l) (codS l) 0 false w HL HC hv
      · rw [hc] at HL
        by_cases hN : lenN l = 0
        · obtain ⟨e1, e2, e3⟩ := fr_nought m l n0 hT hc hS hN
          rw [hN] at HL
          rw [e1, e2, e3]
          exact frame_nought m v n0 0 (codS l) 0 true w HL HC hv
        · obtain ⟨e1, e2, e3⟩ := fr_len m l n0 hT hc hS hN
          rw [e1, e2, e3]
          exact frame_len m v n0 (lenN l) (codS l) 0 true w HL HC hv hN
    · obtain ⟨e1, e2, e3⟩ := fr_bad m l n0 hT hS
      rw [e1, e2, e3]
      exact frame_bad m v n0 (lenN l) (codS l) (lenS l) _ w HL HC hv hS
  · rw [hT] at HC
    by_cases hm : m = 0
    · obtain ⟨e1, e2, e3⟩ := fr_400 m l n0 hT (by simp [hm])
      rw [e1, e2, e3]
      exact frame_m0 m v n0 (lenN l) (codS l) (lenS l) _ w HL HC hv hm
    · cases hc : hasF l nmCL
      · rw [hc] at HL
        have hd : (decide (m = 0) || hasF l nmCL) = false := by simp [hm, hc]
        by_cases hk : codS l = 0
        · obtain ⟨e1, e2, e3⟩ := fr_chunks m l n0 hT hd hk
          rw [hk] at HC
          rw [e1, e2, e3]
          exact frame_chunks m v n0 (lenN l) 0 (lenS l) false w HL HC hv hm
        · obtain ⟨e1, e2, e3⟩ := fr_501 m l n0 hT hd hk
          rw [e1, e2, e3]
          exact frame_cod m v n0 (lenN l) (codS l) (lenS l) false w HL HC hv hm hk
      · rw [hc] at HL
        obtain ⟨e1, e2, e3⟩ := fr_400 m l n0 hT (by simp [hc])
        rw [e1, e2, e3]
        exact frame_both m v n0 (lenN l) (codS l) (lenS l) true w HL HC hv hm

set_option maxHeartbeats 2000000 in
set_option maxRecDepth 100000 in
theorem request04_any (m : Int) (v : Value) (l : List (Bs × Bs)) (w : World) (hs : IsFlds w v l) (hz : sumF l ≤ 1000000) (hl : l.length ≤ 1048576) :
    Calls Tryz.prog 90 #[.int .i64 m, v] w (FrPost (frK m l 1) (frN m l) (frS m l) w) := by
  have HF : Hid (∀ W, Below w.heap.size w W → Calls Tryz.prog 109 #[.int .i64 m, v, .int .i64 1] W (FrPost (frK m l 1) (frN m l) (frS m l) W)) := fun W hb => frame_any m v l 1 W (isFlds_below hs hb) hz hl
  obtain ⟨a, ln, cap, rfl⟩ := flds_slice' hs
  unfold FrPost at HF ⊢
  clear hs hz
  generalize frK m l 1 = K at *
  generalize frN m l = N at *
  generalize frS m l = S at *
  have HN := Lib.hid (Two.new w 62 (.int .i64 0) (.int .i64 0))
  have HB0 := Lib.hid (show Below w.heap.size w (w.alloc (.cells #[.int .i64 0, .int .i64 0] 62)) from (Below.refl _ _).alloc (Nat.le_refl _) _)
  go_enter Tryz.func90, Tryz.ntmps90
  go_wp2_with fail
  generalize w.alloc (.cells #[.int .i64 0, .int .i64 0] 62) = W0 at *
  refine (HF.out _ HB0.out).mono ?_
  rintro e w1 ⟨rfl, hb⟩
  have HN2 := HN.out.later hb
  have HB2 := Lib.hid (HB0.out.trans (hb.mono HB0.out.size))
  have c0 := HN2.c0
  have c1 := HN2.c1
  have f0 := HN2.f0
  have f1 := HN2.f1
  have hlt := HN2.lt
  have HH := Lib.hid HN2
  clear hb HN2
  go_wp2_with fail
  obtain ⟨z0, z1⟩ := HH.out.put (.int .i64 (K : Nat)) (.int .i64 (N : Nat))
  refine bodyPost_ret (v := .tuple #[.agg #[.int .i64 (K : Nat), .int .i64 (N : Nat)], .int .i64 (S : Nat)]) ?_ rfl ⟨rfl, ?_⟩
  · simp [results, Tryz.results90, go_sem, z0, z1]
  · exact (HB2.out.setCell (p := ⟨w.heap.size, 0, none⟩) (Nat.le_refl _) _).setCell (p := ⟨w.heap.size, 1, none⟩) (Nat.le_refl _) _

set_option maxHeartbeats 2000000 in
set_option maxRecDepth 100000 in
theorem response04_any (t : ByteArray) (s m : Int) (v : Value) (l : List (Bs × Bs)) (w : World) (hs : IsFlds w v l) (hz : sumF l ≤ 1000000) (hl : l.length ≤ 1048576) :
    Calls Tryz.prog 89 #[.string t, .int .i64 s, .int .i64 m, v] w (FrPost (rsK (bs t) s m l) (rsN (bs t) s m l) (rsS (bs t) s m l) w) := by
  have HF : Hid (∀ W, Below w.heap.size w W → Calls Tryz.prog 109 #[.int .i64 m, v, .int .i64 4] W (FrPost (frK m l 4) (frN m l) (frS m l) W)) := fun W hb => frame_any m v l 4 W (isFlds_below hs hb) hz hl
  have HBr := bare_any t s
  have e1 : rsK (bs t) s m l = if bareB (bs t) s then 1 else frK m l 4 := rfl
  have e2 : rsN (bs t) s m l = if bareB (bs t) s then 0 else frN m l := rfl
  have e3 : rsS (bs t) s m l = if bareB (bs t) s then 0 else frS m l := rfl
  obtain ⟨a, ln, cap, rfl⟩ := flds_slice' hs
  unfold FrPost at HF ⊢
  clear hs hz
  rw [e1, e2, e3]
  clear e1 e2 e3
  generalize frK m l 4 = K at *
  generalize frN m l = N at *
  generalize frS m l = S at *
  have HN := Lib.hid (Two.new w 62 (.int .i64 0) (.int .i64 0))
  have HB0 := Lib.hid (show Below w.heap.size w (w.alloc (.cells #[.int .i64 0, .int .i64 0] 62)) from (Below.refl _ _).alloc (Nat.le_refl _) _)
  cases hB : bareB (bs t) s
  · rw [hB] at HBr
    rw [if_neg (by decide), if_neg (by decide), if_neg (by decide)]
    have HB1 := Lib.hid HBr
    clear HBr hB
    go_enter Tryz.func89, Tryz.ntmps89
    go_wp2_with fail
    generalize w.alloc (.cells #[.int .i64 0, .int .i64 0] 62) = W0 at *
    refine (HB1.out _).mono ?_
    rintro e w' ⟨rfl, rfl⟩
    go_wp2_with fail
    refine (HF.out _ HB0.out).mono ?_
    rintro e w1 ⟨rfl, hb⟩
    have HN2 := HN.out.later hb
    have HB2 := Lib.hid (HB0.out.trans (hb.mono HB0.out.size))
    have c0 := HN2.c0
    have c1 := HN2.c1
    have f0 := HN2.f0
    have f1 := HN2.f1
    have hlt := HN2.lt
    have HH := Lib.hid HN2
    clear hb HN2
    go_wp2_with fail
    obtain ⟨z0, z1⟩ := HH.out.put (.int .i64 (K : Nat)) (.int .i64 (N : Nat))
    refine bodyPost_ret (v := .tuple #[.agg #[.int .i64 (K : Nat), .int .i64 (N : Nat)], .int .i64 (S : Nat)]) ?_ rfl ⟨rfl, ?_⟩
    · simp [results, Tryz.results89, go_sem, z0, z1]
    · exact (HB2.out.setCell (p := ⟨w.heap.size, 0, none⟩) (Nat.le_refl _) _).setCell (p := ⟨w.heap.size, 1, none⟩) (Nat.le_refl _) _
  · rw [hB] at HBr
    rw [if_pos rfl, if_pos rfl, if_pos rfl]
    have HB1 := Lib.hid HBr
    clear HBr hB HF
    go_enter Tryz.func89, Tryz.ntmps89
    go_wp2_with fail
    generalize w.alloc (.cells #[.int .i64 0, .int .i64 0] 62) = W0 at *
    have HH := HN
    have c0 := HN.out.c0
    have c1 := HN.out.c1
    have f0 := HN.out.f0
    have f1 := HN.out.f1
    have hlt := HN.out.lt
    refine (HB1.out _).mono ?_
    rintro e w' ⟨rfl, rfl⟩
    go_wp2_with fail
    obtain ⟨z0, z1⟩ := HH.out.put (.int .i64 1) (.int .i64 0)
    refine bodyPost_ret (v := .tuple #[.agg #[.int .i64 1, .int .i64 0], .int .i64 0]) ?_ rfl ⟨rfl, ?_⟩
    · simp [results, Tryz.results89, go_sem, z0, z1]
    · exact (HB0.out.setCell (p := ⟨w.heap.size, 0, none⟩) (Nat.le_refl _) _).setCell (p := ⟨w.heap.size, 1, none⟩) (Nat.le_refl _) _
end Tk
end Go.Proofs.YtomhpnkpmeindaaGreatDoor
namespace Go.Proofs.YtomhpnkpmeindaaGreatDoor
open Go.RowKit
namespace Tk

variable {B b : Nat} {s : Pr} {q z lf : Nat} {V : PV} {X : Nat → Prop} {w : World}
theorem PTo.trans {B b : Nat} {s1 s2 : Pr} {q1 z1 l1 q2 z2 l2 : Nat} {V : PV} {X : Nat → Prop} {w w1 w2 : World} (h : PTo B b s1 q1 z1 l1 V X w w1) (h2 : ∀ V1, Par B b s1 q1 z1 l1 V1 w1 → PTo B b s2 q2 z2 l2 V1 X w1 w2) : PTo B b s2 q2 z2 l2 V X w w2 := by
  obtain ⟨V1, a1, a2⟩ := h
  obtain ⟨V2, b1, b2⟩ := h2 V1 a1
  exact ⟨V2, b1, a2.trans b2⟩
theorem Par.vf (h : Par B b s q z lf V w) : ∃ a c, V.f = .slice a s.msg.f.length c := by
  obtain ⟨a, c, hv, -⟩ := isFlds_own h.flds; exact ⟨a, c, hv⟩

set_option maxHeartbeats 4000000 in
set_option maxRecDepth 100000 in
theorem framed_any (h : Par B b s q z lf V w) (hr : s.rsp = false) (hz : sumF s.msg.f ≤ 1000000) :
    Calls Tryz.prog 74 #[ptr b] w fun e w' => e = .returned (.tuple #[.agg #[.int .i64 (pK s : Nat), .int .i64 (pN s : Nat)], .int .i64 (pS s : Nat)]) ∧ Below w.heap.size w w' := by
  have hg := sumF_ge s.msg.f
  have hpk : pK s = frK s.msg.mi s.msg.f 1 := by unfold pK; rw [hr]; rfl
  have hpn : pN s = frN s.msg.mi s.msg.f := by unfold pN; rw [hr]; rfl
  have hps : pS s = frS s.msg.mi s.msg.f := by unfold pS; rw [hr]; rfl
  have hF := fun W (hb : Below w.heap.size w W) => request04_any s.msg.mi V.f s.msg.f W (isFlds_below (isFlds_own h.flds) hb) hz (by omega)
  unfold FrPost at hF
  rw [hpk, hpn, hps]
  have c5 : w.cell? ⟨b, 5, none⟩ = some (.bool false) := by rw [← hr]; exact h.cell 5 _ rfl
  have c16 : w.cell? ⟨b, 16, none⟩ = some (.int .i64 s.msg.mi) := h.cell 16 _ rfl
  have c17 : w.cell? ⟨b, 17, none⟩ = some V.f := h.cell 17 _ rfl
  have hlt := h.lt
  obtain ⟨a, cap, hv⟩ := h.vf
  rw [hv] at c17 hF
  have HF := Lib.hid hF
  clear h hr hz hg hpk hpn hps hF hv
  generalize frK s.msg.mi s.msg.f 1 = K at *
  generalize frN s.msg.mi s.msg.f = N at *
  generalize frS s.msg.mi s.msg.f = S at *
  generalize s.msg.f.length = n at *
  generalize s.msg.mi = mi at *
  unfold ptr
  have HN := Lib.hid (Two.new w 62 (.int .i64 0) (.int .i64 0))
  have HB0 := Lib.hid (show Below w.heap.size w (w.alloc (.cells #[.int .i64 0, .int .i64 0] 62)) from (Below.refl _ _).alloc (Nat.le_refl _) _)
  go_enter Tryz.func74, Tryz.ntmps74
  go_wp2_with fail
  generalize hW0 : w.alloc (.cells #[.int .i64 0, .int .i64 0] 62) = W0 at *
  have hsz : W0.heap.size = w.heap.size + 1 := by rw [← hW0]; simp
  clear hW0
  generalize hgg : w.heap.size = g at HN hsz hlt HB0 HF ⊢
  have HGg := Lib.hid hgg
  clear hgg
  have d16 : W0.cell? ⟨b, 16, none⟩ = some (.int .i64 mi) := (HB0.out.cell (p := ⟨b, 16, none⟩) hlt).trans c16
  have d17 : W0.cell? ⟨b, 17, none⟩ = some (.slice a n cap) := (HB0.out.cell (p := ⟨b, 17, none⟩) hlt).trans c17
  have HFa : Hid (Calls Tryz.prog 90 #[.int .i64 mi, .slice a n cap] W0.drew fun e w' => e = .returned (.tuple #[.agg #[.int .i64 K, .int .i64 N], .int .i64 S]) ∧ Below W0.heap.size W0 w' ∧ w'.cell? ⟨b, 16, none⟩ = some (.int .i64 mi) ∧ w'.cell? ⟨b, 17, none⟩ = some (.slice a n cap) ∧ w'.cell? ⟨g, 0, none⟩ = some (.int .i64 0) ∧ w'.cell? ⟨g, 1, none⟩ = some (.int .i64 0) ∧ w'.frozen? ⟨g, 0, none⟩ = false ∧ w'.frozen? ⟨g, 1, none⟩ = false) := by
    have hd : Below W0.heap.size W0 W0.drew := (Below.refl _ _).drew
    refine (HF.out W0.drew (HB0.out.trans (hd.mono (by omega)))).mono ?_
    rintro e w' ⟨rfl, hb⟩
    have hb2 : Below W0.heap.size W0 w' := hd.trans hb
    have ht := HN.out.later hb2
    exact ⟨rfl, hb2, (hb2.cell (p := ⟨b, 16, none⟩) (by show b < _; omega)).trans d16, (hb2.cell (p := ⟨b, 17, none⟩) (by show b < _; omega)).trans d17, ht.c0, ht.c1, ht.f0, ht.f1⟩
  have n0 := HN.out.c0
  have n1 := HN.out.c1
  have g0 := HN.out.f0
  have g1 := HN.out.f1
  have hne : b ≠ g := by omega
  have hne2 : g ≠ b := by omega
  clear c5 c16 c17 HF
  (go_region_held3 (fun w' => w'.cell? ⟨b, 16, none⟩ = some (.int .i64 mi) ∧ w'.cell? ⟨b, 17, none⟩ = some (.slice a n cap)) (first | (refine ⟨?_, ?_⟩ <;> assumption) | go_keep) (first
      | (go_at_call 90; refine HFa.out.mono ?_; rintro e w2 ⟨rfl, hb2, t16, t17, m0, m1, l0, l1⟩)))
  have HB2 := Lib.hid hb2
  have HB0b := Lib.hid (show Below g w w2 from HB0.out.trans (hb2.mono (by omega)))
  clear hb2
  go_wp2_with fail
  refine bodyPost_ret (v := .tuple #[.agg #[.int .i64 K, .int .i64 N], .int .i64 S]) ?_ rfl ⟨rfl, ?_⟩
  · simp [results, Tryz.results74, go_sem, m0, m1]
  · rw [HGg.out]
    exact (HB0b.out.setCell (p := ⟨g, 0, none⟩) (Nat.le_refl _) _).setCell (p := ⟨g, 1, none⟩) (Nat.le_refl _) _

theorem frK_not4 (m : Int) (l : List (Bs × Bs)) : frK m l 1 ≠ 4 := by
  unfold frK; repeat' split
  all_goals omega
/-- a decoder is made for it -/
theorem Par.newDec {bd : Nat} {d : Dc} {w2 : World} (h : Par B b s q z lf V w) (hb : Below w.heap.size w w2) (hd : Dec B bd d (.slice none 0 0) (.slice none 0 0) (.slice none 0 0) w2) (hbd : w.heap.size ≤ bd) :
    Par B b { s with mode := 6, dc := d } q z lf { V with c := ptr bd, d := some bd, dl := .slice none 0 0, db := .slice none 0 0, dt := .slice none 0 0 } (w2.setCell ⟨b, 23, none⟩ (ptr bd)) ∧ PTn b V { V with c := ptr bd, d := some bd, dl := .slice none 0 0, db := .slice none 0 0, dt := .slice none 0 0 } X w (w2.setCell ⟨b, 23, none⟩ (ptr bd)) := by
  have h2 := h.below hb
  have hlt := h.lt
  obtain ⟨n1, n2, n3, n4, n5⟩ := h2.neB
  have hne : ∀ k, k ≠ b → (w2.setCell ⟨b, 23, none⟩ (ptr bd)).heap[k]? = w2.heap[k]? := fun k hk => Below.heap_setCell _ _ _ _ hk
  have hm : ∀ k, DecM { V with c := ptr bd, d := some bd, dl := .slice none 0 0, db := .slice none 0 0, dt := .slice none 0 0 } k → k = bd := by
    rintro k ⟨bd', e, hk⟩
    injection e with e
    subst e
    rcases hk with hk | hk | hk | hk
    · exact hk
    · cases hk
    · cases hk
    · cases hk
  refine ⟨⟨h.hB, ?_, own_heap h2.meth fun k e => hne k (fun e2 => n1 (e2 ▸ e)), own_heap h2.line fun k e => hne k (fun e2 => n2 (e2 ▸ e)), own_heap h2.flds fun k e => hne k (fun e2 => n3 (e2 ▸ e)), own_heap h2.trl fun k e => hne k (fun e2 => n4 (e2 ▸ e)), own_heap h2.body fun k e => hne k (fun e2 => n5 (e2 ▸ e)), h.lb, h.ft, fun _ => ⟨bd, rfl, rfl, hd.same fun k e => hne k (fun e2 => ?_)⟩, fun k e => ?_, fun k e ho => ?_⟩, ⟨hb.os, hb.tape, hb.output, by have := hb.size; simpa using this, fun k hk hm _ => (hne k (fun e => hm (.inl (.inl e)))).trans (hb.block k hk), fun k hk => ?_⟩⟩
  · rw [heap_setCell_same w2 b 23 _ _ _ h2.blk]; rfl
  · rcases e with e | e | e | e
    · omega
    · cases e
    · cases e
    · cases e
  · have h1 := hm k e
    have h3 := hd.lt
    have h5 := h.hB
    rw [h1]
    exact ⟨by omega, by simpa using h3⟩
  · have h3 := hm k e
    have h4 : k < w.heap.size := (h.mineLt k (.inl ho)).2
    omega
  · rcases hk with hk | hk
    · exact .inl (.inl hk)
    · have := hm k hk; exact .inr (by omega)
end Tk
end Go.Proofs.YtomhpnkpmeindaaGreatDoor
namespace Go.Proofs.YtomhpnkpmeindaaGreatDoor
open Go.RowKit
namespace Tk

variable {B b : Nat} {s : Pr} {q z lf : Nat} {V : PV} {X : Nat → Prop} {w : World}
def HePost (B b : Nat) (s : Pr) (q z lf : Nat) (V : PV) (X : Nat → Prop) (w : World) (e : Ending) (w' : World) : Prop := e = stE (headEndP s) ∧ PTo B b (headEndP s) q z lf V X w w'
def kinded (s : Pr) : Pr := { s with kind := pK s, len := pN s }
theorem he_400 (s : Pr) (hr : s.rsp = false) (h : hostFit s.msg = false) : headEndP s = s.fl 400 := by unfold headEndP; rw [hr, h]; rfl
theorem he_bad (s : Pr) (h : hostFit s.msg = true) (h1 : pS s ≠ 0) : headEndP s = s.fl (pS s) := by unfold headEndP; rw [h, if_neg (by simp), if_pos h1]
theorem he_413 (s : Pr) (h : hostFit s.msg = true) (h1 : pS s = 0) (h2 : pK s = 2) (h3 : s.M < pN s) : headEndP s = (kinded s).fl 413 := by
  unfold headEndP kinded; rw [h, if_neg (by simp), if_neg (by omega), if_pos h2, if_pos h3, h2]; rfl
theorem he_len (s : Pr) (h : hostFit s.msg = true) (h1 : pS s = 0) (h2 : pK s = 2) (h3 : ¬ s.M < pN s) : headEndP s = { kinded s with mode := 4 } := by
  unfold headEndP kinded; rw [h, if_neg (by simp), if_neg (by omega), if_pos h2, if_neg h3, h2]
theorem he_chk (s : Pr) (h : hostFit s.msg = true) (h1 : pS s = 0) (h2 : pK s = 3) : headEndP s = { kinded s with mode := 6, dc := newD s.L s.H s.C s.M } := by
  unfold headEndP kinded; rw [h, if_neg (by simp), if_neg (by omega), if_neg (by omega), if_pos h2, h2]
theorem he_none (s : Pr) (h : hostFit s.msg = true) (h1 : pS s = 0) (h2 : pK s ≠ 2) (h3 : pK s ≠ 3) (h4 : pK s ≠ 4) : headEndP s = { kinded s with mode := 7 } := by
  unfold headEndP kinded; rw [h, if_neg (by simp), if_neg (by omega), if_neg h2, if_neg h3, if_neg h4]
theorem Par.kinds (h : Par B b s q z lf V w) (hm : s.mode ≠ 6) : Par B b (kinded s) q z lf V ((w.setCell ⟨b, 20, none⟩ (.int .i64 (pK s : Nat))).setCell ⟨b, 21, none⟩ (.int .i64 (pN s : Nat))) :=
  (h.set 20 (.int .i64 (pK s : Nat)) { s with kind := pK s } q z lf rfl rfl rfl rfl rfl rfl (fun e => absurd e hm)).set 21 (.int .i64 (pN s : Nat)) (kinded s) q z lf rfl rfl rfl rfl rfl rfl (fun e => ⟨e, rfl⟩)

set_option maxHeartbeats 8000000 in
set_option maxRecDepth 100000 in
theorem headEnd_any (h : Par B b s q z lf V w) (hr : s.rsp = false) (hz : sumF s.msg.f ≤ 1000000) (hb0 : s.bad = 0) (hm : s.mode ≠ 6) :
    Calls Tryz.prog 62 #[ptr b] w (HePost B b s q z lf V X w) := by
  have hH := hostFits_any s.msg V.f V.t w (isFlds_own h.flds) hz
  have hF := fun W V (hp : Par B b s q z lf V W) => framed_any hp hr hz
  have c5 : w.cell? ⟨b, 5, none⟩ = some (.bool false) := by rw [← hr]; exact h.cell 5 _ rfl
  have c12 : w.cell? ⟨b, 12, none⟩ = some (.string (mkS s.msg.m)) := h.cell 12 _ rfl
  have c13 : w.cell? ⟨b, 13, none⟩ = some (.string (mkS s.msg.t)) := h.cell 13 _ rfl
  have c14 : w.cell? ⟨b, 14, none⟩ = some (.int .i64 s.msg.st) := h.cell 14 _ rfl
  have c15 : w.cell? ⟨b, 15, none⟩ = some (.string (mkS s.msg.r)) := h.cell 15 _ rfl
  have c16 : w.cell? ⟨b, 16, none⟩ = some (.int .i64 s.msg.mi) := h.cell 16 _ rfl
  have c17 : w.cell? ⟨b, 17, none⟩ = some V.f := h.cell 17 _ rfl
  have c18 : w.cell? ⟨b, 18, none⟩ = some (.string (mkS s.msg.body)) := h.cell 18 _ rfl
  have c19 : w.cell? ⟨b, 19, none⟩ = some V.t := h.cell 19 _ rfl
  have HP := Lib.hid h
  have HH := Lib.hid hH
  have HF := Lib.hid hF
  have hk4 : pK s ≠ 4 := by unfold pK; rw [hr]; exact frK_not4 _ _
  have h4 := he_400 s hr
  have hvf := h.vf
  have hvt : ∃ a c, V.t = .slice a s.msg.tr.length c := by obtain ⟨a, c, hv, -⟩ := isFlds_own h.trl; exact ⟨a, c, hv⟩
  obtain ⟨a1, cap1, hv1⟩ := hvf
  obtain ⟨a2, cap2, hv2⟩ := hvt
  rw [hv1] at c17 HH
  rw [hv2] at c19 HH
  clear h hH hF hr hz hv1 hv2
  unfold HePost
  cases hfit : hostFit s.msg
  · rw [hfit] at HH
    have HE := Lib.hid (h4 hfit)
    clear h4 hfit
    unfold ptr
    go_enter Tryz.func62, Tryz.ntmps62
    go_wp2_with fail
    refine HH.out.mono ?_
    rintro e w1 ⟨rfl, hb1⟩
    have HB1 := Lib.hid hb1
    clear hb1
    go_wp2_with fail
    go_ret2
    rw [HE.out]
    exact ⟨by rw [stE_fl _ _ (by omega)]; rfl, .of (HP.out.flaw _) HB1.out⟩
  · rw [hfit] at HH
    have HFit := Lib.hid hfit
    clear h4 hfit
    by_cases hS : pS s = 0
    · have e0 : ((pS s : Int) != 0) = false := by simp [hS]
      have HS := Lib.hid hS
      clear hS
      unfold ptr at HF ⊢
      have hm6 := hm
      have HM := Lib.hid hm
      clear hm hm6
      by_cases hK2 : pK s = 2
      · have e2 : ((pK s : Int) == 2) = true := by simp [hK2]
        by_cases hM : s.M < pN s
        · have HE := Lib.hid (he_413 s HFit.out HS.out hK2 hM)
          have i0 : (s.M : Int) < (pN s : Int) := by omega
          clear hK2 hM hk4 hb0
          go_enter Tryz.func62, Tryz.ntmps62
          go_wp2_with fail
          refine HH.out.mono ?_
          rintro e w1 ⟨rfl, hb1⟩
          have HB1 := Lib.hid hb1
          clear hb1
          go_wp2_with fail
          refine (HF.out _ _ (HP.out.below HB1.out)).mono ?_
          rintro e w2 ⟨rfl, hb2⟩
          have HB2 := Lib.hid ((HB1.out.trans (hb2.mono HB1.out.size)).alloc (HB1.out.trans (hb2.mono HB1.out.size)).size (.cells #[.int .i64 (pK s : Nat), .int .i64 (pN s : Nat)] 62))
          have hp := HP.out.below HB2.out
          have k20 : (w2.alloc (.cells #[.int .i64 (pK s : Nat), .int .i64 (pN s : Nat)] 62)).cell? ⟨b, 20, none⟩ = some (.int .i64 s.kind) := hp.cell 20 _ rfl
          have f20 := hp.frz 20
          have k21 : (w2.alloc (.cells #[.int .i64 (pK s : Nat), .int .i64 (pN s : Nat)] 62)).cell? ⟨b, 21, none⟩ = some (.int .i64 s.len) := hp.cell 21 _ rfl
          have f21 := hp.frz 21
          have hp3 := hp.kinds HM.out
          have HP3 := Lib.hid hp3
          have HT3 := Lib.hid (((PTn.of (b := b) (V := V) (X := X) HB2.out).trans (PTn.set 20 (.int .i64 (pK s : Nat)))).trans (PTn.set 21 (.int .i64 (pN s : Nat))))
          have hbx : b ≠ w2.heap.size := by have h1 := HP.out.lt; have h2 := (HB1.out.trans (hb2.mono HB1.out.size)).size; omega
          have k4 : (((w2.alloc (.cells #[.int .i64 (pK s : Nat), .int .i64 (pN s : Nat)] 62)).setCell ⟨b, 20, none⟩ (.int .i64 (pK s : Nat))).setCell ⟨b, 21, none⟩ (.int .i64 (pN s : Nat))).cell? ⟨b, 4, none⟩ = some (.int .i64 s.M) := hp3.cell 4 _ rfl
          have kx : (((w2.alloc (.cells #[.int .i64 (pK s : Nat), .int .i64 (pN s : Nat)] 62)).setCell ⟨b, 20, none⟩ (.int .i64 (pK s : Nat))).setCell ⟨b, 21, none⟩ (.int .i64 (pN s : Nat))).cell? ⟨w2.heap.size, 1, none⟩ = some (.int .i64 (pN s : Nat)) := by rw [World.cell?_setCell_other _ _ _ _ (by intro e; injection e with e1; exact hbx e1), World.cell?_setCell_other _ _ _ _ (by intro e; injection e with e1; exact hbx e1), Lib.cell_of_heap (heap_alloc_last w2 _)]; rfl
          clear hb2 hp hp3
          generalize pK s = K at *
          generalize pN s = N at *
          go_wp2_with fail
          go_quiet (fail)
          go_wp2_with fail
          go_ret2
          rw [HE.out]
          exact ⟨by rw [stE_fl _ _ (by omega)]; rfl, _, (HP3.out.flaw _).draws _, HT3.out.trans (PTn.draws _)⟩
        · have HE := Lib.hid (he_len s HFit.out HS.out hK2 hM)
          have i0 : ¬ (s.M : Int) < (pN s : Int) := by omega
          have HZ := Lib.hid hb0
          clear hK2 hM hk4 hb0
          go_enter Tryz.func62, Tryz.ntmps62
          go_wp2_with fail
          refine HH.out.mono ?_
          rintro e w1 ⟨rfl, hb1⟩
          have HB1 := Lib.hid hb1
          clear hb1
          go_wp2_with fail
          refine (HF.out _ _ (HP.out.below HB1.out)).mono ?_
          rintro e w2 ⟨rfl, hb2⟩
          have HB2 := Lib.hid ((HB1.out.trans (hb2.mono HB1.out.size)).alloc (HB1.out.trans (hb2.mono HB1.out.size)).size (.cells #[.int .i64 (pK s : Nat), .int .i64 (pN s : Nat)] 62))
          have hp := HP.out.below HB2.out
          have k20 : (w2.alloc (.cells #[.int .i64 (pK s : Nat), .int .i64 (pN s : Nat)] 62)).cell? ⟨b, 20, none⟩ = some (.int .i64 s.kind) := hp.cell 20 _ rfl
          have f20 := hp.frz 20
          have k21 : (w2.alloc (.cells #[.int .i64 (pK s : Nat), .int .i64 (pN s : Nat)] 62)).cell? ⟨b, 21, none⟩ = some (.int .i64 s.len) := hp.cell 21 _ rfl
          have f21 := hp.frz 21
          have hp3 := hp.kinds HM.out
          have HP3 := Lib.hid hp3
          have HT3 := Lib.hid (((PTn.of (b := b) (V := V) (X := X) HB2.out).trans (PTn.set 20 (.int .i64 (pK s : Nat)))).trans (PTn.set 21 (.int .i64 (pN s : Nat))))
          have hbx : b ≠ w2.heap.size := by have h1 := HP.out.lt; have h2 := (HB1.out.trans (hb2.mono HB1.out.size)).size; omega
          have k4 : (((w2.alloc (.cells #[.int .i64 (pK s : Nat), .int .i64 (pN s : Nat)] 62)).setCell ⟨b, 20, none⟩ (.int .i64 (pK s : Nat))).setCell ⟨b, 21, none⟩ (.int .i64 (pN s : Nat))).cell? ⟨b, 4, none⟩ = some (.int .i64 s.M) := hp3.cell 4 _ rfl
          have kx : (((w2.alloc (.cells #[.int .i64 (pK s : Nat), .int .i64 (pN s : Nat)] 62)).setCell ⟨b, 20, none⟩ (.int .i64 (pK s : Nat))).setCell ⟨b, 21, none⟩ (.int .i64 (pN s : Nat))).cell? ⟨w2.heap.size, 1, none⟩ = some (.int .i64 (pN s : Nat)) := by rw [World.cell?_setCell_other _ _ _ _ (by intro e; injection e with e1; exact hbx e1), World.cell?_setCell_other _ _ _ _ (by intro e; injection e with e1; exact hbx e1), Lib.cell_of_heap (heap_alloc_last w2 _)]; rfl
          clear hb2 hp hp3
          generalize pK s = K at *
          generalize pN s = N at *
          go_wp2_with fail
          go_quiet (fail)
          go_wp2_with fail
          go_ret2
          rw [HE.out]
          exact ⟨by unfold stE; rw [if_pos (by exact HZ.out)]; rfl, _, (HP3.out.draws _).as _ rfl rfl rfl rfl rfl rfl (fun e => by cases e), HT3.out.trans (PTn.draws _)⟩
      · have e2 : ((pK s : Int) == 2) = false := by rw [beq_eq_false_iff_ne]; omega
        by_cases hK3 : pK s = 3
        · have e3 : ((pK s : Int) == 3) = true := by simp [hK3]
          have HE := Lib.hid (he_chk s HFit.out HS.out hK3)
          have HZ := Lib.hid hb0
          clear hK2 hK3 hk4 hb0
          go_enter Tryz.func62, Tryz.ntmps62
          go_wp2_with fail
          refine HH.out.mono ?_
          rintro e w1 ⟨rfl, hb1⟩
          have HB1 := Lib.hid hb1
          clear hb1
          go_wp2_with fail
          refine (HF.out _ _ (HP.out.below HB1.out)).mono ?_
          rintro e w2 ⟨rfl, hb2⟩
          have HB2 := Lib.hid ((HB1.out.trans (hb2.mono HB1.out.size)).alloc (HB1.out.trans (hb2.mono HB1.out.size)).size (.cells #[.int .i64 (pK s : Nat), .int .i64 (pN s : Nat)] 62))
          have hp := HP.out.below HB2.out
          have k20 : (w2.alloc (.cells #[.int .i64 (pK s : Nat), .int .i64 (pN s : Nat)] 62)).cell? ⟨b, 20, none⟩ = some (.int .i64 s.kind) := hp.cell 20 _ rfl
          have f20 := hp.frz 20
          have k21 : (w2.alloc (.cells #[.int .i64 (pK s : Nat), .int .i64 (pN s : Nat)] 62)).cell? ⟨b, 21, none⟩ = some (.int .i64 s.len) := hp.cell 21 _ rfl
          have f21 := hp.frz 21
          have hp3 := hp.kinds HM.out
          have HP3 := Lib.hid hp3
          have HT3 := Lib.hid (((PTn.of (b := b) (V := V) (X := X) HB2.out).trans (PTn.set 20 (.int .i64 (pK s : Nat)))).trans (PTn.set 21 (.int .i64 (pN s : Nat))))
          have hbx : b ≠ w2.heap.size := by have h1 := HP.out.lt; have h2 := (HB1.out.trans (hb2.mono HB1.out.size)).size; omega
          have k1 : (((w2.alloc (.cells #[.int .i64 (pK s : Nat), .int .i64 (pN s : Nat)] 62)).setCell ⟨b, 20, none⟩ (.int .i64 (pK s : Nat))).setCell ⟨b, 21, none⟩ (.int .i64 (pN s : Nat))).cell? ⟨b, 1, none⟩ = some (.int .i64 s.L) := hp3.cell 1 _ rfl
          have k2 : (((w2.alloc (.cells #[.int .i64 (pK s : Nat), .int .i64 (pN s : Nat)] 62)).setCell ⟨b, 20, none⟩ (.int .i64 (pK s : Nat))).setCell ⟨b, 21, none⟩ (.int .i64 (pN s : Nat))).cell? ⟨b, 2, none⟩ = some (.int .i64 s.H) := hp3.cell 2 _ rfl
          have k3 : (((w2.alloc (.cells #[.int .i64 (pK s : Nat), .int .i64 (pN s : Nat)] 62)).setCell ⟨b, 20, none⟩ (.int .i64 (pK s : Nat))).setCell ⟨b, 21, none⟩ (.int .i64 (pN s : Nat))).cell? ⟨b, 3, none⟩ = some (.int .i64 s.C) := hp3.cell 3 _ rfl
          have k4 : (((w2.alloc (.cells #[.int .i64 (pK s : Nat), .int .i64 (pN s : Nat)] 62)).setCell ⟨b, 20, none⟩ (.int .i64 (pK s : Nat))).setCell ⟨b, 21, none⟩ (.int .i64 (pN s : Nat))).cell? ⟨b, 4, none⟩ = some (.int .i64 s.M) := hp3.cell 4 _ rfl
          clear hb2 hp hp3
          generalize pK s = K at *
          generalize pN s = N at *
          go_wp2_with fail
          refine (new_any s.L s.H s.C s.M s.L s.H s.C s.M B _ (by have := HP3.out.hB; have := HP3.out.lt; omega) (by omega) (by omega) (by omega) (by omega)).mono ?_
          rintro e w4 ⟨bd, rfl, hbd, hd, hb4⟩
          obtain ⟨hd5, ht5⟩ := HP3.out.newDec (X := X) hb4 hd hbd
          have hq := HP3.out.below hb4
          have j23 : w4.cell? ⟨b, 23, none⟩ = some V.c := hq.cell 23 _ rfl
          have g23 := hq.frz 23
          have HD5 := Lib.hid hd5
          have HT5 := Lib.hid (HT3.out.trans ht5)
          clear hd hb4 hd5 ht5 hq hbd
          unfold ptr at *
          go_wp2_with fail
          go_ret2
          rw [HE.out]
          exact ⟨by unfold stE; rw [if_pos (by exact HZ.out)]; rfl, _, HD5.out, HT5.out⟩
        · have e3 : ((pK s : Int) == 3) = false := by rw [beq_eq_false_iff_ne]; omega
          have e4 : ((pK s : Int) == 4) = false := by rw [beq_eq_false_iff_ne]; omega
          have HE := Lib.hid (he_none s HFit.out HS.out hK2 hK3 hk4)
          have HZ := Lib.hid hb0
          clear hK2 hK3 hk4 hb0
          go_enter Tryz.func62, Tryz.ntmps62
          go_wp2_with fail
          refine HH.out.mono ?_
          rintro e w1 ⟨rfl, hb1⟩
          have HB1 := Lib.hid hb1
          clear hb1
          go_wp2_with fail
          refine (HF.out _ _ (HP.out.below HB1.out)).mono ?_
          rintro e w2 ⟨rfl, hb2⟩
          have HB2 := Lib.hid ((HB1.out.trans (hb2.mono HB1.out.size)).alloc (HB1.out.trans (hb2.mono HB1.out.size)).size (.cells #[.int .i64 (pK s : Nat), .int .i64 (pN s : Nat)] 62))
          have hp := HP.out.below HB2.out
          have k20 : (w2.alloc (.cells #[.int .i64 (pK s : Nat), .int .i64 (pN s : Nat)] 62)).cell? ⟨b, 20, none⟩ = some (.int .i64 s.kind) := hp.cell 20 _ rfl
          have f20 := hp.frz 20
          have k21 : (w2.alloc (.cells #[.int .i64 (pK s : Nat), .int .i64 (pN s : Nat)] 62)).cell? ⟨b, 21, none⟩ = some (.int .i64 s.len) := hp.cell 21 _ rfl
          have f21 := hp.frz 21
          have hp3 := hp.kinds HM.out
          have HP3 := Lib.hid hp3
          have HT3 := Lib.hid (((PTn.of (b := b) (V := V) (X := X) HB2.out).trans (PTn.set 20 (.int .i64 (pK s : Nat)))).trans (PTn.set 21 (.int .i64 (pN s : Nat))))
          have hbx : b ≠ w2.heap.size := by have h1 := HP.out.lt; have h2 := (HB1.out.trans (hb2.mono HB1.out.size)).size; omega
          clear hb2 hp hp3
          generalize pK s = K at *
          generalize pN s = N at *
          go_wp2_with fail
          go_ret2
          rw [HE.out]
          exact ⟨by unfold stE; rw [if_pos (by exact HZ.out)]; rfl, _, HP3.out.as _ rfl rfl rfl rfl rfl rfl (fun e => by cases e), HT3.out⟩
    · have HE := Lib.hid (he_bad s HFit.out hS)
      have HS := Lib.hid hS
      have e0 : ((pS s : Int) != 0) = true := by simp [hS]
      clear hS
      unfold ptr at HF ⊢
      go_enter Tryz.func62, Tryz.ntmps62
      go_wp2_with fail
      refine HH.out.mono ?_
      rintro e w1 ⟨rfl, hb1⟩
      have HB1 := Lib.hid hb1
      clear hb1
      go_wp2_with fail
      refine (HF.out _ _ (HP.out.below HB1.out)).mono ?_
      rintro e w2 ⟨rfl, hb2⟩
      have HB2 := Lib.hid (HB1.out.trans (hb2.mono HB1.out.size))
      clear hb2
      go_wp2_with fail
      go_ret2
      rw [HE.out]
      exact ⟨by rw [stE_fl _ _ HS.out]; rfl, .of (HP.out.flaw _) (HB2.out.alloc HB2.out.size _)⟩
end Tk
end Go.Proofs.YtomhpnkpmeindaaGreatDoor
namespace Go.Proofs.YtomhpnkpmeindaaGreatDoor
open Go.RowKit
namespace Tk

variable {B b : Nat} {s : Pr} {q z lf : Nat} {V : PV} {w : World}
/-- one call of a state: some bytes are eaten -/
def StPost (B b : Nat) (s : Pr) (q lf : Nat) (V : PV) (g : Nat) (l : Bs) (w : World) (e : Ending) (w' : World) : Prop :=
  ∃ k s', 1 ≤ k ∧ k ≤ l.length ∧ EatsP s (l.take k) s' ∧ e = stE s' ∧ PIn B b s' q 0 lf V g (l.drop k) w w'
theorem Par.ate (h : Par B b s q z lf V w) (n : Nat) : Par B b (s.ate n) q z lf V w := h.as _ rfl rfl rfl rfl rfl rfl (fun e => ⟨e, rfl⟩)
theorem PTo.ate {X : Nat → Prop} {w' : World} (h : PTo B b s q z lf V X w w') (n : Nat) : PTo B b (s.ate n) q z lf V X w w' := by
  obtain ⟨V', h1, h2⟩ := h; exact ⟨V', h1.ate n, h2⟩
theorem stE_ate (s : Pr) (n : Nat) : stE (s.ate n) = stE s := rfl
theorem take_next {l : Bs} {i : Nat} {c : UInt8} (hc : l[i]? = some c) : l.take (i + 1) = l.take i ++ [c] := by rw [List.take_add_one, hc]; rfl
/-- the bounds that a state keeps to -/
structure Room (s : Pr) (l : Bs) : Prop where
  n : s.left + l.length ≤ 100000
  ok : s.Ok s.left
  go : stopP s = false
  rq : s.rsp = false
/-- what a state makes of what readLine leaves; f: what it does with a line; m: what it is -/
theorem rd_line {s : Pr} {l : Bs} (h : Room s l) (hm : s.mode ≤ 3) {i : Nat} (he : EatsP s (l.take i) ((s.puts (l.take i)).ate i)) {c : UInt8} (hc : l[i]? = some c) (hk : addQ (s.puts (l.take i)) c = 1) :
    EatsP s (l.take (i + 1)) ((lineP { s.puts (l.take i) with line := [], head := (s.puts (l.take i)).head + 1 } (s.puts (l.take i)).line.dropLast).ate (i + 1)) := by
  rw [take_next hc, ← stepP_1 _ c i (show (s.puts (l.take i)).mode ≤ 3 from hm) hk]
  exact he.append (EatsP.one (is_go (by show s.mode ≠ 7; omega) (not_stop h.go).2.1 (not_stop h.go).2.2))
theorem rd_long {s : Pr} {l : Bs} (h : Room s l) (hm : s.mode ≤ 3) {i : Nat} (he : EatsP s (l.take i) ((s.puts (l.take i)).ate i)) {c : UInt8} (hc : l[i]? = some c) (hk : addQ (s.puts (l.take i)) c = 2) :
    EatsP s (l.take (i + 1)) ((((s.puts (l.take i)).put c).fl 431).ate (i + 1)) := by
  rw [take_next hc, ← stepP_2 _ c i (show (s.puts (l.take i)).mode ≤ 3 from hm) hk]
  exact he.append (EatsP.one (is_go (by show s.mode ≠ 7; omega) (not_stop h.go).2.1 (not_stop h.go).2.2))
theorem rd_mal {s : Pr} {l : Bs} (h : Room s l) (hm : s.mode ≤ 3) {i : Nat} (he : EatsP s (l.take i) ((s.puts (l.take i)).ate i)) {c : UInt8} (hc : l[i]? = some c) (hk : addQ (s.puts (l.take i)) c = 3) :
    EatsP s (l.take (i + 1)) (({ (s.puts (l.take i)).put c with bad := 400 } : Pr).ate (i + 1)) := by
  rw [take_next hc, ← stepP_3 _ c i (show (s.puts (l.take i)).mode ≤ 3 from hm) hk]
  exact he.append (EatsP.one (is_go (by show s.mode ≠ 7; omega) (not_stop h.go).2.1 (not_stop h.go).2.2))
theorem getElem_lt {l : Bs} {i : Nat} {c : UInt8} (hc : l[i]? = some c) : i < l.length := (List.getElem?_eq_some_iff.1 hc).1
theorem puts_len (s : Pr) (a : Bs) : (s.puts a).line.length = s.line.length + a.length := by unfold Pr.puts; simp
theorem room_line {s : Pr} {l : Bs} (h : Room s l) : s.line.length + l.length ≤ 1048570 ∧ s.head + l.length ≤ 1048570 ∧ sumF s.msg.f ≤ 1000000 := by
  have h1 := h.ok.fit.lin
  have h2 := h.ok.fit.head
  have h3 := h.ok.fit.sum
  have h4 := h.n
  omega
theorem room_text {s : Pr} {l : Bs} (h : Room s l) (i : Nat) : (mkS (s.puts (l.take i)).line.dropLast).size ≤ 1048576 := by
  rw [size_mkS]
  have h1 := puts_len s (l.take i)
  have h2 := (room_line h).1
  simp only [List.length_dropLast, List.length_take] at *
  omega

set_option maxHeartbeats 8000000 in
set_option maxRecDepth 100000 in
theorem pbefore_any (g : Nat) (l : Bs) (h : Par B b s q 0 lf V w) (hi : Inp g l w) (hg : ¬ PMine b V g) (hm : s.mode = 0) (hr : Room s l) (hne : l ≠ []) :
    Calls Tryz.prog 38 #[ptr b, ptr g] w (StPost B b s q lf V g l w) := by
  have hb0 := (not_stop hr.go).2.1
  have hlen : 1 ≤ l.length := by cases l with
    | nil => exact absurd rfl hne
    | cons a t => simp
  have hm3 : s.mode ≤ 3 := by omega
  have hrd := readLine_any g l h hi hg hm3 hb0 (not_stop hr.go).2.2 (room_line hr).1 (room_line hr).2.1
  have HRd := Lib.hid hrd
  have HRoom := Lib.hid hr
  have HM := Lib.hid (⟨hm, hm3, hb0⟩ : _ ∧ _ ∧ _)
  have HLen := Lib.hid hlen
  have HG := Lib.hid (show g < w.heap.size ∧ ¬ PMine b V g from ⟨hi.lt, hg⟩)
  clear h hi hg hm hr hne hb0 hlen hm3 hrd
  unfold ptr at *
  go_enter Tryz.func38, Tryz.ntmps38
  go_wp2_with fail
  refine HRd.out.mono ?_
  rintro e w1 ⟨i, hi, he, hc⟩
  have HE := Lib.hid he
  rcases hc with ⟨hil, rfl, hp, hin⟩ | ⟨c, hc, ⟨hk, rfl, hp, hin⟩ | ⟨hk, rfl, hp, hin⟩ | ⟨hk, rfl, hp, hin⟩⟩
  · have HX := Lib.hid (show ∀ e, e = .returned (.tuple #[pstV 0, .nilIface]) → StPost B b s q lf V g l w e w1 from fun e' he' => by
      refine ⟨i, (s.puts (l.take i)).ate i, by have := HLen.out; omega, hi, HE.out, ?_, hp.ate _, by rw [hil, List.drop_length]; exact hin⟩
      rw [he', stE_ate]
      unfold stE
      rw [if_pos (by exact HM.out.2.2), show (s.puts (l.take i)).mode = 0 from HM.out.1])
    clear he hil hp hin hi
    go_wp2_with fail
    go_ret2
    exact HX.out _ rfl
  · have HK := Lib.hid hk
    have HC := Lib.hid hc
    have HP := Lib.hid hp
    have HIn := Lib.hid hin
    have hts := room_text HRoom.out i
    have hlt := getElem_lt hc
    have HEt := Lib.hid (rd_line HRoom.out HM.out.2.1 HE.out HC.out HK.out)
    have hf := (room_line HRoom.out).2.2
    have HLt := Lib.hid hlt
    clear hk hc hp hin he hi hlt
    have HS0 := Lib.hid (show ({ s.puts (l.take i) with line := [], head := (s.puts (l.take i)).head + 1 } : Pr).bad = 0 ∧ ({ s.puts (l.take i) with line := [], head := (s.puts (l.take i)).head + 1 } : Pr).mode = 0 ∧ ({ s.puts (l.take i) with line := [], head := (s.puts (l.take i)).head + 1 } : Pr).rsp = false ∧ sumF ({ s.puts (l.take i) with line := [], head := (s.puts (l.take i)).head + 1 } : Pr).msg.f ≤ 1000000 from ⟨HM.out.2.2, HM.out.1, HRoom.out.rq, hf⟩)
    generalize ({ s.puts (l.take i) with line := [], head := (s.puts (l.take i)).head + 1 } : Pr) = s1 at *
    generalize (s.puts (l.take i)).line.dropLast = t at *
    clear hf HK HRd
    by_cases ht0 : t = []
    · have HX := Lib.hid (show ∀ e, e = .returned (.tuple #[pstV 1, .nilIface]) → StPost B b s q lf V g l w e w1 from fun e' he' => by
        have hlp : lineP s1 t = { s1 with mode := 1 } := by unfold lineP; rw [if_pos HS0.out.2.1, if_pos ht0]
        refine ⟨i + 1, _, by omega, by have := HLt.out; omega, HEt.out, ?_, ?_, HIn.out⟩
        · rw [he', stE_ate, hlp]; unfold stE; rw [if_pos (by exact HS0.out.1)]
        · rw [hlp]
          obtain ⟨V', h1, h2⟩ := HP.out
          exact ⟨V', (h1.ate (i + 1)).as _ rfl rfl rfl rfl rfl rfl (fun e => by cases e), h2⟩)
      rw [ht0]
      have hem : ((mkS []).toList == ([] : List UInt8)) = true := by rw [toList_bs, bs_mkS]; rfl
      clear ht0 hts HEt
      unfold pstV at *
      go_wp2_with fail
      go_ret2
      exact HX.out _ rfl
    · have hem : ((mkS t).toList == ([] : List UInt8)) = false := by rw [toList_bs, bs_mkS]; cases t with
        | nil => exact absurd rfl ht0
        | cons a r => rfl
      have HLP := Lib.hid (show lineP s1 t = reqP s1 t by unfold lineP; rw [if_pos HS0.out.2.1, if_neg ht0])
      clear ht0
      have hp := HP.out
      obtain ⟨V1, hp1, ht1⟩ := hp
      have hreq := prequest_any (X := fun _ => False) (mkS t) hp1 HS0.out.1 (by omega)
      rw [bs_mkS] at hreq
      have HReq := Lib.hid hreq
      have HG1 := Lib.hid (ht1.not_mine HG.out)
      have HT1 := Lib.hid ht1
      clear hreq hp1 ht1 hts
      unfold ptr at *
      go_wp2_with fail
      refine HReq.out.mono ?_
      rintro e w2 ⟨rfl, V2, hp2, ht2⟩
      have HX := Lib.hid (show ∀ e, e = stE (reqP s1 t) → StPost B b s q lf V g l w e w2 from fun e' he' => by
        refine ⟨i + 1, _, by omega, by have := HLt.out; omega, HEt.out, ?_, ⟨V2, ?_, HT1.out.trans (ht2.mono fun _ _ e => e.elim)⟩, inp_aside HIn.out HG1.out ht2 (fun e => e)⟩
        · rw [he', stE_ate, HLP.out]
        · rw [HLP.out]; exact hp2.ate _)
      have hst : stE (reqP s1 t) = .returned (.tuple #[pstV 3, .nilIface]) ∨ ∃ n, stE (reqP s1 t) = .returned (.tuple #[.nilFunc, flV n]) := by
        by_cases h0 : rSt t = 0
        · left; unfold reqP stE; rw [if_pos h0, if_pos (by exact HS0.out.1)]
        · right; exact ⟨rSt t, by unfold reqP; rw [if_neg h0, stE_fl _ _ h0]⟩
      clear hp2 ht2
      rcases hst with hst | ⟨n, hst⟩
      all_goals
        rw [hst] at HX ⊢
        clear hst
        try unfold flV at *
        try unfold pstV at *
        go_wp2_with fail
        go_ret2
        exact HX.out _ rfl

  · have hlt := getElem_lt hc
    have HX := Lib.hid (show ∀ e, e = .returned (.tuple #[.nilFunc, flV 431]) → StPost B b s q lf V g l w e w1 from fun e' he' => by
      refine ⟨i + 1, _, by omega, by omega, rd_long HRoom.out HM.out.2.1 HE.out hc hk, ?_, ?_, hin⟩
      · rw [he', stE_ate, stE_fl _ _ (by omega)]
      · obtain ⟨V', h1, h2⟩ := hp
        exact ⟨V', (h1.flaw 431).ate _, h2⟩)
    clear he hk hp hin hi hc hlt
    unfold flV at *
    go_wp2_with fail
    go_ret2
    exact HX.out _ rfl
  · have hlt := getElem_lt hc
    have hq := HM.out.1
    refine ⟨rfl, i + 1, _, by omega, by omega, rd_mal HRoom.out HM.out.2.1 HE.out hc hk, ?_, ?_, hin⟩
    · rw [stE_ate]
      unfold stE
      rw [if_neg (by show (400 : Nat) ≠ 0; omega), if_neg (by show s.mode ≠ 7; omega)]
    · obtain ⟨V', h1, h2⟩ := hp
      exact ⟨V', h1.as _ rfl rfl rfl rfl rfl rfl (fun e => absurd (show s.mode = 6 from e) (by omega)), h2⟩

set_option maxHeartbeats 8000000 in
set_option maxRecDepth 100000 in
theorem preqline_any (g : Nat) (l : Bs) (h : Par B b s q 0 lf V w) (hi : Inp g l w) (hg : ¬ PMine b V g) (hm : s.mode = 1) (hr : Room s l) (hne : l ≠ []) :
    Calls Tryz.prog 47 #[ptr b, ptr g] w (StPost B b s q lf V g l w) := by
  have hb0 := (not_stop hr.go).2.1
  have hlen : 1 ≤ l.length := by cases l with
    | nil => exact absurd rfl hne
    | cons a t => simp
  have hm3 : s.mode ≤ 3 := by omega
  have hrd := readLine_any g l h hi hg hm3 hb0 (not_stop hr.go).2.2 (room_line hr).1 (room_line hr).2.1
  have HRd := Lib.hid hrd
  have HRoom := Lib.hid hr
  have HM := Lib.hid (⟨hm, hm3, hb0⟩ : _ ∧ _ ∧ _)
  have HLen := Lib.hid hlen
  have HG := Lib.hid (show g < w.heap.size ∧ ¬ PMine b V g from ⟨hi.lt, hg⟩)
  clear h hi hg hm hr hne hb0 hlen hm3 hrd
  unfold ptr at *
  go_enter Tryz.func47, Tryz.ntmps47
  go_wp2_with fail
  refine HRd.out.mono ?_
  rintro e w1 ⟨i, hi, he, hc⟩
  have HE := Lib.hid he
  rcases hc with ⟨hil, rfl, hp, hin⟩ | ⟨c, hc, ⟨hk, rfl, hp, hin⟩ | ⟨hk, rfl, hp, hin⟩ | ⟨hk, rfl, hp, hin⟩⟩
  · have HX := Lib.hid (show ∀ e, e = .returned (.tuple #[pstV 1, .nilIface]) → StPost B b s q lf V g l w e w1 from fun e' he' => by
      refine ⟨i, (s.puts (l.take i)).ate i, by have := HLen.out; omega, hi, HE.out, ?_, hp.ate _, by rw [hil, List.drop_length]; exact hin⟩
      rw [he', stE_ate]
      unfold stE
      rw [if_pos (by exact HM.out.2.2), show (s.puts (l.take i)).mode = 1 from HM.out.1])
    clear he hil hp hin hi
    go_wp2_with fail
    go_ret2
    exact HX.out _ rfl
  · have HK := Lib.hid hk
    have HC := Lib.hid hc
    have HP := Lib.hid hp
    have HIn := Lib.hid hin
    have hts := room_text HRoom.out i
    have hlt := getElem_lt hc
    have HEt := Lib.hid (rd_line HRoom.out HM.out.2.1 HE.out HC.out HK.out)
    have hf := (room_line HRoom.out).2.2
    have HLt := Lib.hid hlt
    clear hk hc hp hin he hi hlt
    have HS0 := Lib.hid (show ({ s.puts (l.take i) with line := [], head := (s.puts (l.take i)).head + 1 } : Pr).bad = 0 ∧ ({ s.puts (l.take i) with line := [], head := (s.puts (l.take i)).head + 1 } : Pr).mode = 1 ∧ ({ s.puts (l.take i) with line := [], head := (s.puts (l.take i)).head + 1 } : Pr).rsp = false ∧ sumF ({ s.puts (l.take i) with line := [], head := (s.puts (l.take i)).head + 1 } : Pr).msg.f ≤ 1000000 from ⟨HM.out.2.2, HM.out.1, HRoom.out.rq, hf⟩)
    generalize ({ s.puts (l.take i) with line := [], head := (s.puts (l.take i)).head + 1 } : Pr) = s1 at *
    generalize (s.puts (l.take i)).line.dropLast = t at *
    clear hf HK HRd
    have HLP := Lib.hid (show lineP s1 t = reqP s1 t by unfold lineP; rw [if_neg (by rw [HS0.out.2.1]; omega), if_pos HS0.out.2.1])
    have hp := HP.out
    obtain ⟨V1, hp1, ht1⟩ := hp
    have hreq := prequest_any (X := fun _ => False) (mkS t) hp1 HS0.out.1 (by omega)
    rw [bs_mkS] at hreq
    have HReq := Lib.hid hreq
    have HG1 := Lib.hid (ht1.not_mine HG.out)
    have HT1 := Lib.hid ht1
    clear hreq hp1 ht1 hts
    unfold ptr at *
    go_wp2_with fail
    refine HReq.out.mono ?_
    rintro e w2 ⟨rfl, V2, hp2, ht2⟩
    have HX := Lib.hid (show ∀ e, e = stE (reqP s1 t) → StPost B b s q lf V g l w e w2 from fun e' he' => by
      refine ⟨i + 1, _, by omega, by have := HLt.out; omega, HEt.out, ?_, ⟨V2, ?_, HT1.out.trans (ht2.mono fun _ _ e => e.elim)⟩, inp_aside HIn.out HG1.out ht2 (fun e => e)⟩
      · rw [he', stE_ate, HLP.out]
      · rw [HLP.out]; exact hp2.ate _)
    have hst : stE (reqP s1 t) = .returned (.tuple #[pstV 3, .nilIface]) ∨ ∃ n, stE (reqP s1 t) = .returned (.tuple #[.nilFunc, flV n]) := by
      by_cases h0 : rSt t = 0
      · left; unfold reqP stE; rw [if_pos h0, if_pos (by exact HS0.out.1)]
      · right; exact ⟨rSt t, by unfold reqP; rw [if_neg h0, stE_fl _ _ h0]⟩
    clear hp2 ht2
    rcases hst with hst | ⟨n, hst⟩
    all_goals
      rw [hst] at HX ⊢
      clear hst
      try unfold flV at *
      try unfold pstV at *
      go_wp2_with fail
      go_ret2
      exact HX.out _ rfl

  · have hlt := getElem_lt hc
    have HX := Lib.hid (show ∀ e, e = .returned (.tuple #[.nilFunc, flV 431]) → StPost B b s q lf V g l w e w1 from fun e' he' => by
      refine ⟨i + 1, _, by omega, by omega, rd_long HRoom.out HM.out.2.1 HE.out hc hk, ?_, ?_, hin⟩
      · rw [he', stE_ate, stE_fl _ _ (by omega)]
      · obtain ⟨V', h1, h2⟩ := hp
        exact ⟨V', (h1.flaw 431).ate _, h2⟩)
    clear he hk hp hin hi hc hlt
    unfold flV at *
    go_wp2_with fail
    go_ret2
    exact HX.out _ rfl
  · have hlt := getElem_lt hc
    have hq := HM.out.1
    refine ⟨rfl, i + 1, _, by omega, by omega, rd_mal HRoom.out HM.out.2.1 HE.out hc hk, ?_, ?_, hin⟩
    · rw [stE_ate]
      unfold stE
      rw [if_neg (by show (400 : Nat) ≠ 0; omega), if_neg (by show s.mode ≠ 7; omega)]
    · obtain ⟨V', h1, h2⟩ := hp
      exact ⟨V', h1.as _ rfl rfl rfl rfl rfl rfl (fun e => absurd (show s.mode = 6 from e) (by omega)), h2⟩
end Tk
end Go.Proofs.YtomhpnkpmeindaaGreatDoor
namespace Go.Proofs.YtomhpnkpmeindaaGreatDoor
open Go.RowKit
namespace Tk

variable {B b : Nat} {s : Pr} {q z lf : Nat} {V : PV} {w : World}
theorem stE_ret (s : Pr) (h : s.bad = 0 ∨ s.mode = 7) : ∃ X Y, stE s = .returned (.tuple #[X, Y]) := by
  unfold stE
  by_cases hb : s.bad = 0
  · rw [if_pos hb]; exact ⟨_, _, rfl⟩
  · rw [if_neg hb, if_pos (h.resolve_left hb)]; exact ⟨_, _, rfl⟩
theorem headEnd_end (s : Pr) (h : s.bad = 0) : (headEndP s).bad = 0 ∨ (headEndP s).mode = 7 := by
  unfold headEndP Pr.fl
  repeat' split
  all_goals first | exact .inr rfl | exact .inl h
theorem Par.grewFld {X : Nat → Prop} {w2 : World} {v' : Value} (h : Par B b s q z lf V w) (p : Bs × Bs) (n : Nat) (hn : n = s.msg.f.length) (a : Option Addr) (cap0 : Nat) (hv : V.f = .slice a n cap0) (ho : w2.ownsRow B 82 2 v' (n + 1) (fcells s.msg.f ++ [.string (mkS p.1), .string (mkS p.2)])) (hg : w.grownBy w2 (Value.slice a n cap0).ownBlock) (hst : Stay w (.slice a n cap0) v') :
    ∃ g cap, v' = .slice (some ⟨g, 0, none⟩) (n + 1) cap ∧ w2.cell? ⟨b, 17, none⟩ = some (.slice a n cap0) ∧ w2.frozen? ⟨b, 17, none⟩ = false ∧ Par B b { s with msg := { s.msg with f := s.msg.f ++ [p] } } q z lf { V with f := v' } (w2.setCell ⟨b, 17, none⟩ v') ∧ PTn b V { V with f := v' } X w (w2.setCell ⟨b, 17, none⟩ v') := by
  obtain ⟨g, cap, hv'⟩ : ∃ g cap, v' = .slice (some ⟨g, 0, none⟩) (n + 1) cap := by
    rcases ho.2 with ⟨_, h0⟩ | ⟨g, cap, cur, hv, _⟩
    · omega
    · exact ⟨g, cap, hv⟩
  have hk2 := (hg.block b h.lt (fun e => h.neB.2.2.1 (by rw [hv]; exact e.symm))).trans h.blk
  obtain ⟨hd, ht⟩ := h.putFld (X := X) p (hn ▸ ho) (by rw [hv]; exact hg) (by rw [hv]; exact hst)
  exact ⟨g, cap, hv', by rw [Lib.cell_of_heap hk2, ← hv]; rfl, Lib.frozen_of_heap hk2 17, hd, ht⟩

set_option maxHeartbeats 8000000 in
set_option maxRecDepth 100000 in
theorem pfield_any (g : Nat) (l : Bs) (h : Par B b s q 0 lf V w) (hi : Inp g l w) (hg : ¬ PMine b V g) (hm : s.mode = 3) (hr : Room s l) (hne : l ≠ []) :
    Calls Tryz.prog 50 #[ptr b, ptr g] w (StPost B b s q lf V g l w) := by
  have hb0 := (not_stop hr.go).2.1
  have hlen : 1 ≤ l.length := by cases l with
    | nil => exact absurd rfl hne
    | cons a t => simp
  have hm3 : s.mode ≤ 3 := by omega
  have hrd := readLine_any g l h hi hg hm3 hb0 (not_stop hr.go).2.2 (room_line hr).1 (room_line hr).2.1
  have HRd := Lib.hid hrd
  have HRoom := Lib.hid hr
  have HM := Lib.hid (⟨hm, hm3, hb0⟩ : _ ∧ _ ∧ _)
  have HLen := Lib.hid hlen
  have HG := Lib.hid (show g < w.heap.size ∧ ¬ PMine b V g from ⟨hi.lt, hg⟩)
  clear h hi hg hm hr hne hb0 hlen hm3 hrd
  unfold ptr at *
  go_enter Tryz.func50, Tryz.ntmps50
  go_wp2_with fail
  refine HRd.out.mono ?_
  rintro e w1 ⟨i, hi, he, hc⟩
  have HE := Lib.hid he
  rcases hc with ⟨hil, rfl, hp, hin⟩ | ⟨c, hc, ⟨hk, rfl, hp, hin⟩ | ⟨hk, rfl, hp, hin⟩ | ⟨hk, rfl, hp, hin⟩⟩
  · have HX := Lib.hid (show ∀ e, e = .returned (.tuple #[pstV 3, .nilIface]) → StPost B b s q lf V g l w e w1 from fun e' he' => by
      refine ⟨i, (s.puts (l.take i)).ate i, by have := HLen.out; omega, hi, HE.out, ?_, hp.ate _, by rw [hil, List.drop_length]; exact hin⟩
      rw [he', stE_ate]
      unfold stE
      rw [if_pos (by exact HM.out.2.2), show (s.puts (l.take i)).mode = 3 from HM.out.1])
    clear he hil hp hin hi
    go_wp2_with fail
    go_ret2
    exact HX.out _ rfl
  · have HK := Lib.hid hk
    have HC := Lib.hid hc
    have HP := Lib.hid hp
    have HIn := Lib.hid hin
    have hts := room_text HRoom.out i
    have hlt := getElem_lt hc
    have HEt := Lib.hid (rd_line HRoom.out HM.out.2.1 HE.out HC.out HK.out)
    have hf := (room_line HRoom.out).2.2
    have HLt := Lib.hid hlt
    clear hk hc hp hin he hi hlt
    have HS0 := Lib.hid (show ({ s.puts (l.take i) with line := [], head := (s.puts (l.take i)).head + 1 } : Pr).bad = 0 ∧ ({ s.puts (l.take i) with line := [], head := (s.puts (l.take i)).head + 1 } : Pr).mode = 3 ∧ ({ s.puts (l.take i) with line := [], head := (s.puts (l.take i)).head + 1 } : Pr).rsp = false ∧ sumF ({ s.puts (l.take i) with line := [], head := (s.puts (l.take i)).head + 1 } : Pr).msg.f ≤ 1000000 from ⟨HM.out.2.2, HM.out.1, HRoom.out.rq, hf⟩)
    generalize ({ s.puts (l.take i) with line := [], head := (s.puts (l.take i)).head + 1 } : Pr) = s1 at *
    generalize (s.puts (l.take i)).line.dropLast = t at *
    clear hf HK HRd
    have hlp3 : lineP s1 t = if t = [] then headEndP s1 else fldP s1 t := by unfold lineP; rw [if_neg (by rw [HS0.out.2.1]; omega), if_neg (by rw [HS0.out.2.1]; omega), if_neg (by rw [HS0.out.2.1]; omega)]
    obtain ⟨V1, hp1, ht1⟩ := HP.out
    have HP1 := Lib.hid hp1
    have HT1 := Lib.hid ht1
    have HG1 := Lib.hid (ht1.not_mine HG.out)
    clear hp1 ht1
    by_cases ht0 : t = []
    · rw [if_pos ht0] at hlp3
      have HLP := Lib.hid hlp3
      have hhe := headEnd_any (X := fun _ => False) HP1.out HS0.out.2.2.1 HS0.out.2.2.2 HS0.out.1 (by rw [HS0.out.2.1]; omega)
      unfold HePost at hhe
      obtain ⟨XX, YY, hst⟩ := stE_ret (headEndP s1) (headEnd_end s1 HS0.out.1)
      have HST := Lib.hid hst
      rw [hst] at hhe
      have HHe := Lib.hid hhe
      rw [ht0]
      have hem : ((mkS []).toList == ([] : List UInt8)) = true := by rw [toList_bs, bs_mkS]; rfl
      clear ht0 hts hlp3 hhe hst
      unfold ptr at *
      go_wp2_with fail
      refine HHe.out.mono ?_
      rintro e w2 ⟨rfl, V2, hp2, ht2⟩
      have HX := Lib.hid (show ∀ e, e = .returned (.tuple #[XX, YY]) → StPost B b s q lf V g l w e w2 from fun e' he' => by
        refine ⟨i + 1, _, by omega, by have := HLt.out; omega, HEt.out, ?_, ⟨V2, ?_, HT1.out.trans (ht2.mono fun _ _ e => e.elim)⟩, inp_aside HIn.out HG1.out ht2 (fun e => e)⟩
        · rw [he', stE_ate, HLP.out, HST.out]
        · rw [HLP.out]; exact hp2.ate _)
      clear hp2 ht2
      go_wp2_with fail
      go_ret2
      exact HX.out _ rfl
    · rw [if_neg ht0] at hlp3
      have HLP := Lib.hid hlp3
      have hem : ((mkS t).toList == ([] : List UInt8)) = false := by rw [toList_bs, bs_mkS]; cases t with
        | nil => exact absurd rfl ht0
        | cons a r => rfl
      have HLn := Lib.hid (fun W : World => line_any (mkS t) W (by omega))
      rw [bs_mkS] at HLn
      unfold LinePost at HLn
      clear ht0 hts hlp3
      cases hlo : lineOk t
      · have HF0 := Lib.hid (show fldP s1 t = s1.fl 400 by unfold fldP; rw [hlo]; rfl)
        obtain ⟨n1, n2, n3⟩ := ln_no t hlo
        rw [n3] at HLn
        generalize lnN t = A at *
        generalize lnV t = Y at *
        clear hlo n1 n2 n3
        go_wp2_with fail
        refine (HLn.out _).mono ?_
        rintro e w2 ⟨rfl, hb⟩
        have hbf := (hb.trans ((Below.refl w1.heap.size w2).alloc hb.size (.cells #[.string (mkS A), .string (mkS Y)] 82)))
        have HX := Lib.hid (show ∀ e, e = .returned (.tuple #[.nilFunc, flV 400]) → StPost B b s q lf V g l w e (w2.alloc (.cells #[.string (mkS A), .string (mkS Y)] 82)) from fun e' he' => by
          refine ⟨i + 1, _, by omega, by have := HLt.out; omega, HEt.out, ?_, ⟨V1, ?_, HT1.out.trans (PTn.of hbf)⟩, ?_⟩
          · rw [he', stE_ate, HLP.out, HF0.out, stE_fl _ _ (by omega)]
          · rw [HLP.out, HF0.out]; exact ((HP1.out.below hbf).flaw 400).ate _
          · exact inp_aside HIn.out HG1.out (PTn.of (b := b) (V := V1) (X := fun _ => False) hbf) (fun e => e))
        clear hb hbf
        unfold flV at *
        go_wp2_with fail
        go_ret2
        exact HX.out _ rfl
      · obtain ⟨n1, n2, n3⟩ := ln_ok t hlo
        have hf0 : fldP s1 t = if s1.C ≤ s1.msg.f.length then s1.fl 431 else { s1 with msg := { s1.msg with f := s1.msg.f ++ [(lnN t, lnV t)] } } := by unfold fldP; rw [hlo, if_pos rfl, n1, n2]
        rw [n3] at HLn
        generalize lnN t = A at *
        generalize lnV t = Y at *
        obtain ⟨NT, hNT⟩ : ∃ N, N = s1.msg.f.length := ⟨_, rfl⟩
        have hsg := sumF_ge s1.msg.f
        have htl : NT ≤ 1048576 := by have := HS0.out.2.2.2; omega
        have HNT := Lib.hid hNT
        rw [← hNT] at hf0
        obtain ⟨a, cap, hva⟩ := HP1.out.vf
        rw [← hNT] at hva
        have HVa := Lib.hid hva
        obtain ⟨i0, hi, hz0, hz1, hz2⟩ := info_parts fldInfo
        clear hlo n1 n2 n3 hsg hNT hva
        go_wp2_with fail
        refine (HLn.out _).mono ?_
        rintro e w2 ⟨rfl, hb⟩
        have hbf : Below w1.heap.size w1 (w2.alloc (.cells #[.string (mkS A), .string (mkS Y)] 82)) := (hb.trans ((Below.refl w1.heap.size w2).alloc hb.size (.cells #[.string (mkS A), .string (mkS Y)] 82)))
        have HP5 := Lib.hid (HP1.out.below hbf)
        have HT5 := Lib.hid (HT1.out.trans (PTn.of (b := b) (V := V1) hbf))
        have HI5 := Lib.hid (inp_aside HIn.out HG1.out (PTn.of (b := b) (V := V1) (X := fun _ => False) hbf) (fun e => e))
        have HFw := Lib.hid (Two.new w2 82 (.string (mkS A)) (.string (mkS Y)))
        have HG5 := Lib.hid (HT5.out.not_mine HG.out)
        clear hb hbf HP HIn HLn
        by_cases hcn : s1.C ≤ NT
        · rw [if_pos hcn] at hf0
          have HF0 := Lib.hid hf0
          have icn : (s1.C : Int) ≤ (NT : Int) := by omega
          clear hf0 hcn
          go_wp2_with fail
          generalize w2.alloc (.cells #[.string (mkS A), .string (mkS Y)] 82) = w5 at *
          generalize w2.heap.size = g4 at *
          have k17 : w5.cell? ⟨b, 17, none⟩ = some (.slice a NT cap) := by rw [← HVa.out]; exact HP5.out.cell 17 _ rfl
          have k3 : w5.cell? ⟨b, 3, none⟩ = some (.int .i64 s1.C) := HP5.out.cell 3 _ rfl
          go_quiet (fail)
          have HX := Lib.hid (show ∀ e, e = .returned (.tuple #[.nilFunc, flV 431]) → StPost B b s q lf V g l w e (w5.drewN nq) from fun e' he' => by
            refine ⟨i + 1, _, by omega, by have := HLt.out; omega, HEt.out, ?_, ⟨V1, ?_, HT5.out.trans (PTn.draws nq)⟩, HI5.out⟩
            · rw [he', stE_ate, HLP.out, HF0.out, stE_fl _ _ (by omega)]
            · rw [HLP.out, HF0.out]; exact ((HP5.out.draws nq).flaw 431).ate _)
          unfold flV at *
          go_wp2_with fail
          go_ret2
          exact HX.out _ rfl
        · rw [if_neg hcn] at hf0
          have HF0 := Lib.hid hf0
          have icn : ¬ (s1.C : Int) ≤ (NT : Int) := by omega
          clear hf0 hcn
          go_wp2_with fail
          generalize w2.alloc (.cells #[.string (mkS A), .string (mkS Y)] 82) = w5 at *
          generalize w2.heap.size = g4 at *
          have k17 : w5.cell? ⟨b, 17, none⟩ = some (.slice a NT cap) := by rw [← HVa.out]; exact HP5.out.cell 17 _ rfl
          have k3 : w5.cell? ⟨b, 3, none⟩ = some (.int .i64 s1.C) := HP5.out.cell 3 _ rfl
          go_quiet (fail)
          have HD6 := Lib.hid (HP5.out.draws nq)
          have HT6 := Lib.hid (HT5.out.trans (PTn.draws nq))
          have HI6 := Lib.hid (show Inp g (l.drop (i + 1)) (w5.drewN nq) from HI5.out)
          have k17 : (w5.drewN nq).cell? ⟨b, 17, none⟩ = some (.slice a NT cap) := by rw [← HVa.out]; exact HD6.out.cell 17 _ rfl
          have hF6 := HFw.out.draws nq
          have q0 := hF6.c0
          have q1 := hF6.c1
          have HF6 := Lib.hid hF6
          clear hF6 HP5 HT5 HI5 HFw
          generalize w5.drewN nq = w6 at *
          go_wp2_with fail
          have HD7 := Lib.hid (show Par B b _ _ _ _ _ w6.drew from HD6.out.draws 1)
          have HT7 := Lib.hid (HT6.out.trans (show PTn b V1 V1 _ w6 w6.drew from PTn.draws 1))
          have HI7 := Lib.hid (show Inp g (l.drop (i + 1)) w6.drew from HI6.out)
          have k17 : w6.drew.cell? ⟨b, 17, none⟩ = some (.slice a NT cap) := by rw [← HVa.out]; exact HD7.out.cell 17 _ rfl
          obtain ⟨w7, hw7⟩ : ∃ W, W = w6.drew := ⟨_, rfl⟩
          rw [← hw7] at HD7 HT7 HI7 k17
          have hF7 := HF6.out.draws 1
          rw [show w6.drewN 1 = w7 from hw7.symm] at hF7
          have hw0 : Below w7.heap.size w7 (w7.alloc (.cells #[.string (mkS A), .string (mkS Y)] 82)) := (Below.refl _ _).alloc (Nat.le_refl _) _
          have HD8 := Lib.hid (HD7.out.below hw0)
          have HT8 := Lib.hid (HT7.out.trans (PTn.of (b := b) (V := V1) hw0))
          have HI8 := Lib.hid (inp_aside HI7.out (HT7.out.not_mine HG.out) (PTn.of (b := b) (V := V1) (X := fun _ => False) hw0) (fun e => e))
          have hBs : B ≤ (w7.alloc (.cells #[.string (mkS A), .string (mkS Y)] 82)).heap.size := by have := HD8.out.hB; have := HD8.out.lt; omega
          have hN7 := Two.new w7 82 (.string (mkS A)) (.string (mkS Y))
          have HO := Lib.hid (show (w7.alloc (.cells #[.string (mkS A), .string (mkS Y)] 82)).ownsRow B 82 2 (.slice a NT cap) NT (fcells s1.msg.f) by have := HD8.out.flds; rw [HVa.out, ← show NT = s1.msg.f.length from HNT.out] at this; exact this)
          have hF8 := hF7.later hw0
          have p0 := hF7.c0
          have p1 := hF7.c1
          have r0 := hF8.c0
          have r1 := hF8.c1
          have k12 : (w7.alloc (.cells #[.string (mkS A), .string (mkS Y)] 82)).cell? ⟨b, 17, none⟩ = some (.slice a NT cap) := by rw [← HVa.out]; exact HD8.out.cell 17 _ rfl
          have hc1 : ∀ j u, [Value.string (mkS A), Value.string (mkS Y)][j]? = some u → (w7.alloc (.cells #[.string (mkS A), .string (mkS Y)] 82)).cell? ((⟨w7.heap.size, 0, none⟩ : Addr).add j) = some u := by
            intro j u hj
            match j, hj with
            | 0, hj => simp at hj; subst hj; exact hN7.c0
            | 1, hj => simp at hj; subst hj; exact hN7.c1
          have hc2 : ∀ u ∈ [Value.string (mkS A), Value.string (mkS Y)], u.oneCell' = true := by intro u hu; simp at hu; rcases hu with rfl | rfl <;> rfl
          have hc3 : NT + 1 ≤ maxLen := by unfold maxLen; omega
          have hc4 : (NT + 1) * 32 ≤ 140737488355328 := by omega
          have HC1 := Lib.hid hc1
          have HC2 := Lib.hid hc2
          have HC3 := Lib.hid hc3
          have HC4 := Lib.hid hc4
          have HBS := Lib.hid hBs
          clear hw0 hF7 hF8 hc1 hc2 hc3 hc4 hBs htl
          subst hw7
          have k13 : (w6.alloc (.cells #[.string (mkS A), .string (mkS Y)] 82)).drew.cell? ⟨b, 17, none⟩ = some (.slice a NT cap) := k12
          go_region_law (first | (refine step_stay (by rfl) _ _ 35 (by rfl) B 82 i0 (.agg #[.string .empty, .string .empty]) 2 32 Tryz.underlying35 hi hz0 hz1 hz2 (by rfl) (by decide) _ _ _ (by rfl) HO.out ⟨w6.drew.heap.size, 0, none⟩ 1 1 [.string (mkS A), .string (mkS Y)] (by rfl) (by rfl) HC1.out HC2.out HC3.out HC4.out HBS.out ?_; intro v' w8 ho hg hst; obtain ⟨g2, cap2, rfl, j17, f17, hd, ht⟩ := HD8.out.grewFld (X := fun _ => False) (A, Y) NT HNT.out a cap HVa.out ho hg hst; have HR := Lib.hid (show PIn B b { s1 with msg := { s1.msg with f := s1.msg.f ++ [(A, Y)] } } q 0 lf V g (l.drop (i + 1)) w _ from ⟨⟨_, hd, HT8.out.trans (ht.mono fun _ _ e => e.elim)⟩, inp_aside HI8.out (HT8.out.not_mine HG.out) ht (fun e => e)⟩); clear hd ht ho hg hst))
          all_goals
            have HX := Lib.hid (show ∀ e, e = .returned (.tuple #[pstV 3, .nilIface]) → StPost B b s q lf V g l w e _ from fun e' he' => by
              refine ⟨i + 1, _, by omega, by have := HLt.out; omega, HEt.out, ?_, ?_⟩
              · rw [he', stE_ate, HLP.out, HF0.out]; unfold stE; rw [if_pos (by exact HS0.out.1), show ({ s1 with msg := { s1.msg with f := s1.msg.f ++ [(A, Y)] } } : Pr).mode = 3 from HS0.out.2.1]
              · rw [HLP.out, HF0.out]; exact ⟨HR.out.1.ate _, HR.out.2⟩)
            unfold pstV at *
            go_wp2_with fail
            go_ret2
            exact HX.out _ rfl
  · have hlt := getElem_lt hc
    have HX := Lib.hid (show ∀ e, e = .returned (.tuple #[.nilFunc, flV 431]) → StPost B b s q lf V g l w e w1 from fun e' he' => by
      refine ⟨i + 1, _, by omega, by omega, rd_long HRoom.out HM.out.2.1 HE.out hc hk, ?_, ?_, hin⟩
      · rw [he', stE_ate, stE_fl _ _ (by omega)]
      · obtain ⟨V', h1, h2⟩ := hp
        exact ⟨V', (h1.flaw 431).ate _, h2⟩)
    clear he hk hp hin hi hc hlt
    unfold flV at *
    go_wp2_with fail
    go_ret2
    exact HX.out _ rfl
  · have hlt := getElem_lt hc
    have hq := HM.out.1
    refine ⟨rfl, i + 1, _, by omega, by omega, rd_mal HRoom.out HM.out.2.1 HE.out hc hk, ?_, ?_, hin⟩
    · rw [stE_ate]
      unfold stE
      rw [if_neg (by show (400 : Nat) ≠ 0; omega), if_neg (by show s.mode ≠ 7; omega)]
    · obtain ⟨V', h1, h2⟩ := hp
      exact ⟨V', h1.as _ rfl rfl rfl rfl rfl rfl (fun e => absurd (show s.mode = 6 from e) (by omega)), h2⟩

end Tk
end Go.Proofs.YtomhpnkpmeindaaGreatDoor
namespace Go.Proofs.YtomhpnkpmeindaaGreatDoor
open Go.RowKit
namespace Tk

theorem run_append_stay_string {P : Program} (w : World) (base : Nat) (t u ty e : TypeId) (i : TypeInfo) (ht : P.underlying t = some (.slice e)) (hu : P.underlying u = some .string) (hi : P.info? e = some i) (hz : i.zero = some (.int .u8 0))
    (hsize : i.size = 1) (hby : i.bytes = 1) (v : Value) (n : Nat) (xs : List Value) (hown : w.ownsRow base e 1 v n xs) (s : ByteArray)
    (h63 : n + s.size ≤ maxLen) (hbytes : n + s.size ≤ 140737488355328) (hbase : base ≤ w.heap.size) :
    ∃ v' w', (Builtin.append_ #[t, u] ty #[v, .string s]).run P w = .ok v' w' ∧ w'.ownsRow base e 1 v' (n + s.size) (xs ++ Lib.strCells s) ∧ w.grownBy w' v.ownBlock ∧ Stay w v v' := by
  obtain ⟨v', w', hr, h2, h3, h4⟩ := Lib.run_append_own_string (P := P) w base t u ty e i ht hu hi hz hsize hby v n xs hown s h63 hbytes hbase
  refine ⟨v', w', hr, h2, h3, ?_⟩
  have hxl : xs.length = n := by simpa using hown.1
  have hsmall : n + s.size ≤ 9223372036854775807 := by simp only [maxLen] at h63; omega
  rcases hown.2 with ⟨rfl, rfl⟩ | ⟨g, cap, cur, rfl, hbg, hg, hnc, hcm, hcs, htake⟩
  · by_cases hm : s.size = 0
    · rw [h4.2 ⟨rfl, hm⟩]; intro k hk; cases hk
    · have hr2 := run_append_nil_string (P := P) w t u ty e i (.int .u8 0) ht hu hi hz s (by omega) (by omega) (by rw [hby]; omega)
      have hq := hr.symm.trans hr2
      injection hq with e1 e2
      subst e1
      intro k hk
      simp only [Value.ownBlock, Option.some.injEq] at hk
      exact .inr (by omega)
  · by_cases hroom : n + s.size ≤ cap
    · have hcs' : cur.size = cap := by simpa using hcs
      have hr2 := Lib.run_append_room_string (P := P) w t u ty e i ht hu hi hsize g n cap cur hg s hroom (by omega)
      have hq := hr.symm.trans hr2
      injection hq with e1 e2
      subst e1
      exact fun k hk => .inl hk
    · have holds : ∀ j u, xs[j]? = some u → w.cell? ((⟨g, 0, none⟩ : Addr).add j) = some u := hown.cells (g := g) rfl
      have hr2 := Lib.run_append_grow_string (P := P) w t u ty e i (.int .u8 0) ht hu hi hz ⟨g, 0, none⟩ n cap xs (by rw [hsize]; simpa using hxl) holds s (by omega) (by omega) (by rw [hby]; exact growslice_fits (by omega) (by omega))
      have hq := hr.symm.trans hr2
      injection hq with e1 e2
      subst e1
      intro k hk
      simp only [Value.ownBlock, Option.some.injEq] at hk
      exact .inr (by omega)
theorem step_stay_string {P : Program} {w : World} {ops : Array Oper} {o : Oper} {a : Act} {K : Act → World → Prop} {Q : Exit → Act → World → Prop} {E : Prop} (hgd : o.guard = none) (sl x : Operand) (t u : TypeId)
    (ho : o.op = .call { callee := .builtin .append, args := #[sl, x], argTypes := #[t, u] })
    (base : Nat) (e : TypeId) (i : TypeInfo) (ht : P.underlying t = some (.slice e)) (hu : P.underlying u = some .string) (hi : P.info? e = some i) (hz : i.zero = some (.int .u8 0))
    (hsize : i.size = 1) (hby : i.bytes = 1) (v : Value) (n : Nat) (xs : List Value) (hs : a.eval sl = v) (hown : w.ownsRow base e 1 v n xs) (s : ByteArray) (hx : a.eval x = .string s)
    (h63 : n + s.size ≤ maxLen) (hbytes : n + s.size ≤ 140737488355328) (hbase : base ≤ w.heap.size)
    (h : ∀ v' w', w'.ownsRow base e 1 v' (n + s.size) (xs ++ Lib.strCells s) → w.grownBy w' v.ownBlock → Stay w v v' → K (a.put o.dst v') w') :
    if Region.wanted o (yielded ops a.tmps) = true then Oper.wp P o a w K Q else E := by
  have hw : Region.wanted o (yielded ops a.tmps) = true := by simp [Region.wanted, hgd]
  rw [if_pos hw]
  obtain ⟨v', w', hr, h2, h3, h4⟩ := run_append_stay_string (P := P) w base t u o.type e i ht hu hi hz hsize hby v n xs hown s h63 hbytes hbase
  unfold Oper.wp execOp
  simp only [ho, resolve, invoke, builtin, Sem.run_bind, Sem.run_pure, Result.andThen_ok, List.map_toArray, List.map_cons, List.map_nil, hs, hx, hr]
  exact h v' w' h2 h3 h4

variable {B b : Nat} {s : Pr} {q z lf : Nat} {V : PV} {w : World}
theorem Par.grewBody {X : Nat → Prop} {w2 : World} {v' : Value} (h : Par B b s q z lf V w) (t : Bs) (k : Nat) (hk : k = t.length) (n : Nat) (hn : n = s.body.length) (a : Option Addr) (cap0 : Nat) (hv : V.y = .slice a n cap0) (ho : w2.ownsRow B 5 1 v' (n + k) (Lib.byteCells s.body ++ Lib.byteCells t)) (hg : w.grownBy w2 (Value.slice a n cap0).ownBlock) (hst : Stay w (.slice a n cap0) v') :
    ∃ a2 cap, v' = .slice a2 (n + k) cap ∧ w2.cell? ⟨b, 22, none⟩ = some (.slice a n cap0) ∧ w2.frozen? ⟨b, 22, none⟩ = false ∧ Par B b { s with body := s.body ++ t } q z lf { V with y := v' } (w2.setCell ⟨b, 22, none⟩ v') ∧ PTn b V { V with y := v' } X w (w2.setCell ⟨b, 22, none⟩ v') := by
  obtain ⟨g, cap, hv'⟩ : ∃ a2 cap, v' = .slice a2 (n + k) cap := by
    rcases ho.2 with ⟨e, h0⟩ | ⟨g, cap, cur, hv, _⟩
    · exact ⟨none, 0, by rw [e, h0]⟩
    · exact ⟨_, cap, hv⟩
  have hk2 := (hg.block b h.lt (fun e => h.neB.2.2.2.2 (by rw [hv]; exact e.symm))).trans h.blk
  obtain ⟨hd, ht⟩ := h.putBody (X := X) t (hn ▸ hk ▸ ho) (by rw [hv]; exact hg) (by rw [hv]; exact hst)
  exact ⟨g, cap, hv', by rw [Lib.cell_of_heap hk2, ← hv]; rfl, Lib.frozen_of_heap hk2 22, hd, ht⟩
theorem Par.vy (h : Par B b s q z lf V w) : ∃ a c, V.y = .slice a s.body.length c := by
  rcases h.body.2 with ⟨hv, h0⟩ | ⟨g, cap, cur, hv, _⟩
  · exact ⟨none, 0, by rw [hv, h0]⟩
  · exact ⟨_, _, hv⟩

set_option maxHeartbeats 2000000 in
set_option maxRecDepth 100000 in
theorem complete_any {X : Nat → Prop} (h : Par B b s q z lf V w) (hm : s.mode ≠ 6) :
    Calls Tryz.prog 33 #[ptr b] w fun e w' => e = .returned .nilFunc ∧ PTo B b { s with mode := 7, msg := { s.msg with body := s.body } } q z lf V X w w' := by
  have c22 : w.cell? ⟨b, 22, none⟩ = some V.y := h.cell 22 _ rfl
  have c18 : w.cell? ⟨b, 18, none⟩ = some (.string (mkS s.msg.body)) := h.cell 18 _ rfl
  have f18 := h.frz 18
  have hcv : ∃ a c, V.y = .slice a s.body.length c ∧ (convert 60 9 (.slice a s.body.length c)).run Tryz.prog w = .ok (.string (mkS s.body)) w := by
    rcases h.body.2 with ⟨hv, h0⟩ | ⟨g, cap, cur, hv, _⟩
    · refine ⟨none, 0, by rw [hv, h0], ?_⟩
      rw [run_convert_nil, List.eq_nil_of_length_eq_zero h0]; rfl
    · exact ⟨_, _, hv, run_convert_bytes_back (P := Tryz.prog) w 60 9 5 ⟨g, 0, none⟩ cap s.body Tryz.underlying60 Tryz.underlying5 Tryz.underlying9 (fun j hj => cells_str_at h.body hv j hj)⟩
  obtain ⟨a, c, hv, hc⟩ := hcv
  rw [hv] at c22
  have hd := h.set 18 (.string (mkS s.body)) { s with msg := { s.msg with body := s.body } } q z lf rfl rfl rfl rfl rfl rfl (fun e => absurd (show s.mode = 6 from e) hm)
  have HR := Lib.hid (show PTo B b { s with mode := 7, msg := { s.msg with body := s.body } } q z lf V X w _ from ⟨V, hd.as _ rfl rfl rfl rfl rfl rfl (fun e => by cases e), PTn.set 18 (.string (mkS s.body))⟩)
  clear h hd hv hm
  generalize s.body.length = n at *
  unfold ptr
  go_enter Tryz.func33, Tryz.ntmps33
  go_wp2_with fail
  go_ret
  exact ⟨rfl, HR.out⟩
end Tk
end Go.Proofs.YtomhpnkpmeindaaGreatDoor
namespace Go.Proofs.YtomhpnkpmeindaaGreatDoor
open Go.RowKit
namespace Tk

variable {B b : Nat} {s : Pr} {q z lf : Nat} {V : PV} {w : World}
theorem cells_str' (l t : Bs) : Lib.byteCells l ++ Lib.strCells (mkS t) = Lib.byteCells l ++ Lib.byteCells t := by
  simp [Lib.byteCells, Lib.strCells, mkS]
theorem count_end (s : Pr) (t : Bs) (h : ¬ s.body.length + t.length < s.len) : countP s t = { s with body := s.body ++ t, mode := 7, msg := { s.msg with body := s.body ++ t } } := by unfold countP; rw [if_neg h]
theorem count_more (s : Pr) (t : Bs) (h : s.body.length + t.length < s.len) : countP s t = { s with body := s.body ++ t } := by unfold countP; rw [if_pos h]

set_option maxHeartbeats 8000000 in
set_option maxRecDepth 100000 in
theorem pcounted_any (g : Nat) (l : Bs) (h : Par B b s q 0 lf V w) (hi : Inp g l w) (hg : ¬ PMine b V g) (hm : s.mode = 4) (hr : Room s l) (hne : l ≠ []) :
    Calls Tryz.prog 75 #[ptr b, ptr g] w (StPost B b s q lf V g l w) := by
  obtain ⟨i0, hif, hz0, hz1, hz2⟩ := info_parts byteInf
  have hb0 := (not_stop hr.go).2.1
  have hcnt := hr.ok.fit.cnt hm
  have hll := hr.ok.fit.len
  have hlen : 1 ≤ l.length := by cases l with
    | nil => exact absurd rfl hne
    | cons a t => simp
  obtain ⟨m, hmd⟩ : ∃ m, m = s.len - s.body.length := ⟨_, rfl⟩
  obtain ⟨t, htd⟩ : ∃ t, t = l.take m := ⟨_, rfl⟩
  obtain ⟨k, hkd⟩ : ∃ k, k = t.length := ⟨_, rfl⟩
  have hkm : k = min m l.length := by rw [hkd, htd]; simp
  have htk : l.take k = t := by rw [hkm, htd, ← List.take_eq_take_min]
  have hdk : l.drop m = l.drop k := by
    rw [hkm]
    by_cases hq : m ≤ l.length
    · rw [Nat.min_eq_left hq]
    · rw [Nat.min_eq_right (by omega), List.drop_length, List.drop_of_length_le (by omega)]
  have hk1 : 1 ≤ k := by omega
  have hkl : k ≤ l.length := by omega
  have hnm := hr.n
  have hbl := hr.ok.fit.body
  have hea : EatsP s t ((countP s t).ate k) := by
    have := eats_count t s hr.go hm (by intro e; rw [e] at hkd; simp at hkd; omega) (by omega)
    rw [← hkd] at this; exact this
  obtain ⟨n, hn⟩ : ∃ n, n = s.body.length := ⟨_, rfl⟩
  have HN := Lib.hid hn
  obtain ⟨a, cap, hva⟩ := h.vy
  rw [← hn] at hva
  have HVa := Lib.hid hva
  have HP := Lib.hid h
  have HI := Lib.hid hi
  have HG := Lib.hid (show g < w.heap.size ∧ ¬ PMine b V g from ⟨hi.lt, hg⟩)
  have HK := Lib.hid (⟨htk, hdk, hk1, hkl, hkd, hea⟩ : _ ∧ _ ∧ _ ∧ _ ∧ _ ∧ _)
  have HM := Lib.hid (⟨hm, hb0⟩ : _ ∧ _)
  have c22 : w.cell? ⟨b, 22, none⟩ = some (.slice a n cap) := by rw [← hva]; exact h.cell 22 _ rfl
  have c21 : w.cell? ⟨b, 21, none⟩ = some (.int .i64 s.len) := h.cell 21 _ rfl
  have hw : IntKind.i64.wrap ((s.len : Int) - (n : Int)) = (m : Int) := by rw [IntWalk.i64_in _ (by omega)]; omega
  have HTk := Lib.hid (fun W (hI : Inp g l W) => take_any g l m W hI)
  have htz := size_mkS t
  rw [← htd] at HTk
  have HB := Lib.hid (show n + k ≤ 1048576 by omega)
  have HSz := Lib.hid (htz.trans hkd.symm)
  have HMr := Lib.hid (show n + k = s.body.length + t.length by omega)
  clear h hi hg hm hr hne hb0 hcnt hll hlen hmd htd hkd hkm htk hdk hk1 hkl hnm hbl hea hn hva htz
  unfold ptr at *
  go_enter Tryz.func75, Tryz.ntmps75
  go_wp2_with fail
  go_quiet (fail)
  have HP1 := Lib.hid (HP.out.draws nq)
  have HT1 := Lib.hid (PTn.draws (b := b) (V := V) (X := (· = g)) (w := w) nq)
  have HI1 := Lib.hid (show Inp g l (w.drewN nq) from HI.out)
  have d22 : (w.drewN nq).cell? ⟨b, 22, none⟩ = some (.slice a n cap) := c22
  clear c22 c21
  generalize w.drewN nq = w1 at *
  go_wp2_with fail
  have HTa : Hid (Calls Tryz.prog 56 #[.pointer (some ⟨g, 0, none⟩), .int .i64 m] w1.drew fun e w' => e = .returned (.string (mkS t)) ∧ w'.cell? ⟨b, 22, none⟩ = some (.slice a n cap) ∧ Hid (Par B b s q 0 lf V w') ∧ Hid (PTn b V V (· = g) w w') ∧ Hid (Inp g (l.drop k) w') ∧ Hid (w'.ownsRow B 5 1 (.slice a n cap) n (Lib.byteCells s.body)) ∧ Hid (B ≤ w'.heap.size)) := by
    refine (HTk.out w1.drew HI1.out).mono ?_
    rintro e w' ⟨rfl, rfl⟩
    have hp : Par B b s q 0 lf V w1.drew := HP1.out.draws 1
    have ht : PTn b V V (· = g) w w1.drew := HT1.out.trans (PTn.draws 1)
    have hp2 := hp.aside (ht.not_mine HG.out) 0 (.string (mkS (l.drop m)))
    refine ⟨rfl, by rw [← HVa.out]; exact hp2.cell 22 _ rfl, hp2, ht.aside (.inl rfl) 0 _, by rw [← HK.out.2.1]; exact (show Inp g l w1.drew from HI1.out).put (l.drop m), ?_, ?_⟩
    · have := hp2.body
      rw [HVa.out, ← HN.out] at this
      exact this
    · have h1 := hp2.hB
      have h2 := hp2.lt
      exact Nat.le_of_lt (Nat.lt_of_le_of_lt h1 h2)
  have hc3 : n + (mkS t).size ≤ maxLen := by rw [HSz.out]; have := HB.out; unfold maxLen; omega
  have hc4 : n + (mkS t).size ≤ 140737488355328 := by rw [HSz.out]; have := HB.out; omega
  have HC3 := Lib.hid hc3
  have HC4 := Lib.hid hc4
  clear hc3 hc4 hw
  go_region_law (first
    | (refine step_stay_string (by rfl) _ _ 60 9 (by rfl) B 5 i0 Tryz.underlying60 Tryz.underlying9 hif hz0 hz1 hz2 _ _ _ (by rfl) HO.out (mkS t) (by rfl) HC3.out HC4.out HBs.out ?_; intro v' w3 ho hgr hst; obtain ⟨a2, cap2, rfl, k22, f22, hd, ht⟩ := HP2.out.grewBody (X := fun _ => False) t k HK.out.2.2.2.2.1 n HN.out a cap HVa.out (by rw [← cells_str', ← HSz.out]; exact ho) hgr hst; have HR := Lib.hid (show PIn B b { s with body := s.body ++ t } q 0 lf V g (l.drop k) w _ from ⟨⟨_, hd, HT2.out.trans (ht.mono fun _ _ e => e.elim)⟩, inp_aside HI2.out (HT2.out.not_mine HG.out) ht (fun e => e)⟩); have HD := Lib.hid hd; have HTt := Lib.hid ht; clear hd ht ho hgr hst)
    | (go_simp; go_at_call 56; refine HTa.out.mono ?_; rintro e w2 ⟨rfl, j22, HP2, HT2, HI2, HO, HBs⟩))
  all_goals
    have y22 : (w3.setCell ⟨b, 22, none⟩ (.slice a2 (n + k) cap2)).cell? ⟨b, 22, none⟩ = some (.slice a2 (n + k) cap2) := HD.out.cell 22 _ rfl
    have y21 : (w3.setCell ⟨b, 22, none⟩ (.slice a2 (n + k) cap2)).cell? ⟨b, 21, none⟩ = some (.int .i64 s.len) := HD.out.cell 21 _ rfl
    clear HD HTt k22 f22 j22 HP2 HT2 HI2 HO HBs HP1 HT1 HI1 d22 HTa hif hz0 hz1 hz2 HC3 HC4 HTk
    generalize (w3.setCell ⟨b, 22, none⟩ (.slice a2 (n + k) cap2)) = w4 at *
    obtain ⟨N2, hN2⟩ : ∃ N2, N2 = n + k := ⟨_, rfl⟩
    have HN2 := Lib.hid (show N2 = s.body.length + t.length by rw [hN2]; exact HMr.out)
    rw [← hN2] at y22
    rw [← hN2]
    clear hN2
    by_cases hlt : N2 < s.len
    · have hcp := count_more s t (by have := HN2.out; omega)
      have HCp := Lib.hid hcp
      have hlti : (N2 : Int) < (s.len : Int) := by omega
      have HX := Lib.hid (fun nq => (show ∀ e, e = .returned (.tuple #[pstV 4, .nilIface]) → StPost B b s q lf V g l w e (w4.drewN nq) from fun e' he' => by
        obtain ⟨V', p1, p2⟩ := HR.out.1
        refine ⟨k, _, HK.out.2.2.1, HK.out.2.2.2.1, by rw [HK.out.1]; exact HK.out.2.2.2.2.2, ?_, ⟨V', ?_, p2.trans (PTn.draws nq)⟩, HR.out.2⟩
        · rw [he', stE_ate, HCp.out]; unfold stE; rw [if_pos (by exact HM.out.2), show ({ s with body := s.body ++ t } : Pr).mode = 4 from HM.out.1]
        · rw [HCp.out]; exact (p1.draws nq).ate k))
      clear hlt hcp
      unfold pstV at *
      go_wp2_with fail
      go_quiet (fail)
      go_wp2_with fail
      go_ret2
      exact HX.out _ _ rfl
    · have hcp := count_end s t (by have := HN2.out; omega)
      have HCp := Lib.hid hcp
      have hlti : ¬ (N2 : Int) < (s.len : Int) := by omega
      have HX := Lib.hid (fun nq => (show Calls Tryz.prog 33 #[.pointer (some ⟨b, 0, none⟩)] (w4.drewN nq) fun e w' => e = .returned .nilFunc ∧ ∀ e, e = .returned (.tuple #[.nilFunc, .nilIface]) → StPost B b s q lf V g l w e w' from by
        obtain ⟨V', p1, p2⟩ := HR.out.1
        refine (complete_any (X := fun _ => False) (p1.draws nq) (by show s.mode ≠ 6; have := HM.out.1; omega)).mono ?_
        rintro e w5 ⟨rfl, V2, r1, r2⟩
        refine ⟨rfl, fun e' he' => ⟨k, _, HK.out.2.2.1, HK.out.2.2.2.1, by rw [HK.out.1]; exact HK.out.2.2.2.2.2, ?_, ⟨V2, ?_, (p2.trans (PTn.draws nq)).trans (r2.mono fun _ _ e => e.elim)⟩, inp_aside (show Inp g (l.drop k) (w4.drewN nq) from HR.out.2) (p2.not_mine HG.out) r2 (fun e => e)⟩⟩
        · rw [he', stE_ate, HCp.out]; unfold stE; rw [if_pos (by exact HM.out.2)]; rfl
        · rw [HCp.out]; exact r1.ate k))
      clear hlt hcp
      go_wp2_with fail
      go_quiet (fail)
      go_wp2_with fail
      refine (HX.out _).mono ?_
      rintro e w5 ⟨rfl, hX⟩
      have HX2 := Lib.hid hX
      clear hX
      go_wp2_with fail
      go_ret2
      exact HX2.out _ rfl
end Tk
end Go.Proofs.YtomhpnkpmeindaaGreatDoor
