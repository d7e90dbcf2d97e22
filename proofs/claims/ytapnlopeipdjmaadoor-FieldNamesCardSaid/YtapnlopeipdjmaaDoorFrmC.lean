/- framing.Coded, frame, Request, Response. -/
import Derived.Test.YtapnlopeipdjmaaDoorFrmB
import Derived.Test.YtapnlopeipdjmaaDoorFldL
namespace Go.Proofs.YtapnlopeipdjmaaDoor
open Go.RowKit
namespace Tk

def CodPost (l : List (Bs × Bs)) (w : World) (e : Ending) (w' : World) : Prop := e = .returned (.tuple #[.bool (hasF l nmTE), .int .i64 (codS l : Nat)]) ∧ Below w.heap.size w w'
theorem cod_ret (l : List (Bs × Bs)) (b : Bool) (s : Nat) (h2 : hasF l nmTE = b) (h3 : codS l = s) : Ending.returned (.tuple #[.bool b, .int .i64 (s : Int)]) = .returned (.tuple #[.bool (hasF l nmTE), .int .i64 (codS l : Nat)]) := by rw [h2, h3]
theorem cod_no (l : List (Bs × Bs)) (h : hasF l nmTE = false) : codS l = 0 := by unfold codS; rw [h]; rfl
theorem cod_yes (l : List (Bs × Bs)) (h : hasF l nmTE = true) : codS l = if codOk (listF l nmTE) then 0 else 501 := by unfold codS; rw [h]; cases codOk (listF l nmTE) <;> rfl

set_option maxHeartbeats 4000000 in
set_option maxRecDepth 100000 in
theorem coded_any (v : Value) (l : List (Bs × Bs)) (w : World) (hs : IsFlds w v l) (hz : sumF l ≤ 1000000) (hl : l.length ≤ 1048576) :
    Calls Tryd.prog 21 #[v] w (CodPost l w) := by
  have HH : Hid (∀ W, Below w.heap.size w W → Calls Tryd.prog 59 #[v, .string ⟨#[84, 114, 97, 110, 115, 102, 101, 114, 45, 69, 110, 99, 111, 100, 105, 110, 103]⟩] W fun e w' => e = .returned (.bool (hasF l nmTE)) ∧ Below W.heap.size W w') := fun W hb => has_any v l nmTE W (isFlds_below hs hb) hz (by decide) hl
  have HLs : Hid (∀ W, Below w.heap.size w W → Calls Tryd.prog 37 #[v, .string ⟨#[84, 114, 97, 110, 115, 102, 101, 114, 45, 69, 110, 99, 111, 100, 105, 110, 103]⟩] W (ListPost W.heap.size (listF l nmTE) W)) := fun W hb => flist_any v l nmTE W (isFlds_below hs hb) hz (by decide) hl
  unfold ListPost at HLs
  have HPc := Lib.hid (fun p hp => Nat.le_trans (listF_piece nmTE l p hp) hz)
  have hln := listF_len nmTE l
  have hlp : (listF l nmTE).length ≤ 1000000 := by omega
  have HRet := Lib.hid (cod_ret l)
  have HNo := Lib.hid (cod_no l)
  have HYes := Lib.hid (cod_yes l)
  unfold CodPost
  obtain ⟨a, cap, rfl⟩ : ∃ a cap, v = .slice a l.length cap := by obtain ⟨a, c, h, -⟩ := hs; exact ⟨a, c, h⟩
  clear hs hz hln
  generalize listF l nmTE = P at *
  cases hh : hasF l nmTE
  · have HR := Lib.hid (HRet.out false 0 hh (HNo.out hh))
    rw [hh] at HH HR
    go_enter Tryd.func21, Tryd.ntmps21
    go_wp2_with fail
    refine (HH.out _ (Below.refl _ _)).mono ?_
    rintro e w1 ⟨rfl, hb⟩
    have HB1 := Lib.hid hb
    clear hb
    go_wp2_with fail
    refine (HLs.out _ HB1.out).mono ?_
    rintro e w2 ⟨v2, rfl, ho, hb⟩
    have HB2 := Lib.hid (HB1.out.trans (hb.mono HB1.out.size))
    obtain ⟨a1, c1, rfl⟩ : ∃ a c, v2 = .slice a P.length c := by obtain ⟨a, c, h, -⟩ := isStrs_own ho; exact ⟨a, c, h⟩
    clear ho hb
    go_wp2_with fail
    go_ret2
    exact ⟨HR.out, HB2.out⟩
  · have hy := HYes.out hh
    rw [hh] at HH
    by_cases h1 : P.length = 1
    · obtain ⟨p, rfl⟩ : ∃ p, P = [p] := List.length_eq_one_iff.1 h1
      have hpz := HPc.out p (by simp)
      have hpm := size_mkS p
      have hS : ∀ W : World, Calls Tryd.prog 62 #[.string (mkS p), .string ⟨#[99, 104, 117, 110, 107, 101, 100]⟩] W fun r w' => r = .returned (.bool (codOk [p])) ∧ ∃ n, w' = W.drewN n := fun W => by
        have h := tsame_any (mkS p) ⟨#[99, 104, 117, 110, 107, 101, 100]⟩ W (by omega) (by decide)
        have e : codOk [p] = decide (lowL (bs (mkS p)) = lowL (bs ⟨#[99, 104, 117, 110, 107, 101, 100]⟩)) := by
          show (true && decide (lowL p = lowL chkB)) = _
          rw [Bool.true_and]; rfl
        rw [e]; exact h
      have HS := Lib.hid hS
      clear hS hpm hpz h1
      cases hk : codOk [p]
      all_goals
        rw [hk] at hy HS
        have HR := Lib.hid (HRet.out true _ hh hy)
        rw [hh] at HR
        clear hy
        go_enter Tryd.func21, Tryd.ntmps21
        go_wp2_with fail
        refine (HH.out _ (Below.refl _ _)).mono ?_
        rintro e w1 ⟨rfl, hb⟩
        have HB1 := Lib.hid hb
        clear hb
        go_wp2_with fail
        refine (HLs.out _ HB1.out).mono ?_
        rintro e w2 ⟨v2, rfl, ho, hb⟩
        have HB2 := Lib.hid (HB1.out.trans (hb.mono HB1.out.size))
        obtain ⟨a1, c1, rfl, hc⟩ := isStrs_own ho
        obtain ⟨b, o, rfl, hc0⟩ := hc 0 p (by simp)
        rw [Nat.add_zero] at hc0
        clear ho hb hc
        go_wp2_with fail
        refine (HS.out _).mono ?_
        rintro e w3 ⟨rfl, n, rfl⟩
        go_wp2_with fail
        go_ret2
        exact ⟨HR.out, below_some_draws HB2.out _⟩
    · have hk : codOk P = false := by unfold codOk; simp [h1]
      rw [hk] at hy
      have HR := Lib.hid (HRet.out true 501 hh hy)
      rw [hh] at HR
      have hb1 : ((P.length : Int) != 1) = true := by rw [bne_iff_ne]; omega
      clear hy h1 hk
      go_enter Tryd.func21, Tryd.ntmps21
      go_wp2_with fail
      refine (HH.out _ (Below.refl _ _)).mono ?_
      rintro e w1 ⟨rfl, hb⟩
      have HB1 := Lib.hid hb
      clear hb
      go_wp2_with fail
      refine (HLs.out _ HB1.out).mono ?_
      rintro e w2 ⟨v2, rfl, ho, hb⟩
      have HB2 := Lib.hid (HB1.out.trans (hb.mono HB1.out.size))
      obtain ⟨a1, c1, rfl⟩ : ∃ a c, v2 = .slice a P.length c := by obtain ⟨a, c, h, -⟩ := isStrs_own ho; exact ⟨a, c, h⟩
      clear ho hb
      go_wp2_with fail
      go_ret2
      exact ⟨HR.out, HB2.out⟩
end Tk
end Go.Proofs.YtapnlopeipdjmaaDoor
