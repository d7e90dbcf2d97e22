/- message: Next, whether a message waits or not; what a parser's status is; a part that is fed. -/
import Derived.Test.YtpcdaaijlgilkaaGreatDoorQJ
namespace Go.Proofs.YtpcdaaijlgilkaaGreatDoor
open Go.RowKit
namespace Tk

variable {B b : Nat} {s : Pr} {V : PV} {w : World}
theorem pnext_take (h : Sync B b s V w) (hr : s.rsp = false) :
    Calls Tryz.prog 17 #[ptr b] w fun e w' => (∃ x, e = .returned (.tuple #[.agg x, .bool (waitP s)])) ∧ SyncTo B b (takeP s).2 V w w' := by
  cases hw : waitP s
  · refine (pnext_no h hw).mono ?_
    rintro e w' ⟨rfl, hb⟩
    have ht : (takeP s).2 = s := by unfold takeP; rw [if_neg (by simp [hw])]
    rw [ht]
    exact ⟨⟨_, rfl⟩, V, h.below hb, PTn.of hb⟩
  · refine (pnext_any h hr hw).mono ?_
    rintro e w' ⟨rfl, V', hs, ht, -⟩
    have hk : (takeP s).2 = s.fresh := by unfold takeP; rw [if_pos hw]
    rw [hk]
    exact ⟨⟨_, rfl⟩, V', hs, ht⟩
theorem pstat_any (h : Sync B b s V w) :
    Calls Tryz.prog 21 #[ptr b] w fun e w' => e = .returned (.int .i64 s.bad) ∧ w' = w := by
  obtain ⟨q, h⟩ := h.par
  exact pstatus_any h
theorem SyncTo.below {s' : Pr} {w' : World} (h : Sync B b s V w) (h2 : SyncTo B b s' V w w') : Below B w w' := by
  obtain ⟨V', _, h3⟩ := h2
  exact h.toBelow h3
/-- what a loop that feeds keeps -/
structure Fed (s0 : Pr) (l : Bs) (i : Nat) (ms : List Msg) (sp : Pr) : Prop where
  le : i ≤ l.length
  go : goP s0 (l.take i) = (ms, sp)
  run : Run sp
  ok : sp.Ok i
  rq : Rq sp
theorem Fed.start {s0 : Pr} (l : Bs) (h1 : s0.Ok 0) (h2 : Rq s0) (h3 : Run s0) : Fed s0 l 0 [] s0 := ⟨Nat.zero_le _, rfl, h3, h1, h2⟩
theorem Fed.go_on {s0 : Pr} {l : Bs} {i k : Nat} {ms : List Msg} {sp : Pr} (h : Fed s0 l i ms sp) (hb : sp.bad = 0) (hi : i < k) (hk : k ≤ l.length) :
    stopP sp = false ∧ 1 ≤ (feedP sp ((l.drop i).take (k - i))).1 ∧ i + (feedP sp ((l.drop i).take (k - i))).1 ≤ k ∧ (feedP sp ((l.drop i).take (k - i))).2.Ok (i + (feedP sp ((l.drop i).take (k - i))).1) ∧ Rq (feedP sp ((l.drop i).take (k - i))).2 ∧
    Fed s0 l (i + (feedP sp ((l.drop i).take (k - i))).1) (ms ++ (takeP (feedP sp ((l.drop i).take (k - i))).2).1) (takeP (feedP sp ((l.drop i).take (k - i))).2).2 := by
  have hs : stopP sp = false := by rw [run_stop h.run h.rq.rq, hb]; rfl
  obtain ⟨h1, h2, h3⟩ := go_part h.go hs hi hk
  have hok := feedP_ok ((l.drop i).take (k - i)) sp i h.ok
  have hrq := feedP_rq ((l.drop i).take (k - i)) sp h.rq
  refine ⟨hs, h2, h3, hok, hrq, ⟨by omega, h1, take_run _, take_ok hok, ?_⟩⟩
  unfold takeP; split
  · exact fresh_rq hrq.rq
  · exact hrq
theorem Fed.fin {s0 : Pr} {l : Bs} {i : Nat} {ms : List Msg} {sp : Pr} (h : Fed s0 l i ms sp) (he : sp.bad ≠ 0 ∨ l.length ≤ i) : allM s0 l = ms ∧ allS s0 l = (endP sp).bad :=
  all_of h.go (by
    rcases he with he | he
    · left; unfold stopP; simp [he]
    · exact .inr he)
end Tk
end Go.Proofs.YtpcdaaijlgilkaaGreatDoor
