/- A text that is fed part by part (plain facts). -/
import Derived.Test.YtanilbckakoogaaGreatDoorChkQ
namespace Go.Proofs.YtanilbckakoogaaGreatDoor
namespace Tk

theorem eats_end {s si : Dc} {l : Bs} {i : Nat} (hi : i ≤ l.length) (h : Eats s (l.take i) si) (he : stopD si = true ∨ i = l.length) : feedD s l = (i, si) := by
  unfold Eats at h
  have hl : (l.take i).length = i := by simp; omega
  rw [hl] at h
  rcases he with he | rfl
  · have := feedD_append (l.take i) s (l.drop i)
    rw [List.take_append_drop, h] at this
    simp only [feedD_stop si _ he, Nat.add_zero] at this
    exact this
  · rw [List.take_length] at h; exact h
theorem eats_next {s si : Dc} {l : Bs} {i : Nat} (hi : i < l.length) (h : Eats s (l.take i) si) (hs : stopD si = false) : Eats s (l.take (i + 1)) (stepD si (l.getD i 0)) := by
  rw [List.take_succ_eq_append_getElem hi]
  have : l.getD i 0 = l[i] := by simp [List.getD, hi]
  rw [this]
  exact h.append (Eats.one hs)
theorem eats_fit {s si : Dc} {l : Bs} {i n : Nat} (hf : s.Fit n) (hi : i ≤ l.length) (h : Eats s (l.take i) si) : si.Fit (n + i) := by
  have h2 := feedD_fit (l.take i) s n hf
  unfold Eats at h
  rw [h] at h2
  have hl : (l.take i).length = i := by simp; omega
  rw [hl] at h2
  exact h2
theorem eats_lim {s si : Dc} {a : Bs} (h : Eats s a si) : si.L = s.L ∧ si.H = s.H ∧ si.C = s.C ∧ si.M = s.M := by
  have h2 := feedD_lim a s
  unfold Eats at h
  rw [h] at h2
  exact h2
/-- limits that fit into a word -/
def Lim (s : Dc) : Prop := s.L ≤ 9223372036854775807 ∧ s.H ≤ 9223372036854775807 ∧ s.C ≤ 9223372036854775807 ∧ s.M ≤ 9223372036854775807
theorem Lim.eats {s si : Dc} {a : Bs} (hl : Lim s) (h : Eats s a si) : Lim si := by
  obtain ⟨a1, a2, a3, a4⟩ := eats_lim h
  unfold Lim
  rw [a1, a2, a3, a4]; exact hl
theorem Lim.feed {s : Dc} (hl : Lim s) (a : Bs) : Lim (feedD s a).2 := by
  obtain ⟨a1, a2, a3, a4⟩ := feedD_lim a s
  unfold Lim
  rw [a1, a2, a3, a4]; exact hl
/-- a part more is fed -/
theorem eats_more {s so : Dc} {b : Bs} {ate k : Nat} (h : Eats s (b.take ate) so) (ha : ate ≤ k) (hk : k ≤ b.length) :
    Eats s (b.take (ate + (feedD so ((b.drop ate).take (k - ate))).1)) (feedD so ((b.drop ate).take (k - ate))).2 ∧ ate + (feedD so ((b.drop ate).take (k - ate))).1 ≤ k ∧
    (k = b.length → stopD (feedD so ((b.drop ate).take (k - ate))).2 = true ∨ ate + (feedD so ((b.drop ate).take (k - ate))).1 = b.length) := by
  have hseg : ((b.drop ate).take (k - ate)).length = k - ate := by simp; omega
  have hle := feedD_le ((b.drop ate).take (k - ate)) so
  have htk := feedD_take ((b.drop ate).take (k - ate)) so
  rw [hseg] at hle
  refine ⟨?_, by omega, fun hkb => ?_⟩
  · rw [List.take_take, Nat.min_eq_left hle] at htk
    have hl : ((b.drop ate).take (feedD so ((b.drop ate).take (k - ate))).1).length = (feedD so ((b.drop ate).take (k - ate))).1 := by simp; omega
    have h2 : Eats so ((b.drop ate).take (feedD so ((b.drop ate).take (k - ate))).1) (feedD so ((b.drop ate).take (k - ate))).2 := by
      unfold Eats
      rw [htk, hl]
    rw [List.take_add]
    exact h.append h2
  · cases hs : stopD (feedD so ((b.drop ate).take (k - ate))).2
    · right
      have := feedD_all _ _ hs
      rw [hseg] at this
      omega
    · exact .inl rfl
theorem stop_iff (s : Dc) : stopD s = true ↔ (s.mode = 5 ∨ s.bad ≠ 0) := by unfold stopD; simp
theorem stop_false (s : Dc) : stopD s = false ↔ (s.mode ≠ 5 ∧ s.bad = 0) := by unfold stopD; simp
theorem feed_bad (s : Dc) (l : Bs) (h : s.bad ≠ 0) : feedD s l = (0, s) := feedD_stop s l ((stop_iff s).2 (.inr h))
theorem feed_end (s : Dc) (l : Bs) (h : s.mode = 5) : feedD s l = (0, s) := feedD_stop s l ((stop_iff s).2 (.inl h))
end Tk
end Go.Proofs.YtanilbckakoogaaGreatDoor
