/- The document's own weight: plain facts. -/
import Derived.Test.YtogdmhgblceddaaDoorWgt
namespace Go.Proofs.YtogdmhgblceddaaDoor
namespace Tk
open Ff

/-- digits behind the point, the first worth b -/
def pvL : Nat → Bs → Nat
  | _, [] => 0
  | b, c :: t => (c.toNat - 48) * b + pvL (b / 10) t

theorem cut_one (c : UInt8) (h : c ≠ 46) : cutL 46 [c] = ([c], [], false) := by
  unfold cutL
  have : ([c] : Bs).contains 46 = false := by simp; exact fun e => h e.symm
  rw [this]; rfl
theorem cut_point (c : UInt8) (r : Bs) (h : c ≠ 46) : cutL 46 (c :: 46 :: r) = ([c], r, true) := by
  unfold cutL
  rw [if_pos (by simp)]
  simp [h]
/-- a weight's text is one sign, or one sign, a point and at most three more -/
theorem wgt_shape (l : Bs) (k : Nat) (h : wgtL l = some k) : ∃ c : UInt8, (c = 48 ∨ c = 49) ∧ (l = [c] ∨ ∃ r : Bs, l = c :: 46 :: r ∧ r.length ≤ 3) := by
  unfold wgtL at h
  split at h
  · rename_i hh
    obtain ⟨h1, h2, -, -⟩ := hh
    obtain ⟨c, hc, e⟩ : ∃ c : UInt8, (c = 48 ∨ c = 49) ∧ (cutL 46 l).1 = [c] := by
      rcases h1 with h1 | h1
      · exact ⟨48, .inl rfl, h1⟩
      · exact ⟨49, .inr rfl, h1⟩
    refine ⟨c, hc, ?_⟩
    unfold cutL at e h2
    split at e
    · rename_i hm
      rw [if_pos hm] at h2
      simp only at e h2
      cases l with
      | nil => simp at e
      | cons a t =>
        rw [List.takeWhile_cons] at e
        split at e
        · rename_i ha
          injection e with e1 e2
          subst e1
          rw [List.dropWhile_cons, if_pos ha] at h2
          cases t with
          | nil => left; rfl
          | cons b u =>
            rw [List.takeWhile_cons] at e2
            split at e2
            · cases e2
            · rename_i hb
              have hb' : b = 46 := by simpa using hb
              subst hb'
              refine .inr ⟨u, rfl, ?_⟩
              rw [List.dropWhile_cons, if_neg (by decide)] at h2
              simpa using h2
        · cases e
    · simp only at e
      left; exact e
  · cases h

theorem num_pv (r : Bs) (h : r.length ≤ 3) (hd : ∀ c ∈ r, isDig c = true) : numL ((r ++ [48, 48, 48]).take 3) = (pvL 100 r, 0) ∧ pvL 100 r ≤ 999 := by
  have key : ∀ l : Bs, l.length = 3 → (∀ c ∈ l, isDig c = true) → numL l = (valFrom 0 l, 0) ∧ valFrom 0 l ≤ 999 := by
    intro l h3 hl
    have hne : l ≠ [] := fun e => by rw [e] at h3; simp at h3
    have hv := valFrom_lt l 0 hl
    rw [h3] at hv
    unfold numL
    rw [if_neg hne, numGo_val l 0 hl, if_neg (by unfold maxN; omega)]
    exact ⟨rfl, by omega⟩
  have hz : isDig 48 = true := by decide
  match r, h, hd with
  | [], _, _ => exact ⟨by decide, by decide⟩
  | [a], _, hd =>
    have ha := hd a (by simp)
    have := key [a, 48, 48] rfl (by intro c hc; simp at hc; rcases hc with rfl | rfl; exact ha; exact hz)
    have e : valFrom 0 [a, 48, 48] = pvL 100 [a] := by simp [valFrom, pvL]; omega
    rw [e] at this
    exact this
  | [a, b], _, hd =>
    have ha := hd a (by simp)
    have hb := hd b (by simp)
    have := key [a, b, 48] rfl (by intro c hc; simp at hc; rcases hc with rfl | rfl | rfl; exact ha; exact hb; exact hz)
    have e : valFrom 0 [a, b, 48] = pvL 100 [a, b] := by simp [valFrom, pvL]; omega
    rw [e] at this
    exact this
  | [a, b, d], _, hd =>
    have ha := hd a (by simp)
    have hb := hd b (by simp)
    have hdd := hd d (by simp)
    have := key [a, b, d] rfl (by intro c hc; simp at hc; rcases hc with rfl | rfl | rfl; exact ha; exact hb; exact hdd)
    have e : valFrom 0 [a, b, d] = pvL 100 [a, b, d] := by simp [valFrom, pvL]; omega
    rw [e] at this
    exact this

theorem wgt_one (c : UInt8) (hc : c = 48 ∨ c = 49) : wgtL [c] = some ((c.toNat - 48) * 1000) := by
  rcases hc with rfl | rfl <;> decide +kernel
theorem wgt_bad_dig (c : UInt8) (r : Bs) (hc : c = 48 ∨ c = 49) (hr : ∃ x ∈ r, isDig x = false) (h3 : r.length ≤ 3) : wgtL (c :: 46 :: r) = none := by
  have hc46 : c ≠ 46 := by rcases hc with rfl | rfl <;> decide
  refine wgt_none_c _ ?_
  unfold wDig
  rw [cut_point c r hc46]
  obtain ⟨x, hx, hb⟩ := hr
  have hne : ((r ++ [48, 48, 48]).take 3) ≠ [] := fun e => by
    have := congrArg List.length e
    simp at this
  unfold numL
  rw [if_neg hne]
  refine numGo_bad _ _ ⟨x, ?_, hb⟩
  rw [List.take_append]
  exact List.mem_append_left _ (by rw [List.take_of_length_le h3]; exact hx)
theorem wgt_point (c : UInt8) (r : Bs) (hc : c = 48 ∨ c = 49) (hd : ∀ x ∈ r, isDig x = true) (h3 : r.length ≤ 3) :
    wgtL (c :: 46 :: r) = if 1000 < (c.toNat - 48) * 1000 + pvL 100 r then none else some ((c.toNat - 48) * 1000 + pvL 100 r) := by
  have hc46 : c ≠ 46 := by rcases hc with rfl | rfl <;> decide
  obtain ⟨hn, h9⟩ := num_pv r h3 hd
  have hw : wDig (c :: 46 :: r) = (r ++ [48, 48, 48]).take 3 := by unfold wDig; rw [cut_point c r hc46]
  have hu : wUp (c :: 46 :: r) = (c.toNat - 48) * 1000 := by
    unfold wUp; rw [cut_point c r hc46]
    rcases hc with rfl | rfl <;> rfl
  have e : (numL (wDig (c :: 46 :: r))).1 + wUp (c :: 46 :: r) = (c.toNat - 48) * 1000 + pvL 100 r := by rw [hw, hn, hu]; omega
  by_cases h : 1000 < (c.toNat - 48) * 1000 + pvL 100 r
  · rw [if_pos h]; exact wgt_none_d _ (by rw [e]; exact h)
  · rw [if_neg h, ← e]
    refine wgt_some _ ?_ ?_ (by rw [hw, hn]) (by rw [e]; omega)
    · rw [cut_point c r hc46]; rcases hc with rfl | rfl; exact .inl rfl; exact .inr rfl
    · rw [cut_point c r hc46]; exact h3
end Tk
end Go.Proofs.YtogdmhgblceddaaDoor
