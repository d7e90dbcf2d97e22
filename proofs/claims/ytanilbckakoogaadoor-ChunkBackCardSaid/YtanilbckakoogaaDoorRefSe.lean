/- The document's own Same of a list of fields with itself (in memory of another). -/
import Derived.Test.YtanilbckakoogaaDoorFldS
import Derived.Test.YtanilbckakoogaaDoorRSm
import Derived.Deep.RegionHeld3
namespace Go.Proofs.YtanilbckakoogaaDoor
open Go.RowKit
namespace Tk

/-- the four texts that a round reads -/
def Four (b1 o1 b2 o2 i : Nat) (n x k y : Bs) (W : World) : Prop := W.cell? ⟨b1, o1 + i * 2, none⟩ = some (.string (mkS n)) ∧ W.cell? ⟨b1, o1 + i * 2 + 1, none⟩ = some (.string (mkS x)) ∧ W.cell? ⟨b2, o2 + i * 2, none⟩ = some (.string (mkS k)) ∧ W.cell? ⟨b2, o2 + i * 2 + 1, none⟩ = some (.string (mkS y))

set_option maxHeartbeats 4000000 in
set_option maxRecDepth 100000 in
theorem rsame_self (v1 v2 : Value) (l : List (Bs × Bs)) (w : World) (h1 : IsFlds w v1 l) (h2 : IsFlds w v2 l) (hz : ∀ f, f ∈ l → f.1.length ≤ 1099511627776) (hl : l.length ≤ 1099511627) :
    Calls Tryd.prog 31 #[v1, v2] w fun e w' => e = .returned (.bool true) ∧ Below w.heap.size w w' := by
  have H1 := Lib.hid h1
  have H2 := Lib.hid h2
  have HZ := Lib.hid hz
  obtain ⟨a1, c1, rfl⟩ : ∃ a cap, v1 = .slice a l.length cap := by obtain ⟨a, c, h, -⟩ := h1; exact ⟨a, c, h⟩
  obtain ⟨a2, c2, rfl⟩ : ∃ a cap, v2 = .slice a l.length cap := by obtain ⟨a, c, h, -⟩ := h2; exact ⟨a, c, h⟩
  clear h1 h2 hz
  go_enter Tryd.func31, Tryd.ntmps31
  go_wp2_with fail
  go_loopw [5] (fun vi wr => ∃ i : Nat, i ≤ l.length ∧ vi = .int .i64 i ∧ Hid (Below w.heap.size w wr)) (fun vi _ => l.length - (RowKit.intOf vi).toNat)
  case atStart => exact ⟨0, Nat.zero_le _, rfl, Below.refl _ _⟩
  case round =>
    obtain ⟨i, hi, rfl, HB⟩ := hrel
    rename World => W
    by_cases hlt : i < l.length
    · obtain ⟨a1', c1', e', -, hc1⟩ := isFlds_below H1.out HB.out
      injection e' with e1 _ e2
      subst e1 e2
      obtain ⟨a2', c2', e', -, hc2⟩ := isFlds_below H2.out HB.out
      injection e' with e1 _ e2
      subst e1 e2
      obtain ⟨b1, o1, rfl, p0, p1⟩ := hc1 i (l.getD i ([], [])) (by simp [List.getD, hlt])
      obtain ⟨b2, o2, rfl, q0, q1⟩ := hc2 i (l.getD i ([], [])) (by simp [List.getD, hlt])
      have z1 := HZ.out (l.getD i ([], [])) (by simp [List.getD, hlt])
      clear hc1 hc2
      generalize l.getD i ([], []) = f at *
      obtain ⟨n, x⟩ := f
      simp only at z1 p0 p1 q0 q1
      have g0 : (0 : Int) ≤ (i : Int) := by omega
      have g1 : (i : Int) < (l.length : Int) := by omega
      have l1 := cell_lt (p := ⟨b1, o1 + i * 2, none⟩) p0
      have l2 := cell_lt (p := ⟨b2, o2 + i * 2, none⟩) q0
      have hS : ∀ W', Below W.heap.size W W' → Four b1 o1 b2 o2 i n x n x W' := fun W' h => ⟨(h.cell (p := ⟨b1, o1 + i * 2, none⟩) l1).trans p0, (h.cell (p := ⟨b1, o1 + i * 2 + 1, none⟩) l1).trans p1, (h.cell (p := ⟨b2, o2 + i * 2, none⟩) l2).trans q0, (h.cell (p := ⟨b2, o2 + i * 2 + 1, none⟩) l2).trans q1⟩
      have HC : ∀ W' : World, Below W.heap.size W W' → Calls Tryd.prog 58 #[.string (mkS n), .string (mkS n)] W' fun e w' => e = .returned (.bool true) ∧ Below W.heap.size W w' ∧ w'.cell? ⟨b1, o1 + i * 2, none⟩ = some (.string (mkS n)) ∧ w'.cell? ⟨b1, o1 + i * 2 + 1, none⟩ = some (.string (mkS x)) ∧ w'.cell? ⟨b2, o2 + i * 2, none⟩ = some (.string (mkS n)) ∧ w'.cell? ⟨b2, o2 + i * 2 + 1, none⟩ = some (.string (mkS x)) := fun W' hW' => by
        have h := rsm_any (mkS n) (mkS n) W' (by rw [size_mkS]; exact z1) (by rw [size_mkS]; exact z1)
        rw [decide_eq_true rfl] at h
        refine h.mono ?_
        rintro e w' ⟨rfl, hb⟩
        have h3 := hW'.trans (hb.mono hW'.size)
        obtain ⟨t1, t2, t3, t4⟩ := hS w' h3
        exact ⟨rfl, h3, t1, t2, t3, t4⟩
      have hbd : Below W.heap.size W W.drew := (Below.refl _ _).drew
      obtain ⟨d0, d1, d2, d3⟩ := hS _ hbd
      have HC2 := Lib.hid (HC _ hbd)
      have hne : (!(mkS x).toList == (mkS x).toList) = false := by simp
      clear HC hS l1 l2 z1
      go_wp2_with fail
      go_region_held3? (fun w' => w'.cell? ⟨b1, o1 + i * 2, none⟩ = some (.string (mkS n)) ∧ w'.cell? ⟨b1, o1 + i * 2 + 1, none⟩ = some (.string (mkS x)) ∧ w'.cell? ⟨b2, o2 + i * 2, none⟩ = some (.string (mkS n)) ∧ w'.cell? ⟨b2, o2 + i * 2 + 1, none⟩ = some (.string (mkS x))) (first | (refine ⟨?_, ?_, ?_, ?_⟩ <;> assumption)) ((go_at_call 58; refine HC2.out.mono ?_; rintro e w5 ⟨rfl, hb5, t1, t2, t3, t4⟩))
      all_goals
        have HB5 := Lib.hid (HB.out.trans (hb5.mono HB.out.size))
        go_wp2_with fail
        exact ⟨⟨i + 1, hlt, by go_num, HB5⟩, by simp [RowKit.intOf]; omega⟩
    · go_wp2_with fail
      go_ret
      exact ⟨rfl, HB.out⟩
end Tk
end Go.Proofs.YtanilbckakoogaaDoor
