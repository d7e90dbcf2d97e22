/- The document's date: the year that two digits tell. -/
import Derived.Test.YtajmheblbnodjaaDoorDrC
import Derived.Test.YtajmheblbnodjaaDoorDtN
import Derived.Deep.Cut
namespace Go.Proofs.YtajmheblbnodjaaDoor
open Go.RowKit
namespace Tk

set_option maxHeartbeats 4000000 in
set_option maxRecDepth 100000 in
theorem rlate_any (n now : Int) (w : World) (hn : 0 ≤ n ∧ n ≤ 99) :
    Calls Tryd.prog 61 #[.int .i64 n, .int .i64 now] w fun e w' => e = .returned (.int .i64 (lateY n (yNow now))) ∧ Below w.heap.size w w' := by
  obtain ⟨hx1, hx2⟩ := civX_ok (clampT_ok now)
  have hC := rcivil_any (clampT now) w (by have := (okT_iff _).1 (clampT_ok now); unfold maxT at this; omega)
  unfold CivPost at hC
  rw [hx1, hx2] at hC
  have hy := yNow_rg now
  have hyE : (civ (clampT now)).y = yNow now := rfl
  have hE : yNow now - yNow now % 100 + n = yNow now / 100 * 100 + n := by omega
  have hL : lateY n (yNow now) = if (if yNow now + 50 < yNow now / 100 * 100 + n then yNow now / 100 * 100 + n - 100 else yNow now / 100 * 100 + n) < 1970 then (if yNow now + 50 < yNow now / 100 * 100 + n then yNow now / 100 * 100 + n - 100 else yNow now / 100 * 100 + n) + 100 else (if yNow now + 50 < yNow now / 100 * 100 + n then yNow now / 100 * 100 + n - 100 else yNow now / 100 * 100 + n) := by
    unfold lateY; rw [hE]
  clear hx1 hx2 hE
  unfold clampT at hC hyE
  generalize lateY n (yNow now) = R at *
  generalize yNow now = Y at *
  generalize civ (min (max now 0) 253402300799) = c at *
  obtain ⟨v0, v1, v2, v3, v4, v5, v6⟩ := c
  unfold cvV at hC
  dsimp only at hC hyE
  subst hyE
  have HC := Lib.hid hC
  have HNew := Lib.hid (fun (w : World) (c : Cv) => CvB.new w c)
  have HCn := Lib.hid (fun (W : World) (g : Nat) (c : Cv) (h : CvB W g c) => CvB.cells h)
  unfold cvC at HNew
  have hq : 19 ≤ v0 / 100 ∧ v0 / 100 ≤ 99 := by omega
  have hcs : (v0 + 50 < v0 / 100 * 100 + n ∧ v0 / 100 * 100 + n - 100 < 1970 ∧ R = v0 / 100 * 100 + n - 100 + 100) ∨ (v0 + 50 < v0 / 100 * 100 + n ∧ ¬ v0 / 100 * 100 + n - 100 < 1970 ∧ R = v0 / 100 * 100 + n - 100) ∨ (¬ v0 + 50 < v0 / 100 * 100 + n ∧ v0 / 100 * 100 + n < 1970 ∧ R = v0 / 100 * 100 + n + 100) ∨ (¬ v0 + 50 < v0 / 100 * 100 + n ∧ ¬ v0 / 100 * 100 + n < 1970 ∧ R = v0 / 100 * 100 + n) := by
    rw [hL]
    by_cases a : v0 + 50 < v0 / 100 * 100 + n
    · by_cases b : v0 / 100 * 100 + n - 100 < 1970
      · left; simp only [if_pos a, if_pos b]; exact ⟨a, b, by first | rfl | trivial⟩
      · right; left; simp only [if_pos a, if_neg b]; exact ⟨a, b, by first | rfl | trivial⟩
    · by_cases b : v0 / 100 * 100 + n < 1970
      · right; right; left; simp only [if_neg a, if_pos b]; exact ⟨a, b, by first | rfl | trivial⟩
      · right; right; right; simp only [if_neg a, if_neg b]; exact ⟨a, b, by first | rfl | trivial⟩
  clear hC hL
  have HCs := Lib.hid hcs
  clear hcs
  go_enter Tryd.func61, Tryd.ntmps61
  go_wp2_with fail
  refine HC.out.mono ?_
  rintro e w1 ⟨rfl, hb⟩
  have HB := Lib.hid (hb.alloc hb.size (.cells #[.int .i64 v0, .int .i64 v1, .int .i64 v2, .int .i64 v3, .int .i64 v4, .int .i64 v5, .int .i64 v6] 23))
  have GA := HNew.out w1 ⟨v0, v1, v2, v3, v4, v5, v6⟩
  obtain ⟨p0, -⟩ := HCn.out _ _ _ GA
  dsimp only at p0
  clear hb GA HNew HCn HC
  rcases HCs.out with ⟨q1, q2, q3⟩ | ⟨q1, q2, q3⟩ | ⟨q1, q2, q3⟩ | ⟨q1, q2, q3⟩
  all_goals
    have HR := Lib.hid q3
    clear q3 HCs
    go_wp2_with fail
    go_ret
    exact ⟨retId (by have := HR.out; omega), HB.out⟩
end Tk
end Go.Proofs.YtajmheblbnodjaaDoor
