/- framing.Bare, has, Length, Coded. -/
import Derived.Test.YtapnlopeipdjmaaDoorFrmP
import Derived.Test.YtapnlopeipdjmaaDoorNum
import Derived.Test.YtapnlopeipdjmaaDoorSam
namespace Go.Proofs.YtapnlopeipdjmaaDoor
open Go.RowKit
namespace Tk

theorem results_tmp3' {fn : Func} {t u v : Tmp} (h : fn.results = #[.tmp t, .tmp u, .tmp v]) (tmps : Array Value) (P : Program) (w : World) :
    (results fn tmps).run P w = .ok (.tuple #[tmps.getD t undef, tmps.getD u undef, tmps.getD v undef]) w := by
  simp [results, h]
theorem retB3 {a b : Bool} (h : a = b) : Ending.returned (.bool a) = .returned (.bool b) := by rw [h]
set_option maxHeartbeats 2000000 in
theorem bare_any (m : ByteArray) (s : Int) (w : World) :
    Calls Tryd.prog 15 #[.string m, .int .i64 s] w fun e w' => e = .returned (.bool (bareB (bs m) s)) ∧ w = w' := by
  by_cases hH : bs m = [72, 69, 65, 68]
  · have x1 : (m.toList == [72, 69, 65, 68]) = true := by rw [toList_bs, hH]; rfl
    have HF : Hid (bareB (bs m) s = true) := by show bareB _ _ = true; unfold bareB; simp [hH]
    clear hH
    go_enter Tryd.func15, Tryd.ntmps15
    go_wp2_with fail
    go_ret
    exact ⟨by rw [HF.out]; rfl, rfl⟩
  · have x1 : (m.toList == [72, 69, 65, 68]) = false := by rw [toList_bs]; exact beq_eq_false_iff_ne.2 hH
    have hB : bareB (bs m) s = ((decide (100 ≤ s) && decide (s ≤ 199)) || decide (s = 204) || decide (s = 304) || (decide (bs m = [67, 79, 78, 78, 69, 67, 84]) && decide (200 ≤ s) && decide (s ≤ 299))) := by unfold bareB; simp [hH]
    have hC : bs m = [67, 79, 78, 78, 69, 67, 84] ∧ (m.toList == [67, 79, 78, 78, 69, 67, 84]) = true ∨ bs m ≠ [67, 79, 78, 78, 69, 67, 84] ∧ (m.toList == [67, 79, 78, 78, 69, 67, 84]) = false := by
      by_cases hc : bs m = [67, 79, 78, 78, 69, 67, 84]
      · exact .inl ⟨hc, by rw [toList_bs, hc]; rfl⟩
      · exact .inr ⟨hc, by rw [toList_bs]; exact beq_eq_false_iff_ne.2 hc⟩
    clear hH
    have e204 : s = 204 ∧ (s == 204) = true ∨ s ≠ 204 ∧ (s == 204) = false := by
      by_cases h : s = 204
      · exact .inl ⟨h, by rw [h]; rfl⟩
      · exact .inr ⟨h, beq_eq_false_iff_ne.2 h⟩
    have e304 : s = 304 ∧ (s == 304) = true ∨ s ≠ 304 ∧ (s == 304) = false := by
      by_cases h : s = 304
      · exact .inl ⟨h, by rw [h]; rfl⟩
      · exact .inr ⟨h, beq_eq_false_iff_ne.2 h⟩
    rcases e204 with ⟨h2, b2⟩ | ⟨h2, b2⟩ <;> rcases e304 with ⟨h3, b3⟩ | ⟨h3, b3⟩ <;> rcases hC with ⟨hc, bc⟩ | ⟨hc, bc⟩ <;> by_cases k0 : 100 ≤ s <;> by_cases k1 : s ≤ 199 <;> by_cases k2 : 200 ≤ s <;> by_cases k3 : s ≤ 299
    all_goals
      first
      | omega
      | (have HF := Lib.hid hB
         have H2 := Lib.hid h2
         have H3 := Lib.hid h3
         have HC := Lib.hid hc
         clear hB h2 h3 hc
         go_enter Tryd.func15, Tryd.ntmps15
         go_wp2_with fail
         go_ret
         have h2 := H2.out
         have h3 := H3.out
         have hc := HC.out
         exact ⟨retB3 (by rw [HF.out]; simp [h2, h3, hc] <;> omega), rfl⟩)

set_option maxHeartbeats 1000000 in
theorem has_any (v : Value) (l : List (Bs × Bs)) (name : Bs) (w : World) (hs : IsFlds w v l) (hz : sumF l ≤ 1000000) (hn : name.length ≤ 1099511627776) (hl : l.length ≤ 1048576) :
    Calls Tryd.prog 59 #[v, .string (mkS name)] w fun e w' => e = .returned (.bool (hasF l name)) ∧ Below w.heap.size w w' := by
  have HG := Lib.hid (fget_any v l name w hs (by omega) hn hl)
  have hh : hasF l name = decide (0 < (allF l name).length) := rfl
  rw [← hh] at HG
  obtain ⟨a, cap, rfl⟩ : ∃ a cap, v = .slice a l.length cap := by obtain ⟨a, c, h, -⟩ := hs; exact ⟨a, c, h⟩
  clear hs hz hh
  go_enter Tryd.func59, Tryd.ntmps59
  go_wp2_with fail
  refine HG.out.mono ?_
  rintro e w1 ⟨rfl, hb⟩
  have HB := Lib.hid hb
  clear hb
  go_wp2_with fail
  go_ret
  exact ⟨rfl, HB.out⟩

end Tk
end Go.Proofs.YtapnlopeipdjmaaDoor
