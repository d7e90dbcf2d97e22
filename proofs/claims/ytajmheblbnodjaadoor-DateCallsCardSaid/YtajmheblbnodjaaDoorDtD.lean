/- date: the number of a month; clocks. -/
import Derived.Test.YtajmheblbnodjaaDoorDtC
namespace Go.Proofs.YtajmheblbnodjaaDoor
open Go.RowKit
namespace Tk

theorem monGo_yes (r : List Bs) (k : Int) (a l : Bs) (h : a = l) : monGo (a :: r) k l = k := by rw [monGo, if_pos h]
theorem monGo_no (r : List Bs) (k : Int) (a l : Bs) (h : ¬ a = l) : monGo (a :: r) k l = monGo r (k + 1) l := by rw [monGo, if_neg h]
theorem mN_drop (k : Nat) (h : k < 12) : mN.drop k = mN.getD k [] :: mN.drop (k + 1) := by
  have : k = 0 ∨ k = 1 ∨ k = 2 ∨ k = 3 ∨ k = 4 ∨ k = 5 ∨ k = 6 ∨ k = 7 ∨ k = 8 ∨ k = 9 ∨ k = 10 ∨ k = 11 := by omega
  rcases this with rfl | rfl | rfl | rfl | rfl | rfl | rfl | rfl | rfl | rfl | rfl | rfl <;> rfl
theorem mN_at (k : Nat) (h : k < 12) : ((mN.map fun l => Value.string (mkS l)).toArray)[k]? = some (.string (mkS (mN.getD k []))) := by
  have : k = 0 ∨ k = 1 ∨ k = 2 ∨ k = 3 ∨ k = 4 ∨ k = 5 ∨ k = 6 ∨ k = 7 ∨ k = 8 ∨ k = 9 ∨ k = 10 ∨ k = 11 := by omega
  rcases this with rfl | rfl | rfl | rfl | rfl | rfl | rfl | rfl | rfl | rfl | rfl | rfl <;> rfl

theorem idx_0 (m0 m1 m2 m3 m4 m5 m6 m7 m8 m9 m10 m11 : ByteArray) (w : World) : (Instr.index 70 (.agg #[.string m0, .string m1, .string m2, .string m3, .string m4, .string m5, .string m6, .string m7, .string m8, .string m9, .string m10, .string m11]) (.int .i64 0)).run Tryd.prog w = .ok (.string m0) w := by simp [Instr.index, run_underlying Tryd.underlying70, asIntOf, go_sem]
theorem idx_1 (m0 m1 m2 m3 m4 m5 m6 m7 m8 m9 m10 m11 : ByteArray) (w : World) : (Instr.index 70 (.agg #[.string m0, .string m1, .string m2, .string m3, .string m4, .string m5, .string m6, .string m7, .string m8, .string m9, .string m10, .string m11]) (.int .i64 1)).run Tryd.prog w = .ok (.string m1) w := by simp [Instr.index, run_underlying Tryd.underlying70, asIntOf, go_sem]
theorem idx_2 (m0 m1 m2 m3 m4 m5 m6 m7 m8 m9 m10 m11 : ByteArray) (w : World) : (Instr.index 70 (.agg #[.string m0, .string m1, .string m2, .string m3, .string m4, .string m5, .string m6, .string m7, .string m8, .string m9, .string m10, .string m11]) (.int .i64 2)).run Tryd.prog w = .ok (.string m2) w := by simp [Instr.index, run_underlying Tryd.underlying70, asIntOf, go_sem]
theorem idx_3 (m0 m1 m2 m3 m4 m5 m6 m7 m8 m9 m10 m11 : ByteArray) (w : World) : (Instr.index 70 (.agg #[.string m0, .string m1, .string m2, .string m3, .string m4, .string m5, .string m6, .string m7, .string m8, .string m9, .string m10, .string m11]) (.int .i64 3)).run Tryd.prog w = .ok (.string m3) w := by simp [Instr.index, run_underlying Tryd.underlying70, asIntOf, go_sem]
theorem idx_4 (m0 m1 m2 m3 m4 m5 m6 m7 m8 m9 m10 m11 : ByteArray) (w : World) : (Instr.index 70 (.agg #[.string m0, .string m1, .string m2, .string m3, .string m4, .string m5, .string m6, .string m7, .string m8, .string m9, .string m10, .string m11]) (.int .i64 4)).run Tryd.prog w = .ok (.string m4) w := by simp [Instr.index, run_underlying Tryd.underlying70, asIntOf, go_sem]
theorem idx_5 (m0 m1 m2 m3 m4 m5 m6 m7 m8 m9 m10 m11 : ByteArray) (w : World) : (Instr.index 70 (.agg #[.string m0, .string m1, .string m2, .string m3, .string m4, .string m5, .string m6, .string m7, .string m8, .string m9, .string m10, .string m11]) (.int .i64 5)).run Tryd.prog w = .ok (.string m5) w := by simp [Instr.index, run_underlying Tryd.underlying70, asIntOf, go_sem]
theorem idx_6 (m0 m1 m2 m3 m4 m5 m6 m7 m8 m9 m10 m11 : ByteArray) (w : World) : (Instr.index 70 (.agg #[.string m0, .string m1, .string m2, .string m3, .string m4, .string m5, .string m6, .string m7, .string m8, .string m9, .string m10, .string m11]) (.int .i64 6)).run Tryd.prog w = .ok (.string m6) w := by simp [Instr.index, run_underlying Tryd.underlying70, asIntOf, go_sem]
theorem idx_7 (m0 m1 m2 m3 m4 m5 m6 m7 m8 m9 m10 m11 : ByteArray) (w : World) : (Instr.index 70 (.agg #[.string m0, .string m1, .string m2, .string m3, .string m4, .string m5, .string m6, .string m7, .string m8, .string m9, .string m10, .string m11]) (.int .i64 7)).run Tryd.prog w = .ok (.string m7) w := by simp [Instr.index, run_underlying Tryd.underlying70, asIntOf, go_sem]
theorem idx_8 (m0 m1 m2 m3 m4 m5 m6 m7 m8 m9 m10 m11 : ByteArray) (w : World) : (Instr.index 70 (.agg #[.string m0, .string m1, .string m2, .string m3, .string m4, .string m5, .string m6, .string m7, .string m8, .string m9, .string m10, .string m11]) (.int .i64 8)).run Tryd.prog w = .ok (.string m8) w := by simp [Instr.index, run_underlying Tryd.underlying70, asIntOf, go_sem]
theorem idx_9 (m0 m1 m2 m3 m4 m5 m6 m7 m8 m9 m10 m11 : ByteArray) (w : World) : (Instr.index 70 (.agg #[.string m0, .string m1, .string m2, .string m3, .string m4, .string m5, .string m6, .string m7, .string m8, .string m9, .string m10, .string m11]) (.int .i64 9)).run Tryd.prog w = .ok (.string m9) w := by simp [Instr.index, run_underlying Tryd.underlying70, asIntOf, go_sem]
theorem idx_10 (m0 m1 m2 m3 m4 m5 m6 m7 m8 m9 m10 m11 : ByteArray) (w : World) : (Instr.index 70 (.agg #[.string m0, .string m1, .string m2, .string m3, .string m4, .string m5, .string m6, .string m7, .string m8, .string m9, .string m10, .string m11]) (.int .i64 10)).run Tryd.prog w = .ok (.string m10) w := by simp [Instr.index, run_underlying Tryd.underlying70, asIntOf, go_sem]
theorem idx_11 (m0 m1 m2 m3 m4 m5 m6 m7 m8 m9 m10 m11 : ByteArray) (w : World) : (Instr.index 70 (.agg #[.string m0, .string m1, .string m2, .string m3, .string m4, .string m5, .string m6, .string m7, .string m8, .string m9, .string m10, .string m11]) (.int .i64 11)).run Tryd.prog w = .ok (.string m11) w := by simp [Instr.index, run_underlying Tryd.underlying70, asIntOf, go_sem]

set_option maxHeartbeats 8000000 in
set_option maxRecDepth 100000 in
theorem monthNumber_any (s : ByteArray) (w : World) (hT : NamH w) :
    Calls Tryd.prog 71 #[.string s] w fun e w' => e = .returned (.int .i64 (monNo (bs s))) ∧ w = w' := by
  have hc := hT.monC
  have q0 := hc 0 (by decide)
  have q1 := hc 1 (by decide)
  have q2 := hc 2 (by decide)
  have q3 := hc 3 (by decide)
  have q4 := hc 4 (by decide)
  have q5 := hc 5 (by decide)
  have q6 := hc 6 (by decide)
  have q7 := hc 7 (by decide)
  have q8 := hc 8 (by decide)
  have q9 := hc 9 (by decide)
  have q10 := hc 10 (by decide)
  have q11 := hc 11 (by decide)
  have HG := Lib.hid (show monNo (bs s) = monGo (mN.drop 0) (((0 : Nat) : Int) + 1) (bs s) from rfl)
  have HEnd := Lib.hid (show ∀ k, monGo (mN.drop 12) k (bs s) = 0 from fun _ => rfl)
  have HY := Lib.hid (fun (k : Nat) (h : k < 12) (he : mkS (mN.getD k []) = s) => show monGo (mN.drop k) ((k : Int) + 1) (bs s) = (k : Int) + 1 by
    rw [mN_drop k h, monGo_yes _ _ _ _ (by rw [← he, bs_mkS])])
  have HN := Lib.hid (fun (k : Nat) (h : k < 12) (he : ¬ mkS (mN.getD k []) = s) => show monGo (mN.drop k) ((k : Int) + 1) (bs s) = monGo (mN.drop (k + 1)) (((k + 1 : Nat) : Int) + 1) (bs s) by
    rw [mN_drop k h, monGo_no _ _ _ _ (fun e => he (by rw [e, mkS_bs]))]; congr 1)
  have HY0 := Lib.hid (HY.out 0 (by decide))
  have HN0 := Lib.hid (HN.out 0 (by decide))
  have HY1 := Lib.hid (HY.out 1 (by decide))
  have HN1 := Lib.hid (HN.out 1 (by decide))
  have HY2 := Lib.hid (HY.out 2 (by decide))
  have HN2 := Lib.hid (HN.out 2 (by decide))
  have HY3 := Lib.hid (HY.out 3 (by decide))
  have HN3 := Lib.hid (HN.out 3 (by decide))
  have HY4 := Lib.hid (HY.out 4 (by decide))
  have HN4 := Lib.hid (HN.out 4 (by decide))
  have HY5 := Lib.hid (HY.out 5 (by decide))
  have HN5 := Lib.hid (HN.out 5 (by decide))
  have HY6 := Lib.hid (HY.out 6 (by decide))
  have HN6 := Lib.hid (HN.out 6 (by decide))
  have HY7 := Lib.hid (HY.out 7 (by decide))
  have HN7 := Lib.hid (HN.out 7 (by decide))
  have HY8 := Lib.hid (HY.out 8 (by decide))
  have HN8 := Lib.hid (HN.out 8 (by decide))
  have HY9 := Lib.hid (HY.out 9 (by decide))
  have HN9 := Lib.hid (HN.out 9 (by decide))
  have HY10 := Lib.hid (HY.out 10 (by decide))
  have HN10 := Lib.hid (HN.out 10 (by decide))
  have HY11 := Lib.hid (HY.out 11 (by decide))
  have HN11 := Lib.hid (HN.out 11 (by decide))
  clear hc hT HY HN
  generalize mkS (mN.getD 0 []) = m0 at *
  generalize mkS (mN.getD 1 []) = m1 at *
  generalize mkS (mN.getD 2 []) = m2 at *
  generalize mkS (mN.getD 3 []) = m3 at *
  generalize mkS (mN.getD 4 []) = m4 at *
  generalize mkS (mN.getD 5 []) = m5 at *
  generalize mkS (mN.getD 6 []) = m6 at *
  generalize mkS (mN.getD 7 []) = m7 at *
  generalize mkS (mN.getD 8 []) = m8 at *
  generalize mkS (mN.getD 9 []) = m9 at *
  generalize mkS (mN.getD 10 []) = m10 at *
  generalize mkS (mN.getD 11 []) = m11 at *
  go_enter Tryd.func71, Tryd.ntmps71
  go_wp2_with fail
  go_loop [3, 4, 6] (fun _ _ vk => ∃ k : Nat, k ≤ 12 ∧ vk = .int .i64 (k : Int) ∧ Hid (monNo (bs s) = monGo (mN.drop k) ((k : Int) + 1) (bs s))) (fun _ _ vk => (12 - RowKit.intOf vk).toNat)
  case atStart => exact ⟨0, by omega, rfl, HG.out⟩
  case round =>
    obtain ⟨k, hk, rfl, HI⟩ := hrel
    have hks : k = 0 ∨ k = 1 ∨ k = 2 ∨ k = 3 ∨ k = 4 ∨ k = 5 ∨ k = 6 ∨ k = 7 ∨ k = 8 ∨ k = 9 ∨ k = 10 ∨ k = 11 ∨ k = 12 := by omega
    rcases hks with rfl | rfl | rfl | rfl | rfl | rfl | rfl | rfl | rfl | rfl | rfl | rfl | rfl
    · have i1 := idx_0 m0 m1 m2 m3 m4 m5 m6 m7 m8 m9 m10 m11 w
      by_cases he : m0 = s
      · have e1 : (m0.toList == s.toList) = true := by rw [he]; exact beq_self_eq_true _
        have HF := Lib.hid (HI.out.trans (HY0.out he))
        clear HG HI HEnd he
        go_wp2_with fail
        go_ret
        exact ⟨retId (by rw [HF.out]; rfl), rfl⟩
      · have e1 : (m0.toList == s.toList) = false := beq_eq_false_iff_ne.2 fun e => he (by rw [← mkS_bs m0, ← mkS_bs s, ← toList_bs, ← toList_bs, e])
        have HF := Lib.hid (HI.out.trans (HN0.out he))
        clear HG HI HEnd he
        go_wp2_with fail
        exact ⟨⟨1, by omega, by go_num, HF⟩, by simp only [RowKit.intOf]; omega⟩
    · have i1 := idx_1 m0 m1 m2 m3 m4 m5 m6 m7 m8 m9 m10 m11 w
      by_cases he : m1 = s
      · have e1 : (m1.toList == s.toList) = true := by rw [he]; exact beq_self_eq_true _
        have HF := Lib.hid (HI.out.trans (HY1.out he))
        clear HG HI HEnd he
        go_wp2_with fail
        go_ret
        exact ⟨retId (by rw [HF.out]; rfl), rfl⟩
      · have e1 : (m1.toList == s.toList) = false := beq_eq_false_iff_ne.2 fun e => he (by rw [← mkS_bs m1, ← mkS_bs s, ← toList_bs, ← toList_bs, e])
        have HF := Lib.hid (HI.out.trans (HN1.out he))
        clear HG HI HEnd he
        go_wp2_with fail
        exact ⟨⟨2, by omega, by go_num, HF⟩, by simp only [RowKit.intOf]; omega⟩
    · have i1 := idx_2 m0 m1 m2 m3 m4 m5 m6 m7 m8 m9 m10 m11 w
      by_cases he : m2 = s
      · have e1 : (m2.toList == s.toList) = true := by rw [he]; exact beq_self_eq_true _
        have HF := Lib.hid (HI.out.trans (HY2.out he))
        clear HG HI HEnd he
        go_wp2_with fail
        go_ret
        exact ⟨retId (by rw [HF.out]; rfl), rfl⟩
      · have e1 : (m2.toList == s.toList) = false := beq_eq_false_iff_ne.2 fun e => he (by rw [← mkS_bs m2, ← mkS_bs s, ← toList_bs, ← toList_bs, e])
        have HF := Lib.hid (HI.out.trans (HN2.out he))
        clear HG HI HEnd he
        go_wp2_with fail
        exact ⟨⟨3, by omega, by go_num, HF⟩, by simp only [RowKit.intOf]; omega⟩
    · have i1 := idx_3 m0 m1 m2 m3 m4 m5 m6 m7 m8 m9 m10 m11 w
      by_cases he : m3 = s
      · have e1 : (m3.toList == s.toList) = true := by rw [he]; exact beq_self_eq_true _
        have HF := Lib.hid (HI.out.trans (HY3.out he))
        clear HG HI HEnd he
        go_wp2_with fail
        go_ret
        exact ⟨retId (by rw [HF.out]; rfl), rfl⟩
      · have e1 : (m3.toList == s.toList) = false := beq_eq_false_iff_ne.2 fun e => he (by rw [← mkS_bs m3, ← mkS_bs s, ← toList_bs, ← toList_bs, e])
        have HF := Lib.hid (HI.out.trans (HN3.out he))
        clear HG HI HEnd he
        go_wp2_with fail
        exact ⟨⟨4, by omega, by go_num, HF⟩, by simp only [RowKit.intOf]; omega⟩
    · have i1 := idx_4 m0 m1 m2 m3 m4 m5 m6 m7 m8 m9 m10 m11 w
      by_cases he : m4 = s
      · have e1 : (m4.toList == s.toList) = true := by rw [he]; exact beq_self_eq_true _
        have HF := Lib.hid (HI.out.trans (HY4.out he))
        clear HG HI HEnd he
        go_wp2_with fail
        go_ret
        exact ⟨retId (by rw [HF.out]; rfl), rfl⟩
      · have e1 : (m4.toList == s.toList) = false := beq_eq_false_iff_ne.2 fun e => he (by rw [← mkS_bs m4, ← mkS_bs s, ← toList_bs, ← toList_bs, e])
        have HF := Lib.hid (HI.out.trans (HN4.out he))
        clear HG HI HEnd he
        go_wp2_with fail
        exact ⟨⟨5, by omega, by go_num, HF⟩, by simp only [RowKit.intOf]; omega⟩
    · have i1 := idx_5 m0 m1 m2 m3 m4 m5 m6 m7 m8 m9 m10 m11 w
      by_cases he : m5 = s
      · have e1 : (m5.toList == s.toList) = true := by rw [he]; exact beq_self_eq_true _
        have HF := Lib.hid (HI.out.trans (HY5.out he))
        clear HG HI HEnd he
        go_wp2_with fail
        go_ret
        exact ⟨retId (by rw [HF.out]; rfl), rfl⟩
      · have e1 : (m5.toList == s.toList) = false := beq_eq_false_iff_ne.2 fun e => he (by rw [← mkS_bs m5, ← mkS_bs s, ← toList_bs, ← toList_bs, e])
        have HF := Lib.hid (HI.out.trans (HN5.out he))
        clear HG HI HEnd he
        go_wp2_with fail
        exact ⟨⟨6, by omega, by go_num, HF⟩, by simp only [RowKit.intOf]; omega⟩
    · have i1 := idx_6 m0 m1 m2 m3 m4 m5 m6 m7 m8 m9 m10 m11 w
      by_cases he : m6 = s
      · have e1 : (m6.toList == s.toList) = true := by rw [he]; exact beq_self_eq_true _
        have HF := Lib.hid (HI.out.trans (HY6.out he))
        clear HG HI HEnd he
        go_wp2_with fail
        go_ret
        exact ⟨retId (by rw [HF.out]; rfl), rfl⟩
      · have e1 : (m6.toList == s.toList) = false := beq_eq_false_iff_ne.2 fun e => he (by rw [← mkS_bs m6, ← mkS_bs s, ← toList_bs, ← toList_bs, e])
        have HF := Lib.hid (HI.out.trans (HN6.out he))
        clear HG HI HEnd he
        go_wp2_with fail
        exact ⟨⟨7, by omega, by go_num, HF⟩, by simp only [RowKit.intOf]; omega⟩
    · have i1 := idx_7 m0 m1 m2 m3 m4 m5 m6 m7 m8 m9 m10 m11 w
      by_cases he : m7 = s
      · have e1 : (m7.toList == s.toList) = true := by rw [he]; exact beq_self_eq_true _
        have HF := Lib.hid (HI.out.trans (HY7.out he))
        clear HG HI HEnd he
        go_wp2_with fail
        go_ret
        exact ⟨retId (by rw [HF.out]; rfl), rfl⟩
      · have e1 : (m7.toList == s.toList) = false := beq_eq_false_iff_ne.2 fun e => he (by rw [← mkS_bs m7, ← mkS_bs s, ← toList_bs, ← toList_bs, e])
        have HF := Lib.hid (HI.out.trans (HN7.out he))
        clear HG HI HEnd he
        go_wp2_with fail
        exact ⟨⟨8, by omega, by go_num, HF⟩, by simp only [RowKit.intOf]; omega⟩
    · have i1 := idx_8 m0 m1 m2 m3 m4 m5 m6 m7 m8 m9 m10 m11 w
      by_cases he : m8 = s
      · have e1 : (m8.toList == s.toList) = true := by rw [he]; exact beq_self_eq_true _
        have HF := Lib.hid (HI.out.trans (HY8.out he))
        clear HG HI HEnd he
        go_wp2_with fail
        go_ret
        exact ⟨retId (by rw [HF.out]; rfl), rfl⟩
      · have e1 : (m8.toList == s.toList) = false := beq_eq_false_iff_ne.2 fun e => he (by rw [← mkS_bs m8, ← mkS_bs s, ← toList_bs, ← toList_bs, e])
        have HF := Lib.hid (HI.out.trans (HN8.out he))
        clear HG HI HEnd he
        go_wp2_with fail
        exact ⟨⟨9, by omega, by go_num, HF⟩, by simp only [RowKit.intOf]; omega⟩
    · have i1 := idx_9 m0 m1 m2 m3 m4 m5 m6 m7 m8 m9 m10 m11 w
      by_cases he : m9 = s
      · have e1 : (m9.toList == s.toList) = true := by rw [he]; exact beq_self_eq_true _
        have HF := Lib.hid (HI.out.trans (HY9.out he))
        clear HG HI HEnd he
        go_wp2_with fail
        go_ret
        exact ⟨retId (by rw [HF.out]; rfl), rfl⟩
      · have e1 : (m9.toList == s.toList) = false := beq_eq_false_iff_ne.2 fun e => he (by rw [← mkS_bs m9, ← mkS_bs s, ← toList_bs, ← toList_bs, e])
        have HF := Lib.hid (HI.out.trans (HN9.out he))
        clear HG HI HEnd he
        go_wp2_with fail
        exact ⟨⟨10, by omega, by go_num, HF⟩, by simp only [RowKit.intOf]; omega⟩
    · have i1 := idx_10 m0 m1 m2 m3 m4 m5 m6 m7 m8 m9 m10 m11 w
      by_cases he : m10 = s
      · have e1 : (m10.toList == s.toList) = true := by rw [he]; exact beq_self_eq_true _
        have HF := Lib.hid (HI.out.trans (HY10.out he))
        clear HG HI HEnd he
        go_wp2_with fail
        go_ret
        exact ⟨retId (by rw [HF.out]; rfl), rfl⟩
      · have e1 : (m10.toList == s.toList) = false := beq_eq_false_iff_ne.2 fun e => he (by rw [← mkS_bs m10, ← mkS_bs s, ← toList_bs, ← toList_bs, e])
        have HF := Lib.hid (HI.out.trans (HN10.out he))
        clear HG HI HEnd he
        go_wp2_with fail
        exact ⟨⟨11, by omega, by go_num, HF⟩, by simp only [RowKit.intOf]; omega⟩
    · have i1 := idx_11 m0 m1 m2 m3 m4 m5 m6 m7 m8 m9 m10 m11 w
      by_cases he : m11 = s
      · have e1 : (m11.toList == s.toList) = true := by rw [he]; exact beq_self_eq_true _
        have HF := Lib.hid (HI.out.trans (HY11.out he))
        clear HG HI HEnd he
        go_wp2_with fail
        go_ret
        exact ⟨retId (by rw [HF.out]; rfl), rfl⟩
      · have e1 : (m11.toList == s.toList) = false := beq_eq_false_iff_ne.2 fun e => he (by rw [← mkS_bs m11, ← mkS_bs s, ← toList_bs, ← toList_bs, e])
        have HF := Lib.hid (HI.out.trans (HN11.out he))
        clear HG HI HEnd he
        go_wp2_with fail
        exact ⟨⟨12, by omega, by go_num, HF⟩, by simp only [RowKit.intOf]; omega⟩
    · have HF := Lib.hid (HI.out.trans (HEnd.out _))
      go_wp2_with fail
      go_ret
      exact ⟨retId (by rw [HF.out]), rfl⟩
end Tk
end Go.Proofs.YtajmheblbnodjaaDoor
