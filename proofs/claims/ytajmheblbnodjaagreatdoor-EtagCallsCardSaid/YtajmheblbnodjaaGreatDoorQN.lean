/- DtD DtE DtF, put together. -/
import Derived.Test.YtajmheblbnodjaaGreatDoorQM
import Derived.Deep.Cut
namespace Go.Proofs.YtajmheblbnodjaaGreatDoor
open Go.RowKit
namespace Tk

theorem monGo_yes (r : List Bs) (k : Int) (a l : Bs) (h : a = l) : monGo (a :: r) k l = k := by rw [monGo, if_pos h]
theorem monGo_no (r : List Bs) (k : Int) (a l : Bs) (h : ¬ a = l) : monGo (a :: r) k l = monGo r (k + 1) l := by rw [monGo, if_neg h]
theorem mN_drop (k : Nat) (h : k < 12) : mN.drop k = mN.getD k [] :: mN.drop (k + 1) := by
  have : k = 0 ∨ k = 1 ∨ k = 2 ∨ k = 3 ∨ k = 4 ∨ k = 5 ∨ k = 6 ∨ k = 7 ∨ k = 8 ∨ k = 9 ∨ k = 10 ∨ k = 11 := by omega
  rcases this with rfl | rfl | rfl | rfl | rfl | rfl | rfl | rfl | rfl | rfl | rfl | rfl <;> rfl
theorem mN_at (k : Nat) (h : k < 12) : ((mN.map fun l => Value.string (mkS l)).toArray)[k]? = some (.string (mkS (mN.getD k []))) := by
  have : k = 0 ∨ k = 1 ∨ k = 2 ∨ k = 3 ∨ k = 4 ∨ k = 5 ∨ k = 6 ∨ k = 7 ∨ k = 8 ∨ k = 9 ∨ k = 10 ∨ k = 11 := by omega
  rcases this with rfl | rfl | rfl | rfl | rfl | rfl | rfl | rfl | rfl | rfl | rfl | rfl <;> rfl

theorem idx_0 (m0 m1 m2 m3 m4 m5 m6 m7 m8 m9 m10 m11 : ByteArray) (w : World) : (Instr.index 236 (.agg #[.string m0, .string m1, .string m2, .string m3, .string m4, .string m5, .string m6, .string m7, .string m8, .string m9, .string m10, .string m11]) (.int .i64 0)).run Tryz.prog w = .ok (.string m0) w := by simp [Instr.index, run_underlying Tryz.underlying236, asIntOf, go_sem]
theorem idx_1 (m0 m1 m2 m3 m4 m5 m6 m7 m8 m9 m10 m11 : ByteArray) (w : World) : (Instr.index 236 (.agg #[.string m0, .string m1, .string m2, .string m3, .string m4, .string m5, .string m6, .string m7, .string m8, .string m9, .string m10, .string m11]) (.int .i64 1)).run Tryz.prog w = .ok (.string m1) w := by simp [Instr.index, run_underlying Tryz.underlying236, asIntOf, go_sem]
theorem idx_2 (m0 m1 m2 m3 m4 m5 m6 m7 m8 m9 m10 m11 : ByteArray) (w : World) : (Instr.index 236 (.agg #[.string m0, .string m1, .string m2, .string m3, .string m4, .string m5, .string m6, .string m7, .string m8, .string m9, .string m10, .string m11]) (.int .i64 2)).run Tryz.prog w = .ok (.string m2) w := by simp [Instr.index, run_underlying Tryz.underlying236, asIntOf, go_sem]
theorem idx_3 (m0 m1 m2 m3 m4 m5 m6 m7 m8 m9 m10 m11 : ByteArray) (w : World) : (Instr.index 236 (.agg #[.string m0, .string m1, .string m2, .string m3, .string m4, .string m5, .string m6, .string m7, .string m8, .string m9, .string m10, .string m11]) (.int .i64 3)).run Tryz.prog w = .ok (.string m3) w := by simp [Instr.index, run_underlying Tryz.underlying236, asIntOf, go_sem]
theorem idx_4 (m0 m1 m2 m3 m4 m5 m6 m7 m8 m9 m10 m11 : ByteArray) (w : World) : (Instr.index 236 (.agg #[.string m0, .string m1, .string m2, .string m3, .string m4, .string m5, .string m6, .string m7, .string m8, .string m9, .string m10, .string m11]) (.int .i64 4)).run Tryz.prog w = .ok (.string m4) w := by simp [Instr.index, run_underlying Tryz.underlying236, asIntOf, go_sem]
theorem idx_5 (m0 m1 m2 m3 m4 m5 m6 m7 m8 m9 m10 m11 : ByteArray) (w : World) : (Instr.index 236 (.agg #[.string m0, .string m1, .string m2, .string m3, .string m4, .string m5, .string m6, .string m7, .string m8, .string m9, .string m10, .string m11]) (.int .i64 5)).run Tryz.prog w = .ok (.string m5) w := by simp [Instr.index, run_underlying Tryz.underlying236, asIntOf, go_sem]
theorem idx_6 (m0 m1 m2 m3 m4 m5 m6 m7 m8 m9 m10 m11 : ByteArray) (w : World) : (Instr.index 236 (.agg #[.string m0, .string m1, .string m2, .string m3, .string m4, .string m5, .string m6, .string m7, .string m8, .string m9, .string m10, .string m11]) (.int .i64 6)).run Tryz.prog w = .ok (.string m6) w := by simp [Instr.index, run_underlying Tryz.underlying236, asIntOf, go_sem]
theorem idx_7 (m0 m1 m2 m3 m4 m5 m6 m7 m8 m9 m10 m11 : ByteArray) (w : World) : (Instr.index 236 (.agg #[.string m0, .string m1, .string m2, .string m3, .string m4, .string m5, .string m6, .string m7, .string m8, .string m9, .string m10, .string m11]) (.int .i64 7)).run Tryz.prog w = .ok (.string m7) w := by simp [Instr.index, run_underlying Tryz.underlying236, asIntOf, go_sem]
theorem idx_8 (m0 m1 m2 m3 m4 m5 m6 m7 m8 m9 m10 m11 : ByteArray) (w : World) : (Instr.index 236 (.agg #[.string m0, .string m1, .string m2, .string m3, .string m4, .string m5, .string m6, .string m7, .string m8, .string m9, .string m10, .string m11]) (.int .i64 8)).run Tryz.prog w = .ok (.string m8) w := by simp [Instr.index, run_underlying Tryz.underlying236, asIntOf, go_sem]
theorem idx_9 (m0 m1 m2 m3 m4 m5 m6 m7 m8 m9 m10 m11 : ByteArray) (w : World) : (Instr.index 236 (.agg #[.string m0, .string m1, .string m2, .string m3, .string m4, .string m5, .string m6, .string m7, .string m8, .string m9, .string m10, .string m11]) (.int .i64 9)).run Tryz.prog w = .ok (.string m9) w := by simp [Instr.index, run_underlying Tryz.underlying236, asIntOf, go_sem]
theorem idx_10 (m0 m1 m2 m3 m4 m5 m6 m7 m8 m9 m10 m11 : ByteArray) (w : World) : (Instr.index 236 (.agg #[.string m0, .string m1, .string m2, .string m3, .string m4, .string m5, .string m6, .string m7, .string m8, .string m9, .string m10, .string m11]) (.int .i64 10)).run Tryz.prog w = .ok (.string m10) w := by simp [Instr.index, run_underlying Tryz.underlying236, asIntOf, go_sem]
theorem idx_11 (m0 m1 m2 m3 m4 m5 m6 m7 m8 m9 m10 m11 : ByteArray) (w : World) : (Instr.index 236 (.agg #[.string m0, .string m1, .string m2, .string m3, .string m4, .string m5, .string m6, .string m7, .string m8, .string m9, .string m10, .string m11]) (.int .i64 11)).run Tryz.prog w = .ok (.string m11) w := by simp [Instr.index, run_underlying Tryz.underlying236, asIntOf, go_sem]

set_option maxHeartbeats 8000000 in
set_option maxRecDepth 100000 in
theorem monthNumber_any (s : ByteArray) (w : World) (hT : NamH w) :
    Calls Tryz.prog 286 #[.string s] w fun e w' => e = .returned (.int .i64 (monNo (bs s))) ∧ w = w' := by
  have hc := hT.monC
  have q0 := hc 0 (by decide)
  have q1 := hc 1 (by decide)
  have q2 := hc 2 (by decide)
  have q3 := hc 3 (by decide)
  have q4 := hc 4 (by decide)
  have q5 := hc 5 (by decide)
  have q6 := hc 6 (by decide)
  have q7 := hc 7 (by decide)
  have q8 := hc 8 (by decide)
  have q9 := hc 9 (by decide)
  have q10 := hc 10 (by decide)
  have q11 := hc 11 (by decide)
  have HG := Lib.hid (show monNo (bs s) = monGo (mN.drop 0) (((0 : Nat) : Int) + 1) (bs s) from rfl)
  have HEnd := Lib.hid (show ∀ k, monGo (mN.drop 12) k (bs s) = 0 from fun _ => rfl)
  have HY := Lib.hid (fun (k : Nat) (h : k < 12) (he : mkS (mN.getD k []) = s) => show monGo (mN.drop k) ((k : Int) + 1) (bs s) = (k : Int) + 1 by
    rw [mN_drop k h, monGo_yes _ _ _ _ (by rw [← he, bs_mkS])])
  have HN := Lib.hid (fun (k : Nat) (h : k < 12) (he : ¬ mkS (mN.getD k []) = s) => show monGo (mN.drop k) ((k : Int) + 1) (bs s) = monGo (mN.drop (k + 1)) (((k + 1 : Nat) : Int) + 1) (bs s) by
    rw [mN_drop k h, monGo_no _ _ _ _ (fun e => he (by rw [e, mkS_bs]))]; congr 1)
  have HY0 := Lib.hid (HY.out 0 (by decide))
  have HN0 := Lib.hid (HN.out 0 (by decide))
  have HY1 := Lib.hid (HY.out 1 (by decide))
  have HN1 := Lib.hid (HN.out 1 (by decide))
  have HY2 := Lib.hid (HY.out 2 (by decide))
  have HN2 := Lib.hid (HN.out 2 (by decide))
  have HY3 := Lib.hid (HY.out 3 (by decide))
  have HN3 := Lib.hid (HN.out 3 (by decide))
  have HY4 := Lib.hid (HY.out 4 (by decide))
  have HN4 := Lib.hid (HN.out 4 (by decide))
  have HY5 := Lib.hid (HY.out 5 (by decide))
  have HN5 := Lib.hid (HN.out 5 (by decide))
  have HY6 := Lib.hid (HY.out 6 (by decide))
  have HN6 := Lib.hid (HN.out 6 (by decide))
  have HY7 := Lib.hid (HY.out 7 (by decide))
  have HN7 := Lib.hid (HN.out 7 (by decide))
  have HY8 := Lib.hid (HY.out 8 (by decide))
  have HN8 := Lib.hid (HN.out 8 (by decide))
  have HY9 := Lib.hid (HY.out 9 (by decide))
  have HN9 := Lib.hid (HN.out 9 (by decide))
  have HY10 := Lib.hid (HY.out 10 (by decide))
  have HN10 := Lib.hid (HN.out 10 (by decide))
  have HY11 := Lib.hid (HY.out 11 (by decide))
  have HN11 := Lib.hid (HN.out 11 (by decide))
  clear hc hT HY HN
  generalize mkS (mN.getD 0 []) = m0 at *
  generalize mkS (mN.getD 1 []) = m1 at *
  generalize mkS (mN.getD 2 []) = m2 at *
  generalize mkS (mN.getD 3 []) = m3 at *
  generalize mkS (mN.getD 4 []) = m4 at *
  generalize mkS (mN.getD 5 []) = m5 at *
  generalize mkS (mN.getD 6 []) = m6 at *
  generalize mkS (mN.getD 7 []) = m7 at *
  generalize mkS (mN.getD 8 []) = m8 at *
  generalize mkS (mN.getD 9 []) = m9 at *
  generalize mkS (mN.getD 10 []) = m10 at *
  generalize mkS (mN.getD 11 []) = m11 at *
  go_enter Tryz.func286, Tryz.ntmps286
  go_wp2_with fail
  go_loop [3, 4, 6] (fun _ _ vk => ∃ k : Nat, k ≤ 12 ∧ vk = .int .i64 (k : Int) ∧ Hid (monNo (bs s) = monGo (mN.drop k) ((k : Int) + 1) (bs s))) (fun _ _ vk => (12 - RowKit.intOf vk).toNat)
  case atStart => exact ⟨0, by omega, rfl, HG.out⟩
  case round =>
    obtain ⟨k, hk, rfl, HI⟩ := hrel
    have hks : k = 0 ∨ k = 1 ∨ k = 2 ∨ k = 3 ∨ k = 4 ∨ k = 5 ∨ k = 6 ∨ k = 7 ∨ k = 8 ∨ k = 9 ∨ k = 10 ∨ k = 11 ∨ k = 12 := by omega
    rcases hks with rfl | rfl | rfl | rfl | rfl | rfl | rfl | rfl | rfl | rfl | rfl | rfl | rfl
    · have i1 := idx_0 m0 m1 m2 m3 m4 m5 m6 m7 m8 m9 m10 m11 w
      by_cases he : m0 = s
      · have e1 : (m0.toList == s.toList) = true := by rw [he]; exact beq_self_eq_true _
        have HF := Lib.hid (HI.out.trans (HY0.out he))
        clear HG HI HEnd he
        go_wp2_with fail
        go_ret
        exact ⟨retId (by rw [HF.out]; rfl), rfl⟩
      · have e1 : (m0.toList == s.toList) = false := beq_eq_false_iff_ne.2 fun e => he (by rw [← mkS_bs m0, ← mkS_bs s, ← toList_bs, ← toList_bs, e])
        have HF := Lib.hid (HI.out.trans (HN0.out he))
        clear HG HI HEnd he
        go_wp2_with fail
        exact ⟨⟨1, by omega, by go_num, HF⟩, by simp only [RowKit.intOf]; omega⟩
    · have i1 := idx_1 m0 m1 m2 m3 m4 m5 m6 m7 m8 m9 m10 m11 w
      by_cases he : m1 = s
      · have e1 : (m1.toList == s.toList) = true := by rw [he]; exact beq_self_eq_true _
        have HF := Lib.hid (HI.out.trans (HY1.out he))
        clear HG HI HEnd he
        go_wp2_with fail
        go_ret
        exact ⟨retId (by rw [HF.out]; rfl), rfl⟩
      · have e1 : (m1.toList == s.toList) = false := beq_eq_false_iff_ne.2 fun e => he (by rw [← mkS_bs m1, ← mkS_bs s, ← toList_bs, ← toList_bs, e])
        have HF := Lib.hid (HI.out.trans (HN1.out he))
        clear HG HI HEnd he
        go_wp2_with fail
        exact ⟨⟨2, by omega, by go_num, HF⟩, by simp only [RowKit.intOf]; omega⟩
    · have i1 := idx_2 m0 m1 m2 m3 m4 m5 m6 m7 m8 m9 m10 m11 w
      by_cases he : m2 = s
      · have e1 : (m2.toList == s.toList) = true := by rw [he]; exact beq_self_eq_true _
        have HF := Lib.hid (HI.out.trans (HY2.out he))
        clear HG HI HEnd he
        go_wp2_with fail
        go_ret
        exact ⟨retId (by rw [HF.out]; rfl), rfl⟩
      · have e1 : (m2.toList == s.toList) = false := beq_eq_false_iff_ne.2 fun e => he (by rw [← mkS_bs m2, ← mkS_bs s, ← toList_bs, ← toList_bs, e])
        have HF := Lib.hid (HI.out.trans (HN2.out he))
        clear HG HI HEnd he
        go_wp2_with fail
        exact ⟨⟨3, by omega, by go_num, HF⟩, by simp only [RowKit.intOf]; omega⟩
    · have i1 := idx_3 m0 m1 m2 m3 m4 m5 m6 m7 m8 m9 m10 m11 w
      by_cases he : m3 = s
      · have e1 : (m3.toList == s.toList) = true := by rw [he]; exact beq_self_eq_true _
        have HF := Lib.hid (HI.out.trans (HY3.out he))
        clear HG HI HEnd he
        go_wp2_with fail
        go_ret
        exact ⟨retId (by rw [HF.out]; rfl), rfl⟩
      · have e1 : (m3.toList == s.toList) = false := beq_eq_false_iff_ne.2 fun e => he (by rw [← mkS_bs m3, ← mkS_bs s, ← toList_bs, ← toList_bs, e])
        have HF := Lib.hid (HI.out.trans (HN3.out he))
        clear HG HI HEnd he
        go_wp2_with fail
        exact ⟨⟨4, by omega, by go_num, HF⟩, by simp only [RowKit.intOf]; omega⟩
    · have i1 := idx_4 m0 m1 m2 m3 m4 m5 m6 m7 m8 m9 m10 m11 w
      by_cases he : m4 = s
      · have e1 : (m4.toList == s.toList) = true := by rw [he]; exact beq_self_eq_true _
        have HF := Lib.hid (HI.out.trans (HY4.out he))
        clear HG HI HEnd he
        go_wp2_with fail
        go_ret
        exact ⟨retId (by rw [HF.out]; rfl), rfl⟩
      · have e1 : (m4.toList == s.toList) = false := beq_eq_false_iff_ne.2 fun e => he (by rw [← mkS_bs m4, ← mkS_bs s, ← toList_bs, ← toList_bs, e])
        have HF := Lib.hid (HI.out.trans (HN4.out he))
        clear HG HI HEnd he
        go_wp2_with fail
        exact ⟨⟨5, by omega, by go_num, HF⟩, by simp only [RowKit.intOf]; omega⟩
    · have i1 := idx_5 m0 m1 m2 m3 m4 m5 m6 m7 m8 m9 m10 m11 w
      by_cases he : m5 = s
      · have e1 : (m5.toList == s.toList) = true := by rw [he]; exact beq_self_eq_true _
        have HF := Lib.hid (HI.out.trans (HY5.out he))
        clear HG HI HEnd he
        go_wp2_with fail
        go_ret
        exact ⟨retId (by rw [HF.out]; rfl), rfl⟩
      · have e1 : (m5.toList == s.toList) = false := beq_eq_false_iff_ne.2 fun e => he (by rw [← mkS_bs m5, ← mkS_bs s, ← toList_bs, ← toList_bs, e])
        have HF := Lib.hid (HI.out.trans (HN5.out he))
        clear HG HI HEnd he
        go_wp2_with fail
        exact ⟨⟨6, by omega, by go_num, HF⟩, by simp only [RowKit.intOf]; omega⟩
    · have i1 := idx_6 m0 m1 m2 m3 m4 m5 m6 m7 m8 m9 m10 m11 w
      by_cases he : m6 = s
      · have e1 : (m6.toList == s.toList) = true := by rw [he]; exact beq_self_eq_true _
        have HF := Lib.hid (HI.out.trans (HY6.out he))
        clear HG HI HEnd he
        go_wp2_with fail
        go_ret
        exact ⟨retId (by rw [HF.out]; rfl), rfl⟩
      · have e1 : (m6.toList == s.toList) = false := beq_eq_false_iff_ne.2 fun e => he (by rw [← mkS_bs m6, ← mkS_bs s, ← toList_bs, ← toList_bs, e])
        have HF := Lib.hid (HI.out.trans (HN6.out he))
        clear HG HI HEnd he
        go_wp2_with fail
        exact ⟨⟨7, by omega, by go_num, HF⟩, by simp only [RowKit.intOf]; omega⟩
    · have i1 := idx_7 m0 m1 m2 m3 m4 m5 m6 m7 m8 m9 m10 m11 w
      by_cases he : m7 = s
      · have e1 : (m7.toList == s.toList) = true := by rw [he]; exact beq_self_eq_true _
        have HF := Lib.hid (HI.out.trans (HY7.out he))
        clear HG HI HEnd he
        go_wp2_with fail
        go_ret
        exact ⟨retId (by rw [HF.out]; rfl), rfl⟩
      · have e1 : (m7.toList == s.toList) = false := beq_eq_false_iff_ne.2 fun e => he (by rw [← mkS_bs m7, ← mkS_bs s, ← toList_bs, ← toList_bs, e])
        have HF := Lib.hid (HI.out.trans (HN7.out he))
        clear HG HI HEnd he
        go_wp2_with fail
        exact ⟨⟨8, by omega, by go_num, HF⟩, by simp only [RowKit.intOf]; omega⟩
    · have i1 := idx_8 m0 m1 m2 m3 m4 m5 m6 m7 m8 m9 m10 m11 w
      by_cases he : m8 = s
      · have e1 : (m8.toList == s.toList) = true := by rw [he]; exact beq_self_eq_true _
        have HF := Lib.hid (HI.out.trans (HY8.out he))
        clear HG HI HEnd he
        go_wp2_with fail
        go_ret
        exact ⟨retId (by rw [HF.out]; rfl), rfl⟩
      · have e1 : (m8.toList == s.toList) = false := beq_eq_false_iff_ne.2 fun e => he (by rw [← mkS_bs m8, ← mkS_bs s, ← toList_bs, ← toList_bs, e])
        have HF := Lib.hid (HI.out.trans (HN8.out he))
        clear HG HI HEnd he
        go_wp2_with fail
        exact ⟨⟨9, by omega, by go_num, HF⟩, by simp only [RowKit.intOf]; omega⟩
    · have i1 := idx_9 m0 m1 m2 m3 m4 m5 m6 m7 m8 m9 m10 m11 w
      by_cases he : m9 = s
      · have e1 : (m9.toList == s.toList) = true := by rw [he]; exact beq_self_eq_true _
        have HF := Lib.hid (HI.out.trans (HY9.out he))
        clear HG HI HEnd he
        go_wp2_with fail
        go_ret
        exact ⟨retId (by rw [HF.out]; rfl), rfl⟩
      · have e1 : (m9.toList == s.toList) = false := beq_eq_false_iff_ne.2 fun e => he (by rw [← mkS_bs m9, ← mkS_bs s, ← toList_bs, ← toList_bs, e])
        have HF := Lib.hid (HI.out.trans (HN9.out he))
        clear HG HI HEnd he
        go_wp2_with fail
        exact ⟨⟨10, by omega, by go_num, HF⟩, by simp only [RowKit.intOf]; omega⟩
    · have i1 := idx_10 m0 m1 m2 m3 m4 m5 m6 m7 m8 m9 m10 m11 w
      by_cases he : m10 = s
      · have e1 : (m10.toList == s.toList) = true := by rw [he]; exact beq_self_eq_true _
        have HF := Lib.hid (HI.out.trans (HY10.out he))
        clear HG HI HEnd he
        go_wp2_with fail
        go_ret
        exact ⟨retId (by rw [HF.out]; rfl), rfl⟩
      · have e1 : (m10.toList == s.toList) = false := beq_eq_false_iff_ne.2 fun e => he (by rw [← mkS_bs m10, ← mkS_bs s, ← toList_bs, ← toList_bs, e])
        have HF := Lib.hid (HI.out.trans (HN10.out he))
        clear HG HI HEnd he
        go_wp2_with fail
        exact ⟨⟨11, by omega, by go_num, HF⟩, by simp only [RowKit.intOf]; omega⟩
    · have i1 := idx_11 m0 m1 m2 m3 m4 m5 m6 m7 m8 m9 m10 m11 w
      by_cases he : m11 = s
      · have e1 : (m11.toList == s.toList) = true := by rw [he]; exact beq_self_eq_true _
        have HF := Lib.hid (HI.out.trans (HY11.out he))
        clear HG HI HEnd he
        go_wp2_with fail
        go_ret
        exact ⟨retId (by rw [HF.out]; rfl), rfl⟩
      · have e1 : (m11.toList == s.toList) = false := beq_eq_false_iff_ne.2 fun e => he (by rw [← mkS_bs m11, ← mkS_bs s, ← toList_bs, ← toList_bs, e])
        have HF := Lib.hid (HI.out.trans (HN11.out he))
        clear HG HI HEnd he
        go_wp2_with fail
        exact ⟨⟨12, by omega, by go_num, HF⟩, by simp only [RowKit.intOf]; omega⟩
    · have HF := Lib.hid (HI.out.trans (HEnd.out _))
      go_wp2_with fail
      go_ret
      exact ⟨retId (by rw [HF.out]), rfl⟩
end Tk
end Go.Proofs.YtajmheblbnodjaaGreatDoor
namespace Go.Proofs.YtajmheblbnodjaaGreatDoor
open Go.RowKit
namespace Tk

/-- the cells of a civil time in memory -/
def cvC (c : Cv) : Array Value := #[.int .i64 c.y, .int .i64 c.m, .int .i64 c.d, .int .i64 c.h, .int .i64 c.n, .int .i64 c.s, .int .i64 c.w]
theorem clk_eq (c : Cv) : mkS (two c.h) ++ ⟨#[58]⟩ ++ mkS (two c.n) ++ ⟨#[58]⟩ ++ mkS (two c.s) = mkS (clk c) := by
  rw [show (⟨#[58]⟩ : ByteArray) = mkS [58] from rfl, mkS_append, mkS_append, mkS_append, mkS_append]; rfl
theorem two_size (n : Int) : (mkS (two n)).size = 2 := by rw [size_mkS]; rfl

set_option maxHeartbeats 8000000 in
set_option maxRecDepth 100000 in
theorem clock_any (c : Cv) (w : World) (hT : NamH w) (hr : Rg c) :
    Calls Tryz.prog 219 #[cvV c] w fun e w' => e = .returned (.string (mkS (clk c))) ∧ Below w.heap.size w w' := by
  obtain ⟨w1, hw1⟩ : ∃ w1, w1 = w.alloc (.cells (cvC c) 194) := ⟨_, rfl⟩
  have hB1 : Below w.heap.size w w1 := hw1 ▸ (Below.refl _ _).alloc (Nat.le_refl _) _
  have hg : w1.heap[w.heap.size]? = some (.cells (cvC c) 194 (0, 0)) := hw1 ▸ heap_alloc_last w _
  have h3 : w1.cell? ⟨w.heap.size, 3, none⟩ = some (.int .i64 c.h) := by rw [Lib.cell_of_heap hg]; rfl
  have h4 : w1.cell? ⟨w.heap.size, 4, none⟩ = some (.int .i64 c.n) := by rw [Lib.cell_of_heap hg]; rfl
  have h5 : w1.cell? ⟨w.heap.size, 5, none⟩ = some (.int .i64 c.s) := by rw [Lib.cell_of_heap hg]; rfl
  have hlt : w.heap.size < w1.heap.size := (Array.getElem?_eq_some_iff.1 hg).1
  have HK : ∀ n : Int, 0 ≤ n → n ≤ 99 → ∀ W : World, W.cell? ⟨w.heap.size, 3, none⟩ = some (.int .i64 c.h) ∧ W.cell? ⟨w.heap.size, 4, none⟩ = some (.int .i64 c.n) ∧ W.cell? ⟨w.heap.size, 5, none⟩ = some (.int .i64 c.s) ∧ Below w1.heap.size w1 W →
      Calls Tryz.prog 218 #[.int .i64 n] W fun e W' => e = .returned (.string (mkS (two n))) ∧ W'.cell? ⟨w.heap.size, 3, none⟩ = some (.int .i64 c.h) ∧ W'.cell? ⟨w.heap.size, 4, none⟩ = some (.int .i64 c.n) ∧ W'.cell? ⟨w.heap.size, 5, none⟩ = some (.int .i64 c.s) ∧ Below w1.heap.size w1 W' := by
    rintro n hn0 hn1 W ⟨a3, a4, a5, hb⟩
    refine (two_any n W ((hT.later hB1).later hb) ⟨hn0, hn1⟩).mono ?_
    rintro e W' ⟨he, hb2⟩
    have hs := hb.size
    exact ⟨he, (hb2.cell (by show w.heap.size < _; omega)).trans a3, (hb2.cell (by show w.heap.size < _; omega)).trans a4, (hb2.cell (by show w.heap.size < _; omega)).trans a5, hb.trans (hb2.mono hs)⟩
  have r3 := hr.h; have r4 := hr.n; have r5 := hr.s
  have H3 := Lib.hid (HK c.h (by omega) (by omega))
  have H4 := Lib.hid (HK c.n (by omega) (by omega))
  have H5 := Lib.hid (HK c.s (by omega) (by omega))
  have HV := Lib.hid (clk_eq c)
  have z3 := two_size c.h
  have z4 := two_size c.n
  have z5 := two_size c.s
  have HB1 := Lib.hid hB1
  have HS0 := Lib.hid (Below.refl w1.heap.size w1)
  unfold cvV
  unfold cvC at hw1
  have HW1 := Lib.hid hw1
  clear hT hr HK hB1 hg hlt r3 r4 r5 hw1
  generalize mkS (clk c) = R at *
  generalize mkS (two c.h) = A at *
  generalize mkS (two c.n) = B at *
  generalize mkS (two c.s) = C at *
  generalize c.y = v0 at *
  generalize c.m = v1 at *
  generalize c.d = v2 at *
  generalize c.h = v3 at *
  generalize c.n = v4 at *
  generalize c.s = v5 at *
  generalize c.w = v6 at *
  go_enter Tryz.func219, Tryz.ntmps219
  go_upto_region 1 with (fail)
  rw [← HW1.out]
  have j3 : w1.drew.cell? ⟨w.heap.size, 3, none⟩ = some (.int .i64 v3) := h3
  have j4 : w1.drew.cell? ⟨w.heap.size, 4, none⟩ = some (.int .i64 v4) := h4
  have j5 : w1.drew.cell? ⟨w.heap.size, 5, none⟩ = some (.int .i64 v5) := h5
  have jb : Below w1.heap.size w1 w1.drew := (Below.refl _ _).drew
  go_region_held3 (fun w' => w'.cell? ⟨w.heap.size, 3, none⟩ = some (.int .i64 v3) ∧ w'.cell? ⟨w.heap.size, 4, none⟩ = some (.int .i64 v4) ∧ w'.cell? ⟨w.heap.size, 5, none⟩ = some (.int .i64 v5) ∧ Below w1.heap.size w1 w') (first | (refine ⟨?_, ?_, ?_, ?_⟩ <;> assumption)) (first
    | (go_at_call 218; refine (H3.out _ ⟨by assumption, by assumption, by assumption, by assumption⟩).mono ?_; rintro e w' ⟨rfl, k3, k4, k5, kb⟩)
    | (go_at_call 218; refine (H4.out _ ⟨by assumption, by assumption, by assumption, by assumption⟩).mono ?_; rintro e w' ⟨rfl, k3, k4, k5, kb⟩)
    | (go_at_call 218; refine (H5.out _ ⟨by assumption, by assumption, by assumption, by assumption⟩).mono ?_; rintro e w' ⟨rfl, k3, k4, k5, kb⟩))
  all_goals
    go_wp2_with fail
    go_ret
    exact ⟨retS HV.out, HB1.out.trans (Below.mono (by assumption) HB1.out.size)⟩
end Tk
end Go.Proofs.YtajmheblbnodjaaGreatDoor
namespace Go.Proofs.YtajmheblbnodjaaGreatDoor
open Go.RowKit
namespace Tk

/-- what stays behind a call that makes memory alone -/
theorem cv_keep {w w1 : World} {c : Cv} {u1 : Int} (hN : NamH w) (hlt : w.heap.size < w1.heap.size) {W W' : World} (h : W.cell? ⟨w.heap.size, 0, none⟩ = some (.int .i64 c.y) ∧ W.cell? ⟨w.heap.size, 1, none⟩ = some (.int .i64 c.m) ∧ W.cell? ⟨w.heap.size, 2, none⟩ = some (.int .i64 c.d) ∧ W.cell? ⟨w.heap.size, 3, none⟩ = some (.int .i64 c.h) ∧ W.cell? ⟨w.heap.size, 4, none⟩ = some (.int .i64 c.n) ∧ W.cell? ⟨w.heap.size, 5, none⟩ = some (.int .i64 c.s) ∧ W.cell? ⟨w.heap.size, 6, none⟩ = some (.int .i64 c.w) ∧ W.cell? ⟨0, c.w.toNat, none⟩ = some (.string (mkS (dnm c.w))) ∧ W.cell? ⟨1, u1.toNat, none⟩ = some (.string (mkS (mnm c.m))) ∧ Below w1.heap.size w1 W) (hb2 : Below W.heap.size W W') : W'.cell? ⟨w.heap.size, 0, none⟩ = some (.int .i64 c.y) ∧ W'.cell? ⟨w.heap.size, 1, none⟩ = some (.int .i64 c.m) ∧ W'.cell? ⟨w.heap.size, 2, none⟩ = some (.int .i64 c.d) ∧ W'.cell? ⟨w.heap.size, 3, none⟩ = some (.int .i64 c.h) ∧ W'.cell? ⟨w.heap.size, 4, none⟩ = some (.int .i64 c.n) ∧ W'.cell? ⟨w.heap.size, 5, none⟩ = some (.int .i64 c.s) ∧ W'.cell? ⟨w.heap.size, 6, none⟩ = some (.int .i64 c.w) ∧ W'.cell? ⟨0, c.w.toNat, none⟩ = some (.string (mkS (dnm c.w))) ∧ W'.cell? ⟨1, u1.toNat, none⟩ = some (.string (mkS (mnm c.m))) ∧ Below w1.heap.size w1 W' := by
  obtain ⟨k0, k1, k2, k3, k4, k5, k6, k7, k8, kb⟩ := h
  have hs := kb.size
  obtain ⟨⟨b1, b2, b3, b4⟩, -⟩ := hN
  exact ⟨(hb2.cell (by show w.heap.size < _; omega)).trans k0, (hb2.cell (by show w.heap.size < _; omega)).trans k1, (hb2.cell (by show w.heap.size < _; omega)).trans k2, (hb2.cell (by show w.heap.size < _; omega)).trans k3, (hb2.cell (by show w.heap.size < _; omega)).trans k4, (hb2.cell (by show w.heap.size < _; omega)).trans k5, (hb2.cell (by show w.heap.size < _; omega)).trans k6, (hb2.cell (by show 0 < _; omega)).trans k7, (hb2.cell (by show 1 < _; omega)).trans k8, kb.trans (hb2.mono hs)⟩

theorem fA_eq (c : Cv) : (mkS (dnm c.w)).extract 0 3 ++ ⟨#[44, 32]⟩ ++ mkS (two c.d) ++ ⟨#[32]⟩ ++ mkS (mnm c.m) ++ ⟨#[32]⟩ ++ mkS (yr4 c.y) ++ ⟨#[32]⟩ ++ mkS (clk c) ++ ⟨#[32, 71, 77, 84]⟩ = mkS (fA c) := by
  rw [show (⟨#[44, 32]⟩ : ByteArray) = mkS [44, 32] from rfl, show (⟨#[32]⟩ : ByteArray) = mkS [32] from rfl, show (⟨#[32, 71, 77, 84]⟩ : ByteArray) = mkS gmt from rfl, extract_mkS, bs_mkS]
  simp only [mkS_append]; rfl

set_option maxHeartbeats 16000000 in
set_option maxRecDepth 100000 in
theorem fixdate_any (c : Cv) (w : World) (hT : NamH w) (hr : Rg c) :
    Calls Tryz.prog 169 #[cvV c] w fun e w' => e = .returned (.string (mkS (fA c))) ∧ Below w.heap.size w w' := by

  obtain ⟨w1, hw1⟩ : ∃ w1, w1 = w.alloc (.cells (cvC c) 194) := ⟨_, rfl⟩
  have hB1 : Below w.heap.size w w1 := hw1 ▸ (Below.refl _ _).alloc (Nat.le_refl _) _
  have hg : w1.heap[w.heap.size]? = some (.cells (cvC c) 194 (0, 0)) := hw1 ▸ heap_alloc_last w _
  have hlt : w.heap.size < w1.heap.size := (Array.getElem?_eq_some_iff.1 hg).1
  have r0 := hr.y; have r1 := hr.m; have r2 := hr.d; have r6 := hr.w
  have h0 : w1.cell? ⟨w.heap.size, 0, none⟩ = some (.int .i64 c.y) := by rw [Lib.cell_of_heap hg]; rfl
  have h1 : w1.cell? ⟨w.heap.size, 1, none⟩ = some (.int .i64 c.m) := by rw [Lib.cell_of_heap hg]; rfl
  have h2 : w1.cell? ⟨w.heap.size, 2, none⟩ = some (.int .i64 c.d) := by rw [Lib.cell_of_heap hg]; rfl
  have h3 : w1.cell? ⟨w.heap.size, 3, none⟩ = some (.int .i64 c.h) := by rw [Lib.cell_of_heap hg]; rfl
  have h4 : w1.cell? ⟨w.heap.size, 4, none⟩ = some (.int .i64 c.n) := by rw [Lib.cell_of_heap hg]; rfl
  have h5 : w1.cell? ⟨w.heap.size, 5, none⟩ = some (.int .i64 c.s) := by rw [Lib.cell_of_heap hg]; rfl
  have h6 : w1.cell? ⟨w.heap.size, 6, none⟩ = some (.int .i64 c.w) := by rw [Lib.cell_of_heap hg]; rfl
  have h7 : w1.cell? ⟨0, c.w.toNat, none⟩ = some (.string (mkS (dnm c.w))) := (hT.later hB1).dayC _ (by omega)
  obtain ⟨u1, hu1⟩ : ∃ u1, u1 = c.m - 1 := ⟨_, rfl⟩
  have h8 : w1.cell? ⟨1, u1.toNat, none⟩ = some (.string (mkS (mnm c.m))) := by
    unfold mnm; rw [← hu1]; exact (hT.later hB1).monC _ (by omega)
  have hw : IntKind.i64.wrap (c.m - 1) = u1 := by rw [hu1]; exact IntWalk.i64_in _ (by omega)
  have hu0 : (0 : Int) ≤ u1 := by omega
  have hu2 : u1 < 12 := by omega
  have hx0 : (0 : Int) ≤ c.w := by omega
  have hx2 : c.w < 7 := by omega
  have HD : Hid (∀ W : World, W.cell? ⟨w.heap.size, 0, none⟩ = some (.int .i64 c.y) ∧ W.cell? ⟨w.heap.size, 1, none⟩ = some (.int .i64 c.m) ∧ W.cell? ⟨w.heap.size, 2, none⟩ = some (.int .i64 c.d) ∧ W.cell? ⟨w.heap.size, 3, none⟩ = some (.int .i64 c.h) ∧ W.cell? ⟨w.heap.size, 4, none⟩ = some (.int .i64 c.n) ∧ W.cell? ⟨w.heap.size, 5, none⟩ = some (.int .i64 c.s) ∧ W.cell? ⟨w.heap.size, 6, none⟩ = some (.int .i64 c.w) ∧ W.cell? ⟨0, c.w.toNat, none⟩ = some (.string (mkS (dnm c.w))) ∧ W.cell? ⟨1, u1.toNat, none⟩ = some (.string (mkS (mnm c.m))) ∧ Below w1.heap.size w1 W → Calls Tryz.prog 218 #[.int .i64 c.d] W fun e W' => e = .returned (.string (mkS (two c.d))) ∧ W'.cell? ⟨w.heap.size, 0, none⟩ = some (.int .i64 c.y) ∧ W'.cell? ⟨w.heap.size, 1, none⟩ = some (.int .i64 c.m) ∧ W'.cell? ⟨w.heap.size, 2, none⟩ = some (.int .i64 c.d) ∧ W'.cell? ⟨w.heap.size, 3, none⟩ = some (.int .i64 c.h) ∧ W'.cell? ⟨w.heap.size, 4, none⟩ = some (.int .i64 c.n) ∧ W'.cell? ⟨w.heap.size, 5, none⟩ = some (.int .i64 c.s) ∧ W'.cell? ⟨w.heap.size, 6, none⟩ = some (.int .i64 c.w) ∧ W'.cell? ⟨0, c.w.toNat, none⟩ = some (.string (mkS (dnm c.w))) ∧ W'.cell? ⟨1, u1.toNat, none⟩ = some (.string (mkS (mnm c.m))) ∧ Below w1.heap.size w1 W') := by
    intro W hS
    obtain ⟨k0, k1, k2, k3, k4, k5, k6, k7, k8, kb⟩ := hS
    refine (two_any c.d W ((hT.later hB1).later kb) ⟨by omega, by omega⟩).mono ?_
    rintro e W' ⟨he, hb2⟩
    exact ⟨he, cv_keep hT hlt ⟨k0, k1, k2, k3, k4, k5, k6, k7, k8, kb⟩ hb2⟩
  have HY : Hid (∀ W : World, W.cell? ⟨w.heap.size, 0, none⟩ = some (.int .i64 c.y) ∧ W.cell? ⟨w.heap.size, 1, none⟩ = some (.int .i64 c.m) ∧ W.cell? ⟨w.heap.size, 2, none⟩ = some (.int .i64 c.d) ∧ W.cell? ⟨w.heap.size, 3, none⟩ = some (.int .i64 c.h) ∧ W.cell? ⟨w.heap.size, 4, none⟩ = some (.int .i64 c.n) ∧ W.cell? ⟨w.heap.size, 5, none⟩ = some (.int .i64 c.s) ∧ W.cell? ⟨w.heap.size, 6, none⟩ = some (.int .i64 c.w) ∧ W.cell? ⟨0, c.w.toNat, none⟩ = some (.string (mkS (dnm c.w))) ∧ W.cell? ⟨1, u1.toNat, none⟩ = some (.string (mkS (mnm c.m))) ∧ Below w1.heap.size w1 W → Calls Tryz.prog 85 #[.int .i64 c.y] W fun e W' => e = .returned (.string (mkS (yr4 c.y))) ∧ W'.cell? ⟨w.heap.size, 0, none⟩ = some (.int .i64 c.y) ∧ W'.cell? ⟨w.heap.size, 1, none⟩ = some (.int .i64 c.m) ∧ W'.cell? ⟨w.heap.size, 2, none⟩ = some (.int .i64 c.d) ∧ W'.cell? ⟨w.heap.size, 3, none⟩ = some (.int .i64 c.h) ∧ W'.cell? ⟨w.heap.size, 4, none⟩ = some (.int .i64 c.n) ∧ W'.cell? ⟨w.heap.size, 5, none⟩ = some (.int .i64 c.s) ∧ W'.cell? ⟨w.heap.size, 6, none⟩ = some (.int .i64 c.w) ∧ W'.cell? ⟨0, c.w.toNat, none⟩ = some (.string (mkS (dnm c.w))) ∧ W'.cell? ⟨1, u1.toNat, none⟩ = some (.string (mkS (mnm c.m))) ∧ Below w1.heap.size w1 W') := by
    intro W hS
    obtain ⟨k0, k1, k2, k3, k4, k5, k6, k7, k8, kb⟩ := hS
    refine ((show Calls Tryz.prog 85 #[.int .i64 c.y] W (fun e w' => e = .returned (.string (mkS (yr4 c.y))) ∧ Below W.heap.size W w') from by have h := itoaD_any c.y.toNat W ((hT.later hB1).later kb) (by omega); rw [digL_yr4 _ (by omega) (by omega), show ((c.y.toNat : Nat) : Int) = c.y by omega] at h; exact h)).mono ?_
    rintro e W' ⟨he, hb2⟩
    exact ⟨he, cv_keep hT hlt ⟨k0, k1, k2, k3, k4, k5, k6, k7, k8, kb⟩ hb2⟩
  have HC : Hid (∀ W : World, W.cell? ⟨w.heap.size, 0, none⟩ = some (.int .i64 c.y) ∧ W.cell? ⟨w.heap.size, 1, none⟩ = some (.int .i64 c.m) ∧ W.cell? ⟨w.heap.size, 2, none⟩ = some (.int .i64 c.d) ∧ W.cell? ⟨w.heap.size, 3, none⟩ = some (.int .i64 c.h) ∧ W.cell? ⟨w.heap.size, 4, none⟩ = some (.int .i64 c.n) ∧ W.cell? ⟨w.heap.size, 5, none⟩ = some (.int .i64 c.s) ∧ W.cell? ⟨w.heap.size, 6, none⟩ = some (.int .i64 c.w) ∧ W.cell? ⟨0, c.w.toNat, none⟩ = some (.string (mkS (dnm c.w))) ∧ W.cell? ⟨1, u1.toNat, none⟩ = some (.string (mkS (mnm c.m))) ∧ Below w1.heap.size w1 W → Calls Tryz.prog 219 #[.agg #[.int .i64 c.y, .int .i64 c.m, .int .i64 c.d, .int .i64 c.h, .int .i64 c.n, .int .i64 c.s, .int .i64 c.w]] W fun e W' => e = .returned (.string (mkS (clk c))) ∧ W'.cell? ⟨w.heap.size, 0, none⟩ = some (.int .i64 c.y) ∧ W'.cell? ⟨w.heap.size, 1, none⟩ = some (.int .i64 c.m) ∧ W'.cell? ⟨w.heap.size, 2, none⟩ = some (.int .i64 c.d) ∧ W'.cell? ⟨w.heap.size, 3, none⟩ = some (.int .i64 c.h) ∧ W'.cell? ⟨w.heap.size, 4, none⟩ = some (.int .i64 c.n) ∧ W'.cell? ⟨w.heap.size, 5, none⟩ = some (.int .i64 c.s) ∧ W'.cell? ⟨w.heap.size, 6, none⟩ = some (.int .i64 c.w) ∧ W'.cell? ⟨0, c.w.toNat, none⟩ = some (.string (mkS (dnm c.w))) ∧ W'.cell? ⟨1, u1.toNat, none⟩ = some (.string (mkS (mnm c.m))) ∧ Below w1.heap.size w1 W') := by
    intro W hS
    obtain ⟨k0, k1, k2, k3, k4, k5, k6, k7, k8, kb⟩ := hS
    refine (clock_any c W ((hT.later hB1).later kb) hr).mono ?_
    rintro e W' ⟨he, hb2⟩
    exact ⟨he, cv_keep hT hlt ⟨k0, k1, k2, k3, k4, k5, k6, k7, k8, kb⟩ hb2⟩
  have HB1 := Lib.hid hB1
  unfold cvV
  unfold cvC at hw1
  have HW1 := Lib.hid hw1
  have zd := two_size c.d
  have zc : (mkS (clk c)).size = 8 := by rw [size_mkS]; rfl
  have zn : 6 ≤ (mkS (dnm c.w)).size ∧ (mkS (dnm c.w)).size ≤ 9 := by rw [size_mkS]; exact dnm_len c.w r6
  have zm : (mkS (mnm c.m)).size = 3 := by
    obtain ⟨p, q, r, hm, -⟩ := mnm_three c.m r1
    rw [size_mkS, hm]; rfl
  have zy : (mkS (yr4 c.y)).size = 4 := by rw [size_mkS]; rfl
  have c1 : (3 : Int) ≤ ((mkS (dnm c.w)).size : Int) := by omega
  have zmin : min 3 (mkS (dnm c.w)).size = 3 := by omega
  clear zn
  have HV := Lib.hid (fA_eq c)
  clear hT hr hB1 hg hlt hw1 hu1 r0 r1 r2 r6
  generalize mkS (clk c) = CK at *
  generalize mkS (dnm c.w) = ND at *
  generalize mkS (mnm c.m) = NM at *
  generalize mkS (two c.d) = DD at *
  generalize mkS (yr4 c.y) = YY at *
  generalize mkS (fA c) = R at *
  generalize c.y = v0 at *
  generalize c.m = v1 at *
  generalize c.d = v2 at *
  generalize c.h = v3 at *
  generalize c.n = v4 at *
  generalize c.s = v5 at *
  generalize c.w = v6 at *
  go_enter Tryz.func169, Tryz.ntmps169

  go_upto_region 1 with (fail)
  rw [← HW1.out]
  have j0 : w1.drew.cell? ⟨w.heap.size, 0, none⟩ = some (.int .i64 v0) := h0
  have j1 : w1.drew.cell? ⟨w.heap.size, 1, none⟩ = some (.int .i64 v1) := h1
  have j2 : w1.drew.cell? ⟨w.heap.size, 2, none⟩ = some (.int .i64 v2) := h2
  have j3 : w1.drew.cell? ⟨w.heap.size, 3, none⟩ = some (.int .i64 v3) := h3
  have j4 : w1.drew.cell? ⟨w.heap.size, 4, none⟩ = some (.int .i64 v4) := h4
  have j5 : w1.drew.cell? ⟨w.heap.size, 5, none⟩ = some (.int .i64 v5) := h5
  have j6 : w1.drew.cell? ⟨w.heap.size, 6, none⟩ = some (.int .i64 v6) := h6
  have j7 : w1.drew.cell? ⟨0, v6.toNat, none⟩ = some (.string ND) := h7
  have j8 : w1.drew.cell? ⟨1, u1.toNat, none⟩ = some (.string NM) := h8
  have jb : Below w1.heap.size w1 w1.drew := (Below.refl _ _).drew
  go_region_held3 (fun w' => w'.cell? ⟨w.heap.size, 0, none⟩ = some (.int .i64 v0) ∧ w'.cell? ⟨w.heap.size, 1, none⟩ = some (.int .i64 v1) ∧ w'.cell? ⟨w.heap.size, 2, none⟩ = some (.int .i64 v2) ∧ w'.cell? ⟨w.heap.size, 3, none⟩ = some (.int .i64 v3) ∧ w'.cell? ⟨w.heap.size, 4, none⟩ = some (.int .i64 v4) ∧ w'.cell? ⟨w.heap.size, 5, none⟩ = some (.int .i64 v5) ∧ w'.cell? ⟨w.heap.size, 6, none⟩ = some (.int .i64 v6) ∧ w'.cell? ⟨0, v6.toNat, none⟩ = some (.string (ND)) ∧ w'.cell? ⟨1, u1.toNat, none⟩ = some (.string (NM)) ∧ Below w1.heap.size w1 w') (first | (refine ⟨?_, ?_, ?_, ?_, ?_, ?_, ?_, ?_, ?_, ?_⟩ <;> assumption)) (first
    | (go_at_call 218; refine (HD.out _ ⟨by assumption, by assumption, by assumption, by assumption, by assumption, by assumption, by assumption, by assumption, by assumption, by assumption⟩).mono ?_; rintro e w' ⟨rfl, k0, k1, k2, k3, k4, k5, k6, k7, k8, kb⟩)
    | (go_at_call 85; refine (HY.out _ ⟨by assumption, by assumption, by assumption, by assumption, by assumption, by assumption, by assumption, by assumption, by assumption, by assumption⟩).mono ?_; rintro e w' ⟨rfl, k0, k1, k2, k3, k4, k5, k6, k7, k8, kb⟩)
    | (go_at_call 219; refine (HC.out _ ⟨by assumption, by assumption, by assumption, by assumption, by assumption, by assumption, by assumption, by assumption, by assumption, by assumption⟩).mono ?_; rintro e w' ⟨rfl, k0, k1, k2, k3, k4, k5, k6, k7, k8, kb⟩))
  all_goals
    go_wp2_with fail
    go_ret
    exact ⟨retS HV.out, HB1.out.trans (Below.mono (by assumption) HB1.out.size)⟩
end Tk
end Go.Proofs.YtajmheblbnodjaaGreatDoor
