/- AgeSums: sums are symmetric and do not decrease; what is added and subtracted again is the same. -/
import Derived.Test.YtjhakmobbncbgaaAgB
namespace Go.Proofs.Ytjhakmobbncbgaa
open Go.RowKit
namespace Tk
open Fl

theorem retBa {a b : Bool} (h : a = b) : Ending.returned (.bool a) = .returned (.bool b) := by rw [h]

set_option maxHeartbeats 2000000 in
set_option maxRecDepth 100000 in
theorem sums_core (a b c u v x y z0 z1 m0 m1 n0 n1 r0 r1 s : Int) (w : World) (ha : -9223372036854775808 ≤ a ∧ a ≤ 9223372036854775807) (hb : -9223372036854775808 ≤ b ∧ b ≤ 9223372036854775807) (hc : -9223372036854775808 ≤ c ∧ c ≤ 9223372036854775807)
    (huv : (a < b ∧ u = a ∧ v = b) ∨ (a = b ∧ u = a ∧ v = a) ∨ (b < a ∧ u = b ∧ v = a))
    (hx : x = addA a b) (hx2 : x = addA b a) (hy : y = subA a b) (hz0 : z0 = addA x c) (hz1 : z1 = addA b c) (hz2 : z0 = addA a z1)
    (hm0 : m0 = addA u c) (hm1 : m1 = addA v c) (hn0 : n0 = subA u c) (hn1 : n1 = subA v c) (hr0 : r0 = subA c u) (hr1 : r1 = subA c v) (hs : s = subA x b) :
    Calls Try.prog 5 #[.int .i64 a, .int .i64 b, .int .i64 c] w fun e w' => e = .returned (.bool true) ∧ Below w.heap.size w w' := by
  have HL := Lib.hid (lives_any w)
  have bx := add_bd a b
  rw [← hx] at bx
  have bz := add_bd b c
  rw [← hz1] at bz
  have huI : -9223372036854775808 ≤ u ∧ u ≤ 9223372036854775807 := by omega
  have hvI : -9223372036854775808 ≤ v ∧ v ≤ 9223372036854775807 := by omega
  have by' := sub_bd a b
  rw [← hy] at by'
  have A1 := Lib.hid (add_any a b w.drew ha hb)
  have A2 := Lib.hid (add_any b a w.drew hb ha)
  have A3 := Lib.hid (add_any x c w.drew (by omega) hc)
  have A4 := Lib.hid (add_any b c w.drew hb hc)
  have A5 := Lib.hid (add_any a z1 w.drew ha (by omega))
  have A6 := Lib.hid (add_any u c w.drew huI hc)
  have A7 := Lib.hid (add_any v c w.drew hvI hc)
  have S1 := Lib.hid (sub_any a b w.drew ha hb)
  have S2 := Lib.hid (sub_any u c w.drew huI hc)
  have S3 := Lib.hid (sub_any v c w.drew hvI hc)
  have S4 := Lib.hid (sub_any c u w.drew hc huI)
  have S5 := Lib.hid (sub_any c v w.drew hc hvI)
  have S6 := Lib.hid (sub_any x b w.drew (by omega) hb)
  rw [← hx] at A1; rw [← hx2] at A2; rw [← hz0] at A3; rw [← hz1] at A4; rw [← hz2] at A5; rw [← hm0] at A6; rw [← hm1] at A7
  rw [← hy] at S1; rw [← hn0] at S2; rw [← hn1] at S3; rw [← hr0] at S4; rw [← hr1] at S5; rw [← hs] at S6
  have huv' : u ≤ v := by omega
  have f1 : ¬ m1 < m0 := by rw [hm0, hm1]; exact Int.not_lt.2 (add_mono huv' (Int.le_refl _))
  have f2 : ¬ n1 < n0 := by rw [hn0, hn1]; exact Int.not_lt.2 (sub_mono huv' (Int.le_refl _))
  have f3 : ¬ r0 < r1 := by rw [hr0, hr1]; exact Int.not_lt.2 (sub_mono (Int.le_refl _) huv')
  have HF : Hid ((min (max a 0) 2147483648 + min (max b 0) 2147483648 ≤ 2147483648 → s = min (max a 0) 2147483648 ∧ (x = 0 ↔ min (max a 0) 2147483648 = 0 ∧ min (max b 0) 2147483648 = 0)) ∧ (¬ min (max a 0) 2147483648 + min (max b 0) 2147483648 ≤ 2147483648 → x = 2147483648)) := by
    refine ⟨fun h => ?_, fun h => ?_⟩
    · have h2 := sums_back a b h
      rw [← hx, ← hs] at h2
      exact h2
    · rw [hx]; exact sums_top a b h
  clear hx hx2 hy hz0 hz1 hz2 hm0 hm1 hn0 hn1 hr0 hr1 hs huI hvI huv'
  rcases huv with ⟨hab, rfl, rfl⟩ | ⟨rfl, rfl, rfl⟩ | ⟨hab, rfl, rfl⟩
  all_goals
    go_enter Try.func5, Try.ntmps5
    go_wp2_with fail
    refine HL.out.mono ?_
    rintro e w' ⟨rfl, rfl⟩
    go_wp2_with fail
    refine A1.out.mono ?_
    rintro e w' ⟨rfl, rfl⟩
    go_wp2_with fail
    refine S1.out.mono ?_
    rintro e w' ⟨rfl, rfl⟩
    go_wp2_with fail
    refine A2.out.mono ?_
    rintro e w' ⟨rfl, rfl⟩
    go_wp2_with fail
    refine A3.out.mono ?_
    rintro e w' ⟨rfl, rfl⟩
    go_wp2_with fail
    refine A4.out.mono ?_
    rintro e w' ⟨rfl, rfl⟩
    go_wp2_with fail
    refine A5.out.mono ?_
    rintro e w' ⟨rfl, rfl⟩
    go_wp2_with fail
    refine A7.out.mono ?_
    rintro e w' ⟨rfl, rfl⟩
    go_wp2_with fail
    refine A6.out.mono ?_
    rintro e w' ⟨rfl, rfl⟩
    go_wp2_with fail
    refine S3.out.mono ?_
    rintro e w' ⟨rfl, rfl⟩
    go_wp2_with fail
    refine S2.out.mono ?_
    rintro e w' ⟨rfl, rfl⟩
    go_wp2_with fail
    refine S5.out.mono ?_
    rintro e w' ⟨rfl, rfl⟩
    go_wp2_with fail
    refine S4.out.mono ?_
    rintro e w' ⟨rfl, rfl⟩
    go_wp2_with fail
    all_goals first
      | (refine S6.out.mono ?_
         rintro e w' ⟨rfl, rfl⟩
         go_wp2_with fail)
      | skip
    all_goals
      go_ret
      refine ⟨retBa ?_, (Below.refl _ _).drew⟩
      have hf1 := HF.out.1
      have hf2 := HF.out.2
      clear HF HL
      first
        | omega
        | (rw [beq_iff_eq]; omega)
        | (simp only [Bool.not_eq_true', beq_eq_false_iff_ne, ne_eq]; omega)
        | (rw [beq_iff_eq, Bool.eq_iff_iff, beq_iff_eq, beq_iff_eq]; omega)

theorem sums_anyA (a b c : Int) (w : World) (ha : -9223372036854775808 ≤ a ∧ a ≤ 9223372036854775807) (hb : -9223372036854775808 ≤ b ∧ b ≤ 9223372036854775807) (hc : -9223372036854775808 ≤ c ∧ c ≤ 9223372036854775807) :
    Calls Try.prog 5 #[.int .i64 a, .int .i64 b, .int .i64 c] w fun e w' => e = .returned (.bool true) ∧ Below w.heap.size w w' := by
  rcases Int.lt_trichotomy a b with h | h | h
  · exact sums_core a b c a b _ _ _ _ _ _ _ _ _ _ _ w ha hb hc (.inl ⟨h, rfl, rfl⟩) rfl (add_comm' _ _) rfl rfl rfl (add_assoc' _ _ _) rfl rfl rfl rfl rfl rfl rfl
  · exact sums_core a b c a a _ _ _ _ _ _ _ _ _ _ _ w ha hb hc (.inr (.inl ⟨h, rfl, rfl⟩)) rfl (add_comm' _ _) rfl rfl rfl (add_assoc' _ _ _) rfl rfl rfl rfl rfl rfl rfl
  · exact sums_core a b c b a _ _ _ _ _ _ _ _ _ _ _ w ha hb hc (.inr (.inr ⟨h, rfl, rfl⟩)) rfl (add_comm' _ _) rfl rfl rfl (add_assoc' _ _ _) rfl rfl rfl rfl rfl rfl rfl
end Tk
end Go.Proofs.Ytjhakmobbncbgaa
