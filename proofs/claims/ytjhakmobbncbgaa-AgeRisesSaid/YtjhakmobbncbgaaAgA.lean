/- Package age: what reckons with numbers of seconds and with times; contracts. -/
import Derived.Test.YtjhakmobbncbgaaRows
import Derived.WalkKit
import Derived.WalkSpells
import Derived.WalkLawsBesides
import Derived.Lib.Hide
import Derived.BigQuiet
import Derived.Deep.QuietTactic
import Derived.IntWalk
import Derived.OwnWalk
import Derived.Handy
import Derived.Deep.RegionHeld3
import Derived.Deep.RegionWith
import Derived.Lib.OwnBridge
import Derived.Deep.WholeRow
import Derived.Test.YtjhakmobbncbgaaAgS
namespace Go.Proofs.Ytjhakmobbncbgaa
open Go.RowKit
namespace Tk
open Fl

theorem retIa {k : IntKind} {a b : Int} (h : a = b) : Ending.returned (.int k a) = .returned (.int k b) := by rw [h]
/-- within the numbers of 64 bits -/
def I64 (n : Int) : Prop := -9223372036854775808 ≤ n ∧ n ≤ 9223372036854775807

set_option maxHeartbeats 400000 in
theorem clamp_any (n m : Int) (w : World) (hn : -9223372036854775808 ≤ n ∧ n ≤ 9223372036854775807) : Calls Try.prog 19 #[.int .i64 n, .int .i64 m] w fun e w' => e = .returned (.int .i64 (clA n m)) ∧ w = w' := by
  have HV := Lib.hid (show clA n m = min (max n 0) m from rfl)
  go_enter Try.func19, Try.ntmps19
  go_wp2_with fail
  all_goals
    go_ret
    exact ⟨retIa (by rw [HV.out]; omega), rfl⟩

set_option maxHeartbeats 400000 in
theorem span_any (n : Int) (w : World) (hn : -9223372036854775808 ≤ n ∧ n ≤ 9223372036854775807) : Calls Try.prog 20 #[.int .i64 n] w fun e w' => e = .returned (.int .i64 (clA n 2147483648)) ∧ w = w' := by
  have HC := Lib.hid (clamp_any n 2147483648 w hn)
  generalize clA n 2147483648 = q at *
  go_enter Try.func20, Try.ntmps20
  go_wp2_with fail
  refine HC.out.mono ?_
  rintro e w' ⟨rfl, rfl⟩
  go_wp2_with fail
  go_ret
  exact ⟨rfl, rfl⟩

set_option maxHeartbeats 400000 in
theorem add_any (a b : Int) (w : World) (ha : -9223372036854775808 ≤ a ∧ a ≤ 9223372036854775807) (hb : -9223372036854775808 ≤ b ∧ b ≤ 9223372036854775807) : Calls Try.prog 12 #[.int .i64 a, .int .i64 b] w fun e w' => e = .returned (.int .i64 (addA a b)) ∧ w = w' := by
  have h1 := cl_bd a 2147483648 (by omega)
  have h2 := cl_bd b 2147483648 (by omega)
  have HA := Lib.hid (clamp_any a 2147483648 w ha)
  have HB := Lib.hid (clamp_any b 2147483648 w hb)
  have HS := Lib.hid (span_any (clA a 2147483648 + clA b 2147483648) w (by omega))
  have HV := Lib.hid (show addA a b = clA (clA a 2147483648 + clA b 2147483648) 2147483648 from rfl)
  generalize clA (clA a 2147483648 + clA b 2147483648) 2147483648 = q at *
  generalize clA a 2147483648 = x at *
  generalize clA b 2147483648 = y at *
  go_enter Try.func12, Try.ntmps12
  go_wp2_with fail
  refine HA.out.mono ?_
  rintro e w' ⟨rfl, rfl⟩
  go_wp2_with fail
  refine HB.out.mono ?_
  rintro e w' ⟨rfl, rfl⟩
  go_wp2_with fail
  refine HS.out.mono ?_
  rintro e w' ⟨rfl, rfl⟩
  go_wp2_with fail
  go_ret
  exact ⟨retIa HV.out.symm, rfl⟩

set_option maxHeartbeats 400000 in
theorem sub_any (a b : Int) (w : World) (ha : -9223372036854775808 ≤ a ∧ a ≤ 9223372036854775807) (hb : -9223372036854775808 ≤ b ∧ b ≤ 9223372036854775807) : Calls Try.prog 13 #[.int .i64 a, .int .i64 b] w fun e w' => e = .returned (.int .i64 (subA a b)) ∧ w = w' := by
  have h1 := cl_bd a 2147483648 (by omega)
  have h2 := cl_bd b 2147483648 (by omega)
  have HA := Lib.hid (clamp_any a 2147483648 w ha)
  have HB := Lib.hid (clamp_any b 2147483648 w hb)
  have HS := Lib.hid (span_any (clA a 2147483648 - clA b 2147483648) w (by omega))
  have HV := Lib.hid (show subA a b = clA (clA a 2147483648 - clA b 2147483648) 2147483648 from rfl)
  generalize clA (clA a 2147483648 - clA b 2147483648) 2147483648 = q at *
  generalize clA a 2147483648 = x at *
  generalize clA b 2147483648 = y at *
  go_enter Try.func13, Try.ntmps13
  go_wp2_with fail
  refine HA.out.mono ?_
  rintro e w' ⟨rfl, rfl⟩
  go_wp2_with fail
  refine HB.out.mono ?_
  rintro e w' ⟨rfl, rfl⟩
  go_wp2_with fail
  refine HS.out.mono ?_
  rintro e w' ⟨rfl, rfl⟩
  go_wp2_with fail
  go_ret
  exact ⟨retIa HV.out.symm, rfl⟩

set_option maxHeartbeats 400000 in
theorem dif_any (a b : Int) (w : World) (ha : -9223372036854775808 ≤ a ∧ a ≤ 9223372036854775807) (hb : -9223372036854775808 ≤ b ∧ b ≤ 9223372036854775807) : Calls Try.prog 16 #[.int .i64 a, .int .i64 b] w fun e w' => e = .returned (.int .i64 (difA a b)) ∧ w = w' := by
  have h1 := cl_bd a 253402300799 (by omega)
  have h2 := cl_bd b 253402300799 (by omega)
  have HA := Lib.hid (clamp_any a 253402300799 w ha)
  have HB := Lib.hid (clamp_any b 253402300799 w hb)
  have HS := Lib.hid (span_any (clA a 253402300799 - clA b 253402300799) w (by omega))
  have HV := Lib.hid (show difA a b = clA (clA a 253402300799 - clA b 253402300799) 2147483648 from rfl)
  generalize clA (clA a 253402300799 - clA b 253402300799) 2147483648 = q at *
  generalize clA a 253402300799 = x at *
  generalize clA b 253402300799 = y at *
  go_enter Try.func16, Try.ntmps16
  go_wp2_with fail
  refine HA.out.mono ?_
  rintro e w' ⟨rfl, rfl⟩
  go_wp2_with fail
  refine HB.out.mono ?_
  rintro e w' ⟨rfl, rfl⟩
  go_wp2_with fail
  refine HS.out.mono ?_
  rintro e w' ⟨rfl, rfl⟩
  go_wp2_with fail
  go_ret
  exact ⟨retIa HV.out.symm, rfl⟩

set_option maxHeartbeats 400000 in
theorem after_any (a b : Int) (w : World) (ha : -9223372036854775808 ≤ a ∧ a ≤ 9223372036854775807) (hb : -9223372036854775808 ≤ b ∧ b ≤ 9223372036854775807) : Calls Try.prog 17 #[.int .i64 a, .int .i64 b] w fun e w' => e = .returned (.int .i64 (aftA a b)) ∧ w = w' := by
  have HD := Lib.hid (dif_any a b w ha hb)
  by_cases h : b < 0
  · have HV := Lib.hid (show aftA a b = 0 from if_pos h)
    go_enter Try.func17, Try.ntmps17
    go_wp2_with fail
    go_ret
    exact ⟨retIa HV.out.symm, rfl⟩
  · have HV := Lib.hid (show aftA a b = difA a b from if_neg h)
    generalize difA a b = q at *
    go_enter Try.func17, Try.ntmps17
    go_wp2_with fail
    refine HD.out.mono ?_
    rintro e w' ⟨rfl, rfl⟩
    go_wp2_with fail
    go_ret
    exact ⟨retIa HV.out.symm, rfl⟩

theorem below_allocA (w : World) (o : Obj) : Below w.heap.size w (w.alloc o) := (Below.refl _ _).alloc (Nat.le_refl _) o

theorem below_reflA (w : World) : Below w.heap.size w w := Below.refl _ _

/-- the times of a response: Asked, Answered, Date, Age -/
def tmV (k n d g : Int) : Value := .agg #[.int .i64 k, .int .i64 n, .int .i64 d, .int .i64 g]
/-- block b holds these times, and below B nothing has changed since w -/
def TmB (b B : Nat) (w : World) (k n d g : Int) (W : World) : Prop :=
  W.cell? ⟨b, 0, none⟩ = some (.int .i64 k) ∧ W.cell? ⟨b, 1, none⟩ = some (.int .i64 n) ∧ W.cell? ⟨b, 2, none⟩ = some (.int .i64 d) ∧ W.cell? ⟨b, 3, none⟩ = some (.int .i64 g) ∧
  W.heap[b]? = some (.cells #[.int .i64 k, .int .i64 n, .int .i64 d, .int .i64 g] 23 (0, 0)) ∧ Below B w W
theorem TmB.of {b B : Nat} {w W : World} {k n d g : Int} (h : W.heap[b]? = some (.cells #[.int .i64 k, .int .i64 n, .int .i64 d, .int .i64 g] 23 (0, 0))) (hb : Below B w W) : TmB b B w k n d g W :=
  ⟨by rw [Lib.cell_of_heap h]; rfl, by rw [Lib.cell_of_heap h]; rfl, by rw [Lib.cell_of_heap h]; rfl, by rw [Lib.cell_of_heap h]; rfl, h, hb⟩
theorem TmB.later {b B : Nat} {w W W' : World} {k n d g : Int} (h : TmB b B w k n d g W) (hb : Below W.heap.size W W') (hB : B ≤ W.heap.size) : TmB b B w k n d g W' := by
  obtain ⟨-, -, -, -, hh, h5⟩ := h
  exact .of ((hb.block b (Array.getElem?_eq_some_iff.1 hh).1).trans hh) (h5.trans (hb.mono hB))
theorem TmB.new (w : World) (k n d g : Int) : TmB w.heap.size w.heap.size w k n d g (w.alloc (.cells #[.int .i64 k, .int .i64 n, .int .i64 d, .int .i64 g] 23)) :=
  .of (heap_alloc_last w _) (below_allocA w _)

set_option maxHeartbeats 400000 in
theorem apparent_any (k n d g : Int) (w : World) (hn : -9223372036854775808 ≤ n ∧ n ≤ 9223372036854775807) (hd : -9223372036854775808 ≤ d ∧ d ≤ 9223372036854775807) : Calls Try.prog 10 #[tmV k n d g] w fun e w' => e = .returned (.int .i64 (aftA n d)) ∧ Below w.heap.size w w' := by
  have HA := Lib.hid (fun W => after_any n d W hn hd)
  generalize aftA n d = q at *
  unfold tmV
  go_enter Try.func10, Try.ntmps10
  go_wp2_with fail
  refine (HA.out _).mono ?_
  rintro e w' ⟨rfl, rfl⟩
  go_wp2_with fail
  go_ret
  exact ⟨rfl, below_allocA _ _⟩

set_option maxHeartbeats 1000000 in
theorem corrected_any (k n d g : Int) (w : World) (hk : -9223372036854775808 ≤ k ∧ k ≤ 9223372036854775807) (hn : -9223372036854775808 ≤ n ∧ n ≤ 9223372036854775807) (hd : -9223372036854775808 ≤ d ∧ d ≤ 9223372036854775807) (hg : -9223372036854775808 ≤ g ∧ g ≤ 9223372036854775807) : Calls Try.prog 9 #[tmV k n d g] w fun e w' => e = .returned (.int .i64 (corA k n d g)) ∧ Below w.heap.size w w' := by
  have hb := dif_bd n k
  have HA : Hid (∀ W, TmB w.heap.size w.heap.size w k n d g W → Calls Try.prog 10 #[tmV k n d g] W fun e w' => e = .returned (.int .i64 (aftA n d)) ∧ TmB w.heap.size w.heap.size w k n d g w') := fun W h => (apparent_any k n d g W hn hd).mono fun e w' x => ⟨x.1, h.later x.2 h.2.2.2.2.2.size⟩
  have HD : Hid (∀ W, TmB w.heap.size w.heap.size w k n d g W → Calls Try.prog 16 #[.int .i64 n, .int .i64 k] W fun e w' => e = .returned (.int .i64 (difA n k)) ∧ TmB w.heap.size w.heap.size w k n d g w') := fun W h => (dif_any n k W hn hk).mono fun e w' x => ⟨x.1, h.later (x.2 ▸ below_reflA _) h.2.2.2.2.2.size⟩
  have HS : Hid (∀ W, TmB w.heap.size w.heap.size w k n d g W → Calls Try.prog 12 #[.int .i64 g, .int .i64 (difA n k)] W fun e w' => e = .returned (.int .i64 (addA g (difA n k))) ∧ TmB w.heap.size w.heap.size w k n d g w') := fun W h => (add_any g (difA n k) W hg (by omega)).mono fun e w' x => ⟨x.1, h.later (x.2 ▸ below_reflA _) h.2.2.2.2.2.size⟩
  have HV := Lib.hid (show corA k n d g = max (aftA n d) (addA g (difA n k)) from rfl)
  obtain ⟨k0, k1, k2, k3, k4, k5⟩ := TmB.new w k n d g
  unfold tmV TmB at *
  generalize corA k n d g = z at *
  generalize addA g (difA n k) = y at *
  generalize difA n k = x at *
  generalize aftA n d = q at *
  clear hk hn hd hg hb
  go_enter Try.func9, Try.ntmps9
  go_wp2_with fail
  generalize w.alloc (.cells #[.int .i64 k, .int .i64 n, .int .i64 d, .int .i64 g] 23) = w1 at *
  go_region_held3 (fun w' => w'.cell? ⟨w.heap.size, 0, none⟩ = some (.int .i64 k) ∧ w'.cell? ⟨w.heap.size, 1, none⟩ = some (.int .i64 n) ∧ w'.cell? ⟨w.heap.size, 2, none⟩ = some (.int .i64 d) ∧ w'.cell? ⟨w.heap.size, 3, none⟩ = some (.int .i64 g) ∧ w'.heap[w.heap.size]? = some (.cells #[.int .i64 k, .int .i64 n, .int .i64 d, .int .i64 g] 23 (0, 0)) ∧ Below w.heap.size w w') (first | (refine ⟨?_, ?_, ?_, ?_, ?_, ?_⟩ <;> first | assumption | exact Below.drew (by assumption))) (first
    | (go_at_call 10; refine (HA.out _ (by refine ⟨?_, ?_, ?_, ?_, ?_, ?_⟩ <;> first | assumption | exact Below.drew (by assumption))).mono ?_; rintro e w' ⟨rfl, k0, k1, k2, k3, k4, k5⟩)
    | (go_at_call 16; refine (HD.out _ (by refine ⟨?_, ?_, ?_, ?_, ?_, ?_⟩ <;> first | assumption | exact Below.drew (by assumption))).mono ?_; rintro e w' ⟨rfl, k0, k1, k2, k3, k4, k5⟩)
    | (go_at_call 12; refine (HS.out _ (by refine ⟨?_, ?_, ?_, ?_, ?_, ?_⟩ <;> first | assumption | exact Below.drew (by assumption))).mono ?_; rintro e w' ⟨rfl, k0, k1, k2, k3, k4, k5⟩))
  all_goals
    go_wp2_with fail
    all_goals
      go_ret
      exact ⟨retIa (by rw [HV.out]; omega), by assumption⟩

set_option maxHeartbeats 1000000 in
theorem current_any (k n d g t : Int) (w : World) (hk : -9223372036854775808 ≤ k ∧ k ≤ 9223372036854775807) (hn : -9223372036854775808 ≤ n ∧ n ≤ 9223372036854775807) (hd : -9223372036854775808 ≤ d ∧ d ≤ 9223372036854775807) (hg : -9223372036854775808 ≤ g ∧ g ≤ 9223372036854775807) (ht : -9223372036854775808 ≤ t ∧ t ≤ 9223372036854775807) : Calls Try.prog 8 #[tmV k n d g, .int .i64 t] w fun e w' => e = .returned (.int .i64 (curA k n d g t)) ∧ Below w.heap.size w w' := by
  have hb := dif_bd t n
  have hc := cor_bd k n d g
  have HA : Hid (∀ W, TmB w.heap.size w.heap.size w k n d g W → Calls Try.prog 9 #[tmV k n d g] W fun e w' => e = .returned (.int .i64 (corA k n d g)) ∧ TmB w.heap.size w.heap.size w k n d g w') := fun W h => (corrected_any k n d g W hk hn hd hg).mono fun e w' x => ⟨x.1, h.later x.2 h.2.2.2.2.2.size⟩
  have HD : Hid (∀ W, TmB w.heap.size w.heap.size w k n d g W → Calls Try.prog 16 #[.int .i64 t, .int .i64 n] W fun e w' => e = .returned (.int .i64 (difA t n)) ∧ TmB w.heap.size w.heap.size w k n d g w') := fun W h => (dif_any t n W ht hn).mono fun e w' x => ⟨x.1, h.later (x.2 ▸ below_reflA _) h.2.2.2.2.2.size⟩
  have HS : Hid (∀ W, TmB w.heap.size w.heap.size w k n d g W → Calls Try.prog 12 #[.int .i64 (corA k n d g), .int .i64 (difA t n)] W fun e w' => e = .returned (.int .i64 (addA (corA k n d g) (difA t n))) ∧ TmB w.heap.size w.heap.size w k n d g w') := fun W h => (add_any (corA k n d g) (difA t n) W (by omega) (by omega)).mono fun e w' x => ⟨x.1, h.later (x.2 ▸ below_reflA _) h.2.2.2.2.2.size⟩
  have HV := Lib.hid (show curA k n d g t = addA (corA k n d g) (difA t n) from rfl)
  obtain ⟨k0, k1, k2, k3, k4, k5⟩ := TmB.new w k n d g
  unfold tmV TmB at *
  generalize curA k n d g t = z at *
  generalize addA (corA k n d g) (difA t n) = y at *
  generalize difA t n = x at *
  generalize corA k n d g = q at *
  clear hk hn hd hg ht hb hc
  go_enter Try.func8, Try.ntmps8
  go_wp2_with fail
  generalize w.alloc (.cells #[.int .i64 k, .int .i64 n, .int .i64 d, .int .i64 g] 23) = w1 at *
  go_region_held3 (fun w' => w'.cell? ⟨w.heap.size, 0, none⟩ = some (.int .i64 k) ∧ w'.cell? ⟨w.heap.size, 1, none⟩ = some (.int .i64 n) ∧ w'.cell? ⟨w.heap.size, 2, none⟩ = some (.int .i64 d) ∧ w'.cell? ⟨w.heap.size, 3, none⟩ = some (.int .i64 g) ∧ w'.heap[w.heap.size]? = some (.cells #[.int .i64 k, .int .i64 n, .int .i64 d, .int .i64 g] 23 (0, 0)) ∧ Below w.heap.size w w') (first | (refine ⟨?_, ?_, ?_, ?_, ?_, ?_⟩ <;> first | assumption | exact Below.drew (by assumption))) (first
    | (go_at_call 9; refine (HA.out _ (by refine ⟨?_, ?_, ?_, ?_, ?_, ?_⟩ <;> first | assumption | exact Below.drew (by assumption))).mono ?_; rintro e w' ⟨rfl, k0, k1, k2, k3, k4, k5⟩)
    | (go_at_call 16; refine (HD.out _ (by refine ⟨?_, ?_, ?_, ?_, ?_, ?_⟩ <;> first | assumption | exact Below.drew (by assumption))).mono ?_; rintro e w' ⟨rfl, k0, k1, k2, k3, k4, k5⟩)
    | (go_at_call 12; refine (HS.out _ (by refine ⟨?_, ?_, ?_, ?_, ?_, ?_⟩ <;> first | assumption | exact Below.drew (by assumption))).mono ?_; rintro e w' ⟨rfl, k0, k1, k2, k3, k4, k5⟩))
  all_goals
    go_wp2_with fail
    go_ret
    exact ⟨retIa HV.out.symm, by assumption⟩
end Tk
end Go.Proofs.Ytjhakmobbncbgaa
