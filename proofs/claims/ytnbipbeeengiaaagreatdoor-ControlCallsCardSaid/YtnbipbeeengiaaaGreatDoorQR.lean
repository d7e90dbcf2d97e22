/- RcE, put together. -/
import Derived.Test.YtnbipbeeengiaaaGreatDoorQL
import Derived.Test.YtnbipbeeengiaaaGreatDoorQO
import Derived.Deep.RegionHeld
namespace Go.Proofs.YtnbipbeeengiaaaGreatDoor
open Go.RowKit
namespace Tk

def partQ (c : Ctl) (i : Nat) : List Bs := if i < 6 then numQ ((numsL c).getD i ([], 0)) else flgQ ((flagsL c).getD (i - 6) ([], false))
def pfxQ (c : Ctl) (i : Nat) : List Bs := (List.range i).flatMap (partQ c)
theorem pfxQ_succ (c : Ctl) (i : Nat) : pfxQ c (i + 1) = pfxQ c i ++ partQ c i := by
  unfold pfxQ
  rw [List.range_succ, List.flatMap_append]
  simp
theorem pfxQ_all (c : Ctl) : pfxQ c 15 = partsC c := by
  rw [parts_eq]
  simp [pfxQ, List.range, List.range.loop, partQ, numsL, flagsL, List.getD]
theorem nums_at (c : Ctl) (i : Nat) (h : i < 6) : ((numsL c).getD i ([], 0)).1 ≠ [] ∧ ((numsL c).getD i ([], 0)).1.length ≤ 30 ∧ (((numsL c).getD i ([], 0)).1 = dn2 ↔ i = 2) := by
  rcases (by omega : i = 0 ∨ i = 1 ∨ i = 2 ∨ i = 3 ∨ i = 4 ∨ i = 5) with rfl | rfl | rfl | rfl | rfl | rfl
  · exact (by decide : dn0 ≠ [] ∧ dn0.length ≤ 30 ∧ (dn0 = dn2 ↔ 0 = 2))
  · exact (by decide : dn1 ≠ [] ∧ dn1.length ≤ 30 ∧ (dn1 = dn2 ↔ 1 = 2))
  · exact (by decide : dn2 ≠ [] ∧ dn2.length ≤ 30 ∧ (dn2 = dn2 ↔ 2 = 2))
  · exact (by decide : dn3 ≠ [] ∧ dn3.length ≤ 30 ∧ (dn3 = dn2 ↔ 3 = 2))
  · exact (by decide : dn4 ≠ [] ∧ dn4.length ≤ 30 ∧ (dn4 = dn2 ↔ 4 = 2))
  · exact (by decide : dn5 ≠ [] ∧ dn5.length ≤ 30 ∧ (dn5 = dn2 ↔ 5 = 2))
theorem flags_at (c : Ctl) (i : Nat) (h : i < 9) : ((flagsL c).getD i ([], false)).1 ≠ [] ∧ ((flagsL c).getD i ([], false)).1.length ≤ 30 := by
  rcases (by omega : i = 0 ∨ i = 1 ∨ i = 2 ∨ i = 3 ∨ i = 4 ∨ i = 5 ∨ i = 6 ∨ i = 7 ∨ i = 8) with rfl | rfl | rfl | rfl | rfl | rfl | rfl | rfl | rfl
  · exact (by decide : dn6 ≠ [] ∧ dn6.length ≤ 30)
  · exact (by decide : dn7 ≠ [] ∧ dn7.length ≤ 30)
  · exact (by decide : dn8 ≠ [] ∧ dn8.length ≤ 30)
  · exact (by decide : dn9 ≠ [] ∧ dn9.length ≤ 30)
  · exact (by decide : dn10 ≠ [] ∧ dn10.length ≤ 30)
  · exact (by decide : dn11 ≠ [] ∧ dn11.length ≤ 30)
  · exact (by decide : dn12 ≠ [] ∧ dn12.length ≤ 30)
  · exact (by decide : dn13 ≠ [] ∧ dn13.length ≤ 30)
  · exact (by decide : dn14 ≠ [] ∧ dn14.length ≤ 30)
theorem numQ_ok (d : Bs × Int) (h1 : d.1 ≠ []) (h2 : d.1.length ≤ 30) (h3 : d.2 ≤ 9223372036854775807) : (numQ d).length ≤ 1 ∧ Lib.lens (numQ d) ≤ 60 ∧ ∀ x ∈ numQ d, x ≠ [] := by
  unfold numQ
  split
  · exact ⟨by simp, by simp [Lib.lens], by simp⟩
  · split
    · exact ⟨by simp, by simp [Lib.lens]; omega, by simpa using h1⟩
    · have := digL_len 18 d.2.toNat (by omega)
      exact ⟨by simp, by simp [Lib.lens]; omega, by simp⟩
theorem flgQ_ok (d : Bs × Bool) (h1 : d.1 ≠ []) (h2 : d.1.length ≤ 30) : (flgQ d).length ≤ 1 ∧ Lib.lens (flgQ d) ≤ 60 ∧ ∀ x ∈ flgQ d, x ≠ [] := by
  unfold flgQ
  split
  · exact ⟨by simp, by simp [Lib.lens]; omega, by simpa using h1⟩
  · exact ⟨by simp, by simp [Lib.lens], by simp⟩
theorem partQ_ok (c : Ctl) (hi : i64C c) (i : Nat) (h : i < 15) : (partQ c i).length ≤ 1 ∧ Lib.lens (partQ c i) ≤ 60 ∧ ∀ x ∈ partQ c i, x ≠ [] := by
  unfold partQ
  split
  · rename_i h6
    obtain ⟨k1, k2, -⟩ := nums_at c i h6
    exact numQ_ok _ k1 k2 (nums_le c hi _ (by simp [List.getD, numsL, h6]))
  · obtain ⟨k1, k2⟩ := flags_at c (i - 6) (by omega)
    exact flgQ_ok _ k1 k2
theorem pfxQ_ok (c : Ctl) (hi : i64C c) : ∀ i, i ≤ 15 → segL (pfxQ c i) i ∧ ∀ x ∈ pfxQ c i, x ≠ []
  | 0, _ => ⟨⟨by simp [pfxQ], by simp [pfxQ, Lib.lens]⟩, by simp [pfxQ]⟩
  | i + 1, h => by
    obtain ⟨h1, h2⟩ := pfxQ_ok c hi i (by omega)
    obtain ⟨k1, k2, k3⟩ := partQ_ok c hi i (by omega)
    rw [pfxQ_succ]
    refine ⟨h1.app ⟨k1, k2⟩, fun x hx => ?_⟩
    rw [List.mem_append] at hx
    exact hx.elim (h2 x) (k3 x)
theorem join_snocT (A : List Bs) (p : Bs) (h : A ≠ []) : Lib.join (A ++ [p]) [44, 32] = Lib.join A [44, 32] ++ [44, 32] ++ p := by
  cases A with
  | nil => exact absurd rfl h
  | cons x r =>
    rw [List.cons_append, Lib.join_cons, Lib.join_cons]
    simp [Lib.joinTail, List.append_assoc]
theorem join_neT (A : List Bs) (h : ∀ x ∈ A, x ≠ []) (hA : A ≠ []) : Lib.join A [44, 32] ≠ [] := by
  cases A with
  | nil => exact absurd rfl hA
  | cons x r =>
    rw [Lib.join_cons]
    intro e
    have := h x (by simp)
    rw [List.append_eq_nil_iff] at e
    exact this e.1
theorem mkS_nilR (o : Bs) : mkS o ++ ⟨#[]⟩ = mkS o := by rw [show (⟨#[]⟩ : ByteArray) = mkS [] from rfl, mkS_append, List.append_nil]
theorem join_lenT (A : List Bs) : (Lib.join A [44, 32]).length ≤ Lib.lens A + 2 * A.length := by
  cases A with
  | nil => simp [Lib.join_nil]
  | cons x r =>
    rw [Lib.join_length]
    simp
    omega

theorem five_rows (w : World) (c0 c1 c2 c3 c4 : Array Value) (t0 t1 t2 t3 t4 : TypeId) :
    Bx (((((w.alloc (.cells c0 t0)).alloc (.cells c1 t1)).alloc (.cells c2 t2)).alloc (.cells c3 t3)).alloc (.cells c4 t4)) (w.heap.size + 1) t1 c1 ∧ Bx (((((w.alloc (.cells c0 t0)).alloc (.cells c1 t1)).alloc (.cells c2 t2)).alloc (.cells c3 t3)).alloc (.cells c4 t4)) (w.heap.size + 1 + 1) t2 c2 ∧ Bx (((((w.alloc (.cells c0 t0)).alloc (.cells c1 t1)).alloc (.cells c2 t2)).alloc (.cells c3 t3)).alloc (.cells c4 t4)) (w.heap.size + 1 + 1 + 1) t3 c3 ∧ Bx (((((w.alloc (.cells c0 t0)).alloc (.cells c1 t1)).alloc (.cells c2 t2)).alloc (.cells c3 t3)).alloc (.cells c4 t4)) (w.heap.size + 1 + 1 + 1 + 1) t4 c4 ∧ Below w.heap.size w (((((w.alloc (.cells c0 t0)).alloc (.cells c1 t1)).alloc (.cells c2 t2)).alloc (.cells c3 t3)).alloc (.cells c4 t4)) := by
  have s1 : (w.alloc (.cells c0 t0)).heap.size = w.heap.size + 1 := by simp
  generalize hw1 : w.alloc (.cells c0 t0) = w1 at *
  have s2 : (w1.alloc (.cells c1 t1)).heap.size = w.heap.size + 1 + 1 := by simp [s1]
  have s3 : ((w1.alloc (.cells c1 t1)).alloc (.cells c2 t2)).heap.size = w.heap.size + 1 + 1 + 1 := by simp [s1]
  have s4 : (((w1.alloc (.cells c1 t1)).alloc (.cells c2 t2)).alloc (.cells c3 t3)).heap.size = w.heap.size + 1 + 1 + 1 + 1 := by simp [s1]
  have b2 := Bx.new w1 t1 c1
  have b3 := Bx.new (w1.alloc (.cells c1 t1)) t2 c2
  have b4 := Bx.new ((w1.alloc (.cells c1 t1)).alloc (.cells c2 t2)) t3 c3
  have b5 := Bx.new (((w1.alloc (.cells c1 t1)).alloc (.cells c2 t2)).alloc (.cells c3 t3)) t4 c4
  rw [s1] at b2
  rw [s2] at b3
  rw [s3] at b4
  rw [s4] at b5
  have k1 : Below w.heap.size w w1 := by rw [← hw1]; exact below_allocC w _
  refine ⟨((b2.later (below_allocC _ _)).later (below_allocC _ _)).later (below_allocC _ _), (b3.later (below_allocC _ _)).later (below_allocC _ _), b4.later (below_allocC _ _), b5, ?_⟩
  exact (((k1.alloc k1.size _).alloc (by rw [s2]; omega) _).alloc (by rw [s3]; omega) _).alloc (by rw [s4]; omega) _
theorem numNames_at (c : Ctl) (i : Nat) (h : i < 6) : (#[.string ⟨#[109, 97, 120, 45, 97, 103, 101]⟩, .string ⟨#[115, 45, 109, 97, 120, 97, 103, 101]⟩, .string ⟨#[109, 97, 120, 45, 115, 116, 97, 108, 101]⟩, .string ⟨#[109, 105, 110, 45, 102, 114, 101, 115, 104]⟩, .string ⟨#[115, 116, 97, 108, 101, 45, 119, 104, 105, 108, 101, 45, 114, 101, 118, 97, 108, 105, 100, 97, 116, 101]⟩, .string ⟨#[115, 116, 97, 108, 101, 45, 105, 102, 45, 101, 114, 114, 111, 114]⟩] : Array Value)[i]? = some (.string (mkS ((numsL c).getD i ([], 0)).1)) ∧ (#[.int .i64 c.a0, .int .i64 c.a1, .int .i64 c.a2, .int .i64 c.a3, .int .i64 c.a4, .int .i64 c.a5] : Array Value)[i]? = some (.int .i64 ((numsL c).getD i ([], 0)).2) := by
  rcases (by omega : i = 0 ∨ i = 1 ∨ i = 2 ∨ i = 3 ∨ i = 4 ∨ i = 5) with rfl | rfl | rfl | rfl | rfl | rfl <;> exact ⟨rfl, rfl⟩
theorem flgNames_at (c : Ctl) (i : Nat) (h : i < 9) : (#[.string ⟨#[110, 111, 45, 99, 97, 99, 104, 101]⟩, .string ⟨#[110, 111, 45, 115, 116, 111, 114, 101]⟩, .string ⟨#[110, 111, 45, 116, 114, 97, 110, 115, 102, 111, 114, 109]⟩, .string ⟨#[111, 110, 108, 121, 45, 105, 102, 45, 99, 97, 99, 104, 101, 100]⟩, .string ⟨#[109, 117, 115, 116, 45, 114, 101, 118, 97, 108, 105, 100, 97, 116, 101]⟩, .string ⟨#[112, 114, 111, 120, 121, 45, 114, 101, 118, 97, 108, 105, 100, 97, 116, 101]⟩, .string ⟨#[109, 117, 115, 116, 45, 117, 110, 100, 101, 114, 115, 116, 97, 110, 100]⟩, .string ⟨#[112, 117, 98, 108, 105, 99]⟩, .string ⟨#[112, 114, 105, 118, 97, 116, 101]⟩] : Array Value)[i]? = some (.string (mkS ((flagsL c).getD i ([], false)).1)) ∧ (#[.bool c.b0, .bool c.b1, .bool c.b2, .bool c.b3, .bool c.b4, .bool c.b5, .bool c.b6, .bool c.b7, .bool c.b8] : Array Value)[i]? = some (.bool ((flagsL c).getD i ([], false)).2) := by
  rcases (by omega : i = 0 ∨ i = 1 ∨ i = 2 ∨ i = 3 ∨ i = 4 ∨ i = 5 ∨ i = 6 ∨ i = 7 ∨ i = 8) with rfl | rfl | rfl | rfl | rfl | rfl | rfl | rfl | rfl <;> exact ⟨rfl, rfl⟩

set_option maxHeartbeats 16000000 in
set_option maxRecDepth 100000 in
theorem rtext10_any (c : Ctl) (w : World) (hi : i64C c) : Calls Tryz.prog 39 #[.agg (ctlA c)] w fun e w' => e = .returned (.string (mkS (textC c))) ∧ Below w.heap.size w w' := by
  have hb0 := below_allocC w (.cells (ctlA c) 63)
  have hX := Bx.new w 63 (ctlA c)
  have z0 := hX.cell 0 (.int .i64 c.a0) rfl
  have z1 := hX.cell 1 (.int .i64 c.a1) rfl
  have z2 := hX.cell 2 (.int .i64 c.a2) rfl
  have z3 := hX.cell 3 (.int .i64 c.a3) rfl
  have z4 := hX.cell 4 (.int .i64 c.a4) rfl
  have z5 := hX.cell 5 (.int .i64 c.a5) rfl
  have z6 := hX.cell 6 (.bool c.b0) rfl
  have z7 := hX.cell 7 (.bool c.b1) rfl
  have z8 := hX.cell 8 (.bool c.b2) rfl
  have z9 := hX.cell 9 (.bool c.b3) rfl
  have z10 := hX.cell 10 (.bool c.b4) rfl
  have z11 := hX.cell 11 (.bool c.b5) rfl
  have z12 := hX.cell 12 (.bool c.b6) rfl
  have z13 := hX.cell 13 (.bool c.b7) rfl
  have z14 := hX.cell 14 (.bool c.b8) rfl
  have HTx := Lib.hid (show textC c = Lib.join (pfxQ c 15) [44, 32] by rw [pfxQ_all]; rfl)
  have HOk := Lib.hid (fun i hi15 => pfxQ_ok c hi i hi15)
  have HNa := Lib.hid (nums_at c)
  have HFa := Lib.hid (flags_at c)
  have HLe := Lib.hid (nums_le c hi)
  have HDg : Hid (∀ (u : Nat) (W : World), u ≤ 9223372036854775807 → Calls Tryz.prog 74 #[.int .i64 (u : Int)] W fun e w' => e = .returned (.string (mkS (digL u))) ∧ W = w') := fun u W hu => rcdig_nat u u (Nat.le_refl _) hu W
  go_enter Tryz.func39, Tryz.ntmps39
  unfold ctlA at *
  go_wp2_with fail
  obtain ⟨hN, hV, hF, hS, hBw⟩ := five_rows w #[.int .i64 c.a0, .int .i64 c.a1, .int .i64 c.a2, .int .i64 c.a3, .int .i64 c.a4, .int .i64 c.a5, .bool c.b0, .bool c.b1, .bool c.b2, .bool c.b3, .bool c.b4, .bool c.b5, .bool c.b6, .bool c.b7, .bool c.b8] #[.string ⟨#[109, 97, 120, 45, 97, 103, 101]⟩, .string ⟨#[115, 45, 109, 97, 120, 97, 103, 101]⟩, .string ⟨#[109, 97, 120, 45, 115, 116, 97, 108, 101]⟩, .string ⟨#[109, 105, 110, 45, 102, 114, 101, 115, 104]⟩, .string ⟨#[115, 116, 97, 108, 101, 45, 119, 104, 105, 108, 101, 45, 114, 101, 118, 97, 108, 105, 100, 97, 116, 101]⟩, .string ⟨#[115, 116, 97, 108, 101, 45, 105, 102, 45, 101, 114, 114, 111, 114]⟩] #[.int .i64 c.a0, .int .i64 c.a1, .int .i64 c.a2, .int .i64 c.a3, .int .i64 c.a4, .int .i64 c.a5] #[.string ⟨#[110, 111, 45, 99, 97, 99, 104, 101]⟩, .string ⟨#[110, 111, 45, 115, 116, 111, 114, 101]⟩, .string ⟨#[110, 111, 45, 116, 114, 97, 110, 115, 102, 111, 114, 109]⟩, .string ⟨#[111, 110, 108, 121, 45, 105, 102, 45, 99, 97, 99, 104, 101, 100]⟩, .string ⟨#[109, 117, 115, 116, 45, 114, 101, 118, 97, 108, 105, 100, 97, 116, 101]⟩, .string ⟨#[112, 114, 111, 120, 121, 45, 114, 101, 118, 97, 108, 105, 100, 97, 116, 101]⟩, .string ⟨#[109, 117, 115, 116, 45, 117, 110, 100, 101, 114, 115, 116, 97, 110, 100]⟩, .string ⟨#[112, 117, 98, 108, 105, 99]⟩, .string ⟨#[112, 114, 105, 118, 97, 116, 101]⟩] #[.bool c.b0, .bool c.b1, .bool c.b2, .bool c.b3, .bool c.b4, .bool c.b5, .bool c.b6, .bool c.b7, .bool c.b8] 63 9 2 9 4
  have HNc := Lib.hid (numNames_at c)
  have HFc := Lib.hid (flgNames_at c)
  have HN := Lib.hid hN
  have HV := Lib.hid hV
  have HF := Lib.hid hF
  have HS := Lib.hid hS
  have HB := Lib.hid hBw
  clear hN hV hF hS hBw z0 z1 z2 z3 z4 z5 z6 z7 z8 z9 z10 z11 z12 z13 z14 hX hb0
  generalize (((((w.alloc (.cells #[.int .i64 c.a0, .int .i64 c.a1, .int .i64 c.a2, .int .i64 c.a3, .int .i64 c.a4, .int .i64 c.a5, .bool c.b0, .bool c.b1, .bool c.b2, .bool c.b3, .bool c.b4, .bool c.b5, .bool c.b6, .bool c.b7, .bool c.b8] 63)).alloc (.cells #[.string ⟨#[109, 97, 120, 45, 97, 103, 101]⟩, .string ⟨#[115, 45, 109, 97, 120, 97, 103, 101]⟩, .string ⟨#[109, 97, 120, 45, 115, 116, 97, 108, 101]⟩, .string ⟨#[109, 105, 110, 45, 102, 114, 101, 115, 104]⟩, .string ⟨#[115, 116, 97, 108, 101, 45, 119, 104, 105, 108, 101, 45, 114, 101, 118, 97, 108, 105, 100, 97, 116, 101]⟩, .string ⟨#[115, 116, 97, 108, 101, 45, 105, 102, 45, 101, 114, 114, 111, 114]⟩] 9)).alloc (.cells #[.int .i64 c.a0, .int .i64 c.a1, .int .i64 c.a2, .int .i64 c.a3, .int .i64 c.a4, .int .i64 c.a5] 2)).alloc (.cells #[.string ⟨#[110, 111, 45, 99, 97, 99, 104, 101]⟩, .string ⟨#[110, 111, 45, 115, 116, 111, 114, 101]⟩, .string ⟨#[110, 111, 45, 116, 114, 97, 110, 115, 102, 111, 114, 109]⟩, .string ⟨#[111, 110, 108, 121, 45, 105, 102, 45, 99, 97, 99, 104, 101, 100]⟩, .string ⟨#[109, 117, 115, 116, 45, 114, 101, 118, 97, 108, 105, 100, 97, 116, 101]⟩, .string ⟨#[112, 114, 111, 120, 121, 45, 114, 101, 118, 97, 108, 105, 100, 97, 116, 101]⟩, .string ⟨#[109, 117, 115, 116, 45, 117, 110, 100, 101, 114, 115, 116, 97, 110, 100]⟩, .string ⟨#[112, 117, 98, 108, 105, 99]⟩, .string ⟨#[112, 114, 105, 118, 97, 116, 101]⟩] 9)).alloc (.cells #[.bool c.b0, .bool c.b1, .bool c.b2, .bool c.b3, .bool c.b4, .bool c.b5, .bool c.b6, .bool c.b7, .bool c.b8] 4)) = W0 at *
  generalize w.heap.size + 1 + 1 + 1 + 1 = bS at *
  generalize w.heap.size + 1 + 1 + 1 = bF at *
  generalize w.heap.size + 1 + 1 = bV at *
  generalize w.heap.size + 1 = bN at *
  go_loopw [7, 8, 9] (fun v7 v8 _ wr => ∃ i : Nat, i ≤ 15 ∧ v8 = .int .i64 i ∧ v7 = .string (mkS (Lib.join (pfxQ c i) [44, 32])) ∧ Hid (Below W0.heap.size W0 wr)) (fun _ v8 _ _ => 15 - (RowKit.intOf v8).toNat)
  case atStart => exact ⟨0, Nat.zero_le _, rfl, rfl, Below.refl _ _⟩
  case round =>
    obtain ⟨i, hi15, rfl, rfl, HW⟩ := hrel
    rename World => W
    by_cases hlt : i < 15
    · have hok := HOk.out i (by omega)
      have hst := pfxQ_succ c i
      have hsz := join_lenT (pfxQ c i)
      obtain ⟨⟨q1, q2⟩, q3⟩ := hok
      have HAn := Lib.hid q3
      have hoz : (Lib.join (pfxQ c i) [44, 32]).length ≤ 1000 := by omega
      obtain ⟨A, hA⟩ : ∃ A, A = pfxQ c i := ⟨_, rfl⟩
      rw [← hA] at HAn hst hoz ⊢
      obtain ⟨o, ho⟩ : ∃ o, o = Lib.join A [44, 32] := ⟨_, rfl⟩
      rw [← ho] at hoz ⊢
      have HO := Lib.hid ho
      have oz : (mkS o).size ≤ 1000 := by rw [size_mkS]; exact hoz
      clear hsz q1 q2 q3 hA ho hoz
      have g0 : (0 : Int) ≤ (i : Int) := by omega
      have g1 : (i : Int) < 15 := by omega
      by_cases h6 : i < 6
      · have hpq : partQ c i = numQ ((numsL c).getD i ([], 0)) := by unfold partQ; rw [if_pos h6]
        obtain ⟨k1, k2, k3⟩ := HNa.out i h6
        have hle := HLe.out ((numsL c).getD i ([], 0)) (by simp [List.getD, numsL, h6])
        obtain ⟨r1, r2⟩ := HNc.out i h6
        rw [hpq] at hst
        generalize (numsL c).getD i ([], 0) = d at *
        obtain ⟨nm, a⟩ := d
        simp only at k1 k2 k3 r1 r2 hle
        have c1 : W.cell? ⟨bN, i, none⟩ = some (.string (mkS nm)) := (HN.out.later HW.out).cell i _ r1
        have c2 : W.cell? ⟨bV, i, none⟩ = some (.int .i64 a) := (HV.out.later HW.out).cell i _ r2
        have g6 : ¬ (6 : Int) ≤ (i : Int) := by omega
        have g7 : (i : Int) < 6 := by omega
        have hnz : (mkS nm).size ≤ 30 := by rw [size_mkS]; exact k2
        have hqd : numQ (nm, a) = if a < 0 then [] else if nm = dn2 ∧ a = mxD then [nm] else [nm ++ [61] ++ digL a.toNat] := rfl
        clear hpq r1 r2 h6
        by_cases h2 : i = 2
        · have bi : ((i : Int) == 2) = true := by rw [h2]; rfl
          have hnm : nm = dn2 := k3.2 h2
          clear h2
          by_cases hm : a = 2147483648
          · rw [hqd, if_neg (by omega), if_pos ⟨hnm, hm⟩] at hst
            have bm : (a == 2147483648) = true := by rw [hm]; rfl
            have HSt := Lib.hid hst
            have pe : (mkS nm).toList.isEmpty = false := by rw [toList_bs, bs_mkS]; cases nm with | nil => exact absurd rfl k1 | cons a t => rfl
            clear hst hqd hnm hm k1 k2 k3 hle
            by_cases hA : A = []
            · have ho : o = [] := by rw [HO.out, hA]; rfl
              have oe : (mkS o).toList.isEmpty = true := by rw [ho, toList_bs]; rfl
              have hnx : mkS (Lib.join (pfxQ c (i + 1)) [44, 32]) = mkS o ++ mkS nm := by rw [HSt.out, hA, ho, mkS_append]; simp [Lib.join_one]
              have HNx := Lib.hid hnx
              clear hnx ho hA
              go_wp2_with fail
              exact ⟨⟨i + 1, by omega, by go_num, by rw [HNx.out], HW⟩, by simp [RowKit.intOf]; omega⟩
            · have hne : o ≠ [] := by rw [HO.out]; exact join_neT A HAn.out hA
              have oe : (mkS o).toList.isEmpty = false := by rw [toList_bs, bs_mkS]; cases o with | nil => exact absurd rfl hne | cons a t => rfl
              have hnx : mkS (Lib.join (pfxQ c (i + 1)) [44, 32]) = mkS o ++ ⟨#[44, 32]⟩ ++ mkS nm := by rw [HSt.out, join_snocT A nm hA, ← HO.out, ← mkS_append, ← mkS_append]; rfl
              have HNx := Lib.hid hnx
              clear hnx hne hA
              go_wp2_with fail
              exact ⟨⟨i + 1, by omega, by go_num, by rw [HNx.out], HW⟩, by simp [RowKit.intOf]; omega⟩
          · have bm : (a == 2147483648) = false := by rw [beq_eq_false_iff_ne]; exact hm
            have hno : ¬ (nm = dn2 ∧ a = mxD) := fun e => hm e.2
            clear hm hnm
            by_cases hneg : a < 0
            · rw [hqd, if_pos hneg] at hst
              have HSt := Lib.hid hst
              have n0 : ¬ (0 : Int) ≤ a := by omega
              clear hst hqd hno k1 k2 k3 hle hneg
              have HNx := Lib.hid (show pfxQ c (i + 1) = A from HSt.out.trans (List.append_nil _))
              go_wp2_with fail
              exact ⟨⟨i + 1, by omega, by go_num, by rw [HNx.out, ← HO.out, mkS_nilR], HW⟩, by simp [RowKit.intOf]; omega⟩
            · rw [hqd, if_neg hneg, if_neg hno] at hst
              obtain ⟨u, rfl⟩ : ∃ u : Nat, a = u := ⟨a.toNat, by omega⟩
              have hst2 : pfxQ c (i + 1) = A ++ [nm ++ [61] ++ digL u] := hst
              have hdz : (mkS (digL u)).size ≤ 19 := by rw [size_mkS]; exact digL_len 18 u (by omega)
              have hu64 : u ≤ 9223372036854775807 := by omega
              have n0 : (0 : Int) ≤ (u : Int) := by omega
              have HSt := Lib.hid hst2
              have hHeld0 : (fun Wz : World => Wz.cell? ⟨bN, i, none⟩ = some (.string (mkS nm)) ∧ Wz.cell? ⟨bV, i, none⟩ = some (.int .i64 (u : Int)) ∧ Below W0.heap.size W0 Wz) W.drew := ⟨c1, c2, HW.out.drew⟩
              clear hst hst2 hqd hno k1 k2 k3 hle hneg
              go_wp2_with fail
              refine wp_region_held_drew (S := (fun Wz => Wz.cell? ⟨bN, i, none⟩ = some (.string (mkS nm)) ∧ Wz.cell? ⟨bV, i, none⟩ = some (.int .i64 (u : Int)) ∧ Below W0.heap.size W0 Wz)) (by kernel_rfl) hHeld0 (fun hHeld => ?_)
              refine wpAnyH_take (i := 0) (v := ?_) rfl (by kernel_rfl) (by kernel_rfl) (by kernel_rfl) (fun _ _ _ h => h) (Or.inl ⟨by kernel_rfl, ?_⟩) (by assumption) ?_
              case refine_2 => (intro Wz hSw; go_simp; try with_reducible rfl)
              try simp only [Act.put, List.getElem_toArray, List.getElem_cons_zero, List.setIfInBounds_toArray, List.set_cons_zero, List.set_cons_succ]
              refine wpAnyH_take (i := 1) (v := ?_) rfl (by kernel_rfl) (by kernel_rfl) (by kernel_rfl) (fun _ _ _ h => h) (Or.inl ⟨by kernel_rfl, ?_⟩) (by assumption) ?_
              case refine_2 => (intro Wz hSw; go_simp; try with_reducible rfl)
              try simp only [Act.put, List.getElem_toArray, List.getElem_cons_succ, List.getElem_cons_zero, List.setIfInBounds_toArray, List.set_cons_zero, List.set_cons_succ]
              refine wpAnyH_take (i := 2) (v := ?_) rfl (by kernel_rfl) (by kernel_rfl) (by kernel_rfl) (fun _ _ _ h => h) (Or.inl ⟨by kernel_rfl, ?_⟩) (by assumption) ?_
              case refine_2 => (intro Wz hSw; go_simp; try with_reducible rfl)
              try simp only [Act.put, List.getElem_toArray, List.getElem_cons_succ, List.getElem_cons_zero, List.setIfInBounds_toArray, List.set_cons_zero, List.set_cons_succ]
              refine wpAnyH_take (i := 3) (v := .string (mkS nm)) rfl (by kernel_rfl) (by kernel_rfl) (by kernel_rfl) (fun _ _ _ h => h) (Or.inl ⟨by kernel_rfl, ?_⟩) (by assumption) ?_
              case refine_1 => (intro Wz hSw; have u := hSw.1; go_simp; try with_reducible rfl)
              try simp only [Act.put, List.getElem_toArray, List.getElem_cons_succ, List.getElem_cons_zero, List.setIfInBounds_toArray, List.set_cons_zero, List.set_cons_succ]
              refine wpAnyH_take (i := 4) (v := .string (mkS nm ++ ⟨#[61]⟩)) rfl (by kernel_rfl) (by kernel_rfl) (by kernel_rfl) (fun _ _ _ h => h) (Or.inl ⟨by kernel_rfl, ?_⟩) (by assumption) ?_
              case refine_1 => (intro Wz hSw; have u2 : ¬ 9223372036854775807 < (mkS nm).size + 1 := (by omega); go_simp; try with_reducible rfl)
              try simp only [Act.put, List.getElem_toArray, List.getElem_cons_succ, List.getElem_cons_zero, List.setIfInBounds_toArray, List.set_cons_zero, List.set_cons_succ]
              refine wpAnyH_take (i := 5) (v := ?_) rfl (by kernel_rfl) (by kernel_rfl) (by kernel_rfl) (fun _ _ _ h => h) (Or.inl ⟨by kernel_rfl, ?_⟩) (by assumption) ?_
              case refine_2 => (intro Wz hSw; go_simp; try with_reducible rfl)
              try simp only [Act.put, List.getElem_toArray, List.getElem_cons_succ, List.getElem_cons_zero, List.setIfInBounds_toArray, List.set_cons_zero, List.set_cons_succ]
              refine wpAnyH_take (i := 6) (v := ?_) rfl (by kernel_rfl) (by kernel_rfl) (by kernel_rfl) (fun _ _ _ h => h) (Or.inl ⟨by kernel_rfl, ?_⟩) (by assumption) ?_
              case refine_2 => (intro Wz hSw; go_simp; try with_reducible rfl)
              try simp only [Act.put, List.getElem_toArray, List.getElem_cons_succ, List.getElem_cons_zero, List.setIfInBounds_toArray, List.set_cons_zero, List.set_cons_succ]
              refine wpAnyH_take (i := 7) (v := ?_) rfl (by kernel_rfl) (by kernel_rfl) (by kernel_rfl) (fun _ _ _ h => h) (Or.inl ⟨by kernel_rfl, ?_⟩) (by assumption) ?_
              case refine_2 => (intro Wz hSw; go_simp; try with_reducible rfl)
              try simp only [Act.put, List.getElem_toArray, List.getElem_cons_succ, List.getElem_cons_zero, List.setIfInBounds_toArray, List.set_cons_zero, List.set_cons_succ]
              refine wpAnyH_take (i := 8) (v := .int .i64 (u : Int)) rfl (by kernel_rfl) (by kernel_rfl) (by kernel_rfl) (fun _ _ _ h => h) (Or.inl ⟨by kernel_rfl, ?_⟩) (by assumption) ?_
              case refine_1 => (intro Wz hSw; have u := hSw.2.1; go_simp; try with_reducible rfl)
              try simp only [Act.put, List.getElem_toArray, List.getElem_cons_succ, List.getElem_cons_zero, List.setIfInBounds_toArray, List.set_cons_zero, List.set_cons_succ]
              refine wpAnyH_ready (rs := [9]) (by kernel_rfl) (by simp) ?_
              refine AllReadyH.cons rfl (fun K hK => ?_) AllReadyH.nil
              go_simp
              refine (HDg.out u _ hu64).mono ?_
              rintro e w5 ⟨rfl, rfl⟩
              go_simp
              refine hK.out _ _ (by assumption) (fun hHeld2 => ?_)
              clear hK K hHeld2
              try simp only [Act.put, List.getElem_toArray, List.getElem_cons_succ, List.getElem_cons_zero, List.setIfInBounds_toArray, List.set_cons_zero, List.set_cons_succ]
              refine wpAnyH_take (i := 10) (v := .string (mkS (nm ++ [61] ++ digL u))) rfl (by kernel_rfl) (by kernel_rfl) (by kernel_rfl) (fun _ _ _ h => h) (Or.inl ⟨by kernel_rfl, ?_⟩) (by assumption) ?_
              case refine_1 => (intro Wz hSw; have u2 := sizeC_sum nm u hnz hdz; have u3 := textQ_eq nm u; go_simp; try with_reducible rfl)
              try simp only [Act.put, List.getElem_toArray, List.getElem_cons_succ, List.getElem_cons_zero, List.setIfInBounds_toArray, List.set_cons_zero, List.set_cons_succ]
              refine wpAnyH_take (i := 11) (v := ?_) rfl (by kernel_rfl) (by kernel_rfl) (by kernel_rfl) (fun _ _ _ h => h) (Or.inl ⟨by kernel_rfl, ?_⟩) (by assumption) ?_
              case refine_2 => (intro Wz hSw; go_simp; try with_reducible rfl)
              try simp only [Act.put, List.getElem_toArray, List.getElem_cons_succ, List.getElem_cons_zero, List.setIfInBounds_toArray, List.set_cons_zero, List.set_cons_succ]
              refine wpAnyH_done (by kernel_rfl) ?_ _
              have HW2 := Lib.hid HW.out.drew
              have hp1 : nm ++ [61] ++ digL u = nm ++ 61 :: digL u := by simp
              rw [hp1] at HSt
              have hpz : (mkS (nm ++ 61 :: digL u)).size ≤ 60 := by rw [size_mkS] at *; simp; omega
              have pe : (mkS (nm ++ 61 :: digL u)).toList.isEmpty = false := by rw [toList_bs, bs_mkS]; simp
              clear hnz hdz hp1 hHeld hHeld0 c1 c2
              generalize nm ++ 61 :: digL u = p at *
              by_cases hA : A = []
              · have ho : o = [] := by rw [HO.out, hA]; rfl
                have oe : (mkS o).toList.isEmpty = true := by rw [ho, toList_bs]; rfl
                have hnx : mkS (Lib.join (pfxQ c (i + 1)) [44, 32]) = mkS o ++ mkS p := by rw [HSt.out, hA, ho, mkS_append]; simp [Lib.join_one]
                have HNx := Lib.hid hnx
                clear hnx ho hA
                go_wp2_with fail
                exact ⟨⟨i + 1, by omega, by go_num, by rw [HNx.out], HW2⟩, by simp [RowKit.intOf]; omega⟩
              · have hne : o ≠ [] := by rw [HO.out]; exact join_neT A HAn.out hA
                have oe : (mkS o).toList.isEmpty = false := by rw [toList_bs, bs_mkS]; cases o with | nil => exact absurd rfl hne | cons a t => rfl
                have hnx : mkS (Lib.join (pfxQ c (i + 1)) [44, 32]) = mkS o ++ ⟨#[44, 32]⟩ ++ mkS p := by rw [HSt.out, join_snocT A p hA, ← HO.out, ← mkS_append, ← mkS_append]; rfl
                have HNx := Lib.hid hnx
                clear hnx hne hA
                go_wp2_with fail
                exact ⟨⟨i + 1, by omega, by go_num, by rw [HNx.out], HW2⟩, by simp [RowKit.intOf]; omega⟩
        · have bi : ((i : Int) == 2) = false := by rw [beq_eq_false_iff_ne]; omega
          have hno : ¬ (nm = dn2 ∧ a = mxD) := fun e => h2 (k3.1 e.1)
          clear h2
          by_cases hneg : a < 0
          · rw [hqd, if_pos hneg] at hst
            have HSt := Lib.hid hst
            have n0 : ¬ (0 : Int) ≤ a := by omega
            clear hst hqd hno k1 k2 k3 hle hneg
            have HNx := Lib.hid (show pfxQ c (i + 1) = A from HSt.out.trans (List.append_nil _))
            go_wp2_with fail
            exact ⟨⟨i + 1, by omega, by go_num, by rw [HNx.out, ← HO.out, mkS_nilR], HW⟩, by simp [RowKit.intOf]; omega⟩
          · rw [hqd, if_neg hneg, if_neg hno] at hst
            obtain ⟨u, rfl⟩ : ∃ u : Nat, a = u := ⟨a.toNat, by omega⟩
            have hst2 : pfxQ c (i + 1) = A ++ [nm ++ [61] ++ digL u] := hst
            have hdz : (mkS (digL u)).size ≤ 19 := by rw [size_mkS]; exact digL_len 18 u (by omega)
            have hu64 : u ≤ 9223372036854775807 := by omega
            have n0 : (0 : Int) ≤ (u : Int) := by omega
            have HSt := Lib.hid hst2
            have hHeld0 : (fun Wz : World => Wz.cell? ⟨bN, i, none⟩ = some (.string (mkS nm)) ∧ Wz.cell? ⟨bV, i, none⟩ = some (.int .i64 (u : Int)) ∧ Below W0.heap.size W0 Wz) W.drew := ⟨c1, c2, HW.out.drew⟩
            clear hst hst2 hqd hno k1 k2 k3 hle hneg
            go_wp2_with fail
            refine wp_region_held_drew (S := (fun Wz => Wz.cell? ⟨bN, i, none⟩ = some (.string (mkS nm)) ∧ Wz.cell? ⟨bV, i, none⟩ = some (.int .i64 (u : Int)) ∧ Below W0.heap.size W0 Wz)) (by kernel_rfl) hHeld0 (fun hHeld => ?_)
            refine wpAnyH_take (i := 0) (v := ?_) rfl (by kernel_rfl) (by kernel_rfl) (by kernel_rfl) (fun _ _ _ h => h) (Or.inl ⟨by kernel_rfl, ?_⟩) (by assumption) ?_
            case refine_2 => (intro Wz hSw; go_simp; try with_reducible rfl)
            try simp only [Act.put, List.getElem_toArray, List.getElem_cons_zero, List.setIfInBounds_toArray, List.set_cons_zero, List.set_cons_succ]
            refine wpAnyH_take (i := 1) (v := ?_) rfl (by kernel_rfl) (by kernel_rfl) (by kernel_rfl) (fun _ _ _ h => h) (Or.inl ⟨by kernel_rfl, ?_⟩) (by assumption) ?_
            case refine_2 => (intro Wz hSw; go_simp; try with_reducible rfl)
            try simp only [Act.put, List.getElem_toArray, List.getElem_cons_succ, List.getElem_cons_zero, List.setIfInBounds_toArray, List.set_cons_zero, List.set_cons_succ]
            refine wpAnyH_take (i := 2) (v := ?_) rfl (by kernel_rfl) (by kernel_rfl) (by kernel_rfl) (fun _ _ _ h => h) (Or.inl ⟨by kernel_rfl, ?_⟩) (by assumption) ?_
            case refine_2 => (intro Wz hSw; go_simp; try with_reducible rfl)
            try simp only [Act.put, List.getElem_toArray, List.getElem_cons_succ, List.getElem_cons_zero, List.setIfInBounds_toArray, List.set_cons_zero, List.set_cons_succ]
            refine wpAnyH_take (i := 3) (v := .string (mkS nm)) rfl (by kernel_rfl) (by kernel_rfl) (by kernel_rfl) (fun _ _ _ h => h) (Or.inl ⟨by kernel_rfl, ?_⟩) (by assumption) ?_
            case refine_1 => (intro Wz hSw; have u := hSw.1; go_simp; try with_reducible rfl)
            try simp only [Act.put, List.getElem_toArray, List.getElem_cons_succ, List.getElem_cons_zero, List.setIfInBounds_toArray, List.set_cons_zero, List.set_cons_succ]
            refine wpAnyH_take (i := 4) (v := .string (mkS nm ++ ⟨#[61]⟩)) rfl (by kernel_rfl) (by kernel_rfl) (by kernel_rfl) (fun _ _ _ h => h) (Or.inl ⟨by kernel_rfl, ?_⟩) (by assumption) ?_
            case refine_1 => (intro Wz hSw; have u2 : ¬ 9223372036854775807 < (mkS nm).size + 1 := (by omega); go_simp; try with_reducible rfl)
            try simp only [Act.put, List.getElem_toArray, List.getElem_cons_succ, List.getElem_cons_zero, List.setIfInBounds_toArray, List.set_cons_zero, List.set_cons_succ]
            refine wpAnyH_take (i := 5) (v := ?_) rfl (by kernel_rfl) (by kernel_rfl) (by kernel_rfl) (fun _ _ _ h => h) (Or.inl ⟨by kernel_rfl, ?_⟩) (by assumption) ?_
            case refine_2 => (intro Wz hSw; go_simp; try with_reducible rfl)
            try simp only [Act.put, List.getElem_toArray, List.getElem_cons_succ, List.getElem_cons_zero, List.setIfInBounds_toArray, List.set_cons_zero, List.set_cons_succ]
            refine wpAnyH_take (i := 6) (v := ?_) rfl (by kernel_rfl) (by kernel_rfl) (by kernel_rfl) (fun _ _ _ h => h) (Or.inl ⟨by kernel_rfl, ?_⟩) (by assumption) ?_
            case refine_2 => (intro Wz hSw; go_simp; try with_reducible rfl)
            try simp only [Act.put, List.getElem_toArray, List.getElem_cons_succ, List.getElem_cons_zero, List.setIfInBounds_toArray, List.set_cons_zero, List.set_cons_succ]
            refine wpAnyH_take (i := 7) (v := ?_) rfl (by kernel_rfl) (by kernel_rfl) (by kernel_rfl) (fun _ _ _ h => h) (Or.inl ⟨by kernel_rfl, ?_⟩) (by assumption) ?_
            case refine_2 => (intro Wz hSw; go_simp; try with_reducible rfl)
            try simp only [Act.put, List.getElem_toArray, List.getElem_cons_succ, List.getElem_cons_zero, List.setIfInBounds_toArray, List.set_cons_zero, List.set_cons_succ]
            refine wpAnyH_take (i := 8) (v := .int .i64 (u : Int)) rfl (by kernel_rfl) (by kernel_rfl) (by kernel_rfl) (fun _ _ _ h => h) (Or.inl ⟨by kernel_rfl, ?_⟩) (by assumption) ?_
            case refine_1 => (intro Wz hSw; have u := hSw.2.1; go_simp; try with_reducible rfl)
            try simp only [Act.put, List.getElem_toArray, List.getElem_cons_succ, List.getElem_cons_zero, List.setIfInBounds_toArray, List.set_cons_zero, List.set_cons_succ]
            refine wpAnyH_ready (rs := [9]) (by kernel_rfl) (by simp) ?_
            refine AllReadyH.cons rfl (fun K hK => ?_) AllReadyH.nil
            go_simp
            refine (HDg.out u _ hu64).mono ?_
            rintro e w5 ⟨rfl, rfl⟩
            go_simp
            refine hK.out _ _ (by assumption) (fun hHeld2 => ?_)
            clear hK K hHeld2
            try simp only [Act.put, List.getElem_toArray, List.getElem_cons_succ, List.getElem_cons_zero, List.setIfInBounds_toArray, List.set_cons_zero, List.set_cons_succ]
            refine wpAnyH_take (i := 10) (v := .string (mkS (nm ++ [61] ++ digL u))) rfl (by kernel_rfl) (by kernel_rfl) (by kernel_rfl) (fun _ _ _ h => h) (Or.inl ⟨by kernel_rfl, ?_⟩) (by assumption) ?_
            case refine_1 => (intro Wz hSw; have u2 := sizeC_sum nm u hnz hdz; have u3 := textQ_eq nm u; go_simp; try with_reducible rfl)
            try simp only [Act.put, List.getElem_toArray, List.getElem_cons_succ, List.getElem_cons_zero, List.setIfInBounds_toArray, List.set_cons_zero, List.set_cons_succ]
            refine wpAnyH_take (i := 11) (v := ?_) rfl (by kernel_rfl) (by kernel_rfl) (by kernel_rfl) (fun _ _ _ h => h) (Or.inl ⟨by kernel_rfl, ?_⟩) (by assumption) ?_
            case refine_2 => (intro Wz hSw; go_simp; try with_reducible rfl)
            try simp only [Act.put, List.getElem_toArray, List.getElem_cons_succ, List.getElem_cons_zero, List.setIfInBounds_toArray, List.set_cons_zero, List.set_cons_succ]
            refine wpAnyH_done (by kernel_rfl) ?_ _
            have HW2 := Lib.hid HW.out.drew
            have hp1 : nm ++ [61] ++ digL u = nm ++ 61 :: digL u := by simp
            rw [hp1] at HSt
            have hpz : (mkS (nm ++ 61 :: digL u)).size ≤ 60 := by rw [size_mkS] at *; simp; omega
            have pe : (mkS (nm ++ 61 :: digL u)).toList.isEmpty = false := by rw [toList_bs, bs_mkS]; simp
            clear hnz hdz hp1 hHeld hHeld0 c1 c2
            generalize nm ++ 61 :: digL u = p at *
            by_cases hA : A = []
            · have ho : o = [] := by rw [HO.out, hA]; rfl
              have oe : (mkS o).toList.isEmpty = true := by rw [ho, toList_bs]; rfl
              have hnx : mkS (Lib.join (pfxQ c (i + 1)) [44, 32]) = mkS o ++ mkS p := by rw [HSt.out, hA, ho, mkS_append]; simp [Lib.join_one]
              have HNx := Lib.hid hnx
              clear hnx ho hA
              go_wp2_with fail
              exact ⟨⟨i + 1, by omega, by go_num, by rw [HNx.out], HW2⟩, by simp [RowKit.intOf]; omega⟩
            · have hne : o ≠ [] := by rw [HO.out]; exact join_neT A HAn.out hA
              have oe : (mkS o).toList.isEmpty = false := by rw [toList_bs, bs_mkS]; cases o with | nil => exact absurd rfl hne | cons a t => rfl
              have hnx : mkS (Lib.join (pfxQ c (i + 1)) [44, 32]) = mkS o ++ ⟨#[44, 32]⟩ ++ mkS p := by rw [HSt.out, join_snocT A p hA, ← HO.out, ← mkS_append, ← mkS_append]; rfl
              have HNx := Lib.hid hnx
              clear hnx hne hA
              go_wp2_with fail
              exact ⟨⟨i + 1, by omega, by go_num, by rw [HNx.out], HW2⟩, by simp [RowKit.intOf]; omega⟩
      · have hpq : partQ c i = flgQ ((flagsL c).getD (i - 6) ([], false)) := by unfold partQ; rw [if_neg h6]
        obtain ⟨k1, k2⟩ := HFa.out (i - 6) (by omega)
        obtain ⟨r1, r2⟩ := HFc.out (i - 6) (by omega)
        rw [hpq] at hst
        generalize (flagsL c).getD (i - 6) ([], false) = d at *
        obtain ⟨nm, b⟩ := d
        simp only at k1 k2 r1 r2
        obtain ⟨j, hj⟩ : ∃ j, j = i - 6 := ⟨_, rfl⟩
        rw [← hj] at r1 r2
        have c1 : W.cell? ⟨bF, j, none⟩ = some (.string (mkS nm)) := (HF.out.later HW.out).cell j _ r1
        have c2 : W.cell? ⟨bS, j, none⟩ = some (.bool b) := (HS.out.later HW.out).cell j _ r2
        have g6 : (6 : Int) ≤ (i : Int) := by omega
        have m1 : IntKind.i64.wrap ((i : Int) - 6) = (j : Int) := by rw [IntWalk.i64_in _ (by omega)]; omega
        have m2 : (0 : Int) ≤ (j : Int) := by omega
        have m3 : (j : Int) < 9 := by omega
        have hnz : (mkS nm).size ≤ 30 := by rw [size_mkS]; exact k2
        clear hpq r1 r2 h6 hj
        cases b
        · have HSt := Lib.hid (show pfxQ c (i + 1) = A ++ [] from hst)
          clear hst k1 k2
          have HNx := Lib.hid (show pfxQ c (i + 1) = A from HSt.out.trans (List.append_nil _))
          go_wp2_with fail
          exact ⟨⟨i + 1, by omega, by go_num, by rw [HNx.out, ← HO.out, mkS_nilR], HW⟩, by simp [RowKit.intOf]; omega⟩
        · have HSt := Lib.hid (show pfxQ c (i + 1) = A ++ [nm] from hst)
          have pe : (mkS nm).toList.isEmpty = false := by rw [toList_bs, bs_mkS]; cases nm with | nil => exact absurd rfl k1 | cons a t => rfl
          clear hst k1 k2
          by_cases hA : A = []
          · have ho : o = [] := by rw [HO.out, hA]; rfl
            have oe : (mkS o).toList.isEmpty = true := by rw [ho, toList_bs]; rfl
            have hnx : mkS (Lib.join (pfxQ c (i + 1)) [44, 32]) = mkS o ++ mkS nm := by rw [HSt.out, hA, ho, mkS_append]; simp [Lib.join_one]
            have HNx := Lib.hid hnx
            clear hnx ho hA
            go_wp2_with fail
            exact ⟨⟨i + 1, by omega, by go_num, by rw [HNx.out], HW⟩, by simp [RowKit.intOf]; omega⟩
          · have hne : o ≠ [] := by rw [HO.out]; exact join_neT A HAn.out hA
            have oe : (mkS o).toList.isEmpty = false := by rw [toList_bs, bs_mkS]; cases o with | nil => exact absurd rfl hne | cons a t => rfl
            have hnx : mkS (Lib.join (pfxQ c (i + 1)) [44, 32]) = mkS o ++ ⟨#[44, 32]⟩ ++ mkS nm := by rw [HSt.out, join_snocT A nm hA, ← HO.out, ← mkS_append, ← mkS_append]; rfl
            have HNx := Lib.hid hnx
            clear hnx hne hA
            go_wp2_with fail
            exact ⟨⟨i + 1, by omega, by go_num, by rw [HNx.out], HW⟩, by simp [RowKit.intOf]; omega⟩
    · obtain rfl : i = 15 := by omega
      have HBf := Lib.hid (HB.out.trans (HW.out.mono HB.out.size))
      rw [← HTx.out]
      go_wp2_with fail
      go_ret
      exact ⟨rfl, HBf.out⟩
end Tk
end Go.Proofs.YtnbipbeeengiaaaGreatDoor
