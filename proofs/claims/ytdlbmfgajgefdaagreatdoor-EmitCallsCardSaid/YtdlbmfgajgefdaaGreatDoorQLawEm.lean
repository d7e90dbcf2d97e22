/- The law EmitCalls: its walk. -/
import Derived.Test.YtdlbmfgajgefdaaGreatDoorQJ
namespace Go.Proofs.YtdlbmfgajgefdaaGreatDoor
open Go.RowKit
namespace Tk

set_option maxHeartbeats 16000000 in
set_option maxRecDepth 100000 in
theorem em_light (M T : ByteArray) (s : Int) (R : ByteArray) (mi : Int) (a1 : Option Addr) (n1 k1 : Nat) (B : ByteArray) (a2 : Option Addr) (n2 k2 : Nat) (N : ByteArray) (size st : Int) (d : Bool) (w : World) (HLv : Hid (∀ W, Below w.heap.size w W → Calls Tryz.prog 21 #[] W fun e w' => e = .returned (.bool true) ∧ Below W.heap.size W w')) (HLt : Hid (∀ W, Below w.heap.size w W → Calls Tryz.prog 22 #[.agg #[.string M, .string T, .int .i64 s, .string R, .int .i64 mi, .slice a1 n1 k1, .string B, .slice a2 n2 k2]] W fun e w' => e = .returned (.bool d) ∧ Below W.heap.size W w')) (h : d = false ∨ ¬ N.size ≤ 60) :
    Calls Tryz.prog 4 #[.agg #[.string M, .string T, .int .i64 s, .string R, .int .i64 mi, .slice a1 n1 k1, .string B, .slice a2 n2 k2], .string N, .int .i64 size, .int .i64 st] w fun e w' => e = .returned (.bool true) ∧ Below w.heap.size w w' := by
  have HX := Lib.hid (Box.new w 24 #[.string M, .string T, .int .i64 s, .string R, .int .i64 mi, .slice a1 n1 k1, .string B, .slice a2 n2 k2])
  have HB0 := Lib.hid (below_alloc w (.cells #[.string M, .string T, .int .i64 s, .string R, .int .i64 mi, .slice a1 n1 k1, .string B, .slice a2 n2 k2] 24))
  have c0 := HX.out.cell 0 _ rfl
  have c1 := HX.out.cell 1 _ rfl
  have c2 := HX.out.cell 2 _ rfl
  have c3 := HX.out.cell 3 _ rfl
  have c4 := HX.out.cell 4 _ rfl
  have c5 := HX.out.cell 5 _ rfl
  have c6 := HX.out.cell 6 _ rfl
  have c7 := HX.out.cell 7 _ rfl
  have h2 : d = false ∨ (d = true ∧ (60 : Int) < (N.size : Int)) := by
    cases d
    · exact .inl rfl
    · rcases h with h | h
      · cases h
      · exact .inr ⟨rfl, by omega⟩
  clear h
  rcases h2 with rfl | ⟨rfl, h2⟩
  all_goals
    go_enter Tryz.func4, Tryz.ntmps4
    go_wp2_with fail
    refine (HLv.out _ HB0.out).mono ?_
    rintro e w1 ⟨rfl, hb⟩
    have HX1 := Lib.hid (HX.out.later hb)
    have HB1 := Lib.hid (HB0.out.trans (hb.mono HB0.out.size))
    clear hb c0 c1 c2 c3 c4 c5 c6 c7
    have c0 := HX1.out.cell 0 _ rfl
    have c1 := HX1.out.cell 1 _ rfl
    have c2 := HX1.out.cell 2 _ rfl
    have c3 := HX1.out.cell 3 _ rfl
    have c4 := HX1.out.cell 4 _ rfl
    have c5 := HX1.out.cell 5 _ rfl
    have c6 := HX1.out.cell 6 _ rfl
    have c7 := HX1.out.cell 7 _ rfl
    go_wp2_with fail
    refine (HLt.out _ HB1.out).mono ?_
    rintro e w2 ⟨rfl, hb⟩
    have HB2 := Lib.hid (HB1.out.trans (hb.mono HB1.out.size))
    clear hb
    go_wp2_with fail
    go_ret
    exact ⟨rfl, HB2.out⟩

set_option maxHeartbeats 64000000 in
set_option maxRecDepth 100000 in
theorem em_walk (M T : ByteArray) (s : Int) (R : ByteArray) (mi : Int) (a1 : Option Addr) (n1 k1 : Nat) (B : ByteArray) (a2 : Option Addr) (n2 k2 : Nat) (N : ByteArray) (size st : Int) (S1 S2 S3 : ByteArray) (E1 E2 E3 G : Int) (Rn Pn : ByteArray) (d : Bool) (w : World) (hd : d = true) (hN : N.size ≤ 60)
    (HLv : Hid (∀ W, Below w.heap.size w W → Calls Tryz.prog 21 #[] W fun e w' => e = .returned (.bool true) ∧ Below W.heap.size W w'))
    (HLt : Hid (∀ W, Below w.heap.size w W → Calls Tryz.prog 22 #[.agg #[.string M, .string T, .int .i64 s, .string R, .int .i64 mi, .slice a1 n1 k1, .string B, .slice a2 n2 k2]] W fun e w' => e = .returned (.bool d) ∧ Below W.heap.size W w'))
    (H1 : Hid (∀ W, Below w.heap.size w W → Calls Tryz.prog 23 #[.agg #[.string M, .string T, .int .i64 s, .string R, .int .i64 mi, .slice a1 n1 k1, .string B, .slice a2 n2 k2]] W fun e w' => e = .returned (.tuple #[.string S1, .int .i64 E1]) ∧ Below W.heap.size W w'))
    (H2 : Hid (∀ W, Below w.heap.size w W → Calls Tryz.prog 24 #[.agg #[.string M, .string T, .int .i64 s, .string R, .int .i64 mi, .slice a1 n1 k1, .string B, .slice a2 n2 k2]] W fun e w' => e = .returned (.tuple #[.string S1, .int .i64 E1]) ∧ Below W.heap.size W w'))
    (H3 : Hid (∀ W, Below w.heap.size w W → Calls Tryz.prog 25 #[.agg #[.string M, .string T, .int .i64 s, .string R, .int .i64 mi, .slice a1 n1 k1, .string B, .slice a2 n2 k2], .string N] W fun e w' => e = .returned (.tuple #[.string S2, .int .i64 E2]) ∧ Below W.heap.size W w'))
    (H4 : Hid (∀ W, Below w.heap.size w W → Calls Tryz.prog 26 #[.agg #[.string M, .string T, .int .i64 s, .string R, .int .i64 mi, .slice a1 n1 k1, .string B, .slice a2 n2 k2], .string N] W fun e w' => e = .returned (.tuple #[.string S2, .int .i64 E2]) ∧ Below W.heap.size W w'))
    (H5 : Hid (∀ W, Below w.heap.size w W → Calls Tryz.prog 27 #[.agg #[.string M, .string T, .int .i64 s, .string R, .int .i64 mi, .slice a1 n1 k1, .string B, .slice a2 n2 k2], .int .i64 size] W fun e w' => e = .returned (.tuple #[.string S3, .int .i64 E3]) ∧ Below W.heap.size W w'))
    (H6 : Hid (∀ W, Below w.heap.size w W → Calls Tryz.prog 28 #[.agg #[.string M, .string T, .int .i64 s, .string R, .int .i64 mi, .slice a1 n1 k1, .string B, .slice a2 n2 k2], .int .i64 size] W fun e w' => e = .returned (.tuple #[.string S3, .int .i64 E3]) ∧ Below W.heap.size W w'))
    (HC1 : Hid (∀ W, Below w.heap.size w W → Calls Tryz.prog 29 #[.agg #[.string M, .string T, .int .i64 s, .string R, .int .i64 mi, .slice a1 n1 k1, .string B, .slice a2 n2 k2]] W fun e w' => e = .returned (.int .i64 G) ∧ Below W.heap.size W w'))
    (HC2 : Hid (∀ W, Below w.heap.size w W → Calls Tryz.prog 30 #[.agg #[.string M, .string T, .int .i64 s, .string R, .int .i64 mi, .slice a1 n1 k1, .string B, .slice a2 n2 k2]] W fun e w' => e = .returned (.int .i64 G) ∧ Below W.heap.size W w'))
    (HR1 : Hid (∀ W, Below w.heap.size w W → Calls Tryz.prog 31 #[.int .i64 st] W fun e w' => e = .returned (.string Rn) ∧ W = w'))
    (HR2 : Hid (∀ W, Below w.heap.size w W → Calls Tryz.prog 32 #[.int .i64 st] W fun e w' => e = .returned (.string Rn) ∧ W = w'))
    (HP1 : Hid (∀ W, Below w.heap.size w W → Calls Tryz.prog 34 #[.int .i64 st] W fun e w' => ∃ vf, e = .returned (.agg #[.string ⟨#[]⟩, .string ⟨#[]⟩, .int .i64 st, .string Rn, .int .i64 1, vf, .string Pn, .slice none 0 0]) ∧ IsFlds w' vf [(ctyB, txtB)] ∧ Below W.heap.size W w'))
    (HP2 : Hid (∀ W, Below w.heap.size w W → Calls Tryz.prog 35 #[.int .i64 st] W fun e w' => ∃ vf, e = .returned (.agg #[.string ⟨#[]⟩, .string ⟨#[]⟩, .int .i64 st, .string Rn, .int .i64 1, vf, .string Pn, .slice none 0 0]) ∧ IsFlds w' vf [(ctyB, txtB)] ∧ Below W.heap.size W w'))
    (HSm : Hid (∀ (W : World) (v1 v2 : Value), Below w.heap.size w W → IsFlds W v1 [(ctyB, txtB)] → IsFlds W v2 [(ctyB, txtB)] → Calls Tryz.prog 33 #[.agg #[.string ⟨#[]⟩, .string ⟨#[]⟩, .int .i64 st, .string Rn, .int .i64 1, v1, .string Pn, .slice none 0 0], .agg #[.string ⟨#[]⟩, .string ⟨#[]⟩, .int .i64 st, .string Rn, .int .i64 1, v2, .string Pn, .slice none 0 0]] W fun e w' => e = .returned (.bool true) ∧ Below W.heap.size W w')) :
    Calls Tryz.prog 4 #[.agg #[.string M, .string T, .int .i64 s, .string R, .int .i64 mi, .slice a1 n1 k1, .string B, .slice a2 n2 k2], .string N, .int .i64 size, .int .i64 st] w fun e w' => e = .returned (.bool true) ∧ Below w.heap.size w w' := by
  subst hd
  have HX := Lib.hid (Box.new w 24 #[.string M, .string T, .int .i64 s, .string R, .int .i64 mi, .slice a1 n1 k1, .string B, .slice a2 n2 k2])
  have HB0 := Lib.hid (below_alloc w (.cells #[.string M, .string T, .int .i64 s, .string R, .int .i64 mi, .slice a1 n1 k1, .string B, .slice a2 n2 k2] 24))
  have c0 := HX.out.cell 0 _ rfl
  have c1 := HX.out.cell 1 _ rfl
  have c2 := HX.out.cell 2 _ rfl
  have c3 := HX.out.cell 3 _ rfl
  have c4 := HX.out.cell 4 _ rfl
  have c5 := HX.out.cell 5 _ rfl
  have c6 := HX.out.cell 6 _ rfl
  have c7 := HX.out.cell 7 _ rfl
  have hN2 : ¬ (60 : Int) < (N.size : Int) := by omega
  clear hN
  go_enter Tryz.func4, Tryz.ntmps4
  go_wp2_with fail
  refine (HLv.out _ HB0.out).mono ?_
  rintro e w1 ⟨rfl, hb⟩
  have HX1 := Lib.hid (HX.out.later hb)
  have HB1 := Lib.hid (HB0.out.trans (hb.mono HB0.out.size))
  clear hb
  clear c0 c1 c2 c3 c4 c5 c6 c7
  have c0 := HX1.out.cell 0 _ rfl
  have c1 := HX1.out.cell 1 _ rfl
  have c2 := HX1.out.cell 2 _ rfl
  have c3 := HX1.out.cell 3 _ rfl
  have c4 := HX1.out.cell 4 _ rfl
  have c5 := HX1.out.cell 5 _ rfl
  have c6 := HX1.out.cell 6 _ rfl
  have c7 := HX1.out.cell 7 _ rfl
  go_wp2_with fail
  refine (HLt.out _ HB1.out).mono ?_
  rintro e w2 ⟨rfl, hb⟩
  have HX2 := Lib.hid (HX1.out.later hb)
  have HB2 := Lib.hid (HB1.out.trans (hb.mono HB1.out.size))
  clear hb
  clear c0 c1 c2 c3 c4 c5 c6 c7
  have c0 := HX2.out.cell 0 _ rfl
  have c1 := HX2.out.cell 1 _ rfl
  have c2 := HX2.out.cell 2 _ rfl
  have c3 := HX2.out.cell 3 _ rfl
  have c4 := HX2.out.cell 4 _ rfl
  have c5 := HX2.out.cell 5 _ rfl
  have c6 := HX2.out.cell 6 _ rfl
  have c7 := HX2.out.cell 7 _ rfl
  go_wp2_with fail
  refine (H1.out _ HB2.out).mono ?_
  rintro e w3 ⟨rfl, hb⟩
  have HX3 := Lib.hid (HX2.out.later hb)
  have HB3 := Lib.hid (HB2.out.trans (hb.mono HB2.out.size))
  clear hb
  clear c0 c1 c2 c3 c4 c5 c6 c7
  have c0 := HX3.out.cell 0 _ rfl
  have c1 := HX3.out.cell 1 _ rfl
  have c2 := HX3.out.cell 2 _ rfl
  have c3 := HX3.out.cell 3 _ rfl
  have c4 := HX3.out.cell 4 _ rfl
  have c5 := HX3.out.cell 5 _ rfl
  have c6 := HX3.out.cell 6 _ rfl
  have c7 := HX3.out.cell 7 _ rfl
  go_wp2_with fail
  refine (H2.out _ HB3.out).mono ?_
  rintro e w4 ⟨rfl, hb⟩
  have HX4 := Lib.hid (HX3.out.later hb)
  have HB4 := Lib.hid (HB3.out.trans (hb.mono HB3.out.size))
  clear hb
  clear c0 c1 c2 c3 c4 c5 c6 c7
  have c0 := HX4.out.cell 0 _ rfl
  have c1 := HX4.out.cell 1 _ rfl
  have c2 := HX4.out.cell 2 _ rfl
  have c3 := HX4.out.cell 3 _ rfl
  have c4 := HX4.out.cell 4 _ rfl
  have c5 := HX4.out.cell 5 _ rfl
  have c6 := HX4.out.cell 6 _ rfl
  have c7 := HX4.out.cell 7 _ rfl
  go_wp2_with fail
  refine (H3.out _ HB4.out).mono ?_
  rintro e w5 ⟨rfl, hb⟩
  have HX5 := Lib.hid (HX4.out.later hb)
  have HB5 := Lib.hid (HB4.out.trans (hb.mono HB4.out.size))
  clear hb
  clear c0 c1 c2 c3 c4 c5 c6 c7
  have c0 := HX5.out.cell 0 _ rfl
  have c1 := HX5.out.cell 1 _ rfl
  have c2 := HX5.out.cell 2 _ rfl
  have c3 := HX5.out.cell 3 _ rfl
  have c4 := HX5.out.cell 4 _ rfl
  have c5 := HX5.out.cell 5 _ rfl
  have c6 := HX5.out.cell 6 _ rfl
  have c7 := HX5.out.cell 7 _ rfl
  go_wp2_with fail
  refine (H4.out _ HB5.out).mono ?_
  rintro e w6 ⟨rfl, hb⟩
  have HX6 := Lib.hid (HX5.out.later hb)
  have HB6 := Lib.hid (HB5.out.trans (hb.mono HB5.out.size))
  clear hb
  clear c0 c1 c2 c3 c4 c5 c6 c7
  have c0 := HX6.out.cell 0 _ rfl
  have c1 := HX6.out.cell 1 _ rfl
  have c2 := HX6.out.cell 2 _ rfl
  have c3 := HX6.out.cell 3 _ rfl
  have c4 := HX6.out.cell 4 _ rfl
  have c5 := HX6.out.cell 5 _ rfl
  have c6 := HX6.out.cell 6 _ rfl
  have c7 := HX6.out.cell 7 _ rfl
  go_wp2_with fail
  refine (H5.out _ HB6.out).mono ?_
  rintro e w7 ⟨rfl, hb⟩
  have HX7 := Lib.hid (HX6.out.later hb)
  have HB7 := Lib.hid (HB6.out.trans (hb.mono HB6.out.size))
  clear hb
  clear c0 c1 c2 c3 c4 c5 c6 c7
  have c0 := HX7.out.cell 0 _ rfl
  have c1 := HX7.out.cell 1 _ rfl
  have c2 := HX7.out.cell 2 _ rfl
  have c3 := HX7.out.cell 3 _ rfl
  have c4 := HX7.out.cell 4 _ rfl
  have c5 := HX7.out.cell 5 _ rfl
  have c6 := HX7.out.cell 6 _ rfl
  have c7 := HX7.out.cell 7 _ rfl
  go_wp2_with fail
  refine (H6.out _ HB7.out).mono ?_
  rintro e w8 ⟨rfl, hb⟩
  have HX8 := Lib.hid (HX7.out.later hb)
  have HB8 := Lib.hid (HB7.out.trans (hb.mono HB7.out.size))
  clear hb
  clear c0 c1 c2 c3 c4 c5 c6 c7
  go_wp2_with fail
  clear HLv HLt H1 H2 H3 H4 H5 H6 HX HX1 HX2 HX3 HX4 HX5 HX6 HX7 HB1 HB2 HB3 HB4 HB5 HB6 HB7
  have hHeld8 : Box w8 w.heap.size 24 #[.string M, .string T, .int .i64 s, .string R, .int .i64 mi, .slice a1 n1 k1, .string B, .slice a2 n2 k2] := HX8.out
  as_aux_lemma =>
    refine wp_region_held_drew (S := (fun Wz => Box Wz w.heap.size 24 #[.string M, .string T, .int .i64 s, .string R, .int .i64 mi, .slice a1 n1 k1, .string B, .slice a2 n2 k2])) (by kernel_rfl) hHeld8 (fun hHeld => ?_)
    refine wpAnyH_take (i := 0) (v := ?_) rfl (by kernel_rfl) (by kernel_rfl) (by kernel_rfl) (fun _ _ _ h => h) (Or.inl ⟨by kernel_rfl, ?_⟩) (by assumption) ?_
    case refine_2 => (intro Wz hSw; go_simp; try with_reducible rfl)
    try simp only [Act.put, List.getElem_toArray, List.getElem_cons_zero, List.setIfInBounds_toArray, List.set_cons_zero, List.set_cons_succ]
    refine wpAnyH_take (i := 1) (v := ?_) rfl (by kernel_rfl) (by kernel_rfl) (by kernel_rfl) (fun _ _ _ h => h) (Or.inl ⟨by kernel_rfl, ?_⟩) (by assumption) ?_
    case refine_2 => (intro Wz hSw; go_simp; try with_reducible rfl)
    try simp only [Act.put, List.getElem_toArray, List.getElem_cons_succ, List.getElem_cons_zero, List.setIfInBounds_toArray, List.set_cons_zero, List.set_cons_succ]
    refine wpAnyH_take (i := 2) (v := .bool true) rfl (by kernel_rfl) (by kernel_rfl) (by kernel_rfl) (fun _ _ _ h => h) (Or.inl ⟨by kernel_rfl, ?_⟩) (by assumption) ?_
    case refine_1 => (intro Wz hSw; go_simp; try with_reducible rfl)
    try simp only [Act.put, List.getElem_toArray, List.getElem_cons_succ, List.getElem_cons_zero, List.setIfInBounds_toArray, List.set_cons_zero, List.set_cons_succ]
    refine wpAnyH_take (i := 3) (v := ?_) rfl (by kernel_rfl) (by kernel_rfl) (by kernel_rfl) (fun _ _ _ h => h) (Or.inl ⟨by kernel_rfl, ?_⟩) (by assumption) ?_
    case refine_2 => (intro Wz hSw; go_simp; try with_reducible rfl)
    try simp only [Act.put, List.getElem_toArray, List.getElem_cons_succ, List.getElem_cons_zero, List.setIfInBounds_toArray, List.set_cons_zero, List.set_cons_succ]
    refine wpAnyH_take (i := 4) (v := ?_) rfl (by kernel_rfl) (by kernel_rfl) (by kernel_rfl) (fun _ _ _ h => h) (Or.inl ⟨by kernel_rfl, ?_⟩) (by assumption) ?_
    case refine_2 => (intro Wz hSw; go_simp; try with_reducible rfl)
    try simp only [Act.put, List.getElem_toArray, List.getElem_cons_succ, List.getElem_cons_zero, List.setIfInBounds_toArray, List.set_cons_zero, List.set_cons_succ]
    refine wpAnyH_take (i := 5) (v := ?_) rfl (by kernel_rfl) (by kernel_rfl) (by kernel_rfl) (fun _ _ _ h => h) (Or.inl ⟨by kernel_rfl, ?_⟩) (by assumption) ?_
    case refine_2 => (intro Wz hSw; go_simp; try with_reducible rfl)
    try simp only [Act.put, List.getElem_toArray, List.getElem_cons_succ, List.getElem_cons_zero, List.setIfInBounds_toArray, List.set_cons_zero, List.set_cons_succ]
    refine wpAnyH_take (i := 6) (v := .bool true) rfl (by kernel_rfl) (by kernel_rfl) (by kernel_rfl) (fun _ _ _ h => h) (Or.inl ⟨by kernel_rfl, ?_⟩) (by assumption) ?_
    case refine_1 => (intro Wz hSw; go_simp; try with_reducible rfl)
    try simp only [Act.put, List.getElem_toArray, List.getElem_cons_succ, List.getElem_cons_zero, List.setIfInBounds_toArray, List.set_cons_zero, List.set_cons_succ]
    refine wpAnyH_take (i := 7) (v := .bool true) rfl (by kernel_rfl) (by kernel_rfl) (by kernel_rfl) (fun _ _ _ h => h) (Or.inl ⟨by kernel_rfl, ?_⟩) (by assumption) ?_
    case refine_1 => (intro Wz hSw; go_simp; try with_reducible rfl)
    try simp only [Act.put, List.getElem_toArray, List.getElem_cons_succ, List.getElem_cons_zero, List.setIfInBounds_toArray, List.set_cons_zero, List.set_cons_succ]
    refine wpAnyH_take (i := 8) (v := ?_) rfl (by kernel_rfl) (by kernel_rfl) (by kernel_rfl) (fun _ _ _ h => h) (Or.inl ⟨by kernel_rfl, ?_⟩) (by assumption) ?_
    case refine_2 => (intro Wz hSw; go_simp; try with_reducible rfl)
    try simp only [Act.put, List.getElem_toArray, List.getElem_cons_succ, List.getElem_cons_zero, List.setIfInBounds_toArray, List.set_cons_zero, List.set_cons_succ]
    refine wpAnyH_take (i := 9) (v := ?_) rfl (by kernel_rfl) (by kernel_rfl) (by kernel_rfl) (fun _ _ _ h => h) (Or.inl ⟨by kernel_rfl, ?_⟩) (by assumption) ?_
    case refine_2 => (intro Wz hSw; go_simp; try with_reducible rfl)
    try simp only [Act.put, List.getElem_toArray, List.getElem_cons_succ, List.getElem_cons_zero, List.setIfInBounds_toArray, List.set_cons_zero, List.set_cons_succ]
    refine wpAnyH_take (i := 10) (v := ?_) rfl (by kernel_rfl) (by kernel_rfl) (by kernel_rfl) (fun _ _ _ h => h) (Or.inl ⟨by kernel_rfl, ?_⟩) (by assumption) ?_
    case refine_2 => (intro Wz hSw; go_simp; try with_reducible rfl)
    try simp only [Act.put, List.getElem_toArray, List.getElem_cons_succ, List.getElem_cons_zero, List.setIfInBounds_toArray, List.set_cons_zero, List.set_cons_succ]
    refine wpAnyH_take (i := 11) (v := .bool true) rfl (by kernel_rfl) (by kernel_rfl) (by kernel_rfl) (fun _ _ _ h => h) (Or.inl ⟨by kernel_rfl, ?_⟩) (by assumption) ?_
    case refine_1 => (intro Wz hSw; go_simp; try with_reducible rfl)
    try simp only [Act.put, List.getElem_toArray, List.getElem_cons_succ, List.getElem_cons_zero, List.setIfInBounds_toArray, List.set_cons_zero, List.set_cons_succ]
    refine wpAnyH_take (i := 12) (v := .bool true) rfl (by kernel_rfl) (by kernel_rfl) (by kernel_rfl) (fun _ _ _ h => h) (Or.inl ⟨by kernel_rfl, ?_⟩) (by assumption) ?_
    case refine_1 => (intro Wz hSw; go_simp; try with_reducible rfl)
    try simp only [Act.put, List.getElem_toArray, List.getElem_cons_succ, List.getElem_cons_zero, List.setIfInBounds_toArray, List.set_cons_zero, List.set_cons_succ]
    refine wpAnyH_take (i := 13) (v := ?_) rfl (by kernel_rfl) (by kernel_rfl) (by kernel_rfl) (fun _ _ _ h => h) (Or.inl ⟨by kernel_rfl, ?_⟩) (by assumption) ?_
    case refine_2 => (intro Wz hSw; go_simp; try with_reducible rfl)
    try simp only [Act.put, List.getElem_toArray, List.getElem_cons_succ, List.getElem_cons_zero, List.setIfInBounds_toArray, List.set_cons_zero, List.set_cons_succ]
    refine wpAnyH_take (i := 14) (v := ?_) rfl (by kernel_rfl) (by kernel_rfl) (by kernel_rfl) (fun _ _ _ h => h) (Or.inl ⟨by kernel_rfl, ?_⟩) (by assumption) ?_
    case refine_2 => (intro Wz hSw; go_simp; try with_reducible rfl)
    try simp only [Act.put, List.getElem_toArray, List.getElem_cons_succ, List.getElem_cons_zero, List.setIfInBounds_toArray, List.set_cons_zero, List.set_cons_succ]
    refine wpAnyH_take (i := 15) (v := ?_) rfl (by kernel_rfl) (by kernel_rfl) (by kernel_rfl) (fun _ _ _ h => h) (Or.inl ⟨by kernel_rfl, ?_⟩) (by assumption) ?_
    case refine_2 => (intro Wz hSw; go_simp; try with_reducible rfl)
    try simp only [Act.put, List.getElem_toArray, List.getElem_cons_succ, List.getElem_cons_zero, List.setIfInBounds_toArray, List.set_cons_zero, List.set_cons_succ]
    refine wpAnyH_take (i := 16) (v := .bool true) rfl (by kernel_rfl) (by kernel_rfl) (by kernel_rfl) (fun _ _ _ h => h) (Or.inl ⟨by kernel_rfl, ?_⟩) (by assumption) ?_
    case refine_1 => (intro Wz hSw; go_simp; try with_reducible rfl)
    try simp only [Act.put, List.getElem_toArray, List.getElem_cons_succ, List.getElem_cons_zero, List.setIfInBounds_toArray, List.set_cons_zero, List.set_cons_succ]
    refine wpAnyH_take (i := 17) (v := .bool true) rfl (by kernel_rfl) (by kernel_rfl) (by kernel_rfl) (fun _ _ _ h => h) (Or.inl ⟨by kernel_rfl, ?_⟩) (by assumption) ?_
    case refine_1 => (intro Wz hSw; go_simp; try with_reducible rfl)
    try simp only [Act.put, List.getElem_toArray, List.getElem_cons_succ, List.getElem_cons_zero, List.setIfInBounds_toArray, List.set_cons_zero, List.set_cons_succ]
    refine wpAnyH_take (i := 18) (v := ?_) rfl (by kernel_rfl) (by kernel_rfl) (by kernel_rfl) (fun _ _ _ h => h) (Or.inl ⟨by kernel_rfl, ?_⟩) (by assumption) ?_
    case refine_2 => (intro Wz hSw; go_simp; try with_reducible rfl)
    try simp only [Act.put, List.getElem_toArray, List.getElem_cons_succ, List.getElem_cons_zero, List.setIfInBounds_toArray, List.set_cons_zero, List.set_cons_succ]
    refine wpAnyH_take (i := 19) (v := ?_) rfl (by kernel_rfl) (by kernel_rfl) (by kernel_rfl) (fun _ _ _ h => h) (Or.inl ⟨by kernel_rfl, ?_⟩) (by assumption) ?_
    case refine_2 => (intro Wz hSw; go_simp; try with_reducible rfl)
    try simp only [Act.put, List.getElem_toArray, List.getElem_cons_succ, List.getElem_cons_zero, List.setIfInBounds_toArray, List.set_cons_zero, List.set_cons_succ]
    refine wpAnyH_take (i := 20) (v := ?_) rfl (by kernel_rfl) (by kernel_rfl) (by kernel_rfl) (fun _ _ _ h => h) (Or.inl ⟨by kernel_rfl, ?_⟩) (by assumption) ?_
    case refine_2 => (intro Wz hSw; go_simp; try with_reducible rfl)
    try simp only [Act.put, List.getElem_toArray, List.getElem_cons_succ, List.getElem_cons_zero, List.setIfInBounds_toArray, List.set_cons_zero, List.set_cons_succ]
    refine wpAnyH_take (i := 21) (v := .bool true) rfl (by kernel_rfl) (by kernel_rfl) (by kernel_rfl) (fun _ _ _ h => h) (Or.inl ⟨by kernel_rfl, ?_⟩) (by assumption) ?_
    case refine_1 => (intro Wz hSw; go_simp; try with_reducible rfl)
    try simp only [Act.put, List.getElem_toArray, List.getElem_cons_succ, List.getElem_cons_zero, List.setIfInBounds_toArray, List.set_cons_zero, List.set_cons_succ]
    refine wpAnyH_take (i := 22) (v := .bool true) rfl (by kernel_rfl) (by kernel_rfl) (by kernel_rfl) (fun _ _ _ h => h) (Or.inl ⟨by kernel_rfl, ?_⟩) (by assumption) ?_
    case refine_1 => (intro Wz hSw; go_simp; try with_reducible rfl)
    try simp only [Act.put, List.getElem_toArray, List.getElem_cons_succ, List.getElem_cons_zero, List.setIfInBounds_toArray, List.set_cons_zero, List.set_cons_succ]
    refine wpAnyH_take (i := 23) (v := ?_) rfl (by kernel_rfl) (by kernel_rfl) (by kernel_rfl) (fun _ _ _ h => h) (Or.inl ⟨by kernel_rfl, ?_⟩) (by assumption) ?_
    case refine_2 => (intro Wz hSw; go_simp; try with_reducible rfl)
    try simp only [Act.put, List.getElem_toArray, List.getElem_cons_succ, List.getElem_cons_zero, List.setIfInBounds_toArray, List.set_cons_zero, List.set_cons_succ]
    refine wpAnyH_take (i := 24) (v := ?_) rfl (by kernel_rfl) (by kernel_rfl) (by kernel_rfl) (fun _ _ _ h => h) (Or.inl ⟨by kernel_rfl, ?_⟩) (by assumption) ?_
    case refine_2 => (intro Wz hSw; go_simp; try with_reducible rfl)
    try simp only [Act.put, List.getElem_toArray, List.getElem_cons_succ, List.getElem_cons_zero, List.setIfInBounds_toArray, List.set_cons_zero, List.set_cons_succ]
    refine wpAnyH_take (i := 25) (v := ?_) rfl (by kernel_rfl) (by kernel_rfl) (by kernel_rfl) (fun _ _ _ h => h) (Or.inl ⟨by kernel_rfl, ?_⟩) (by assumption) ?_
    case refine_2 => (intro Wz hSw; go_simp; try with_reducible rfl)
    try simp only [Act.put, List.getElem_toArray, List.getElem_cons_succ, List.getElem_cons_zero, List.setIfInBounds_toArray, List.set_cons_zero, List.set_cons_succ]
    refine wpAnyH_take (i := 26) (v := .bool true) rfl (by kernel_rfl) (by kernel_rfl) (by kernel_rfl) (fun _ _ _ h => h) (Or.inl ⟨by kernel_rfl, ?_⟩) (by assumption) ?_
    case refine_1 => (intro Wz hSw; go_simp; try with_reducible rfl)
    try simp only [Act.put, List.getElem_toArray, List.getElem_cons_succ, List.getElem_cons_zero, List.setIfInBounds_toArray, List.set_cons_zero, List.set_cons_succ]
    refine wpAnyH_take (i := 27) (v := .bool true) rfl (by kernel_rfl) (by kernel_rfl) (by kernel_rfl) (fun _ _ _ h => h) (Or.inl ⟨by kernel_rfl, ?_⟩) (by assumption) ?_
    case refine_1 => (intro Wz hSw; go_simp; try with_reducible rfl)
    try simp only [Act.put, List.getElem_toArray, List.getElem_cons_succ, List.getElem_cons_zero, List.setIfInBounds_toArray, List.set_cons_zero, List.set_cons_succ]
    refine wpAnyH_take (i := 28) (v := ?_) rfl (by kernel_rfl) (by kernel_rfl) (by kernel_rfl) (fun _ _ _ h => h) (Or.inl ⟨by kernel_rfl, ?_⟩) (by assumption) ?_
    case refine_2 => (intro Wz hSw; go_simp; try with_reducible rfl)
    try simp only [Act.put, List.getElem_toArray, List.getElem_cons_succ, List.getElem_cons_zero, List.setIfInBounds_toArray, List.set_cons_zero, List.set_cons_succ]
    refine wpAnyH_take (i := 29) (v := ?_) rfl (by kernel_rfl) (by kernel_rfl) (by kernel_rfl) (fun _ _ _ h => h) (Or.inl ⟨by kernel_rfl, ?_⟩) (by assumption) ?_
    case refine_2 => (intro Wz hSw; have u0 := Box.cell hSw 0 _ rfl; have u1 := Box.cell hSw 1 _ rfl; have u2 := Box.cell hSw 2 _ rfl; have u3 := Box.cell hSw 3 _ rfl; have u4 := Box.cell hSw 4 _ rfl; have u5 := Box.cell hSw 5 _ rfl; have u6 := Box.cell hSw 6 _ rfl; have u7 := Box.cell hSw 7 _ rfl; go_simp; try with_reducible rfl)
    try simp only [Act.put, List.getElem_toArray, List.getElem_cons_succ, List.getElem_cons_zero, List.setIfInBounds_toArray, List.set_cons_zero, List.set_cons_succ]
    refine wpAnyH_take (i := 31) (v := ?_) rfl (by kernel_rfl) (by kernel_rfl) (by kernel_rfl) (fun _ _ _ h => h) (Or.inl ⟨by kernel_rfl, ?_⟩) (by assumption) ?_
    case refine_2 => (intro Wz hSw; have u0 := Box.cell hSw 0 _ rfl; have u1 := Box.cell hSw 1 _ rfl; have u2 := Box.cell hSw 2 _ rfl; have u3 := Box.cell hSw 3 _ rfl; have u4 := Box.cell hSw 4 _ rfl; have u5 := Box.cell hSw 5 _ rfl; have u6 := Box.cell hSw 6 _ rfl; have u7 := Box.cell hSw 7 _ rfl; go_simp; try with_reducible rfl)
    try simp only [Act.put, List.getElem_toArray, List.getElem_cons_succ, List.getElem_cons_zero, List.setIfInBounds_toArray, List.set_cons_zero, List.set_cons_succ]
    refine wpAnyH_ready (rs := [30]) (by kernel_rfl) (by simp) ?_
    refine AllReadyH.cons rfl (fun K hK => ?_) AllReadyH.nil
    go_simp
    refine (HC1.out _ HB8.out.drew).mono ?_
    rintro e w9 ⟨rfl, hb⟩
    replace hb : Below w8.heap.size w8 w9 := ((Below.refl w8.heap.size w8).drew).trans hb
    have hHeld9 : Box w9 w.heap.size 24 #[.string M, .string T, .int .i64 s, .string R, .int .i64 mi, .slice a1 n1 k1, .string B, .slice a2 n2 k2] := hHeld8.later hb
    have HB9 := Lib.hid (HB8.out.trans (hb.mono HB8.out.size))
    clear hb hHeld8 hHeld
    go_simp
    refine hK.out _ _ (by assumption) (fun hHeld2 => ?_)
    clear hK K hHeld2
    try simp only [Act.put, List.getElem_toArray, List.getElem_cons_succ, List.getElem_cons_zero, List.setIfInBounds_toArray, List.set_cons_zero, List.set_cons_succ]
    refine wpAnyH_ready (rs := [32]) (by kernel_rfl) (by simp) ?_
    refine AllReadyH.cons rfl (fun K hK => ?_) AllReadyH.nil
    go_simp
    refine (HC2.out _ HB9.out).mono ?_
    rintro e w10 ⟨rfl, hb⟩
    have hHeld10 : Box w10 w.heap.size 24 #[.string M, .string T, .int .i64 s, .string R, .int .i64 mi, .slice a1 n1 k1, .string B, .slice a2 n2 k2] := hHeld9.later hb
    have HB10 := Lib.hid (HB9.out.trans (hb.mono HB9.out.size))
    clear hb hHeld9
    go_simp
    refine hK.out _ _ (by assumption) (fun hHeld2 => ?_)
    clear hK K hHeld2
    try simp only [Act.put, List.getElem_toArray, List.getElem_cons_succ, List.getElem_cons_zero, List.setIfInBounds_toArray, List.set_cons_zero, List.set_cons_succ]
    refine wpAnyH_take (i := 33) (v := .bool true) rfl (by kernel_rfl) (by kernel_rfl) (by kernel_rfl) (fun _ _ _ h => h) (Or.inl ⟨by kernel_rfl, ?_⟩) (by assumption) ?_
    case refine_1 => (intro Wz hSw; go_simp; try with_reducible rfl)
    try simp only [Act.put, List.getElem_toArray, List.getElem_cons_succ, List.getElem_cons_zero, List.setIfInBounds_toArray, List.set_cons_zero, List.set_cons_succ]
    refine wpAnyH_take (i := 34) (v := .bool true) rfl (by kernel_rfl) (by kernel_rfl) (by kernel_rfl) (fun _ _ _ h => h) (Or.inl ⟨by kernel_rfl, ?_⟩) (by assumption) ?_
    case refine_1 => (intro Wz hSw; go_simp; try with_reducible rfl)
    try simp only [Act.put, List.getElem_toArray, List.getElem_cons_succ, List.getElem_cons_zero, List.setIfInBounds_toArray, List.set_cons_zero, List.set_cons_succ]
    refine wpAnyH_take (i := 35) (v := ?_) rfl (by kernel_rfl) (by kernel_rfl) (by kernel_rfl) (fun _ _ _ h => h) (Or.inl ⟨by kernel_rfl, ?_⟩) (by assumption) ?_
    case refine_2 => (intro Wz hSw; go_simp; try with_reducible rfl)
    try simp only [Act.put, List.getElem_toArray, List.getElem_cons_succ, List.getElem_cons_zero, List.setIfInBounds_toArray, List.set_cons_zero, List.set_cons_succ]
    refine wpAnyH_take (i := 36) (v := ?_) rfl (by kernel_rfl) (by kernel_rfl) (by kernel_rfl) (fun _ _ _ h => h) (Or.inl ⟨by kernel_rfl, ?_⟩) (by assumption) ?_
    case refine_2 => (intro Wz hSw; go_simp; try with_reducible rfl)
    try simp only [Act.put, List.getElem_toArray, List.getElem_cons_succ, List.getElem_cons_zero, List.setIfInBounds_toArray, List.set_cons_zero, List.set_cons_succ]
    refine wpAnyH_take (i := 38) (v := ?_) rfl (by kernel_rfl) (by kernel_rfl) (by kernel_rfl) (fun _ _ _ h => h) (Or.inl ⟨by kernel_rfl, ?_⟩) (by assumption) ?_
    case refine_2 => (intro Wz hSw; go_simp; try with_reducible rfl)
    try simp only [Act.put, List.getElem_toArray, List.getElem_cons_succ, List.getElem_cons_zero, List.setIfInBounds_toArray, List.set_cons_zero, List.set_cons_succ]
    refine wpAnyH_ready (rs := [37]) (by kernel_rfl) (by simp) ?_
    refine AllReadyH.cons rfl (fun K hK => ?_) AllReadyH.nil
    go_simp
    refine (HR1.out _ HB10.out).mono ?_
    rintro e w11 ⟨rfl, rfl⟩
    go_simp
    refine hK.out _ _ (by assumption) (fun hHeld2 => ?_)
    clear hK K hHeld2
    try simp only [Act.put, List.getElem_toArray, List.getElem_cons_succ, List.getElem_cons_zero, List.setIfInBounds_toArray, List.set_cons_zero, List.set_cons_succ]
    refine wpAnyH_ready (rs := [39]) (by kernel_rfl) (by simp) ?_
    refine AllReadyH.cons rfl (fun K hK => ?_) AllReadyH.nil
    go_simp
    refine (HR2.out _ HB10.out).mono ?_
    rintro e w11 ⟨rfl, rfl⟩
    go_simp
    refine hK.out _ _ (by assumption) (fun hHeld2 => ?_)
    clear hK K hHeld2
    try simp only [Act.put, List.getElem_toArray, List.getElem_cons_succ, List.getElem_cons_zero, List.setIfInBounds_toArray, List.set_cons_zero, List.set_cons_succ]
    refine wpAnyH_take (i := 40) (v := .bool true) rfl (by kernel_rfl) (by kernel_rfl) (by kernel_rfl) (fun _ _ _ h => h) (Or.inl ⟨by kernel_rfl, ?_⟩) (by assumption) ?_
    case refine_1 => (intro Wz hSw; go_simp; try with_reducible rfl)
    try simp only [Act.put, List.getElem_toArray, List.getElem_cons_succ, List.getElem_cons_zero, List.setIfInBounds_toArray, List.set_cons_zero, List.set_cons_succ]
    refine wpAnyH_take (i := 41) (v := .bool true) rfl (by kernel_rfl) (by kernel_rfl) (by kernel_rfl) (fun _ _ _ h => h) (Or.inl ⟨by kernel_rfl, ?_⟩) (by assumption) ?_
    case refine_1 => (intro Wz hSw; go_simp; try with_reducible rfl)
    try simp only [Act.put, List.getElem_toArray, List.getElem_cons_succ, List.getElem_cons_zero, List.setIfInBounds_toArray, List.set_cons_zero, List.set_cons_succ]
    refine wpAnyH_take (i := 42) (v := ?_) rfl (by kernel_rfl) (by kernel_rfl) (by kernel_rfl) (fun _ _ _ h => h) (Or.inl ⟨by kernel_rfl, ?_⟩) (by assumption) ?_
    case refine_2 => (intro Wz hSw; go_simp; try with_reducible rfl)
    try simp only [Act.put, List.getElem_toArray, List.getElem_cons_succ, List.getElem_cons_zero, List.setIfInBounds_toArray, List.set_cons_zero, List.set_cons_succ]
    refine wpAnyH_take (i := 43) (v := ?_) rfl (by kernel_rfl) (by kernel_rfl) (by kernel_rfl) (fun _ _ _ h => h) (Or.inl ⟨by kernel_rfl, ?_⟩) (by assumption) ?_
    case refine_2 => (intro Wz hSw; go_simp; try with_reducible rfl)
    try simp only [Act.put, List.getElem_toArray, List.getElem_cons_succ, List.getElem_cons_zero, List.setIfInBounds_toArray, List.set_cons_zero, List.set_cons_succ]
    refine wpAnyH_take (i := 45) (v := ?_) rfl (by kernel_rfl) (by kernel_rfl) (by kernel_rfl) (fun _ _ _ h => h) (Or.inl ⟨by kernel_rfl, ?_⟩) (by assumption) ?_
    case refine_2 => (intro Wz hSw; go_simp; try with_reducible rfl)
    try simp only [Act.put, List.getElem_toArray, List.getElem_cons_succ, List.getElem_cons_zero, List.setIfInBounds_toArray, List.set_cons_zero, List.set_cons_succ]
    refine wpAnyH_ready (rs := [44]) (by kernel_rfl) (by simp) ?_
    refine AllReadyH.cons rfl (fun K hK => ?_) AllReadyH.nil
    go_simp
    refine (HP1.out _ HB10.out).mono ?_
    rintro e w12 ⟨v1, rfl, hf, hb⟩
    have hHeld12 : Box w12 w.heap.size 24 #[.string M, .string T, .int .i64 s, .string R, .int .i64 mi, .slice a1 n1 k1, .string B, .slice a2 n2 k2] := hHeld10.later hb
    have HB12 := Lib.hid (HB10.out.trans (hb.mono HB10.out.size))
    have HF12 := Lib.hid hf
    clear hb hf hHeld10
    go_simp
    refine hK.out _ _ (by assumption) (fun hHeld2 => ?_)
    clear hK K hHeld2
    try simp only [Act.put, List.getElem_toArray, List.getElem_cons_succ, List.getElem_cons_zero, List.setIfInBounds_toArray, List.set_cons_zero, List.set_cons_succ]
    refine wpAnyH_ready (rs := [46]) (by kernel_rfl) (by simp) ?_
    refine AllReadyH.cons rfl (fun K hK => ?_) AllReadyH.nil
    go_simp
    refine (HP2.out _ HB12.out).mono ?_
    rintro e w13 ⟨v2, rfl, hf, hb⟩
    have hHeld13 : Box w13 w.heap.size 24 #[.string M, .string T, .int .i64 s, .string R, .int .i64 mi, .slice a1 n1 k1, .string B, .slice a2 n2 k2] := hHeld12.later hb
    have HB13 := Lib.hid (HB12.out.trans (hb.mono HB12.out.size))
    have HF13 := Lib.hid hf
    have HF12b := Lib.hid (isFlds_below HF12.out hb)
    clear hb hf hHeld12
    go_simp
    refine hK.out _ _ (by assumption) (fun hHeld2 => ?_)
    clear hK K hHeld2
    try simp only [Act.put, List.getElem_toArray, List.getElem_cons_succ, List.getElem_cons_zero, List.setIfInBounds_toArray, List.set_cons_zero, List.set_cons_succ]
    refine wpAnyH_ready (rs := [47]) (by kernel_rfl) (by simp) ?_
    refine AllReadyH.cons rfl (fun K hK => ?_) AllReadyH.nil
    go_simp
    refine (HSm.out _ _ _ HB13.out HF12b.out HF13.out).mono ?_
    rintro e w14 ⟨rfl, hb⟩
    have hHeld14 : Box w14 w.heap.size 24 #[.string M, .string T, .int .i64 s, .string R, .int .i64 mi, .slice a1 n1 k1, .string B, .slice a2 n2 k2] := hHeld13.later hb
    have HB14 := Lib.hid (HB13.out.trans (hb.mono HB13.out.size))
    clear hb hHeld13
    go_simp
    refine hK.out _ _ (by assumption) (fun hHeld2 => ?_)
    clear hK K hHeld2
    try simp only [Act.put, List.getElem_toArray, List.getElem_cons_succ, List.getElem_cons_zero, List.setIfInBounds_toArray, List.set_cons_zero, List.set_cons_succ]
    refine wpAnyH_take (i := 48) (v := .bool true) rfl (by kernel_rfl) (by kernel_rfl) (by kernel_rfl) (fun _ _ _ h => h) (Or.inl ⟨by kernel_rfl, ?_⟩) (by assumption) ?_
    case refine_1 => (intro Wz hSw; go_simp; try with_reducible rfl)
    try simp only [Act.put, List.getElem_toArray, List.getElem_cons_succ, List.getElem_cons_zero, List.setIfInBounds_toArray, List.set_cons_zero, List.set_cons_succ]
    refine wpAnyH_take (i := 49) (v := ?_) rfl (by kernel_rfl) (by kernel_rfl) (by kernel_rfl) (fun _ _ _ h => h) (Or.inl ⟨by kernel_rfl, ?_⟩) (by assumption) ?_
    case refine_2 => (intro Wz hSw; go_simp; try with_reducible rfl)
    try simp only [Act.put, List.getElem_toArray, List.getElem_cons_succ, List.getElem_cons_zero, List.setIfInBounds_toArray, List.set_cons_zero, List.set_cons_succ]
    refine wpAnyH_done (by kernel_rfl) ?_ _
    clear hHeld14
    go_wp2_with fail
    go_ret
    exact ⟨rfl, HB14.out⟩

theorem light_fits {M T R B : ByteArray} {l tl : List (Bs × Bs)} (h : lightM M T R B l tl = true) : Fits M T R B l tl := by
  obtain ⟨⟨h1, h2, h3, h4⟩, ⟨h5, h6⟩, h7, h8⟩ := lightM_parts M T R B l tl h
  exact ⟨by omega, by omega, by omega, by omega, by omega, by omega⟩
theorem emitcalls_any (M T : ByteArray) (s : Int) (R : ByteArray) (mi : Int) (vf : Value) (B : ByteArray) (vt : Value) (l tl : List (Bs × Bs)) (N : ByteArray) (size st : Int) (w : World)
    (hs : IsFlds w vf l) (ht : IsFlds w vt tl) (hz : SizedF l) (hzt : SizedF tl) (hM : M.size ≤ 140737488351232) (hT : T.size ≤ 140737488351232) (hR : R.size ≤ 140737488351232) (hB : B.size ≤ 140737488351232)
    (hTn : TenH w) (hBj : Bruijn w.heap.size w) (hsz : -9223372036854775808 ≤ size ∧ size ≤ 9223372036854775807) (hst : -9223372036854775808 ≤ st ∧ st ≤ 9223372036854775807) :
    Calls Tryz.prog 4 #[.agg (msgC M T s R mi vf B vt), .string N, .int .i64 size, .int .i64 st] w fun e w' => e = .returned (.bool true) ∧ Below w.heap.size w w' := by
  have hTe : Tens w := ⟨hTn.big, hTn.tab⟩
  obtain ⟨a1, k1, hv1⟩ : ∃ a cap, vf = .slice a l.length cap := by obtain ⟨a, c, h, -⟩ := hs; exact ⟨a, c, h⟩
  obtain ⟨a2, k2, hv2⟩ : ∃ a cap, vt = .slice a tl.length cap := by obtain ⟨a, c, h, -⟩ := ht; exact ⟨a, c, h⟩
  subst hv1 hv2
  have hLv := fun (W : World) (hb : Below w.heap.size w W) => lives08_any W (hTe.later hb)
  have hLt := fun (W : World) (hb : Below w.heap.size w W) => light08_any M T s R mi _ B _ l tl W (isFlds_below hs hb) (isFlds_below ht hb) hz hzt hM hT hR hB
  by_cases hc : lightM M T R B l tl = true ∧ N.size ≤ 60
  · obtain ⟨hd, hN⟩ := hc
    have hF := light_fits hd
    refine em_walk M T s R mi a1 l.length k1 B a2 tl.length k2 N size st _ _ _ _ _ _ (hdE (bs M) (bs T) s (bs R) mi l tl) (mkS (reaB st)) (mkS (plaB st)) _ w hd hN (Lib.hid hLv) (Lib.hid hLt)
      (Lib.hid fun W hb => request8_any M T s R mi _ B _ l tl W (hTe.later hb) (isFlds_below hs hb) (isFlds_below ht hb) hF.hz (by have := hF.hl; omega) hF.hzt (by have := hF.hlt; omega) hF.hM (by have := hF.hB; omega))
      (Lib.hid fun W hb => rrequest8_any M T s R mi _ B _ l tl W (isFlds_below hs hb) (isFlds_below ht hb) hF)
      (Lib.hid fun W hb => response8_any M T s R mi _ B _ N l tl W (hTe.later hb) (isFlds_below hs hb) (isFlds_below ht hb) hF.hz (by have := hF.hl; omega) hF.hzt (by have := hF.hlt; omega) hF.hM (by have := hF.hB; omega))
      (Lib.hid fun W hb => rresponse8_any M T s R mi _ B _ N l tl W (isFlds_below hs hb) (isFlds_below ht hb) hF)
      (Lib.hid fun W hb => chunked8_any M T s R mi _ B _ size l tl W (hTe.later hb) ((hBj.later hb).top) (isFlds_below hs hb) (isFlds_below ht hb) hF.hz (by have := hF.hl; omega) hF.hzt hF.hlt hF.hM hF.hB hsz.2)
      (Lib.hid fun W hb => rchunked8_any M T s R mi _ B _ size l tl W (isFlds_below hs hb) (isFlds_below ht hb) hF hsz.2)
      (Lib.hid fun W hb => check8_any M T s R mi _ B _ l tl W (hTe.later hb) (isFlds_below hs hb) (isFlds_below ht hb) hF.hz (by have := hF.hl; omega) hF.hzt (by have := hF.hlt; omega) hF.hM)
      (Lib.hid fun W hb => rcheck8_any M T s R mi _ B _ l tl W (isFlds_below hs hb) (isFlds_below ht hb) hF.hz hF.hl hF.hzt hF.hlt hF.hM)
      (Lib.hid fun W _ => reason8_any st W) (Lib.hid fun W _ => rreason8_any st W)
      (Lib.hid fun W hb => plain8_any st W (hTn.later hb) hst.1 hst.2) (Lib.hid fun W hb => rplain8_any st W (hTn.later hb) hst.1 hst.2)
      (Lib.hid fun W v1 v2 hb h1 h2 => rmsame_self ⟨#[]⟩ ⟨#[]⟩ st (mkS (reaB st)) 1 v1 v2 (mkS (plaB st)) (.slice none 0 0) (.slice none 0 0) [(ctyB, txtB)] [] W h1 h2 (zeroFlds W) (zeroFlds W) (by intro f hf; simp at hf; subst hf; decide) (by decide) (by intro f hf; simp at hf) (by decide))
  · refine em_light M T s R mi a1 l.length k1 B a2 tl.length k2 N size st (lightM M T R B l tl) w (Lib.hid hLv) (Lib.hid hLt) ?_
    cases h : lightM M T R B l tl
    · exact .inl rfl
    · exact .inr fun hN => hc ⟨h, hN⟩
end Tk
end Go.Proofs.YtdlbmfgajgefdaaGreatDoor
