/- The law HopCalls: its walk. -/
import Derived.Test.YtdlbmfgajgefdaaGreatDoorQG
import Derived.Test.YtdlbmfgajgefdaaGreatDoorQRefHB
namespace Go.Proofs.YtdlbmfgajgefdaaGreatDoor
open Go.RowKit
namespace Tk

set_option maxHeartbeats 16000000 in
set_option maxRecDepth 100000 in
theorem hc_light (M T : ByteArray) (s : Int) (R : ByteArray) (mi : Int) (a1 : Option Addr) (n1 k1 : Nat) (B : ByteArray) (a2 : Option Addr) (n2 k2 : Nat) (NN : ByteArray) (minor : Int) (d : Bool) (w : World) (HLv : Hid (∀ W, Below w.heap.size w W → Calls Tryz.prog 8 #[] W fun e w' => e = .returned (.bool true) ∧ Below W.heap.size W w')) (HLt : Hid (∀ W, Below w.heap.size w W → Calls Tryz.prog 9 #[.agg #[.string M, .string T, .int .i64 s, .string R, .int .i64 mi, .slice a1 n1 k1, .string B, .slice a2 n2 k2]] W fun e w' => e = .returned (.bool d) ∧ Below W.heap.size W w')) (h : d = false ∨ ¬ NN.size ≤ 100) :
    Calls Tryz.prog 3 #[.agg #[.string M, .string T, .int .i64 s, .string R, .int .i64 mi, .slice a1 n1 k1, .string B, .slice a2 n2 k2], .string NN, .int .i64 minor] w fun e w' => e = .returned (.bool true) ∧ Below w.heap.size w w' := by
  have HX := Lib.hid (Box.new w 24 #[.string M, .string T, .int .i64 s, .string R, .int .i64 mi, .slice a1 n1 k1, .string B, .slice a2 n2 k2])
  have HB0 := Lib.hid (below_alloc w (.cells #[.string M, .string T, .int .i64 s, .string R, .int .i64 mi, .slice a1 n1 k1, .string B, .slice a2 n2 k2] 24))
  have c0 := HX.out.cell 0 _ rfl
  have c1 := HX.out.cell 1 _ rfl
  have c2 := HX.out.cell 2 _ rfl
  have c3 := HX.out.cell 3 _ rfl
  have c4 := HX.out.cell 4 _ rfl
  have c5 := HX.out.cell 5 _ rfl
  have c6 := HX.out.cell 6 _ rfl
  have c7 := HX.out.cell 7 _ rfl
  have h2 : d = false ∨ (d = true ∧ (100 : Int) < (NN.size : Int)) := by
    cases d
    · exact .inl rfl
    · rcases h with h | h
      · cases h
      · exact .inr ⟨rfl, by omega⟩
  clear h
  rcases h2 with rfl | ⟨rfl, h2⟩
  all_goals
    go_enter Tryz.func3, Tryz.ntmps3
    go_wp2_with fail
    refine (HLv.out _ HB0.out).mono ?_
    rintro e w1 ⟨rfl, hb⟩
    have HX1 := Lib.hid (HX.out.later hb)
    have HB1 := Lib.hid (HB0.out.trans (hb.mono HB0.out.size))
    clear hb c0 c1 c2 c3 c4 c5 c6 c7
    have c0 := HX1.out.cell 0 _ rfl
    have c1 := HX1.out.cell 1 _ rfl
    have c2 := HX1.out.cell 2 _ rfl
    have c3 := HX1.out.cell 3 _ rfl
    have c4 := HX1.out.cell 4 _ rfl
    have c5 := HX1.out.cell 5 _ rfl
    have c6 := HX1.out.cell 6 _ rfl
    have c7 := HX1.out.cell 7 _ rfl
    go_wp2_with fail
    refine (HLt.out _ HB1.out).mono ?_
    rintro e w2 ⟨rfl, hb⟩
    have HB2 := Lib.hid (HB1.out.trans (hb.mono HB1.out.size))
    clear hb
    go_wp2_with fail
    go_ret
    exact ⟨rfl, HB2.out⟩

set_option maxHeartbeats 64000000 in
set_option maxRecDepth 100000 in
theorem hc_walk (M T : ByteArray) (s : Int) (R : ByteArray) (mi : Int) (a1 : Option Addr) (n1 k1 : Nat) (B : ByteArray) (a2 : Option Addr) (n2 k2 : Nat) (NN : ByteArray) (minor : Int) (A0 A1 A3 A6 : ByteArray) (A2 A4 E : Int) (FF SL VL : List (Bs × Bs)) (q cb d : Bool) (w : World) (hd : d = true) (hN : NN.size ≤ 100) (hl1 : FF.length ≤ 1000000) (hl2 : SL.length ≤ 1000000) (hl3 : VL.length ≤ 1000000)
    (HLv : Hid (∀ W, Below w.heap.size w W → Calls Tryz.prog 8 #[] W fun e w' => e = .returned (.bool true) ∧ Below W.heap.size W w'))
    (HLt : Hid (∀ W, Below w.heap.size w W → Calls Tryz.prog 9 #[.agg #[.string M, .string T, .int .i64 s, .string R, .int .i64 mi, .slice a1 n1 k1, .string B, .slice a2 n2 k2]] W fun e w' => e = .returned (.bool d) ∧ Below W.heap.size W w'))
    (HF1 : Hid (∀ W, Below w.heap.size w W → Calls Tryz.prog 10 #[.agg #[.string M, .string T, .int .i64 s, .string R, .int .i64 mi, .slice a1 n1 k1, .string B, .slice a2 n2 k2], .string NN] W fun e w' => ∃ a c, e = .returned (.tuple #[.agg #[.string A0, .string A1, .int .i64 A2, .string A3, .int .i64 A4, .slice a FF.length c, .string A6, .slice none 0 0], .int .i64 E]) ∧ IsFlds w' (.slice a FF.length c) FF ∧ Below W.heap.size W w'))
    (HF2 : Hid (∀ W, Below w.heap.size w W → Calls Tryz.prog 11 #[.agg #[.string M, .string T, .int .i64 s, .string R, .int .i64 mi, .slice a1 n1 k1, .string B, .slice a2 n2 k2], .string NN] W fun e w' => ∃ a c, e = .returned (.tuple #[.agg #[.string A0, .string A1, .int .i64 A2, .string A3, .int .i64 A4, .slice a FF.length c, .string A6, .slice none 0 0], .int .i64 E]) ∧ IsFlds w' (.slice a FF.length c) FF ∧ Below W.heap.size W w'))
    (HSm : Hid (∀ (W : World) (v1 v2 : Value) (L : List (Bs × Bs)), L.length ≤ 1000000 → IsFlds W v1 L → IsFlds W v2 L → Calls Tryz.prog 12 #[v1, v2] W fun e w' => e = .returned (.bool true) ∧ Below W.heap.size W w'))
    (HH1 : Hid (∀ W, Below w.heap.size w W → Calls Tryz.prog 13 #[.string NN] W fun e w' => e = .returned (.bool q) ∧ Below W.heap.size W w'))
    (HH2 : Hid (∀ W, Below w.heap.size w W → Calls Tryz.prog 14 #[.string NN] W fun e w' => e = .returned (.bool q) ∧ Below W.heap.size W w'))
    (HS1 : Hid (∀ W, Below w.heap.size w W → Calls Tryz.prog 15 #[.slice a1 n1 k1] W fun e w' => ∃ v', e = .returned v' ∧ IsFlds w' v' SL ∧ Below W.heap.size W w'))
    (HS2 : Hid (∀ W, Below w.heap.size w W → Calls Tryz.prog 16 #[.slice a1 n1 k1] W fun e w' => ∃ v', e = .returned v' ∧ IsFlds w' v' SL ∧ Below W.heap.size W w'))
    (HV1 : Hid (∀ W, Below w.heap.size w W → Calls Tryz.prog 17 #[.slice a1 n1 k1, .int .i64 minor, .string NN] W fun e w' => ∃ v', e = .returned v' ∧ IsFlds w' v' VL ∧ Below W.heap.size W w'))
    (HV2 : Hid (∀ W, Below w.heap.size w W → Calls Tryz.prog 18 #[.slice a1 n1 k1, .int .i64 minor, .string NN] W fun e w' => ∃ v', e = .returned v' ∧ IsFlds w' v' VL ∧ Below W.heap.size W w'))
    (HC1 : Hid (∀ W, Below w.heap.size w W → Calls Tryz.prog 19 #[.agg #[.string M, .string T, .int .i64 s, .string R, .int .i64 mi, .slice a1 n1 k1, .string B, .slice a2 n2 k2]] W fun e w' => e = .returned (.bool cb) ∧ Below W.heap.size W w'))
    (HC2 : Hid (∀ W, Below w.heap.size w W → Calls Tryz.prog 20 #[.agg #[.string M, .string T, .int .i64 s, .string R, .int .i64 mi, .slice a1 n1 k1, .string B, .slice a2 n2 k2]] W fun e w' => e = .returned (.bool cb) ∧ Below W.heap.size W w')) :
    Calls Tryz.prog 3 #[.agg #[.string M, .string T, .int .i64 s, .string R, .int .i64 mi, .slice a1 n1 k1, .string B, .slice a2 n2 k2], .string NN, .int .i64 minor] w fun e w' => e = .returned (.bool true) ∧ Below w.heap.size w w' := by
  subst hd
  have HX := Lib.hid (Box.new w 24 #[.string M, .string T, .int .i64 s, .string R, .int .i64 mi, .slice a1 n1 k1, .string B, .slice a2 n2 k2])
  have HB0 := Lib.hid (below_alloc w (.cells #[.string M, .string T, .int .i64 s, .string R, .int .i64 mi, .slice a1 n1 k1, .string B, .slice a2 n2 k2] 24))
  have c0 := HX.out.cell 0 _ rfl
  have c1 := HX.out.cell 1 _ rfl
  have c2 := HX.out.cell 2 _ rfl
  have c3 := HX.out.cell 3 _ rfl
  have c4 := HX.out.cell 4 _ rfl
  have c5 := HX.out.cell 5 _ rfl
  have c6 := HX.out.cell 6 _ rfl
  have c7 := HX.out.cell 7 _ rfl
  have hN2 : ¬ (100 : Int) < (NN.size : Int) := by omega
  have HL := Lib.hid (And.intro hl1 (And.intro hl2 hl3))
  have t0 : (A0.toList == A0.toList) = true := beq_self_eq_true _
  have t1 : (A1.toList == A1.toList) = true := beq_self_eq_true _
  have t3 : (A3.toList == A3.toList) = true := beq_self_eq_true _
  have t6 : (A6.toList == A6.toList) = true := beq_self_eq_true _
  have t2 : (A2 == A2) = true := beq_self_eq_true _
  have t4 : (A4 == A4) = true := beq_self_eq_true _
  have t5 : (E == E) = true := beq_self_eq_true _
  have t7 : (q == q) = true := beq_self_eq_true _
  have t8 : (cb == cb) = true := beq_self_eq_true _
  clear hN hl1 hl2 hl3
  go_enter Tryz.func3, Tryz.ntmps3
  go_wp2_with fail
  refine (HLv.out _ HB0.out).mono ?_
  rintro e w1 ⟨rfl, hb⟩
  have HX1 := Lib.hid (HX.out.later hb)
  have HB1 := Lib.hid (HB0.out.trans (hb.mono HB0.out.size))
  clear hb HX HLv
  clear c0 c1 c2 c3 c4 c5 c6 c7
  have c0 := HX1.out.cell 0 _ rfl
  have c1 := HX1.out.cell 1 _ rfl
  have c2 := HX1.out.cell 2 _ rfl
  have c3 := HX1.out.cell 3 _ rfl
  have c4 := HX1.out.cell 4 _ rfl
  have c5 := HX1.out.cell 5 _ rfl
  have c6 := HX1.out.cell 6 _ rfl
  have c7 := HX1.out.cell 7 _ rfl
  go_wp2_with fail
  refine (HLt.out _ HB1.out).mono ?_
  rintro e w2 ⟨rfl, hb⟩
  have HX2 := Lib.hid (HX1.out.later hb)
  have HB2 := Lib.hid (HB1.out.trans (hb.mono HB1.out.size))
  clear hb HX1 HLt
  clear c0 c1 c2 c3 c4 c5 c6 c7
  have c0 := HX2.out.cell 0 _ rfl
  have c1 := HX2.out.cell 1 _ rfl
  have c2 := HX2.out.cell 2 _ rfl
  have c3 := HX2.out.cell 3 _ rfl
  have c4 := HX2.out.cell 4 _ rfl
  have c5 := HX2.out.cell 5 _ rfl
  have c6 := HX2.out.cell 6 _ rfl
  have c7 := HX2.out.cell 7 _ rfl
  go_wp2_with fail
  refine (HF1.out _ HB2.out).mono ?_
  rintro e w3 ⟨a3, kp3, rfl, hf, hb⟩
  have HX3 := HX2.out.later hb
  have HB3 := HB2.out.trans (hb.mono HB2.out.size)
  have hbA : Below w3.heap.size w3 ((w3.alloc (.cells #[.string ⟨#[]⟩, .string ⟨#[]⟩, .int .i64 0, .string ⟨#[]⟩, .int .i64 0, .slice none 0 0, .string ⟨#[]⟩, .slice none 0 0] 24)).setRow w3.heap.size #[.string A0, .string A1, .int .i64 A2, .string A3, .int .i64 A4, .slice a3 FF.length kp3, .string A6, .slice none 0 0]) := below_setRow (below_alloc w3 _) (Nat.le_refl _) _
  have HN := Lib.hid (Box.new w3 24 #[.string ⟨#[]⟩, .string ⟨#[]⟩, .int .i64 0, .string ⟨#[]⟩, .int .i64 0, .slice none 0 0, .string ⟨#[]⟩, .slice none 0 0])
  have HYA := Lib.hid (Box.row (cs := #[.string A0, .string A1, .int .i64 A2, .string A3, .int .i64 A4, .slice a3 FF.length kp3, .string A6, .slice none 0 0]) HN.out)
  have HX4 := Lib.hid (HX3.later hbA)
  have HF4 := Lib.hid (isFlds_below hf hbA)
  have HB4 := Lib.hid (HB3.trans (hbA.mono HB3.size))
  clear hb hf hbA HX3 HB3 HX2 HF1
  clear c0 c1 c2 c3 c4 c5 c6 c7
  have c0 := HX4.out.cell 0 _ rfl
  have c1 := HX4.out.cell 1 _ rfl
  have c2 := HX4.out.cell 2 _ rfl
  have c3 := HX4.out.cell 3 _ rfl
  have c4 := HX4.out.cell 4 _ rfl
  have c5 := HX4.out.cell 5 _ rfl
  have c6 := HX4.out.cell 6 _ rfl
  have c7 := HX4.out.cell 7 _ rfl
  go_wp2_with (refine wpList_store_row rfl 24 _ _ rfl w3.heap.size 24 _ #[.string A0, .string A1, .int .i64 A2, .string A3, .int .i64 A4, .slice a3 FF.length kp3, .string A6, .slice none 0 0] rfl rfl HN.out (by kernel_rfl) rfl (all_oneCell_toArray (List.all_eq_true.1 (by rfl))) ?_)
  refine (HF2.out _ HB4.out).mono ?_
  rintro e w5 ⟨a5, kp5, rfl, hf, hb⟩
  generalize w3.heap.size = pA at *
  have HX5 := HX4.out.later hb
  have HYA5 := HYA.out.later hb
  have HF5 := isFlds_below HF4.out hb
  have HB5 := HB4.out.trans (hb.mono HB4.out.size)
  have hbA : Below w5.heap.size w5 ((w5.alloc (.cells #[.string ⟨#[]⟩, .string ⟨#[]⟩, .int .i64 0, .string ⟨#[]⟩, .int .i64 0, .slice none 0 0, .string ⟨#[]⟩, .slice none 0 0] 24)).setRow w5.heap.size #[.string A0, .string A1, .int .i64 A2, .string A3, .int .i64 A4, .slice a5 FF.length kp5, .string A6, .slice none 0 0]) := below_setRow (below_alloc w5 _) (Nat.le_refl _) _
  have HN2 := Lib.hid (Box.new w5 24 #[.string ⟨#[]⟩, .string ⟨#[]⟩, .int .i64 0, .string ⟨#[]⟩, .int .i64 0, .slice none 0 0, .string ⟨#[]⟩, .slice none 0 0])
  have HYB := Lib.hid (Box.row (cs := #[.string A0, .string A1, .int .i64 A2, .string A3, .int .i64 A4, .slice a5 FF.length kp5, .string A6, .slice none 0 0]) HN2.out)
  have HYA6 := Lib.hid (HYA5.later hbA)
  have HX6 := Lib.hid (HX5.later hbA)
  have HFa := Lib.hid (isFlds_below HF5 hbA)
  have HFb := Lib.hid (isFlds_below hf hbA)
  have HB6 := Lib.hid (HB5.trans (hbA.mono HB5.size))
  clear hb hf hbA HX4 HX5 HYA HYA5 HF4 HF5 HB5 HB4 HF2 HN
  clear c0 c1 c2 c3 c4 c5 c6 c7
  have d0 := HYA6.out.cell 0 _ rfl
  have d1 := HYA6.out.cell 1 _ rfl
  have d2 := HYA6.out.cell 2 _ rfl
  have d3 := HYA6.out.cell 3 _ rfl
  have d4 := HYA6.out.cell 4 _ rfl
  have d5 := HYA6.out.cell 5 _ rfl
  have d6 := HYA6.out.cell 6 _ rfl
  have d7 := HYA6.out.cell 7 _ rfl
  have e0 := HYB.out.cell 0 _ rfl
  have e1 := HYB.out.cell 1 _ rfl
  have e2 := HYB.out.cell 2 _ rfl
  have e3 := HYB.out.cell 3 _ rfl
  have e4 := HYB.out.cell 4 _ rfl
  have e5 := HYB.out.cell 5 _ rfl
  have e6 := HYB.out.cell 6 _ rfl
  have e7 := HYB.out.cell 7 _ rfl
  go_wp2_with (refine wpList_store_row rfl 24 _ _ rfl w5.heap.size 24 _ #[.string A0, .string A1, .int .i64 A2, .string A3, .int .i64 A4, .slice a5 FF.length kp5, .string A6, .slice none 0 0] rfl rfl HN2.out (by kernel_rfl) rfl (all_oneCell_toArray (List.all_eq_true.1 (by rfl))) ?_)
  generalize (w5.alloc (.cells #[.string ⟨#[]⟩, .string ⟨#[]⟩, .int .i64 0, .string ⟨#[]⟩, .int .i64 0, .slice none 0 0, .string ⟨#[]⟩, .slice none 0 0] 24)).setRow w5.heap.size #[.string A0, .string A1, .int .i64 A2, .string A3, .int .i64 A4, .slice a5 FF.length kp5, .string A6, .slice none 0 0] = w6 at *
  generalize w5.heap.size = pB at *
  clear d0 d1 d2 d3 d4 d5 d6 d7
  clear e0 e1 e2 e3 e4 e5 e6 e7
  simp only [List.append_eq, List.cons_append, List.nil_append]
  have hHeld6 : Box w6 w.heap.size 24 #[.string M, .string T, .int .i64 s, .string R, .int .i64 mi, .slice a1 n1 k1, .string B, .slice a2 n2 k2] ∧ Box w6 pA 24 #[.string A0, .string A1, .int .i64 A2, .string A3, .int .i64 A4, .slice a3 FF.length kp3, .string A6, .slice none 0 0] ∧ Box w6 pB 24 #[.string A0, .string A1, .int .i64 A2, .string A3, .int .i64 A4, .slice a5 FF.length kp5, .string A6, .slice none 0 0] := ⟨HX6.out, HYA6.out, HYB.out⟩
  clear HX6 HYA6 HYB HN2
  as_aux_lemma =>
    refine wp_region_held_drew (S := (fun Wz => Box Wz w.heap.size 24 #[.string M, .string T, .int .i64 s, .string R, .int .i64 mi, .slice a1 n1 k1, .string B, .slice a2 n2 k2] ∧ Box Wz pA 24 #[.string A0, .string A1, .int .i64 A2, .string A3, .int .i64 A4, .slice a3 FF.length kp3, .string A6, .slice none 0 0] ∧ Box Wz pB 24 #[.string A0, .string A1, .int .i64 A2, .string A3, .int .i64 A4, .slice a5 FF.length kp5, .string A6, .slice none 0 0])) (by kernel_rfl) hHeld6 (fun hHeld => ?_)
    refine wpAnyH_take (i := 0) (v := ?_) rfl (by kernel_rfl) (by kernel_rfl) (by kernel_rfl) (fun _ _ _ h => h) (Or.inl ⟨by kernel_rfl, ?_⟩) (by assumption) ?_
    case refine_2 => (intro Wz hSw; go_simp; try with_reducible rfl)
    try simp only [Act.put, List.getElem_toArray, List.getElem_cons_zero, List.setIfInBounds_toArray, List.set_cons_zero, List.set_cons_succ]
    refine wpAnyH_take (i := 1) (v := ?_) rfl (by kernel_rfl) (by kernel_rfl) (by kernel_rfl) (fun _ _ _ h => h) (Or.inl ⟨by kernel_rfl, ?_⟩) (by assumption) ?_
    case refine_2 => (intro Wz hSw; go_simp; try with_reducible rfl)
    try simp only [Act.put, List.getElem_toArray, List.getElem_cons_succ, List.getElem_cons_zero, List.setIfInBounds_toArray, List.set_cons_zero, List.set_cons_succ]
    refine wpAnyH_take (i := 2) (v := .bool true) rfl (by kernel_rfl) (by kernel_rfl) (by kernel_rfl) (fun _ _ _ h => h) (Or.inl ⟨by kernel_rfl, ?_⟩) (by assumption) ?_
    case refine_1 => (intro Wz hSw; go_simp; try with_reducible rfl)
    try simp only [Act.put, List.getElem_toArray, List.getElem_cons_succ, List.getElem_cons_zero, List.setIfInBounds_toArray, List.set_cons_zero, List.set_cons_succ]
    refine wpAnyH_take (i := 3) (v := ?_) rfl (by kernel_rfl) (by kernel_rfl) (by kernel_rfl) (fun _ _ _ h => h) (Or.inl ⟨by kernel_rfl, ?_⟩) (by assumption) ?_
    case refine_2 => (intro Wz hSw; go_simp; try with_reducible rfl)
    try simp only [Act.put, List.getElem_toArray, List.getElem_cons_succ, List.getElem_cons_zero, List.setIfInBounds_toArray, List.set_cons_zero, List.set_cons_succ]
    refine wpAnyH_take (i := 4) (v := ?_) rfl (by kernel_rfl) (by kernel_rfl) (by kernel_rfl) (fun _ _ _ h => h) (Or.inl ⟨by kernel_rfl, ?_⟩) (by assumption) ?_
    case refine_2 => (intro Wz hSw; go_simp; try with_reducible rfl)
    try simp only [Act.put, List.getElem_toArray, List.getElem_cons_succ, List.getElem_cons_zero, List.setIfInBounds_toArray, List.set_cons_zero, List.set_cons_succ]
    refine wpAnyH_take (i := 5) (v := ?_) rfl (by kernel_rfl) (by kernel_rfl) (by kernel_rfl) (fun _ _ _ h => h) (Or.inl ⟨by kernel_rfl, ?_⟩) (by assumption) ?_
    case refine_2 => (intro Wz hSw; have u := Box.cell hSw.2.1 0 _ rfl; go_simp; try with_reducible rfl)
    try simp only [Act.put, List.getElem_toArray, List.getElem_cons_succ, List.getElem_cons_zero, List.setIfInBounds_toArray, List.set_cons_zero, List.set_cons_succ]
    refine wpAnyH_take (i := 6) (v := ?_) rfl (by kernel_rfl) (by kernel_rfl) (by kernel_rfl) (fun _ _ _ h => h) (Or.inl ⟨by kernel_rfl, ?_⟩) (by assumption) ?_
    case refine_2 => (intro Wz hSw; go_simp; try with_reducible rfl)
    try simp only [Act.put, List.getElem_toArray, List.getElem_cons_succ, List.getElem_cons_zero, List.setIfInBounds_toArray, List.set_cons_zero, List.set_cons_succ]
    refine wpAnyH_take (i := 7) (v := ?_) rfl (by kernel_rfl) (by kernel_rfl) (by kernel_rfl) (fun _ _ _ h => h) (Or.inl ⟨by kernel_rfl, ?_⟩) (by assumption) ?_
    case refine_2 => (intro Wz hSw; have u := Box.cell hSw.2.2 0 _ rfl; go_simp; try with_reducible rfl)
    try simp only [Act.put, List.getElem_toArray, List.getElem_cons_succ, List.getElem_cons_zero, List.setIfInBounds_toArray, List.set_cons_zero, List.set_cons_succ]
    refine wpAnyH_take (i := 8) (v := .bool true) rfl (by kernel_rfl) (by kernel_rfl) (by kernel_rfl) (fun _ _ _ h => h) (Or.inl ⟨by kernel_rfl, ?_⟩) (by assumption) ?_
    case refine_1 => (intro Wz hSw; go_simp; try with_reducible rfl)
    try simp only [Act.put, List.getElem_toArray, List.getElem_cons_succ, List.getElem_cons_zero, List.setIfInBounds_toArray, List.set_cons_zero, List.set_cons_succ]
    refine wpAnyH_take (i := 9) (v := .bool true) rfl (by kernel_rfl) (by kernel_rfl) (by kernel_rfl) (fun _ _ _ h => h) (Or.inl ⟨by kernel_rfl, ?_⟩) (by assumption) ?_
    case refine_1 => (intro Wz hSw; go_simp; try with_reducible rfl)
    try simp only [Act.put, List.getElem_toArray, List.getElem_cons_succ, List.getElem_cons_zero, List.setIfInBounds_toArray, List.set_cons_zero, List.set_cons_succ]
    refine wpAnyH_take (i := 10) (v := ?_) rfl (by kernel_rfl) (by kernel_rfl) (by kernel_rfl) (fun _ _ _ h => h) (Or.inl ⟨by kernel_rfl, ?_⟩) (by assumption) ?_
    case refine_2 => (intro Wz hSw; go_simp; try with_reducible rfl)
    try simp only [Act.put, List.getElem_toArray, List.getElem_cons_succ, List.getElem_cons_zero, List.setIfInBounds_toArray, List.set_cons_zero, List.set_cons_succ]
    refine wpAnyH_take (i := 11) (v := ?_) rfl (by kernel_rfl) (by kernel_rfl) (by kernel_rfl) (fun _ _ _ h => h) (Or.inl ⟨by kernel_rfl, ?_⟩) (by assumption) ?_
    case refine_2 => (intro Wz hSw; go_simp; try with_reducible rfl)
    try simp only [Act.put, List.getElem_toArray, List.getElem_cons_succ, List.getElem_cons_zero, List.setIfInBounds_toArray, List.set_cons_zero, List.set_cons_succ]
    refine wpAnyH_take (i := 12) (v := ?_) rfl (by kernel_rfl) (by kernel_rfl) (by kernel_rfl) (fun _ _ _ h => h) (Or.inl ⟨by kernel_rfl, ?_⟩) (by assumption) ?_
    case refine_2 => (intro Wz hSw; have u := Box.cell hSw.2.1 1 _ rfl; go_simp; try with_reducible rfl)
    try simp only [Act.put, List.getElem_toArray, List.getElem_cons_succ, List.getElem_cons_zero, List.setIfInBounds_toArray, List.set_cons_zero, List.set_cons_succ]
    refine wpAnyH_take (i := 13) (v := ?_) rfl (by kernel_rfl) (by kernel_rfl) (by kernel_rfl) (fun _ _ _ h => h) (Or.inl ⟨by kernel_rfl, ?_⟩) (by assumption) ?_
    case refine_2 => (intro Wz hSw; go_simp; try with_reducible rfl)
    try simp only [Act.put, List.getElem_toArray, List.getElem_cons_succ, List.getElem_cons_zero, List.setIfInBounds_toArray, List.set_cons_zero, List.set_cons_succ]
    refine wpAnyH_take (i := 14) (v := ?_) rfl (by kernel_rfl) (by kernel_rfl) (by kernel_rfl) (fun _ _ _ h => h) (Or.inl ⟨by kernel_rfl, ?_⟩) (by assumption) ?_
    case refine_2 => (intro Wz hSw; have u := Box.cell hSw.2.2 1 _ rfl; go_simp; try with_reducible rfl)
    try simp only [Act.put, List.getElem_toArray, List.getElem_cons_succ, List.getElem_cons_zero, List.setIfInBounds_toArray, List.set_cons_zero, List.set_cons_succ]
    refine wpAnyH_take (i := 15) (v := .bool true) rfl (by kernel_rfl) (by kernel_rfl) (by kernel_rfl) (fun _ _ _ h => h) (Or.inl ⟨by kernel_rfl, ?_⟩) (by assumption) ?_
    case refine_1 => (intro Wz hSw; go_simp; try with_reducible rfl)
    try simp only [Act.put, List.getElem_toArray, List.getElem_cons_succ, List.getElem_cons_zero, List.setIfInBounds_toArray, List.set_cons_zero, List.set_cons_succ]
    as_aux_lemma =>
      refine wpAnyH_take (i := 16) (v := .bool true) rfl (by kernel_rfl) (by kernel_rfl) (by kernel_rfl) (fun _ _ _ h => h) (Or.inl ⟨by kernel_rfl, ?_⟩) (by assumption) ?_
      case refine_1 => (intro Wz hSw; go_simp; try with_reducible rfl)
      try simp only [Act.put, List.getElem_toArray, List.getElem_cons_succ, List.getElem_cons_zero, List.setIfInBounds_toArray, List.set_cons_zero, List.set_cons_succ]
      refine wpAnyH_take (i := 17) (v := ?_) rfl (by kernel_rfl) (by kernel_rfl) (by kernel_rfl) (fun _ _ _ h => h) (Or.inl ⟨by kernel_rfl, ?_⟩) (by assumption) ?_
      case refine_2 => (intro Wz hSw; go_simp; try with_reducible rfl)
      try simp only [Act.put, List.getElem_toArray, List.getElem_cons_succ, List.getElem_cons_zero, List.setIfInBounds_toArray, List.set_cons_zero, List.set_cons_succ]
      refine wpAnyH_take (i := 18) (v := ?_) rfl (by kernel_rfl) (by kernel_rfl) (by kernel_rfl) (fun _ _ _ h => h) (Or.inl ⟨by kernel_rfl, ?_⟩) (by assumption) ?_
      case refine_2 => (intro Wz hSw; go_simp; try with_reducible rfl)
      try simp only [Act.put, List.getElem_toArray, List.getElem_cons_succ, List.getElem_cons_zero, List.setIfInBounds_toArray, List.set_cons_zero, List.set_cons_succ]
      refine wpAnyH_take (i := 19) (v := ?_) rfl (by kernel_rfl) (by kernel_rfl) (by kernel_rfl) (fun _ _ _ h => h) (Or.inl ⟨by kernel_rfl, ?_⟩) (by assumption) ?_
      case refine_2 => (intro Wz hSw; have u := Box.cell hSw.2.1 2 _ rfl; go_simp; try with_reducible rfl)
      try simp only [Act.put, List.getElem_toArray, List.getElem_cons_succ, List.getElem_cons_zero, List.setIfInBounds_toArray, List.set_cons_zero, List.set_cons_succ]
      refine wpAnyH_take (i := 20) (v := ?_) rfl (by kernel_rfl) (by kernel_rfl) (by kernel_rfl) (fun _ _ _ h => h) (Or.inl ⟨by kernel_rfl, ?_⟩) (by assumption) ?_
      case refine_2 => (intro Wz hSw; go_simp; try with_reducible rfl)
      try simp only [Act.put, List.getElem_toArray, List.getElem_cons_succ, List.getElem_cons_zero, List.setIfInBounds_toArray, List.set_cons_zero, List.set_cons_succ]
      refine wpAnyH_take (i := 21) (v := ?_) rfl (by kernel_rfl) (by kernel_rfl) (by kernel_rfl) (fun _ _ _ h => h) (Or.inl ⟨by kernel_rfl, ?_⟩) (by assumption) ?_
      case refine_2 => (intro Wz hSw; have u := Box.cell hSw.2.2 2 _ rfl; go_simp; try with_reducible rfl)
      try simp only [Act.put, List.getElem_toArray, List.getElem_cons_succ, List.getElem_cons_zero, List.setIfInBounds_toArray, List.set_cons_zero, List.set_cons_succ]
      refine wpAnyH_take (i := 22) (v := .bool true) rfl (by kernel_rfl) (by kernel_rfl) (by kernel_rfl) (fun _ _ _ h => h) (Or.inl ⟨by kernel_rfl, ?_⟩) (by assumption) ?_
      case refine_1 => (intro Wz hSw; go_simp; try with_reducible rfl)
      try simp only [Act.put, List.getElem_toArray, List.getElem_cons_succ, List.getElem_cons_zero, List.setIfInBounds_toArray, List.set_cons_zero, List.set_cons_succ]
      refine wpAnyH_take (i := 23) (v := .bool true) rfl (by kernel_rfl) (by kernel_rfl) (by kernel_rfl) (fun _ _ _ h => h) (Or.inl ⟨by kernel_rfl, ?_⟩) (by assumption) ?_
      case refine_1 => (intro Wz hSw; go_simp; try with_reducible rfl)
      try simp only [Act.put, List.getElem_toArray, List.getElem_cons_succ, List.getElem_cons_zero, List.setIfInBounds_toArray, List.set_cons_zero, List.set_cons_succ]
      refine wpAnyH_take (i := 24) (v := ?_) rfl (by kernel_rfl) (by kernel_rfl) (by kernel_rfl) (fun _ _ _ h => h) (Or.inl ⟨by kernel_rfl, ?_⟩) (by assumption) ?_
      case refine_2 => (intro Wz hSw; go_simp; try with_reducible rfl)
      try simp only [Act.put, List.getElem_toArray, List.getElem_cons_succ, List.getElem_cons_zero, List.setIfInBounds_toArray, List.set_cons_zero, List.set_cons_succ]
      refine wpAnyH_take (i := 25) (v := ?_) rfl (by kernel_rfl) (by kernel_rfl) (by kernel_rfl) (fun _ _ _ h => h) (Or.inl ⟨by kernel_rfl, ?_⟩) (by assumption) ?_
      case refine_2 => (intro Wz hSw; go_simp; try with_reducible rfl)
      try simp only [Act.put, List.getElem_toArray, List.getElem_cons_succ, List.getElem_cons_zero, List.setIfInBounds_toArray, List.set_cons_zero, List.set_cons_succ]
      refine wpAnyH_take (i := 26) (v := ?_) rfl (by kernel_rfl) (by kernel_rfl) (by kernel_rfl) (fun _ _ _ h => h) (Or.inl ⟨by kernel_rfl, ?_⟩) (by assumption) ?_
      case refine_2 => (intro Wz hSw; have u := Box.cell hSw.2.1 3 _ rfl; go_simp; try with_reducible rfl)
      try simp only [Act.put, List.getElem_toArray, List.getElem_cons_succ, List.getElem_cons_zero, List.setIfInBounds_toArray, List.set_cons_zero, List.set_cons_succ]
      refine wpAnyH_take (i := 27) (v := ?_) rfl (by kernel_rfl) (by kernel_rfl) (by kernel_rfl) (fun _ _ _ h => h) (Or.inl ⟨by kernel_rfl, ?_⟩) (by assumption) ?_
      case refine_2 => (intro Wz hSw; go_simp; try with_reducible rfl)
      try simp only [Act.put, List.getElem_toArray, List.getElem_cons_succ, List.getElem_cons_zero, List.setIfInBounds_toArray, List.set_cons_zero, List.set_cons_succ]
      refine wpAnyH_take (i := 28) (v := ?_) rfl (by kernel_rfl) (by kernel_rfl) (by kernel_rfl) (fun _ _ _ h => h) (Or.inl ⟨by kernel_rfl, ?_⟩) (by assumption) ?_
      case refine_2 => (intro Wz hSw; have u := Box.cell hSw.2.2 3 _ rfl; go_simp; try with_reducible rfl)
      try simp only [Act.put, List.getElem_toArray, List.getElem_cons_succ, List.getElem_cons_zero, List.setIfInBounds_toArray, List.set_cons_zero, List.set_cons_succ]
      refine wpAnyH_take (i := 29) (v := .bool true) rfl (by kernel_rfl) (by kernel_rfl) (by kernel_rfl) (fun _ _ _ h => h) (Or.inl ⟨by kernel_rfl, ?_⟩) (by assumption) ?_
      case refine_1 => (intro Wz hSw; go_simp; try with_reducible rfl)
      try simp only [Act.put, List.getElem_toArray, List.getElem_cons_succ, List.getElem_cons_zero, List.setIfInBounds_toArray, List.set_cons_zero, List.set_cons_succ]
      refine wpAnyH_take (i := 30) (v := .bool true) rfl (by kernel_rfl) (by kernel_rfl) (by kernel_rfl) (fun _ _ _ h => h) (Or.inl ⟨by kernel_rfl, ?_⟩) (by assumption) ?_
      case refine_1 => (intro Wz hSw; go_simp; try with_reducible rfl)
      try simp only [Act.put, List.getElem_toArray, List.getElem_cons_succ, List.getElem_cons_zero, List.setIfInBounds_toArray, List.set_cons_zero, List.set_cons_succ]
      refine wpAnyH_take (i := 31) (v := ?_) rfl (by kernel_rfl) (by kernel_rfl) (by kernel_rfl) (fun _ _ _ h => h) (Or.inl ⟨by kernel_rfl, ?_⟩) (by assumption) ?_
      case refine_2 => (intro Wz hSw; go_simp; try with_reducible rfl)
      try simp only [Act.put, List.getElem_toArray, List.getElem_cons_succ, List.getElem_cons_zero, List.setIfInBounds_toArray, List.set_cons_zero, List.set_cons_succ]
      as_aux_lemma =>
        refine wpAnyH_take (i := 32) (v := ?_) rfl (by kernel_rfl) (by kernel_rfl) (by kernel_rfl) (fun _ _ _ h => h) (Or.inl ⟨by kernel_rfl, ?_⟩) (by assumption) ?_
        case refine_2 => (intro Wz hSw; go_simp; try with_reducible rfl)
        try simp only [Act.put, List.getElem_toArray, List.getElem_cons_succ, List.getElem_cons_zero, List.setIfInBounds_toArray, List.set_cons_zero, List.set_cons_succ]
        refine wpAnyH_take (i := 33) (v := ?_) rfl (by kernel_rfl) (by kernel_rfl) (by kernel_rfl) (fun _ _ _ h => h) (Or.inl ⟨by kernel_rfl, ?_⟩) (by assumption) ?_
        case refine_2 => (intro Wz hSw; have u := Box.cell hSw.2.1 4 _ rfl; go_simp; try with_reducible rfl)
        try simp only [Act.put, List.getElem_toArray, List.getElem_cons_succ, List.getElem_cons_zero, List.setIfInBounds_toArray, List.set_cons_zero, List.set_cons_succ]
        refine wpAnyH_take (i := 34) (v := ?_) rfl (by kernel_rfl) (by kernel_rfl) (by kernel_rfl) (fun _ _ _ h => h) (Or.inl ⟨by kernel_rfl, ?_⟩) (by assumption) ?_
        case refine_2 => (intro Wz hSw; go_simp; try with_reducible rfl)
        try simp only [Act.put, List.getElem_toArray, List.getElem_cons_succ, List.getElem_cons_zero, List.setIfInBounds_toArray, List.set_cons_zero, List.set_cons_succ]
        refine wpAnyH_take (i := 35) (v := ?_) rfl (by kernel_rfl) (by kernel_rfl) (by kernel_rfl) (fun _ _ _ h => h) (Or.inl ⟨by kernel_rfl, ?_⟩) (by assumption) ?_
        case refine_2 => (intro Wz hSw; have u := Box.cell hSw.2.2 4 _ rfl; go_simp; try with_reducible rfl)
        try simp only [Act.put, List.getElem_toArray, List.getElem_cons_succ, List.getElem_cons_zero, List.setIfInBounds_toArray, List.set_cons_zero, List.set_cons_succ]
        refine wpAnyH_take (i := 36) (v := .bool true) rfl (by kernel_rfl) (by kernel_rfl) (by kernel_rfl) (fun _ _ _ h => h) (Or.inl ⟨by kernel_rfl, ?_⟩) (by assumption) ?_
        case refine_1 => (intro Wz hSw; go_simp; try with_reducible rfl)
        try simp only [Act.put, List.getElem_toArray, List.getElem_cons_succ, List.getElem_cons_zero, List.setIfInBounds_toArray, List.set_cons_zero, List.set_cons_succ]
        refine wpAnyH_take (i := 37) (v := .bool true) rfl (by kernel_rfl) (by kernel_rfl) (by kernel_rfl) (fun _ _ _ h => h) (Or.inl ⟨by kernel_rfl, ?_⟩) (by assumption) ?_
        case refine_1 => (intro Wz hSw; go_simp; try with_reducible rfl)
        try simp only [Act.put, List.getElem_toArray, List.getElem_cons_succ, List.getElem_cons_zero, List.setIfInBounds_toArray, List.set_cons_zero, List.set_cons_succ]
        refine wpAnyH_take (i := 38) (v := ?_) rfl (by kernel_rfl) (by kernel_rfl) (by kernel_rfl) (fun _ _ _ h => h) (Or.inl ⟨by kernel_rfl, ?_⟩) (by assumption) ?_
        case refine_2 => (intro Wz hSw; go_simp; try with_reducible rfl)
        try simp only [Act.put, List.getElem_toArray, List.getElem_cons_succ, List.getElem_cons_zero, List.setIfInBounds_toArray, List.set_cons_zero, List.set_cons_succ]
        refine wpAnyH_take (i := 39) (v := ?_) rfl (by kernel_rfl) (by kernel_rfl) (by kernel_rfl) (fun _ _ _ h => h) (Or.inl ⟨by kernel_rfl, ?_⟩) (by assumption) ?_
        case refine_2 => (intro Wz hSw; go_simp; try with_reducible rfl)
        try simp only [Act.put, List.getElem_toArray, List.getElem_cons_succ, List.getElem_cons_zero, List.setIfInBounds_toArray, List.set_cons_zero, List.set_cons_succ]
        refine wpAnyH_take (i := 40) (v := ?_) rfl (by kernel_rfl) (by kernel_rfl) (by kernel_rfl) (fun _ _ _ h => h) (Or.inl ⟨by kernel_rfl, ?_⟩) (by assumption) ?_
        case refine_2 => (intro Wz hSw; have u := Box.cell hSw.2.1 6 _ rfl; go_simp; try with_reducible rfl)
        try simp only [Act.put, List.getElem_toArray, List.getElem_cons_succ, List.getElem_cons_zero, List.setIfInBounds_toArray, List.set_cons_zero, List.set_cons_succ]
        refine wpAnyH_take (i := 41) (v := ?_) rfl (by kernel_rfl) (by kernel_rfl) (by kernel_rfl) (fun _ _ _ h => h) (Or.inl ⟨by kernel_rfl, ?_⟩) (by assumption) ?_
        case refine_2 => (intro Wz hSw; go_simp; try with_reducible rfl)
        try simp only [Act.put, List.getElem_toArray, List.getElem_cons_succ, List.getElem_cons_zero, List.setIfInBounds_toArray, List.set_cons_zero, List.set_cons_succ]
        refine wpAnyH_take (i := 42) (v := ?_) rfl (by kernel_rfl) (by kernel_rfl) (by kernel_rfl) (fun _ _ _ h => h) (Or.inl ⟨by kernel_rfl, ?_⟩) (by assumption) ?_
        case refine_2 => (intro Wz hSw; have u := Box.cell hSw.2.2 6 _ rfl; go_simp; try with_reducible rfl)
        try simp only [Act.put, List.getElem_toArray, List.getElem_cons_succ, List.getElem_cons_zero, List.setIfInBounds_toArray, List.set_cons_zero, List.set_cons_succ]
        refine wpAnyH_take (i := 43) (v := .bool true) rfl (by kernel_rfl) (by kernel_rfl) (by kernel_rfl) (fun _ _ _ h => h) (Or.inl ⟨by kernel_rfl, ?_⟩) (by assumption) ?_
        case refine_1 => (intro Wz hSw; go_simp; try with_reducible rfl)
        try simp only [Act.put, List.getElem_toArray, List.getElem_cons_succ, List.getElem_cons_zero, List.setIfInBounds_toArray, List.set_cons_zero, List.set_cons_succ]
        refine wpAnyH_take (i := 44) (v := .bool true) rfl (by kernel_rfl) (by kernel_rfl) (by kernel_rfl) (fun _ _ _ h => h) (Or.inl ⟨by kernel_rfl, ?_⟩) (by assumption) ?_
        case refine_1 => (intro Wz hSw; go_simp; try with_reducible rfl)
        try simp only [Act.put, List.getElem_toArray, List.getElem_cons_succ, List.getElem_cons_zero, List.setIfInBounds_toArray, List.set_cons_zero, List.set_cons_succ]
        refine wpAnyH_take (i := 45) (v := ?_) rfl (by kernel_rfl) (by kernel_rfl) (by kernel_rfl) (fun _ _ _ h => h) (Or.inl ⟨by kernel_rfl, ?_⟩) (by assumption) ?_
        case refine_2 => (intro Wz hSw; go_simp; try with_reducible rfl)
        try simp only [Act.put, List.getElem_toArray, List.getElem_cons_succ, List.getElem_cons_zero, List.setIfInBounds_toArray, List.set_cons_zero, List.set_cons_succ]
        refine wpAnyH_take (i := 46) (v := ?_) rfl (by kernel_rfl) (by kernel_rfl) (by kernel_rfl) (fun _ _ _ h => h) (Or.inl ⟨by kernel_rfl, ?_⟩) (by assumption) ?_
        case refine_2 => (intro Wz hSw; go_simp; try with_reducible rfl)
        try simp only [Act.put, List.getElem_toArray, List.getElem_cons_succ, List.getElem_cons_zero, List.setIfInBounds_toArray, List.set_cons_zero, List.set_cons_succ]
        refine wpAnyH_take (i := 47) (v := ?_) rfl (by kernel_rfl) (by kernel_rfl) (by kernel_rfl) (fun _ _ _ h => h) (Or.inl ⟨by kernel_rfl, ?_⟩) (by assumption) ?_
        case refine_2 => (intro Wz hSw; have u := Box.cell hSw.2.1 5 _ rfl; go_simp; try with_reducible rfl)
        try simp only [Act.put, List.getElem_toArray, List.getElem_cons_succ, List.getElem_cons_zero, List.setIfInBounds_toArray, List.set_cons_zero, List.set_cons_succ]
        as_aux_lemma =>
          refine wpAnyH_take (i := 48) (v := ?_) rfl (by kernel_rfl) (by kernel_rfl) (by kernel_rfl) (fun _ _ _ h => h) (Or.inl ⟨by kernel_rfl, ?_⟩) (by assumption) ?_
          case refine_2 => (intro Wz hSw; go_simp; try with_reducible rfl)
          try simp only [Act.put, List.getElem_toArray, List.getElem_cons_succ, List.getElem_cons_zero, List.setIfInBounds_toArray, List.set_cons_zero, List.set_cons_succ]
          refine wpAnyH_take (i := 49) (v := ?_) rfl (by kernel_rfl) (by kernel_rfl) (by kernel_rfl) (fun _ _ _ h => h) (Or.inl ⟨by kernel_rfl, ?_⟩) (by assumption) ?_
          case refine_2 => (intro Wz hSw; have u := Box.cell hSw.2.2 5 _ rfl; go_simp; try with_reducible rfl)
          try simp only [Act.put, List.getElem_toArray, List.getElem_cons_succ, List.getElem_cons_zero, List.setIfInBounds_toArray, List.set_cons_zero, List.set_cons_succ]
          refine wpAnyH_ready (rs := [50]) (by kernel_rfl) (by simp) ?_
          refine AllReadyH.cons rfl (fun K hK => ?_) AllReadyH.nil
          go_simp
          refine (HSm.out _ _ _ FF HL.out.1 (isFlds_below HFa.out ((Below.refl w6.heap.size w6).drew)) (isFlds_below HFb.out ((Below.refl w6.heap.size w6).drew))).mono ?_
          rintro e w7 ⟨rfl, hb⟩
          replace hb : Below w6.heap.size w6 w7 := ((Below.refl w6.heap.size w6).drew).trans hb
          have hHeld7 : Box w7 w.heap.size 24 #[.string M, .string T, .int .i64 s, .string R, .int .i64 mi, .slice a1 n1 k1, .string B, .slice a2 n2 k2] ∧ Box w7 pA 24 #[.string A0, .string A1, .int .i64 A2, .string A3, .int .i64 A4, .slice a3 FF.length kp3, .string A6, .slice none 0 0] ∧ Box w7 pB 24 #[.string A0, .string A1, .int .i64 A2, .string A3, .int .i64 A4, .slice a5 FF.length kp5, .string A6, .slice none 0 0] := ⟨hHeld6.1.later hb, hHeld6.2.1.later hb, hHeld6.2.2.later hb⟩
          have HB7 := Lib.hid (HB6.out.trans (hb.mono HB6.out.size))
          clear hHeld
          clear hb hHeld6
          go_simp
          refine hK.out _ _ (by assumption) (fun hHeld2 => ?_)
          clear hK K hHeld2
          try simp only [Act.put, List.getElem_toArray, List.getElem_cons_succ, List.getElem_cons_zero, List.setIfInBounds_toArray, List.set_cons_zero, List.set_cons_succ]
          refine wpAnyH_take (i := 51) (v := .bool true) rfl (by kernel_rfl) (by kernel_rfl) (by kernel_rfl) (fun _ _ _ h => h) (Or.inl ⟨by kernel_rfl, ?_⟩) (by assumption) ?_
          case refine_1 => (intro Wz hSw; go_simp; try with_reducible rfl)
          try simp only [Act.put, List.getElem_toArray, List.getElem_cons_succ, List.getElem_cons_zero, List.setIfInBounds_toArray, List.set_cons_zero, List.set_cons_succ]
          refine wpAnyH_take (i := 52) (v := ?_) rfl (by kernel_rfl) (by kernel_rfl) (by kernel_rfl) (fun _ _ _ h => h) (Or.inl ⟨by kernel_rfl, ?_⟩) (by assumption) ?_
          case refine_2 => (intro Wz hSw; go_simp; try with_reducible rfl)
          try simp only [Act.put, List.getElem_toArray, List.getElem_cons_succ, List.getElem_cons_zero, List.setIfInBounds_toArray, List.set_cons_zero, List.set_cons_succ]
          refine wpAnyH_take (i := 53) (v := ?_) rfl (by kernel_rfl) (by kernel_rfl) (by kernel_rfl) (fun _ _ _ h => h) (Or.inl ⟨by kernel_rfl, ?_⟩) (by assumption) ?_
          case refine_2 => (intro Wz hSw; go_simp; try with_reducible rfl)
          try simp only [Act.put, List.getElem_toArray, List.getElem_cons_succ, List.getElem_cons_zero, List.setIfInBounds_toArray, List.set_cons_zero, List.set_cons_succ]
          refine wpAnyH_take (i := 54) (v := ?_) rfl (by kernel_rfl) (by kernel_rfl) (by kernel_rfl) (fun _ _ _ h => h) (Or.inl ⟨by kernel_rfl, ?_⟩) (by assumption) ?_
          case refine_2 => (intro Wz hSw; have u := Box.cell hSw.2.1 7 _ rfl; go_simp; try with_reducible rfl)
          try simp only [Act.put, List.getElem_toArray, List.getElem_cons_succ, List.getElem_cons_zero, List.setIfInBounds_toArray, List.set_cons_zero, List.set_cons_succ]
          refine wpAnyH_take (i := 55) (v := ?_) rfl (by kernel_rfl) (by kernel_rfl) (by kernel_rfl) (fun _ _ _ h => h) (Or.inl ⟨by kernel_rfl, ?_⟩) (by assumption) ?_
          case refine_2 => (intro Wz hSw; go_simp; try with_reducible rfl)
          try simp only [Act.put, List.getElem_toArray, List.getElem_cons_succ, List.getElem_cons_zero, List.setIfInBounds_toArray, List.set_cons_zero, List.set_cons_succ]
          refine wpAnyH_take (i := 56) (v := ?_) rfl (by kernel_rfl) (by kernel_rfl) (by kernel_rfl) (fun _ _ _ h => h) (Or.inl ⟨by kernel_rfl, ?_⟩) (by assumption) ?_
          case refine_2 => (intro Wz hSw; go_simp; try with_reducible rfl)
          try simp only [Act.put, List.getElem_toArray, List.getElem_cons_succ, List.getElem_cons_zero, List.setIfInBounds_toArray, List.set_cons_zero, List.set_cons_succ]
          refine wpAnyH_take (i := 57) (v := ?_) rfl (by kernel_rfl) (by kernel_rfl) (by kernel_rfl) (fun _ _ _ h => h) (Or.inl ⟨by kernel_rfl, ?_⟩) (by assumption) ?_
          case refine_2 => (intro Wz hSw; have u := Box.cell hSw.2.2 7 _ rfl; go_simp; try with_reducible rfl)
          try simp only [Act.put, List.getElem_toArray, List.getElem_cons_succ, List.getElem_cons_zero, List.setIfInBounds_toArray, List.set_cons_zero, List.set_cons_succ]
          refine wpAnyH_take (i := 58) (v := ?_) rfl (by kernel_rfl) (by kernel_rfl) (by kernel_rfl) (fun _ _ _ h => h) (Or.inl ⟨by kernel_rfl, ?_⟩) (by assumption) ?_
          case refine_2 => (intro Wz hSw; go_simp; try with_reducible rfl)
          try simp only [Act.put, List.getElem_toArray, List.getElem_cons_succ, List.getElem_cons_zero, List.setIfInBounds_toArray, List.set_cons_zero, List.set_cons_succ]
          refine wpAnyH_take (i := 59) (v := .bool true) rfl (by kernel_rfl) (by kernel_rfl) (by kernel_rfl) (fun _ _ _ h => h) (Or.inl ⟨by kernel_rfl, ?_⟩) (by assumption) ?_
          case refine_1 => (intro Wz hSw; go_simp; try with_reducible rfl)
          try simp only [Act.put, List.getElem_toArray, List.getElem_cons_succ, List.getElem_cons_zero, List.setIfInBounds_toArray, List.set_cons_zero, List.set_cons_succ]
          refine wpAnyH_take (i := 60) (v := .bool true) rfl (by kernel_rfl) (by kernel_rfl) (by kernel_rfl) (fun _ _ _ h => h) (Or.inl ⟨by kernel_rfl, ?_⟩) (by assumption) ?_
          case refine_1 => (intro Wz hSw; go_simp; try with_reducible rfl)
          try simp only [Act.put, List.getElem_toArray, List.getElem_cons_succ, List.getElem_cons_zero, List.setIfInBounds_toArray, List.set_cons_zero, List.set_cons_succ]
          refine wpAnyH_take (i := 61) (v := ?_) rfl (by kernel_rfl) (by kernel_rfl) (by kernel_rfl) (fun _ _ _ h => h) (Or.inl ⟨by kernel_rfl, ?_⟩) (by assumption) ?_
          case refine_2 => (intro Wz hSw; go_simp; try with_reducible rfl)
          try simp only [Act.put, List.getElem_toArray, List.getElem_cons_succ, List.getElem_cons_zero, List.setIfInBounds_toArray, List.set_cons_zero, List.set_cons_succ]
          refine wpAnyH_take (i := 62) (v := ?_) rfl (by kernel_rfl) (by kernel_rfl) (by kernel_rfl) (fun _ _ _ h => h) (Or.inl ⟨by kernel_rfl, ?_⟩) (by assumption) ?_
          case refine_2 => (intro Wz hSw; go_simp; try with_reducible rfl)
          try simp only [Act.put, List.getElem_toArray, List.getElem_cons_succ, List.getElem_cons_zero, List.setIfInBounds_toArray, List.set_cons_zero, List.set_cons_succ]
          refine wpAnyH_take (i := 64) (v := ?_) rfl (by kernel_rfl) (by kernel_rfl) (by kernel_rfl) (fun _ _ _ h => h) (Or.inl ⟨by kernel_rfl, ?_⟩) (by assumption) ?_
          case refine_2 => (intro Wz hSw; go_simp; try with_reducible rfl)
          try simp only [Act.put, List.getElem_toArray, List.getElem_cons_succ, List.getElem_cons_zero, List.setIfInBounds_toArray, List.set_cons_zero, List.set_cons_succ]
          as_aux_lemma =>
            refine wpAnyH_ready (rs := [63]) (by kernel_rfl) (by simp) ?_
            refine AllReadyH.cons rfl (fun K hK => ?_) AllReadyH.nil
            go_simp
            refine (HH1.out _ HB7.out).mono ?_
            rintro e w8 ⟨rfl, hb⟩
            have hHeld8 : Box w8 w.heap.size 24 #[.string M, .string T, .int .i64 s, .string R, .int .i64 mi, .slice a1 n1 k1, .string B, .slice a2 n2 k2] ∧ Box w8 pA 24 #[.string A0, .string A1, .int .i64 A2, .string A3, .int .i64 A4, .slice a3 FF.length kp3, .string A6, .slice none 0 0] ∧ Box w8 pB 24 #[.string A0, .string A1, .int .i64 A2, .string A3, .int .i64 A4, .slice a5 FF.length kp5, .string A6, .slice none 0 0] := ⟨hHeld7.1.later hb, hHeld7.2.1.later hb, hHeld7.2.2.later hb⟩
            have HB8 := Lib.hid (HB7.out.trans (hb.mono HB7.out.size))
            clear hb hHeld7
            go_simp
            refine hK.out _ _ (by assumption) (fun hHeld2 => ?_)
            clear hK K hHeld2
            try simp only [Act.put, List.getElem_toArray, List.getElem_cons_succ, List.getElem_cons_zero, List.setIfInBounds_toArray, List.set_cons_zero, List.set_cons_succ]
            refine wpAnyH_ready (rs := [65]) (by kernel_rfl) (by simp) ?_
            refine AllReadyH.cons rfl (fun K hK => ?_) AllReadyH.nil
            go_simp
            refine (HH2.out _ HB8.out).mono ?_
            rintro e w9 ⟨rfl, hb⟩
            have hHeld9 : Box w9 w.heap.size 24 #[.string M, .string T, .int .i64 s, .string R, .int .i64 mi, .slice a1 n1 k1, .string B, .slice a2 n2 k2] ∧ Box w9 pA 24 #[.string A0, .string A1, .int .i64 A2, .string A3, .int .i64 A4, .slice a3 FF.length kp3, .string A6, .slice none 0 0] ∧ Box w9 pB 24 #[.string A0, .string A1, .int .i64 A2, .string A3, .int .i64 A4, .slice a5 FF.length kp5, .string A6, .slice none 0 0] := ⟨hHeld8.1.later hb, hHeld8.2.1.later hb, hHeld8.2.2.later hb⟩
            have HB9 := Lib.hid (HB8.out.trans (hb.mono HB8.out.size))
            clear hb hHeld8
            go_simp
            refine hK.out _ _ (by assumption) (fun hHeld2 => ?_)
            clear hK K hHeld2
            try simp only [Act.put, List.getElem_toArray, List.getElem_cons_succ, List.getElem_cons_zero, List.setIfInBounds_toArray, List.set_cons_zero, List.set_cons_succ]
            refine wpAnyH_take (i := 66) (v := .bool true) rfl (by kernel_rfl) (by kernel_rfl) (by kernel_rfl) (fun _ _ _ h => h) (Or.inl ⟨by kernel_rfl, ?_⟩) (by assumption) ?_
            case refine_1 => (intro Wz hSw; go_simp; try with_reducible rfl)
            try simp only [Act.put, List.getElem_toArray, List.getElem_cons_succ, List.getElem_cons_zero, List.setIfInBounds_toArray, List.set_cons_zero, List.set_cons_succ]
            refine wpAnyH_take (i := 67) (v := .bool true) rfl (by kernel_rfl) (by kernel_rfl) (by kernel_rfl) (fun _ _ _ h => h) (Or.inl ⟨by kernel_rfl, ?_⟩) (by assumption) ?_
            case refine_1 => (intro Wz hSw; go_simp; try with_reducible rfl)
            try simp only [Act.put, List.getElem_toArray, List.getElem_cons_succ, List.getElem_cons_zero, List.setIfInBounds_toArray, List.set_cons_zero, List.set_cons_succ]
            refine wpAnyH_take (i := 68) (v := ?_) rfl (by kernel_rfl) (by kernel_rfl) (by kernel_rfl) (fun _ _ _ h => h) (Or.inl ⟨by kernel_rfl, ?_⟩) (by assumption) ?_
            case refine_2 => (intro Wz hSw; go_simp; try with_reducible rfl)
            try simp only [Act.put, List.getElem_toArray, List.getElem_cons_succ, List.getElem_cons_zero, List.setIfInBounds_toArray, List.set_cons_zero, List.set_cons_succ]
            refine wpAnyH_take (i := 69) (v := ?_) rfl (by kernel_rfl) (by kernel_rfl) (by kernel_rfl) (fun _ _ _ h => h) (Or.inl ⟨by kernel_rfl, ?_⟩) (by assumption) ?_
            case refine_2 => (intro Wz hSw; go_simp; try with_reducible rfl)
            try simp only [Act.put, List.getElem_toArray, List.getElem_cons_succ, List.getElem_cons_zero, List.setIfInBounds_toArray, List.set_cons_zero, List.set_cons_succ]
            refine wpAnyH_take (i := 70) (v := ?_) rfl (by kernel_rfl) (by kernel_rfl) (by kernel_rfl) (fun _ _ _ h => h) (Or.inl ⟨by kernel_rfl, ?_⟩) (by assumption) ?_
            case refine_2 => (intro Wz hSw; have u := Box.cell hSw.1 5 _ rfl; go_simp; try with_reducible rfl)
            try simp only [Act.put, List.getElem_toArray, List.getElem_cons_succ, List.getElem_cons_zero, List.setIfInBounds_toArray, List.set_cons_zero, List.set_cons_succ]
            refine wpAnyH_take (i := 72) (v := ?_) rfl (by kernel_rfl) (by kernel_rfl) (by kernel_rfl) (fun _ _ _ h => h) (Or.inl ⟨by kernel_rfl, ?_⟩) (by assumption) ?_
            case refine_2 => (intro Wz hSw; go_simp; try with_reducible rfl)
            try simp only [Act.put, List.getElem_toArray, List.getElem_cons_succ, List.getElem_cons_zero, List.setIfInBounds_toArray, List.set_cons_zero, List.set_cons_succ]
            refine wpAnyH_take (i := 73) (v := ?_) rfl (by kernel_rfl) (by kernel_rfl) (by kernel_rfl) (fun _ _ _ h => h) (Or.inl ⟨by kernel_rfl, ?_⟩) (by assumption) ?_
            case refine_2 => (intro Wz hSw; have u := Box.cell hSw.1 5 _ rfl; go_simp; try with_reducible rfl)
            try simp only [Act.put, List.getElem_toArray, List.getElem_cons_succ, List.getElem_cons_zero, List.setIfInBounds_toArray, List.set_cons_zero, List.set_cons_succ]
            refine wpAnyH_ready (rs := [71]) (by kernel_rfl) (by simp) ?_
            refine AllReadyH.cons rfl (fun K hK => ?_) AllReadyH.nil
            go_simp
            refine (HS1.out _ HB9.out).mono ?_
            rintro e w10 ⟨v1, rfl, hf, hb⟩
            have hHeld10 : Box w10 w.heap.size 24 #[.string M, .string T, .int .i64 s, .string R, .int .i64 mi, .slice a1 n1 k1, .string B, .slice a2 n2 k2] ∧ Box w10 pA 24 #[.string A0, .string A1, .int .i64 A2, .string A3, .int .i64 A4, .slice a3 FF.length kp3, .string A6, .slice none 0 0] ∧ Box w10 pB 24 #[.string A0, .string A1, .int .i64 A2, .string A3, .int .i64 A4, .slice a5 FF.length kp5, .string A6, .slice none 0 0] := ⟨hHeld9.1.later hb, hHeld9.2.1.later hb, hHeld9.2.2.later hb⟩
            have HB10 := Lib.hid (HB9.out.trans (hb.mono HB9.out.size))
            have HG1 := Lib.hid hf
            clear hf
            clear hb hHeld9
            go_simp
            refine hK.out _ _ (by assumption) (fun hHeld2 => ?_)
            clear hK K hHeld2
            try simp only [Act.put, List.getElem_toArray, List.getElem_cons_succ, List.getElem_cons_zero, List.setIfInBounds_toArray, List.set_cons_zero, List.set_cons_succ]
            refine wpAnyH_ready (rs := [74]) (by kernel_rfl) (by simp) ?_
            refine AllReadyH.cons rfl (fun K hK => ?_) AllReadyH.nil
            go_simp
            refine (HS2.out _ HB10.out).mono ?_
            rintro e w11 ⟨v2, rfl, hf, hb⟩
            have hHeld11 : Box w11 w.heap.size 24 #[.string M, .string T, .int .i64 s, .string R, .int .i64 mi, .slice a1 n1 k1, .string B, .slice a2 n2 k2] ∧ Box w11 pA 24 #[.string A0, .string A1, .int .i64 A2, .string A3, .int .i64 A4, .slice a3 FF.length kp3, .string A6, .slice none 0 0] ∧ Box w11 pB 24 #[.string A0, .string A1, .int .i64 A2, .string A3, .int .i64 A4, .slice a5 FF.length kp5, .string A6, .slice none 0 0] := ⟨hHeld10.1.later hb, hHeld10.2.1.later hb, hHeld10.2.2.later hb⟩
            have HB11 := Lib.hid (HB10.out.trans (hb.mono HB10.out.size))
            have HG2 := Lib.hid hf
            have HG1b := Lib.hid (isFlds_below HG1.out hb)
            clear hf
            clear hb hHeld10
            go_simp
            refine hK.out _ _ (by assumption) (fun hHeld2 => ?_)
            clear hK K hHeld2
            try simp only [Act.put, List.getElem_toArray, List.getElem_cons_succ, List.getElem_cons_zero, List.setIfInBounds_toArray, List.set_cons_zero, List.set_cons_succ]
            refine wpAnyH_ready (rs := [75]) (by kernel_rfl) (by simp) ?_
            refine AllReadyH.cons rfl (fun K hK => ?_) AllReadyH.nil
            go_simp
            refine (HSm.out _ _ _ SL HL.out.2.1 HG1b.out HG2.out).mono ?_
            rintro e w12 ⟨rfl, hb⟩
            have hHeld12 : Box w12 w.heap.size 24 #[.string M, .string T, .int .i64 s, .string R, .int .i64 mi, .slice a1 n1 k1, .string B, .slice a2 n2 k2] ∧ Box w12 pA 24 #[.string A0, .string A1, .int .i64 A2, .string A3, .int .i64 A4, .slice a3 FF.length kp3, .string A6, .slice none 0 0] ∧ Box w12 pB 24 #[.string A0, .string A1, .int .i64 A2, .string A3, .int .i64 A4, .slice a5 FF.length kp5, .string A6, .slice none 0 0] := ⟨hHeld11.1.later hb, hHeld11.2.1.later hb, hHeld11.2.2.later hb⟩
            have HB12 := Lib.hid (HB11.out.trans (hb.mono HB11.out.size))
            clear HG1 HG1b HG2
            clear hb hHeld11
            go_simp
            refine hK.out _ _ (by assumption) (fun hHeld2 => ?_)
            clear hK K hHeld2
            try simp only [Act.put, List.getElem_toArray, List.getElem_cons_succ, List.getElem_cons_zero, List.setIfInBounds_toArray, List.set_cons_zero, List.set_cons_succ]
            refine wpAnyH_take (i := 76) (v := .bool true) rfl (by kernel_rfl) (by kernel_rfl) (by kernel_rfl) (fun _ _ _ h => h) (Or.inl ⟨by kernel_rfl, ?_⟩) (by assumption) ?_
            case refine_1 => (intro Wz hSw; go_simp; try with_reducible rfl)
            try simp only [Act.put, List.getElem_toArray, List.getElem_cons_succ, List.getElem_cons_zero, List.setIfInBounds_toArray, List.set_cons_zero, List.set_cons_succ]
            refine wpAnyH_take (i := 77) (v := ?_) rfl (by kernel_rfl) (by kernel_rfl) (by kernel_rfl) (fun _ _ _ h => h) (Or.inl ⟨by kernel_rfl, ?_⟩) (by assumption) ?_
            case refine_2 => (intro Wz hSw; go_simp; try with_reducible rfl)
            try simp only [Act.put, List.getElem_toArray, List.getElem_cons_succ, List.getElem_cons_zero, List.setIfInBounds_toArray, List.set_cons_zero, List.set_cons_succ]
            refine wpAnyH_take (i := 78) (v := ?_) rfl (by kernel_rfl) (by kernel_rfl) (by kernel_rfl) (fun _ _ _ h => h) (Or.inl ⟨by kernel_rfl, ?_⟩) (by assumption) ?_
            case refine_2 => (intro Wz hSw; go_simp; try with_reducible rfl)
            try simp only [Act.put, List.getElem_toArray, List.getElem_cons_succ, List.getElem_cons_zero, List.setIfInBounds_toArray, List.set_cons_zero, List.set_cons_succ]
            refine wpAnyH_take (i := 79) (v := ?_) rfl (by kernel_rfl) (by kernel_rfl) (by kernel_rfl) (fun _ _ _ h => h) (Or.inl ⟨by kernel_rfl, ?_⟩) (by assumption) ?_
            case refine_2 => (intro Wz hSw; have u := Box.cell hSw.1 5 _ rfl; go_simp; try with_reducible rfl)
            try simp only [Act.put, List.getElem_toArray, List.getElem_cons_succ, List.getElem_cons_zero, List.setIfInBounds_toArray, List.set_cons_zero, List.set_cons_succ]
            as_aux_lemma =>
              refine wpAnyH_take (i := 80) (v := ?_) rfl (by kernel_rfl) (by kernel_rfl) (by kernel_rfl) (fun _ _ _ h => h) (Or.inl ⟨by kernel_rfl, ?_⟩) (by assumption) ?_
              case refine_2 => (intro Wz hSw; go_simp; try with_reducible rfl)
              try simp only [Act.put, List.getElem_toArray, List.getElem_cons_succ, List.getElem_cons_zero, List.setIfInBounds_toArray, List.set_cons_zero, List.set_cons_succ]
              refine wpAnyH_take (i := 81) (v := ?_) rfl (by kernel_rfl) (by kernel_rfl) (by kernel_rfl) (fun _ _ _ h => h) (Or.inl ⟨by kernel_rfl, ?_⟩) (by assumption) ?_
              case refine_2 => (intro Wz hSw; go_simp; try with_reducible rfl)
              try simp only [Act.put, List.getElem_toArray, List.getElem_cons_succ, List.getElem_cons_zero, List.setIfInBounds_toArray, List.set_cons_zero, List.set_cons_succ]
              refine wpAnyH_take (i := 83) (v := ?_) rfl (by kernel_rfl) (by kernel_rfl) (by kernel_rfl) (fun _ _ _ h => h) (Or.inl ⟨by kernel_rfl, ?_⟩) (by assumption) ?_
              case refine_2 => (intro Wz hSw; go_simp; try with_reducible rfl)
              try simp only [Act.put, List.getElem_toArray, List.getElem_cons_succ, List.getElem_cons_zero, List.setIfInBounds_toArray, List.set_cons_zero, List.set_cons_succ]
              refine wpAnyH_take (i := 84) (v := ?_) rfl (by kernel_rfl) (by kernel_rfl) (by kernel_rfl) (fun _ _ _ h => h) (Or.inl ⟨by kernel_rfl, ?_⟩) (by assumption) ?_
              case refine_2 => (intro Wz hSw; have u := Box.cell hSw.1 5 _ rfl; go_simp; try with_reducible rfl)
              try simp only [Act.put, List.getElem_toArray, List.getElem_cons_succ, List.getElem_cons_zero, List.setIfInBounds_toArray, List.set_cons_zero, List.set_cons_succ]
              refine wpAnyH_take (i := 85) (v := ?_) rfl (by kernel_rfl) (by kernel_rfl) (by kernel_rfl) (fun _ _ _ h => h) (Or.inl ⟨by kernel_rfl, ?_⟩) (by assumption) ?_
              case refine_2 => (intro Wz hSw; go_simp; try with_reducible rfl)
              try simp only [Act.put, List.getElem_toArray, List.getElem_cons_succ, List.getElem_cons_zero, List.setIfInBounds_toArray, List.set_cons_zero, List.set_cons_succ]
              refine wpAnyH_take (i := 86) (v := ?_) rfl (by kernel_rfl) (by kernel_rfl) (by kernel_rfl) (fun _ _ _ h => h) (Or.inl ⟨by kernel_rfl, ?_⟩) (by assumption) ?_
              case refine_2 => (intro Wz hSw; go_simp; try with_reducible rfl)
              try simp only [Act.put, List.getElem_toArray, List.getElem_cons_succ, List.getElem_cons_zero, List.setIfInBounds_toArray, List.set_cons_zero, List.set_cons_succ]
              refine wpAnyH_ready (rs := [82]) (by kernel_rfl) (by simp) ?_
              refine AllReadyH.cons rfl (fun K hK => ?_) AllReadyH.nil
              go_simp
              refine (HV1.out _ HB12.out).mono ?_
              rintro e w13 ⟨v3, rfl, hf, hb⟩
              have hHeld13 : Box w13 w.heap.size 24 #[.string M, .string T, .int .i64 s, .string R, .int .i64 mi, .slice a1 n1 k1, .string B, .slice a2 n2 k2] ∧ Box w13 pA 24 #[.string A0, .string A1, .int .i64 A2, .string A3, .int .i64 A4, .slice a3 FF.length kp3, .string A6, .slice none 0 0] ∧ Box w13 pB 24 #[.string A0, .string A1, .int .i64 A2, .string A3, .int .i64 A4, .slice a5 FF.length kp5, .string A6, .slice none 0 0] := ⟨hHeld12.1.later hb, hHeld12.2.1.later hb, hHeld12.2.2.later hb⟩
              have HB13 := Lib.hid (HB12.out.trans (hb.mono HB12.out.size))
              have HG1 := Lib.hid hf
              clear hf
              clear hb hHeld12
              go_simp
              refine hK.out _ _ (by assumption) (fun hHeld2 => ?_)
              clear hK K hHeld2
              try simp only [Act.put, List.getElem_toArray, List.getElem_cons_succ, List.getElem_cons_zero, List.setIfInBounds_toArray, List.set_cons_zero, List.set_cons_succ]
              refine wpAnyH_ready (rs := [87]) (by kernel_rfl) (by simp) ?_
              refine AllReadyH.cons rfl (fun K hK => ?_) AllReadyH.nil
              go_simp
              refine (HV2.out _ HB13.out).mono ?_
              rintro e w14 ⟨v4, rfl, hf, hb⟩
              have hHeld14 : Box w14 w.heap.size 24 #[.string M, .string T, .int .i64 s, .string R, .int .i64 mi, .slice a1 n1 k1, .string B, .slice a2 n2 k2] ∧ Box w14 pA 24 #[.string A0, .string A1, .int .i64 A2, .string A3, .int .i64 A4, .slice a3 FF.length kp3, .string A6, .slice none 0 0] ∧ Box w14 pB 24 #[.string A0, .string A1, .int .i64 A2, .string A3, .int .i64 A4, .slice a5 FF.length kp5, .string A6, .slice none 0 0] := ⟨hHeld13.1.later hb, hHeld13.2.1.later hb, hHeld13.2.2.later hb⟩
              have HB14 := Lib.hid (HB13.out.trans (hb.mono HB13.out.size))
              have HG2 := Lib.hid hf
              have HG1b := Lib.hid (isFlds_below HG1.out hb)
              clear hf
              clear hb hHeld13
              go_simp
              refine hK.out _ _ (by assumption) (fun hHeld2 => ?_)
              clear hK K hHeld2
              try simp only [Act.put, List.getElem_toArray, List.getElem_cons_succ, List.getElem_cons_zero, List.setIfInBounds_toArray, List.set_cons_zero, List.set_cons_succ]
              refine wpAnyH_ready (rs := [88]) (by kernel_rfl) (by simp) ?_
              refine AllReadyH.cons rfl (fun K hK => ?_) AllReadyH.nil
              go_simp
              refine (HSm.out _ _ _ VL HL.out.2.2 HG1b.out HG2.out).mono ?_
              rintro e w15 ⟨rfl, hb⟩
              have hHeld15 : Box w15 w.heap.size 24 #[.string M, .string T, .int .i64 s, .string R, .int .i64 mi, .slice a1 n1 k1, .string B, .slice a2 n2 k2] ∧ Box w15 pA 24 #[.string A0, .string A1, .int .i64 A2, .string A3, .int .i64 A4, .slice a3 FF.length kp3, .string A6, .slice none 0 0] ∧ Box w15 pB 24 #[.string A0, .string A1, .int .i64 A2, .string A3, .int .i64 A4, .slice a5 FF.length kp5, .string A6, .slice none 0 0] := ⟨hHeld14.1.later hb, hHeld14.2.1.later hb, hHeld14.2.2.later hb⟩
              have HB15 := Lib.hid (HB14.out.trans (hb.mono HB14.out.size))
              clear HG1 HG1b HG2
              clear hb hHeld14
              go_simp
              refine hK.out _ _ (by assumption) (fun hHeld2 => ?_)
              clear hK K hHeld2
              try simp only [Act.put, List.getElem_toArray, List.getElem_cons_succ, List.getElem_cons_zero, List.setIfInBounds_toArray, List.set_cons_zero, List.set_cons_succ]
              refine wpAnyH_take (i := 89) (v := .bool true) rfl (by kernel_rfl) (by kernel_rfl) (by kernel_rfl) (fun _ _ _ h => h) (Or.inl ⟨by kernel_rfl, ?_⟩) (by assumption) ?_
              case refine_1 => (intro Wz hSw; go_simp; try with_reducible rfl)
              try simp only [Act.put, List.getElem_toArray, List.getElem_cons_succ, List.getElem_cons_zero, List.setIfInBounds_toArray, List.set_cons_zero, List.set_cons_succ]
              refine wpAnyH_take (i := 90) (v := ?_) rfl (by kernel_rfl) (by kernel_rfl) (by kernel_rfl) (fun _ _ _ h => h) (Or.inl ⟨by kernel_rfl, ?_⟩) (by assumption) ?_
              case refine_2 => (intro Wz hSw; go_simp; try with_reducible rfl)
              try simp only [Act.put, List.getElem_toArray, List.getElem_cons_succ, List.getElem_cons_zero, List.setIfInBounds_toArray, List.set_cons_zero, List.set_cons_succ]
              refine wpAnyH_take (i := 91) (v := ?_) rfl (by kernel_rfl) (by kernel_rfl) (by kernel_rfl) (fun _ _ _ h => h) (Or.inl ⟨by kernel_rfl, ?_⟩) (by assumption) ?_
              case refine_2 => (intro Wz hSw; have u0 := Box.cell hSw.1 0 _ rfl; have u1 := Box.cell hSw.1 1 _ rfl; have u2 := Box.cell hSw.1 2 _ rfl; have u3 := Box.cell hSw.1 3 _ rfl; have u4 := Box.cell hSw.1 4 _ rfl; have u5 := Box.cell hSw.1 5 _ rfl; have u6 := Box.cell hSw.1 6 _ rfl; have u7 := Box.cell hSw.1 7 _ rfl; go_simp; try with_reducible rfl)
              try simp only [Act.put, List.getElem_toArray, List.getElem_cons_succ, List.getElem_cons_zero, List.setIfInBounds_toArray, List.set_cons_zero, List.set_cons_succ]
              refine wpAnyH_take (i := 93) (v := ?_) rfl (by kernel_rfl) (by kernel_rfl) (by kernel_rfl) (fun _ _ _ h => h) (Or.inl ⟨by kernel_rfl, ?_⟩) (by assumption) ?_
              case refine_2 => (intro Wz hSw; have u0 := Box.cell hSw.1 0 _ rfl; have u1 := Box.cell hSw.1 1 _ rfl; have u2 := Box.cell hSw.1 2 _ rfl; have u3 := Box.cell hSw.1 3 _ rfl; have u4 := Box.cell hSw.1 4 _ rfl; have u5 := Box.cell hSw.1 5 _ rfl; have u6 := Box.cell hSw.1 6 _ rfl; have u7 := Box.cell hSw.1 7 _ rfl; go_simp; try with_reducible rfl)
              try simp only [Act.put, List.getElem_toArray, List.getElem_cons_succ, List.getElem_cons_zero, List.setIfInBounds_toArray, List.set_cons_zero, List.set_cons_succ]
              refine wpAnyH_ready (rs := [92]) (by kernel_rfl) (by simp) ?_
              refine AllReadyH.cons rfl (fun K hK => ?_) AllReadyH.nil
              go_simp
              refine (HC1.out _ HB15.out).mono ?_
              rintro e w16 ⟨rfl, hb⟩
              have hHeld16 : Box w16 w.heap.size 24 #[.string M, .string T, .int .i64 s, .string R, .int .i64 mi, .slice a1 n1 k1, .string B, .slice a2 n2 k2] ∧ Box w16 pA 24 #[.string A0, .string A1, .int .i64 A2, .string A3, .int .i64 A4, .slice a3 FF.length kp3, .string A6, .slice none 0 0] ∧ Box w16 pB 24 #[.string A0, .string A1, .int .i64 A2, .string A3, .int .i64 A4, .slice a5 FF.length kp5, .string A6, .slice none 0 0] := ⟨hHeld15.1.later hb, hHeld15.2.1.later hb, hHeld15.2.2.later hb⟩
              have HB16 := Lib.hid (HB15.out.trans (hb.mono HB15.out.size))
              clear hb hHeld15
              go_simp
              refine hK.out _ _ (by assumption) (fun hHeld2 => ?_)
              clear hK K hHeld2
              try simp only [Act.put, List.getElem_toArray, List.getElem_cons_succ, List.getElem_cons_zero, List.setIfInBounds_toArray, List.set_cons_zero, List.set_cons_succ]
              refine wpAnyH_ready (rs := [94]) (by kernel_rfl) (by simp) ?_
              refine AllReadyH.cons rfl (fun K hK => ?_) AllReadyH.nil
              go_simp
              refine (HC2.out _ HB16.out).mono ?_
              rintro e w17 ⟨rfl, hb⟩
              have hHeld17 : Box w17 w.heap.size 24 #[.string M, .string T, .int .i64 s, .string R, .int .i64 mi, .slice a1 n1 k1, .string B, .slice a2 n2 k2] ∧ Box w17 pA 24 #[.string A0, .string A1, .int .i64 A2, .string A3, .int .i64 A4, .slice a3 FF.length kp3, .string A6, .slice none 0 0] ∧ Box w17 pB 24 #[.string A0, .string A1, .int .i64 A2, .string A3, .int .i64 A4, .slice a5 FF.length kp5, .string A6, .slice none 0 0] := ⟨hHeld16.1.later hb, hHeld16.2.1.later hb, hHeld16.2.2.later hb⟩
              have HB17 := Lib.hid (HB16.out.trans (hb.mono HB16.out.size))
              clear hb hHeld16
              go_simp
              refine hK.out _ _ (by assumption) (fun hHeld2 => ?_)
              clear hK K hHeld2
              try simp only [Act.put, List.getElem_toArray, List.getElem_cons_succ, List.getElem_cons_zero, List.setIfInBounds_toArray, List.set_cons_zero, List.set_cons_succ]
              refine wpAnyH_take (i := 95) (v := .bool true) rfl (by kernel_rfl) (by kernel_rfl) (by kernel_rfl) (fun _ _ _ h => h) (Or.inl ⟨by kernel_rfl, ?_⟩) (by assumption) ?_
              case refine_1 => (intro Wz hSw; go_simp; try with_reducible rfl)
              try simp only [Act.put, List.getElem_toArray, List.getElem_cons_succ, List.getElem_cons_zero, List.setIfInBounds_toArray, List.set_cons_zero, List.set_cons_succ]
              as_aux_lemma =>
                refine wpAnyH_take (i := 96) (v := .bool true) rfl (by kernel_rfl) (by kernel_rfl) (by kernel_rfl) (fun _ _ _ h => h) (Or.inl ⟨by kernel_rfl, ?_⟩) (by assumption) ?_
                case refine_1 => (intro Wz hSw; go_simp; try with_reducible rfl)
                try simp only [Act.put, List.getElem_toArray, List.getElem_cons_succ, List.getElem_cons_zero, List.setIfInBounds_toArray, List.set_cons_zero, List.set_cons_succ]
                refine wpAnyH_take (i := 97) (v := ?_) rfl (by kernel_rfl) (by kernel_rfl) (by kernel_rfl) (fun _ _ _ h => h) (Or.inl ⟨by kernel_rfl, ?_⟩) (by assumption) ?_
                case refine_2 => (intro Wz hSw; go_simp; try with_reducible rfl)
                try simp only [Act.put, List.getElem_toArray, List.getElem_cons_succ, List.getElem_cons_zero, List.setIfInBounds_toArray, List.set_cons_zero, List.set_cons_succ]
                refine wpAnyH_done (by kernel_rfl) ?_ _
                clear hHeld17
                go_wp2_with fail
                go_ret
                exact ⟨rfl, HB17.out⟩

theorem own_to (l : List (Bs × Bs)) {f : Nat} {args : Array Value} {W : World} (h : Calls Tryz.prog f args W (OwnPost l W)) : Calls Tryz.prog f args W fun e w' => ∃ v', e = .returned v' ∧ IsFlds w' v' l ∧ Below W.heap.size W w' := by
  refine h.mono ?_
  rintro e w' ⟨v', rfl, ho, hb⟩
  exact ⟨v', rfl, isFlds_own ho, hb⟩
theorem fw_yes {M T : ByteArray} {s : Int} {R : ByteArray} {mi : Int} {B : ByteArray} {l : List (Bs × Bs)} {N : Bs} {f : Nat} {args : Array Value} {W : World} (ht : tokB N = true) (h : Calls Tryz.prog f args W (FwPost M T s R mi B l N W)) :
    Calls Tryz.prog f args W fun e w' => ∃ a c, e = .returned (.tuple #[.agg #[.string M, .string T, .int .i64 s, .string R, .int .i64 1, .slice a (forwL (bs M) l mi N).length c, .string B, .slice none 0 0], .int .i64 0]) ∧ IsFlds w' (.slice a (forwL (bs M) l mi N).length c) (forwL (bs M) l mi N) ∧ Below W.heap.size W w' := by
  refine h.mono ?_
  rintro e w' ⟨hb, h2⟩
  rw [if_pos ht] at h2
  obtain ⟨v', rfl, ho⟩ := h2
  have hf := isFlds_own ho
  obtain ⟨a, c, hv, -⟩ := isFlds_own ho
  subst hv
  exact ⟨a, c, rfl, hf, hb⟩
theorem fw_no {M T : ByteArray} {s : Int} {R : ByteArray} {mi : Int} {B : ByteArray} {l : List (Bs × Bs)} {N : Bs} {f : Nat} {args : Array Value} {W : World} (ht : tokB N = false) (h : Calls Tryz.prog f args W (FwPost M T s R mi B l N W)) :
    Calls Tryz.prog f args W fun e w' => ∃ a c, e = .returned (.tuple #[.agg #[.string ⟨#[]⟩, .string ⟨#[]⟩, .int .i64 0, .string ⟨#[]⟩, .int .i64 0, .slice a ([] : List (Bs × Bs)).length c, .string ⟨#[]⟩, .slice none 0 0], .int .i64 4]) ∧ IsFlds w' (.slice a ([] : List (Bs × Bs)).length c) [] ∧ Below W.heap.size W w' := by
  refine h.mono ?_
  rintro e w' ⟨hb, h2⟩
  rw [if_neg (by simp [ht])] at h2
  subst h2
  exact ⟨none, 0, rfl, ⟨none, 0, rfl, Nat.le_refl _, fun j f hj => by simp at hj⟩, hb⟩

theorem hc_sum_set (name x : Bs) (l : List (Bs × Bs)) : (setF name x l).length ≤ l.length + 1 := by
  rw [set_len]
  have := delF_len name l
  omega
theorem hc_forw (m : Bs) (l : List (Bs × Bs)) (minor : Int) (n : Bs) : (forwL m l minor n).length ≤ l.length + 2 := by
  have h1 := len_kept m l
  have h2 := hc_sum_set viB (viaV (keptL m l) minor n) (keptL m l)
  unfold forwL viaL
  omega

theorem hopcalls_any (M T : ByteArray) (s : Int) (R : ByteArray) (mi : Int) (vf : Value) (B : ByteArray) (vt : Value) (l tl : List (Bs × Bs)) (N : Bs) (minor : Int) (w : World)
    (hs : IsFlds w vf l) (hnl : ∀ n c, vf = .slice none n c → c = 0) (ht : IsFlds w vt tl) (hz : SizedF l) (hzt : SizedF tl) (hM : M.size ≤ 140737488351232) (hT : T.size ≤ 140737488351232) (hR : R.size ≤ 140737488351232) (hB : B.size ≤ 140737488351232)
    (hTn : TenH w) (hmi : -9223372036854775808 ≤ mi ∧ mi ≤ 9223372036854775807) (hmn : -9223372036854775808 ≤ minor ∧ minor ≤ 9223372036854775807) :
    Calls Tryz.prog 3 #[.agg (msgC M T s R mi vf B vt), .string (mkS N), .int .i64 minor] w fun e w' => e = .returned (.bool true) ∧ Below w.heap.size w w' := by
  obtain ⟨a1, k1, hv1⟩ : ∃ a cap, vf = .slice a l.length cap := by obtain ⟨a, c, h, -⟩ := hs; exact ⟨a, c, h⟩
  obtain ⟨a2, k2, hv2⟩ : ∃ a cap, vt = .slice a tl.length cap := by obtain ⟨a, c, h, -⟩ := ht; exact ⟨a, c, h⟩
  subst hv1 hv2
  have hLv := fun (W : World) (_ : Below w.heap.size w W) => lives07_any W
  have hLt := fun (W : World) (hb : Below w.heap.size w W) => light07_any M T s R mi _ B _ l tl W (isFlds_below hs hb) (isFlds_below ht hb) hz hzt hM hT hR hB
  by_cases hc : lightM M T R B l tl = true ∧ (mkS N).size ≤ 100
  · obtain ⟨hd, hN⟩ := hc
    have hN2 : N.length ≤ 100 := by rw [← size_mkS N]; exact hN
    obtain ⟨⟨h1, h2, h3, h4⟩, ⟨h5, h6⟩, h7, h8⟩ := lightM_parts M T R B l tl hd
    have hdm := digI_len mi hmi.1 hmi.2
    have hdn := digI_len minor hmn.1 hmn.2
    have hIm := fun (W : World) (hb : Below w.heap.size w W) => itoaG_any mi W (hTn.later hb) hmi.1 hmi.2
    have hIn := fun (W : World) (hb : Below w.heap.size w W) => itoaG_any minor W (hTn.later hb) hmn.1 hmn.2
    have hF1 := fun (W : World) (hb : Below w.heap.size w W) => forward_any M T s R mi _ B (.slice a2 tl.length k2) l N W (isFlds_below hs hb) hnl (by omega) (by omega) (by omega) (by omega) (by omega) (by omega) (by omega) hdm (fun W' hb' => hIm W' (hb.trans (hb'.mono hb.size)))
    have hF2 := fun (W : World) (hb : Below w.heap.size w W) => rforward_any M T s R mi _ B (.slice a2 tl.length k2) l N W (isFlds_below hs hb) (by omega) (by omega) (by omega) hmi.1 hmi.2
    have hls : (stripL l).length ≤ 1000000 := Nat.le_trans (wipe_len _ _) (by omega)
    have hlf := hc_forw (bs M) l mi N
    have hlv : (viaL l minor N).length ≤ 1000000 := Nat.le_trans (hc_sum_set _ _ _) (by omega)
    have go : ∀ (A0 A1 A3 A6 : ByteArray) (A2 A4 E : Int) (FF : List (Bs × Bs)), FF.length ≤ 1000000 →
        (∀ W, Below w.heap.size w W → Calls Tryz.prog 10 #[.agg (msgC M T s R mi (.slice a1 l.length k1) B (.slice a2 tl.length k2)), .string (mkS N)] W fun e w' => ∃ a c, e = .returned (.tuple #[.agg #[.string A0, .string A1, .int .i64 A2, .string A3, .int .i64 A4, .slice a FF.length c, .string A6, .slice none 0 0], .int .i64 E]) ∧ IsFlds w' (.slice a FF.length c) FF ∧ Below W.heap.size W w') →
        (∀ W, Below w.heap.size w W → Calls Tryz.prog 11 #[.agg (msgC M T s R mi (.slice a1 l.length k1) B (.slice a2 tl.length k2)), .string (mkS N)] W fun e w' => ∃ a c, e = .returned (.tuple #[.agg #[.string A0, .string A1, .int .i64 A2, .string A3, .int .i64 A4, .slice a FF.length c, .string A6, .slice none 0 0], .int .i64 E]) ∧ IsFlds w' (.slice a FF.length c) FF ∧ Below W.heap.size W w') →
        Calls Tryz.prog 3 #[.agg (msgC M T s R mi (.slice a1 l.length k1) B (.slice a2 tl.length k2)), .string (mkS N), .int .i64 minor] w fun e w' => e = .returned (.bool true) ∧ Below w.heap.size w w' := by
      intro A0 A1 A3 A6 A2 A4 E FF hFF g1 g2
      exact hc_walk M T s R mi a1 l.length k1 B a2 tl.length k2 (mkS N) minor A0 A1 A3 A6 A2 A4 E FF (stripL l) (viaL l minor N) _ _ _ w hd hN hFF hls hlv (Lib.hid hLv) (Lib.hid hLt) (Lib.hid g1) (Lib.hid g2)
        (Lib.hid fun W v1 v2 L hL f1 f2 => ksame_self v1 v2 L W f1 f2 (by omega))
        (Lib.hid fun W _ => hop_any N W (by omega)) (Lib.hid fun W _ => rhop_any N W (by omega))
        (Lib.hid fun W hb => own_to _ (strip_any _ l W (isFlds_below hs hb) hnl (by omega) (by omega))) (Lib.hid fun W hb => own_to _ (rstrip_any _ l W (isFlds_below hs hb) (by omega) (by omega)))
        (Lib.hid fun W hb => own_to _ (via_any _ l minor N W (isFlds_below hs hb) (by omega) (by omega) (by omega) hdn (hIn W hb))) (Lib.hid fun W hb => own_to _ (rvia_any _ l minor N W (isFlds_below hs hb) (by omega) (by omega) (by omega) hmn.1 hmn.2))
        (Lib.hid fun W hb => closes_any M T s R mi _ B _ l W (isFlds_below hs hb) (by omega) (by omega)) (Lib.hid fun W hb => rcloses_any M T s R mi _ B _ l W (isFlds_below hs hb) (by omega) (by omega))
    cases htk : tokB N
    · exact go _ _ _ _ _ _ _ [] (by simp) (fun W hb => fw_no htk (hF1 W hb)) (fun W hb => fw_no htk (hF2 W hb))
    · exact go _ _ _ _ _ _ _ (forwL (bs M) l mi N) (by omega) (fun W hb => fw_yes htk (hF1 W hb)) (fun W hb => fw_yes htk (hF2 W hb))
  · refine hc_light M T s R mi a1 l.length k1 B a2 tl.length k2 (mkS N) minor (lightM M T R B l tl) w (Lib.hid hLv) (Lib.hid hLt) ?_
    cases h : lightM M T R B l tl
    · exact .inl rfl
    · exact .inr fun hN => hc ⟨h, hN⟩
end Tk
end Go.Proofs.YtdlbmfgajgefdaaGreatDoor
