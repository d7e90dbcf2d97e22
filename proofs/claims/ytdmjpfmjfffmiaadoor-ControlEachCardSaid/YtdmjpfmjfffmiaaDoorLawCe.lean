/- ControlEach: each value alone gives its part of what all give; names are tokens in lower case; a name alone sets no truth that all together do not set. -/
import Derived.Test.YtdmjpfmjfffmiaaDoorLawCb
import Derived.Test.YtdmjpfmjfffmiaaDoorCtN
import Derived.Test.YtdmjpfmjfffmiaaDoorRefT
import Derived.Test.YtdmjpfmjfffmiaaDoorRefL
import Derived.Deep.Cut
namespace Go.Proofs.YtdmjpfmjfffmiaaDoor
open Go.RowKit
namespace Tk

section
variable {P : Program} {ops : Array Oper} {rest : List Oper} {o : Oper} {a : Act} {w : World} {Q : Exit → Act → World → Prop}
theorem wpE_val {K : Act → World → Prop} (v : Value) (h : (execOp a.eval o).run P w = .ok (.value v) w) (k : K (a.put o.dst v) w) : o.wp P a w K Q := by
  unfold Oper.wp
  rw [h]
  exact k
theorem wplE_val (hg : o.guard = none) (v : Value) (h : (execOp a.eval o).run P w = .ok (.value v) w) (k : wpList P ops Q rest (a.put o.dst v) w) : wpList P ops Q (o :: rest) a w :=
  wpList_plain hg fun _ hK => wpE_val v h (hK _ _ k)
theorem wplE_on (hw : Region.wanted o (yielded ops a.tmps) = true) (v : Value) (h : (execOp a.eval o).run P w = .ok (.value v) w) (k : wpList P ops Q rest (a.put o.dst v) w) : wpList P ops Q (o :: rest) a w :=
  BigFrame.wpList_want hw fun _ hK => wpE_val v h (hK _ _ k)
end

theorem pairs_take (L : List Bs) (i : Nat) (h : i < L.length) : pairsL (L.take (i + 1)) = pairsL (L.take i) ++ pairsL [L.getD i []] := by
  unfold pairsL
  rw [dirs_take L i h, List.map_append]
  unfold dirsL
  rw [List.flatMap_cons, List.flatMap_nil, List.append_nil]
theorem pairs_all (L : List Bs) (i : Nat) (h : i < L.length) : ∃ R, pairsL L = pairsL (L.take i) ++ (pairsL [L.getD i []] ++ R) := by
  refine ⟨pairsL (L.drop (i + 1)), ?_⟩
  rw [← List.append_assoc, ← pairs_take L i h]
  unfold pairsL dirsL
  rw [← List.map_append, ← List.flatMap_append, List.take_append_drop]
theorem mid_part {α : Type} (A B C : List α) : ((A ++ (B ++ C)).drop A.length).take B.length = B := by simp

def partV (a : Option Addr) (c i k : Nat) : Value := .slice (if c = i then a else a.map fun p => p.add (i * 2)) k (c - i)
theorem isPrs_part {w : World} {a : Option Addr} {c : Nat} {A B C : List (Bs × Bs)} (h : IsPrs w (.slice a (A ++ (B ++ C)).length c) (A ++ (B ++ C))) : IsPrs w (partV a c A.length B.length) B := by
  obtain ⟨a', c', e, hc, hcs⟩ := h
  injection e with e1 _ e3
  subst e1 e3
  simp only [List.length_append] at hc
  refine ⟨_, _, rfl, by omega, fun j f hj => ?_⟩
  have hjl : j < B.length := (List.getElem?_eq_some_iff.1 hj).1
  obtain ⟨b, o, rfl, h1, h2⟩ := hcs (A.length + j) f (by rw [List.getElem?_append_right (by omega), Nat.add_sub_cancel_left, List.getElem?_append_left hjl]; exact hj)
  have hne : ¬ c = A.length := by omega
  rw [if_neg hne]
  refine ⟨b, o + A.length * 2, by simp [Go.WideShapes.add_plain], ?_, ?_⟩
  · rw [show o + A.length * 2 + j * 2 = o + (A.length + j) * 2 by omega]; exact h1
  · rw [show o + A.length * 2 + j * 2 + 1 = o + (A.length + j) * 2 + 1 by omega]; exact h2
theorem exec_pairs {ρ : Operand → Value} {o : Oper} {w : World} (x l h : Operand) (ho : o.op = .slice 40 x (some l) (some h) none) {a : Option Addr} (n c i k : Nat)
    (hx : ρ x = .slice a n c) (hl : ρ l = .int .i64 (i : Int)) (hh : ρ h = .int .i64 ((i : Int) + (k : Int))) (hc : i + k ≤ c) :
    (execOp ρ o).run Tryd.prog w = .ok (.value (partV a c i k)) w := by
  have h1 : (0 : Int) ≤ (i : Int) := by omega
  have h2 : (i : Int) + (k : Int) ≤ (c : Int) := by omega
  have h3 : (0 : Int) ≤ (i : Int) + (k : Int) := by omega
  have h4 : ((i : Int) + (k : Int)).toNat = i + k := by omega
  have h5 : (i : Int) ≤ (i : Int) + (k : Int) := by omega
  have h8 : i + k - i = k := by omega
  have hrun : (Instr.slice 40 (.slice a n c) (some (.int .i64 (i : Int))) (some (.int .i64 ((i : Int) + (k : Int)))) none).run Tryd.prog w = .ok (partV a c i k) w := by
    simp [Instr.slice, run_underlying Tryd.underlying40, Instr.sliceBounds, Instr.sliceBound, asIntOf, go_sem, h1, h2, h3, h4, h8, Tryd.sizeOf46, partV]
  have h6 : (Instr.sliceAt 40 (.slice a n c) (some (.int .i64 (i : Int))) (some (.int .i64 ((i : Int) + (k : Int)))) none).run Tryd.prog w = .ok (partV a c i k) w := by
    unfold Instr.sliceAt
    simp [hrun]
  simp [execOp, ho, hx, hl, hh, h6, Result.andThen]

set_option maxHeartbeats 16000000 in
set_option maxRecDepth 100000 in
theorem each10_any (v : Value) (L : List Bs) (w : World) (hs : IsStrs w v L) (hcap : ∀ a n k, v = .slice a n k → n ≤ k) (hz : ∀ x ∈ L, x.length ≤ 140737488351232) (hl : L.length ≤ 140737488351232) :
    Calls Tryd.prog 7 #[v] w fun e w' => e = .returned (.bool true) ∧ Below w.heap.size w w' := by
  have HLv : Hid (∀ W : World, Calls Tryd.prog 19 #[] W fun e w' => e = .returned (.bool true) ∧ Below W.heap.size W w') := lives10_any
  have HLt : Hid (∀ W : World, Below w.heap.size w W → Calls Tryd.prog 27 #[v, .int .i64 20, .int .i64 600] W fun e w' => e = .returned (.bool (lightX 20 600 L)) ∧ W = w') := fun W hb => lightX_any 20 600 v L W (by decide) (by decide) (isStrsC_below hs hb) hz hl
  have HS := Lib.hid hs
  obtain ⟨a, cap, rfl⟩ : ∃ a cap, v = .slice a L.length cap := by obtain ⟨a, c, h, -⟩ := hs; exact ⟨a, c, h⟩
  have hcp : L.length ≤ cap := hcap a L.length cap rfl
  clear hs hcap hz hl
  cases hlx : lightX 20 600 L
  · rw [hlx] at HLt
    clear hlx
    go_enter Tryd.func7, Tryd.ntmps7
    go_wp2_with fail
    refine (HLv.out _).mono ?_
    rintro e w1 ⟨rfl, hb1⟩
    have HB1 := Lib.hid hb1
    clear hb1
    go_wp2_with fail
    refine (HLt.out _ HB1.out).mono ?_
    rintro e w2 ⟨rfl, rfl⟩
    go_wp2_with fail
    go_ret
    exact ⟨rfl, HB1.out⟩
  · rw [hlx] at HLt
    obtain ⟨hl20, hl6, hx600⟩ := light_lens hlx
    have HZ := Lib.hid hx600
    have hpl : (pairsL L).length ≤ 620 := by unfold pairsL; rw [List.length_map]; have := dirsL_len L; omega
    have HEa : Hid (∀ W : World, Below w.heap.size w W → Calls Tryd.prog 22 #[.slice a L.length cap] W (EachedPost L W)) := fun W hb => leach_any _ L W (isStrsC_below HS.out hb) (fun x hx => by have := HZ.out x hx; omega) (by omega) (by omega)
    have HPl : Hid (∀ W : World, Below w.heap.size w W → Calls Tryd.prog 20 #[.slice a L.length cap] W fun e w' => e = .returned (.agg (ctlA (parseL L))) ∧ Below W.heap.size W w') := fun W hb => parse_any _ L W (isStrsC_below HS.out hb) (by omega) (fun x hx => by have := HZ.out x hx; omega)
    have HEp : Hid (∀ (i : Nat) (W : World), i < L.length → Below w.heap.size w W → ∃ b o, a = some ⟨b, o, none⟩ ∧ Calls Tryd.prog 22 #[.slice (some ⟨b, o + i, none⟩) 1 (cap - i)] W (EachedPost [L.getD i []] W)) := fun i W hi hb => by
      obtain ⟨b, o, ha, hst⟩ := isStrs_part (isStrsC_below HS.out hb) i hi
      have hx : (L.getD i []).length ≤ 600 := HZ.out _ (by simp [List.getD, hi])
      have h2 : ∀ x : Bs, x.length ≤ 600 → (pairsL [x]).length ≤ 700 := fun x hx => by
        unfold pairsL; rw [List.length_map]; have := dirsL_len [x]
        simp [Lib.lens] at this
        omega
      exact ⟨b, o, ha, leach_any _ [L.getD i []] W hst (fun x hx => by
        rw [List.mem_singleton] at hx
        subst hx; omega) (by simp) (h2 _ hx)⟩
    have HNm : Hid (∀ i, i < (pairsL L).length → tokB ((pairsL L).getD i ([], [])).1 = true ∧ lowL ((pairsL L).getD i ([], [])).1 = ((pairsL L).getD i ([], [])).1 ∧ ((pairsL L).getD i ([], [])).1.length ≤ 600 ∧
        ((parseL [((pairsL L).getD i ([], [])).1]).b0 = true → (parseL L).b0 = true) ∧ ((parseL [((pairsL L).getD i ([], [])).1]).b1 = true → (parseL L).b1 = true) ∧ ((parseL [((pairsL L).getD i ([], [])).1]).b7 = true → (parseL L).b7 = true) ∧ ((parseL [((pairsL L).getD i ([], [])).1]).b8 = true → (parseL L).b8 = true)) := fun i hi => by
      obtain ⟨d, hd, he⟩ : ∃ d ∈ dirsL L, (d.1, d.2.1) = (pairsL L).getD i ([], []) := by
        have hm : (pairsL L).getD i ([], []) ∈ pairsL L := by simp [List.getD, hi]
        obtain ⟨d, hd, he⟩ := List.mem_map.1 hm
        exact ⟨d, hd, he⟩
      rw [← he]
      exact ⟨(dirsL_name L d hd).1, (dirsL_name L d hd).2, (dirsL_bound L 600 HZ.out d hd).1, parse_flags L d hd⟩
    have HPt : Hid (∀ i, i < L.length → ∃ R, pairsL L = pairsL (L.take i) ++ (pairsL [L.getD i []] ++ R)) := pairs_all L
    have HTk : Hid (∀ i, i < L.length → pairsL (L.take (i + 1)) = pairsL (L.take i) ++ pairsL [L.getD i []]) := pairs_take L
    clear hlx hl6 hx600
    unfold EachedPost at HEa HEp
    go_enter Tryd.func7, Tryd.ntmps7
    go_wp2_with fail
    refine (HLv.out _).mono ?_
    rintro e w1 ⟨rfl, hb1⟩
    have HB1 := Lib.hid hb1
    clear hb1
    go_wp2_with fail
    refine (HLt.out _ HB1.out).mono ?_
    rintro e w2 ⟨rfl, rfl⟩
    go_wp2_with fail
    refine (HEa.out _ HB1.out).mono ?_
    rintro e w3 ⟨v3, rfl, ho3, hb3⟩
    have HI3 := Lib.hid (isPrs_own ho3)
    obtain ⟨a2, c2, rfl, hc2⟩ : ∃ a2 c2, v3 = .slice a2 (pairsL L).length c2 ∧ (pairsL L).length ≤ c2 := by obtain ⟨a2, c2, h, h2, -⟩ := isPrs_own ho3; exact ⟨a2, c2, h, h2⟩
    have HB3 := Lib.hid (HB1.out.trans (hb3.mono HB1.out.size))
    clear hb3 ho3
    go_wp2_with fail
    go_loopw [5, 6] (fun va vi wr => ∃ i : Nat, i ≤ L.length ∧ vi = .int .i64 i ∧ va = .int .i64 ((pairsL (L.take i)).length : Int) ∧ Hid (Below w.heap.size w wr) ∧ Hid (IsPrs wr (.slice a2 (pairsL L).length c2) (pairsL L))) (fun _ vi _ => L.length - (RowKit.intOf vi).toNat)
    case atStart => exact ⟨0, Nat.zero_le _, rfl, rfl, HB3, HI3⟩
    case round =>
      obtain ⟨i, hi, rfl, rfl, HB, HI⟩ := hrel
      rename World => W
      by_cases hlt : i < L.length
      · obtain ⟨b, o, ha, hcall⟩ := HEp.out i W hlt HB.out
        obtain ⟨R, hR⟩ := HPt.out i hlt
        have HT1 := Lib.hid (HTk.out i hlt)
        have HA := Lib.hid ha
        have HCall := Lib.hid hcall
        have HR := Lib.hid hR
        have hlen : (pairsL (L.take i)).length + (pairsL [L.getD i []]).length ≤ (pairsL L).length := by rw [hR]; simp only [List.length_append]; omega
        have hlen2 : (pairsL (L.take (i + 1))).length = (pairsL (L.take i)).length + (pairsL [L.getD i []]).length := by rw [HT1.out, List.length_append]
        clear ha hcall hR
        generalize hp1 : pairsL (L.take i) = P1 at *
        generalize hp2 : pairsL [L.getD i []] = P2 at *
        have hw1 : IntKind.i64.wrap ((i : Int) + 1) = (i : Int) + 1 := IntWalk.i64_in _ (by omega)
        have hw2 : IntKind.i64.wrap ((P1.length : Int) + (P2.length : Int)) = (P1.length : Int) + (P2.length : Int) := IntWalk.i64_in _ (by omega)
        have hq : ¬ (((pairsL L).length : Int) < (P1.length : Int) + (P2.length : Int)) := by omega
        have hlt2 : (i : Int) < (L.length : Int) := by omega
        go_wp2_with (refine wplE_val rfl (.slice (some ⟨b, o + i, none⟩) 1 (cap - i)) (exec_part _ _ _ rfl L.length cap i rfl rfl rfl HA.out hlt hcp) ?_)
        refine (HCall.out).mono ?_
        rintro e w7 ⟨v7, rfl, ho7, hb7⟩
        have HI7 := Lib.hid (isPrs_own ho7)
        obtain ⟨a7, c7, rfl⟩ : ∃ a7 c7, v7 = .slice a7 P2.length c7 := by obtain ⟨a2, c2, h, h2, -⟩ := isPrs_own ho7; exact ⟨a2, c2, h⟩
        have HB7 := Lib.hid (HB.out.trans (hb7.mono HB.out.size))
        have HJ7 := Lib.hid (isPrs_below HI.out hb7)
        clear hb7 ho7
        have hj := HJ7.out
        rw [HR.out] at hj
        have HK7 := Lib.hid (isPrs_part hj)
        clear hj
        clear hp1 hp2
        go_upto_region 13 with fail
        refine wp_region_lit ?_
        refine wplE_val (by rfl) (.bool true) (by go_simp) ?_
        simp only [Act.put, List.setIfInBounds_toArray, List.set_cons_zero, List.set_cons_succ]
        refine wplE_val (by rfl) (.bool false) (by go_simp) ?_
        simp only [Act.put, List.setIfInBounds_toArray, List.set_cons_zero, List.set_cons_succ]
        refine wplE_val (by rfl) (.bool false) (by go_simp) ?_
        simp only [Act.put, List.setIfInBounds_toArray, List.set_cons_zero, List.set_cons_succ]
        refine wplE_on (by rfl) (.int .i64 (P1.length : Int)) (by go_simp) ?_
        simp only [Act.put, List.setIfInBounds_toArray, List.set_cons_zero, List.set_cons_succ]
        refine wplE_on (by rfl) (.slice a7 P2.length c7) (by go_simp) ?_
        simp only [Act.put, List.setIfInBounds_toArray, List.set_cons_zero, List.set_cons_succ]
        refine wplE_on (by rfl) (.int .i64 (P2.length : Int)) (by go_simp) ?_
        simp only [Act.put, List.setIfInBounds_toArray, List.set_cons_zero, List.set_cons_succ]
        refine wplE_on (by rfl) (.int .i64 ((P1.length : Int) + (P2.length : Int))) (by go_simp) ?_
        simp only [Act.put, List.setIfInBounds_toArray, List.set_cons_zero, List.set_cons_succ]
        refine wplE_on (by rfl) (.slice a2 (pairsL L).length c2) (by go_simp) ?_
        simp only [Act.put, List.setIfInBounds_toArray, List.set_cons_zero, List.set_cons_succ]
        refine wplE_on (by rfl) (.int .i64 ((pairsL L).length : Int)) (by go_simp) ?_
        simp only [Act.put, List.setIfInBounds_toArray, List.set_cons_zero, List.set_cons_succ]
        refine wplE_on (by rfl) (.bool false) (by go_simp) ?_
        simp only [Act.put, List.setIfInBounds_toArray, List.set_cons_zero, List.set_cons_succ]
        refine wplE_val (by rfl) (.bool false) (by go_simp) ?_
        simp only [Act.put, List.setIfInBounds_toArray, List.set_cons_zero, List.set_cons_succ]
        refine wplE_val (by rfl) (.bool false) (by go_simp) ?_
        simp only [Act.put, List.setIfInBounds_toArray, List.set_cons_zero, List.set_cons_succ]
        refine wplE_on (by rfl) (.slice a7 P2.length c7) (by go_simp) ?_
        simp only [Act.put, List.setIfInBounds_toArray, List.set_cons_zero, List.set_cons_succ]
        refine wplE_on (by rfl) (.slice a2 (pairsL L).length c2) (by go_simp) ?_
        simp only [Act.put, List.setIfInBounds_toArray, List.set_cons_zero, List.set_cons_succ]
        refine wplE_on (by rfl) (.int .i64 (P1.length : Int)) (by go_simp) ?_
        simp only [Act.put, List.setIfInBounds_toArray, List.set_cons_zero, List.set_cons_succ]
        refine wplE_on (by rfl) (.int .i64 (P1.length : Int)) (by go_simp) ?_
        simp only [Act.put, List.setIfInBounds_toArray, List.set_cons_zero, List.set_cons_succ]
        refine wplE_on (by rfl) (.slice a7 P2.length c7) (by go_simp) ?_
        simp only [Act.put, List.setIfInBounds_toArray, List.set_cons_zero, List.set_cons_succ]
        refine wplE_on (by rfl) (.int .i64 (P2.length : Int)) (by go_simp) ?_
        simp only [Act.put, List.setIfInBounds_toArray, List.set_cons_zero, List.set_cons_succ]
        refine wplE_on (by rfl) (.int .i64 ((P1.length : Int) + (P2.length : Int))) (by go_simp) ?_
        simp only [Act.put, List.setIfInBounds_toArray, List.set_cons_zero, List.set_cons_succ]
        refine wplE_on (by rfl) (partV a2 c2 P1.length P2.length) (exec_pairs _ _ _ rfl (pairsL L).length c2 P1.length P2.length rfl rfl rfl (by omega)) ?_
        simp only [Act.put, List.setIfInBounds_toArray, List.set_cons_zero, List.set_cons_succ]
        generalize hpv : partV a2 c2 P1.length P2.length = vp at *
        go_wp2_with fail
        refine (psame_self _ _ P2 _ HI7.out HK7.out (by omega)).mono ?_
        rintro e w8 ⟨rfl, hb8⟩
        have HB8 := Lib.hid (HB7.out.trans (hb8.mono HB7.out.size))
        have HI8 := Lib.hid (isPrs_below HJ7.out hb8)
        clear hb8
        go_wp2_with fail
        go_roundw
        case rel => exact ⟨i + 1, hlt, by go_num, by rw [hlen2]; go_num, HB8, HI8⟩
        case measure => simp [RowKit.intOf]; omega
      · obtain rfl : i = L.length := by omega
        rw [List.take_length]
        have hlt3 : ¬ (L.length : Int) < (L.length : Int) := by omega
        go_wp2_with fail
        refine (HPl.out _ HB.out).mono ?_
        rintro e w5 ⟨rfl, hb5⟩
        have hB5 := HB.out.trans (hb5.mono HB.out.size)
        have HI5 := Lib.hid (isPrs_below HI.out hb5)
        have hx5 : Bx (w5.alloc (.cells #[.int .i64 0, .int .i64 0, .int .i64 0, .int .i64 0, .int .i64 0, .int .i64 0, .bool false, .bool false, .bool false, .bool false, .bool false, .bool false, .bool false, .bool false, .bool false] 36)) w5.heap.size 36 (ctlA zeroC) := Bx.new w5 36 (ctlA zeroC)
        have hBa : Below w.heap.size w (w5.alloc (.cells #[.int .i64 0, .int .i64 0, .int .i64 0, .int .i64 0, .int .i64 0, .int .i64 0, .bool false, .bool false, .bool false, .bool false, .bool false, .bool false, .bool false, .bool false, .bool false] 36)) := hB5.alloc hB5.size _
        have hB0 := below_setRowC (below_allocC w5 (.cells #[.int .i64 0, .int .i64 0, .int .i64 0, .int .i64 0, .int .i64 0, .int .i64 0, .bool false, .bool false, .bool false, .bool false, .bool false, .bool false, .bool false, .bool false, .bool false] 36)) (ctlA (parseL L)) (Nat.le_refl _)
        have HI6 := Lib.hid (isPrs_below HI5.out hB0)
        have hg5 : w.heap.size ≤ w5.heap.size := hB5.size
        clear hb5 hB5 hB0 hlt3
        go_wp2_with (refine wpListC_store_row rfl _ _ _ rfl w5.heap.size _ (ctlA zeroC) (ctlA (parseL L)) rfl rfl hx5 (ctl_size _) rfl (ctl_one _) ?_)
        have hx6 := hx5.row (cs := ctlA (parseL L))
        have hB6 := below_setRowC hBa (ctlA (parseL L)) hg5
        generalize (w5.alloc (.cells #[.int .i64 0, .int .i64 0, .int .i64 0, .int .i64 0, .int .i64 0, .int .i64 0, .bool false, .bool false, .bool false, .bool false, .bool false, .bool false, .bool false, .bool false, .bool false] 36)).setRow w5.heap.size (ctlA (parseL L)) = w6 at *
        generalize w5.heap.size = gx at *
        have HX6 := Lib.hid hx6
        have HB6 := Lib.hid hB6
        clear hx5 hBa hx6 hB6 HI5
        generalize parseL L = pl at *
        go_loopw [10] (fun vi wr => ∃ i : Nat, i ≤ (pairsL L).length ∧ vi = .int .i64 i ∧ Hid (Below w.heap.size w wr) ∧ Hid (IsPrs wr (.slice a2 (pairsL L).length c2) (pairsL L)) ∧ Hid (Bx wr gx 36 (ctlA pl))) (fun vi _ => (pairsL L).length - (RowKit.intOf vi).toNat)
        case atStart => exact ⟨0, Nat.zero_le _, rfl, HB6, HI6, HX6⟩
        case round =>
          obtain ⟨i, hi, rfl, HB, HI, HX⟩ := hrel
          rename World => W
          by_cases hlt : i < (pairsL L).length
          · obtain ⟨ht, hlw, hn6, f0, f1, f7, f8⟩ := HNm.out i hlt
            obtain ⟨a', c', e', -, hcs⟩ := HI.out
            injection e' with e1 _ e3
            subst e1 e3
            obtain ⟨b2, o2, rfl, hc0, -⟩ := hcs i ((pairsL L).getD i ([], [])) (by simp [List.getD, hlt])
            clear hcs
            generalize (pairsL L).getD i ([], []) = d at *
            obtain ⟨n, x⟩ := d
            simp only at ht hlw hn6 f0 f1 f7 f8 hc0
            have HTo : Hid (∀ W2 : World, Calls Tryd.prog 31 #[.string (mkS n)] W2 fun e w' => e = .returned (.bool true) ∧ W2 = w') := fun W2 => by
              have h := rToken_any (mkS n) W2 (by rw [size_mkS]; omega)
              rw [bs_mkS, ht] at h
              exact h
            have HLo : Hid (∀ W2 : World, Calls Tryd.prog 32 #[.string (mkS n)] W2 fun e w' => e = .returned (.string (mkS n)) ∧ Below W2.heap.size W2 w') := fun W2 => by
              have h := refLower_any (mkS n) W2 (by rw [size_mkS]; omega)
              rw [bs_mkS, hlw] at h
              exact h
            have HPn : Hid (∀ W2 : World, Calls Tryd.prog 20 #[.slice (some ⟨W2.heap.size, 0, none⟩) 1 1] (W2.alloc (.cells #[.string (mkS n)] 9)) fun e w' => e = .returned (.agg (ctlA (parseL [n]))) ∧ Below W2.heap.size W2 w') := fun W2 => parse1_any n W2 (by omega)
            have g0 : (0 : Int) ≤ (i : Int) := by omega
            have g1 : (i : Int) < ((pairsL L).length : Int) := by omega
            clear ht hlw hn6
            generalize parseL [n] = pz at *
            go_wp2_with fail
            refine (HTo.out _).mono ?_
            rintro e w7 ⟨rfl, rfl⟩
            go_wp2_with fail
            refine (HLo.out _).mono ?_
            rintro e w8 ⟨rfl, hb8⟩
            have HB8 := Lib.hid (HB.out.trans (hb8.mono HB.out.size))
            have HI8 := Lib.hid (isPrs_below HI.out hb8)
            have HX8 := Lib.hid (HX.out.later hb8)
            clear hb8 hc0
            go_wp2_with fail
            refine (HPn.out w8).mono ?_
            rintro e w9 ⟨rfl, hb9⟩
            have HB9 := Lib.hid (HB8.out.trans (hb9.mono HB8.out.size))
            have HI9 := Lib.hid (isPrs_below HI8.out hb9)
            have HX9 := Lib.hid (HX8.out.later hb9)
            have hz9 : Bx (w9.alloc (.cells #[.int .i64 0, .int .i64 0, .int .i64 0, .int .i64 0, .int .i64 0, .int .i64 0, .bool false, .bool false, .bool false, .bool false, .bool false, .bool false, .bool false, .bool false, .bool false] 36)) w9.heap.size 36 (ctlA zeroC) := Bx.new w9 36 (ctlA zeroC)
            have hBb := below_setRowC (below_allocC w9 (.cells #[.int .i64 0, .int .i64 0, .int .i64 0, .int .i64 0, .int .i64 0, .int .i64 0, .bool false, .bool false, .bool false, .bool false, .bool false, .bool false, .bool false, .bool false, .bool false] 36)) (ctlA pz) (Nat.le_refl _)
            clear hb9
            go_upto_region 24 with (refine wpListC_store_row rfl _ _ _ rfl w9.heap.size _ (ctlA zeroC) (ctlA pz) rfl rfl hz9 (ctl_size _) rfl (ctl_one _) ?_)
            have hzA := hz9.row (cs := ctlA pz)
            have HBA := Lib.hid (HB9.out.trans (hBb.mono HB9.out.size))
            have HIA := Lib.hid (isPrs_below HI9.out hBb)
            have HXA := Lib.hid (HX9.out.later hBb)
            generalize (w9.alloc (.cells #[.int .i64 0, .int .i64 0, .int .i64 0, .int .i64 0, .int .i64 0, .int .i64 0, .bool false, .bool false, .bool false, .bool false, .bool false, .bool false, .bool false, .bool false, .bool false] 36)).setRow w9.heap.size (ctlA pz) = wA at *
            generalize w9.heap.size = gz at *
            have ca6 : wA.cell? ⟨gx, 6, none⟩ = some (.bool pl.b0) := HXA.out.cell 6 _ rfl
            have cb6 : wA.cell? ⟨gz, 6, none⟩ = some (.bool pz.b0) := hzA.cell 6 _ rfl
            have ca7 : wA.cell? ⟨gx, 7, none⟩ = some (.bool pl.b1) := HXA.out.cell 7 _ rfl
            have cb7 : wA.cell? ⟨gz, 7, none⟩ = some (.bool pz.b1) := hzA.cell 7 _ rfl
            have ca13 : wA.cell? ⟨gx, 13, none⟩ = some (.bool pl.b7) := HXA.out.cell 13 _ rfl
            have cb13 : wA.cell? ⟨gz, 13, none⟩ = some (.bool pz.b7) := hzA.cell 13 _ rfl
            have ca14 : wA.cell? ⟨gx, 14, none⟩ = some (.bool pl.b8) := HXA.out.cell 14 _ rfl
            have cb14 : wA.cell? ⟨gz, 14, none⟩ = some (.bool pz.b8) := hzA.cell 14 _ rfl
            clear hz9 hBb hzA
            generalize pz.b0 = x0 at *
            generalize pl.b0 = y0 at *
            generalize pz.b1 = x1 at *
            generalize pl.b1 = y1 at *
            generalize pz.b7 = x7 at *
            generalize pl.b7 = y7 at *
            generalize pz.b8 = x8 at *
            generalize pl.b8 = y8 at *
            cases x0 <;> cases x1 <;> cases x7 <;> cases x8
            all_goals
              (first | (have h := f0 rfl; subst h) | skip)
              (first | (have h := f1 rfl; subst h) | skip)
              (first | (have h := f7 rfl; subst h) | skip)
              (first | (have h := f8 rfl; subst h) | skip)
              clear f0 f1 f7 f8
              go_wp2_with fail
              go_roundw
              case rel => exact ⟨i + 1, hlt, by go_num, HBA, HIA, HXA⟩
              case measure => simp [RowKit.intOf]; omega
          · obtain rfl : i = (pairsL L).length := by omega
            have hlt3 : ¬ ((pairsL L).length : Int) < ((pairsL L).length : Int) := by omega
            go_wp2_with fail
            go_ret
            exact ⟨rfl, HB.out⟩
end Tk
end Go.Proofs.YtdmjpfmjfffmiaaDoor
