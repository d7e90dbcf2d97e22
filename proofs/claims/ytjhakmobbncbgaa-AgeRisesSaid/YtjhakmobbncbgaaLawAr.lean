/- AgeRises: ages do not decrease as now or the given age increases; nothing is below 0 or above the greatest value. -/
import Derived.Test.YtjhakmobbncbgaaAgB
import Derived.Deep.Cut
namespace Go.Proofs.Ytjhakmobbncbgaa
open Go.RowKit
namespace Tk
open Fl

theorem retBr {a b : Bool} (h : a = b) : Ending.returned (.bool a) = .returned (.bool b) := by rw [h]

theorem exec_loadA {P : Program} {ρ : Operand → Value} {o : Oper} {w : World} (ty : TypeId) (x : Operand) (ho : o.op = .load ty x) (g : Nat) (t : TypeId) (cs : Array Value) (fr : Nat × Nat) (d : TypeDesc)
    (hx : ρ x = .pointer (some ⟨g, 0, none⟩)) (hg : w.heap[g]? = some (.cells cs t fr)) (hu : P.underlying ty = some d) (hd : (match d with | .struct _ | .array _ _ => true | _ => false) = true) (hi : (P.info? ty).map (·.size) = some cs.size) :
    (execOp ρ o).run P w = .ok (.value (.agg cs)) w := by
  have hrun := run_loadVar_row (P := P) w g t ty cs fr d hg hu hd hi
  simp [execOp, ho, hx, Instr.loadAt, Instr.sureAddr, hrun, Result.andThen]

set_option maxHeartbeats 8000000 in
set_option maxRecDepth 100000 in
theorem rises_core (k n d g now later more u v a b c p x z q G : Int) (w : World)
    (huv : (now < later ∧ ¬ later < now ∧ u = now ∧ v = later) ∨ (now = later ∧ u = now ∧ v = now) ∨ (later < now ∧ ¬ now < later ∧ u = later ∧ v = now))
    (hG : (g < more ∧ more = G) ∨ (¬ g < more ∧ g = G))
    (HU : Hid (∀ W, TmB w.heap.size w.heap.size w k n d g W → Calls Try.prog 8 #[tmV k n d g, .int .i64 u] W fun e w' => e = .returned (.int .i64 a) ∧ TmB w.heap.size w.heap.size w k n d g w'))
    (HV : Hid (∀ W, TmB w.heap.size w.heap.size w k n d g W → Calls Try.prog 8 #[tmV k n d g, .int .i64 v] W fun e w' => e = .returned (.int .i64 b) ∧ TmB w.heap.size w.heap.size w k n d g w'))
    (HN : Hid (∀ W, Calls Try.prog 8 #[tmV k n d g, .int .i64 now] W fun e w' => e = .returned (.int .i64 z) ∧ Below W.heap.size W w'))
    (HC : Hid (∀ W, Calls Try.prog 9 #[tmV k n d g] W fun e w' => e = .returned (.int .i64 c) ∧ Below W.heap.size W w'))
    (HP : Hid (∀ W, Calls Try.prog 10 #[tmV k n d g] W fun e w' => e = .returned (.int .i64 p) ∧ Below W.heap.size W w'))
    (HO : Hid (∀ W, Calls Try.prog 8 #[tmV k n d G, .int .i64 now] W fun e w' => e = .returned (.int .i64 x) ∧ Below W.heap.size W w'))
    (HE : Hid (∀ W, Calls Try.prog 10 #[tmV k n (-1) g] W fun e w' => e = .returned (.int .i64 0) ∧ Below W.heap.size W w'))
    (HF : Hid (∀ W, Calls Try.prog 9 #[tmV k n (-1) g] W fun e w' => e = .returned (.int .i64 q) ∧ Below W.heap.size W w'))
    (f1 : 0 ≤ a) (f2 : b ≤ 2147483648) (f3 : a ≤ b) (f4 : c ≤ a) (f5 : p ≤ c) (f6 : z ≤ x) (f7 : q ≤ c) :
    Calls Try.prog 3 #[tmV k n d g, .int .i64 now, .int .i64 later, .int .i64 more] w fun e w' => e = .returned (.bool true) ∧ Below w.heap.size w w' := by
  have HT := Lib.hid (TmB.new w k n d g)
  have HL := Lib.hid (lives_any (w.alloc (.cells #[.int .i64 k, .int .i64 n, .int .i64 d, .int .i64 g] 23)))
  unfold tmV at *
  rcases huv with ⟨hab, hab2, rfl, rfl⟩ | ⟨rfl, rfl, rfl⟩ | ⟨hab, hab2, rfl, rfl⟩
  all_goals
    go_enter Try.func3, Try.ntmps3
    go_wp2_with fail
    refine HL.out.mono ?_
    rintro e w' ⟨rfl, rfl⟩
    have ht := HT.out.later ((Below.refl _ _).drew) HT.out.2.2.2.2.2.size
    clear HL HT
    generalize (w.alloc (.cells #[.int .i64 k, .int .i64 n, .int .i64 d, .int .i64 g] 23)).drew = w1 at *
    go_upto_region 3 with (fail)
    refine wp_region_held_drew (S := (fun Wz : World => TmB w.heap.size w.heap.size w k n d g Wz)) (by kernel_rfl) (ht.later ((Below.refl _ _).drew) ht.2.2.2.2.2.size) (fun hHeld => ?_)
    refine wpAnyH_take (i := 0) (v := .agg #[.int .i64 k, .int .i64 n, .int .i64 d, .int .i64 g]) rfl (by kernel_rfl) (by kernel_rfl) (by kernel_rfl) (fun _ _ _ h => h) (Or.inl ⟨by kernel_rfl, ?_⟩) (by assumption) ?_
    case refine_1 => exact fun Wz hSw => exec_loadA _ _ (by rfl) w.heap.size 23 _ (0, 0) _ (by rfl) hSw.2.2.2.2.1 Try.underlying23 rfl (by kernel_rfl)
    try simp only [Act.put, List.getElem_toArray, List.getElem_cons_zero, List.setIfInBounds_toArray, List.set_cons_zero, List.set_cons_succ]
    refine wpAnyH_take (i := 1) (v := ?_) rfl (by kernel_rfl) (by kernel_rfl) (by kernel_rfl) (fun _ _ _ h => h) (Or.inl ⟨by kernel_rfl, ?_⟩) (by assumption) ?_
    case refine_2 => (intro Wz hSw; go_simp; try with_reducible rfl)
    try simp only [Act.put, List.getElem_toArray, List.getElem_cons_succ, List.getElem_cons_zero, List.setIfInBounds_toArray, List.set_cons_zero, List.set_cons_succ]
    refine wpAnyH_take (i := 2) (v := ?_) rfl (by kernel_rfl) (by kernel_rfl) (by kernel_rfl) (fun _ _ _ h => h) (Or.inl ⟨by kernel_rfl, ?_⟩) (by assumption) ?_
    case refine_2 => (intro Wz hSw; go_simp; try with_reducible rfl)
    try simp only [Act.put, List.getElem_toArray, List.getElem_cons_succ, List.getElem_cons_zero, List.setIfInBounds_toArray, List.set_cons_zero, List.set_cons_succ]
    refine wpAnyH_take (i := 3) (v := ?_) rfl (by kernel_rfl) (by kernel_rfl) (by kernel_rfl) (fun _ _ _ h => h) (Or.inl ⟨by kernel_rfl, ?_⟩) (by assumption) ?_
    case refine_2 => (intro Wz hSw; (try (have hx : ¬ v < u := by omega)); go_simp; try with_reducible rfl)
    try simp only [Act.put, List.getElem_toArray, List.getElem_cons_succ, List.getElem_cons_zero, List.setIfInBounds_toArray, List.set_cons_zero, List.set_cons_succ]
    refine wpAnyH_take (i := 5) (v := .agg #[.int .i64 k, .int .i64 n, .int .i64 d, .int .i64 g]) rfl (by kernel_rfl) (by kernel_rfl) (by kernel_rfl) (fun _ _ _ h => h) (Or.inl ⟨by kernel_rfl, ?_⟩) (by assumption) ?_
    case refine_1 => exact fun Wz hSw => exec_loadA _ _ (by rfl) w.heap.size 23 _ (0, 0) _ (by rfl) hSw.2.2.2.2.1 Try.underlying23 rfl (by kernel_rfl)
    try simp only [Act.put, List.getElem_toArray, List.getElem_cons_succ, List.getElem_cons_zero, List.setIfInBounds_toArray, List.set_cons_zero, List.set_cons_succ]
    refine wpAnyH_take (i := 6) (v := ?_) rfl (by kernel_rfl) (by kernel_rfl) (by kernel_rfl) (fun _ _ _ h => h) (Or.inl ⟨by kernel_rfl, ?_⟩) (by assumption) ?_
    case refine_2 => (intro Wz hSw; go_simp; try with_reducible rfl)
    try simp only [Act.put, List.getElem_toArray, List.getElem_cons_succ, List.getElem_cons_zero, List.setIfInBounds_toArray, List.set_cons_zero, List.set_cons_succ]
    refine wpAnyH_take (i := 7) (v := ?_) rfl (by kernel_rfl) (by kernel_rfl) (by kernel_rfl) (fun _ _ _ h => h) (Or.inl ⟨by kernel_rfl, ?_⟩) (by assumption) ?_
    case refine_2 => (intro Wz hSw; go_simp; try with_reducible rfl)
    try simp only [Act.put, List.getElem_toArray, List.getElem_cons_succ, List.getElem_cons_zero, List.setIfInBounds_toArray, List.set_cons_zero, List.set_cons_succ]
    refine wpAnyH_take (i := 8) (v := ?_) rfl (by kernel_rfl) (by kernel_rfl) (by kernel_rfl) (fun _ _ _ h => h) (Or.inl ⟨by kernel_rfl, ?_⟩) (by assumption) ?_
    case refine_2 => (intro Wz hSw; (try (have hx : ¬ v < u := by omega)); go_simp; try with_reducible rfl)
    try simp only [Act.put, List.getElem_toArray, List.getElem_cons_succ, List.getElem_cons_zero, List.setIfInBounds_toArray, List.set_cons_zero, List.set_cons_succ]
    refine wpAnyH_ready (rs := [4]) (by kernel_rfl) (by simp) ?_
    refine AllReadyH.cons rfl (fun K hK => ?_) AllReadyH.nil
    go_simp
    refine (HU.out _ hHeld).mono ?_
    rintro e z1 ⟨rfl, hHeld1⟩
    go_simp
    refine hK.out _ _ hHeld1 (fun hHeld2 => ?_)
    clear hK K hHeld2
    try simp only [Act.put, List.getElem_toArray, List.getElem_cons_succ, List.getElem_cons_zero, List.setIfInBounds_toArray, List.set_cons_zero, List.set_cons_succ]
    refine wpAnyH_ready (rs := [9]) (by kernel_rfl) (by simp) ?_
    refine AllReadyH.cons rfl (fun K hK => ?_) AllReadyH.nil
    go_simp
    refine (HV.out _ hHeld1).mono ?_
    rintro e z2 ⟨rfl, hHeld3⟩
    go_simp
    refine hK.out _ _ hHeld3 (fun hHeld2 => ?_)
    clear hK K hHeld2
    try simp only [Act.put, List.getElem_toArray, List.getElem_cons_succ, List.getElem_cons_zero, List.setIfInBounds_toArray, List.set_cons_zero, List.set_cons_succ]
    refine wpAnyH_take (i := 10) (v := ?_) rfl (by kernel_rfl) (by kernel_rfl) (by kernel_rfl) (fun _ _ _ h => h) (Or.inl ⟨by kernel_rfl, ?_⟩) (by assumption) ?_
    case refine_2 => (intro Wz hSw; go_simp; try with_reducible rfl)
    try simp only [Act.put, List.getElem_toArray, List.getElem_cons_succ, List.getElem_cons_zero, List.setIfInBounds_toArray, List.set_cons_zero, List.set_cons_succ]
    refine wpAnyH_take (i := 11) (v := ?_) rfl (by kernel_rfl) (by kernel_rfl) (by kernel_rfl) (fun _ _ _ h => h) (Or.inl ⟨by kernel_rfl, ?_⟩) (by assumption) ?_
    case refine_2 => (intro Wz hSw; go_simp; try with_reducible rfl)
    try simp only [Act.put, List.getElem_toArray, List.getElem_cons_succ, List.getElem_cons_zero, List.setIfInBounds_toArray, List.set_cons_zero, List.set_cons_succ]
    refine wpAnyH_done (by kernel_rfl) ?_ _
    clear HU HV hHeld hHeld1 ht
    obtain ⟨k0, k1, k2, k3, k4, k5⟩ := hHeld3
    go_wp2_with fail
    refine (HC.out _).mono ?_
    rintro e w2 ⟨rfl, hb2⟩
    have ht2 := TmB.later ⟨k0, k1, k2, k3, k4, k5⟩ hb2 k5.size
    unfold TmB at ht2
    obtain ⟨j0, j1, j2, j3, j4, j5⟩ := ht2
    clear k0 k1 k2 k3 k4 k5 hb2
    go_wp2_with fail
    refine (HP.out _).mono ?_
    rintro e w3 ⟨rfl, hb3⟩
    have ht3 := TmB.later ⟨j0, j1, j2, j3, j4, j5⟩ hb3 j5.size
    clear j0 j1 j2 j3 j4 j5 hb3
    have HT3 := Lib.hid ht3
    unfold TmB at ht3
    obtain ⟨k0, k1, k2, k3, k4, k5⟩ := ht3
    rcases hG with ⟨hgm, rfl⟩ | ⟨hgm, rfl⟩
    all_goals
      go_wp2_with fail
      generalize hA : w3.alloc _ = A
      have hbA : Below w3.heap.size w3 A := hA ▸ below_allocA w3 _
      clear hA
      refine (HO.out _).mono ?_
      rintro e w5 ⟨rfl, hb5⟩
      have ht5 := HT3.out.later (hbA.trans (hb5.mono hbA.size)) HT3.out.2.2.2.2.2.size
      have HT5 := Lib.hid ht5
      unfold TmB at ht5
      clear k0 k1 k2 k3 k4 k5 hbA hb5 HT3
      obtain ⟨k0, k1, k2, k3, k4, k5⟩ := ht5
      have hlt5 : w.heap.size < w5.heap.size := (Array.getElem?_eq_some_iff.1 k4).1
      have hne5 : ¬ w.heap.size = w5.heap.size := by omega
      have hne6 : ¬ w5.heap.size = w.heap.size := by omega
      go_wp2_with fail
      have he5 : TmB w5.heap.size w.heap.size w k n (-1) g (w5.alloc (.cells #[.int .i64 k, .int .i64 n, .int .i64 (-1), .int .i64 g] 23)) := .of (heap_alloc_last w5 _) (HT5.out.2.2.2.2.2.trans ((below_allocA w5 _).mono HT5.out.2.2.2.2.2.size))
      refine (HN.out _).mono ?_
      rintro e w6 ⟨rfl, hb6⟩
      have he6 := he5.later hb6 he5.2.2.2.2.2.size
      have HE6 := Lib.hid he6
      unfold TmB at he6
      clear k0 k1 k2 k3 k4 k5 hb6 HT5 he5
      obtain ⟨k0, k1, k2, k3, k4, k5⟩ := he6
      go_wp2_with fail
      refine (HE.out _).mono ?_
      rintro e w7 ⟨rfl, hb7⟩
      have he7 := HE6.out.later hb7 HE6.out.2.2.2.2.2.size
      have HE7 := Lib.hid he7
      unfold TmB at he7
      clear k0 k1 k2 k3 k4 k5 hb7 HE6
      obtain ⟨k0, k1, k2, k3, k4, k5⟩ := he7
      go_wp2_with fail
      refine (HF.out _).mono ?_
      rintro e w8 ⟨rfl, hb8⟩
      have HB8 := Lib.hid (HE7.out.later hb8 HE7.out.2.2.2.2.2.size).2.2.2.2.2
      clear k0 k1 k2 k3 k4 k5 hb8 HE7
      go_wp2_with fail
      go_ret
      exact ⟨retBr (by first | rfl | (rw [decide_eq_true_eq]; omega)), HB8.out⟩

theorem rises_anyA (k n d g now later more : Int) (w : World) (hk : -9223372036854775808 ≤ k ∧ k ≤ 9223372036854775807) (hn : -9223372036854775808 ≤ n ∧ n ≤ 9223372036854775807) (hd : -9223372036854775808 ≤ d ∧ d ≤ 9223372036854775807) (hg : -9223372036854775808 ≤ g ∧ g ≤ 9223372036854775807) (hnow : -9223372036854775808 ≤ now ∧ now ≤ 9223372036854775807) (hlater : -9223372036854775808 ≤ later ∧ later ≤ 9223372036854775807) (hmore : -9223372036854775808 ≤ more ∧ more ≤ 9223372036854775807) :
    Calls Try.prog 3 #[tmV k n d g, .int .i64 now, .int .i64 later, .int .i64 more] w fun e w' => e = .returned (.bool true) ∧ Below w.heap.size w w' := by
  have HC : ∀ t, (-9223372036854775808 ≤ t ∧ t ≤ 9223372036854775807) → ∀ W, TmB w.heap.size w.heap.size w k n d g W → Calls Try.prog 8 #[tmV k n d g, .int .i64 t] W fun e w' => e = .returned (.int .i64 (curA k n d g t)) ∧ TmB w.heap.size w.heap.size w k n d g w' := by
    intro t ht W h
    refine (current_any k n d g t W hk hn hd hg ht).mono ?_
    rintro e w' ⟨h1, h2⟩
    exact ⟨h1, h.later h2 h.2.2.2.2.2.size⟩
  have fin : ∀ u v : Int, u ≤ v → ((now < later ∧ ¬ later < now ∧ u = now ∧ v = later) ∨ (now = later ∧ u = now ∧ v = now) ∨ (later < now ∧ ¬ now < later ∧ u = later ∧ v = now)) →
      Calls Try.prog 3 #[tmV k n d g, .int .i64 now, .int .i64 later, .int .i64 more] w fun e w' => e = .returned (.bool true) ∧ Below w.heap.size w w' := by
    intro u v huv h
    have hu : -9223372036854775808 ≤ u ∧ u ≤ 9223372036854775807 := by omega
    have hv : -9223372036854775808 ≤ v ∧ v ≤ 9223372036854775807 := by omega
    have fin2 : ∀ G : Int, g ≤ G → (-9223372036854775808 ≤ G ∧ G ≤ 9223372036854775807) → ((g < more ∧ more = G) ∨ (¬ g < more ∧ g = G)) →
        Calls Try.prog 3 #[tmV k n d g, .int .i64 now, .int .i64 later, .int .i64 more] w fun e w' => e = .returned (.bool true) ∧ Below w.heap.size w w' := by
      intro G hgG hG hh
      refine rises_core k n d g now later more u v (curA k n d g u) (curA k n d g v) (corA k n d g) (aftA n d) (curA k n d G now) (curA k n d g now) (corA k n (-1) g) G w h hh (HC u hu) (HC v hv)
        (fun W => current_any k n d g now W hk hn hd hg hnow) (fun W => corrected_any k n d g W hk hn hd hg) (fun W => apparent_any k n d g W hn hd) (fun W => current_any k n d G now W hk hn hd hG hnow)
        (fun W => apparent_any k n (-1) g W hn (by omega)) (fun W => corrected_any k n (-1) g W hk hn (by omega) hg)
        (cur_bd k n d g u).1 (cur_bd k n d g v).2 (cur_mono k n d g huv) (cor_cur k n d g u) (aft_cor k n d g) (cur_older k n d now hgG) (cor_none k n d g)
    by_cases hm : g < more
    · exact fin2 more (by omega) hmore (.inl ⟨hm, rfl⟩)
    · exact fin2 g (by omega) hg (.inr ⟨hm, rfl⟩)
  rcases Int.lt_trichotomy now later with h | h | h
  · exact fin now later (by omega) (.inl ⟨h, by omega, rfl, rfl⟩)
  · exact fin now now (by omega) (.inr (.inl ⟨h, rfl, rfl⟩))
  · exact fin later now (by omega) (.inr (.inr ⟨h, by omega, rfl, rfl⟩))
end Tk
end Go.Proofs.Ytjhakmobbncbgaa
