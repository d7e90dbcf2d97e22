/- The document's own Same of two lists of fields. -/
import Derived.Test.YthooghgiokgdhaaGreatDoorQC
import Derived.Test.YthooghgiokgdhaaGreatDoorQE
import Derived.Deep.RegionHeld3
namespace Go.Proofs.YthooghgiokgdhaaGreatDoor
open Go.RowKit
namespace Tk

/-- the four texts that a round reads -/
def Four4 (b1 o1 b2 o2 i : Nat) (n x k y : Bs) (W : World) : Prop := W.cell? ⟨b1, o1 + i * 2, none⟩ = some (.string (mkS n)) ∧ W.cell? ⟨b1, o1 + i * 2 + 1, none⟩ = some (.string (mkS x)) ∧ W.cell? ⟨b2, o2 + i * 2, none⟩ = some (.string (mkS k)) ∧ W.cell? ⟨b2, o2 + i * 2 + 1, none⟩ = some (.string (mkS y))

set_option maxHeartbeats 4000000 in
set_option maxRecDepth 100000 in
theorem rsamef_any (v1 v2 : Value) (l m : List (Bs × Bs)) (w : World) (h1 : IsFlds w v1 l) (h2 : IsFlds w v2 m) (hz : ∀ f, f ∈ l ∨ f ∈ m → f.1.length ≤ 1099511627776) (hl : l.length ≤ 1099511627) (_hm : m.length ≤ 1099511627) :
    Calls Tryz.prog 55 #[v1, v2] w fun e w' => e = .returned (.bool (sameFs l m)) ∧ Below w.heap.size w w' := by
  have H1 := Lib.hid h1
  have H2 := Lib.hid h2
  have HZ := Lib.hid hz
  obtain ⟨a1, c1, rfl⟩ : ∃ a cap, v1 = .slice a l.length cap := by obtain ⟨a, c, h, -⟩ := h1; exact ⟨a, c, h⟩
  obtain ⟨a2, c2, rfl⟩ : ∃ a cap, v2 = .slice a m.length cap := by obtain ⟨a, c, h, -⟩ := h2; exact ⟨a, c, h⟩
  clear h1 h2 hz
  by_cases hlm : l.length = m.length
  · have hb : ((l.length : Int) != (m.length : Int)) = false := by rw [hlm]; simp
    have HLM := Lib.hid hlm
    clear hlm
    go_enter Tryz.func55, Tryz.ntmps55
    go_wp2_with fail
    go_loopw [4, 5] (fun v4 vi wr => ∃ i : Nat, i ≤ l.length ∧ vi = .int .i64 i ∧ Hid (sameFs l m = sameFs (l.drop i) (m.drop i)) ∧ Hid (Below w.heap.size w wr)) (fun _ vi _ => l.length - (RowKit.intOf vi).toNat)
    case atStart => exact ⟨0, Nat.zero_le _, rfl, rfl, Below.refl _ _⟩
    case round =>
      obtain ⟨i, hi, rfl, hd, HB⟩ := hrel
      rename World => W
      by_cases hlt : i < l.length
      · have hlt2 : i < m.length := by have := HLM.out; omega
        obtain ⟨a1', c1', e', -, hc1⟩ := isFlds_below H1.out HB.out
        injection e' with e1 _ e2
        subst e1 e2
        obtain ⟨a2', c2', e', -, hc2⟩ := isFlds_below H2.out HB.out
        injection e' with e1 _ e2
        subst e1 e2
        obtain ⟨b1, o1, rfl, p0, p1⟩ := hc1 i (l.getD i ([], [])) (by simp [List.getD, hlt])
        obtain ⟨b2, o2, rfl, q0, q1⟩ := hc2 i (m.getD i ([], [])) (by simp [List.getD, hlt2])
        have z1 := HZ.out (l.getD i ([], [])) (.inl (by simp [List.getD, hlt]))
        have z2 := HZ.out (m.getD i ([], [])) (.inr (by simp [List.getD, hlt2]))
        have hst := sameFs_drop l m i hlt hlt2
        have HST := Lib.hid hst
        clear hc1 hc2 hst
        generalize l.getD i ([], []) = f at *
        generalize m.getD i ([], []) = g at *
        obtain ⟨n, x⟩ := f
        obtain ⟨k, y⟩ := g
        simp only at z1 z2 p0 p1 q0 q1
        have g0 : (0 : Int) ≤ (i : Int) := by omega
        have g1 : (i : Int) < (l.length : Int) := by omega
        have g2 : (i : Int) < (m.length : Int) := by omega
        have l1 := cell_lt (p := ⟨b1, o1 + i * 2, none⟩) p0
        have l2 := cell_lt (p := ⟨b2, o2 + i * 2, none⟩) q0
        have hS : ∀ W', Below W.heap.size W W' → Four4 b1 o1 b2 o2 i n x k y W' := fun W' h => ⟨(h.cell (p := ⟨b1, o1 + i * 2, none⟩) l1).trans p0, (h.cell (p := ⟨b1, o1 + i * 2 + 1, none⟩) l1).trans p1, (h.cell (p := ⟨b2, o2 + i * 2, none⟩) l2).trans q0, (h.cell (p := ⟨b2, o2 + i * 2 + 1, none⟩) l2).trans q1⟩
        have HC : ∀ W' : World, Below W.heap.size W W' → Calls Tryz.prog 71 #[.string (mkS n), .string (mkS k)] W' fun e w' => e = .returned (.bool (decide (lowL n = lowL k))) ∧ Below W.heap.size W w' ∧ w'.cell? ⟨b1, o1 + i * 2, none⟩ = some (.string (mkS n)) ∧ w'.cell? ⟨b1, o1 + i * 2 + 1, none⟩ = some (.string (mkS x)) ∧ w'.cell? ⟨b2, o2 + i * 2, none⟩ = some (.string (mkS k)) ∧ w'.cell? ⟨b2, o2 + i * 2 + 1, none⟩ = some (.string (mkS y)) := fun W' hW' => by
          have h := rsm_any (mkS n) (mkS k) W' (by rw [size_mkS]; exact z1) (by rw [size_mkS]; exact z2)
          rw [bs_mkS, bs_mkS] at h
          refine h.mono ?_
          rintro e w' ⟨rfl, hb⟩
          have h3 := hW'.trans (hb.mono hW'.size)
          obtain ⟨t1, t2, t3, t4⟩ := hS w' h3
          exact ⟨rfl, h3, t1, t2, t3, t4⟩
        have hbd : Below W.heap.size W W.drew := (Below.refl _ _).drew
        obtain ⟨d0, d1, d2, d3⟩ := hS _ hbd
        clear hS l1 l2 z1 z2
        cases hn : decide (lowL n = lowL k)
        · rw [hn] at HC
          have fin : sameFs l m = false := by rw [hd.out, HST.out]; unfold eqF; rw [hn]; rfl
          have HF := Lib.hid fin
          have HC2 := Lib.hid (HC _ hbd)
          clear HC fin hn
          go_wp2_with fail
          refine wp_region_held_drew (S := (fun w' => w'.cell? ⟨b1, o1 + i * 2, none⟩ = some (.string (mkS n)) ∧ w'.cell? ⟨b1, o1 + i * 2 + 1, none⟩ = some (.string (mkS x)) ∧ w'.cell? ⟨b2, o2 + i * 2, none⟩ = some (.string (mkS k)) ∧ w'.cell? ⟨b2, o2 + i * 2 + 1, none⟩ = some (.string (mkS y)))) (by kernel_rfl) ⟨d0, d1, d2, d3⟩ (fun hHeld => ?_)
          refine wpAnyH_take (i := 0) (v := ?_) rfl (by kernel_rfl) (by kernel_rfl) (by kernel_rfl) (fun _ _ _ h => h) (Or.inl ⟨by rfl, ?_⟩) (by assumption) ?_
          case refine_2 => (intro w hSw; (try dsimp only at hSw); go_simp; try with_reducible rfl)
          try simp only [Act.put, List.getElem_toArray, List.getElem_cons_zero, List.setIfInBounds_toArray, List.set_cons_zero, List.set_cons_succ]
          refine wpAnyH_take (i := 1) (v := ?_) rfl (by kernel_rfl) (by kernel_rfl) (by kernel_rfl) (fun _ _ _ h => h) (Or.inl ⟨by rfl, ?_⟩) (by assumption) ?_
          case refine_2 => (intro w hSw; (try dsimp only at hSw); go_simp; try with_reducible rfl)
          try simp only [Act.put, List.getElem_toArray, List.getElem_cons_succ, List.getElem_cons_zero, List.setIfInBounds_toArray, List.set_cons_zero, List.set_cons_succ]
          refine wpAnyH_take (i := 2) (v := ?_) rfl (by kernel_rfl) (by kernel_rfl) (by kernel_rfl) (fun _ _ _ h => h) (Or.inl ⟨by rfl, ?_⟩) (by assumption) ?_
          case refine_2 => (intro w hSw; (try dsimp only at hSw); go_simp; try with_reducible rfl)
          try simp only [Act.put, List.getElem_toArray, List.getElem_cons_succ, List.getElem_cons_zero, List.setIfInBounds_toArray, List.set_cons_zero, List.set_cons_succ]
          refine wpAnyH_take (i := 3) (v := ?_) rfl (by kernel_rfl) (by kernel_rfl) (by kernel_rfl) (fun _ _ _ h => h) (Or.inl ⟨by rfl, ?_⟩) (by assumption) ?_
          case refine_2 => (intro w hSw; (try dsimp only at hSw); go_simp; try with_reducible rfl)
          try simp only [Act.put, List.getElem_toArray, List.getElem_cons_succ, List.getElem_cons_zero, List.setIfInBounds_toArray, List.set_cons_zero, List.set_cons_succ]
          refine wpAnyH_take (i := 4) (v := ?_) rfl (by kernel_rfl) (by kernel_rfl) (by kernel_rfl) (fun _ _ _ h => h) (Or.inl ⟨by rfl, ?_⟩) (by assumption) ?_
          case refine_2 => (intro w hSw; (try dsimp only at hSw); go_simp; try with_reducible rfl)
          try simp only [Act.put, List.getElem_toArray, List.getElem_cons_succ, List.getElem_cons_zero, List.setIfInBounds_toArray, List.set_cons_zero, List.set_cons_succ]
          refine wpAnyH_take (i := 5) (v := ?_) rfl (by kernel_rfl) (by kernel_rfl) (by kernel_rfl) (fun _ _ _ h => h) (Or.inl ⟨by rfl, ?_⟩) (by assumption) ?_
          case refine_2 => (intro w hSw; (try dsimp only at hSw); go_simp; try with_reducible rfl)
          try simp only [Act.put, List.getElem_toArray, List.getElem_cons_succ, List.getElem_cons_zero, List.setIfInBounds_toArray, List.set_cons_zero, List.set_cons_succ]
          refine wpAnyH_take (i := 6) (v := ?_) rfl (by kernel_rfl) (by kernel_rfl) (by kernel_rfl) (fun _ _ _ h => h) (Or.inl ⟨by rfl, ?_⟩) (by assumption) ?_
          case refine_2 => (intro w hSw; (try dsimp only at hSw); go_simp; try with_reducible rfl)
          try simp only [Act.put, List.getElem_toArray, List.getElem_cons_succ, List.getElem_cons_zero, List.setIfInBounds_toArray, List.set_cons_zero, List.set_cons_succ]
          refine wpAnyH_take (i := 7) (v := ?_) rfl (by kernel_rfl) (by kernel_rfl) (by kernel_rfl) (fun _ _ _ h => h) (Or.inl ⟨by rfl, ?_⟩) (by assumption) ?_
          case refine_2 => (intro w hSw; (try dsimp only at hSw); go_simp; try with_reducible rfl)
          try simp only [Act.put, List.getElem_toArray, List.getElem_cons_succ, List.getElem_cons_zero, List.setIfInBounds_toArray, List.set_cons_zero, List.set_cons_succ]
          refine wpAnyH_take (i := 8) (v := ?_) rfl (by kernel_rfl) (by kernel_rfl) (by kernel_rfl) (fun _ _ _ h => h) (Or.inl ⟨by rfl, ?_⟩) (by assumption) ?_
          case refine_2 => (intro w hSw; (try dsimp only at hSw); go_simp; try with_reducible rfl)
          try simp only [Act.put, List.getElem_toArray, List.getElem_cons_succ, List.getElem_cons_zero, List.setIfInBounds_toArray, List.set_cons_zero, List.set_cons_succ]
          refine wpAnyH_take (i := 9) (v := ?_) rfl (by kernel_rfl) (by kernel_rfl) (by kernel_rfl) (fun _ _ _ h => h) (Or.inl ⟨by rfl, ?_⟩) (by assumption) ?_
          case refine_2 => (intro w hSw; (try dsimp only at hSw); go_simp; try with_reducible rfl)
          try simp only [Act.put, List.getElem_toArray, List.getElem_cons_succ, List.getElem_cons_zero, List.setIfInBounds_toArray, List.set_cons_zero, List.set_cons_succ]
          refine wpAnyH_ready (rs := [10]) (by kernel_rfl) (by simp) ?_
          refine AllReadyH.cons rfl (fun K hK => ?_) AllReadyH.nil
          go_simp
          refine HC2.out.mono ?_
          rintro e w5 ⟨rfl, hb5, t1, t2, t3, t4⟩
          go_simp
          refine hK.out _ _ ⟨t1, t2, t3, t4⟩ (fun hHeld2 => ?_)
          clear hK K hHeld
          refine wpAnyH_take (i := 11) (v := ?_) rfl (by kernel_rfl) (by kernel_rfl) (by kernel_rfl) (fun _ _ _ h => h) (Or.inl ⟨by rfl, ?_⟩) (by assumption) ?_
          case refine_2 => (intro w hSw; (try dsimp only at hSw); go_simp; try with_reducible rfl)
          try simp only [Act.put, List.getElem_toArray, List.getElem_cons_succ, List.getElem_cons_zero, List.setIfInBounds_toArray, List.set_cons_zero, List.set_cons_succ]
          refine wpAnyH_take (i := 12) (v := ?_) rfl (by kernel_rfl) (by kernel_rfl) (by kernel_rfl) (fun _ _ _ h => h) (Or.inl ⟨by rfl, ?_⟩) (by assumption) ?_
          case refine_2 => (intro w hSw; (try dsimp only at hSw); go_simp; try with_reducible rfl)
          try simp only [Act.put, List.getElem_toArray, List.getElem_cons_succ, List.getElem_cons_zero, List.setIfInBounds_toArray, List.set_cons_zero, List.set_cons_succ]
          refine wpAnyH_take (i := 13) (v := undef) rfl (by kernel_rfl) (by kernel_rfl) (by kernel_rfl) (fun _ _ _ h => h) (Or.inr ⟨by kernel_rfl, rfl⟩) (by assumption) ?_
          try simp only [Act.put, List.getElem_toArray, List.getElem_cons_succ, List.getElem_cons_zero, List.setIfInBounds_toArray, List.set_cons_zero, List.set_cons_succ]
          refine wpAnyH_take (i := 14) (v := undef) rfl (by kernel_rfl) (by kernel_rfl) (by kernel_rfl) (fun _ _ _ h => h) (Or.inr ⟨by kernel_rfl, rfl⟩) (by assumption) ?_
          try simp only [Act.put, List.getElem_toArray, List.getElem_cons_succ, List.getElem_cons_zero, List.setIfInBounds_toArray, List.set_cons_zero, List.set_cons_succ]
          refine wpAnyH_take (i := 15) (v := undef) rfl (by kernel_rfl) (by kernel_rfl) (by kernel_rfl) (fun _ _ _ h => h) (Or.inr ⟨by kernel_rfl, rfl⟩) (by assumption) ?_
          try simp only [Act.put, List.getElem_toArray, List.getElem_cons_succ, List.getElem_cons_zero, List.setIfInBounds_toArray, List.set_cons_zero, List.set_cons_succ]
          refine wpAnyH_take (i := 16) (v := undef) rfl (by kernel_rfl) (by kernel_rfl) (by kernel_rfl) (fun _ _ _ h => h) (Or.inr ⟨by kernel_rfl, rfl⟩) (by assumption) ?_
          try simp only [Act.put, List.getElem_toArray, List.getElem_cons_succ, List.getElem_cons_zero, List.setIfInBounds_toArray, List.set_cons_zero, List.set_cons_succ]
          refine wpAnyH_take (i := 17) (v := undef) rfl (by kernel_rfl) (by kernel_rfl) (by kernel_rfl) (fun _ _ _ h => h) (Or.inr ⟨by kernel_rfl, rfl⟩) (by assumption) ?_
          try simp only [Act.put, List.getElem_toArray, List.getElem_cons_succ, List.getElem_cons_zero, List.setIfInBounds_toArray, List.set_cons_zero, List.set_cons_succ]
          refine wpAnyH_take (i := 18) (v := undef) rfl (by kernel_rfl) (by kernel_rfl) (by kernel_rfl) (fun _ _ _ h => h) (Or.inr ⟨by kernel_rfl, rfl⟩) (by assumption) ?_
          try simp only [Act.put, List.getElem_toArray, List.getElem_cons_succ, List.getElem_cons_zero, List.setIfInBounds_toArray, List.set_cons_zero, List.set_cons_succ]
          refine wpAnyH_take (i := 19) (v := undef) rfl (by kernel_rfl) (by kernel_rfl) (by kernel_rfl) (fun _ _ _ h => h) (Or.inr ⟨by kernel_rfl, rfl⟩) (by assumption) ?_
          try simp only [Act.put, List.getElem_toArray, List.getElem_cons_succ, List.getElem_cons_zero, List.setIfInBounds_toArray, List.set_cons_zero, List.set_cons_succ]
          refine wpAnyH_take (i := 20) (v := undef) rfl (by kernel_rfl) (by kernel_rfl) (by kernel_rfl) (fun _ _ _ h => h) (Or.inr ⟨by kernel_rfl, rfl⟩) (by assumption) ?_
          try simp only [Act.put, List.getElem_toArray, List.getElem_cons_succ, List.getElem_cons_zero, List.setIfInBounds_toArray, List.set_cons_zero, List.set_cons_succ]
          refine wpAnyH_take (i := 21) (v := undef) rfl (by kernel_rfl) (by kernel_rfl) (by kernel_rfl) (fun _ _ _ h => h) (Or.inr ⟨by kernel_rfl, rfl⟩) (by assumption) ?_
          try simp only [Act.put, List.getElem_toArray, List.getElem_cons_succ, List.getElem_cons_zero, List.setIfInBounds_toArray, List.set_cons_zero, List.set_cons_succ]
          refine wpAnyH_take (i := 22) (v := undef) rfl (by kernel_rfl) (by kernel_rfl) (by kernel_rfl) (fun _ _ _ h => h) (Or.inr ⟨by kernel_rfl, rfl⟩) (by assumption) ?_
          try simp only [Act.put, List.getElem_toArray, List.getElem_cons_succ, List.getElem_cons_zero, List.setIfInBounds_toArray, List.set_cons_zero, List.set_cons_succ]
          refine wpAnyH_take (i := 23) (v := undef) rfl (by kernel_rfl) (by kernel_rfl) (by kernel_rfl) (fun _ _ _ h => h) (Or.inr ⟨by kernel_rfl, rfl⟩) (by assumption) ?_
          try simp only [Act.put, List.getElem_toArray, List.getElem_cons_succ, List.getElem_cons_zero, List.setIfInBounds_toArray, List.set_cons_zero, List.set_cons_succ]
          refine wpAnyH_take (i := 24) (v := .bool true) rfl (by kernel_rfl) (by kernel_rfl) (by kernel_rfl) (fun _ _ _ h => h) (Or.inl ⟨by kernel_rfl, fun w hSw => ?_⟩) (by assumption) ?_
          case refine_1 => (go_simp; try with_reducible rfl)
          try simp only [Act.put, List.getElem_toArray, List.getElem_cons_succ, List.getElem_cons_zero, List.setIfInBounds_toArray, List.set_cons_zero, List.set_cons_succ]
          clear hHeld2
          refine wpAnyH_done (by kernel_rfl) ?_ _
          skip
          go_wp2_with fail
          go_ret
          exact ⟨by rw [HF.out]; rfl, HB.out.trans (hb5.mono HB.out.size)⟩
        · rw [hn] at HC
          have hxy := decide (x = y)
          have hne : (!(mkS x).toList == (mkS y).toList) = !decide (x = y) := by rw [toList_bs, toList_bs, bs_mkS, bs_mkS]; by_cases h : x = y <;> simp [h]
          cases hx : decide (x = y)
          · have fin : sameFs l m = false := by rw [hd.out, HST.out]; unfold eqF; rw [hx]; simp
            have hxy2 : x ≠ y := of_decide_eq_false hx
            have hne0 : ((mkS x).toList == (mkS y).toList) = false := by rw [toList_bs, toList_bs, bs_mkS, bs_mkS]; simpa using hxy2
            have hne1 : ((mkS x).toList != (mkS y).toList) = true := by rw [toList_bs, toList_bs, bs_mkS, bs_mkS]; simpa using hxy2
            have hne2 : ¬ (mkS x).toList = (mkS y).toList := by rw [toList_bs, toList_bs, bs_mkS, bs_mkS]; exact hxy2
            clear hxy2 hne
            have HF := Lib.hid fin
            have HC2 := Lib.hid (HC _ hbd)
            clear HC fin hn hx hxy
            go_wp2_with fail
            go_region_held3 (fun w' => w'.cell? ⟨b1, o1 + i * 2, none⟩ = some (.string (mkS n)) ∧ w'.cell? ⟨b1, o1 + i * 2 + 1, none⟩ = some (.string (mkS x)) ∧ w'.cell? ⟨b2, o2 + i * 2, none⟩ = some (.string (mkS k)) ∧ w'.cell? ⟨b2, o2 + i * 2 + 1, none⟩ = some (.string (mkS y))) (first | (refine ⟨?_, ?_, ?_, ?_⟩ <;> assumption)) ((go_at_call 71; refine HC2.out.mono ?_; rintro e w5 ⟨rfl, hb5, t1, t2, t3, t4⟩))
            all_goals
              go_wp2_with fail
              go_ret
              exact ⟨by rw [HF.out]; rfl, HB.out.trans (hb5.mono HB.out.size)⟩
          · have hnx : sameFs l m = sameFs (l.drop (i + 1)) (m.drop (i + 1)) := by rw [hd.out, HST.out]; unfold eqF; rw [hn, hx]; rfl
            have hxy2 : x = y := of_decide_eq_true hx
            subst hxy2
            have hne : (!(mkS x).toList == (mkS x).toList) = false := by simp
            have HF := Lib.hid hnx
            have HC2 := Lib.hid (HC _ hbd)
            clear HC hnx hn hx hxy
            go_wp2_with fail
            go_region_held3 (fun w' => w'.cell? ⟨b1, o1 + i * 2, none⟩ = some (.string (mkS n)) ∧ w'.cell? ⟨b1, o1 + i * 2 + 1, none⟩ = some (.string (mkS x)) ∧ w'.cell? ⟨b2, o2 + i * 2, none⟩ = some (.string (mkS k)) ∧ w'.cell? ⟨b2, o2 + i * 2 + 1, none⟩ = some (.string (mkS x))) (first | (refine ⟨?_, ?_, ?_, ?_⟩ <;> assumption)) ((go_at_call 71; refine HC2.out.mono ?_; rintro e w5 ⟨rfl, hb5, t1, t2, t3, t4⟩))
            all_goals
              have HB5 := Lib.hid (HB.out.trans (hb5.mono HB.out.size))
              go_wp2_with fail
              exact ⟨⟨i + 1, hlt, by go_num, HF, HB5⟩, by simp [RowKit.intOf]; omega⟩
      · have hil : i = l.length := by omega
        have fin : sameFs l m = true := by
          rw [hd.out, List.drop_of_length_le (by omega), List.drop_of_length_le (by have := HLM.out; omega)]; rfl
        have HF := Lib.hid fin
        clear fin
        go_wp2_with fail
        go_ret
        exact ⟨by rw [HF.out]; rfl, HB.out⟩
  · have hb : ((l.length : Int) != (m.length : Int)) = true := by simp; omega
    have fin : sameFs l m = false := by
      cases h : sameFs l m
      · rfl
      · exact absurd (sameFs_len l m h) hlm
    have HF := Lib.hid fin
    clear fin
    go_enter Tryz.func55, Tryz.ntmps55
    go_wp2_with fail
    go_ret
    exact ⟨by rw [HF.out]; rfl, Below.refl _ _⟩
end Tk
end Go.Proofs.YthooghgiokgdhaaGreatDoor
