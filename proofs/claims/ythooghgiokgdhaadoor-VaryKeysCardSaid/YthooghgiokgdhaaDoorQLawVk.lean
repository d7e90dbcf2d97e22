/- VaryKeys: requests match if and only if their keys are the same; each matches itself; with one name less they still match. -/
import Derived.Test.YthooghgiokgdhaaDoorQC
import Derived.Deep.Cut
namespace Go.Proofs.YthooghgiokgdhaaDoor
open Go.RowKit
namespace Tk

theorem below_drewsV (w : World) (n : Nat) : Below w.heap.size w (w.drewN n) := ⟨rfl, rfl, rfl, Nat.le_refl _, fun _ _ => rfl⟩
theorem strs_takeV {w : World} {b o c k : Nat} {L : List Bs} (h : IsStrs w (.slice (some ⟨b, o, none⟩) L.length c) L) (hk : k < L.length) : IsStrs w (.slice (some ⟨b, o, none⟩) k c) (L.take k) := by
  obtain ⟨a', c', e, hc⟩ := h
  injection e with e1 _ e2
  subst e1 e2
  refine ⟨some ⟨b, o, none⟩, c, by rw [List.length_take, Nat.min_eq_left (by omega)], fun j t hj => hc j t ?_⟩
  rw [List.getElem?_take] at hj
  split at hj
  · exact hj
  · cases hj
theorem strs_dropV {w : World} {b o c k : Nat} {L : List Bs} (h : IsStrs w (.slice (some ⟨b, o, none⟩) L.length c) L) (_hk : k < L.length) (c2 : Nat) : IsStrs w (.slice (some ⟨b, o + (k + 1), none⟩) (L.length - (k + 1)) c2) (L.drop (k + 1)) := by
  obtain ⟨a', c', e, hc⟩ := h
  injection e with e1 _ e2
  subst e1 e2
  refine ⟨_, c2, by rw [List.length_drop], fun j t hj => ?_⟩
  rw [List.getElem?_drop] at hj
  obtain ⟨b2, o2, e3, hcell⟩ := hc _ t hj
  injection e3 with e3
  injection e3 with e4 e5
  subst e4 e5
  refine ⟨b, o + (k + 1), rfl, ?_⟩
  rw [Nat.add_assoc]; exact hcell

theorem below_grV {w x y : World} {B n : Nat} {v : Value} {xs : List Value} {e : TypeId} (hb : Below w.heap.size w x) (hg : x.grownBy y v.ownBlock) (ho : x.ownsRow B e 1 v n xs) (hB : w.heap.size ≤ B) : Below w.heap.size w y :=
  ⟨hg.os.trans hb.os, hg.tape.trans hb.tape, hg.output.trans hb.output, Nat.le_trans hb.size hg.size, fun k hk => (hg.block k (Nat.lt_of_lt_of_le hk hb.size) (fun e => by have := (ho.lt k e.symm).1; omega)).trans (hb.block k hk)⟩

/-- what the law holds -/
structure VkH (w : World) (va vb v : Value) (la lb : List (Bs × Bs)) (L : List Bs) (out : Int) (qa qb qL m : Bool) (ka kb : Bs) : Prop where
  lv : ∀ W : World, Calls Tryd.prog 7 #[] W fun e w' => e = .returned (.bool true) ∧ Below W.heap.size W w'
  ta : ∀ W : World, Below w.heap.size w W → Calls Tryd.prog 14 #[va] W fun e w' => e = .returned (.bool qa) ∧ Below W.heap.size W w'
  tb : ∀ W : World, Below w.heap.size w W → Calls Tryd.prog 14 #[vb] W fun e w' => e = .returned (.bool qb) ∧ Below W.heap.size W w'
  tl : ∀ W : World, Below w.heap.size w W → Calls Tryd.prog 15 #[v, .int .i64 20, .int .i64 300] W fun e w' => e = .returned (.bool qL) ∧ Below W.heap.size W w'
  mt : qa = true → qb = true → qL = true → ∀ (v2 : Value) (R : List Bs) (W : World), (∀ x ∈ R, x ∈ L) → R.length ≤ 20 → IsStrs W v2 R → Below w.heap.size w W → Calls Tryd.prog 11 #[v2, va, vb] W fun e w' => e = .returned (.bool (mchV la lb R)) ∧ Below W.heap.size W w'
  mb : qa = true → qb = true → qL = true → ∀ W : World, Below w.heap.size w W → Calls Tryd.prog 11 #[v, vb, va] W fun e w' => e = .returned (.bool m) ∧ Below W.heap.size W w'
  ma : qa = true → qb = true → qL = true → ∀ W : World, Below w.heap.size w W → Calls Tryd.prog 11 #[v, va, va] W fun e w' => e = .returned (.bool true) ∧ Below W.heap.size W w'
  ea : qa = true → qb = true → qL = true → ∀ W : World, Below w.heap.size w W → Calls Tryd.prog 12 #[v, va] W fun e w' => e = .returned (.string (mkS ka)) ∧ Below W.heap.size W w'
  eb : qa = true → qb = true → qL = true → ∀ W : World, Below w.heap.size w W → Calls Tryd.prog 12 #[v, vb] W fun e w' => e = .returned (.string (mkS kb)) ∧ Below W.heap.size W w'
  ms : mchV la lb L = m
  eq : ((mkS ka).toList == (mkS kb).toList) = m
  st : ∀ W : World, Below w.heap.size w W → IsStrs W v L
  ln : qL = true → L.length ≤ 20

set_option maxHeartbeats 4000000 in
set_option maxRecDepth 100000 in
theorem vk_a (va vb v : Value) (la lb : List (Bs × Bs)) (L : List Bs) (out : Int) (w : World) (m : Bool) (qb qL : Bool) (ka kb : Bs) (aa ab a : Option Addr) (ca cb c : Nat) (ea : va = .slice aa la.length ca) (eb : vb = .slice ab lb.length cb) (el : v = .slice a L.length c) (H : Hid (VkH w va vb v la lb L out false qb qL m ka kb)) :
    Calls Tryd.prog 4 #[va, vb, v, .int .i64 out] w fun e w' => e = .returned (.bool true) ∧ Below w.heap.size w w' := by
  subst ea eb el
  have B0 := Lib.hid (Below.refl w.heap.size w)
  go_enter Tryd.func4, Tryd.ntmps4
  go_wp2_with fail
  refine (H.out.lv _).mono ?_
  rintro e w1 ⟨rfl, hb⟩
  have B1 := Lib.hid (B0.out.trans (hb.mono B0.out.size))
  clear hb
  go_wp2_with fail
  refine (H.out.ta _ B1.out).mono ?_
  rintro e w2 ⟨rfl, hb⟩
  have B2 := Lib.hid (B1.out.trans (hb.mono B1.out.size))
  clear hb
  go_wp2_with fail
  go_ret
  exact ⟨rfl, B2.out⟩

set_option maxHeartbeats 4000000 in
set_option maxRecDepth 100000 in
theorem vk_b (va vb v : Value) (la lb : List (Bs × Bs)) (L : List Bs) (out : Int) (w : World) (m : Bool) (qL : Bool) (ka kb : Bs) (aa ab a : Option Addr) (ca cb c : Nat) (ea : va = .slice aa la.length ca) (eb : vb = .slice ab lb.length cb) (el : v = .slice a L.length c) (H : Hid (VkH w va vb v la lb L out true false qL m ka kb)) :
    Calls Tryd.prog 4 #[va, vb, v, .int .i64 out] w fun e w' => e = .returned (.bool true) ∧ Below w.heap.size w w' := by
  subst ea eb el
  have B0 := Lib.hid (Below.refl w.heap.size w)
  go_enter Tryd.func4, Tryd.ntmps4
  go_wp2_with fail
  refine (H.out.lv _).mono ?_
  rintro e w1 ⟨rfl, hb⟩
  have B1 := Lib.hid (B0.out.trans (hb.mono B0.out.size))
  clear hb
  go_wp2_with fail
  refine (H.out.ta _ B1.out).mono ?_
  rintro e w2 ⟨rfl, hb⟩
  have B2 := Lib.hid (B1.out.trans (hb.mono B1.out.size))
  clear hb
  go_wp2_with fail
  refine (H.out.tb _ B2.out).mono ?_
  rintro e w3 ⟨rfl, hb⟩
  have B3 := Lib.hid (B2.out.trans (hb.mono B2.out.size))
  clear hb
  go_wp2_with fail
  go_ret
  exact ⟨rfl, B3.out⟩

set_option maxHeartbeats 4000000 in
set_option maxRecDepth 100000 in
theorem vk_l (va vb v : Value) (la lb : List (Bs × Bs)) (L : List Bs) (out : Int) (w : World) (m : Bool)  (ka kb : Bs) (aa ab a : Option Addr) (ca cb c : Nat) (ea : va = .slice aa la.length ca) (eb : vb = .slice ab lb.length cb) (el : v = .slice a L.length c) (H : Hid (VkH w va vb v la lb L out true true false m ka kb)) :
    Calls Tryd.prog 4 #[va, vb, v, .int .i64 out] w fun e w' => e = .returned (.bool true) ∧ Below w.heap.size w w' := by
  subst ea eb el
  have B0 := Lib.hid (Below.refl w.heap.size w)
  go_enter Tryd.func4, Tryd.ntmps4
  go_wp2_with fail
  refine (H.out.lv _).mono ?_
  rintro e w1 ⟨rfl, hb⟩
  have B1 := Lib.hid (B0.out.trans (hb.mono B0.out.size))
  clear hb
  go_wp2_with fail
  refine (H.out.ta _ B1.out).mono ?_
  rintro e w2 ⟨rfl, hb⟩
  have B2 := Lib.hid (B1.out.trans (hb.mono B1.out.size))
  clear hb
  go_wp2_with fail
  refine (H.out.tb _ B2.out).mono ?_
  rintro e w3 ⟨rfl, hb⟩
  have B3 := Lib.hid (B2.out.trans (hb.mono B2.out.size))
  clear hb
  go_wp2_with fail
  refine (H.out.tl _ B3.out).mono ?_
  rintro e w4 ⟨rfl, hb⟩
  have B4 := Lib.hid (B3.out.trans (hb.mono B3.out.size))
  clear hb
  go_wp2_with fail
  go_ret
  exact ⟨rfl, B4.out⟩

set_option maxHeartbeats 4000000 in
set_option maxRecDepth 100000 in
theorem vk_none (va vb : Value) (la lb : List (Bs × Bs)) (out : Int) (w : World) (ka kb : Bs) (aa ab a : Option Addr) (ca cb c : Nat) (ea : va = .slice aa la.length ca) (eb : vb = .slice ab lb.length cb) (H : Hid (VkH w va vb (.slice a 0 c) la lb [] out true true true true ka kb)) :
    Calls Tryd.prog 4 #[va, vb, .slice a 0 c, .int .i64 out] w fun e w' => e = .returned (.bool true) ∧ Below w.heap.size w w' := by
  subst ea eb
  have B0 := Lib.hid (Below.refl w.heap.size w)
  go_enter Tryd.func4, Tryd.ntmps4
  go_wp2_with fail
  refine (H.out.lv _).mono ?_
  rintro e w1 ⟨rfl, hb⟩
  have B1 := Lib.hid (B0.out.trans (hb.mono B0.out.size))
  clear hb
  go_wp2_with fail
  refine (H.out.ta _ B1.out).mono ?_
  rintro e w2 ⟨rfl, hb⟩
  have B2 := Lib.hid (B1.out.trans (hb.mono B1.out.size))
  clear hb
  go_wp2_with fail
  refine (H.out.tb _ B2.out).mono ?_
  rintro e w3 ⟨rfl, hb⟩
  have B3 := Lib.hid (B2.out.trans (hb.mono B2.out.size))
  clear hb
  go_wp2_with fail
  refine (H.out.tl _ B3.out).mono ?_
  rintro e w4 ⟨rfl, hb⟩
  have B4 := Lib.hid (B3.out.trans (hb.mono B3.out.size))
  clear hb
  have hmt := H.out.mt rfl rfl rfl _ [] w4 (fun _ h => h) (by decide) (H.out.st _ B4.out) B4.out
  rw [H.out.ms] at hmt
  have HM := Lib.hid hmt
  clear hmt
  go_wp2_with fail
  refine (HM.out).mono ?_
  rintro e w5 ⟨rfl, hb⟩
  have B5 := Lib.hid (B4.out.trans (hb.mono B4.out.size))
  clear hb
  have heq := H.out.eq
  go_wp2_with fail
  refine (H.out.ea rfl rfl rfl _ B5.out).mono ?_
  rintro e w6 ⟨rfl, hb⟩
  have B6 := Lib.hid (B5.out.trans (hb.mono B5.out.size))
  clear hb
  go_wp2_with fail
  refine (H.out.eb rfl rfl rfl _ B6.out).mono ?_
  rintro e w7 ⟨rfl, hb⟩
  have B7 := Lib.hid (B6.out.trans (hb.mono B6.out.size))
  clear hb
  go_wp2_with fail
  refine (H.out.mb rfl rfl rfl _ B7.out).mono ?_
  rintro e w8 ⟨rfl, hb⟩
  have B8 := Lib.hid (B7.out.trans (hb.mono B7.out.size))
  clear hb
  go_wp2_with fail
  refine (H.out.ma rfl rfl rfl _ B8.out).mono ?_
  rintro e w9 ⟨rfl, hb⟩
  have B9 := Lib.hid (B8.out.trans (hb.mono B8.out.size))
  clear hb
  go_wp2_with fail
  go_ret
  exact ⟨rfl, B9.out⟩

set_option maxHeartbeats 8000000 in
set_option maxRecDepth 100000 in
theorem vk_false (va vb : Value) (la lb : List (Bs × Bs)) (L : List Bs) (out : Int) (w : World) (ka kb : Bs) (aa ab : Option Addr) (ca cb c b0 o0 : Nat) (ea : va = .slice aa la.length ca) (eb : vb = .slice ab lb.length cb) (hL0 : L ≠ []) (hcap : L.length ≤ c) (H : Hid (VkH w va vb (.slice (some ⟨b0, o0, none⟩) L.length c) la lb L out true true true false ka kb)) :
    Calls Tryd.prog 4 #[va, vb, .slice (some ⟨b0, o0, none⟩) L.length c, .int .i64 out] w fun e w' => e = .returned (.bool true) ∧ Below w.heap.size w w' := by
  subst ea eb
  have hpos : L.length ≠ 0 := fun e => hL0 (List.eq_nil_of_length_eq_zero e)
  have e0 : ((L.length : Int) == 0) = false := by rw [beq_eq_false_iff_ne]; omega
  have HPos := Lib.hid hpos
  have HCap := Lib.hid hcap
  have HLn := Lib.hid (H.out.ln rfl)
  have HPk := Lib.hid (fun W : World => pick_any out L.length W (by omega) (by have := H.out.ln rfl; omega))
  unfold PickPost at HPk
  clear hL0 hpos hcap
  have B0 := Lib.hid (Below.refl w.heap.size w)
  go_enter Tryd.func4, Tryd.ntmps4
  go_wp2_with fail
  refine (H.out.lv _).mono ?_
  rintro e w1 ⟨rfl, hb⟩
  have B1 := Lib.hid (B0.out.trans (hb.mono B0.out.size))
  clear hb
  go_wp2_with fail
  refine (H.out.ta _ B1.out).mono ?_
  rintro e w2 ⟨rfl, hb⟩
  have B2 := Lib.hid (B1.out.trans (hb.mono B1.out.size))
  clear hb
  go_wp2_with fail
  refine (H.out.tb _ B2.out).mono ?_
  rintro e w3 ⟨rfl, hb⟩
  have B3 := Lib.hid (B2.out.trans (hb.mono B2.out.size))
  clear hb
  go_wp2_with fail
  refine (H.out.tl _ B3.out).mono ?_
  rintro e w4 ⟨rfl, hb⟩
  have B4 := Lib.hid (B3.out.trans (hb.mono B3.out.size))
  clear hb
  have hmt := H.out.mt rfl rfl rfl _ L w4 (fun _ h => h) (H.out.ln rfl) (H.out.st _ B4.out) B4.out
  rw [H.out.ms] at hmt
  have HM := Lib.hid hmt
  clear hmt
  go_wp2_with fail
  refine (HM.out).mono ?_
  rintro e w5 ⟨rfl, hb⟩
  have B5 := Lib.hid (B4.out.trans (hb.mono B4.out.size))
  clear hb
  have heq := H.out.eq
  go_wp2_with fail
  refine (H.out.ea rfl rfl rfl _ B5.out).mono ?_
  rintro e w6 ⟨rfl, hb⟩
  have B6 := Lib.hid (B5.out.trans (hb.mono B5.out.size))
  clear hb
  go_wp2_with fail
  refine (H.out.eb rfl rfl rfl _ B6.out).mono ?_
  rintro e w7 ⟨rfl, hb⟩
  have B7 := Lib.hid (B6.out.trans (hb.mono B6.out.size))
  clear hb
  go_wp2_with fail
  refine (H.out.mb rfl rfl rfl _ B7.out).mono ?_
  rintro e w8 ⟨rfl, hb⟩
  have B8 := Lib.hid (B7.out.trans (hb.mono B7.out.size))
  clear hb
  go_wp2_with fail
  refine (H.out.ma rfl rfl rfl _ B8.out).mono ?_
  rintro e w9 ⟨rfl, hb⟩
  have B9 := Lib.hid (B8.out.trans (hb.mono B8.out.size))
  clear hb
  go_wp2_with fail
  refine (HPk.out _).mono ?_
  rintro e wp ⟨k, hk, rfl, rfl⟩
  have HK := Lib.hid hk
  have hstr := H.out.st _ B9.out
  have hOwn : Hid (∀ W : World, Below w.heap.size w W → Calls Tryd.prog 17 #[.slice (some ⟨b0, o0, none⟩) k c] W fun e w' => ∃ v', e = .returned v' ∧ w'.ownsRow W.heap.size 9 1 v' (L.take k).length (strs (L.take k)) ∧ Below W.heap.size W w') := fun W hb => by
    have h := ownS_anyV (.slice (some ⟨b0, o0, none⟩) k c) (L.take k) W (strs_takeV (H.out.st W hb) hk) (fun n c h => by injection h with h1; cases h1) (by rw [List.length_take]; have := H.out.ln rfl; omega)
    exact h
  have hwk : IntKind.i64.wrap ((k : Int) + 1) = ((k + 1 : Nat) : Int) := by rw [IntWalk.i64_in _ (by have := HLn.out; omega)]; omega
  have k0 : (0 : Int) ≤ (k : Int) := by omega
  have k01 : (0 : Int) ≤ (k : Int) + 1 := by omega
  have k1 : (k : Int) ≤ (c : Int) := by have := HCap.out; omega
  have k2 : (k : Int) + 1 ≤ (L.length : Int) := by omega
  have k3 : (L.length : Int) ≤ (c : Int) := by have := HCap.out; omega
  have HDr := Lib.hid (fun (W : World) (hb : Below w.heap.size w W) (c2 : Nat) => strs_dropV (H.out.st W hb) hk c2)
  clear hk hstr
  go_upto_region 11 with fail
  have hHeld0 : (fun Wz : World => Below w.heap.size w Wz) w9.drew := B9.out.drew
  by_cases hck : c = k + 1
  · have HCk := Lib.hid hck
    have hz : (c : Int) - ((k + 1 : Nat) : Int) = 0 := by omega
    have hz2 : L.length - (k + 1) = 0 := by omega
    have hz3 : c - (k + 1) = 0 := by omega
    clear hck
    refine wp_region_held_drew (S := (fun Wz : World => Below w.heap.size w Wz)) (by kernel_rfl) hHeld0 (fun hHeld => ?_)
    refine wpAnyH_take (i := 0) (v := .slice (some ⟨b0, o0, none⟩) L.length c) rfl (by kernel_rfl) (by kernel_rfl) (by kernel_rfl) (fun _ _ _ h => h) (Or.inl ⟨by kernel_rfl, ?_⟩) (by assumption) ?_
    case refine_1 => (intro Wz hSw; go_simp; try with_reducible rfl)
    try simp only [Act.put, List.getElem_toArray, List.getElem_cons_zero, List.setIfInBounds_toArray, List.set_cons_zero, List.set_cons_succ]
    refine wpAnyH_take (i := 1) (v := .int .i64 (k : Int)) rfl (by kernel_rfl) (by kernel_rfl) (by kernel_rfl) (fun _ _ _ h => h) (Or.inl ⟨by kernel_rfl, ?_⟩) (by assumption) ?_
    case refine_1 => (intro Wz hSw; go_simp; try with_reducible rfl)
    try simp only [Act.put, List.getElem_toArray, List.getElem_cons_succ, List.getElem_cons_zero, List.setIfInBounds_toArray, List.set_cons_zero, List.set_cons_succ]
    refine wpAnyH_take (i := 2) (v := .slice (some ⟨b0, o0, none⟩) k c) rfl (by kernel_rfl) (by kernel_rfl) (by kernel_rfl) (fun _ _ _ h => h) (Or.inl ⟨by kernel_rfl, ?_⟩) (by assumption) ?_
    case refine_1 => (intro Wz hSw; go_simp; try with_reducible rfl)
    try simp only [Act.put, List.getElem_toArray, List.getElem_cons_succ, List.getElem_cons_zero, List.setIfInBounds_toArray, List.set_cons_zero, List.set_cons_succ]
    refine wpAnyH_take (i := 4) (v := .slice (some ⟨b0, o0, none⟩) L.length c) rfl (by kernel_rfl) (by kernel_rfl) (by kernel_rfl) (fun _ _ _ h => h) (Or.inl ⟨by kernel_rfl, ?_⟩) (by assumption) ?_
    case refine_1 => (intro Wz hSw; go_simp; try with_reducible rfl)
    try simp only [Act.put, List.getElem_toArray, List.getElem_cons_succ, List.getElem_cons_zero, List.setIfInBounds_toArray, List.set_cons_zero, List.set_cons_succ]
    refine wpAnyH_take (i := 5) (v := .int .i64 (k : Int)) rfl (by kernel_rfl) (by kernel_rfl) (by kernel_rfl) (fun _ _ _ h => h) (Or.inl ⟨by kernel_rfl, ?_⟩) (by assumption) ?_
    case refine_1 => (intro Wz hSw; go_simp; try with_reducible rfl)
    try simp only [Act.put, List.getElem_toArray, List.getElem_cons_succ, List.getElem_cons_zero, List.setIfInBounds_toArray, List.set_cons_zero, List.set_cons_succ]
    refine wpAnyH_take (i := 6) (v := .int .i64 ((k + 1 : Nat) : Int)) rfl (by kernel_rfl) (by kernel_rfl) (by kernel_rfl) (fun _ _ _ h => h) (Or.inl ⟨by kernel_rfl, ?_⟩) (by assumption) ?_
    case refine_1 => (intro Wz hSw; go_simp; try with_reducible rfl)
    try simp only [Act.put, List.getElem_toArray, List.getElem_cons_succ, List.getElem_cons_zero, List.setIfInBounds_toArray, List.set_cons_zero, List.set_cons_succ]
    refine wpAnyH_take (i := 7) (v := .slice (some ⟨b0, o0, none⟩) 0 0) rfl (by kernel_rfl) (by kernel_rfl) (by kernel_rfl) (fun _ _ _ h => h) (Or.inl ⟨by kernel_rfl, ?_⟩) (by assumption) ?_
    case refine_1 => (intro Wz hSw; have u := HCk.out; go_simp; try with_reducible rfl)
    try simp only [Act.put, List.getElem_toArray, List.getElem_cons_succ, List.getElem_cons_zero, List.setIfInBounds_toArray, List.set_cons_zero, List.set_cons_succ]
    refine wpAnyH_ready (rs := [3]) (by kernel_rfl) (by simp) ?_
    refine AllReadyH.cons rfl (fun K hK => ?_) AllReadyH.nil
    go_simp
    refine (hOwn.out _ hHeld0).mono ?_
    rintro e x1 ⟨v1, rfl, ho1, hbb⟩
    have hHeld1 : (fun Wz : World => Below w.heap.size w Wz) x1 := hHeld0.trans (hbb.mono hHeld0.size)
    have hsz1 := Nat.le_trans hHeld0.size hbb.size
    have hsz2 := hbb.size
    clear hbb
    go_simp
    refine hK.out _ _ hHeld1 (fun hHeld2 => ?_)
    clear hK K hHeld2
    try simp only [Act.put, List.getElem_toArray, List.getElem_cons_succ, List.getElem_cons_zero, List.setIfInBounds_toArray, List.set_cons_zero, List.set_cons_succ]
    refine wpAnyH_ready (rs := [8]) (by kernel_rfl) (by simp) ?_
    refine AllReadyH.cons rfl (fun K hK => ?_) AllReadyH.nil
    refine joinS_runV _ _ _ _ _ _ _ rfl w9.drew.heap.size _ _ (L.take k) [] rfl rfl ho1 ⟨_, _, rfl, fun j t hj => by simp at hj⟩ (fun n c h => by injection h with h1; cases h1) hsz2 (by simp only [List.length_take, List.length_nil]; have := HLn.out; omega) (fun vj wj hoj hgj => ?_)
    have hHeld2x : (fun Wz : World => Below w.heap.size w Wz) wj := below_grV hHeld1 hgj ho1 hHeld0.size
    have hsj := isStrs_own hoj
    clear hgj hoj ho1 hsz1 hsz2
    refine hK.out _ _ hHeld2x (fun hHeld2 => ?_)
    clear hK K hHeld2
    try simp only [Act.put, List.getElem_toArray, List.getElem_cons_succ, List.getElem_cons_zero, List.setIfInBounds_toArray, List.set_cons_zero, List.set_cons_succ]
    refine wpAnyH_take (i := 9) (v := ?_) rfl (by kernel_rfl) (by kernel_rfl) (by kernel_rfl) (fun _ _ _ h => h) (Or.inl ⟨by kernel_rfl, ?_⟩) (by assumption) ?_
    case refine_2 => (intro Wz hSw; go_simp; try with_reducible rfl)
    try simp only [Act.put, List.getElem_toArray, List.getElem_cons_succ, List.getElem_cons_zero, List.setIfInBounds_toArray, List.set_cons_zero, List.set_cons_succ]
    refine wpAnyH_done (by kernel_rfl) ?_ _
    obtain ⟨aj, nj, cj, rfl⟩ : ∃ a n c, vj = .slice a n c := by obtain ⟨a, c, h, -⟩ := hsj; exact ⟨a, _, c, h⟩
    have HBj := Lib.hid hHeld2x
    clear hsj hHeld2x hHeld1 hHeld0
    go_wp2_with fail
    go_ret
    exact ⟨rfl, HBj.out⟩

  · have HCk := Lib.hid hck
    have hz : ¬ ((c : Int) - ((k + 1 : Nat) : Int) = 0) := by have := HCap.out; omega
    have hz3 : ¬ (c - (k + 1) = 0) := by have := HCap.out; omega
    clear hck
    refine wp_region_held_drew (S := (fun Wz : World => Below w.heap.size w Wz)) (by kernel_rfl) hHeld0 (fun hHeld => ?_)
    refine wpAnyH_take (i := 0) (v := .slice (some ⟨b0, o0, none⟩) L.length c) rfl (by kernel_rfl) (by kernel_rfl) (by kernel_rfl) (fun _ _ _ h => h) (Or.inl ⟨by kernel_rfl, ?_⟩) (by assumption) ?_
    case refine_1 => (intro Wz hSw; go_simp; try with_reducible rfl)
    try simp only [Act.put, List.getElem_toArray, List.getElem_cons_zero, List.setIfInBounds_toArray, List.set_cons_zero, List.set_cons_succ]
    refine wpAnyH_take (i := 1) (v := .int .i64 (k : Int)) rfl (by kernel_rfl) (by kernel_rfl) (by kernel_rfl) (fun _ _ _ h => h) (Or.inl ⟨by kernel_rfl, ?_⟩) (by assumption) ?_
    case refine_1 => (intro Wz hSw; go_simp; try with_reducible rfl)
    try simp only [Act.put, List.getElem_toArray, List.getElem_cons_succ, List.getElem_cons_zero, List.setIfInBounds_toArray, List.set_cons_zero, List.set_cons_succ]
    refine wpAnyH_take (i := 2) (v := .slice (some ⟨b0, o0, none⟩) k c) rfl (by kernel_rfl) (by kernel_rfl) (by kernel_rfl) (fun _ _ _ h => h) (Or.inl ⟨by kernel_rfl, ?_⟩) (by assumption) ?_
    case refine_1 => (intro Wz hSw; go_simp; try with_reducible rfl)
    try simp only [Act.put, List.getElem_toArray, List.getElem_cons_succ, List.getElem_cons_zero, List.setIfInBounds_toArray, List.set_cons_zero, List.set_cons_succ]
    refine wpAnyH_take (i := 4) (v := .slice (some ⟨b0, o0, none⟩) L.length c) rfl (by kernel_rfl) (by kernel_rfl) (by kernel_rfl) (fun _ _ _ h => h) (Or.inl ⟨by kernel_rfl, ?_⟩) (by assumption) ?_
    case refine_1 => (intro Wz hSw; go_simp; try with_reducible rfl)
    try simp only [Act.put, List.getElem_toArray, List.getElem_cons_succ, List.getElem_cons_zero, List.setIfInBounds_toArray, List.set_cons_zero, List.set_cons_succ]
    refine wpAnyH_take (i := 5) (v := .int .i64 (k : Int)) rfl (by kernel_rfl) (by kernel_rfl) (by kernel_rfl) (fun _ _ _ h => h) (Or.inl ⟨by kernel_rfl, ?_⟩) (by assumption) ?_
    case refine_1 => (intro Wz hSw; go_simp; try with_reducible rfl)
    try simp only [Act.put, List.getElem_toArray, List.getElem_cons_succ, List.getElem_cons_zero, List.setIfInBounds_toArray, List.set_cons_zero, List.set_cons_succ]
    refine wpAnyH_take (i := 6) (v := .int .i64 ((k + 1 : Nat) : Int)) rfl (by kernel_rfl) (by kernel_rfl) (by kernel_rfl) (fun _ _ _ h => h) (Or.inl ⟨by kernel_rfl, ?_⟩) (by assumption) ?_
    case refine_1 => (intro Wz hSw; go_simp; try with_reducible rfl)
    try simp only [Act.put, List.getElem_toArray, List.getElem_cons_succ, List.getElem_cons_zero, List.setIfInBounds_toArray, List.set_cons_zero, List.set_cons_succ]
    refine wpAnyH_take (i := 7) (v := .slice (some ⟨b0, o0 + (k + 1), none⟩) (L.length - (k + 1)) (c - (k + 1))) rfl (by kernel_rfl) (by kernel_rfl) (by kernel_rfl) (fun _ _ _ h => h) (Or.inl ⟨by kernel_rfl, ?_⟩) (by assumption) ?_
    case refine_1 => (intro Wz hSw; have u := HCk.out; go_simp; try with_reducible rfl)
    try simp only [Act.put, List.getElem_toArray, List.getElem_cons_succ, List.getElem_cons_zero, List.setIfInBounds_toArray, List.set_cons_zero, List.set_cons_succ]
    refine wpAnyH_ready (rs := [3]) (by kernel_rfl) (by simp) ?_
    refine AllReadyH.cons rfl (fun K hK => ?_) AllReadyH.nil
    go_simp
    refine (hOwn.out _ hHeld0).mono ?_
    rintro e x1 ⟨v1, rfl, ho1, hbb⟩
    have hHeld1 : (fun Wz : World => Below w.heap.size w Wz) x1 := hHeld0.trans (hbb.mono hHeld0.size)
    have hsz1 := Nat.le_trans hHeld0.size hbb.size
    have hsz2 := hbb.size
    clear hbb
    go_simp
    refine hK.out _ _ hHeld1 (fun hHeld2 => ?_)
    clear hK K hHeld2
    try simp only [Act.put, List.getElem_toArray, List.getElem_cons_succ, List.getElem_cons_zero, List.setIfInBounds_toArray, List.set_cons_zero, List.set_cons_succ]
    refine wpAnyH_ready (rs := [8]) (by kernel_rfl) (by simp) ?_
    refine AllReadyH.cons rfl (fun K hK => ?_) AllReadyH.nil
    refine joinS_runV _ _ _ _ _ _ _ rfl w9.drew.heap.size _ _ (L.take k) (L.drop (k + 1)) rfl rfl ho1 (HDr.out x1 hHeld1 (c - (k + 1))) (fun n c h => by injection h with h1; cases h1) hsz2 (by simp only [List.length_take, List.length_drop]; have := HLn.out; omega) (fun vj wj hoj hgj => ?_)
    have hHeld2x : (fun Wz : World => Below w.heap.size w Wz) wj := below_grV hHeld1 hgj ho1 hHeld0.size
    have hsj := isStrs_own hoj
    clear hgj hoj ho1 hsz1 hsz2
    refine hK.out _ _ hHeld2x (fun hHeld2 => ?_)
    clear hK K hHeld2
    try simp only [Act.put, List.getElem_toArray, List.getElem_cons_succ, List.getElem_cons_zero, List.setIfInBounds_toArray, List.set_cons_zero, List.set_cons_succ]
    refine wpAnyH_take (i := 9) (v := ?_) rfl (by kernel_rfl) (by kernel_rfl) (by kernel_rfl) (fun _ _ _ h => h) (Or.inl ⟨by kernel_rfl, ?_⟩) (by assumption) ?_
    case refine_2 => (intro Wz hSw; go_simp; try with_reducible rfl)
    try simp only [Act.put, List.getElem_toArray, List.getElem_cons_succ, List.getElem_cons_zero, List.setIfInBounds_toArray, List.set_cons_zero, List.set_cons_succ]
    refine wpAnyH_done (by kernel_rfl) ?_ _
    obtain ⟨aj, nj, cj, rfl⟩ : ∃ a n c, vj = .slice a n c := by obtain ⟨a, c, h, -⟩ := hsj; exact ⟨a, _, c, h⟩
    have HBj := Lib.hid hHeld2x
    clear hsj hHeld2x hHeld1 hHeld0
    go_wp2_with fail
    go_ret
    exact ⟨rfl, HBj.out⟩

set_option maxHeartbeats 8000000 in
set_option maxRecDepth 100000 in
theorem vk_true (va vb : Value) (la lb : List (Bs × Bs)) (L : List Bs) (out : Int) (w : World) (ka kb : Bs) (aa ab : Option Addr) (ca cb c b0 o0 : Nat) (ea : va = .slice aa la.length ca) (eb : vb = .slice ab lb.length cb) (hL0 : L ≠ []) (hcap : L.length ≤ c) (H : Hid (VkH w va vb (.slice (some ⟨b0, o0, none⟩) L.length c) la lb L out true true true true ka kb)) :
    Calls Tryd.prog 4 #[va, vb, .slice (some ⟨b0, o0, none⟩) L.length c, .int .i64 out] w fun e w' => e = .returned (.bool true) ∧ Below w.heap.size w w' := by
  subst ea eb
  have hpos : L.length ≠ 0 := fun e => hL0 (List.eq_nil_of_length_eq_zero e)
  have e0 : ((L.length : Int) == 0) = false := by rw [beq_eq_false_iff_ne]; omega
  have HPos := Lib.hid hpos
  have HCap := Lib.hid hcap
  have HLn := Lib.hid (H.out.ln rfl)
  have HPk := Lib.hid (fun W : World => pick_any out L.length W (by omega) (by have := H.out.ln rfl; omega))
  unfold PickPost at HPk
  clear hL0 hpos hcap
  have B0 := Lib.hid (Below.refl w.heap.size w)
  go_enter Tryd.func4, Tryd.ntmps4
  go_wp2_with fail
  refine (H.out.lv _).mono ?_
  rintro e w1 ⟨rfl, hb⟩
  have B1 := Lib.hid (B0.out.trans (hb.mono B0.out.size))
  clear hb
  go_wp2_with fail
  refine (H.out.ta _ B1.out).mono ?_
  rintro e w2 ⟨rfl, hb⟩
  have B2 := Lib.hid (B1.out.trans (hb.mono B1.out.size))
  clear hb
  go_wp2_with fail
  refine (H.out.tb _ B2.out).mono ?_
  rintro e w3 ⟨rfl, hb⟩
  have B3 := Lib.hid (B2.out.trans (hb.mono B2.out.size))
  clear hb
  go_wp2_with fail
  refine (H.out.tl _ B3.out).mono ?_
  rintro e w4 ⟨rfl, hb⟩
  have B4 := Lib.hid (B3.out.trans (hb.mono B3.out.size))
  clear hb
  have hmt := H.out.mt rfl rfl rfl _ L w4 (fun _ h => h) (H.out.ln rfl) (H.out.st _ B4.out) B4.out
  rw [H.out.ms] at hmt
  have HM := Lib.hid hmt
  clear hmt
  go_wp2_with fail
  refine (HM.out).mono ?_
  rintro e w5 ⟨rfl, hb⟩
  have B5 := Lib.hid (B4.out.trans (hb.mono B4.out.size))
  clear hb
  have heq := H.out.eq
  go_wp2_with fail
  refine (H.out.ea rfl rfl rfl _ B5.out).mono ?_
  rintro e w6 ⟨rfl, hb⟩
  have B6 := Lib.hid (B5.out.trans (hb.mono B5.out.size))
  clear hb
  go_wp2_with fail
  refine (H.out.eb rfl rfl rfl _ B6.out).mono ?_
  rintro e w7 ⟨rfl, hb⟩
  have B7 := Lib.hid (B6.out.trans (hb.mono B6.out.size))
  clear hb
  go_wp2_with fail
  refine (H.out.mb rfl rfl rfl _ B7.out).mono ?_
  rintro e w8 ⟨rfl, hb⟩
  have B8 := Lib.hid (B7.out.trans (hb.mono B7.out.size))
  clear hb
  go_wp2_with fail
  refine (H.out.ma rfl rfl rfl _ B8.out).mono ?_
  rintro e w9 ⟨rfl, hb⟩
  have B9 := Lib.hid (B8.out.trans (hb.mono B8.out.size))
  clear hb
  go_wp2_with fail
  refine (HPk.out _).mono ?_
  rintro e wp ⟨k, hk, rfl, rfl⟩
  have HK := Lib.hid hk
  have hstr := H.out.st _ B9.out
  have hOwn : Hid (∀ W : World, Below w.heap.size w W → Calls Tryd.prog 17 #[.slice (some ⟨b0, o0, none⟩) k c] W fun e w' => ∃ v', e = .returned v' ∧ w'.ownsRow W.heap.size 9 1 v' (L.take k).length (strs (L.take k)) ∧ Below W.heap.size W w') := fun W hb => by
    have h := ownS_anyV (.slice (some ⟨b0, o0, none⟩) k c) (L.take k) W (strs_takeV (H.out.st W hb) hk) (fun n c h => by injection h with h1; cases h1) (by rw [List.length_take]; have := H.out.ln rfl; omega)
    exact h
  have hwk : IntKind.i64.wrap ((k : Int) + 1) = ((k + 1 : Nat) : Int) := by rw [IntWalk.i64_in _ (by have := HLn.out; omega)]; omega
  have k0 : (0 : Int) ≤ (k : Int) := by omega
  have k01 : (0 : Int) ≤ (k : Int) + 1 := by omega
  have k1 : (k : Int) ≤ (c : Int) := by have := HCap.out; omega
  have k2 : (k : Int) + 1 ≤ (L.length : Int) := by omega
  have k3 : (L.length : Int) ≤ (c : Int) := by have := HCap.out; omega
  have HDr := Lib.hid (fun (W : World) (hb : Below w.heap.size w W) (c2 : Nat) => strs_dropV (H.out.st W hb) hk c2)
  clear hk hstr
  go_upto_region 11 with fail
  have hHeld0 : (fun Wz : World => Below w.heap.size w Wz) w9.drew := B9.out.drew
  by_cases hck : c = k + 1
  · have HCk := Lib.hid hck
    have hz : (c : Int) - ((k + 1 : Nat) : Int) = 0 := by omega
    have hz2 : L.length - (k + 1) = 0 := by omega
    have hz3 : c - (k + 1) = 0 := by omega
    clear hck
    refine wp_region_held_drew (S := (fun Wz : World => Below w.heap.size w Wz)) (by kernel_rfl) hHeld0 (fun hHeld => ?_)
    refine wpAnyH_take (i := 0) (v := .slice (some ⟨b0, o0, none⟩) L.length c) rfl (by kernel_rfl) (by kernel_rfl) (by kernel_rfl) (fun _ _ _ h => h) (Or.inl ⟨by kernel_rfl, ?_⟩) (by assumption) ?_
    case refine_1 => (intro Wz hSw; go_simp; try with_reducible rfl)
    try simp only [Act.put, List.getElem_toArray, List.getElem_cons_zero, List.setIfInBounds_toArray, List.set_cons_zero, List.set_cons_succ]
    refine wpAnyH_take (i := 1) (v := .int .i64 (k : Int)) rfl (by kernel_rfl) (by kernel_rfl) (by kernel_rfl) (fun _ _ _ h => h) (Or.inl ⟨by kernel_rfl, ?_⟩) (by assumption) ?_
    case refine_1 => (intro Wz hSw; go_simp; try with_reducible rfl)
    try simp only [Act.put, List.getElem_toArray, List.getElem_cons_succ, List.getElem_cons_zero, List.setIfInBounds_toArray, List.set_cons_zero, List.set_cons_succ]
    refine wpAnyH_take (i := 2) (v := .slice (some ⟨b0, o0, none⟩) k c) rfl (by kernel_rfl) (by kernel_rfl) (by kernel_rfl) (fun _ _ _ h => h) (Or.inl ⟨by kernel_rfl, ?_⟩) (by assumption) ?_
    case refine_1 => (intro Wz hSw; go_simp; try with_reducible rfl)
    try simp only [Act.put, List.getElem_toArray, List.getElem_cons_succ, List.getElem_cons_zero, List.setIfInBounds_toArray, List.set_cons_zero, List.set_cons_succ]
    refine wpAnyH_take (i := 4) (v := .slice (some ⟨b0, o0, none⟩) L.length c) rfl (by kernel_rfl) (by kernel_rfl) (by kernel_rfl) (fun _ _ _ h => h) (Or.inl ⟨by kernel_rfl, ?_⟩) (by assumption) ?_
    case refine_1 => (intro Wz hSw; go_simp; try with_reducible rfl)
    try simp only [Act.put, List.getElem_toArray, List.getElem_cons_succ, List.getElem_cons_zero, List.setIfInBounds_toArray, List.set_cons_zero, List.set_cons_succ]
    refine wpAnyH_take (i := 5) (v := .int .i64 (k : Int)) rfl (by kernel_rfl) (by kernel_rfl) (by kernel_rfl) (fun _ _ _ h => h) (Or.inl ⟨by kernel_rfl, ?_⟩) (by assumption) ?_
    case refine_1 => (intro Wz hSw; go_simp; try with_reducible rfl)
    try simp only [Act.put, List.getElem_toArray, List.getElem_cons_succ, List.getElem_cons_zero, List.setIfInBounds_toArray, List.set_cons_zero, List.set_cons_succ]
    refine wpAnyH_take (i := 6) (v := .int .i64 ((k + 1 : Nat) : Int)) rfl (by kernel_rfl) (by kernel_rfl) (by kernel_rfl) (fun _ _ _ h => h) (Or.inl ⟨by kernel_rfl, ?_⟩) (by assumption) ?_
    case refine_1 => (intro Wz hSw; go_simp; try with_reducible rfl)
    try simp only [Act.put, List.getElem_toArray, List.getElem_cons_succ, List.getElem_cons_zero, List.setIfInBounds_toArray, List.set_cons_zero, List.set_cons_succ]
    refine wpAnyH_take (i := 7) (v := .slice (some ⟨b0, o0, none⟩) 0 0) rfl (by kernel_rfl) (by kernel_rfl) (by kernel_rfl) (fun _ _ _ h => h) (Or.inl ⟨by kernel_rfl, ?_⟩) (by assumption) ?_
    case refine_1 => (intro Wz hSw; have u := HCk.out; go_simp; try with_reducible rfl)
    try simp only [Act.put, List.getElem_toArray, List.getElem_cons_succ, List.getElem_cons_zero, List.setIfInBounds_toArray, List.set_cons_zero, List.set_cons_succ]
    refine wpAnyH_ready (rs := [3]) (by kernel_rfl) (by simp) ?_
    refine AllReadyH.cons rfl (fun K hK => ?_) AllReadyH.nil
    go_simp
    refine (hOwn.out _ hHeld0).mono ?_
    rintro e x1 ⟨v1, rfl, ho1, hbb⟩
    have hHeld1 : (fun Wz : World => Below w.heap.size w Wz) x1 := hHeld0.trans (hbb.mono hHeld0.size)
    have hsz1 := Nat.le_trans hHeld0.size hbb.size
    have hsz2 := hbb.size
    clear hbb
    go_simp
    refine hK.out _ _ hHeld1 (fun hHeld2 => ?_)
    clear hK K hHeld2
    try simp only [Act.put, List.getElem_toArray, List.getElem_cons_succ, List.getElem_cons_zero, List.setIfInBounds_toArray, List.set_cons_zero, List.set_cons_succ]
    refine wpAnyH_ready (rs := [8]) (by kernel_rfl) (by simp) ?_
    refine AllReadyH.cons rfl (fun K hK => ?_) AllReadyH.nil
    refine joinS_runV _ _ _ _ _ _ _ rfl w9.drew.heap.size _ _ (L.take k) [] rfl rfl ho1 ⟨_, _, rfl, fun j t hj => by simp at hj⟩ (fun n c h => by injection h with h1; cases h1) hsz2 (by simp only [List.length_take, List.length_nil]; have := HLn.out; omega) (fun vj wj hoj hgj => ?_)
    have hHeld2x : (fun Wz : World => Below w.heap.size w Wz) wj := below_grV hHeld1 hgj ho1 hHeld0.size
    have hsj := isStrs_own hoj
    clear hgj hoj ho1 hsz1 hsz2
    refine hK.out _ _ hHeld2x (fun hHeld2 => ?_)
    clear hK K hHeld2
    try simp only [Act.put, List.getElem_toArray, List.getElem_cons_succ, List.getElem_cons_zero, List.setIfInBounds_toArray, List.set_cons_zero, List.set_cons_succ]
    refine wpAnyH_take (i := 9) (v := ?_) rfl (by kernel_rfl) (by kernel_rfl) (by kernel_rfl) (fun _ _ _ h => h) (Or.inl ⟨by kernel_rfl, ?_⟩) (by assumption) ?_
    case refine_2 => (intro Wz hSw; go_simp; try with_reducible rfl)
    try simp only [Act.put, List.getElem_toArray, List.getElem_cons_succ, List.getElem_cons_zero, List.setIfInBounds_toArray, List.set_cons_zero, List.set_cons_succ]
    refine wpAnyH_done (by kernel_rfl) ?_ _
    obtain ⟨aj, nj, cj, rfl⟩ : ∃ a n c, vj = .slice a n c := by obtain ⟨a, c, h, -⟩ := hsj; exact ⟨a, _, c, h⟩
    have hsub : ∀ x ∈ L.take k ++ [], x ∈ L := fun x hx => by
      rcases List.mem_append.1 hx with h | h
      · exact List.mem_of_mem_take h
      · cases h
    have hl2 : (L.take k ++ []).length ≤ 20 := by simp only [List.length_append, List.length_take, List.length_nil]; have := HLn.out; omega
    have hm2 := H.out.mt rfl rfl rfl _ _ wj hsub hl2 hsj hHeld2x
    have hmm : mchV la lb (L.take k ++ []) = true := mat_sub _ _ L _ hsub H.out.ms
    rw [hmm] at hm2
    have HM2 := Lib.hid hm2
    have HBj := Lib.hid hHeld2x
    clear hm2 hmm hsub hl2 hsj hHeld2x hHeld1 hHeld0
    go_wp2_with fail
    refine HM2.out.mono ?_
    rintro e wl ⟨rfl, hb⟩
    have HBl := Lib.hid (HBj.out.trans (hb.mono HBj.out.size))
    clear hb
    go_wp2_with fail
    go_ret
    exact ⟨rfl, HBl.out⟩

  · have HCk := Lib.hid hck
    have hz : ¬ ((c : Int) - ((k + 1 : Nat) : Int) = 0) := by have := HCap.out; omega
    have hz3 : ¬ (c - (k + 1) = 0) := by have := HCap.out; omega
    clear hck
    refine wp_region_held_drew (S := (fun Wz : World => Below w.heap.size w Wz)) (by kernel_rfl) hHeld0 (fun hHeld => ?_)
    refine wpAnyH_take (i := 0) (v := .slice (some ⟨b0, o0, none⟩) L.length c) rfl (by kernel_rfl) (by kernel_rfl) (by kernel_rfl) (fun _ _ _ h => h) (Or.inl ⟨by kernel_rfl, ?_⟩) (by assumption) ?_
    case refine_1 => (intro Wz hSw; go_simp; try with_reducible rfl)
    try simp only [Act.put, List.getElem_toArray, List.getElem_cons_zero, List.setIfInBounds_toArray, List.set_cons_zero, List.set_cons_succ]
    refine wpAnyH_take (i := 1) (v := .int .i64 (k : Int)) rfl (by kernel_rfl) (by kernel_rfl) (by kernel_rfl) (fun _ _ _ h => h) (Or.inl ⟨by kernel_rfl, ?_⟩) (by assumption) ?_
    case refine_1 => (intro Wz hSw; go_simp; try with_reducible rfl)
    try simp only [Act.put, List.getElem_toArray, List.getElem_cons_succ, List.getElem_cons_zero, List.setIfInBounds_toArray, List.set_cons_zero, List.set_cons_succ]
    refine wpAnyH_take (i := 2) (v := .slice (some ⟨b0, o0, none⟩) k c) rfl (by kernel_rfl) (by kernel_rfl) (by kernel_rfl) (fun _ _ _ h => h) (Or.inl ⟨by kernel_rfl, ?_⟩) (by assumption) ?_
    case refine_1 => (intro Wz hSw; go_simp; try with_reducible rfl)
    try simp only [Act.put, List.getElem_toArray, List.getElem_cons_succ, List.getElem_cons_zero, List.setIfInBounds_toArray, List.set_cons_zero, List.set_cons_succ]
    refine wpAnyH_take (i := 4) (v := .slice (some ⟨b0, o0, none⟩) L.length c) rfl (by kernel_rfl) (by kernel_rfl) (by kernel_rfl) (fun _ _ _ h => h) (Or.inl ⟨by kernel_rfl, ?_⟩) (by assumption) ?_
    case refine_1 => (intro Wz hSw; go_simp; try with_reducible rfl)
    try simp only [Act.put, List.getElem_toArray, List.getElem_cons_succ, List.getElem_cons_zero, List.setIfInBounds_toArray, List.set_cons_zero, List.set_cons_succ]
    refine wpAnyH_take (i := 5) (v := .int .i64 (k : Int)) rfl (by kernel_rfl) (by kernel_rfl) (by kernel_rfl) (fun _ _ _ h => h) (Or.inl ⟨by kernel_rfl, ?_⟩) (by assumption) ?_
    case refine_1 => (intro Wz hSw; go_simp; try with_reducible rfl)
    try simp only [Act.put, List.getElem_toArray, List.getElem_cons_succ, List.getElem_cons_zero, List.setIfInBounds_toArray, List.set_cons_zero, List.set_cons_succ]
    refine wpAnyH_take (i := 6) (v := .int .i64 ((k + 1 : Nat) : Int)) rfl (by kernel_rfl) (by kernel_rfl) (by kernel_rfl) (fun _ _ _ h => h) (Or.inl ⟨by kernel_rfl, ?_⟩) (by assumption) ?_
    case refine_1 => (intro Wz hSw; go_simp; try with_reducible rfl)
    try simp only [Act.put, List.getElem_toArray, List.getElem_cons_succ, List.getElem_cons_zero, List.setIfInBounds_toArray, List.set_cons_zero, List.set_cons_succ]
    refine wpAnyH_take (i := 7) (v := .slice (some ⟨b0, o0 + (k + 1), none⟩) (L.length - (k + 1)) (c - (k + 1))) rfl (by kernel_rfl) (by kernel_rfl) (by kernel_rfl) (fun _ _ _ h => h) (Or.inl ⟨by kernel_rfl, ?_⟩) (by assumption) ?_
    case refine_1 => (intro Wz hSw; have u := HCk.out; go_simp; try with_reducible rfl)
    try simp only [Act.put, List.getElem_toArray, List.getElem_cons_succ, List.getElem_cons_zero, List.setIfInBounds_toArray, List.set_cons_zero, List.set_cons_succ]
    refine wpAnyH_ready (rs := [3]) (by kernel_rfl) (by simp) ?_
    refine AllReadyH.cons rfl (fun K hK => ?_) AllReadyH.nil
    go_simp
    refine (hOwn.out _ hHeld0).mono ?_
    rintro e x1 ⟨v1, rfl, ho1, hbb⟩
    have hHeld1 : (fun Wz : World => Below w.heap.size w Wz) x1 := hHeld0.trans (hbb.mono hHeld0.size)
    have hsz1 := Nat.le_trans hHeld0.size hbb.size
    have hsz2 := hbb.size
    clear hbb
    go_simp
    refine hK.out _ _ hHeld1 (fun hHeld2 => ?_)
    clear hK K hHeld2
    try simp only [Act.put, List.getElem_toArray, List.getElem_cons_succ, List.getElem_cons_zero, List.setIfInBounds_toArray, List.set_cons_zero, List.set_cons_succ]
    refine wpAnyH_ready (rs := [8]) (by kernel_rfl) (by simp) ?_
    refine AllReadyH.cons rfl (fun K hK => ?_) AllReadyH.nil
    refine joinS_runV _ _ _ _ _ _ _ rfl w9.drew.heap.size _ _ (L.take k) (L.drop (k + 1)) rfl rfl ho1 (HDr.out x1 hHeld1 (c - (k + 1))) (fun n c h => by injection h with h1; cases h1) hsz2 (by simp only [List.length_take, List.length_drop]; have := HLn.out; omega) (fun vj wj hoj hgj => ?_)
    have hHeld2x : (fun Wz : World => Below w.heap.size w Wz) wj := below_grV hHeld1 hgj ho1 hHeld0.size
    have hsj := isStrs_own hoj
    clear hgj hoj ho1 hsz1 hsz2
    refine hK.out _ _ hHeld2x (fun hHeld2 => ?_)
    clear hK K hHeld2
    try simp only [Act.put, List.getElem_toArray, List.getElem_cons_succ, List.getElem_cons_zero, List.setIfInBounds_toArray, List.set_cons_zero, List.set_cons_succ]
    refine wpAnyH_take (i := 9) (v := ?_) rfl (by kernel_rfl) (by kernel_rfl) (by kernel_rfl) (fun _ _ _ h => h) (Or.inl ⟨by kernel_rfl, ?_⟩) (by assumption) ?_
    case refine_2 => (intro Wz hSw; go_simp; try with_reducible rfl)
    try simp only [Act.put, List.getElem_toArray, List.getElem_cons_succ, List.getElem_cons_zero, List.setIfInBounds_toArray, List.set_cons_zero, List.set_cons_succ]
    refine wpAnyH_done (by kernel_rfl) ?_ _
    obtain ⟨aj, nj, cj, rfl⟩ : ∃ a n c, vj = .slice a n c := by obtain ⟨a, c, h, -⟩ := hsj; exact ⟨a, _, c, h⟩
    have hsub : ∀ x ∈ L.take k ++ (L.drop (k + 1)), x ∈ L := fun x hx => by
      rcases List.mem_append.1 hx with h | h
      · exact List.mem_of_mem_take h
      · exact List.mem_of_mem_drop h
    have hl2 : (L.take k ++ (L.drop (k + 1))).length ≤ 20 := by simp only [List.length_append, List.length_take, List.length_drop]; have := HLn.out; omega
    have hm2 := H.out.mt rfl rfl rfl _ _ wj hsub hl2 hsj hHeld2x
    have hmm : mchV la lb (L.take k ++ (L.drop (k + 1))) = true := mat_sub _ _ L _ hsub H.out.ms
    rw [hmm] at hm2
    have HM2 := Lib.hid hm2
    have HBj := Lib.hid hHeld2x
    clear hm2 hmm hsub hl2 hsj hHeld2x hHeld1 hHeld0
    go_wp2_with fail
    refine HM2.out.mono ?_
    rintro e wl ⟨rfl, hb⟩
    have HBl := Lib.hid (HBj.out.trans (hb.mono HBj.out.size))
    clear hb
    go_wp2_with fail
    go_ret
    exact ⟨rfl, HBl.out⟩

/-- VaryKeys -/
theorem vkeys_any (va vb v : Value) (la lb : List (Bs × Bs)) (L : List Bs) (out : Int) (w : World) (ha : IsFlds w va la) (hb : IsFlds w vb lb) (hs : IsStrs w v L) (hcp : ∀ a n c, v = .slice a n c → n ≤ c)
    (hza : ∀ f ∈ la, f.1.length ≤ 140737488351232 ∧ f.2.length ≤ 140737488351232) (hna : la.length ≤ 140737488351232) (hzb : ∀ f ∈ lb, f.1.length ≤ 140737488351232 ∧ f.2.length ≤ 140737488351232) (hnb : lb.length ≤ 140737488351232)
    (hzl : ∀ x ∈ L, x.length ≤ 140737488351232) (hnl : L.length ≤ 140737488351232) (hU : Utf w) (hT : TenV w) :
    Calls Tryd.prog 4 #[va, vb, v, .int .i64 out] w fun e w' => e = .returned (.bool true) ∧ Below w.heap.size w w' := by
  have hU2 := fun (W : World) (h : Below w.heap.size w W) => hU.later h
  have H : VkH w va vb v la lb L out (lightU la) (lightU lb) (lightX 20 300 L) (mchV la lb L) (keyV (vlV la) L) (keyV (vlV lb) L) := {
    lv := fun W => lives12_any W
    ta := fun W h => (vlight_any va la W (isFlds_below ha h) hza hna).mono fun e w' ⟨h1, n, h2⟩ => ⟨h1, h2 ▸ below_drewsV W n⟩
    tb := fun W h => (vlight_any vb lb W (isFlds_below hb h) hzb hnb).mono fun e w' ⟨h1, n, h2⟩ => ⟨h1, h2 ▸ below_drewsV W n⟩
    tl := fun W h => (lightX_any 20 300 v L W (by decide) (by decide) (isStrsV_below hs h) hzl hnl).mono fun e w' ⟨h1, h2⟩ => ⟨h1, h2 ▸ Below.refl _ _⟩
    mt := fun qa qb qL v2 R W hsub hR hsR h => by
      obtain ⟨a1, a2⟩ := lightU_parts la qa
      obtain ⟨b1, b2⟩ := lightU_parts lb qb
      obtain ⟨l1, l2⟩ := lightX_parts 20 300 L qL
      exact match_any v2 va vb la lb R W hsR (hU2 W h) (isFlds_below ha h) (isFlds_below hb h) (by omega) (by omega) (by omega) (by omega) (fun x hx => by have := l2 x (hsub x hx); omega) (by omega)
    mb := fun qa qb qL W h => by
      obtain ⟨a1, a2⟩ := lightU_parts la qa
      obtain ⟨b1, b2⟩ := lightU_parts lb qb
      obtain ⟨l1, l2⟩ := lightX_parts 20 300 L qL
      have h1 := match_any v vb va lb la L W (isStrsV_below hs h) (hU2 W h) (isFlds_below hb h) (isFlds_below ha h) (by omega) (by omega) (by omega) (by omega) (fun x hx => by have := l2 x hx; omega) (by omega)
      rw [show mchV lb la L = mchV la lb L from mat_symm _ _ L] at h1
      exact h1
    ma := fun qa qb qL W h => by
      obtain ⟨a1, a2⟩ := lightU_parts la qa
      obtain ⟨l1, l2⟩ := lightX_parts 20 300 L qL
      have h1 := match_any v va va la la L W (isStrsV_below hs h) (hU2 W h) (isFlds_below ha h) (isFlds_below ha h) (by omega) (by omega) (by omega) (by omega) (fun x hx => by have := l2 x hx; omega) (by omega)
      rw [show mchV la la L = true from mat_refl _ L] at h1
      exact h1
    ea := fun qa qb qL W h => by
      obtain ⟨a1, a2⟩ := lightU_parts la qa
      obtain ⟨l1, l2⟩ := lightX_parts 20 300 L qL
      exact key_any v va la L W (isStrsV_below hs h) (hU2 W h) (hT.later h) (isFlds_below ha h) (by omega) (by omega) (fun x hx => by have := l2 x hx; omega) (by omega)
    eb := fun qa qb qL W h => by
      obtain ⟨b1, b2⟩ := lightU_parts lb qb
      obtain ⟨l1, l2⟩ := lightX_parts 20 300 L qL
      exact key_any v vb lb L W (isStrsV_below hs h) (hU2 W h) (hT.later h) (isFlds_below hb h) (by omega) (by omega) (fun x hx => by have := l2 x hx; omega) (by omega)
    ms := rfl
    eq := by
      rw [beq_mkS', Bool.eq_iff_iff, decide_eq_true_eq]
      exact key_iff (vlV la) (vlV lb) L
    st := fun W h => isStrsV_below hs h
    ln := fun h => (lightX_parts 20 300 L h).1 }
  obtain ⟨aa, ca, ea⟩ : ∃ a c, va = .slice a la.length c := by obtain ⟨a, c, h, -⟩ := ha; exact ⟨a, c, h⟩
  obtain ⟨ab, cb, eb⟩ : ∃ a c, vb = .slice a lb.length c := by obtain ⟨a, c, h, -⟩ := hb; exact ⟨a, c, h⟩
  obtain ⟨a, c, el⟩ : ∃ a c, v = .slice a L.length c := by obtain ⟨a, c, h, -⟩ := hs; exact ⟨a, c, h⟩
  have hcp2 := hcp _ _ _ el

  generalize lightU la = qa at H
  generalize lightU lb = qb at H
  generalize lightX 20 300 L = qL at H
  cases qa
  · exact vk_a va vb v la lb L out w _ qb qL _ _ aa ab a ca cb c ea eb el H
  cases qb
  · exact vk_b va vb v la lb L out w _ qL _ _ aa ab a ca cb c ea eb el H
  cases qL
  · exact vk_l va vb v la lb L out w _ _ _ aa ab a ca cb c ea eb el H
  by_cases hL : L = []
  · subst hL
    subst el
    exact vk_none va vb la lb out w _ _ aa ab a ca cb c ea eb H
  · obtain ⟨a', c', e', hc⟩ := hs
    obtain ⟨x, hx⟩ : ∃ x, L[0]? = some x := by
      cases L with
      | nil => exact absurd rfl hL
      | cons x t => exact ⟨x, rfl⟩
    obtain ⟨b0, o0, rfl, -⟩ := hc 0 x hx
    have e3 := el.symm.trans e'
    injection e3 with e4 _ e5
    subst e4 e5 el
    cases hm : mchV la lb L
    · rw [hm] at H
      exact vk_false va vb la lb L out w _ _ aa ab ca cb c b0 o0 ea eb hL hcp2 H
    · rw [hm] at H
      exact vk_true va vb la lb L out w _ _ aa ab ca cb c b0 o0 ea eb hL hcp2 H

end Tk
end Go.Proofs.YthooghgiokgdhaaDoor
