/- field.Same: two lists of fields held against each other. -/
import Derived.Test.YtanilbckakoogaaDoorFldM
import Derived.Test.YtanilbckakoogaaDoorSam
namespace Go.Proofs.YtanilbckakoogaaDoor
open Go.RowKit
namespace Tk

def eqF (f g : Bs × Bs) : Bool := decide (lowL f.1 = lowL g.1) && decide (f.2 = g.2)
def sameFs : List (Bs × Bs) → List (Bs × Bs) → Bool
  | [], [] => true
  | f :: t, g :: u => eqF f g && sameFs t u
  | _, _ => false

theorem below_some_draws {w w1 : World} (h : Below w.heap.size w w1) (n : Nat) : Below w.heap.size w (w1.drewN n) := h.trans ⟨rfl, rfl, rfl, Nat.le_refl _, fun _ _ => rfl⟩
theorem beq_mkS' (a b : Bs) : ((mkS a).toList == (mkS b).toList) = decide (a = b) := by
  rw [toList_bs, toList_bs, bs_mkS, bs_mkS]
  by_cases h : a = b <;> simp [h]

set_option maxHeartbeats 2000000 in
set_option maxRecDepth 100000 in
theorem same1_any (n x m y : Bs) (w : World) (hn : n.length ≤ 1099511627776) (hm : m.length ≤ 1099511627776) :
    Calls Tryd.prog 70 #[.agg #[.string (mkS n), .string (mkS x)], .agg #[.string (mkS m), .string (mkS y)]] w fun e w' => e = .returned (.bool (eqF (n, x) (m, y))) ∧ Below w.heap.size w w' := by
  have HS := fun W : World => tsame_any (mkS n) (mkS m) W (by rw [size_mkS]; exact hn) (by rw [size_mkS]; exact hm)
  rw [bs_mkS, bs_mkS] at HS
  have hv : eqF (n, x) (m, y) = (decide (lowL n = lowL m) && decide (x = y)) := rfl
  have hxy := beq_mkS' x y
  have HV := Lib.hid hv
  clear hv
  generalize decide (x = y) = d at *
  generalize decide (lowL n = lowL m) = c at *
  have HS2 := Lib.hid HS
  clear HS
  cases c
  all_goals
    go_enter Tryd.func70, Tryd.ntmps70
    go_wp2_with fail
    refine (HS2.out _).mono ?_
    rintro e w' ⟨rfl, k, rfl⟩
    go_wp2_with fail
    go_ret
    refine ⟨by rw [HV.out]; rfl, below_some_draws ?_ _⟩
    exact ((Below.refl _ _).alloc (Nat.le_refl _) _).alloc (by simp) _

theorem sameFs_drop (l m : List (Bs × Bs)) (i : Nat) (hi : i < l.length) (hm : i < m.length) : sameFs (l.drop i) (m.drop i) = (eqF (l.getD i ([], [])) (m.getD i ([], [])) && sameFs (l.drop (i + 1)) (m.drop (i + 1))) := by
  rw [List.drop_eq_getElem_cons hi, List.drop_eq_getElem_cons hm, sameFs]
  simp [List.getD, hi, hm]
theorem sameFs_len : ∀ (l m : List (Bs × Bs)), sameFs l m = true → l.length = m.length
  | [], [], _ => rfl
  | f :: t, g :: u, h => by
    simp only [sameFs, Bool.and_eq_true] at h
    have := sameFs_len t u h.2
    simp [this]
  | [], _ :: _, h => by simp [sameFs] at h
  | _ :: _, [], h => by simp [sameFs] at h

set_option maxHeartbeats 4000000 in
set_option maxRecDepth 100000 in
theorem efunc_any (v1 v2 : Value) (l m : List (Bs × Bs)) (w : World) (h1 : IsFlds w v1 l) (h2 : IsFlds w v2 m) (hz : ∀ f, f ∈ l ∨ f ∈ m → f.1.length ≤ 1099511627776) (hl : l.length ≤ 1099511627) (_hm : m.length ≤ 1099511627) :
    Calls Tryd.prog 69 #[v1, v2, .func (.func 70) #[] #[]] w fun e w' => e = .returned (.bool (sameFs l m)) ∧ Below w.heap.size w w' := by
  have H1 := Lib.hid h1
  have H2 := Lib.hid h2
  have HZ := Lib.hid hz
  obtain ⟨a1, c1, rfl⟩ : ∃ a cap, v1 = .slice a l.length cap := by obtain ⟨a, c, h, -⟩ := h1; exact ⟨a, c, h⟩
  obtain ⟨a2, c2, rfl⟩ : ∃ a cap, v2 = .slice a m.length cap := by obtain ⟨a, c, h, -⟩ := h2; exact ⟨a, c, h⟩
  clear h1 h2 hz
  by_cases hlm : l.length = m.length
  · have hb : ((l.length : Int) != (m.length : Int)) = false := by rw [hlm]; simp
    have HLM := Lib.hid hlm
    clear hlm
    go_enter Tryd.func69, Tryd.ntmps69
    go_wp2_with fail
    go_loopw [17] (fun vi wr => ∃ i : Nat, i ≤ l.length ∧ vi = .int .i64 i ∧ Hid (sameFs l m = sameFs (l.drop i) (m.drop i)) ∧ Hid (Below w.heap.size w wr)) (fun vi _ => l.length - (RowKit.intOf vi).toNat)
    case atStart => exact ⟨0, Nat.zero_le _, rfl, rfl, Below.refl _ _⟩
    case round =>
      obtain ⟨i, hi, rfl, hd, HB⟩ := hrel
      rename World => W
      by_cases hlt : i < l.length
      · have hlt2 : i < m.length := by have := HLM.out; omega
        obtain ⟨a1', c1', e', -, hc1⟩ := isFlds_below H1.out HB.out
        injection e' with e1 _ e2
        subst e1 e2
        obtain ⟨a2', c2', e', -, hc2⟩ := isFlds_below H2.out HB.out
        injection e' with e1 _ e2
        subst e1 e2
        obtain ⟨b1, o1, rfl, p0, p1⟩ := hc1 i (l.getD i ([], [])) (by simp [List.getD, hlt])
        obtain ⟨b2, o2, rfl, q0, q1⟩ := hc2 i (m.getD i ([], [])) (by simp [List.getD, hlt2])
        have z1 := HZ.out (l.getD i ([], [])) (.inl (by simp [List.getD, hlt]))
        have z2 := HZ.out (m.getD i ([], [])) (.inr (by simp [List.getD, hlt2]))
        have hst := sameFs_drop l m i hlt hlt2
        have HST := Lib.hid hst
        clear hc1 hc2 hst
        generalize l.getD i ([], []) = f at *
        generalize m.getD i ([], []) = g at *
        obtain ⟨n, x⟩ := f
        obtain ⟨k, y⟩ := g
        simp only at z1 z2 p0 p1 q0 q1
        have g0 : (0 : Int) ≤ (i : Int) := by omega
        have g1 : (i : Int) < (l.length : Int) := by omega
        have g2 : (i : Int) < (m.length : Int) := by omega
        have HC := fun W : World => same1_any n x k y W z1 z2
        have hlt2' : b2 < W.heap.size := cell_lt (p := ⟨b2, o2 + i * 2, none⟩) q0
        have r0 : (W.alloc (Obj.cells #[.string (mkS n), .string (mkS x)] 26)).cell? ⟨b2, o2 + i * 2, none⟩ = some (.string (mkS k)) := (World.cell?_alloc_lt W _ _ hlt2').trans q0
        have r1 : (W.alloc (Obj.cells #[.string (mkS n), .string (mkS x)] 26)).cell? ⟨b2, o2 + i * 2 + 1, none⟩ = some (.string (mkS y)) := (World.cell?_alloc_lt W _ _ hlt2').trans q1
        have hbb : Below W.heap.size W ((W.alloc (Obj.cells #[.string (mkS n), .string (mkS x)] 26)).alloc (Obj.cells #[.string (mkS k), .string (mkS y)] 26)) := ((Below.refl _ _).alloc (Nat.le_refl _) _).alloc (by simp) _
        have HB2 := Lib.hid (HB.out.trans (hbb.mono HB.out.size))
        clear hbb
        cases hv : eqF (n, x) (k, y)
        · rw [hv] at HC
          have fin : sameFs l m = false := by rw [hd.out, HST.out, hv]; rfl
          have HF := Lib.hid fin
          have HC2 := Lib.hid HC
          clear HC fin hv
          go_wp2_with fail
          refine (HC2.out _).mono ?_
          rintro e w' ⟨rfl, hb'⟩
          have HB3 := Lib.hid (HB2.out.trans (hb'.mono HB2.out.size))
          clear hb'
          go_wp2_with fail
          go_ret
          exact ⟨by rw [HF.out]; rfl, HB3.out⟩
        · rw [hv] at HC
          have nx : sameFs l m = sameFs (l.drop (i + 1)) (m.drop (i + 1)) := by rw [hd.out, HST.out, hv]; rfl
          have HX := Lib.hid nx
          have HC2 := Lib.hid HC
          clear HC nx hv
          go_wp2_with fail
          refine (HC2.out _).mono ?_
          rintro e w' ⟨rfl, hb'⟩
          have HB3 := Lib.hid (HB2.out.trans (hb'.mono HB2.out.size))
          clear hb'
          go_wp2_with fail
          exact ⟨⟨i + 1, by omega, by go_num, HX, HB3⟩, by simp [RowKit.intOf]; omega⟩
      · have fin : sameFs l m = true := by
          have := HLM.out
          rw [hd.out, List.drop_eq_nil_of_le (by omega), List.drop_eq_nil_of_le (by omega)]; rfl
        have HF := Lib.hid fin
        clear fin
        go_wp2_with fail
        go_ret
        exact ⟨by rw [HF.out]; rfl, HB.out⟩
  · have hb : ((l.length : Int) != (m.length : Int)) = true := by simp; omega
    have fin : sameFs l m = false := by
      cases h : sameFs l m
      · rfl
      · exact absurd (sameFs_len l m h) hlm
    have HF := Lib.hid fin
    clear fin hlm
    go_enter Tryd.func69, Tryd.ntmps69
    go_wp2_with fail
    go_ret
    exact ⟨by rw [HF.out]; rfl, Below.refl _ _⟩

set_option maxHeartbeats 4000000 in
set_option maxRecDepth 100000 in
theorem fsame_any (v1 v2 : Value) (l m : List (Bs × Bs)) (w : World) (h1 : IsFlds w v1 l) (h2 : IsFlds w v2 m) (hz : ∀ f, f ∈ l ∨ f ∈ m → f.1.length ≤ 1099511627776) (hl : l.length ≤ 1099511627) (hm : m.length ≤ 1099511627) :
    Calls Tryd.prog 30 #[v1, v2] w fun e w' => e = .returned (.bool (sameFs l m)) ∧ Below w.heap.size w w' := by
  have H := Lib.hid (efunc_any v1 v2 l m w h1 h2 hz hl hm)
  obtain ⟨a1, c1, rfl⟩ : ∃ a cap, v1 = .slice a l.length cap := by obtain ⟨a, c, h, -⟩ := h1; exact ⟨a, c, h⟩
  obtain ⟨a2, c2, rfl⟩ : ∃ a cap, v2 = .slice a m.length cap := by obtain ⟨a, c, h, -⟩ := h2; exact ⟨a, c, h⟩
  clear h1 h2 hz
  go_enter Tryd.func30, Tryd.ntmps30
  go_wp2_with fail
  refine H.out.mono ?_
  rintro e w' ⟨rfl, hb⟩
  have HB := Lib.hid hb
  clear hb
  go_wp2_with fail
  go_ret
  exact ⟨rfl, HB.out⟩
end Tk
end Go.Proofs.YtanilbckakoogaaDoor
