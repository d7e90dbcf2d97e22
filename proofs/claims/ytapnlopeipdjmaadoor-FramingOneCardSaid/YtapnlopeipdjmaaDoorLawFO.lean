/- The law FramingOne: its walk. -/
import Derived.Test.YtapnlopeipdjmaaDoorFrmE
import Derived.Test.YtapnlopeipdjmaaDoorFrmO
import Derived.Test.YtapnlopeipdjmaaDoorRefF
namespace Go.Proofs.YtapnlopeipdjmaaDoor
open Go.RowKit
namespace Tk

set_option maxRecDepth 100000 in
set_option maxHeartbeats 4000000 in
theorem fone_big (v : Value) (l : List (Bs × Bs)) (t : ByteArray) (s m : Int) (w : World) (hs : IsFlds w v l) (hz : ∀ f ∈ l, f.1.length ≤ 140737488351232 ∧ f.2.length ≤ 140737488351232) (hl : l.length ≤ 140737488351232) (h : lightF l = false ∨ (lightF l = true ∧ ¬ t.size ≤ 60)) :
    Calls Tryd.prog 5 #[v, .string t, .int .i64 s, .int .i64 m] w (Yes2 w) := by
  have HL := Lib.hid (lives04_any w)
  have HG := Lib.hid (fun (W : World) (hb : Below w.heap.size w W) => light04_any v l W (isFlds_below hs hb) hz hl)
  obtain ⟨a, cap, rfl⟩ : ∃ a cap, v = .slice a l.length cap := by obtain ⟨a, c, h, -⟩ := hs; exact ⟨a, c, h⟩
  unfold Yes2 at HL ⊢
  clear hs hz
  rcases h with h | ⟨h, h2⟩
  all_goals
    rw [h] at HG
    clear h
    go_enter Tryd.func5, Tryd.ntmps5
    go_wp2_with fail
    refine HL.out.mono ?_
    rintro e w1 ⟨rfl, hb⟩
    have HB := Lib.hid hb
    clear hb
    go_wp2_with fail
    refine (HG.out _ HB.out).mono ?_
    rintro e w2 ⟨rfl, n, rfl⟩
    go_wp2_with fail
    go_ret
    exact ⟨rfl, below_some_draws HB.out n⟩

/-- what the law asks of the answers -/
def OneOk (long coded bare : Bool) (K N S K2 N2 S2 : Int) : Prop :=
  (bare = true → S2 = 0 ∧ K2 = 1 ∧ N2 = 0) ∧
  (long = true → coded = true → S = 400 ∧ (bare = false → S2 = 400)) ∧
  (long = false → coded = true → ((S = 0 ∧ K = 3) ∨ ((S = 400 ∨ S = 501) ∧ K = 0)) ∧ (bare = false → S2 = S)) ∧
  (long = true → coded = false → (S = 400 ∨ (S = 0 ∧ (K = 1 ∨ (K = 2 ∧ 0 < N)))) ∧ (bare = false → S2 = S ∧ K2 = K ∧ N2 = N)) ∧
  (long = false → coded = false → S = 0 ∧ K = 1 ∧ (bare = false → S2 = 0 ∧ K2 = 4))

theorem one_ok (m s : Int) (t : Bs) (l : List (Bs × Bs)) : OneOk (hasF l nmCL) (hasF l nmTE) (bareB t s) (frK m l 1 : Nat) (frN m l : Nat) (frS m l : Nat) (rsK t s m l : Nat) (rsN t s m l : Nat) (rsS t s m l : Nat) := by
  have e1 : rsK t s m l = if bareB t s then 1 else frK m l 4 := rfl
  have e2 : rsN t s m l = if bareB t s then 0 else frN m l := rfl
  have e3 : rsS t s m l = if bareB t s then 0 else frS m l := rfl
  refine ⟨fun h => ?_, fun h1 h2 => ?_, fun h1 h2 => ?_, fun h1 h2 => ?_, fun h1 h2 => ?_⟩
  · rw [e1, e2, e3, h]; exact ⟨rfl, rfl, rfl⟩
  · obtain ⟨a, -, -⟩ := one_both m l 1 h1 h2
    refine ⟨by rw [a]; rfl, fun h => ?_⟩
    rw [e3, h, a]; rfl
  · refine ⟨?_, fun h => by rw [e3, h]; rfl⟩
    rcases one_coded m l h1 h2 with ⟨a, b⟩ | ⟨a, b⟩
    · exact .inl ⟨by rw [a]; rfl, by rw [b 1]; rfl⟩
    · refine .inr ⟨?_, by rw [b 1]; rfl⟩
      rcases a with a | a
      · exact .inl (by rw [a]; rfl)
      · exact .inr (by rw [a]; rfl)
  · rcases one_long m l h1 h2 with a | ⟨a, b⟩
    · refine ⟨.inl (by rw [a]; rfl), fun h => ?_⟩
      have k1 : frK m l 4 = frK m l 1 := by
        have ne : frS m l ≠ 0 := by omega
        unfold frK; rw [if_neg ne, if_neg ne]
      rw [e1, e2, e3, h, k1]; exact ⟨rfl, rfl, rfl⟩
    · have k1 : frK m l 4 = frK m l 1 := by
        rcases b with b | ⟨b, -⟩ <;> rw [b 4, b 1]
      refine ⟨.inr ⟨by rw [a]; rfl, ?_⟩, fun h => by rw [e1, e2, e3, h, k1]; exact ⟨rfl, rfl, rfl⟩⟩
      rcases b with b | ⟨b, c⟩
      · exact .inl (by rw [b 1]; rfl)
      · exact .inr ⟨by rw [b 1]; rfl, by omega⟩
  · obtain ⟨a, b, -⟩ := one_none m l h1 h2
    refine ⟨by rw [a]; rfl, by rw [b 1]; rfl, fun h => ?_⟩
    rw [e1, e3, h, a, b 4]; exact ⟨rfl, rfl⟩

set_option maxRecDepth 100000 in
set_option maxHeartbeats 16000000 in
theorem fone_main (v : Value) (l : List (Bs × Bs)) (t : ByteArray) (s m : Int) (w : World) (hs : IsFlds w v l) (hz : ∀ f ∈ l, f.1.length ≤ 140737488351232 ∧ f.2.length ≤ 140737488351232) (hl : l.length ≤ 140737488351232) (hlf : lightF l = true) (ht : t.size ≤ 60) :
    Calls Tryd.prog 5 #[v, .string t, .int .i64 s, .int .i64 m] w (Yes2 w) := by
  obtain ⟨l30, lsum⟩ := lightF_parts l hlf
  have HL := Lib.hid (lives04_any w)
  have hg := fun (W : World) (hb : Below w.heap.size w W) => light04_any v l W (isFlds_below hs hb) hz hl
  rw [hlf] at hg
  have HG := Lib.hid hg
  have A1 : Hid (∀ (W : World), Below w.heap.size w W → Calls Tryd.prog 24 #[v, .string ⟨#[67, 111, 110, 116, 101, 110, 116, 45, 76, 101, 110, 103, 116, 104]⟩] W (ListPost W.heap.size (allF l nmCL) W)) := fun W hb => rall_any v l nmCL W (isFlds_below hs hb) (sum_each l (by omega)) (by decide) (by omega)
  have A2 : Hid (∀ (W : World), Below w.heap.size w W → Calls Tryd.prog 24 #[v, .string ⟨#[84, 114, 97, 110, 115, 102, 101, 114, 45, 69, 110, 99, 111, 100, 105, 110, 103]⟩] W (ListPost W.heap.size (allF l nmTE) W)) := fun W hb => rall_any v l nmTE W (isFlds_below hs hb) (sum_each l (by omega)) (by decide) (by omega)
  have C1 := Lib.hid (fun (W : World) (hb : Below w.heap.size w W) => request04_any m v l W (isFlds_below hs hb) (by omega) (by omega))
  have C3 := Lib.hid (fun (W : World) (hb : Below w.heap.size w W) => response04_any t s m v l W (isFlds_below hs hb) (by omega) (by omega))
  have C9 := Lib.hid (fun W => bare_any t s W)
  have hok := one_ok m s (bs t) l
  have eL : hasF l nmCL = decide (0 < (allF l nmCL).length) := rfl
  have eC : hasF l nmTE = decide (0 < (allF l nmTE).length) := rfl
  unfold ListPost at A1 A2
  unfold FrPost at C1 C3
  unfold Yes2 at HL ⊢
  obtain ⟨a, cap, rfl⟩ : ∃ a cap, v = .slice a l.length cap := by obtain ⟨a, c, h, -⟩ := hs; exact ⟨a, c, h⟩
  clear hs hz hg lsum hlf
  generalize ((frK m l 1 : Nat) : Int) = K at *
  generalize ((frN m l : Nat) : Int) = N at *
  generalize ((frS m l : Nat) : Int) = S at *
  generalize ((rsK (bs t) s m l : Nat) : Int) = K2 at *
  generalize ((rsN (bs t) s m l : Nat) : Int) = N2 at *
  generalize ((rsS (bs t) s m l : Nat) : Int) = S2 at *
  generalize hasF l nmCL = LC at *
  generalize hasF l nmTE = CT at *
  generalize bareB (bs t) s = B at *
  generalize allF l nmCL = P1 at *
  generalize allF l nmTE = P2 at *
  have HOK := Lib.hid hok
  clear hok
  have hP1 : LC = true ∧ (0 : Int) < (P1.length : Int) ∨ LC = false ∧ ¬ (0 : Int) < (P1.length : Int) := by
    rw [eL]
    by_cases h : 0 < P1.length
    · exact .inl ⟨decide_eq_true h, by omega⟩
    · exact .inr ⟨decide_eq_false h, by omega⟩
  have hP2 : CT = true ∧ (0 : Int) < (P2.length : Int) ∨ CT = false ∧ ¬ (0 : Int) < (P2.length : Int) := by
    rw [eC]
    by_cases h : 0 < P2.length
    · exact .inl ⟨decide_eq_true h, by omega⟩
    · exact .inr ⟨decide_eq_false h, by omega⟩
  clear eL eC
  -- the answers, case by case
  have hcase : (B = true ∧ S2 = 0 ∧ K2 = 1 ∧ N2 = 0 ∨ B = false) := by
    cases hb : B
    · exact .inr rfl
    · exact .inl ⟨rfl, HOK.out.1 hb⟩
  have HP1 := Lib.hid hP1
  have HP2 := Lib.hid hP2
  have HCs := Lib.hid hcase
  clear hP1 hP2 hcase
  go_enter Tryd.func5, Tryd.ntmps5
  go_wp2_with fail
  refine HL.out.mono ?_
  rintro e w1 ⟨rfl, hb⟩
  have HB1 := Lib.hid hb
  clear hb
  go_wp2_with fail
  refine (HG.out _ HB1.out).mono ?_
  rintro e w2 ⟨rfl, n, rfl⟩
  have HB2 := Lib.hid (below_some_draws HB1.out n)
  generalize w1.drewN n = w2 at *
  go_wp2_with fail
  refine (A1.out _ HB2.out).mono ?_
  rintro e w3 ⟨v3, rfl, ho, hb⟩
  have HB3 := Lib.hid (HB2.out.trans (hb.mono HB2.out.size))
  obtain ⟨a3, c3, rfl⟩ : ∃ a c, v3 = .slice a P1.length c := by obtain ⟨a, c, h, -⟩ := isStrs_own ho; exact ⟨a, c, h⟩
  clear ho hb
  go_wp2_with fail
  refine (A2.out _ HB3.out).mono ?_
  rintro e w4 ⟨v4, rfl, ho, hb⟩
  have HB4 := Lib.hid (HB3.out.trans (hb.mono HB3.out.size))
  obtain ⟨a4, c4, rfl⟩ : ∃ a c, v4 = .slice a P2.length c := by obtain ⟨a, c, h, -⟩ := isStrs_own ho; exact ⟨a, c, h⟩
  clear ho hb
  clear HL HG A1 A2 HB1 HB2 HB3
  rcases HP1.out with ⟨eL, hp1⟩ | ⟨eL, hp1⟩ <;> rcases HP2.out with ⟨eC, hp2⟩ | ⟨eC, hp2⟩
  all_goals
    have HEL := Lib.hid eL
    have HEC := Lib.hid eC
    clear eL eC HP1 HP2
    go_wp2_with fail
    refine (C1.out _ HB4.out).mono ?_
    rintro e w5 ⟨rfl, hb⟩
    have HB5 := Lib.hid (HB4.out.trans (hb.mono HB4.out.size))
    have HA := Lib.hid (Two.new w5 28 (.int .i64 K) (.int .i64 N))
    have HB6 := Lib.hid (HB5.out.alloc HB5.out.size (Obj.cells #[.int .i64 K, .int .i64 N] 28))
    clear hb
    go_wp2_with fail
    generalize w5.alloc (Obj.cells #[.int .i64 K, .int .i64 N] 28) = w6 at *
    generalize w5.heap.size = g1 at *
    refine (C3.out _ HB6.out).mono ?_
    rintro e w7 ⟨rfl, hb⟩
    have HA7 := Lib.hid (HA.out.later hb)
    have HB7 := Lib.hid (HB6.out.trans (hb.mono HB6.out.size))
    have hbal : Below w7.heap.size w7 (w7.alloc (Obj.cells #[.int .i64 K2, .int .i64 N2] 28)) := (Below.refl _ _).alloc (Nat.le_refl _) _
    have HA8 := HA7.out.later hbal
    have HC := Two.new w7 28 (.int .i64 K2) (.int .i64 N2)
    have HB8 := Lib.hid (HB7.out.trans (hbal.mono HB7.out.size))
    have a0 := HA8.c0
    have a1 := HA8.c1
    have b0 := HC.c0
    have b1 := HC.c1
    clear hb hbal HA HA7 HA8 HC
    go_wp2_with fail
    generalize w7.alloc (Obj.cells #[.int .i64 K2, .int .i64 N2] 28) = w8 at *
    generalize w7.heap.size = g2 at *
    refine (C9.out _).mono ?_
    rintro e w' ⟨rfl, rfl⟩
    have hok := HOK.out
    unfold OneOk at hok
    rw [HEL.out, HEC.out] at hok
    clear HB4 HB5 HB6 HB7 C1 C3 C9 HOK HEL HEC
    rcases HCs.out with ⟨rfl, rfl, rfl, rfl⟩ | rfl
    all_goals
      clear HCs
      simp only [forall_const, false_implies, reduceCtorEq, implies_true, and_true, true_and] at hok
  · -- both, bare
    subst hok
    go_wp2_with fail
    go_ret
    exact ⟨rfl, HB8.out⟩
  · -- both
    obtain ⟨rfl, rfl⟩ := hok
    go_wp2_with fail
    go_ret
    exact ⟨rfl, HB8.out⟩
  · -- a length, bare
    rcases hok with rfl | ⟨rfl, rfl | ⟨rfl, hN⟩⟩
    all_goals
      go_wp2_with fail
      go_ret
      exact ⟨rfl, HB8.out⟩
  · -- a length
    obtain ⟨h1, rfl, rfl, rfl⟩ := hok
    rcases h1 with rfl | ⟨rfl, rfl | ⟨rfl, hN⟩⟩
    all_goals
      go_wp2_with fail
      go_ret
      exact ⟨rfl, HB8.out⟩
  · -- coded, bare
    rcases hok with ⟨rfl, rfl⟩ | ⟨rfl | rfl, rfl⟩
    all_goals
      go_wp2_with fail
      go_ret
      exact ⟨rfl, HB8.out⟩
  · -- coded
    obtain ⟨h1, rfl⟩ := hok
    rcases h1 with ⟨rfl, rfl⟩ | ⟨rfl | rfl, rfl⟩
    all_goals
      go_wp2_with fail
      go_ret
      exact ⟨rfl, HB8.out⟩
  · -- neither, bare
    obtain ⟨rfl, rfl⟩ := hok
    go_wp2_with fail
    go_ret
    exact ⟨rfl, HB8.out⟩
  · -- neither
    obtain ⟨rfl, rfl, rfl, rfl⟩ := hok
    go_wp2_with fail
    go_ret
    exact ⟨rfl, HB8.out⟩

theorem fone_any (v : Value) (l : List (Bs × Bs)) (t : ByteArray) (s m : Int) (w : World) (hs : IsFlds w v l) (hz : ∀ f ∈ l, f.1.length ≤ 140737488351232 ∧ f.2.length ≤ 140737488351232) (hl : l.length ≤ 140737488351232) :
    Calls Tryd.prog 5 #[v, .string t, .int .i64 s, .int .i64 m] w (Yes2 w) := by
  cases hlf : lightF l
  · exact fone_big v l t s m w hs hz hl (.inl hlf)
  · by_cases ht : t.size ≤ 60
    · exact fone_main v l t s m w hs hz hl hlf ht
    · exact fone_big v l t s m w hs hz hl (.inr ⟨hlf, ht⟩)
end Tk
end Go.Proofs.YtapnlopeipdjmaaDoor
