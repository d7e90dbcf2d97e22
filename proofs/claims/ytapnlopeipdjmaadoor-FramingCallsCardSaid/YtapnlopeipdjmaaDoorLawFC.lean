/- The law FramingCalls: its walk. -/
import Derived.Test.YtapnlopeipdjmaaDoorFrmE
import Derived.Test.YtapnlopeipdjmaaDoorRefN
namespace Go.Proofs.YtapnlopeipdjmaaDoor
open Go.RowKit
namespace Tk

set_option maxRecDepth 100000 in
set_option maxHeartbeats 4000000 in
theorem fcalls_big (v : Value) (l : List (Bs × Bs)) (t : ByteArray) (s m : Int) (w : World) (hs : IsFlds w v l) (hz : ∀ f ∈ l, f.1.length ≤ 140737488351232 ∧ f.2.length ≤ 140737488351232) (hl : l.length ≤ 140737488351232) (h : lightF l = false ∨ (lightF l = true ∧ ¬ t.size ≤ 60)) :
    Calls Tryd.prog 4 #[v, .string t, .int .i64 s, .int .i64 m] w (Yes2 w) := by
  have HL := Lib.hid (lives04_any w)
  have HG := Lib.hid (fun (W : World) (hb : Below w.heap.size w W) => light04_any v l W (isFlds_below hs hb) hz hl)
  obtain ⟨a, cap, rfl⟩ : ∃ a cap, v = .slice a l.length cap := by obtain ⟨a, c, h, -⟩ := hs; exact ⟨a, c, h⟩
  unfold Yes2 at HL ⊢
  clear hs hz
  rcases h with h | ⟨h, h2⟩
  all_goals
    rw [h] at HG
    clear h
    go_enter Tryd.func4, Tryd.ntmps4
    go_wp2_with fail
    refine HL.out.mono ?_
    rintro e w1 ⟨rfl, hb⟩
    have HB := Lib.hid hb
    clear hb
    go_wp2_with fail
    refine (HG.out _ HB.out).mono ?_
    rintro e w2 ⟨rfl, n, rfl⟩
    go_wp2_with fail
    go_ret
    exact ⟨rfl, below_some_draws HB.out n⟩

set_option maxRecDepth 100000 in
set_option maxHeartbeats 16000000 in
theorem fcalls_main (v : Value) (l : List (Bs × Bs)) (t : ByteArray) (s m : Int) (w : World) (hs : IsFlds w v l) (hz : ∀ f ∈ l, f.1.length ≤ 140737488351232 ∧ f.2.length ≤ 140737488351232) (hl : l.length ≤ 140737488351232) (hlf : lightF l = true) (ht : t.size ≤ 60) :
    Calls Tryd.prog 4 #[v, .string t, .int .i64 s, .int .i64 m] w (Yes2 w) := by
  obtain ⟨l30, lsum⟩ := lightF_parts l hlf
  have HL := Lib.hid (lives04_any w)
  have hg := fun (W : World) (hb : Below w.heap.size w W) => light04_any v l W (isFlds_below hs hb) hz hl
  rw [hlf] at hg
  have HG := Lib.hid hg
  have C1 := Lib.hid (fun (W : World) (hb : Below w.heap.size w W) => request04_any m v l W (isFlds_below hs hb) (by omega) (by omega))
  have C2 := Lib.hid (fun (W : World) (hb : Below w.heap.size w W) => rrequest04_any m v l W (isFlds_below hs hb) (by omega) (by omega))
  have C3 := Lib.hid (fun (W : World) (hb : Below w.heap.size w W) => response04_any t s m v l W (isFlds_below hs hb) (by omega) (by omega))
  have C4 := Lib.hid (fun (W : World) (hb : Below w.heap.size w W) => rresponse04_any t s m v l W (isFlds_below hs hb) (by omega) (by omega))
  have C5 := Lib.hid (fun (W : World) (hb : Below w.heap.size w W) => length_any v l W (isFlds_below hs hb) (by omega) (by omega))
  have C6 := Lib.hid (fun (W : World) (hb : Below w.heap.size w W) => rlength_any v l W (isFlds_below hs hb) (by omega) (by omega))
  have C7 := Lib.hid (fun (W : World) (hb : Below w.heap.size w W) => coded_any v l W (isFlds_below hs hb) (by omega) (by omega))
  have C8 := Lib.hid (fun (W : World) (hb : Below w.heap.size w W) => rcoded_any v l W (isFlds_below hs hb) (by omega) (by omega))
  have C9 := Lib.hid (fun W => bare_any t s W)
  have C10 := Lib.hid (fun W => rbare_any t s W)
  unfold FrPost at C1 C2 C3 C4
  unfold LenPost at C5 C6
  unfold CodPost at C7 C8
  unfold Yes2 at HL ⊢
  obtain ⟨a, cap, rfl⟩ : ∃ a cap, v = .slice a l.length cap := by obtain ⟨a, c, h, -⟩ := hs; exact ⟨a, c, h⟩
  clear hs hz hg lsum hlf
  generalize ((frK m l 1 : Nat) : Int) = K at *
  generalize ((frN m l : Nat) : Int) = N at *
  generalize ((frS m l : Nat) : Int) = S at *
  generalize ((rsK (bs t) s m l : Nat) : Int) = K2 at *
  generalize ((rsN (bs t) s m l : Nat) : Int) = N2 at *
  generalize ((rsS (bs t) s m l : Nat) : Int) = S2 at *
  generalize ((lenN l : Nat) : Int) = LN at *
  generalize hasF l nmCL = LC at *
  generalize ((lenS l : Nat) : Int) = LS at *
  generalize hasF l nmTE = CT at *
  generalize ((codS l : Nat) : Int) = CS at *
  generalize bareB (bs t) s = B at *
  go_enter Tryd.func4, Tryd.ntmps4
  go_wp2_with fail
  refine HL.out.mono ?_
  rintro e w1 ⟨rfl, hb⟩
  have HB1 := Lib.hid hb
  clear hb
  go_wp2_with fail
  refine (HG.out _ HB1.out).mono ?_
  rintro e w2 ⟨rfl, n, rfl⟩
  have HB2 := Lib.hid (below_some_draws HB1.out n)
  generalize w1.drewN n = w2 at *
  go_wp2_with fail
  refine (C1.out _ HB2.out).mono ?_
  rintro e w3 ⟨rfl, hb⟩
  have HB3 := Lib.hid (HB2.out.trans (hb.mono HB2.out.size))
  clear hb
  have HA := Lib.hid (Two.new w3 28 (.int .i64 K) (.int .i64 N))
  have HB4 := Lib.hid (HB3.out.alloc HB3.out.size (Obj.cells #[.int .i64 K, .int .i64 N] 28))
  go_wp2_with fail
  generalize w3.alloc (Obj.cells #[.int .i64 K, .int .i64 N] 28) = w4 at *
  generalize w3.heap.size = g1 at *
  refine (C2.out _ HB4.out).mono ?_
  rintro e w5 ⟨rfl, hb⟩
  have HA5 := Lib.hid (HA.out.later hb)
  have HB5 := Lib.hid (HB4.out.trans (hb.mono HB4.out.size))
  have hbal : Below w5.heap.size w5 (w5.alloc (Obj.cells #[.int .i64 K, .int .i64 N] 28)) := (Below.refl _ _).alloc (Nat.le_refl _) _
  have HA6 := Lib.hid (HA5.out.later hbal)
  have HBb := Lib.hid (Two.new w5 28 (.int .i64 K) (.int .i64 N))
  have HB6 := Lib.hid (HB5.out.trans (hbal.mono HB5.out.size))
  clear hb hbal
  go_wp2_with fail
  generalize w5.alloc (Obj.cells #[.int .i64 K, .int .i64 N] 28) = w6 at *
  generalize w5.heap.size = g2 at *
  refine (C3.out _ HB6.out).mono ?_
  rintro e w7 ⟨rfl, hb⟩
  have HA7 := Lib.hid (HA6.out.later hb)
  have HBb7 := Lib.hid (HBb.out.later hb)
  have HB7 := Lib.hid (HB6.out.trans (hb.mono HB6.out.size))
  have hbal : Below w7.heap.size w7 (w7.alloc (Obj.cells #[.int .i64 K2, .int .i64 N2] 28)) := (Below.refl _ _).alloc (Nat.le_refl _) _
  have HA8 := Lib.hid (HA7.out.later hbal)
  have HBb8 := Lib.hid (HBb7.out.later hbal)
  have HC := Lib.hid (Two.new w7 28 (.int .i64 K2) (.int .i64 N2))
  have HB8 := Lib.hid (HB7.out.trans (hbal.mono HB7.out.size))
  clear hb hbal
  go_wp2_with fail
  generalize w7.alloc (Obj.cells #[.int .i64 K2, .int .i64 N2] 28) = w8 at *
  generalize w7.heap.size = g3 at *
  refine (C4.out _ HB8.out).mono ?_
  rintro e w9 ⟨rfl, hb⟩
  have HA9 := Lib.hid (HA8.out.later hb)
  have HBb9 := Lib.hid (HBb8.out.later hb)
  have HC9 := Lib.hid (HC.out.later hb)
  have HB9 := Lib.hid (HB8.out.trans (hb.mono HB8.out.size))
  have hbal : Below w9.heap.size w9 (w9.alloc (Obj.cells #[.int .i64 K2, .int .i64 N2] 28)) := (Below.refl _ _).alloc (Nat.le_refl _) _
  have HA10 := Lib.hid (HA9.out.later hbal)
  have HBb10 := Lib.hid (HBb9.out.later hbal)
  have HC10 := Lib.hid (HC9.out.later hbal)
  have HD := Lib.hid (Two.new w9 28 (.int .i64 K2) (.int .i64 N2))
  have HB10 := Lib.hid (HB9.out.trans (hbal.mono HB9.out.size))
  clear hb hbal
  go_wp2_with fail
  generalize w9.alloc (Obj.cells #[.int .i64 K2, .int .i64 N2] 28) = w10 at *
  generalize w9.heap.size = g4 at *
  refine (C5.out _ HB10.out).mono ?_
  rintro e w11 ⟨rfl, hb⟩
  have HA11 := Lib.hid (HA10.out.later hb)
  have HBb11 := Lib.hid (HBb10.out.later hb)
  have HC11 := Lib.hid (HC10.out.later hb)
  have HD11 := Lib.hid (HD.out.later hb)
  have HB11 := Lib.hid (HB10.out.trans (hb.mono HB10.out.size))
  clear hb
  go_wp2_with fail
  refine (C6.out _ HB11.out).mono ?_
  rintro e w12 ⟨rfl, hb⟩
  have HA12 := Lib.hid (HA11.out.later hb)
  have HBb12 := Lib.hid (HBb11.out.later hb)
  have HC12 := Lib.hid (HC11.out.later hb)
  have HD12 := Lib.hid (HD11.out.later hb)
  have HB12 := Lib.hid (HB11.out.trans (hb.mono HB11.out.size))
  clear hb
  go_wp2_with fail
  refine (C7.out _ HB12.out).mono ?_
  rintro e w13 ⟨rfl, hb⟩
  have HA13 := Lib.hid (HA12.out.later hb)
  have HBb13 := Lib.hid (HBb12.out.later hb)
  have HC13 := Lib.hid (HC12.out.later hb)
  have HD13 := Lib.hid (HD12.out.later hb)
  have HB13 := Lib.hid (HB12.out.trans (hb.mono HB12.out.size))
  clear hb
  go_wp2_with fail
  refine (C8.out _ HB13.out).mono ?_
  rintro e w14 ⟨rfl, hb⟩
  have HA14 := HA13.out.later hb
  have HBb14 := HBb13.out.later hb
  have HC14 := HC13.out.later hb
  have HD14 := HD13.out.later hb
  have HB14 := Lib.hid (HB13.out.trans (hb.mono HB13.out.size))
  have a0 := HA14.c0
  have a1 := HA14.c1
  have b0 := HBb14.c0
  have b1 := HBb14.c1
  have c0 := HC14.c0
  have c1 := HC14.c1
  have d0 := HD14.c0
  have d1 := HD14.c1
  clear hb HA14 HBb14 HC14 HD14
  have two : ∀ z : Int, (z != 0) = true ∨ (z != 0) = false := fun z => by cases (z != 0) <;> simp
  have eS := two S
  have eS2 := two S2
  have eLS := two LS
  clear two
  rcases eS with eS | eS <;> rcases eS2 with eS2 | eS2 <;> rcases eLS with eLS | eLS
  all_goals
    go_wp2_with fail
    refine (C9.out _).mono ?_
    rintro e w' ⟨rfl, rfl⟩
    go_wp2_with fail
    refine (C10.out _).mono ?_
    rintro e w' ⟨rfl, rfl⟩
    go_wp2_with fail
    go_ret
    exact ⟨by first | rfl | simp, HB14.out⟩

theorem fcalls_any (v : Value) (l : List (Bs × Bs)) (t : ByteArray) (s m : Int) (w : World) (hs : IsFlds w v l) (hz : ∀ f ∈ l, f.1.length ≤ 140737488351232 ∧ f.2.length ≤ 140737488351232) (hl : l.length ≤ 140737488351232) :
    Calls Tryd.prog 4 #[v, .string t, .int .i64 s, .int .i64 m] w (Yes2 w) := by
  cases hlf : lightF l
  · exact fcalls_big v l t s m w hs hz hl (.inl hlf)
  · by_cases ht : t.size ≤ 60
    · exact fcalls_main v l t s m w hs hz hl hlf ht
    · exact fcalls_big v l t s m w hs hz hl (.inr ⟨hlf, ht⟩)
end Tk
end Go.Proofs.YtapnlopeipdjmaaDoor
