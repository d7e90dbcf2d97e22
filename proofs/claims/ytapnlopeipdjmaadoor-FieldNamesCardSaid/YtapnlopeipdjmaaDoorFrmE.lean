/- What the statements over framing share: lists of fields that are built, light, lives, sameness of two frames. -/
import Derived.Test.YtapnlopeipdjmaaDoorFrmD
import Derived.Test.YtapnlopeipdjmaaDoorJoinF
import Derived.Test.YtapnlopeipdjmaaDoorFldN
import Derived.Laws.StructEq
namespace Go.Proofs.YtapnlopeipdjmaaDoor
open Go.RowKit
namespace Tk

theorem noStandF : Tryd.prog.stoodInHeld 28 = false := by kernel_rfl
theorem frame_eql (W : World) (a b c d : Int) : (binOp .eql 28 (.agg #[.int .i64 a, .int .i64 b]) (.agg #[.int .i64 c, .int .i64 d])).run Tryd.prog W = .ok (.bool (a == c && b == d)) W := by
  rw [run_eql_struct, run_equalIn_agg _ _ _ _ _ (by simp [Program.fieldsOf, Tryd.underlying28]) noStandF]
  simp [Program.fieldsOf, Tryd.underlying28, Tryd.underlying3, Tryd.underlying2, Op.eqFields, go_sem]
  by_cases h1 : a = c <;> by_cases h2 : b = d <;> simp [h1, h2]
theorem frame_neq (W : World) (a b c d : Int) : (binOp .neq 28 (.agg #[.int .i64 a, .int .i64 b]) (.agg #[.int .i64 c, .int .i64 d])).run Tryd.prog W = .ok (.bool (!(a == c && b == d))) W := by
  rw [run_neq_struct, run_equalIn_agg _ _ _ _ _ (by simp [Program.fieldsOf, Tryd.underlying28]) noStandF]
  simp [Program.fieldsOf, Tryd.underlying28, Tryd.underlying3, Tryd.underlying2, Op.eqFields, go_sem]
  by_cases h1 : a = c <;> by_cases h2 : b = d <;> simp [h1, h2]

theorem isFlds_cells (w : World) (l : List (Bs × Bs)) (cs : Array Value) (n : Nat) (hn : n = l.length) (h : cs = (fcells l).toArray) : IsFlds (w.alloc (.cells cs 24)) (.slice (some ⟨w.heap.size, 0, none⟩) n n) l := by
  subst hn h
  refine ⟨_, l.length, rfl, Nat.le_refl _, fun j f hj => ⟨w.heap.size, 0, rfl, ?_, ?_⟩⟩
  · rw [Nat.zero_add, World.cell?_alloc_new]
    simp [(fcells_get l j f hj).1]
  · rw [Nat.zero_add, World.cell?_alloc_new]
    simp [(fcells_get l j f hj).2]
theorem isFlds_nil (w : World) : IsFlds w (.slice none 0 0) [] := ⟨none, 0, rfl, Nat.le_refl _, fun j f hj => by simp at hj⟩

set_option maxHeartbeats 1000000 in
set_option maxRecDepth 100000 in
theorem one04_any (a b : ByteArray) (w : World) :
    Calls Tryd.prog 12 #[.string a, .string b] w fun e w' => e = .returned (.agg #[.string a, .string b]) ∧ Below w.heap.size w w' := by
  go_enter Tryd.func12, Tryd.ntmps12
  go_wp2_with fail
  refine bodyPost_ret (v := .agg #[.string a, .string b]) ?_ rfl ⟨rfl, ?_⟩
  · simp [results, Tryd.results12, go_sem]
  · exact (Below.refl _ _).alloc (Nat.le_refl _) _

set_option maxHeartbeats 1000000 in
theorem light04_any (v : Value) (l : List (Bs × Bs)) (w : World) (hs : IsFlds w v l) (hz : ∀ f ∈ l, f.1.length ≤ 140737488351232 ∧ f.2.length ≤ 140737488351232) (hl : l.length ≤ 140737488351232) :
    Calls Tryd.prog 16 #[v] w fun e w' => e = .returned (.bool (lightF l)) ∧ ∃ n, w' = w.drewN n := by
  have H := Lib.hid (lightFields_any v l w hs hz hl)
  obtain ⟨a, cap, rfl⟩ : ∃ a cap, v = .slice a l.length cap := by obtain ⟨a, c, h, -⟩ := hs; exact ⟨a, c, h⟩
  clear hs hz
  go_enter Tryd.func16, Tryd.ntmps16
  go_wp2_with fail
  refine H.out.mono ?_
  rintro e w' ⟨rfl, n, rfl⟩
  go_wp2_with fail
  go_ret
  exact ⟨rfl, n, rfl⟩

/-- a request of these fields, answered -/
def ReqIs (m : Int) (l : List (Bs × Bs)) (K N S : Int) : Prop := ∀ (W : World) (v : Value), IsFlds W v l → Calls Tryd.prog 13 #[.int .i64 m, v] W fun e w' => e = .returned (.tuple #[.agg #[.int .i64 K, .int .i64 N], .int .i64 S]) ∧ Below W.heap.size W w'
theorem freq_is (m : Int) (l : List (Bs × Bs)) (K N S : Nat) (h : frK m l 1 = K ∧ frN m l = N ∧ frS m l = S) (hz : sumF l ≤ 1000000) (hl : l.length ≤ 1048576) : ReqIs m l K N S := fun W v hs => by
  have := request04_any m v l W hs hz hl
  rw [h.1, h.2.1, h.2.2] at this
  exact this

def exL1 : List (Bs × Bs) := [([99, 111, 110, 116, 101, 110, 116, 45, 108, 101, 110, 103, 116, 104], [53, 44, 32, 53])]
def exL2 : List (Bs × Bs) := [([67, 111, 110, 116, 101, 110, 116, 45, 76, 101, 110, 103, 116, 104], [53]), ([84, 114, 97, 110, 115, 102, 101, 114, 45, 69, 110, 99, 111, 100, 105, 110, 103], [99, 104, 117, 110, 107, 101, 100])]
theorem exR1 : ReqIs 1 exL1 2 5 0 := freq_is 1 exL1 2 5 0 (by decide +kernel) (by decide) (by decide)
theorem exR2 : ReqIs 1 exL2 0 0 400 := freq_is 1 exL2 0 0 400 (by decide +kernel) (by decide) (by decide)

set_option maxHeartbeats 4000000 in
set_option maxRecDepth 100000 in
theorem lives04_any (w : World) : Calls Tryd.prog 11 #[] w (Yes2 w) := by
  have h1 := exR1
  have h2 := exR2
  unfold ReqIs at h1 h2
  have H1 := Lib.hid h1
  have H2 := Lib.hid h2
  clear h1 h2
  go_enter Tryd.func11, Tryd.ntmps11
  go_wp2_with fail
  refine (one04_any _ _ _).mono ?_
  rintro e w1 ⟨rfl, hb⟩
  have HB1 := Lib.hid hb
  have HF1 := Lib.hid (isFlds_cells w1 exL1 #[.string ⟨#[99, 111, 110, 116, 101, 110, 116, 45, 108, 101, 110, 103, 116, 104]⟩, .string ⟨#[53, 44, 32, 53]⟩] 1 rfl rfl)
  have HA1 := Lib.hid (HB1.out.alloc HB1.out.size (Obj.cells #[.string ⟨#[99, 111, 110, 116, 101, 110, 116, 45, 108, 101, 110, 103, 116, 104]⟩, .string ⟨#[53, 44, 32, 53]⟩] 24))
  clear hb
  go_wp2_with fail
  refine (H1.out _ _ HF1.out).mono ?_
  rintro e w2 ⟨rfl, hb⟩
  have HB2 := Lib.hid (HA1.out.trans (hb.mono HA1.out.size))
  have HT2 := Lib.hid (Two.new w2 28 (.int .i64 2) (.int .i64 5))
  have HA2 := Lib.hid (HB2.out.alloc HB2.out.size (Obj.cells #[.int .i64 2, .int .i64 5] 28))
  clear hb
  go_wp2_with fail
  generalize w2.alloc (Obj.cells #[.int .i64 2, .int .i64 5] 28) = w3 at *
  refine (one04_any _ _ _).mono ?_
  rintro e w4 ⟨rfl, hb⟩
  have HT4 := Lib.hid (HT2.out.later hb)
  have HB4 := Lib.hid (HA2.out.trans (hb.mono HA2.out.size))
  clear hb
  go_wp2_with fail
  refine (one04_any _ _ _).mono ?_
  rintro e w5 ⟨rfl, hb⟩
  have HT5 := Lib.hid (HT4.out.later hb)
  have HB5 := Lib.hid (HB4.out.trans (hb.mono HB4.out.size))
  have hbal : Below w5.heap.size w5 (w5.alloc (Obj.cells (fcells exL2).toArray 24)) := (Below.refl _ _).alloc (Nat.le_refl _) _
  have HT6 := Lib.hid (HT5.out.later hbal)
  have HB6 := Lib.hid (HB5.out.trans (hbal.mono HB5.out.size))
  have HF6 := Lib.hid (isFlds_cells w5 exL2 _ 2 rfl rfl)
  have e6 : (fcells exL2).toArray = #[.string ⟨#[67, 111, 110, 116, 101, 110, 116, 45, 76, 101, 110, 103, 116, 104]⟩, .string ⟨#[53]⟩, .string ⟨#[84, 114, 97, 110, 115, 102, 101, 114, 45, 69, 110, 99, 111, 100, 105, 110, 103]⟩, .string ⟨#[99, 104, 117, 110, 107, 101, 100]⟩] := rfl
  rw [e6] at HT6 HB6 HF6
  clear hb hbal e6
  go_wp2_with fail
  refine (H2.out _ _ HF6.out).mono ?_
  rintro e w7 ⟨rfl, hb⟩
  have HT7 := Lib.hid (HT6.out.later hb)
  have HB7 := Lib.hid (HB6.out.trans (hb.mono HB6.out.size))
  have hbal : Below w7.heap.size w7 (w7.alloc (Obj.cells #[.int .i64 0, .int .i64 0] 28)) := (Below.refl _ _).alloc (Nat.le_refl _) _
  have HT8 := HT7.out.later hbal
  have HB8 := Lib.hid (HB7.out.trans (hbal.mono HB7.out.size))
  have q0 := HT8.c0
  have q1 := HT8.c1
  have hlt := HT8.lt
  clear hb hbal HT8
  go_wp2_with fail
  go_ret
  exact ⟨rfl, HB8.out⟩
end Tk
end Go.Proofs.YtapnlopeipdjmaaDoor
