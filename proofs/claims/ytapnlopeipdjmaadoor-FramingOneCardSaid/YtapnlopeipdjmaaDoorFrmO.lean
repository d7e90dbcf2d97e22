/- One end for a message: plain facts behind FramingOne. -/
import Derived.Test.YtapnlopeipdjmaaDoorFrmP
namespace Go.Proofs.YtapnlopeipdjmaaDoor
namespace Tk

theorem one_both (m : Int) (l : List (Bs × Bs)) (n : Nat) (h : hasF l nmCL = true) (h2 : hasF l nmTE = true) : frS m l = 400 ∧ frK m l n = 0 ∧ frN m l = 0 :=
  fr_400 m l n h2 (by rw [h]; simp)
theorem one_coded (m : Int) (l : List (Bs × Bs)) (h : hasF l nmCL = false) (h2 : hasF l nmTE = true) :
    (frS m l = 0 ∧ ∀ n, frK m l n = 3) ∨ ((frS m l = 400 ∨ frS m l = 501) ∧ ∀ n, frK m l n = 0) := by
  by_cases hm : m = 0
  · have := fun n => fr_400 m l n h2 (by simp [hm])
    exact .inr ⟨.inl (this 0).1, fun n => (this n).2.1⟩
  · have hd : (decide (m = 0) || hasF l nmCL) = false := by simp [hm, h]
    rcases codS_two l with hc | hc
    · have := fun n => fr_chunks m l n h2 hd hc
      exact .inl ⟨(this 0).1, fun n => (this n).2.1⟩
    · have := fun n => fr_501 m l n h2 hd (by omega)
      exact .inr ⟨.inr ((this 0).1.trans hc), fun n => (this n).2.1⟩
theorem one_long (m : Int) (l : List (Bs × Bs)) (h : hasF l nmCL = true) (h2 : hasF l nmTE = false) :
    frS m l = 400 ∨ (frS m l = 0 ∧ ((∀ n, frK m l n = 1) ∨ ((∀ n, frK m l n = 2) ∧ 0 < frN m l))) := by
  rcases lenS_two l with hc | hc
  · by_cases hn : lenN l = 0
    · have := fun n => fr_nought m l n h2 h hc hn
      exact .inr ⟨(this 0).1, .inl fun n => (this n).2.1⟩
    · have := fun n => fr_len m l n h2 h hc hn
      exact .inr ⟨(this 0).1, .inr ⟨fun n => (this n).2.1, by rw [(this 0).2.2]; omega⟩⟩
  · exact .inl ((fr_bad m l 0 h2 (by omega)).1.trans hc)
theorem one_none (m : Int) (l : List (Bs × Bs)) (h : hasF l nmCL = false) (h2 : hasF l nmTE = false) : frS m l = 0 ∧ (∀ n, frK m l n = n) ∧ frN m l = 0 :=
  ⟨(fr_neither m l 0 h2 h).1, fun n => (fr_neither m l n h2 h).2.1, (fr_neither m l 0 h2 h).2.2⟩
end Tk
end Go.Proofs.YtapnlopeipdjmaaDoor
