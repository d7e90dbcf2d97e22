/- chunk: one step of a decoder by its state . -/
import Derived.Test.YtanilbckakoogaaDoorChkF
import Derived.Test.YtanilbckakoogaaDoorChkG
import Derived.Test.YtanilbckakoogaaDoorChkR
namespace Go.Proofs.YtanilbckakoogaaDoor
open Go.RowKit
namespace Tk

theorem DecTo.refl {B b : Nat} {s : Dc} {vl vb vt : Value} {w : World} (h : Dec B b s vl vb vt w) : DecTo B b s vl vb vt w w := ⟨_, _, _, h, Turn.refl⟩

theorem state_any {B b : Nat} {s : Dc} {vl vb vt : Value} (c : UInt8) {w : World} (h : Dec B b s vl vb vt w) (hm : s.mode < 5) (hb0 : s.bad = 0) (n : Nat) (hf : s.Fit n) (hn : n + 1 ≤ 1048576) (hl : Lim s) (hv : ErrV B w) :
    ∃ F, stV b s.mode = .func (.func F) #[.pointer (some ⟨b, 0, none⟩)] #[] ∧ (∀ args w, (callFunc F args).run Tryd.prog w = .ok (.enter F args) w) ∧ Calls Tryd.prog F #[.pointer (some ⟨b, 0, none⟩), .int .u8 c.toNat] w (StepPost B b s c vl vb vt w) := by
  obtain ⟨l1, l2, l3, l4⟩ := hl
  have f1 := hf.line
  have f2 := hf.head
  have f3 := hf.body
  have f4 := hf.trl
  have f5 := hf.room
  have hcase : s.mode = 0 ∨ s.mode = 1 ∨ s.mode = 2 ∨ s.mode = 3 ∨ s.mode = 4 := by omega
  rcases hcase with e | e | e | e | e
  · refine ⟨_, by rw [e]; rfl, enters_of Tryd.func76 (by kernel_rfl) rfl, ?_⟩
    exact sizeLine_any c h e hb0 (by omega) l1 l4 (by omega) hv
  · refine ⟨_, by rw [e]; rfl, enters_of Tryd.func101 (by kernel_rfl) rfl, ?_⟩
    refine (data_any c h e (hf.one e) hf.few (by omega)).mono ?_
    rintro x w' ⟨rfl, hd⟩
    have hs : stepM s c = { s with body := s.body ++ [c], left := s.left - 1 } := by unfold stepM; rw [stepD_1 s c e]; split <;> rfl
    refine ⟨?_, by rw [hs]; exact hd⟩
    unfold stepE
    rw [stepD_1 s c e]
    by_cases h1 : 1 < s.left
    · simp only [if_pos h1, hb0, if_true, e]
    · simp only [if_neg h1, hb0, if_true]
  · refine ⟨_, by rw [e]; rfl, enters_of Tryd.func122 (by kernel_rfl) rfl, ?_⟩
    refine (dataCR_any b c w).mono ?_
    rintro x w' ⟨rfl, rfl⟩
    have hs : stepM s c = s := by unfold stepM; rw [stepD_2 s c e]; split <;> rfl
    refine ⟨?_, by rw [hs]; exact .refl h⟩
    unfold stepE
    rw [stepD_2 s c e]
    by_cases hc : c = 13
    · simp only [if_pos hc, hb0, if_true]
    · simp only [if_neg hc]; rfl
  · refine ⟨_, by rw [e]; rfl, enters_of Tryd.func143 (by kernel_rfl) rfl, ?_⟩
    refine (dataLF_any b c w).mono ?_
    rintro x w' ⟨rfl, rfl⟩
    have hs : stepM s c = s := by unfold stepM; rw [stepD_3 s c e]; split <;> rfl
    refine ⟨?_, by rw [hs]; exact .refl h⟩
    unfold stepE
    rw [stepD_3 s c e]
    by_cases hc : c = 10
    · simp only [if_pos hc, hb0, if_true]
    · simp only [if_neg hc]; rfl
  · refine ⟨_, by rw [e]; rfl, enters_of Tryd.func100 (by kernel_rfl) rfl, ?_⟩
    exact trailer_any c h e hb0 (by omega) l1 (by omega) (by omega)
end Tk
end Go.Proofs.YtanilbckakoogaaDoor
