/- Equality of two controls; part of a list; light texts. -/
import Derived.Test.YtdmjpfmjfffmiaaDoorCtH
import Derived.Test.YtdmjpfmjfffmiaaDoorLtT
import Derived.Laws.StructEq
namespace Go.Proofs.YtdmjpfmjfffmiaaDoor
open Go.RowKit
namespace Tk

theorem noStandC : Tryd.prog.stoodInHeld 36 = false := by kernel_rfl
theorem ctl_eql (W : World) (c : Ctl) : (binOp .eql 36 (.agg (ctlA c)) (.agg (ctlA c))).run Tryd.prog W = .ok (.bool true) W := by
  rw [run_eql_struct, run_equalIn_agg _ _ _ _ _ (by simp [Program.fieldsOf, Tryd.underlying36]) noStandC]
  simp [Program.fieldsOf, Tryd.underlying36, Op.eqFields, go_sem, ctlA]
theorem ctl_neq (W : World) (c : Ctl) : (binOp .neq 36 (.agg (ctlA c)) (.agg (ctlA c))).run Tryd.prog W = .ok (.bool false) W := by
  rw [run_neq_struct, run_equalIn_agg _ _ _ _ _ (by simp [Program.fieldsOf, Tryd.underlying36]) noStandC]
  simp [Program.fieldsOf, Tryd.underlying36, Op.eqFields, go_sem, ctlA]
theorem lens_light {b : Nat} : ∀ (l : List Bs) (n : Nat), txGo b n l = true → n ≤ b → n + Lib.lens l ≤ b
  | [], n, _, hn => by simpa [Lib.lens] using hn
  | x :: t, n, h, hn => by
    unfold txGo at h
    split at h
    · cases h
    · have := lens_light t (n + x.length) h (by omega)
      simp [Lib.lens] at *
      omega
theorem light_lens {M b : Nat} {l : List Bs} (h : lightX M b l = true) : l.length ≤ M ∧ Lib.lens l ≤ b ∧ ∀ x ∈ l, x.length ≤ b := by
  have h1 := lightX_parts M b l h
  unfold lightX at h
  rw [Bool.and_eq_true] at h
  have h2 := lens_light l 0 h.2 (by omega)
  exact ⟨h1.1, by omega, h1.2⟩
theorem v_i64 {c : Ctl} (h : vC c) : i64C c := by
  obtain ⟨⟨-, h0⟩, ⟨-, h1⟩, ⟨-, h2⟩, ⟨-, h3⟩, ⟨-, h4⟩, -, h5⟩ := h
  unfold mxD at *
  exact ⟨by omega, by omega, by omega, by omega, by omega, by omega⟩
theorem okC_v {c : Ctl} (h : vC c) : chkE c = 0 := by unfold chkE; rw [if_pos ((okC15_v c).2 h)]
/-- one value of a list, as a list -/
theorem isStrs_part {w : World} {a : Option Addr} {c : Nat} {L : List Bs} (h : IsStrs w (.slice a L.length c) L) (i : Nat) (hi : i < L.length) :
    ∃ b o, a = some ⟨b, o, none⟩ ∧ IsStrs w (.slice (some ⟨b, o + i, none⟩) 1 (c - i)) [L.getD i []] := by
  obtain ⟨a', c', e, hcs⟩ := h
  injection e with e1 _ e3
  subst e1 e3
  obtain ⟨b, o, rfl, hcell⟩ := hcs i (L.getD i []) (by simp [List.getD, hi])
  refine ⟨b, o, rfl, some ⟨b, o + i, none⟩, c - i, rfl, fun j t hj => ?_⟩
  cases j with
  | zero =>
    simp at hj
    subst hj
    exact ⟨b, o + i, rfl, by simpa using hcell⟩
  | succ j => simp at hj
end Tk
end Go.Proofs.YtdmjpfmjfffmiaaDoor
