/- A copy of a list of texts; appends to a row of texts of one's own. -/
import Derived.Test.YtdmjpfmjfffmiaaDoorCtI
import Derived.Laws.AppendOwnNone
import Derived.BigFrame
namespace Go.Proofs.YtdmjpfmjfffmiaaDoor
open Go.RowKit
namespace Tk

theorem addC_wide {W : World} {o : Oper} {a : Act} {K : Act → World → Prop} {Q : Exit → Act → World → Prop} (s x : Operand)
    (ho : o.op = .call { callee := .builtin .append, args := #[s, x], argTypes := #[38, 38] })
    (base : Nat) (v : Value) (P : List Bs) (t : Bs) (hs : a.eval s = v) (hx : a.eval x = .slice (some ⟨W.heap.size, 0, none⟩) 1 1) (h1 : W.ownsRow base 9 1 v P.length (strs P)) (hB : base ≤ W.heap.size) (hP : P.length ≤ 8796093022207)
    (h : ∀ v' w', w'.ownsRow base 9 1 v' (P ++ [t]).length (strs (P ++ [t])) → (W.alloc (.cells #[.string (mkS t)] 9)).grownBy w' v.ownBlock → K (a.put o.dst v') w') :
    o.wp Tryd.prog a (W.alloc (.cells #[.string (mkS t)] 9)) K Q := by
  obtain ⟨i0, hi, hz0, hz1, hz2⟩ := info_parts strInfo
  refine wp_append_own (P := Tryd.prog) _ s x 38 ho base 9 i0 (.string .empty) 1 16 Tryd.underlying38 hi hz0 hz1 hz2 rfl (by decide) v P.length (strs P) hs (h1.alloc _) ⟨W.heap.size, 0, none⟩ 1 1 [.string (mkS t)] hx rfl (cell_one_new _ _ _) (by simp [Value.oneCell']) (by unfold maxLen; omega) (by omega) (by simp; omega) ?_
  intro v' w' ho' hg' _
  refine h v' w' ?_ hg'
  rw [List.length_append, strs_append]
  exact ho'
theorem wpList_addC {ops : Array Oper} {rest : List Oper} {W : World} {o : Oper} {a : Act} {Q : Exit → Act → World → Prop} (hgd : o.guard = none) (s x : Operand)
    (ho : o.op = .call { callee := .builtin .append, args := #[s, x], argTypes := #[38, 38] })
    (base : Nat) (v : Value) (P : List Bs) (t : Bs) (hs : a.eval s = v) (hx : a.eval x = .slice (some ⟨W.heap.size, 0, none⟩) 1 1) (h1 : W.ownsRow base 9 1 v P.length (strs P)) (hB : base ≤ W.heap.size) (hP : P.length ≤ 8796093022207)
    (h : ∀ v' w', w'.ownsRow base 9 1 v' (P ++ [t]).length (strs (P ++ [t])) → (W.alloc (.cells #[.string (mkS t)] 9)).grownBy w' v.ownBlock → wpList Tryd.prog ops Q rest (a.put o.dst v') w') :
    wpList Tryd.prog ops Q (o :: rest) a (W.alloc (.cells #[.string (mkS t)] 9)) :=
  wpList_plain hgd fun _ hK => addC_wide s x ho base v P t hs hx h1 hB hP fun v' w' k1 k2 => hK _ _ (h v' w' k1 k2)
theorem strs_one (R : List Bs) : ∀ u ∈ strs R, u.oneCell' = true := by
  intro u hu
  unfold strs at hu
  rw [List.mem_map] at hu
  obtain ⟨t, -, rfl⟩ := hu
  rfl
set_option maxRecDepth 100000 in
theorem joinS_run (w : World) (o : Oper) (a : Act) (K : Act → World → Prop) (Q : Exit → Act → World → Prop) (s x : Operand)
    (ho : o.op = .call { callee := .builtin .append, args := #[s, x], argTypes := #[38, 38] })
    (base : Nat) (v v2 : Value) (P R : List Bs) (hs : a.eval s = v) (hx : a.eval x = v2) (h1 : w.ownsRow base 9 1 v P.length (strs P)) (h2 : IsStrs w v2 R) (hnl : ∀ n c, v2 = .slice none n c → c = 0)
    (hB : base ≤ w.heap.size) (hPR : P.length + R.length ≤ 8796093022208)
    (h : ∀ v' w', w'.ownsRow base 9 1 v' (P ++ R).length (strs (P ++ R)) → w.grownBy w' v.ownBlock → K (a.put o.dst v') w') : o.wp Tryd.prog a w K Q := by
  obtain ⟨i0, hi, hz0, hz1, hz2⟩ := info_parts strInfo
  obtain ⟨ad, cap, rfl, hc⟩ := h2
  rcases ad with _ | ad
  · have hR0 : R = [] := by
      cases R with
      | nil => rfl
      | cons f t => obtain ⟨b, o, e, -⟩ := hc 0 f rfl; cases e
    subst hR0
    have hcap0 := hnl _ _ rfl
    subst hcap0
    have hrun := run_append_owned_none (P := Tryd.prog) (w := w) base 38 o.type 9 i0 1 Tryd.underlying38 hi v P.length (strs P) h1
    unfold Oper.wp
    simp only [List.length_nil] at hx
    simp [execOp, ho, resolve, invoke, builtin, hs, hx, hrun, Result.andThen]
    exact h v w (by simpa using h1) ⟨rfl, rfl, rfl, Nat.le_refl _, fun _ _ _ => rfl⟩
  · refine wp_append_own (P := Tryd.prog) w s x 38 ho base 9 i0 (.string .empty) 1 16 Tryd.underlying38 hi hz0 hz1 hz2 rfl (by decide) v P.length (strs P) hs h1 ad R.length cap (strs R) hx (by simp [strs])
      (fun j u hj => ?_) (strs_one R) (by unfold maxLen; omega) (by omega) hB ?_
    · unfold strs at hj
      rw [List.getElem?_map] at hj
      obtain ⟨t, ht, rfl⟩ := Option.map_eq_some_iff.1 hj
      obtain ⟨b, o, e, g0⟩ := hc j t ht
      injection e with e
      subst e
      rw [Go.WideShapes.add_plain]
      exact g0
    · intro v' w' ho' hg' _
      refine h v' w' ?_ hg'
      rw [List.length_append, strs_append]
      exact ho'
theorem wpList_joinS {ops : Array Oper} {rest : List Oper} {w : World} {o : Oper} {a : Act} {Q : Exit → Act → World → Prop} (hgd : o.guard = none) (s x : Operand)
    (ho : o.op = .call { callee := .builtin .append, args := #[s, x], argTypes := #[38, 38] })
    (base : Nat) (v v2 : Value) (P R : List Bs) (hs : a.eval s = v) (hx : a.eval x = v2) (h1 : w.ownsRow base 9 1 v P.length (strs P)) (h2 : IsStrs w v2 R) (hnl : ∀ n c, v2 = .slice none n c → c = 0)
    (hB : base ≤ w.heap.size) (hPR : P.length + R.length ≤ 8796093022208)
    (h : ∀ v' w', w'.ownsRow base 9 1 v' (P ++ R).length (strs (P ++ R)) → w.grownBy w' v.ownBlock → wpList Tryd.prog ops Q rest (a.put o.dst v') w') : wpList Tryd.prog ops Q (o :: rest) a w :=
  wpList_plain hgd fun _ hK => joinS_run w o a _ Q s x ho base v v2 P R hs hx h1 h2 hnl hB hPR fun v' w' a b => hK _ _ (h v' w' a b)

set_option maxHeartbeats 2000000 in
set_option maxRecDepth 100000 in
theorem ownS_any (v : Value) (l : List Bs) (w : World) (hs : IsStrs w v l) (hnl : ∀ n c, v = .slice none n c → c = 0) (hl : l.length ≤ 8796093022208) :
    Calls Tryd.prog 28 #[v] w fun e w' => ∃ v', e = .returned v' ∧ w'.ownsRow w.heap.size 9 1 v' l.length (strs l) ∧ Below w.heap.size w w' := by
  have HS := Lib.hid hs
  have HNL := Lib.hid hnl
  obtain ⟨a, cap, rfl⟩ : ∃ a cap, v = .slice a l.length cap := by obtain ⟨a, c, h, -⟩ := hs; exact ⟨a, c, h⟩
  clear hs hnl
  go_enter Tryd.func28, Tryd.ntmps28
  have ho := World.ownsRow_lit (base := w.heap.size) (e := 9) (size := 1) w #[] 0 (Nat.le_refl _) (by decide) rfl
  have hb0 : Below w.heap.size w (w.alloc (Obj.cells #[] 9)) := (Below.refl _ _).alloc (Nat.le_refl _) _
  have HF := Lib.hid (isStrsC_below HS.out hb0)
  have HB0 := Lib.hid hb0
  have HO := Lib.hid ho
  clear ho hb0
  go_wp2_with (at_builtin; refine wpList_joinS rfl _ _ rfl w.heap.size _ _ [] l rfl rfl HO.out HF.out HNL.out (by simp) (by simpa using hl) ?_)
  intro v' w' ho' hg'
  have HB1 := Lib.hid (HB0.out.trans (below_of_grown hg' HO.out (by simp)))
  have HO1 := Lib.hid ho'
  clear ho' hg'
  go_wp2_with fail
  go_ret
  exact ⟨v', rfl, HO1.out, HB1.out⟩
end Tk
end Go.Proofs.YtdmjpfmjfffmiaaDoor
