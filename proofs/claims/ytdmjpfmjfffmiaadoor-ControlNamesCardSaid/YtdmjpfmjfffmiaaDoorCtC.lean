/- control.setters: the map of the setters by their names. -/
import Derived.Test.YtdmjpfmjfffmiaaDoorCtB
import Derived.Maps.OwnOps
import Derived.Maps.OwnSet
import Derived.Maps.Views
import Derived.StringKeys
namespace Go.Proofs.YtdmjpfmjfffmiaaDoor
open Go.RowKit Go.Maps Go.WideMaps
namespace Tk

/-- how a function without bound values reads -/
def fnElem : Value → Option (DataW Unit × List MemPlace)
  | .func (.func f) a b => if a.size = 0 ∧ b.size = 0 then some (.lit (.int .i64 f), []) else none
  | .nilFunc => some (.lit (.int .i64 (-1)), [])
  | _ => none
theorem fnElem_mk (f : Nat) : fnElem (.func (.func f) #[] #[]) = some (.lit (.int .i64 f), []) := by simp [fnElem]
theorem fnElem_nil : fnElem .nilFunc = some (.lit (.int .i64 (-1)), []) := rfl
theorem fnElem_inv {v : Value} {f : Nat} {ps : List MemPlace} (h : fnElem v = some (.lit (.int .i64 f), ps)) : v = .func (.func f) #[] #[] := by
  unfold fnElem at h
  split at h
  · rename_i g a b
    split at h
    · rename_i hs
      obtain ⟨h1, h2⟩ := hs
      injection h with h
      injection h with h3 _
      injection h3 with h3
      injection h3 with _ h3
      obtain rfl : g = f := Int.ofNat.inj h3
      rw [Array.eq_empty_of_size_eq_zero h1, Array.eq_empty_of_size_eq_zero h2]
    · cases h
  · injection h with h
    injection h with h3 _
    injection h3 with h3
    injection h3 with _ h3
    have h4 : (-1 : Int) = (f : Int) := h3
    omega
  · cases h
theorem zeroSetter (w : World) : (zeroValue 74).run Tryd.prog w = .ok .nilFunc w := by kernel_rfl
theorem strKeyC : Maps.Keyed Tryd.prog 9 := string_keyed Tryd.underlying9
theorem keyIsC (s : ByteArray) (h : s.size ≤ 1099511627776) : keyOf Tryd.prog 9 (.string s) = some (.string (bs s)) :=
  keyOf_string_mk Tryd.underlying9 (s := s) (by simp only [maxLen]; omega)

def findL : List (Bs × Nat) → Bs → Option Nat
  | [], _ => none
  | (y, f) :: t, x => if x = y then some f else findL t x
/-- the datum reads by these names -/
def FnD (D : DataW Unit) (L : List (Bs × Nat)) : Prop :=
  Maps.IsMap D ∧ ∀ x : Bs, Maps.has D (.string x) = (findL L x).isSome ∧ ∀ z, D.atKey (.string x) z = match findL L x with | some f => .lit (.int .i64 f) | none => z
theorem FnD.nil : FnD (.map []) [] := ⟨Maps.isMap_empty, fun x => ⟨by simp [Maps.has_eq, findL], fun z => by simp [DataW.atKey, findL]⟩⟩
theorem FnD.put {D : DataW Unit} {L : List (Bs × Nat)} (h : FnD D L) (y : Bs) (f : Nat) : FnD (D.put (.string y) (.lit (.int .i64 f))) ((y, f) :: L) := by
  refine ⟨h.1.put _ _, fun x => ?_⟩
  by_cases e : x = y
  · subst e
    refine ⟨?_, fun z => ?_⟩
    · rw [Maps.has_put_same h.1 (by simp [WideAt.IsKeyLit])]; simp [findL]
    · rw [Maps.atKey_put_same h.1 (by simp [WideAt.IsKeyLit])]; simp [findL]
  · have hne : Lit.string x ≠ Lit.string y := fun h => e (by injection h)
    refine ⟨?_, fun z => ?_⟩
    · rw [Maps.has_put_other hne, (h.2 x).1]; simp [findL, e]
    · rw [Maps.atKey_put_other hne, (h.2 x).2]; simp [findL, e]
/-- block b is a map of functions by these names -/
def FnMap (w : World) (b : Nat) (L : List (Bs × Nat)) : Prop := ∃ D, w.ownsMap Tryd.prog 9 fnElem b 15 D ∧ FnD D L
theorem FnMap.lt {w : World} {b : Nat} {L : List (Bs × Nat)} (h : FnMap w b L) : b < w.heap.size := by obtain ⟨D, h, -⟩ := h; exact h.lt
theorem FnMap.kept {w w' : World} {b : Nat} {L : List (Bs × Nat)} {r : Option Nat} (h : FnMap w b L) (hg : w.grownBy w' r) (hr : some b ≠ r) : FnMap w' b L := by
  obtain ⟨D, h1, h2⟩ := h
  exact ⟨D, h1.kept hg hr, h2⟩
theorem FnMap.same {w w' : World} {b : Nat} {L : List (Bs × Nat)} (h : FnMap w b L) (hb : w'.heap[b]? = w.heap[b]?) : FnMap w' b L := by
  obtain ⟨D, ⟨es, ck, h1, h2⟩, h3⟩ := h
  exact ⟨D, ⟨es, ck, hb.trans h1, h2⟩, h3⟩

/-- an entry of a map that is written out -/
theorem wpList_insert_own {H : Type} {P : Program} (w : World) {ops : Array Oper} {rest : List Oper} {o : Oper} {a : Act} {Q : Exit → Act → World → Prop}
    (hg : o.guard = none) (m x v : Operand) (t : TypeId) (hop : o.op = Op.insert t m x v)
    (k e : TypeId) (K : Keyed P k) (ht : P.underlying t = some (.map k e)) (R : Value → Option (DataW H × List MemPlace)) (b n : Nat) (D : DataW H)
    (hm : a.eval m = .map (some b)) (hown : w.ownsMap P k R b n D) (hn : n < maxLen) (key val : Value) (kl : Lit) (hx : a.eval x = key) (hv : a.eval v = val) (hkey : keyOf P k key = some kl)
    (d : DataW H) (ps : List MemPlace) (hval : R val = some (d, ps))
    (hK : ∀ w', w'.ownsMap P k R b (n + 1) (D.put kl d) → w.grownBy w' (some b) → wpList P ops Q rest (a.put o.dst undef) w') :
    wpList P ops Q (o :: rest) a w := by
  refine wpList_plain hg fun K' hK' => ?_
  obtain ⟨w', hrun, r1, r2⟩ := hown.update K ht hn hkey hval
  unfold Oper.wp
  simp [execOp, hop, hm, hx, hv, hrun, Result.andThen]
  exact hK' _ _ (hK w' r1 r2)

def setL : List (Bs × Nat) := [(dn14, 89), (dn13, 88), (dn12, 87), (dn11, 86), (dn10, 85), (dn9, 84), (dn8, 83), (dn7, 82), (dn6, 81), (dn5, 80), (dn4, 79), (dn3, 78), (dn2, 76), (dn1, 75), (dn0, 72)]
def SettersPost (w : World) (e : Ending) (w' : World) : Prop := e = .returned (.map (some w.heap.size)) ∧ FnMap w' w.heap.size setL ∧ Below w.heap.size w w'

set_option maxHeartbeats 8000000 in
set_option maxRecDepth 100000 in
theorem setters_any (w : World) : Calls Tryd.prog 45 #[] w (SettersPost w) := by
  have hmm := @run_makeMap Tryd.prog
  have HM := Lib.hid (World.ownsMap_made w Tryd.prog 9 fnElem)
  have HB := Lib.hid (show Below w.heap.size w (w.alloc (.map #[] 0)) from (Below.refl _ _).alloc (Nat.le_refl _) _)
  have hsz : w.heap.size ≤ (w.alloc (.map #[] 0)).heap.size := by simp
  unfold SettersPost
  go_enter Tryd.func45, Tryd.ntmps45
  go_wp2_with (refine wpList_insert_own _ rfl _ _ _ 66 rfl 9 74 strKeyC Tryd.underlying66 fnElem w.heap.size _ _ rfl HM.out (by decide) _ _ _ rfl rfl (keyIsC _ (by decide)) _ _ (fnElem_mk _) ?_
               intro w1 hown1 hgrow1
               have HM := Lib.hid hown1
               have HB := Lib.hid (HB.out.grown hgrow1 hsz (fun r e => by cases e; exact Nat.le_refl _))
               have hsz := Nat.le_trans hsz hgrow1.size
               clear hown1 hgrow1)
  go_ret
  exact ⟨rfl, ⟨_, HM.out, (((((((((((((((FnD.nil.put dn0 _).put dn1 _).put dn2 _).put dn3 _).put dn4 _).put dn5 _).put dn6 _).put dn7 _).put dn8 _).put dn9 _).put dn10 _).put dn11 _).put dn12 _).put dn13 _).put dn14 _)⟩, HB.out⟩
end Tk
end Go.Proofs.YtdmjpfmjfffmiaaDoor
