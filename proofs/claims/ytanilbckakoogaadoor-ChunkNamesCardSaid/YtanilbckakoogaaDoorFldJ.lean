/- slices.Clone and slices.DeleteFunc over fields; field.Del. -/
import Derived.Test.YtanilbckakoogaaDoorFldI
import Derived.Laws.IdiomCopy
import Derived.Lib.SliceRun
namespace Go.Proofs.YtanilbckakoogaaDoor
open Go.RowKit
namespace Tk

theorem isFlds_nil_cap {w : World} {v : Value} {B n : Nat} {xs : List Value} {e : TypeId} (h : w.ownsRow B e 2 v n xs) : ∀ m c, v = .slice none m c → c = 0 := by
  rintro m c rfl
  rcases h.2 with ⟨hv, -⟩ | ⟨g, cap, cur, hv, _⟩
  · injection hv
  · injection hv with e1; cases e1

set_option maxHeartbeats 2000000 in
set_option maxRecDepth 100000 in
theorem sclone_any (v : Value) (l : List (Bs × Bs)) (w : World) (hs : IsFlds w v l) (hnl : ∀ n c, v = .slice none n c → c = 0) (hl : l.length ≤ 1048576) :
    Calls Tryd.prog 68 #[v] w (OwnPost l w) := by
  have HS := Lib.hid hs
  have HNL := Lib.hid hnl
  obtain ⟨a, cap, rfl⟩ : ∃ a cap, v = .slice a l.length cap := by obtain ⟨a, c, h, -⟩ := hs; exact ⟨a, c, h⟩
  rcases a with _ | ad
  · have hl0 : l = [] := by
      obtain ⟨a', c', e, -, hc⟩ := hs
      injection e with e1 _ _
      subst e1
      cases l with
      | nil => rfl
      | cons f t => obtain ⟨b, o, e, -⟩ := hc 0 f rfl; cases e
    subst hl0
    have hq : ∀ W : World, (binOp .eql 22 (.slice none 0 cap) (.slice none 0 0)).run Tryd.prog W = .ok (.bool true) W := fun W => Lib.run_eql_slice_nil W _ _ _ _ _ _ _ Tryd.underlying22
    clear hs hnl
    go_enter Tryd.func68, Tryd.ntmps68
    go_wp2_with fail
    go_ret
    exact ⟨_, rfl, World.ownsRow_nil _ _ _ _, Below.refl _ _⟩
  · have hq : ∀ W : World, (binOp .eql 22 (.slice (some ad) l.length cap) (.slice none 0 0)).run Tryd.prog W = .ok (.bool false) W := fun W => Lib.run_eql_slice_nil W _ _ _ _ _ _ _ Tryd.underlying22
    clear hs hnl
    go_enter Tryd.func68, Tryd.ntmps68
    have ho := World.ownsRow_lit (base := w.heap.size) (e := 26) (size := 2) w #[] 0 (Nat.le_refl _) (by decide) rfl
    have hb0 : Below w.heap.size w (w.alloc (Obj.cells #[] 26)) := (Below.refl _ _).alloc (Nat.le_refl _) _
    have HF := Lib.hid (isFlds_below HS.out hb0)
    have HB0 := Lib.hid hb0
    have HO := Lib.hid ho
    clear ho hb0
    go_wp2_with (at_builtin; refine joinF_guarded (by rfl) _ _ rfl w.heap.size _ _ [] l rfl rfl HO.out HF.out HNL.out ?c1 ?c2 ?c3 ?_)
    intro v' w' ho' hg'
    have HB1 := Lib.hid (HB0.out.trans (below_of_grownF hg' HO.out (by simp)))
    have HO1 := Lib.hid ho'
    clear ho' hg'
    go_wp2_with fail
    go_ret
    exact ⟨v', rfl, HO1.out, HB1.out⟩

/-- the cells that clear writes into n fields -/
def zeros2 (n : Nat) : List Value := (Builtin.zeroCells #[.string .empty, .string .empty] n).toList
theorem zeros2_len (n : Nat) : (zeros2 n).length = n * 2 := by simp [zeros2, Builtin.zeroCells]
theorem zeros2_one (n : Nat) : ∀ u ∈ zeros2 n, u.oneCell' = true := by
  intro u hu
  simp [zeros2, Builtin.zeroCells] at hu
  obtain ⟨j, -, rfl⟩ := hu
  rcases Nat.mod_two_eq_zero_or_one j with h | h <;> simp [h] <;> rfl
theorem run_clear2 (w : World) (ty : TypeId) (b o n c : Nat) (hn : 0 < n) (hc : ∀ j, j < n * 2 → (w.cell? ⟨b, o + j, none⟩).isSome = true) (hf : ∀ j, j < n * 2 → w.frozen? ⟨b, o + j, none⟩ = false) :
    (Builtin.clear_ #[22] ty #[.slice (some ⟨b, o, none⟩) n c]).run Tryd.prog w = .ok (.tuple #[]) (w.setCells b o (zeros2 n)) := by
  have hst := run_storeCells_cells (P := Tryd.prog) b o (zeros2 n) 0 w (by rw [zeros2_len]; simpa using hc) (by rw [zeros2_len]; simpa using hf) (zeros2_one n)
  simp only [Nat.add_zero] at hst
  obtain ⟨m, rfl⟩ : ∃ m, n = m + 1 := ⟨n - 1, by omega⟩
  have hst2 : (storeCells ⟨b, o, none⟩ (Builtin.zeroCells (Value.agg #[Value.string ⟨#[]⟩, Value.string ⟨#[]⟩]).cells (m + 1)).toList).run Tryd.prog w = .ok () (w.setCells b o (zeros2 (m + 1))) := hst
  simp [Builtin.clear_, run_underlying Tryd.underlying22]
  rw [hst2]
  rfl
theorem below_setC {B b : Nat} {a : World} (hb : B ≤ b) : ∀ (vs : List Value) (o : Nat) (w : World), Below B a w → Below B a (w.setCells b o vs)
  | [], _, _, h => h
  | v :: vs, o, _, h => below_setC hb vs (o + 1) _ (h.setCell (p := ⟨b, o, none⟩) hb v)
end Tk
end Go.Proofs.YtanilbckakoogaaDoor
