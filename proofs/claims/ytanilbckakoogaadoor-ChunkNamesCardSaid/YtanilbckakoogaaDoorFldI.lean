/- field.copied. -/
import Derived.Test.YtanilbckakoogaaDoorFldH
import Derived.Test.YtanilbckakoogaaDoorJoinF
namespace Go.Proofs.YtanilbckakoogaaDoor
open Go.RowKit
namespace Tk

theorem fcells_put : ∀ (a : List (Bs × Bs)) (f : Bs × Bs) (b : List (Bs × Bs)) (n x : Bs), ((fcells (a ++ f :: b)).set (a.length * 2) (.string (mkS n))).set (a.length * 2 + 1) (.string (mkS x)) = fcells (a ++ (n, x) :: b)
  | [], f, b, n, x => by simp [fcells]
  | g :: a, f, b, n, x => by
    have := fcells_put a f b n x
    unfold fcells at *
    rw [List.cons_append, List.cons_append, List.flatMap_cons, List.flatMap_cons, List.length_cons, show (a.length + 1) * 2 = a.length * 2 + 2 by omega]
    simpa using this
theorem fcells_mid (a : List (Bs × Bs)) (f : Bs × Bs) (b : List (Bs × Bs)) : (fcells (a ++ f :: b))[a.length * 2]? = some (.string (mkS f.1)) ∧ (fcells (a ++ f :: b))[a.length * 2 + 1]? = some (.string (mkS f.2)) :=
  fcells_get _ _ _ (by simp)
theorem made_fcells (n : Nat) : (madeCells #[Value.string .empty, Value.string .empty] (n * 2)).toList = fcells (List.replicate n ([], [])) := by
  apply List.ext_getElem?
  intro j
  by_cases hj : j < n * 2
  · have hl : (madeCells #[Value.string .empty, Value.string .empty] (n * 2)).toList[j]? = some (.string (mkS [])) := by
      rcases Nat.mod_two_eq_zero_or_one j with h | h <;> simp [madeCells, hj, h] <;> rfl
    rw [hl]
    rcases Nat.mod_two_eq_zero_or_one j with h | h
    · obtain ⟨t, rfl⟩ : ∃ t, j = t * 2 := ⟨j / 2, by omega⟩
      exact (fcells_get (List.replicate n ([], [])) t ([], []) (by rw [List.getElem?_replicate, if_pos (by omega)])).1.symm
    · obtain ⟨t, rfl⟩ : ∃ t, j = t * 2 + 1 := ⟨j / 2, by omega⟩
      exact (fcells_get (List.replicate n ([], [])) t ([], []) (by rw [List.getElem?_replicate, if_pos (by omega)])).2.symm
  · rw [List.getElem?_eq_none (by simp [madeCells]; omega), List.getElem?_eq_none (by rw [fcells_len]; simp; omega)]

theorem own_keep2f {w w' : World} {B : Nat} {v : Value} {n : Nat} {xs : List Value} {e : TypeId} (h : w.ownsRow B e 2 v n xs) (hb : Below w.heap.size w w') : w'.ownsRow B e 2 v n xs :=
  World.ownsRow.kept h (row := none) ⟨hb.os, hb.tape, hb.output, hb.size, fun k hk _ => hb.block k hk⟩ (by cases h : v.ownBlock <;> simp)
theorem own_put2 {w : World} {B g cap n : Nat} {a b : List (Bs × Bs)} {f : Bs × Bs} (h : w.ownsRow B 26 2 (.slice (some ⟨g, 0, none⟩) n cap) n (fcells (a ++ f :: b))) (s x : Bs) :
    ((w.setCell ⟨g, a.length * 2, none⟩ (.string (mkS s))).setCell ⟨g, a.length * 2 + 1, none⟩ (.string (mkS x))).ownsRow B 26 2 (.slice (some ⟨g, 0, none⟩) n cap) n (fcells (a ++ (s, x) :: b)) := by
  have h1 := (h.stored (a.length * 2) (.string (mkS s))).1
  have h2 := (h1.stored (a.length * 2 + 1) (.string (mkS x))).1
  rw [fcells_put] at h2
  exact h2

def OwnPost (l : List (Bs × Bs)) (w : World) (e : Ending) (w' : World) : Prop :=
  ∃ v', e = .returned v' ∧ w'.ownsRow w.heap.size 26 2 v' l.length (fcells l) ∧ Below w.heap.size w w'

set_option maxHeartbeats 8000000 in
set_option maxRecDepth 100000 in
theorem copied_any (v : Value) (l : List (Bs × Bs)) (w : World) (hs : IsFlds w v l) (hz : ∀ f ∈ l, f.1.length ≤ 1099511627776 ∧ f.2.length ≤ 1099511627776) (hl : l.length ≤ 1048576) :
    Calls Tryd.prog 65 #[v] w (OwnPost l w) := by
  obtain ⟨i0, hi0, hz0, hz1, hz2⟩ := info_parts fldInfo
  have HS := Lib.hid hs
  have HZ := Lib.hid hz
  obtain ⟨a, cap, rfl⟩ : ∃ a cap, v = .slice a l.length cap := by obtain ⟨a, c, h, -⟩ := hs; exact ⟨a, c, h⟩
  clear hs hz
  go_enter Tryd.func65, Tryd.ntmps65
  go_wp2_with (refine wpList_make_full w rfl _ _ 22 rfl w.heap.size 26 i0 (.agg #[.string .empty, .string .empty]) 2 Tryd.underlying22 hi0 hz0 hz1 .i64 .i64 _ _ l.length rfl rfl rfl rfl ?c1 ?c2 (Nat.le_refl _) ?_)
  case c1 => rw [hz2]; omega
  case c2 => unfold maxLen; omega
  intro w1 ho hg
  rw [made_fcells] at ho
  have HO0 := Lib.hid ho
  have HB0 := Lib.hid (show Below w.heap.size w w1 from ⟨hg.os, hg.tape, hg.output, hg.size, fun k hk => hg.block k hk (by simp)⟩)
  clear ho hg
  go_wp2_with fail
  go_loopw [11] (fun vi wr => ∃ i : Nat, i ≤ l.length ∧ vi = .int .i64 i ∧ Hid (wr.ownsRow w.heap.size 26 2 (.slice (some ⟨w.heap.size, 0, none⟩) l.length l.length) l.length (fcells (l.take i ++ List.replicate (l.length - i) ([], [])))) ∧ Hid (Below w.heap.size w wr)) (fun vi _ => l.length - (RowKit.intOf vi).toNat)
  case atStart => exact ⟨0, Nat.zero_le _, rfl, HO0, HB0⟩
  case round =>
    obtain ⟨i, hi, rfl, HO, HB⟩ := hrel
    rename World => W
    by_cases hlt : i < l.length
    · obtain ⟨a', c', e', hcap, hc⟩ := isFlds_below HS.out HB.out
      injection e' with e1 _ e2
      subst e1 e2
      obtain ⟨b, o, rfl, hc0, hc1⟩ := hc i (l.getD i ([], [])) (by simp [List.getD, hlt])
      have hm := HZ.out (l.getD i ([], [])) (by simp [List.getD, hlt])
      have htk : l.take (i + 1) = l.take i ++ [l.getD i ([], [])] := by
        rw [List.take_succ_eq_append_getElem hlt]; simp [List.getD, hlt]
      have hlen : (l.take i).length = i := by simp; omega
      have hrep : List.replicate (l.length - i) (([], []) : Bs × Bs) = ([], []) :: List.replicate (l.length - (i + 1)) ([], []) := by
        rw [show l.length - i = (l.length - (i + 1)) + 1 by omega]; rfl
      rw [hrep] at HO
      have HTK := Lib.hid htk
      have HLen := Lib.hid hlen
      clear hc htk hlen hrep
      generalize l.getD i ([], []) = f at *
      obtain ⟨n, x⟩ := f
      simp only at hm hc0 hc1
      have HC := Lib.hid (fun W : World => fown_any n x W hm.1 hm.2)
      have HF0 := Lib.hid (Two.new W 26 (.string (mkS n)) (.string (mkS x)))
      have hb0 : Below W.heap.size W (W.alloc (Obj.cells #[.string (mkS n), .string (mkS x)] 26)) := (Below.refl _ _).alloc (Nat.le_refl _) _
      have HO1 := Lib.hid (own_keep2f HO.out hb0)
      have HB1 := Lib.hid (HB.out.trans (hb0.mono HB.out.size))
      have hq0 := HF0.out.c0
      have hq1 := HF0.out.c1
      have g0 : (0 : Int) ≤ (i : Int) := by omega
      have g1 : (i : Int) < (l.length : Int) := by omega
      have hbsz := HB.out.size
      have hs0 : w.heap.size ≤ (W.alloc (Obj.cells #[.string (mkS n), .string (mkS x)] 26)).heap.size := by simp; omega
      clear hb0 hbsz
      go_wp2_with fail
      generalize W.alloc (Obj.cells #[.string (mkS n), .string (mkS x)] 26) = W4 at *
      generalize W.heap.size = g at *
      refine (HC.out _).mono ?_
      rintro e w5 ⟨rfl, hb⟩
      have ho5 := own_keep2f HO1.out hb
      have HB5 := Lib.hid (HB1.out.trans (hb.mono hs0))
      have k0 := ho5.cellAt (i * 2) (by omega)
      have k1 := ho5.cellAt (i * 2 + 1) (by omega)
      have hmid := fcells_mid (l.take i) ([], []) (List.replicate (l.length - (i + 1)) ([], []))
      rw [HLen.out] at hmid
      rw [hmid.1] at k0
      rw [hmid.2] at k1
      have f0 := ho5.frozenAt (i * 2)
      have f1 := ho5.frozenAt (i * 2 + 1)
      have HO5 := Lib.hid ho5
      have k2 : (w5.setCell ⟨w.heap.size, i * 2, none⟩ (.string (mkS n))).cell? ⟨w.heap.size, i * 2 + 1, none⟩ = some (.string (mkS [])) := by
        rw [World.cell?_setCell_other (w := w5) (a := ⟨w.heap.size, i * 2, none⟩) (b := ⟨w.heap.size, i * 2 + 1, none⟩) (h := by intro e; injection e with _ e2; omega)]; exact k1
      clear hb ho5 hmid
      go_wp2_with fail
      have hst := own_put2 (a := l.take i) HO5.out n x
      rw [HLen.out] at hst
      refine ⟨⟨i + 1, hlt, by go_num, ?_, ?_⟩, by simp [RowKit.intOf]; omega⟩
      · show World.ownsRow _ _ _ _ _ _ _
        rw [HTK.out, List.append_assoc]
        exact hst
      · exact (HB5.out.setCell (p := ⟨w.heap.size, i * 2, none⟩) (Nat.le_refl _) _).setCell (p := ⟨w.heap.size, i * 2 + 1, none⟩) (Nat.le_refl _) _
    · obtain rfl : i = l.length := by omega
      have hfin := HO.out
      rw [Nat.sub_self, List.take_length, List.replicate_zero, List.append_nil] at hfin
      have HF := Lib.hid hfin
      clear hfin
      go_wp2_with fail
      go_ret
      exact ⟨_, rfl, HF.out, HB.out⟩
end Tk
end Go.Proofs.YtanilbckakoogaaDoor
