/- control.Each: the list's texts, cloned, in a slice of its own, behind a box; the function value over it. -/
import Derived.Test.YtdmjpfmjfffmiaaDoorCtJ
import Derived.Test.YtdmjpfmjfffmiaaDoorCln
import Derived.Deep.RegionWith
import Derived.Deep.RegionHeld3
namespace Go.Proofs.YtdmjpfmjfffmiaaDoor
open Go.RowKit
namespace Tk

theorem made_strsC (n : Nat) : (madeCells #[Value.string .empty] n).toList = strs (List.replicate n []) := by
  apply List.ext_getElem?
  intro j
  by_cases hj : j < n
  · simp [madeCells, strs, hj, Nat.mod_one]; rfl
  · rw [List.getElem?_eq_none (by simp [madeCells]; omega), List.getElem?_eq_none (by simp [strs]; omega)]
theorem own_keepC {w w' : World} {B : Nat} {v : Value} {n : Nat} {xs : List Value} {e : TypeId} (h : w.ownsRow B e 1 v n xs) (hb : Below w.heap.size w w') : w'.ownsRow B e 1 v n xs :=
  World.ownsRow.kept h (row := none) ⟨hb.os, hb.tape, hb.output, hb.size, fun k hk _ => hb.block k hk⟩ (by cases h : v.ownBlock <;> simp)
theorem strs_putC (a : List Bs) (f : Bs) (b : List Bs) (s : Bs) : (strs (a ++ f :: b)).set a.length (.string (mkS s)) = strs (a ++ s :: b) := by
  simp [strs]
theorem own_putC {w : World} {B g cap n : Nat} {a b : List Bs} {f : Bs} (h : w.ownsRow B 9 1 (.slice (some ⟨g, 0, none⟩) n cap) n (strs (a ++ f :: b))) (s : Bs) :
    (w.setCell ⟨g, a.length, none⟩ (.string (mkS s))).ownsRow B 9 1 (.slice (some ⟨g, 0, none⟩) n cap) n (strs (a ++ s :: b)) := by
  have h1 := (h.stored a.length (.string (mkS s))).1
  rw [strs_putC] at h1
  exact h1
theorem strs_midC (a : List Bs) (f : Bs) (b : List Bs) : (strs (a ++ f :: b))[a.length]? = some (.string (mkS f)) := by simp [strs]

/-- what control.Each returns -/
def EachPost (l : List Bs) (w : World) (e : Ending) (w' : World) : Prop :=
  ∃ (g : Nat) (ad : Option Addr) (c : Nat), e = .returned (.func (.func 96) #[] #[.pointer (some ⟨g, 0, none⟩)]) ∧ w'.cell? ⟨g, 0, none⟩ = some (.slice ad l.length c) ∧ IsStrs w' (.slice ad l.length c) l ∧ Below w.heap.size w w'

set_option maxHeartbeats 8000000 in
set_option maxRecDepth 100000 in
theorem ceach_any (v : Value) (l : List Bs) (w : World) (hs : IsStrs w v l) (hz : ∀ x ∈ l, x.length ≤ 1000000) (hl : l.length ≤ 1048576) :
    Calls Tryd.prog 47 #[v] w (EachPost l w) := by
  obtain ⟨i0, hi0, hz0, hz1, hz2⟩ := info_parts strInfo
  have HS := Lib.hid hs
  have HZ := Lib.hid hz
  obtain ⟨a, cap, rfl⟩ : ∃ a cap, v = .slice a l.length cap := by obtain ⟨a, c, h, -⟩ := hs; exact ⟨a, c, h⟩
  clear hs hz
  go_enter Tryd.func47, Tryd.ntmps47
  go_wp2_with (refine wpList_make_full w rfl _ _ 38 rfl w.heap.size 9 i0 (.string .empty) 1 Tryd.underlying38 hi0 hz0 hz1 .i64 .i64 _ _ l.length rfl rfl rfl rfl ?c1 ?c2 (Nat.le_refl _) ?_)
  case c1 => rw [hz2]; omega
  case c2 => unfold maxLen; omega
  intro w1 ho hg
  rw [made_strsC] at ho
  have HO0 := Lib.hid ho
  have HB0 := Lib.hid (show Below w.heap.size w w1 from ⟨hg.os, hg.tape, hg.output, hg.size, fun k hk => hg.block k hk (by simp)⟩)
  clear ho hg
  have hw1 := HB0.out.size
  have hw2 : w.heap.size < w1.heap.size := by
    obtain ⟨-, ⟨hv, -⟩ | ⟨g, cp, cur, hv, -, hg, -⟩⟩ := HO0.out
    · cases hv
    · cases hv; exact (Array.getElem?_eq_some_iff.1 hg).1
  have HO1 := Lib.hid (HO0.out.alloc (Obj.cells #[.slice (some ⟨w.heap.size, 0, none⟩) l.length l.length] 38))
  have HB1 := Lib.hid (HB0.out.alloc hw1 (Obj.cells #[.slice (some ⟨w.heap.size, 0, none⟩) l.length l.length] 38))
  have HX1 : Hid ((w1.alloc (Obj.cells #[.slice (some ⟨w.heap.size, 0, none⟩) l.length l.length] 38)).cell? ⟨w1.heap.size, 0, none⟩ = some (.slice (some ⟨w.heap.size, 0, none⟩) l.length l.length)) := by
    rw [Lib.cell_of_heap (heap_alloc_last w1 _)]; rfl
  have hz3 : w1.heap.size < (w1.alloc (Obj.cells #[.slice (some ⟨w.heap.size, 0, none⟩) l.length l.length] 38)).heap.size := by simp
  go_wp2_with fail
  generalize w1.alloc (Obj.cells #[.slice (some ⟨w.heap.size, 0, none⟩) l.length l.length] 38) = w2 at *
  generalize w1.heap.size = g at *
  go_loopw [11] (fun vi wr => ∃ i : Nat, i ≤ l.length ∧ vi = .int .i64 i ∧ Hid (wr.ownsRow w.heap.size 9 1 (.slice (some ⟨w.heap.size, 0, none⟩) l.length l.length) l.length (strs (l.take i ++ List.replicate (l.length - i) []))) ∧ Hid (wr.cell? ⟨g, 0, none⟩ = some (.slice (some ⟨w.heap.size, 0, none⟩) l.length l.length)) ∧ g < wr.heap.size ∧ Hid (Below w.heap.size w wr)) (fun vi _ => l.length - (RowKit.intOf vi).toNat)
  case atStart => exact ⟨0, Nat.zero_le _, rfl, HO1, HX1, hz3, HB1⟩
  case round =>
    obtain ⟨i, hi, rfl, HO, HX, hgz, HB⟩ := hrel
    rename World => W
    by_cases hlt : i < l.length
    · obtain ⟨a', c', e', hc⟩ := isStrsC_below HS.out HB.out
      injection e' with e1 _ e2
      subst e1 e2
      obtain ⟨b, o, rfl, hc0⟩ := hc i (l.getD i []) (by simp [List.getD, hlt])
      have hm := HZ.out (l.getD i []) (by simp [List.getD, hlt])
      have htk : l.take (i + 1) = l.take i ++ [l.getD i []] := by
        rw [List.take_succ_eq_append_getElem hlt]; simp [List.getD, hlt]
      have hlen : (l.take i).length = i := by simp; omega
      have hrep : List.replicate (l.length - i) ([] : Bs) = [] :: List.replicate (l.length - (i + 1)) [] := by
        rw [show l.length - i = (l.length - (i + 1)) + 1 by omega]; rfl
      rw [hrep] at HO
      have HTK := Lib.hid htk
      have HLen := Lib.hid hlen
      clear hc htk hlen hrep
      generalize l.getD i [] = x at *
      have HL : Hid (∀ W : World, Calls Tryd.prog 95 #[.string (mkS x)] W fun e w' => e = .returned (.string (mkS x)) ∧ Below W.heap.size W w') := fun W => by
        have h := clone_any (mkS x) W (by rw [size_mkS]; omega)
        rw [bs_mkS] at h
        exact h
      have g0 : (0 : Int) ≤ (i : Int) := by omega
      have g1 : (i : Int) < (l.length : Int) := by omega
      have hbsz := HB.out.size
      have hmid := strs_midC (l.take i) [] (List.replicate (l.length - (i + 1)) [])
      rw [HLen.out] at hmid
      have k0 := HO.out.cellAt i (by omega)
      rw [hmid] at k0
      have f0 := HO.out.frozenAt i
      have hx1 := HX.out
      have hwg : w.heap.size < W.heap.size := by
        obtain ⟨-, ⟨hv, -⟩ | ⟨g, cp, cur, hv, -, hg, -⟩⟩ := HO.out
        · cases hv
        · cases hv; exact (Array.getElem?_eq_some_iff.1 hg).1
      have HFin := Lib.hid (fun (w5 : World) (h : Below W.heap.size W w5) => own_keepC HO.out h)
      have HD : Hid (Below W.heap.size W W.drew) := (Below.refl _ _).drew
      clear hmid HO
      go_wp2_with fail
      go_region_with (go_at_call 95; refine (HL.out _).mono ?_; rintro e w5 ⟨rfl, hb0⟩; have hb := HD.out.trans hb0; have q1 : w5.cell? ⟨g, 0, none⟩ = some (.slice (some ⟨w.heap.size, 0, none⟩) l.length l.length) := (hb.cell (p := ⟨g, 0, none⟩) hgz).trans hx1; have q3 : w5.cell? ⟨w.heap.size, i, none⟩ = some (.string (mkS [])) := (hb.cell (p := ⟨w.heap.size, i, none⟩) hwg).trans k0; have q4 := (HFin.out w5 hb).frozenAt i)
      all_goals
        have HO5 := Lib.hid (HFin.out w5 hb)
        have HB5 := Lib.hid (HB.out.trans (hb.mono hbsz))
        have HQ5 := Lib.hid q1
        have hz5 := hb.size
        clear hb hb0 q1 q3 q4 k0 f0 hx1 HX
        go_wp2_with fail
        have hst := own_putC (a := l.take i) HO5.out x
        rw [HLen.out] at hst
        refine ⟨⟨i + 1, hlt, by go_num, ?_, ?_, ?_, ?_⟩, by simp [RowKit.intOf]; omega⟩
        · show World.ownsRow _ _ _ _ _ _ _
          rw [HTK.out, List.append_assoc]
          exact hst
        · show World.cell? _ _ = _
          rw [World.cell?_setCell_other (w := w5) (a := ⟨w.heap.size, i, none⟩) (b := ⟨g, 0, none⟩) (h := by intro e; injection e with e1 _; omega)]; exact HQ5.out
        · rw [World.size_setCell]; omega
        · exact HB5.out.setCell (p := ⟨w.heap.size, i, none⟩) (Nat.le_refl _) _
    · obtain rfl : i = l.length := by omega
      have hfin := HO.out
      rw [Nat.sub_self, List.take_length, List.replicate_zero, List.append_nil] at hfin
      have HF := Lib.hid (isStrs_own hfin)
      clear hfin
      go_wp2_with fail
      go_ret
      exact ⟨g, _, _, rfl, HX.out, HF.out, HB.out⟩
end Tk
end Go.Proofs.YtdmjpfmjfffmiaaDoor
