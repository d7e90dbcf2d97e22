/- field.Names: the lowered names in a slice of its own, behind a box; the function value over it. -/
import Derived.Test.YtapnlopeipdjmaaDoorNmA
import Derived.Test.YtapnlopeipdjmaaDoorFldI
import Derived.Test.YtapnlopeipdjmaaDoorTokE
import Derived.Test.YtapnlopeipdjmaaDoorStr
import Derived.Deep.RegionWith
import Derived.Deep.RegionHeld3
namespace Go.Proofs.YtapnlopeipdjmaaDoor
open Go.RowKit
namespace Tk

theorem made_strs (n : Nat) : (madeCells #[Value.string .empty] n).toList = strs (List.replicate n []) := by
  apply List.ext_getElem?
  intro j
  by_cases hj : j < n
  · simp [madeCells, strs, hj, Nat.mod_one]; rfl
  · rw [List.getElem?_eq_none (by simp [madeCells]; omega), List.getElem?_eq_none (by simp [strs]; omega)]
theorem own_keep1s {w w' : World} {B : Nat} {v : Value} {n : Nat} {xs : List Value} {e : TypeId} (h : w.ownsRow B e 1 v n xs) (hb : Below w.heap.size w w') : w'.ownsRow B e 1 v n xs :=
  World.ownsRow.kept h (row := none) ⟨hb.os, hb.tape, hb.output, hb.size, fun k hk _ => hb.block k hk⟩ (by cases h : v.ownBlock <;> simp)
theorem strs_put (a : List Bs) (f : Bs) (b : List Bs) (s : Bs) : (strs (a ++ f :: b)).set a.length (.string (mkS s)) = strs (a ++ s :: b) := by
  simp [strs]
theorem own_put1 {w : World} {B g cap n : Nat} {a b : List Bs} {f : Bs} (h : w.ownsRow B 9 1 (.slice (some ⟨g, 0, none⟩) n cap) n (strs (a ++ f :: b))) (s : Bs) :
    (w.setCell ⟨g, a.length, none⟩ (.string (mkS s))).ownsRow B 9 1 (.slice (some ⟨g, 0, none⟩) n cap) n (strs (a ++ s :: b)) := by
  have h1 := (h.stored a.length (.string (mkS s))).1
  rw [strs_put] at h1
  exact h1
theorem strs_mid (a : List Bs) (f : Bs) (b : List Bs) : (strs (a ++ f :: b))[a.length]? = some (.string (mkS f)) := by simp [strs]

/-- what field.Names returns -/
def NamesPost (l : List (Bs × Bs)) (w : World) (e : Ending) (w' : World) : Prop :=
  ∃ (g : Nat) (ad : Option Addr) (c : Nat), e = .returned (.func (.func 90) #[] #[.pointer (some ⟨g, 0, none⟩)]) ∧ w'.cell? ⟨g, 0, none⟩ = some (.slice ad (lowN l).length c) ∧ IsStrs w' (.slice ad (lowN l).length c) (lowN l) ∧ Below w.heap.size w w'

set_option maxHeartbeats 8000000 in
set_option maxRecDepth 100000 in
theorem fnames_any (v : Value) (l : List (Bs × Bs)) (w : World) (hs : IsFlds w v l) (hz : ∀ f ∈ l, f.1.length ≤ 1099511627776 ∧ f.2.length ≤ 1099511627776) (hl : l.length ≤ 1048576) :
    Calls Tryd.prog 66 #[v] w (NamesPost l w) := by
  obtain ⟨i0, hi0, hz0, hz1, hz2⟩ := info_parts strInfo
  have HS := Lib.hid hs
  have HZ := Lib.hid hz
  obtain ⟨a, cap, rfl⟩ : ∃ a cap, v = .slice a l.length cap := by obtain ⟨a, c, h, -⟩ := hs; exact ⟨a, c, h⟩
  clear hs hz
  go_enter Tryd.func66, Tryd.ntmps66
  go_wp2_with (refine wpList_make_full w rfl _ _ 39 rfl w.heap.size 9 i0 (.string .empty) 1 Tryd.underlying39 hi0 hz0 hz1 .i64 .i64 _ _ l.length rfl rfl rfl rfl ?c1 ?c2 (Nat.le_refl _) ?_)
  case c1 => rw [hz2]; omega
  case c2 => unfold maxLen; omega
  intro w1 ho hg
  rw [made_strs] at ho
  have HO0 := Lib.hid ho
  have HB0 := Lib.hid (show Below w.heap.size w w1 from ⟨hg.os, hg.tape, hg.output, hg.size, fun k hk => hg.block k hk (by simp)⟩)
  clear ho hg
  have hw1 := HB0.out.size
  have hw2 : w.heap.size < w1.heap.size := by
    obtain ⟨-, ⟨hv, -⟩ | ⟨g, cp, cur, hv, -, hg, -⟩⟩ := HO0.out
    · cases hv
    · cases hv; exact (Array.getElem?_eq_some_iff.1 hg).1
  have hbx := World.cell?_alloc_new w1 #[.slice (some ⟨w.heap.size, 0, none⟩) l.length l.length] 39 0
  have HO1 := Lib.hid (HO0.out.alloc (Obj.cells #[.slice (some ⟨w.heap.size, 0, none⟩) l.length l.length] 39))
  have HB1 := Lib.hid (HB0.out.alloc hw1 (Obj.cells #[.slice (some ⟨w.heap.size, 0, none⟩) l.length l.length] 39))
  have HX1 : Hid ((w1.alloc (Obj.cells #[.slice (some ⟨w.heap.size, 0, none⟩) l.length l.length] 39)).cell? ⟨w1.heap.size, 0, none⟩ = some (.slice (some ⟨w.heap.size, 0, none⟩) l.length l.length)) := by
    rw [Lib.cell_of_heap (heap_alloc_last w1 _)]; rfl
  have hz3 : w1.heap.size < (w1.alloc (Obj.cells #[.slice (some ⟨w.heap.size, 0, none⟩) l.length l.length] 39)).heap.size := by simp
  clear hbx
  go_wp2_with fail
  generalize w1.alloc (Obj.cells #[.slice (some ⟨w.heap.size, 0, none⟩) l.length l.length] 39) = w2 at *
  generalize w1.heap.size = g at *
  go_loopw [11] (fun vi wr => ∃ i : Nat, i ≤ l.length ∧ vi = .int .i64 i ∧ Hid (wr.ownsRow w.heap.size 9 1 (.slice (some ⟨w.heap.size, 0, none⟩) l.length l.length) l.length (strs ((lowN l).take i ++ List.replicate (l.length - i) []))) ∧ Hid (wr.cell? ⟨g, 0, none⟩ = some (.slice (some ⟨w.heap.size, 0, none⟩) l.length l.length)) ∧ g < wr.heap.size ∧ Hid (Below w.heap.size w wr)) (fun vi _ => l.length - (RowKit.intOf vi).toNat)
  case atStart => exact ⟨0, Nat.zero_le _, rfl, HO1, HX1, hz3, HB1⟩
  case round =>
    obtain ⟨i, hi, rfl, HO, HX, hgz, HB⟩ := hrel
    rename World => W
    by_cases hlt : i < l.length
    · obtain ⟨a', c', e', hcap, hc⟩ := isFlds_below HS.out HB.out
      injection e' with e1 _ e2
      subst e1 e2
      obtain ⟨b, o, rfl, hc0, hc1⟩ := hc i (l.getD i ([], [])) (by simp [List.getD, hlt])
      have hm := HZ.out (l.getD i ([], [])) (by simp [List.getD, hlt])
      have htk : (lowN l).take (i + 1) = (lowN l).take i ++ [lowL (l.getD i ([], [])).1] := by
        unfold lowN
        rw [List.take_succ_eq_append_getElem (by simpa using hlt)]; simp [List.getD, hlt]
      have hlen : ((lowN l).take i).length = i := by unfold lowN; simp; omega
      have hrep : List.replicate (l.length - i) ([] : Bs) = [] :: List.replicate (l.length - (i + 1)) [] := by
        rw [show l.length - i = (l.length - (i + 1)) + 1 by omega]; rfl
      rw [hrep] at HO
      have HTK := Lib.hid htk
      have HLen := Lib.hid hlen
      clear hc htk hlen hrep
      generalize l.getD i ([], []) = f at *
      obtain ⟨n, x⟩ := f
      simp only at hm hc0 hc1
      have HL : Hid (∀ W : World, Calls Tryd.prog 89 #[.string (mkS n)] W fun e w' => e = .returned (.string (mkS (lowL n))) ∧ Below W.heap.size W w') := fun W => by
        have h := tlower_any (mkS n) W (by rw [size_mkS]; omega)
        rw [bs_mkS] at h
        exact h
      have HF0 := Lib.hid (Two.new W 24 (.string (mkS n)) (.string (mkS x)))
      have hb0 : Below W.heap.size W (W.alloc (Obj.cells #[.string (mkS n), .string (mkS x)] 24)) := (Below.refl _ _).alloc (Nat.le_refl _) _
      have HO1 := Lib.hid (own_keep1s HO.out hb0)
      have HB1 := Lib.hid (HB.out.trans (hb0.mono HB.out.size))
      have HX1 := Lib.hid ((hb0.cell (p := ⟨g, 0, none⟩) hgz).trans HX.out)
      have hgz1 : g < (W.alloc (Obj.cells #[.string (mkS n), .string (mkS x)] 24)).heap.size := by simp; omega
      have hwz1 : W.heap.size < (W.alloc (Obj.cells #[.string (mkS n), .string (mkS x)] 24)).heap.size := by simp
      have hq0 := HF0.out.c0
      have hq1 := HF0.out.c1
      have g0 : (0 : Int) ≤ (i : Int) := by omega
      have g1 : (i : Int) < (l.length : Int) := by omega
      have hbsz := HB.out.size
      have hs0 : w.heap.size ≤ (W.alloc (Obj.cells #[.string (mkS n), .string (mkS x)] 24)).heap.size := by simp; omega
      clear hb0 hbsz HX
      go_wp2_with fail
      generalize W.alloc (Obj.cells #[.string (mkS n), .string (mkS x)] 24) = W4 at *
      generalize W.heap.size = g5 at *
      have hmid := strs_mid ((lowN l).take i) [] (List.replicate (l.length - (i + 1)) [])
      rw [HLen.out] at hmid
      have k0 := HO1.out.cellAt i (by omega)
      rw [hmid] at k0
      have f0 := HO1.out.frozenAt i
      have hx1 := HX1.out
      have hfin : ∀ w5, Below W4.heap.size W4 w5 → w5.ownsRow w.heap.size 9 1 (.slice (some ⟨w.heap.size, 0, none⟩) l.length l.length) l.length (strs ((lowN l).take i ++ [] :: List.replicate (l.length - (i + 1)) [])) := fun w5 h => own_keep1s HO1.out h
      have HFin := Lib.hid hfin
      have hwg : w.heap.size < W4.heap.size := by omega
      have HD : Hid (Below W4.heap.size W4 W4.drew) := (Below.refl _ _).drew
      clear hmid hfin hc0 hc1
      go_region_with (go_at_call 89; refine (HL.out _).mono ?_; rintro e w5 ⟨rfl, hb0⟩; have hb := HD.out.trans hb0; have q1 : w5.cell? ⟨g, 0, none⟩ = some (.slice (some ⟨w.heap.size, 0, none⟩) l.length l.length) := (hb.cell (p := ⟨g, 0, none⟩) hgz1).trans hx1; have q2 : w5.cell? ⟨g5, 0, none⟩ = some (.string (mkS n)) := (hb.cell (p := ⟨g5, 0, none⟩) hwz1).trans hq0; have q3 : w5.cell? ⟨w.heap.size, i, none⟩ = some (.string (mkS [])) := (hb.cell (p := ⟨w.heap.size, i, none⟩) hwg).trans k0; have q4 := (HFin.out w5 hb).frozenAt i)
      all_goals
        have HO5 := Lib.hid (HFin.out w5 hb)
        have HB5 := Lib.hid (HB1.out.trans (hb.mono hs0))
        have HQ5 := Lib.hid q1
        have hz5 := hb.size
        clear hb hb0 q1 q2 q3 q4 hq0 hq1 k0 f0 hx1
        go_wp2_with fail
        have hst := own_put1 (a := (lowN l).take i) HO5.out (lowL n)
        rw [HLen.out] at hst
        refine ⟨⟨i + 1, hlt, by go_num, ?_, ?_, ?_, ?_⟩, by simp [RowKit.intOf]; omega⟩
        · show World.ownsRow _ _ _ _ _ _ _
          rw [HTK.out, List.append_assoc]
          exact hst
        · show World.cell? _ _ = _
          rw [World.cell?_setCell_other (w := w5) (a := ⟨w.heap.size, i, none⟩) (b := ⟨g, 0, none⟩) (h := by intro e; injection e with e1 _; omega)]; exact HQ5.out
        · rw [World.size_setCell]; omega
        · exact HB5.out.setCell (p := ⟨w.heap.size, i, none⟩) (Nat.le_refl _) _
    · obtain rfl : i = l.length := by omega
      have hfin := HO.out
      rw [Nat.sub_self, List.take_of_length_le (by unfold lowN; simp), List.replicate_zero, List.append_nil] at hfin
      have HF := Lib.hid (isStrs_own (l := lowN l) (by rw [show (lowN l).length = l.length by unfold lowN; simp]; exact hfin))
      have HFx := HX.out
      rw [show l.length = (lowN l).length by unfold lowN; simp] at HFx
      have HFy := Lib.hid HFx
      clear hfin HFx HX
      go_wp2_with fail
      go_ret
      refine ⟨g, _, _, rfl, HFy.out, ?_, HB.out⟩
      have h := HF.out
      rw [show l.length = (lowN l).length by unfold lowN; simp] at h
      exact h
end Tk
end Go.Proofs.YtapnlopeipdjmaaDoor
