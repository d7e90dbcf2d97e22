/- TokE NmB NmC RefSa FldW LawFx, put together. -/
import Derived.Test.YtpcdaaijlgilkaaDoorQB
import Derived.Test.YtpcdaaijlgilkaaDoorQD
import Derived.Test.YtpcdaaijlgilkaaDoorQC
import Derived.Deep.RegionWith
import Derived.Deep.RegionHeld3
import Derived.RangeFuncBox
import Derived.Maps.AppendAt
namespace Go.Proofs.YtpcdaaijlgilkaaDoor
open Go.RowKit
namespace Tk

/-- the byte at place t when the first i are in small letters -/
def mixAt (l : Bs) (i t : Nat) : UInt8 := if t < i then lowB (l.getD t 0) else l.getD t 0

theorem bytesRow_at (s : ByteArray) (cap t : Nat) (h : t < s.size) : (bytesRow s cap)[t]? = some (.int .u8 (((bs s).getD t 0).toNat : Int)) := by
  unfold bytesRow
  rw [Array.getElem?_append_left (by simpa using h), Array.getElem?_map]
  have e : (bs s).getD t 0 = s.data[t]'h := by rw [getD_bs s t h]; rfl
  rw [e, Array.getElem?_eq_getElem h]; rfl

set_option maxRecDepth 100000 in
set_option maxHeartbeats 1000000 in
theorem tlower_any (s : ByteArray) (w : World) (hs : s.size ≤ 1099511627776) :
    Calls Tryd.prog 62 #[.string s] w (StrPost (lowL (bs s)) w) := by
  have HL := Lib.hid (length_bs s)
  have hconv := run_bytes_of_string (P := Tryd.prog) w 9 51 5 s Tryd.underlying9 Tryd.underlying51 Tryd.underlying5
  have hC : ∀ t, t < s.size → (bytesRow s (grownCap w s.size 0 5))[t]? = some (.int .u8 (((bs s).getD t 0).toNat : Int)) := fun t h => bytesRow_at s _ t h
  generalize bytesRow s (grownCap w s.size 0 5) = C at *
  generalize grownCap w s.size 0 5 = cap at *
  have HC := Lib.hid hC
  clear hC
  go_enter Tryd.func62, Tryd.ntmps62
  go_wp2_with fail
  go_loopw [10, 4, 5] (fun vi _ _ wr => ∃ i : Nat, i ≤ s.size ∧ vi = .int .i64 i ∧ Hid (∀ t, t < s.size → wr.cell? ⟨w.heap.size, t, none⟩ = some (.int .u8 ((mixAt (bs s) i t).toNat : Int)) ∧ wr.frozen? ⟨w.heap.size, t, none⟩ = false) ∧ Hid (Below w.heap.size w wr)) (fun vi _ _ _ => s.size - (RowKit.intOf vi).toNat)
  case atStart =>
    refine ⟨0, Nat.zero_le _, rfl, ?_, ?_⟩
    · intro t ht
      have h1 : ((w.alloc (.cells C 5 (C.size, C.size + 1))).drew).cell? ⟨w.heap.size, t, none⟩ = C[t]? := World.cell?_alloc_mark w C 5 _ t
      have hlt : t < C.size := by
        refine Nat.lt_of_not_le fun hle => ?_
        have := HC.out t ht
        rw [Array.getElem?_eq_none hle] at this
        cases this
      have h2 : ((w.alloc (.cells C 5 (C.size, C.size + 1))).drew).frozen? ⟨w.heap.size, t, none⟩ = _ := World.frozen?_alloc_mark w C 5 _ _ t
      refine ⟨by rw [h1, HC.out t ht]; rfl, ?_⟩
      rw [h2]
      simp; omega
    · exact ((Below.refl _ _).alloc (Nat.le_refl _) _).drew
  case round =>
    obtain ⟨i, hi, rfl, HM, HB⟩ := hrel
    rename World => W
    by_cases hlt : i < s.size
    · obtain ⟨hc, hf⟩ := HM.out i hlt
      have e : mixAt (bs s) i i = (bs s).getD i 0 := by unfold mixAt; rw [if_neg (by omega)]
      rw [e] at hc
      have HM2 : Hid (∀ t, t < s.size → (W.setCell ⟨w.heap.size, i, none⟩ (.int .u8 ((lowB ((bs s).getD i 0)).toNat : Int))).cell? ⟨w.heap.size, t, none⟩ = some (.int .u8 ((mixAt (bs s) (i + 1) t).toNat : Int)) ∧ (W.setCell ⟨w.heap.size, i, none⟩ (.int .u8 ((lowB ((bs s).getD i 0)).toNat : Int))).frozen? ⟨w.heap.size, t, none⟩ = false) := by
        intro t ht
        obtain ⟨h1, h2⟩ := HM.out t ht
        refine ⟨?_, by rw [World.frozen?_setCell]; exact h2⟩
        by_cases hti : t = i
        · subst hti
          rw [World.cell?_setCell_same _ _ _ hc]
          unfold mixAt; rw [if_pos (by omega)]
        · rw [World.cell?_setCell_other (w := W) (a := ⟨w.heap.size, i, none⟩) (b := ⟨w.heap.size, t, none⟩) (h := by intro e; injection e with _ e2; exact hti e2.symm), h1]
          have : mixAt (bs s) i t = mixAt (bs s) (i + 1) t := by
            unfold mixAt
            by_cases h3 : t < i
            · rw [if_pos h3, if_pos (by omega)]
            · rw [if_neg h3, if_neg (by omega)]
          rw [this]
      have HB2 := Lib.hid (HB.out.setCell (p := ⟨w.heap.size, i, none⟩) (Nat.le_refl _) (.int .u8 ((lowB ((bs s).getD i 0)).toNat : Int)))
      generalize (bs s).getD i 0 = c at *
      go_wp2_with fail
      refine (lower_any c W).mono ?_
      rintro e w' ⟨rfl, rfl⟩
      go_wp2_with fail
      go_roundw
      case rel => exact ⟨i + 1, by omega, by go_num, HM2, HB2⟩
      case measure => simp [RowKit.intOf]; omega
    · have hlen : (lowL (bs s)).length = s.size := by rw [length_lowL, HL.out]
      have hback := run_convert_bytes_back (P := Tryd.prog) W 51 9 5 ⟨w.heap.size, 0, none⟩ cap (lowL (bs s)) Tryd.underlying51 Tryd.underlying5 Tryd.underlying9 (fun j hj => by
        have hj' : j < s.size := by rw [hlen] at hj; exact hj
        have h1 := (HM.out j hj').1
        have e : mixAt (bs s) i j = (lowL (bs s))[j] := by
          have hjl : j < (bs s).length := by rw [HL.out]; exact hj'
          have e2 : (lowL (bs s))[j] = lowB ((bs s)[j]'hjl) := by simp [lowL]
          unfold mixAt
          rw [if_pos (by omega), e2]
          simp [List.getD, hjl]
        rw [e] at h1
        by_cases hj0 : j = 0
        · subst hj0; simpa [Addr.add] using h1
        · simpa [Addr.add, hj0] using h1)
      rw [hlen] at hback
      go_wp2_with fail
      go_ret
      exact ⟨rfl, HB.out⟩
end Tk
end Go.Proofs.YtpcdaaijlgilkaaDoor
namespace Go.Proofs.YtpcdaaijlgilkaaDoor
open Go.RowKit
namespace Tk

theorem made_strs (n : Nat) : (madeCells #[Value.string .empty] n).toList = strs (List.replicate n []) := by
  apply List.ext_getElem?
  intro j
  by_cases hj : j < n
  · simp [madeCells, strs, hj, Nat.mod_one]; rfl
  · rw [List.getElem?_eq_none (by simp [madeCells]; omega), List.getElem?_eq_none (by simp [strs]; omega)]
theorem own_keep1s {w w' : World} {B : Nat} {v : Value} {n : Nat} {xs : List Value} {e : TypeId} (h : w.ownsRow B e 1 v n xs) (hb : Below w.heap.size w w') : w'.ownsRow B e 1 v n xs :=
  World.ownsRow.kept h (row := none) ⟨hb.os, hb.tape, hb.output, hb.size, fun k hk _ => hb.block k hk⟩ (by cases h : v.ownBlock <;> simp)
theorem strs_put (a : List Bs) (f : Bs) (b : List Bs) (s : Bs) : (strs (a ++ f :: b)).set a.length (.string (mkS s)) = strs (a ++ s :: b) := by
  simp [strs]
theorem own_put1 {w : World} {B g cap n : Nat} {a b : List Bs} {f : Bs} (h : w.ownsRow B 9 1 (.slice (some ⟨g, 0, none⟩) n cap) n (strs (a ++ f :: b))) (s : Bs) :
    (w.setCell ⟨g, a.length, none⟩ (.string (mkS s))).ownsRow B 9 1 (.slice (some ⟨g, 0, none⟩) n cap) n (strs (a ++ s :: b)) := by
  have h1 := (h.stored a.length (.string (mkS s))).1
  rw [strs_put] at h1
  exact h1
theorem strs_mid (a : List Bs) (f : Bs) (b : List Bs) : (strs (a ++ f :: b))[a.length]? = some (.string (mkS f)) := by simp [strs]

/-- what field.Names returns -/
def NamesPost (l : List (Bs × Bs)) (w : World) (e : Ending) (w' : World) : Prop :=
  ∃ (g : Nat) (ad : Option Addr) (c : Nat), e = .returned (.func (.func 63) #[] #[.pointer (some ⟨g, 0, none⟩)]) ∧ w'.cell? ⟨g, 0, none⟩ = some (.slice ad (lowN l).length c) ∧ IsStrs w' (.slice ad (lowN l).length c) (lowN l) ∧ Below w.heap.size w w'

set_option maxHeartbeats 8000000 in
set_option maxRecDepth 100000 in
theorem fnames_any (v : Value) (l : List (Bs × Bs)) (w : World) (hs : IsFlds w v l) (hz : ∀ f ∈ l, f.1.length ≤ 1099511627776 ∧ f.2.length ≤ 1099511627776) (hl : l.length ≤ 1048576) :
    Calls Tryd.prog 38 #[v] w (NamesPost l w) := by
  obtain ⟨i0, hi0, hz0, hz1, hz2⟩ := info_parts strInfo
  have HS := Lib.hid hs
  have HZ := Lib.hid hz
  obtain ⟨a, cap, rfl⟩ : ∃ a cap, v = .slice a l.length cap := by obtain ⟨a, c, h, -⟩ := hs; exact ⟨a, c, h⟩
  clear hs hz
  go_enter Tryd.func38, Tryd.ntmps38
  go_wp2_with (refine wpList_make_full w rfl _ _ 34 rfl w.heap.size 9 i0 (.string .empty) 1 Tryd.underlying34 hi0 hz0 hz1 .i64 .i64 _ _ l.length rfl rfl rfl rfl ?c1 ?c2 (Nat.le_refl _) ?_)
  case c1 => rw [hz2]; omega
  case c2 => unfold maxLen; omega
  intro w1 ho hg
  rw [made_strs] at ho
  have HO0 := Lib.hid ho
  have HB0 := Lib.hid (show Below w.heap.size w w1 from ⟨hg.os, hg.tape, hg.output, hg.size, fun k hk => hg.block k hk (by simp)⟩)
  clear ho hg
  have hw1 := HB0.out.size
  have hw2 : w.heap.size < w1.heap.size := by
    obtain ⟨-, ⟨hv, -⟩ | ⟨g, cp, cur, hv, -, hg, -⟩⟩ := HO0.out
    · cases hv
    · cases hv; exact (Array.getElem?_eq_some_iff.1 hg).1
  have hbx := World.cell?_alloc_new w1 #[.slice (some ⟨w.heap.size, 0, none⟩) l.length l.length] 34 0
  have HO1 := Lib.hid (HO0.out.alloc (Obj.cells #[.slice (some ⟨w.heap.size, 0, none⟩) l.length l.length] 34))
  have HB1 := Lib.hid (HB0.out.alloc hw1 (Obj.cells #[.slice (some ⟨w.heap.size, 0, none⟩) l.length l.length] 34))
  have HX1 : Hid ((w1.alloc (Obj.cells #[.slice (some ⟨w.heap.size, 0, none⟩) l.length l.length] 34)).cell? ⟨w1.heap.size, 0, none⟩ = some (.slice (some ⟨w.heap.size, 0, none⟩) l.length l.length)) := by
    rw [Lib.cell_of_heap (heap_alloc_last w1 _)]; rfl
  have hz3 : w1.heap.size < (w1.alloc (Obj.cells #[.slice (some ⟨w.heap.size, 0, none⟩) l.length l.length] 34)).heap.size := by simp
  clear hbx
  go_wp2_with fail
  generalize w1.alloc (Obj.cells #[.slice (some ⟨w.heap.size, 0, none⟩) l.length l.length] 34) = w2 at *
  generalize w1.heap.size = g at *
  go_loopw [11] (fun vi wr => ∃ i : Nat, i ≤ l.length ∧ vi = .int .i64 i ∧ Hid (wr.ownsRow w.heap.size 9 1 (.slice (some ⟨w.heap.size, 0, none⟩) l.length l.length) l.length (strs ((lowN l).take i ++ List.replicate (l.length - i) []))) ∧ Hid (wr.cell? ⟨g, 0, none⟩ = some (.slice (some ⟨w.heap.size, 0, none⟩) l.length l.length)) ∧ g < wr.heap.size ∧ Hid (Below w.heap.size w wr)) (fun vi _ => l.length - (RowKit.intOf vi).toNat)
  case atStart => exact ⟨0, Nat.zero_le _, rfl, HO1, HX1, hz3, HB1⟩
  case round =>
    obtain ⟨i, hi, rfl, HO, HX, hgz, HB⟩ := hrel
    rename World => W
    by_cases hlt : i < l.length
    · obtain ⟨a', c', e', hcap, hc⟩ := isFlds_below HS.out HB.out
      injection e' with e1 _ e2
      subst e1 e2
      obtain ⟨b, o, rfl, hc0, hc1⟩ := hc i (l.getD i ([], [])) (by simp [List.getD, hlt])
      have hm := HZ.out (l.getD i ([], [])) (by simp [List.getD, hlt])
      have htk : (lowN l).take (i + 1) = (lowN l).take i ++ [lowL (l.getD i ([], [])).1] := by
        unfold lowN
        rw [List.take_succ_eq_append_getElem (by simpa using hlt)]; simp [List.getD, hlt]
      have hlen : ((lowN l).take i).length = i := by unfold lowN; simp; omega
      have hrep : List.replicate (l.length - i) ([] : Bs) = [] :: List.replicate (l.length - (i + 1)) [] := by
        rw [show l.length - i = (l.length - (i + 1)) + 1 by omega]; rfl
      rw [hrep] at HO
      have HTK := Lib.hid htk
      have HLen := Lib.hid hlen
      clear hc htk hlen hrep
      generalize l.getD i ([], []) = f at *
      obtain ⟨n, x⟩ := f
      simp only at hm hc0 hc1
      have HL : Hid (∀ W : World, Calls Tryd.prog 62 #[.string (mkS n)] W fun e w' => e = .returned (.string (mkS (lowL n))) ∧ Below W.heap.size W w') := fun W => by
        have h := tlower_any (mkS n) W (by rw [size_mkS]; omega)
        rw [bs_mkS] at h
        exact h
      have HF0 := Lib.hid (Two.new W 26 (.string (mkS n)) (.string (mkS x)))
      have hb0 : Below W.heap.size W (W.alloc (Obj.cells #[.string (mkS n), .string (mkS x)] 26)) := (Below.refl _ _).alloc (Nat.le_refl _) _
      have HO1 := Lib.hid (own_keep1s HO.out hb0)
      have HB1 := Lib.hid (HB.out.trans (hb0.mono HB.out.size))
      have HX1 := Lib.hid ((hb0.cell (p := ⟨g, 0, none⟩) hgz).trans HX.out)
      have hgz1 : g < (W.alloc (Obj.cells #[.string (mkS n), .string (mkS x)] 26)).heap.size := by simp; omega
      have hwz1 : W.heap.size < (W.alloc (Obj.cells #[.string (mkS n), .string (mkS x)] 26)).heap.size := by simp
      have hq0 := HF0.out.c0
      have hq1 := HF0.out.c1
      have g0 : (0 : Int) ≤ (i : Int) := by omega
      have g1 : (i : Int) < (l.length : Int) := by omega
      have hbsz := HB.out.size
      have hs0 : w.heap.size ≤ (W.alloc (Obj.cells #[.string (mkS n), .string (mkS x)] 26)).heap.size := by simp; omega
      clear hb0 hbsz HX
      go_wp2_with fail
      generalize W.alloc (Obj.cells #[.string (mkS n), .string (mkS x)] 26) = W4 at *
      generalize W.heap.size = g5 at *
      have hmid := strs_mid ((lowN l).take i) [] (List.replicate (l.length - (i + 1)) [])
      rw [HLen.out] at hmid
      have k0 := HO1.out.cellAt i (by omega)
      rw [hmid] at k0
      have f0 := HO1.out.frozenAt i
      have hx1 := HX1.out
      have hfin : ∀ w5, Below W4.heap.size W4 w5 → w5.ownsRow w.heap.size 9 1 (.slice (some ⟨w.heap.size, 0, none⟩) l.length l.length) l.length (strs ((lowN l).take i ++ [] :: List.replicate (l.length - (i + 1)) [])) := fun w5 h => own_keep1s HO1.out h
      have HFin := Lib.hid hfin
      have hwg : w.heap.size < W4.heap.size := by omega
      have HD : Hid (Below W4.heap.size W4 W4.drew) := (Below.refl _ _).drew
      clear hmid hfin hc0 hc1
      go_region_with (go_at_call 62; refine (HL.out _).mono ?_; rintro e w5 ⟨rfl, hb0⟩; have hb := HD.out.trans hb0; have q1 : w5.cell? ⟨g, 0, none⟩ = some (.slice (some ⟨w.heap.size, 0, none⟩) l.length l.length) := (hb.cell (p := ⟨g, 0, none⟩) hgz1).trans hx1; have q2 : w5.cell? ⟨g5, 0, none⟩ = some (.string (mkS n)) := (hb.cell (p := ⟨g5, 0, none⟩) hwz1).trans hq0; have q3 : w5.cell? ⟨w.heap.size, i, none⟩ = some (.string (mkS [])) := (hb.cell (p := ⟨w.heap.size, i, none⟩) hwg).trans k0; have q4 := (HFin.out w5 hb).frozenAt i)
      all_goals
        have HO5 := Lib.hid (HFin.out w5 hb)
        have HB5 := Lib.hid (HB1.out.trans (hb.mono hs0))
        have HQ5 := Lib.hid q1
        have hz5 := hb.size
        clear hb hb0 q1 q2 q3 q4 hq0 hq1 k0 f0 hx1
        go_wp2_with fail
        have hst := own_put1 (a := (lowN l).take i) HO5.out (lowL n)
        rw [HLen.out] at hst
        refine ⟨⟨i + 1, hlt, by go_num, ?_, ?_, ?_, ?_⟩, by simp [RowKit.intOf]; omega⟩
        · show World.ownsRow _ _ _ _ _ _ _
          rw [HTK.out, List.append_assoc]
          exact hst
        · show World.cell? _ _ = _
          rw [World.cell?_setCell_other (w := w5) (a := ⟨w.heap.size, i, none⟩) (b := ⟨g, 0, none⟩) (h := by intro e; injection e with e1 _; omega)]; exact HQ5.out
        · rw [World.size_setCell]; omega
        · exact HB5.out.setCell (p := ⟨w.heap.size, i, none⟩) (Nat.le_refl _) _
    · obtain rfl : i = l.length := by omega
      have hfin := HO.out
      rw [Nat.sub_self, List.take_of_length_le (by unfold lowN; simp), List.replicate_zero, List.append_nil] at hfin
      have HF := Lib.hid (isStrs_own (l := lowN l) (by rw [show (lowN l).length = l.length by unfold lowN; simp]; exact hfin))
      have HFx := HX.out
      rw [show l.length = (lowN l).length by unfold lowN; simp] at HFx
      have HFy := Lib.hid HFx
      clear hfin HFx HX
      go_wp2_with fail
      go_ret
      refine ⟨g, _, _, rfl, HFy.out, ?_, HB.out⟩
      have h := HF.out
      rw [show l.length = (lowN l).length by unfold lowN; simp] at h
      exact h
end Tk
end Go.Proofs.YtpcdaaijlgilkaaDoor
namespace Go.Proofs.YtpcdaaijlgilkaaDoor
open Go.RowKit
namespace Tk

attribute [local go_sem] Oper.semAt_some

theorem isStrs_below {w w' : World} {v : Value} {l : List Bs} (h : IsStrs w v l) (hb : Below w.heap.size w w') : IsStrs w' v l := by
  obtain ⟨a, c, rfl, hc⟩ := h
  refine ⟨a, c, rfl, fun j t hj => ?_⟩
  obtain ⟨b, o, rfl, h2⟩ := hc j t hj
  exact ⟨b, o, rfl, (hb.cell (p := ⟨b, o + j, none⟩) (cell_lt (p := ⟨b, o + j, none⟩) h2)).trans h2⟩

theorem boxed_below {W W' : World} {B : Nat} {t : TypeId} {v : Value} (h : Boxed W B t v) (hb : Below W.heap.size W W') : Boxed W' B t v := (hb.block B h.lt).trans h

theorem seq_notnil (x : Value) (w : World) : Sem.run Tryd.prog (binOp BinOp.eql 62 (.func (.func 63) #[] #[x]) .nilFunc) w = .ok (.bool false) w := by kernel_rfl

theorem own_base1 {w : World} {B B2 n : Nat} {v : Value} {xs : List Value} {e : TypeId} (h : w.ownsRow B e 1 v n xs) (hb : B2 ≤ B) : w.ownsRow B2 e 1 v n xs := by
  refine ⟨h.1, ?_⟩
  rcases h.2 with h2 | ⟨g, cap, cur, hv, hge, h2⟩
  · exact .inl h2
  · exact .inr ⟨g, cap, cur, hv, Nat.le_trans hb hge, h2⟩

/-- what law02.names returns -/
def ListedPost (l : List (Bs × Bs)) (w : World) (e : Ending) (w' : World) : Prop :=
  ∃ v', e = .returned (.tuple #[v', .bool true]) ∧ w'.ownsRow w.heap.size 9 1 v' (namesL l).length (strs (namesL l)) ∧ Below w.heap.size w w'

set_option maxHeartbeats 8000000 in
set_option maxRecDepth 100000 in
theorem lnames_any (v : Value) (l : List (Bs × Bs)) (w : World) (hs : IsFlds w v l) (hz : ∀ f ∈ l, f.1.length ≤ 1099511627776 ∧ f.2.length ≤ 1099511627776) (hl : l.length ≤ 1048576) :
    Calls Tryd.prog 12 #[v] w (ListedPost l w) := by
  obtain ⟨i0, hi0, hz0, hz1, hz2⟩ := info_parts strInfo
  have HS := Lib.hid hs
  have HZ := Lib.hid hz
  obtain ⟨a, cap, rfl⟩ : ∃ a cap, v = .slice a l.length cap := by obtain ⟨a, c, h, -⟩ := hs; exact ⟨a, c, h⟩
  clear hs hz
  have HN : Hid (∀ W, Below w.heap.size w W → CallsIn Fence.wide 4 Tryd.prog 38 #[.slice a l.length cap] W (NamesPost l W)) := fun W hb => callsIn_wide.2 (fnames_any _ l W (isFlds_below HS.out hb) HZ.out hl)
  unfold NamesPost at HN
  refine (callsIn_wide (n := 5)).1 ?_
  refine callsIn_of_wp_marks Tryd.func12 rfl trivial ?_ rfl
  simp only [Tryd.ntmps12, List.size_toArray, List.length_cons, List.length_nil, Nat.reduceAdd, Nat.reduceSub, Array.replicate_succ, Array.replicate_zero, List.push_toArray, List.append_toArray, List.nil_append, List.cons_append]
  gi_wp2_with fail
  have bL := (Boxed.new w 22 (.slice a l.length cap)).alloc (Obj.cells #[.slice none 0 0] 34) |>.alloc (Obj.cells #[.bool false] 4)
  have bR := (Boxed.new (w.alloc (Obj.cells #[.slice a l.length cap] 22)) 34 (.slice none 0 0)).alloc (Obj.cells #[.bool false] 4)
  have bK := Boxed.new ((w.alloc (Obj.cells #[.slice a l.length cap] 22)).alloc (Obj.cells #[.slice none 0 0] 34)) 4 (.bool false)
  simp only [World.size_alloc] at bR bK
  have hb3 : Below w.heap.size w (((w.alloc (Obj.cells #[.slice a l.length cap] 22)).alloc (Obj.cells #[.slice none 0 0] 34)).alloc (Obj.cells #[.bool false] 4)) := (((Below.refl _ _).alloc (Nat.le_refl _) _).alloc (by simp) _).alloc (by simp; omega) _
  generalize ((w.alloc (Obj.cells #[.slice a l.length cap] 22)).alloc (Obj.cells #[.slice none 0 0] 34)).alloc (Obj.cells #[.bool false] 4) = W3 at *
  refine ⟨trivial, (HN.out W3 hb3).mono ?_⟩
  rintro e w1 ⟨g, ad, c, rfl, hc, hst, hb⟩
  have hB1 := hb3.trans (hb.mono hb3.size)
  have BL := Lib.hid (boxed_below bL hb)
  have BR := Lib.hid (boxed_below bR hb)
  have BK := Lib.hid (boxed_below bK hb)
  have HB1 := Lib.hid hB1
  have HC := Lib.hid hc
  have HT := Lib.hid hst
  clear bL bR bK hb3 hb hB1 hc hst
  have hnn := seq_notnil (.pointer (some ⟨g, 0, none⟩))
  gi_wp2_with fail
  have hBw := HB1.out.size
  have hb0 : Below w1.heap.size w1 (w1.alloc (Obj.cells #[.slice none 0 0] 34)) := (Below.refl _ _).alloc (Nat.le_refl _) _
  have l0 := BL.out.lt
  have l1 := BR.out.lt
  have l2 := BK.out.lt
  have hnl := names_len l
  have hLz : ∀ x ∈ lowN l, x.length ≤ 1099511627776 := by
    intro x hx
    unfold lowN at hx
    rw [List.mem_map] at hx
    obtain ⟨f, hf, rfl⟩ := hx
    have := (HZ.out f hf).1
    simpa [lowL] using this
  have hLl : (lowN l).length ≤ 1048576 := by unfold lowN; simpa using hl
  have HH := names1_hands Fence.wide 4 trivial rfl (by decide) g c ad (lowN l) w1 HC.out HT.out hLl hLz
  have HNL := Lib.hid hnl
  clear hLz hLl hnl
  refine range_hands (w0 := w1) hb0 rfl (by decide) (gf := 63) (lb := #[.pointer (some ⟨g, 0, none⟩)]) rfl trivial (enters_of Tryd.func63 (by kernel_rfl) rfl) (namesL l) rfl HH
    (fun pre W => Boxed W w.heap.size 22 (.slice a l.length cap) ∧ Boxed W (w.heap.size + 1) 34 (.slice none 0 0) ∧ Boxed W (w.heap.size + 1 + 1) 4 (.bool false) ∧ (∃ v, Boxed W w1.heap.size 34 v ∧ W.ownsRow w1.heap.size 9 1 v pre.length (strs pre) ∧ True) ∧ Below w.heap.size w W)
    (OwnFrom.and (Own.from (boxed_own _ _ fun _ => _) _) (OwnFrom.and (Own.from (boxed_own _ _ fun _ => _) _) (OwnFrom.and (Own.from (boxed_own _ _ fun _ => _) _) (OwnFrom.and (Own.from (holdsRow_own w1.heap.size w1.heap.size 34 9 1 (fun pre : List Bs => pre.length) (fun pre => strs pre) (fun _ _ => True)) _) (ownFrom_below (Nat.le_refl _) (by simp; omega))))))
    ⟨BL.out.alloc _, BR.out.alloc _, BK.out.alloc _, ⟨_, Boxed.new _ _ _, World.ownsRow_nil _ _ _ _, trivial⟩, HB1.out.alloc hBw _⟩
    (fun x => { tmps := #[.slice a l.length cap, .pointer (some ⟨w.heap.size, 0, none⟩), .pointer (some ⟨w.heap.size + 1, 0, none⟩), .pointer (some ⟨w.heap.size + 1 + 1, 0, none⟩), .func (.func 63) #[] #[.pointer (some ⟨g, 0, none⟩)], .pointer (some ⟨w1.heap.size, 0, none⟩), .string (mkS x), .slice a l.length cap, .func (.func 63) #[] #[.pointer (some ⟨g, 0, none⟩)], .func (.func 63) #[] #[.pointer (some ⟨g, 0, none⟩)], .bool false, .func (.func 63) #[] #[.pointer (some ⟨g, 0, none⟩)], .string (mkS x), undef, undef, undef, undef, undef, undef, undef, undef, undef, undef], defers := [] }) ?assign ?body ?done
  case assign =>
    intro l x W K hK
    gi_wp2
    exact hK
  case body =>
    rintro lp pre x W ⟨h0, h1, h2, ⟨v, hv, hrow, -⟩, hB⟩ hpre
    have hpl : pre.length + 1 ≤ l.length := by
      have h3 := hpre.length_le
      have h4 := HNL.out
      simp at h3
      omega
    obtain ⟨a1, c1, rfl⟩ : ∃ a c, v = .slice a pre.length c := by obtain ⟨a, c, h, -⟩ := isStrs_own hrow; exact ⟨a, c, h⟩
    have hc := hv.cell
    have hc0 := h0.cell
    have hWz := hv.lt
    have hq : ¬ ((l.length : Int) < (pre.length : Int)) := by omega
    have hq2 : ((pre.length : Int) ≤ (l.length : Int)) := by omega
    have H0 := Lib.hid h0
    have H1 := Lib.hid h1
    have H2 := Lib.hid h2
    have HB := Lib.hid hB
    have HRow := Lib.hid hrow
    have HV := Lib.hid hv
    clear h0 h1 h2 hB hrow hv
    gi_wp2_with (gi_at_builtin; refine wpListIn_append_own _ rfl _ _ 34 rfl w1.heap.size 9 i0 (.string .empty) 1 16 Tryd.underlying34 hi0 hz0 hz1 hz2 rfl (by decide) _ _ _ rfl (HRow.out.alloc _) ⟨W.heap.size, 0, none⟩ 1 1 [.string (mkS x)] rfl rfl (cell_one_new _ _ _) (by simp [Value.oneCell']) (by simp only [maxLen]; omega) (by omega) (by simp; omega) ?_; intro v' w4 hown' hgrow _; obtain ⟨g', cap', rfl⟩ := ownsRow_succ hown'; obtain ⟨hv1, hv2, hr2, hk2, hb2⟩ := HV.out.appended (by decide) HRow.out (Nat.le_of_lt hWz) (Nat.le_refl _) hown' hgrow; have hc1 := hv1.cell; have hf1 := hv1.frozen)
    have e1 : strs (pre ++ [x]) = strs pre ++ [.string (mkS x)] := by simp [strs]
    refine ⟨hk2, hb2, (hb2.block _ l0).trans H0.out, (hb2.block _ l1).trans H1.out, (hb2.block _ l2).trans H2.out, ⟨_, hv2, ?_⟩, HB.out.trans (hb2.mono hBw)⟩
    rw [e1]
    exact hr2
  case done =>
    rintro D W hD ⟨h0, h1, h2, ⟨v, hv, hrow, -⟩, hB⟩ hK
    obtain ⟨a1, c1, rfl⟩ : ∃ a c, v = .slice a (namesL l).length c := by obtain ⟨a, c, h, -⟩ := isStrs_own hrow; exact ⟨a, c, h⟩
    have hc := hv.cell
    have hc1 := h1.cell
    have hf1 := h1.frozen
    have hc2 := h2.cell
    have hf2 := h2.frozen
    have H0 := Lib.hid h0
    have H1 := Lib.hid h1
    have H2 := Lib.hid h2
    have HB := Lib.hid hB
    have HRow := Lib.hid hrow
    have HV := Lib.hid hv
    have HK := Lib.hid hK
    clear h0 h1 h2 hB hrow hv hK
    gi_wp2
    have hne1 : w.heap.size + 1 ≠ w.heap.size + 1 + 1 := by omega
    have hDz : w1.heap.size < D := by simp at hD; omega
    have b1 := (H1.out.set (.slice a1 (namesL l).length c1)).other hne1 (.bool true)
    have b2 := (H2.out.other (Ne.symm hne1) (.slice a1 (namesL l).length c1)).set (.bool true)
    have k1 := HRow.out.kept (grownBy_setCell' W (w.heap.size + 1) (.slice a1 (namesL l).length c1)) (.inr (H1.out.not_row (by decide) HRow.out).symm)
    have k2 := k1.kept (grownBy_setCell' _ (w.heap.size + 1 + 1) (.bool true)) (.inr ((H2.out.other (Ne.symm hne1) (.slice a1 (namesL l).length c1)).not_row (by decide) k1).symm)
    have hK2 := ((KeepsOthers.setCell W ⟨w.heap.size + 1, 0, none⟩ (.slice a1 (namesL l).length c1)).trans (KeepsOthers.setCell _ ⟨w.heap.size + 1 + 1, 0, none⟩ (.bool true))).same D _ HK.out rfl
    have hBF := (HB.out.setCell (p := ⟨w.heap.size + 1, 0, none⟩) (Nat.le_succ _) (.slice a1 (namesL l).length c1)).setCell (p := ⟨w.heap.size + 1 + 1, 0, none⟩) (Nat.le_trans (Nat.le_succ _) (Nat.le_succ _)) (.bool true)
    generalize (W.setCell ⟨w.heap.size + 1, 0, none⟩ (.slice a1 (namesL l).length c1)).setCell ⟨w.heap.size + 1 + 1, 0, none⟩ (.bool true) = W5 at *
    have z1 := (b1.kept (grownBy_putObj' W5 D (.deferred none)) (by intro e; injection e with e; omega)).cell
    have z2 := (b2.kept (grownBy_putObj' W5 D (.deferred none)) (by intro e; injection e with e; omega)).cell
    refine ⟨by simp, .inl ⟨_, _, rfl, run_takeDeferred hK2, ?_⟩⟩
    refine ⟨_, ?_, _, rfl, own_base1 (ownsRow_putObj k2 _ hK2 rfl) hBw, hBF.trans (belowK_b (w := w) (Nat.le_refl _) W5 D _ _ (by omega) hK2 rfl rfl)⟩
    simp [results, Tryd.results12, go_sem, z1, z2]
end Tk
end Go.Proofs.YtpcdaaijlgilkaaDoor
namespace Go.Proofs.YtpcdaaijlgilkaaDoor
open Go.RowKit
namespace Tk

/-- the four texts that a round reads -/
def Four4 (b1 o1 b2 o2 i : Nat) (n x k y : Bs) (W : World) : Prop := W.cell? ⟨b1, o1 + i * 2, none⟩ = some (.string (mkS n)) ∧ W.cell? ⟨b1, o1 + i * 2 + 1, none⟩ = some (.string (mkS x)) ∧ W.cell? ⟨b2, o2 + i * 2, none⟩ = some (.string (mkS k)) ∧ W.cell? ⟨b2, o2 + i * 2 + 1, none⟩ = some (.string (mkS y))

set_option maxHeartbeats 4000000 in
set_option maxRecDepth 100000 in
theorem rsamef_any (v1 v2 : Value) (l m : List (Bs × Bs)) (w : World) (h1 : IsFlds w v1 l) (h2 : IsFlds w v2 m) (hz : ∀ f, f ∈ l ∨ f ∈ m → f.1.length ≤ 1099511627776) (hl : l.length ≤ 1099511627) (_hm : m.length ≤ 1099511627) :
    Calls Tryd.prog 26 #[v1, v2] w fun e w' => e = .returned (.bool (sameFs l m)) ∧ Below w.heap.size w w' := by
  have H1 := Lib.hid h1
  have H2 := Lib.hid h2
  have HZ := Lib.hid hz
  obtain ⟨a1, c1, rfl⟩ : ∃ a cap, v1 = .slice a l.length cap := by obtain ⟨a, c, h, -⟩ := h1; exact ⟨a, c, h⟩
  obtain ⟨a2, c2, rfl⟩ : ∃ a cap, v2 = .slice a m.length cap := by obtain ⟨a, c, h, -⟩ := h2; exact ⟨a, c, h⟩
  clear h1 h2 hz
  by_cases hlm : l.length = m.length
  · have hb : ((l.length : Int) != (m.length : Int)) = false := by rw [hlm]; simp
    have HLM := Lib.hid hlm
    clear hlm
    go_enter Tryd.func26, Tryd.ntmps26
    go_wp2_with fail
    go_loopw [4, 5] (fun v4 vi wr => ∃ i : Nat, i ≤ l.length ∧ vi = .int .i64 i ∧ Hid (sameFs l m = sameFs (l.drop i) (m.drop i)) ∧ Hid (Below w.heap.size w wr)) (fun _ vi _ => l.length - (RowKit.intOf vi).toNat)
    case atStart => exact ⟨0, Nat.zero_le _, rfl, rfl, Below.refl _ _⟩
    case round =>
      obtain ⟨i, hi, rfl, hd, HB⟩ := hrel
      rename World => W
      by_cases hlt : i < l.length
      · have hlt2 : i < m.length := by have := HLM.out; omega
        obtain ⟨a1', c1', e', -, hc1⟩ := isFlds_below H1.out HB.out
        injection e' with e1 _ e2
        subst e1 e2
        obtain ⟨a2', c2', e', -, hc2⟩ := isFlds_below H2.out HB.out
        injection e' with e1 _ e2
        subst e1 e2
        obtain ⟨b1, o1, rfl, p0, p1⟩ := hc1 i (l.getD i ([], [])) (by simp [List.getD, hlt])
        obtain ⟨b2, o2, rfl, q0, q1⟩ := hc2 i (m.getD i ([], [])) (by simp [List.getD, hlt2])
        have z1 := HZ.out (l.getD i ([], [])) (.inl (by simp [List.getD, hlt]))
        have z2 := HZ.out (m.getD i ([], [])) (.inr (by simp [List.getD, hlt2]))
        have hst := sameFs_drop l m i hlt hlt2
        have HST := Lib.hid hst
        clear hc1 hc2 hst
        generalize l.getD i ([], []) = f at *
        generalize m.getD i ([], []) = g at *
        obtain ⟨n, x⟩ := f
        obtain ⟨k, y⟩ := g
        simp only at z1 z2 p0 p1 q0 q1
        have g0 : (0 : Int) ≤ (i : Int) := by omega
        have g1 : (i : Int) < (l.length : Int) := by omega
        have g2 : (i : Int) < (m.length : Int) := by omega
        have l1 := cell_lt (p := ⟨b1, o1 + i * 2, none⟩) p0
        have l2 := cell_lt (p := ⟨b2, o2 + i * 2, none⟩) q0
        have hS : ∀ W', Below W.heap.size W W' → Four4 b1 o1 b2 o2 i n x k y W' := fun W' h => ⟨(h.cell (p := ⟨b1, o1 + i * 2, none⟩) l1).trans p0, (h.cell (p := ⟨b1, o1 + i * 2 + 1, none⟩) l1).trans p1, (h.cell (p := ⟨b2, o2 + i * 2, none⟩) l2).trans q0, (h.cell (p := ⟨b2, o2 + i * 2 + 1, none⟩) l2).trans q1⟩
        have HC : ∀ W' : World, Below W.heap.size W W' → Calls Tryd.prog 39 #[.string (mkS n), .string (mkS k)] W' fun e w' => e = .returned (.bool (decide (lowL n = lowL k))) ∧ Below W.heap.size W w' ∧ w'.cell? ⟨b1, o1 + i * 2, none⟩ = some (.string (mkS n)) ∧ w'.cell? ⟨b1, o1 + i * 2 + 1, none⟩ = some (.string (mkS x)) ∧ w'.cell? ⟨b2, o2 + i * 2, none⟩ = some (.string (mkS k)) ∧ w'.cell? ⟨b2, o2 + i * 2 + 1, none⟩ = some (.string (mkS y)) := fun W' hW' => by
          have h := rsm_any (mkS n) (mkS k) W' (by rw [size_mkS]; exact z1) (by rw [size_mkS]; exact z2)
          rw [bs_mkS, bs_mkS] at h
          refine h.mono ?_
          rintro e w' ⟨rfl, hb⟩
          have h3 := hW'.trans (hb.mono hW'.size)
          obtain ⟨t1, t2, t3, t4⟩ := hS w' h3
          exact ⟨rfl, h3, t1, t2, t3, t4⟩
        have hbd : Below W.heap.size W W.drew := (Below.refl _ _).drew
        obtain ⟨d0, d1, d2, d3⟩ := hS _ hbd
        clear hS l1 l2 z1 z2
        cases hn : decide (lowL n = lowL k)
        · rw [hn] at HC
          have fin : sameFs l m = false := by rw [hd.out, HST.out]; unfold eqF; rw [hn]; rfl
          have HF := Lib.hid fin
          have HC2 := Lib.hid (HC _ hbd)
          clear HC fin hn
          go_wp2_with fail
          refine wp_region_held_drew (S := (fun w' => w'.cell? ⟨b1, o1 + i * 2, none⟩ = some (.string (mkS n)) ∧ w'.cell? ⟨b1, o1 + i * 2 + 1, none⟩ = some (.string (mkS x)) ∧ w'.cell? ⟨b2, o2 + i * 2, none⟩ = some (.string (mkS k)) ∧ w'.cell? ⟨b2, o2 + i * 2 + 1, none⟩ = some (.string (mkS y)))) (by kernel_rfl) ⟨d0, d1, d2, d3⟩ (fun hHeld => ?_)
          refine wpAnyH_take (i := 0) (v := ?_) rfl (by kernel_rfl) (by kernel_rfl) (by kernel_rfl) (fun _ _ _ h => h) (Or.inl ⟨by rfl, ?_⟩) (by assumption) ?_
          case refine_2 => (intro w hSw; (try dsimp only at hSw); go_simp; try with_reducible rfl)
          try simp only [Act.put, List.getElem_toArray, List.getElem_cons_zero, List.setIfInBounds_toArray, List.set_cons_zero, List.set_cons_succ]
          refine wpAnyH_take (i := 1) (v := ?_) rfl (by kernel_rfl) (by kernel_rfl) (by kernel_rfl) (fun _ _ _ h => h) (Or.inl ⟨by rfl, ?_⟩) (by assumption) ?_
          case refine_2 => (intro w hSw; (try dsimp only at hSw); go_simp; try with_reducible rfl)
          try simp only [Act.put, List.getElem_toArray, List.getElem_cons_succ, List.getElem_cons_zero, List.setIfInBounds_toArray, List.set_cons_zero, List.set_cons_succ]
          refine wpAnyH_take (i := 2) (v := ?_) rfl (by kernel_rfl) (by kernel_rfl) (by kernel_rfl) (fun _ _ _ h => h) (Or.inl ⟨by rfl, ?_⟩) (by assumption) ?_
          case refine_2 => (intro w hSw; (try dsimp only at hSw); go_simp; try with_reducible rfl)
          try simp only [Act.put, List.getElem_toArray, List.getElem_cons_succ, List.getElem_cons_zero, List.setIfInBounds_toArray, List.set_cons_zero, List.set_cons_succ]
          refine wpAnyH_take (i := 3) (v := ?_) rfl (by kernel_rfl) (by kernel_rfl) (by kernel_rfl) (fun _ _ _ h => h) (Or.inl ⟨by rfl, ?_⟩) (by assumption) ?_
          case refine_2 => (intro w hSw; (try dsimp only at hSw); go_simp; try with_reducible rfl)
          try simp only [Act.put, List.getElem_toArray, List.getElem_cons_succ, List.getElem_cons_zero, List.setIfInBounds_toArray, List.set_cons_zero, List.set_cons_succ]
          refine wpAnyH_take (i := 4) (v := ?_) rfl (by kernel_rfl) (by kernel_rfl) (by kernel_rfl) (fun _ _ _ h => h) (Or.inl ⟨by rfl, ?_⟩) (by assumption) ?_
          case refine_2 => (intro w hSw; (try dsimp only at hSw); go_simp; try with_reducible rfl)
          try simp only [Act.put, List.getElem_toArray, List.getElem_cons_succ, List.getElem_cons_zero, List.setIfInBounds_toArray, List.set_cons_zero, List.set_cons_succ]
          refine wpAnyH_take (i := 5) (v := ?_) rfl (by kernel_rfl) (by kernel_rfl) (by kernel_rfl) (fun _ _ _ h => h) (Or.inl ⟨by rfl, ?_⟩) (by assumption) ?_
          case refine_2 => (intro w hSw; (try dsimp only at hSw); go_simp; try with_reducible rfl)
          try simp only [Act.put, List.getElem_toArray, List.getElem_cons_succ, List.getElem_cons_zero, List.setIfInBounds_toArray, List.set_cons_zero, List.set_cons_succ]
          refine wpAnyH_take (i := 6) (v := ?_) rfl (by kernel_rfl) (by kernel_rfl) (by kernel_rfl) (fun _ _ _ h => h) (Or.inl ⟨by rfl, ?_⟩) (by assumption) ?_
          case refine_2 => (intro w hSw; (try dsimp only at hSw); go_simp; try with_reducible rfl)
          try simp only [Act.put, List.getElem_toArray, List.getElem_cons_succ, List.getElem_cons_zero, List.setIfInBounds_toArray, List.set_cons_zero, List.set_cons_succ]
          refine wpAnyH_take (i := 7) (v := ?_) rfl (by kernel_rfl) (by kernel_rfl) (by kernel_rfl) (fun _ _ _ h => h) (Or.inl ⟨by rfl, ?_⟩) (by assumption) ?_
          case refine_2 => (intro w hSw; (try dsimp only at hSw); go_simp; try with_reducible rfl)
          try simp only [Act.put, List.getElem_toArray, List.getElem_cons_succ, List.getElem_cons_zero, List.setIfInBounds_toArray, List.set_cons_zero, List.set_cons_succ]
          refine wpAnyH_take (i := 8) (v := ?_) rfl (by kernel_rfl) (by kernel_rfl) (by kernel_rfl) (fun _ _ _ h => h) (Or.inl ⟨by rfl, ?_⟩) (by assumption) ?_
          case refine_2 => (intro w hSw; (try dsimp only at hSw); go_simp; try with_reducible rfl)
          try simp only [Act.put, List.getElem_toArray, List.getElem_cons_succ, List.getElem_cons_zero, List.setIfInBounds_toArray, List.set_cons_zero, List.set_cons_succ]
          refine wpAnyH_take (i := 9) (v := ?_) rfl (by kernel_rfl) (by kernel_rfl) (by kernel_rfl) (fun _ _ _ h => h) (Or.inl ⟨by rfl, ?_⟩) (by assumption) ?_
          case refine_2 => (intro w hSw; (try dsimp only at hSw); go_simp; try with_reducible rfl)
          try simp only [Act.put, List.getElem_toArray, List.getElem_cons_succ, List.getElem_cons_zero, List.setIfInBounds_toArray, List.set_cons_zero, List.set_cons_succ]
          refine wpAnyH_ready (rs := [10]) (by kernel_rfl) (by simp) ?_
          refine AllReadyH.cons rfl (fun K hK => ?_) AllReadyH.nil
          go_simp
          refine HC2.out.mono ?_
          rintro e w5 ⟨rfl, hb5, t1, t2, t3, t4⟩
          go_simp
          refine hK.out _ _ ⟨t1, t2, t3, t4⟩ (fun hHeld2 => ?_)
          clear hK K hHeld
          refine wpAnyH_take (i := 11) (v := ?_) rfl (by kernel_rfl) (by kernel_rfl) (by kernel_rfl) (fun _ _ _ h => h) (Or.inl ⟨by rfl, ?_⟩) (by assumption) ?_
          case refine_2 => (intro w hSw; (try dsimp only at hSw); go_simp; try with_reducible rfl)
          try simp only [Act.put, List.getElem_toArray, List.getElem_cons_succ, List.getElem_cons_zero, List.setIfInBounds_toArray, List.set_cons_zero, List.set_cons_succ]
          refine wpAnyH_take (i := 12) (v := ?_) rfl (by kernel_rfl) (by kernel_rfl) (by kernel_rfl) (fun _ _ _ h => h) (Or.inl ⟨by rfl, ?_⟩) (by assumption) ?_
          case refine_2 => (intro w hSw; (try dsimp only at hSw); go_simp; try with_reducible rfl)
          try simp only [Act.put, List.getElem_toArray, List.getElem_cons_succ, List.getElem_cons_zero, List.setIfInBounds_toArray, List.set_cons_zero, List.set_cons_succ]
          refine wpAnyH_take (i := 13) (v := undef) rfl (by kernel_rfl) (by kernel_rfl) (by kernel_rfl) (fun _ _ _ h => h) (Or.inr ⟨by kernel_rfl, rfl⟩) (by assumption) ?_
          try simp only [Act.put, List.getElem_toArray, List.getElem_cons_succ, List.getElem_cons_zero, List.setIfInBounds_toArray, List.set_cons_zero, List.set_cons_succ]
          refine wpAnyH_take (i := 14) (v := undef) rfl (by kernel_rfl) (by kernel_rfl) (by kernel_rfl) (fun _ _ _ h => h) (Or.inr ⟨by kernel_rfl, rfl⟩) (by assumption) ?_
          try simp only [Act.put, List.getElem_toArray, List.getElem_cons_succ, List.getElem_cons_zero, List.setIfInBounds_toArray, List.set_cons_zero, List.set_cons_succ]
          refine wpAnyH_take (i := 15) (v := undef) rfl (by kernel_rfl) (by kernel_rfl) (by kernel_rfl) (fun _ _ _ h => h) (Or.inr ⟨by kernel_rfl, rfl⟩) (by assumption) ?_
          try simp only [Act.put, List.getElem_toArray, List.getElem_cons_succ, List.getElem_cons_zero, List.setIfInBounds_toArray, List.set_cons_zero, List.set_cons_succ]
          refine wpAnyH_take (i := 16) (v := undef) rfl (by kernel_rfl) (by kernel_rfl) (by kernel_rfl) (fun _ _ _ h => h) (Or.inr ⟨by kernel_rfl, rfl⟩) (by assumption) ?_
          try simp only [Act.put, List.getElem_toArray, List.getElem_cons_succ, List.getElem_cons_zero, List.setIfInBounds_toArray, List.set_cons_zero, List.set_cons_succ]
          refine wpAnyH_take (i := 17) (v := undef) rfl (by kernel_rfl) (by kernel_rfl) (by kernel_rfl) (fun _ _ _ h => h) (Or.inr ⟨by kernel_rfl, rfl⟩) (by assumption) ?_
          try simp only [Act.put, List.getElem_toArray, List.getElem_cons_succ, List.getElem_cons_zero, List.setIfInBounds_toArray, List.set_cons_zero, List.set_cons_succ]
          refine wpAnyH_take (i := 18) (v := undef) rfl (by kernel_rfl) (by kernel_rfl) (by kernel_rfl) (fun _ _ _ h => h) (Or.inr ⟨by kernel_rfl, rfl⟩) (by assumption) ?_
          try simp only [Act.put, List.getElem_toArray, List.getElem_cons_succ, List.getElem_cons_zero, List.setIfInBounds_toArray, List.set_cons_zero, List.set_cons_succ]
          refine wpAnyH_take (i := 19) (v := undef) rfl (by kernel_rfl) (by kernel_rfl) (by kernel_rfl) (fun _ _ _ h => h) (Or.inr ⟨by kernel_rfl, rfl⟩) (by assumption) ?_
          try simp only [Act.put, List.getElem_toArray, List.getElem_cons_succ, List.getElem_cons_zero, List.setIfInBounds_toArray, List.set_cons_zero, List.set_cons_succ]
          refine wpAnyH_take (i := 20) (v := undef) rfl (by kernel_rfl) (by kernel_rfl) (by kernel_rfl) (fun _ _ _ h => h) (Or.inr ⟨by kernel_rfl, rfl⟩) (by assumption) ?_
          try simp only [Act.put, List.getElem_toArray, List.getElem_cons_succ, List.getElem_cons_zero, List.setIfInBounds_toArray, List.set_cons_zero, List.set_cons_succ]
          refine wpAnyH_take (i := 21) (v := undef) rfl (by kernel_rfl) (by kernel_rfl) (by kernel_rfl) (fun _ _ _ h => h) (Or.inr ⟨by kernel_rfl, rfl⟩) (by assumption) ?_
          try simp only [Act.put, List.getElem_toArray, List.getElem_cons_succ, List.getElem_cons_zero, List.setIfInBounds_toArray, List.set_cons_zero, List.set_cons_succ]
          refine wpAnyH_take (i := 22) (v := undef) rfl (by kernel_rfl) (by kernel_rfl) (by kernel_rfl) (fun _ _ _ h => h) (Or.inr ⟨by kernel_rfl, rfl⟩) (by assumption) ?_
          try simp only [Act.put, List.getElem_toArray, List.getElem_cons_succ, List.getElem_cons_zero, List.setIfInBounds_toArray, List.set_cons_zero, List.set_cons_succ]
          refine wpAnyH_take (i := 23) (v := undef) rfl (by kernel_rfl) (by kernel_rfl) (by kernel_rfl) (fun _ _ _ h => h) (Or.inr ⟨by kernel_rfl, rfl⟩) (by assumption) ?_
          try simp only [Act.put, List.getElem_toArray, List.getElem_cons_succ, List.getElem_cons_zero, List.setIfInBounds_toArray, List.set_cons_zero, List.set_cons_succ]
          refine wpAnyH_take (i := 24) (v := .bool true) rfl (by kernel_rfl) (by kernel_rfl) (by kernel_rfl) (fun _ _ _ h => h) (Or.inl ⟨by kernel_rfl, fun w hSw => ?_⟩) (by assumption) ?_
          case refine_1 => (go_simp; try with_reducible rfl)
          try simp only [Act.put, List.getElem_toArray, List.getElem_cons_succ, List.getElem_cons_zero, List.setIfInBounds_toArray, List.set_cons_zero, List.set_cons_succ]
          clear hHeld2
          refine wpAnyH_done (by kernel_rfl) ?_ _
          skip
          go_wp2_with fail
          go_ret
          exact ⟨by rw [HF.out]; rfl, HB.out.trans (hb5.mono HB.out.size)⟩
        · rw [hn] at HC
          have hxy := decide (x = y)
          have hne : (!(mkS x).toList == (mkS y).toList) = !decide (x = y) := by rw [toList_bs, toList_bs, bs_mkS, bs_mkS]; by_cases h : x = y <;> simp [h]
          cases hx : decide (x = y)
          · have fin : sameFs l m = false := by rw [hd.out, HST.out]; unfold eqF; rw [hx]; simp
            have hxy2 : x ≠ y := of_decide_eq_false hx
            have hne0 : ((mkS x).toList == (mkS y).toList) = false := by rw [toList_bs, toList_bs, bs_mkS, bs_mkS]; simpa using hxy2
            have hne1 : ((mkS x).toList != (mkS y).toList) = true := by rw [toList_bs, toList_bs, bs_mkS, bs_mkS]; simpa using hxy2
            have hne2 : ¬ (mkS x).toList = (mkS y).toList := by rw [toList_bs, toList_bs, bs_mkS, bs_mkS]; exact hxy2
            clear hxy2 hne
            have HF := Lib.hid fin
            have HC2 := Lib.hid (HC _ hbd)
            clear HC fin hn hx hxy
            go_wp2_with fail
            go_region_held3 (fun w' => w'.cell? ⟨b1, o1 + i * 2, none⟩ = some (.string (mkS n)) ∧ w'.cell? ⟨b1, o1 + i * 2 + 1, none⟩ = some (.string (mkS x)) ∧ w'.cell? ⟨b2, o2 + i * 2, none⟩ = some (.string (mkS k)) ∧ w'.cell? ⟨b2, o2 + i * 2 + 1, none⟩ = some (.string (mkS y))) (first | (refine ⟨?_, ?_, ?_, ?_⟩ <;> assumption)) ((go_at_call 39; refine HC2.out.mono ?_; rintro e w5 ⟨rfl, hb5, t1, t2, t3, t4⟩))
            all_goals
              go_wp2_with fail
              go_ret
              exact ⟨by rw [HF.out]; rfl, HB.out.trans (hb5.mono HB.out.size)⟩
          · have hnx : sameFs l m = sameFs (l.drop (i + 1)) (m.drop (i + 1)) := by rw [hd.out, HST.out]; unfold eqF; rw [hn, hx]; rfl
            have hxy2 : x = y := of_decide_eq_true hx
            subst hxy2
            have hne : (!(mkS x).toList == (mkS x).toList) = false := by simp
            have HF := Lib.hid hnx
            have HC2 := Lib.hid (HC _ hbd)
            clear HC hnx hn hx hxy
            go_wp2_with fail
            go_region_held3 (fun w' => w'.cell? ⟨b1, o1 + i * 2, none⟩ = some (.string (mkS n)) ∧ w'.cell? ⟨b1, o1 + i * 2 + 1, none⟩ = some (.string (mkS x)) ∧ w'.cell? ⟨b2, o2 + i * 2, none⟩ = some (.string (mkS k)) ∧ w'.cell? ⟨b2, o2 + i * 2 + 1, none⟩ = some (.string (mkS x))) (first | (refine ⟨?_, ?_, ?_, ?_⟩ <;> assumption)) ((go_at_call 39; refine HC2.out.mono ?_; rintro e w5 ⟨rfl, hb5, t1, t2, t3, t4⟩))
            all_goals
              have HB5 := Lib.hid (HB.out.trans (hb5.mono HB.out.size))
              go_wp2_with fail
              exact ⟨⟨i + 1, hlt, by go_num, HF, HB5⟩, by simp [RowKit.intOf]; omega⟩
      · have hil : i = l.length := by omega
        have fin : sameFs l m = true := by
          rw [hd.out, List.drop_of_length_le (by omega), List.drop_of_length_le (by have := HLM.out; omega)]; rfl
        have HF := Lib.hid fin
        clear fin
        go_wp2_with fail
        go_ret
        exact ⟨by rw [HF.out]; rfl, HB.out⟩
  · have hb : ((l.length : Int) != (m.length : Int)) = true := by simp; omega
    have fin : sameFs l m = false := by
      cases h : sameFs l m
      · rfl
      · exact absurd (sameFs_len l m h) hlm
    have HF := Lib.hid fin
    clear fin
    go_enter Tryd.func26, Tryd.ntmps26
    go_wp2_with fail
    go_ret
    exact ⟨by rw [HF.out]; rfl, Below.refl _ _⟩
end Tk
end Go.Proofs.YtpcdaaijlgilkaaDoor
namespace Go.Proofs.YtpcdaaijlgilkaaDoor
open Go.RowKit
namespace Tk

set_option maxHeartbeats 8000000 in
set_option maxRecDepth 100000 in
theorem flist_any (v : Value) (l : List (Bs × Bs)) (name : Bs) (w : World) (hs : IsFlds w v l) (hz : sumF l ≤ 1000000) (hn : name.length ≤ 1099511627776) (hl : l.length ≤ 1048576) :
    Calls Tryd.prog 17 #[v, .string (mkS name)] w (ListPost w.heap.size (listF l name) w) := by
  have HA := Lib.hid (fall_any v l name w hs (sum_each l (by omega)) hn hl)
  unfold ListPost at HA
  have hlist : listF l name = (allF l name).flatMap splitL := rfl
  have HLI := Lib.hid hlist
  have hpc := Lib.hid (fun p hp => Nat.le_trans (all_piece name l p hp) hz)
  have hfl := Lib.hid (fun i => flat_sub (allF l name) i)
  have hal := allF_len l name
  have hPl : (allF l name).length ≤ 1048576 := by omega
  have hln := listF_len name l
  rw [hlist] at hln
  have hln2 : ((allF l name).flatMap splitL).length ≤ 1000000 := by omega
  obtain ⟨a, cap, rfl⟩ : ∃ a cap, v = .slice a l.length cap := by obtain ⟨a, c, h, -⟩ := hs; exact ⟨a, c, h⟩
  clear hs hz hlist hln hal
  generalize listF l name = Q at *
  generalize allF l name = P at *
  go_enter Tryd.func17, Tryd.ntmps17
  go_wp2_with fail
  refine HA.out.mono ?_
  rintro e w1 ⟨v1, rfl, ho, hb⟩
  have HB1 := Lib.hid hb
  have HS := Lib.hid (isStrs_own ho)
  have HLt := Lib.hid (fun k e => (ho.lt k e).2)
  obtain ⟨a1, c1, rfl⟩ : ∃ a c, v1 = .slice a P.length c := by obtain ⟨a, c, h, -⟩ := isStrs_own ho; exact ⟨a, c, h⟩
  clear ho hb
  go_wp2_with fail
  go_loopw [5, 12] (fun v5 vi wr => ∃ i : Nat, i ≤ P.length ∧ vi = .int .i64 i ∧ Hid (wr.ownsRow w1.heap.size 9 1 v5 ((P.take i).flatMap splitL).length (strs ((P.take i).flatMap splitL))) ∧ Hid (Below w1.heap.size w1 wr)) (fun _ vi _ => P.length - (RowKit.intOf vi).toNat)
  case atStart => exact ⟨0, Nat.zero_le _, rfl, World.ownsRow_nil _ _ _ _, Below.refl _ _⟩
  case round =>
    obtain ⟨i, hi, rfl, HO, HB⟩ := hrel
    rename World => W
    by_cases hlt : i < P.length
    · obtain ⟨a', c', e', hc⟩ := isStrs_later HS.out HB.out HLt.out
      injection e' with e1 _ e2
      subst e1 e2
      obtain ⟨b, o, rfl, hc⟩ := hc i (P.getD i []) (by simp [List.getD, hlt])
      have hm := hpc.out (P.getD i []) (by simp [List.getD, hlt])
      have htk := take_flat P i hlt
      have HTK := Lib.hid htk
      have hf1 := hfl.out i
      have hsl := split_len (P.getD i [])
      clear htk
      generalize P.getD i [] = x at *
      have hxz := size_mkS x
      have hsp := fun W : World => split_any (mkS x) W (by omega)
      rw [bs_mkS] at hsp
      have HSP := Lib.hid hsp
      have g0 : (0 : Int) ≤ (i : Int) := by omega
      have g1 : (i : Int) < (P.length : Int) := by omega
      clear hsp hxz
      have hk1 : ((P.take i).flatMap splitL).length ≤ 1048576 := by omega
      have hk2 : (splitL x).length ≤ 1048576 := by omega
      generalize (P.take i).flatMap splitL = R at *
      generalize splitL x = S at *
      go_wp2_with fail
      refine (HSP.out _).mono ?_
      rintro e w3 ⟨v3, rfl, ho3, hb3⟩
      have HO3 := Lib.hid (own_keep HO.out hb3)
      have HB3 := Lib.hid (HB.out.trans (hb3.mono HB.out.size))
      have HS3 := Lib.hid ho3
      clear ho3 hb3
      go_wp2_with (at_builtin; refine join_guarded (by rfl) _ _ rfl w1.heap.size _ _ _ R S rfl rfl HO3.out HS3.out HB3.out.size hk1 hk2 ?_)
      intro v4 w4 ho4 hb4
      have HB4 := Lib.hid (HB3.out.trans hb4)
      have HO4 : Hid (w4.ownsRow w1.heap.size 9 1 v4 ((P.take (i + 1)).flatMap splitL).length (strs ((P.take (i + 1)).flatMap splitL))) := by
        show World.ownsRow _ _ _ _ _ _ _
        rw [HTK.out, List.length_append]; exact ho4
      clear ho4 hb4
      go_wp2_with fail
      exact ⟨⟨i + 1, hlt, by go_num, HO4, HB4⟩, by simp [RowKit.intOf]; omega⟩
    · have hil : P.take i = P := List.take_of_length_le (by omega)
      rw [hil, ← HLI.out] at HO
      have HBF := Lib.hid (HB1.out.trans (HB.out.mono HB1.out.size))
      have HOF := Lib.hid (World.ownsRow.mono HO.out HB1.out.size)
      go_wp2_with fail
      go_ret
      exact ⟨_, rfl, HOF.out, HBF.out⟩
end Tk
end Go.Proofs.YtpcdaaijlgilkaaDoor
namespace Go.Proofs.YtpcdaaijlgilkaaDoor
open Go.RowKit
namespace Tk

theorem fx_setF_len (name x : Bs) (l : List (Bs × Bs)) : (setF name x l).length ≤ l.length + 1 := by
  by_cases hi : l.findIdx (isN name) < l.length
  · obtain ⟨a, f, b, hl, -, -, hs⟩ := cut_at name l hi
    rw [hs x]
    have h4 := congrArg List.length hl
    simp only [List.length_append, List.length_cons] at h4 ⊢
    have h5 : (delF name b).length ≤ b.length := List.length_filter_le _ _
    omega
  · unfold setF
    rw [if_neg hi]
    simp
theorem fx_once_len : ∀ (L s : List Bs), (onceGo s L).length ≤ L.length
  | [], s => by simp [onceGo]
  | p :: t, s => by
    unfold onceGo
    split
    · have := fx_once_len t s; simp; omega
    · have := fx_once_len t (p :: s); simp; first | omega | (have := fx_once_len t (s ++ [p]); omega)
theorem fx_names_len (l : List (Bs × Bs)) : (namesL l).length ≤ l.length := by
  have := fx_once_len (lowN l) []
  unfold lowN at this
  rw [List.length_map] at this
  exact this

set_option maxRecDepth 100000 in
set_option maxHeartbeats 4000000 in
theorem fx_big (v1 v2 : Value) (l m : List (Bs × Bs)) (s name value : ByteArray) (w : World) (h1 : IsFlds w v1 l) (h2 : IsFlds w v2 m) (z1 : ∀ f ∈ l, f.1.length ≤ 140737488351232 ∧ f.2.length ≤ 140737488351232) (z2 : ∀ f ∈ m, f.1.length ≤ 140737488351232 ∧ f.2.length ≤ 140737488351232) (hl : l.length ≤ 140737488351232) (hm : m.length ≤ 140737488351232)
    (hb : lightF l = false ∨ (lightF l = true ∧ (lightF m = false ∨ (lightF m = true ∧ (300 < s.size ∨ (s.size ≤ 300 ∧ (60 < name.size ∨ (name.size ≤ 60 ∧ 100 < value.size)))))))) :
    Calls Tryd.prog 3 #[v1, v2, .string s, .string name, .string value] w (Yes2 w) := by
  have HL := Lib.hid (lives02_any w)
  have HA := Lib.hid (fun (W : World) (h : Below w.heap.size w W) => light02_any v1 l W (isFlds_below h1 h) z1 hl)
  have HB := Lib.hid (fun (W : World) (h : Below w.heap.size w W) => light02_any v2 m W (isFlds_below h2 h) z2 hm)
  obtain ⟨a1, c1, rfl⟩ : ∃ a cap, v1 = .slice a l.length cap := by obtain ⟨a, c, h, -⟩ := h1; exact ⟨a, c, h⟩
  obtain ⟨a2, c2, rfl⟩ : ∃ a cap, v2 = .slice a m.length cap := by obtain ⟨a, c, h, -⟩ := h2; exact ⟨a, c, h⟩
  unfold Yes2 at HL ⊢
  clear h1 h2 z1 z2
  rcases hb with hb | ⟨hb, hb2 | ⟨hb2, hk⟩⟩
  · rw [hb] at HA
    clear hb
    go_enter Tryd.func3, Tryd.ntmps3
    go_wp2_with fail
    refine HL.out.mono ?_
    rintro e w1 ⟨rfl, hb⟩
    have HB1 := Lib.hid hb
    clear hb
    go_wp2_with fail
    refine (HA.out _ HB1.out).mono ?_
    rintro e w2 ⟨rfl, n, rfl⟩
    go_wp2_with fail
    go_ret
    exact ⟨rfl, below_some_draws HB1.out n⟩
  all_goals
    rw [hb] at HA
    rw [hb2] at HB
    clear hb hb2
    try (rcases hk with k | ⟨k1, k | ⟨k2, k⟩⟩)
  all_goals
    go_enter Tryd.func3, Tryd.ntmps3
    go_wp2_with fail
    refine HL.out.mono ?_
    rintro e w1 ⟨rfl, hb⟩
    have HB1 := Lib.hid hb
    clear hb
    go_wp2_with fail
    refine (HA.out _ HB1.out).mono ?_
    rintro e w2 ⟨rfl, n, rfl⟩
    have HB2 := Lib.hid (below_some_draws HB1.out n)
    go_wp2_with fail
    refine (HB.out _ HB2.out).mono ?_
    rintro e w3 ⟨rfl, n2, rfl⟩
    have HB3 := Lib.hid (below_some_draws HB2.out n2)
    try have m0 : (300 : Int) < (s.size : Int) := by omega
    try have m1 : ¬ (300 : Int) < (s.size : Int) := by omega
    try have m2 : (60 : Int) < (name.size : Int) := by omega
    try have m3 : ¬ (60 : Int) < (name.size : Int) := by omega
    try have m4 : (100 : Int) < (value.size : Int) := by omega
    go_wp2_with fail
    go_ret
    exact ⟨rfl, below_some_draws HB1.out (n + n2)⟩


set_option maxRecDepth 100000 in
set_option maxHeartbeats 32000000 in
theorem fx_walk (a1 a2 : Option Addr) (c1 c2 : Nat) (l m SL DL : List (Bs × Bs)) (NL AL LL : List Bs) (s nm vl LN LV BT GT : ByteArray) (LE BE CE : Int) (GB SB : Bool) (w : World)
    (k0 : s.size ≤ 300) (k1 : nm.size ≤ 60) (k2 : vl.size ≤ 100) (hNL : NL.length ≤ 1099511627776) (hAL : AL.length ≤ 1099511627776) (hLL : LL.length ≤ 1099511627776) (hSL : SL.length ≤ 1099511627) (hDL : DL.length ≤ 1099511627)
    (HL : Hid (Calls Tryd.prog 4 #[] w (Yes2 w)))
    (G1 : Hid (∀ W, Below w.heap.size w W → Calls Tryd.prog 5 #[.slice a1 l.length c1] W fun e w' => e = .returned (.bool true) ∧ ∃ n, w' = W.drewN n))
    (G2 : Hid (∀ W, Below w.heap.size w W → Calls Tryd.prog 5 #[.slice a2 m.length c2] W fun e w' => e = .returned (.bool true) ∧ ∃ n, w' = W.drewN n))
    (L1 : Hid (∀ W, Below w.heap.size w W → Calls Tryd.prog 6 #[.string s] W fun e w' => e = .returned (.tuple #[.agg #[.string LN, .string LV], .int .i64 LE]) ∧ Below W.heap.size W w'))
    (L2 : Hid (∀ W, Below w.heap.size w W → Calls Tryd.prog 7 #[.string s] W fun e w' => e = .returned (.tuple #[.agg #[.string LN, .string LV], .int .i64 LE]) ∧ Below W.heap.size W w'))
    (B1 : Hid (∀ W, Below w.heap.size w W → Calls Tryd.prog 8 #[.slice a1 l.length c1] W fun e w' => e = .returned (.tuple #[.string BT, .int .i64 BE]) ∧ Below W.heap.size W w'))
    (B2 : Hid (∀ W, Below w.heap.size w W → Calls Tryd.prog 9 #[.slice a1 l.length c1] W fun e w' => e = .returned (.tuple #[.string BT, .int .i64 BE]) ∧ Below W.heap.size W w'))
    (T1 : Hid (∀ W, Below w.heap.size w W → Calls Tryd.prog 10 #[.slice a1 l.length c1, .string nm] W fun e w' => e = .returned (.tuple #[.string GT, .bool GB]) ∧ Below W.heap.size W w'))
    (T2 : Hid (∀ W, Below w.heap.size w W → Calls Tryd.prog 11 #[.slice a1 l.length c1, .string nm] W fun e w' => e = .returned (.tuple #[.string GT, .bool GB]) ∧ Below W.heap.size W w'))
    (N1 : Hid (∀ W, Below w.heap.size w W → Calls Tryd.prog 12 #[.slice a1 l.length c1] W fun e w' => ∃ v, e = .returned (.tuple #[v, .bool true]) ∧ w'.ownsRow W.heap.size 9 1 v NL.length (strs NL) ∧ Below W.heap.size W w'))
    (N2 : Hid (∀ W, Below w.heap.size w W → Calls Tryd.prog 14 #[.slice a1 l.length c1] W fun e w' => ∃ v, e = .returned v ∧ w'.ownsRow W.heap.size 9 1 v NL.length (strs NL) ∧ Below W.heap.size W w'))
    (A1 : Hid (∀ W, Below w.heap.size w W → Calls Tryd.prog 15 #[.slice a1 l.length c1, .string nm] W fun e w' => ∃ v, e = .returned v ∧ w'.ownsRow W.heap.size 9 1 v AL.length (strs AL) ∧ Below W.heap.size W w'))
    (A2 : Hid (∀ W, Below w.heap.size w W → Calls Tryd.prog 16 #[.slice a1 l.length c1, .string nm] W fun e w' => ∃ v, e = .returned v ∧ w'.ownsRow W.heap.size 9 1 v AL.length (strs AL) ∧ Below W.heap.size W w'))
    (I1 : Hid (∀ W, Below w.heap.size w W → Calls Tryd.prog 17 #[.slice a1 l.length c1, .string nm] W fun e w' => ∃ v, e = .returned v ∧ w'.ownsRow W.heap.size 9 1 v LL.length (strs LL) ∧ Below W.heap.size W w'))
    (I2 : Hid (∀ W, Below w.heap.size w W → Calls Tryd.prog 18 #[.slice a1 l.length c1, .string nm] W fun e w' => ∃ v, e = .returned v ∧ w'.ownsRow W.heap.size 9 1 v LL.length (strs LL) ∧ Below W.heap.size W w'))
    (O1 : Hid (∀ W, Below w.heap.size w W → Calls Tryd.prog 21 #[.slice a1 l.length c1] W fun e w' => ∃ v, e = .returned v ∧ w'.ownsRow W.heap.size 26 2 v l.length (fcells l) ∧ Below W.heap.size W w'))
    (S1 : Hid (∀ W v, IsFlds W v l → Calls Tryd.prog 20 #[v, .string nm, .string vl] W fun e w' => ∃ v, e = .returned v ∧ w'.ownsRow W.heap.size 26 2 v SL.length (fcells SL) ∧ Below W.heap.size W w'))
    (S2 : Hid (∀ W, Below w.heap.size w W → Calls Tryd.prog 22 #[.slice a1 l.length c1, .string nm, .string vl] W fun e w' => ∃ v, e = .returned v ∧ w'.ownsRow W.heap.size 26 2 v SL.length (fcells SL) ∧ Below W.heap.size W w'))
    (D1 : Hid (∀ W v, IsFlds W v l → (∀ n c, v = .slice none n c → c = 0) → Calls Tryd.prog 23 #[v, .string nm] W fun e w' => ∃ v, e = .returned v ∧ w'.ownsRow W.heap.size 26 2 v DL.length (fcells DL) ∧ Below W.heap.size W w'))
    (D2 : Hid (∀ W, Below w.heap.size w W → Calls Tryd.prog 24 #[.slice a1 l.length c1, .string nm] W fun e w' => ∃ v, e = .returned v ∧ w'.ownsRow W.heap.size 26 2 v DL.length (fcells DL) ∧ Below W.heap.size W w'))
    (E1 : Hid (∀ W, Below w.heap.size w W → Calls Tryd.prog 25 #[.slice a1 l.length c1, .slice a2 m.length c2] W fun e w' => e = .returned (.bool SB) ∧ Below W.heap.size W w'))
    (E2 : Hid (∀ W, Below w.heap.size w W → Calls Tryd.prog 26 #[.slice a1 l.length c1, .slice a2 m.length c2] W fun e w' => e = .returned (.bool SB) ∧ Below W.heap.size W w'))
    (K1 : Hid (∀ W, Below w.heap.size w W → Calls Tryd.prog 27 #[.agg #[.string nm, .string vl]] W fun e w' => e = .returned (.int .i64 CE) ∧ Below W.heap.size W w'))
    (K2 : Hid (∀ W, Below w.heap.size w W → Calls Tryd.prog 28 #[.agg #[.string nm, .string vl]] W fun e w' => e = .returned (.int .i64 CE) ∧ Below W.heap.size W w')) :
    Calls Tryd.prog 3 #[.slice a1 l.length c1, .slice a2 m.length c2, .string s, .string nm, .string vl] w (Yes2 w) := by
  have m0 : ¬ (300 : Int) < (s.size : Int) := by omega
  have m1 : ¬ (60 : Int) < (nm.size : Int) := by omega
  have m2 : ¬ (100 : Int) < (vl.size : Int) := by omega
  have hfe : ∀ W, (binOp .eql 26 (.agg #[.string LN, .string LV]) (.agg #[.string LN, .string LV])).run Tryd.prog W = .ok (.bool true) W := fun W => by rw [field_eql]; simp
  have q1 : (BT.toList == BT.toList) = true := by simp
  have q2 : (GT.toList == GT.toList) = true := by simp
  have q3 : (GB == GB) = true := by simp
  have q4 : (SB == SB) = true := by simp
  have q5 : (LE == LE) = true := by simp
  have q6 : (BE == BE) = true := by simp
  have q7 : (CE == CE) = true := by simp
  unfold Yes2 at HL ⊢
  clear k0 k1 k2
  go_enter Tryd.func3, Tryd.ntmps3
  go_wp2_with fail
  refine HL.out.mono ?_
  rintro e w1 ⟨rfl, hb⟩
  have HB1 := Lib.hid hb
  clear hb HL
  go_wp2_with fail
  refine (G1.out _ HB1.out).mono ?_
  rintro e w2 ⟨rfl, n, rfl⟩
  have HB2 := Lib.hid (below_some_draws HB1.out n)
  generalize w1.drewN n = w2 at *
  go_wp2_with fail
  refine (G2.out _ HB2.out).mono ?_
  rintro e w3 ⟨rfl, n2, rfl⟩
  have HB3 := Lib.hid (below_some_draws HB2.out n2)
  generalize w2.drewN n2 = w3 at *
  clear G1 G2 HB1 HB2
  go_wp2_with fail
  refine (L1.out _ HB3.out).mono ?_
  rintro e w4 ⟨rfl, hb⟩
  have HB4 := Lib.hid (HB3.out.trans (hb.mono HB3.out.size))
  clear hb L1
  have HX := Lib.hid (Two.new w4 26 (.string LN) (.string LV))
  have HB5 := Lib.hid (HB4.out.alloc HB4.out.size (Obj.cells #[.string LN, .string LV] 26))
  go_wp2_with fail
  generalize w4.alloc (Obj.cells #[.string LN, .string LV] 26) = w5 at *
  generalize w4.heap.size = g1 at *
  refine (L2.out _ HB5.out).mono ?_
  rintro e w6 ⟨rfl, hb⟩
  have HX6 := Lib.hid (HX.out.later hb)
  have HB6 := Lib.hid (HB5.out.trans (hb.mono HB5.out.size))
  have hbal : Below w6.heap.size w6 (w6.alloc (Obj.cells #[.string LN, .string LV] 26)) := (Below.refl _ _).alloc (Nat.le_refl _) _
  have HX7 := Lib.hid (HX6.out.later hbal)
  have HY7 := Lib.hid (Two.new w6 26 (.string LN) (.string LV))
  have HB7 := Lib.hid (HB6.out.trans (hbal.mono HB6.out.size))
  clear hb hbal L2
  go_wp2_with fail
  generalize w6.alloc (Obj.cells #[.string LN, .string LV] 26) = w7 at *
  generalize w6.heap.size = g2 at *
  refine (B1.out _ HB7.out).mono ?_
  rintro e w8 ⟨rfl, hb⟩
  have HX8 := Lib.hid (HX7.out.later hb)
  have HY8 := Lib.hid (HY7.out.later hb)
  have HB8 := Lib.hid (HB7.out.trans (hb.mono HB7.out.size))
  clear hb HX7 HY7 HB7 B1
  go_wp2_with fail
  refine (B2.out _ HB8.out).mono ?_
  rintro e w9 ⟨rfl, hb⟩
  have HX9 := Lib.hid (HX8.out.later hb)
  have HY9 := Lib.hid (HY8.out.later hb)
  have HB9 := Lib.hid (HB8.out.trans (hb.mono HB8.out.size))
  clear hb HX8 HY8 HB8 B2
  go_wp2_with fail
  refine (T1.out _ HB9.out).mono ?_
  rintro e w10 ⟨rfl, hb⟩
  have HX10 := Lib.hid (HX9.out.later hb)
  have HY10 := Lib.hid (HY9.out.later hb)
  have HB10 := Lib.hid (HB9.out.trans (hb.mono HB9.out.size))
  clear hb HX9 HY9 HB9 T1
  go_wp2_with fail
  refine (T2.out _ HB10.out).mono ?_
  rintro e w11 ⟨rfl, hb⟩
  have HX11 := Lib.hid (HX10.out.later hb)
  have HY11 := Lib.hid (HY10.out.later hb)
  have HB11 := Lib.hid (HB10.out.trans (hb.mono HB10.out.size))
  clear hb HX10 HY10 HB10 T2
  go_wp2_with fail
  refine (N1.out _ HB11.out).mono ?_
  rintro e w12 ⟨vn, rfl, ho, hb⟩
  have HX12 := HX11.out.later hb
  have HY12 := HY11.out.later hb
  have HB12 := Lib.hid (HB11.out.trans (hb.mono HB11.out.size))
  have HO1 := Lib.hid ho
  obtain ⟨an, cn, rfl⟩ : ∃ a c, vn = .slice a NL.length c := by obtain ⟨a, c, h, -⟩ := isStrs_own ho; exact ⟨a, c, h⟩
  have x0 := HX12.c0
  have x1 := HX12.c1
  have y0 := HY12.c0
  have y1 := HY12.c1
  clear hb ho HX12 HY12 HX11 HY11 HX HX6 N1 HB3 HB4 HB5 HB6
  go_wp2_with fail
  refine (N2.out _ HB12.out).mono ?_
  rintro e w13 ⟨v2, rfl, ho, hb⟩
  have HB13 := Lib.hid (HB12.out.trans (hb.mono HB12.out.size))
  have HOv2 := Lib.hid ho
  have HOk1 := Lib.hid (own_keep HO1.out hb)
  clear hb ho
  go_wp2_with fail
  refine (same_any (.slice an NL.length cn) v2 NL NL _ (isStrs_own HOk1.out) (isStrs_own HOv2.out) hNL hNL).mono ?_
  rintro e w14 ⟨rfl, n14, rfl⟩
  have HB14 := Lib.hid (below_some_draws HB13.out n14)
  simp only [decide_true]
  generalize w13.drewN n14 = w14 at *
  try clear x0 x1 y0 y1
  go_wp2_with fail
  refine (A1.out _ HB14.out).mono ?_
  rintro e w15 ⟨v3, rfl, ho, hb⟩
  have HB15 := Lib.hid (HB14.out.trans (hb.mono HB14.out.size))
  have HOv3 := Lib.hid ho
  clear hb ho
  go_wp2_with fail
  refine (A2.out _ HB15.out).mono ?_
  rintro e w16 ⟨v4, rfl, ho, hb⟩
  have HB16 := Lib.hid (HB15.out.trans (hb.mono HB15.out.size))
  have HOv4 := Lib.hid ho
  have HOkv3 := Lib.hid (own_keep HOv3.out hb)
  clear hb ho
  go_wp2_with fail
  refine (same_any v3 v4 AL AL _ (isStrs_own HOkv3.out) (isStrs_own HOv4.out) hAL hAL).mono ?_
  rintro e w17 ⟨rfl, n17, rfl⟩
  have HB17 := Lib.hid (below_some_draws HB16.out n17)
  simp only [decide_true]
  generalize w16.drewN n17 = w17 at *
  try clear x0 x1 y0 y1
  go_wp2_with fail
  refine (I1.out _ HB17.out).mono ?_
  rintro e w18 ⟨v5, rfl, ho, hb⟩
  have HB18 := Lib.hid (HB17.out.trans (hb.mono HB17.out.size))
  have HOv5 := Lib.hid ho
  clear hb ho
  go_wp2_with fail
  refine (I2.out _ HB18.out).mono ?_
  rintro e w19 ⟨v6, rfl, ho, hb⟩
  have HB19 := Lib.hid (HB18.out.trans (hb.mono HB18.out.size))
  have HOv6 := Lib.hid ho
  have HOkv5 := Lib.hid (own_keep HOv5.out hb)
  clear hb ho
  go_wp2_with fail
  refine (same_any v5 v6 LL LL _ (isStrs_own HOkv5.out) (isStrs_own HOv6.out) hLL hLL).mono ?_
  rintro e w20 ⟨rfl, n20, rfl⟩
  have HB20 := Lib.hid (below_some_draws HB19.out n20)
  simp only [decide_true]
  generalize w19.drewN n20 = w20 at *
  try clear x0 x1 y0 y1
  go_wp2_with fail
  refine (O1.out _ HB20.out).mono ?_
  rintro e w21 ⟨v7, rfl, ho, hb⟩
  have HB21 := Lib.hid (HB20.out.trans (hb.mono HB20.out.size))
  have HOv7 := Lib.hid ho
  clear hb ho
  go_wp2_with fail
  refine (S1.out _ _ (isFlds_own HOv7.out)).mono ?_
  rintro e w22 ⟨v8, rfl, ho, hb⟩
  have HB22 := Lib.hid (HB21.out.trans (hb.mono HB21.out.size))
  have HOv8 := Lib.hid ho
  clear hb ho
  go_wp2_with fail
  refine (S2.out _ HB22.out).mono ?_
  rintro e w23 ⟨v9, rfl, ho, hb⟩
  have HB23 := Lib.hid (HB22.out.trans (hb.mono HB22.out.size))
  have HOv9 := Lib.hid ho
  have HOkv8 := Lib.hid (keepN HOv8.out hb)
  clear hb ho
  go_wp2_with fail
  refine (ksame_self v8 v9 SL _ (isFlds_own HOkv8.out) (isFlds_own HOv9.out) hSL).mono ?_
  rintro e w24 ⟨rfl, hb⟩
  have HB24 := Lib.hid (HB23.out.trans (hb.mono HB23.out.size))
  clear hb
  go_wp2_with fail
  refine (O1.out _ HB24.out).mono ?_
  rintro e w25 ⟨v10, rfl, ho, hb⟩
  have HB25 := Lib.hid (HB24.out.trans (hb.mono HB24.out.size))
  have HOv10 := Lib.hid ho
  clear hb ho
  go_wp2_with fail
  refine (D1.out _ _ (isFlds_own HOv10.out) (isFlds_nil_cap HOv10.out)).mono ?_
  rintro e w26 ⟨v11, rfl, ho, hb⟩
  have HB26 := Lib.hid (HB25.out.trans (hb.mono HB25.out.size))
  have HOv11 := Lib.hid ho
  clear hb ho
  go_wp2_with fail
  refine (D2.out _ HB26.out).mono ?_
  rintro e w27 ⟨v12, rfl, ho, hb⟩
  have HB27 := Lib.hid (HB26.out.trans (hb.mono HB26.out.size))
  have HOv12 := Lib.hid ho
  have HOkv11 := Lib.hid (keepN HOv11.out hb)
  clear hb ho
  go_wp2_with fail
  refine (ksame_self v11 v12 DL _ (isFlds_own HOkv11.out) (isFlds_own HOv12.out) hDL).mono ?_
  rintro e w28 ⟨rfl, hb⟩
  have HB28 := Lib.hid (HB27.out.trans (hb.mono HB27.out.size))
  clear hb
  go_wp2_with fail
  refine (E1.out _ HB28.out).mono ?_
  rintro e w29 ⟨rfl, hb⟩
  have HB29 := Lib.hid (HB28.out.trans (hb.mono HB28.out.size))
  clear hb
  go_wp2_with fail
  refine (E2.out _ HB29.out).mono ?_
  rintro e w30 ⟨rfl, hb⟩
  have HB30 := Lib.hid (HB29.out.trans (hb.mono HB29.out.size))
  clear hb
  go_wp2_with fail
  refine (K1.out _ HB30.out).mono ?_
  rintro e w31 ⟨rfl, hb⟩
  have HB31 := Lib.hid (HB30.out.trans (hb.mono HB30.out.size))
  clear hb
  go_wp2_with fail
  refine (K2.out _ HB31.out).mono ?_
  rintro e w32 ⟨rfl, hb⟩
  have HB32 := Lib.hid (HB31.out.trans (hb.mono HB31.out.size))
  clear hb
  go_wp2_with fail
  go_ret
  exact ⟨rfl, HB32.out⟩


theorem fieldCalls_any (v1 v2 : Value) (l m : List (Bs × Bs)) (s name value : ByteArray) (w : World) (h1 : IsFlds w v1 l) (h2 : IsFlds w v2 m) (hn1 : ∀ n c, v1 = .slice none n c → c = 0) (z1 : ∀ f ∈ l, f.1.length ≤ 140737488351232 ∧ f.2.length ≤ 140737488351232) (z2 : ∀ f ∈ m, f.1.length ≤ 140737488351232 ∧ f.2.length ≤ 140737488351232) (hl : l.length ≤ 140737488351232) (hm : m.length ≤ 140737488351232) :
    Calls Tryd.prog 3 #[v1, v2, .string s, .string name, .string value] w (Yes2 w) := by
  by_cases hb : lightF l = false ∨ (lightF l = true ∧ (lightF m = false ∨ (lightF m = true ∧ (300 < s.size ∨ (s.size ≤ 300 ∧ (60 < name.size ∨ (name.size ≤ 60 ∧ 100 < value.size)))))))
  · exact fx_big v1 v2 l m s name value w h1 h2 z1 z2 hl hm hb
  · have hl1 : lightF l = true := by cases h : lightF l; exact absurd (.inl h) hb; rfl
    have hm1 : lightF m = true := by cases h : lightF m; exact absurd (.inr ⟨hl1, .inl h⟩) hb; rfl
    have ks : s.size ≤ 300 := Nat.le_of_not_lt fun h => hb (.inr ⟨hl1, .inr ⟨hm1, .inl h⟩⟩)
    have kn : name.size ≤ 60 := Nat.le_of_not_lt fun h => hb (.inr ⟨hl1, .inr ⟨hm1, .inr ⟨ks, .inl h⟩⟩⟩)
    have kv : value.size ≤ 100 := Nat.le_of_not_lt fun h => hb (.inr ⟨hl1, .inr ⟨hm1, .inr ⟨ks, .inr ⟨kn, h⟩⟩⟩⟩)
    obtain ⟨l30, lsum⟩ := lightF_parts l hl1
    obtain ⟨m30, msum⟩ := lightF_parts m hm1
    have e1 := sum_each l (by omega)
    have e2 := sum_each m (by omega)
    have hG1 := fun (W : World) (hb : Below w.heap.size w W) => light02_any v1 l W (isFlds_below h1 hb) z1 hl
    have hG2 := fun (W : World) (hb : Below w.heap.size w W) => light02_any v2 m W (isFlds_below h2 hb) z2 hm
    rw [hl1] at hG1
    rw [hm1] at hG2
    have zn : (bs name).length ≤ 1099511627776 := by rw [length_bs]; omega
    have zv : (bs value).length ≤ 1099511627776 := by rw [length_bs]; omega
    have hnm : name = mkS (bs name) := (mkS_bs name).symm
    have hvl : value = mkS (bs value) := (mkS_bs value).symm
    have dl : (delF (bs name) l).length ≤ 1099511627 := by have h3 : (delF (bs name) l).length ≤ l.length := List.length_filter_le _ _; omega
    have sl : (setF (bs name) (bs value) l).length ≤ 1099511627 := by have h3 := fx_setF_len (bs name) (bs value) l; omega
    have al : (allF l (bs name)).length ≤ 1099511627776 := by have := allF_len l (bs name); omega
    have nl : (namesL l).length ≤ 1099511627776 := by have := fx_names_len l; omega
    have ll : (listF l (bs name)).length ≤ 1099511627776 := by have := listF_len (bs name) l; omega
    obtain ⟨a1, c1, hv1⟩ : ∃ a cap, v1 = .slice a l.length cap := by obtain ⟨a, c, h, -⟩ := h1; exact ⟨a, c, h⟩
    obtain ⟨a2, c2, hv2⟩ : ∃ a cap, v2 = .slice a m.length cap := by obtain ⟨a, c, h, -⟩ := h2; exact ⟨a, c, h⟩
    subst hv1 hv2
    exact fx_walk a1 a2 c1 c2 l m (setF (bs name) (bs value) l) (delF (bs name) l) (namesL l) (allF l (bs name)) (listF l (bs name)) s name value _ _ _ _ _ _ _ _ _ w ks kn kv nl al ll sl dl
      (Lib.hid (lives02_any w)) (Lib.hid hG1) (Lib.hid hG2)
      (Lib.hid fun W _ => line_any s W (by omega)) (Lib.hid fun W _ => rline_any s W (by omega))
      (Lib.hid fun W hb => bytes_any _ l W (isFlds_below h1 hb) (by omega) (by omega)) (Lib.hid fun W hb => rbytes_any _ l W (isFlds_below h1 hb) (by omega) (by omega))
      (Lib.hid fun W hb => by have := fget_any _ l (bs name) W (isFlds_below h1 hb) (by omega) zn (by omega); rw [← hnm] at this; exact this) (Lib.hid fun W hb => by have := rget_any _ l (bs name) W (isFlds_below h1 hb) (by omega) zn (by omega); rw [← hnm] at this; exact this)
      (Lib.hid fun W hb => lnames_any _ l W (isFlds_below h1 hb) e1 (by omega)) (Lib.hid fun W hb => rnames_any _ l W (isFlds_below h1 hb) e1 (by omega))
      (Lib.hid fun W hb => by have := fall_any _ l (bs name) W (isFlds_below h1 hb) e1 zn (by omega); rw [← hnm] at this; exact this) (Lib.hid fun W hb => by have := rall_any _ l (bs name) W (isFlds_below h1 hb) e1 zn (by omega); rw [← hnm] at this; exact this)
      (Lib.hid fun W hb => by have := flist_any _ l (bs name) W (isFlds_below h1 hb) (by omega) zn (by omega); rw [← hnm] at this; exact this) (Lib.hid fun W hb => by have := rlist_any _ l (bs name) W (isFlds_below h1 hb) (by omega) zn (by omega); rw [← hnm] at this; exact this)
      (Lib.hid fun W hb => own_any _ l W (isFlds_below h1 hb) hn1 (by omega))
      (Lib.hid fun W v h => by have := fset_any v l (bs name) (bs value) W h e1 zn zv (by omega); rw [← hnm, ← hvl] at this; exact this)
      (Lib.hid fun W hb => by have := rset_any _ l (bs name) (bs value) W (isFlds_below h1 hb) e1 zn (by omega); rw [← hnm, ← hvl] at this; exact this)
      (Lib.hid fun W v h hn => by have := fdel_any v l (bs name) W h hn e1 zn (by omega); rw [← hnm] at this; exact this)
      (Lib.hid fun W hb => by have := rdel_any _ l (bs name) W (isFlds_below h1 hb) e1 zn (by omega); rw [← hnm] at this; exact this)
      (Lib.hid fun W hb => fsame_any _ _ l m W (isFlds_below h1 hb) (isFlds_below h2 hb) (fun f hf => by rcases hf with hf | hf; exact (e1 f hf).1; exact (e2 f hf).1) (by omega) (by omega)) (Lib.hid fun W hb => rsamef_any _ _ l m W (isFlds_below h1 hb) (isFlds_below h2 hb) (fun f hf => by rcases hf with hf | hf; exact (e1 f hf).1; exact (e2 f hf).1) (by omega) (by omega))
      (Lib.hid fun W _ => check_any' name value W (by omega) (by omega)) (Lib.hid fun W _ => rcheck_any name value W (by omega) (by omega))
end Tk
end Go.Proofs.YtpcdaaijlgilkaaDoor
