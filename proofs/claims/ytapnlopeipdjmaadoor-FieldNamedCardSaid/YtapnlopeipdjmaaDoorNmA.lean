/- field.Names: the function that hands over each name once. -/
import Derived.Test.YtapnlopeipdjmaaDoorRngL
import Derived.Test.YtapnlopeipdjmaaDoorNamP
import Derived.Test.YtapnlopeipdjmaaDoorFldM
import Derived.Test.YtapnlopeipdjmaaDoorSame
import Derived.RangeFuncNested
import Derived.RangeFuncBound
import Derived.RangeFuncCalls
import Derived.RangeFuncLeaves
import Derived.RangeFuncBox
import Derived.OwnWalkIn
import Derived.TacticsInMore
import Derived.LoopNIn
import Derived.LoopIn
import Derived.Maps.OwnIn
import Derived.Maps.Views
import Derived.StringKeys
namespace Go.Proofs.YtapnlopeipdjmaaDoor
open Go.RowKit Go.Maps
namespace Tk

attribute [local go_sem] Oper.semAt_some

theorem zeroUnit (w : World) : (zeroValue 103).run Tryd.prog w = .ok (.agg #[]) w := by kernel_rfl
theorem strKeyed : Maps.Keyed Tryd.prog 9 := string_keyed Tryd.underlying9
def setS (S : List Bs) : DataW Unit := setOf (.agg []) (S.map fun x => .string x)
theorem has_setS (S : List Bs) (x : Bs) : Maps.has (setS S) (.string x) = decide (x ∈ S) := by
  unfold setS
  rw [has_setOf _ _ _ (fun y hy => by
    rw [List.mem_map] at hy
    obtain ⟨z, -, rfl⟩ := hy
    simp [WideAt.IsKeyLit])]
  rw [List.any_map]
  induction S with
  | nil => simp
  | cons y t ih =>
    rw [List.any_cons, ih]
    by_cases h : x = y
    · subst h; simp [Lit.sameKey]
    · have h2 : ¬ y = x := fun e => h e.symm
      simp [Lit.sameKey, h, h2]
theorem setS_snoc (S : List Bs) (x : Bs) : setS (S ++ [x]) = (setS S).put (.string x) (.agg []) := by
  unfold setS
  rw [List.map_append, List.map_cons, List.map_nil, setOf_snoc]

theorem once_pre : ∀ (L : List Bs) (s : List Bs) (j : Nat), onceGo s (L.take j) <+: onceGo s L
  | [], s, j => by simp
  | y :: t, s, 0 => by simp [onceGo]
  | y :: t, s, j + 1 => by
    rw [List.take_succ_cons, onceGo, onceGo]
    split
    · exact once_pre t s j
    · have := once_pre t (y :: s) j
      obtain ⟨r, hr⟩ := this
      exact ⟨r, by rw [← hr]; rfl⟩
theorem once_step (L : List Bs) (k : Nat) (h : k < L.length) : onceGo [] (L.take (k + 1)) = onceGo [] (L.take k) ++ (if L.getD k [] ∈ onceGo [] (L.take k) then [] else [L.getD k []]) := by
  have e : L.take (k + 1) = L.take k ++ [L.getD k []] := by rw [List.take_succ_eq_append_getElem h]; simp [List.getD, h]
  rw [e, once_snoc]
  congr 1
  by_cases hx : L.getD k [] ∈ L.take k
  · rw [if_pos (.inr hx), if_pos ((once_mem _ _ _).2 ⟨hx, by simp⟩)]
  · rw [if_neg (fun h2 => h2.elim (fun h3 => by simp at h3) hx), if_neg (fun h2 => hx ((once_mem _ _ _).1 h2).1)]

theorem owns_from {H : Type} {P : Program} {k : TypeId} {R : Value → Option (DataW H × List MemPlace)} {w w' : World} {b n B : Nat} {D : DataW H} (h : w.ownsMap P k R b n D) (hk : KeepsFrom B w w') (hb : B ≤ b) : w'.ownsMap P k R b n D := by
  obtain ⟨es, ck, h1, F, hs, hD⟩ := h
  exact ⟨es, ck, hk.same _ _ hb h1 rfl, F, hs, hD⟩

set_option maxHeartbeats 4000000 in
set_option maxRecDepth 100000 in
theorem names1_hands (F : Fence) (n : Nat) (hF : F.fn 90) (hro : F.round = none) (hn : 1 ≤ n) (Bx c : Nat) (ad : Option Addr) (L : List Bs) (w : World) (hc : w.cell? ⟨Bx, 0, none⟩ = some (.slice ad L.length c)) (hs : IsStrs w (.slice ad L.length c) L) (hl : L.length ≤ 1048576) (hz : ∀ x ∈ L, x.length ≤ 1099511627776) :
    Hands F n Tryd.prog 90 #[.pointer (some ⟨Bx, 0, none⟩)] (onceGo [] L) w := by
  intro l J W hW hJ hY h0
  have hmm := @run_makeMap Tryd.prog
  have hbx : W.cell? ⟨Bx, 0, none⟩ = some (.slice ad L.length c) := (hW.cell (p := ⟨Bx, 0, none⟩) (cell_lt (p := ⟨Bx, 0, none⟩) hc)).trans hc
  have hbx2 : (W.alloc (.map #[] 0)).cell? ⟨Bx, 0, none⟩ = some (.slice ad L.length c) := (World.cell?_alloc_lt _ _ _ (cell_lt (p := ⟨Bx, 0, none⟩) hbx)).trans hbx
  have HS := Lib.hid hs
  have HZ := Lib.hid hz
  have HJ := Lib.hid hJ
  have HY := Lib.hid hY
  have HW := Lib.hid hW
  have H0 := Lib.hid h0
  clear hs hz hJ hY hW h0 hc
  refine callsIn_of_wp Tryd.func90 rfl hF ?_ hro
  simp only [Tryd.ntmps90, List.size_toArray, List.length_cons, List.length_nil, Nat.reduceAdd, Nat.reduceSub, Array.replicate_succ, Array.replicate_zero, List.push_toArray, List.append_toArray, List.nil_append, List.cons_append]
  gi_wp2
  gi_loopw [11] (fun vi wr => ∃ k : Nat, k ≤ L.length ∧ vi = .int .i64 k ∧ Hid (wr.ownsMap Tryd.prog 9 (unitElem (H := Unit)) W.heap.size k (setS (onceGo [] (L.take k)))) ∧ Hid (J (onceGo [] (L.take k)) wr) ∧ Hid (Below w.heap.size w wr) ∧ W.heap.size + 1 ≤ wr.heap.size) (fun vi _ => L.length - (RowKit.intOf vi).toNat)
  case atStart => exact ⟨0, Nat.zero_le _, rfl, World.ownsMap_made _ _ _ _, HJ.out.alloc _ H0.out, (HW.out).alloc HW.out.size _, by simp⟩
  case round =>
    obtain ⟨k, hkl, rfl, hM, hJk, hB, hsz⟩ := hrel
    by_cases hk : k < L.length
    · obtain ⟨a', c', ev, hcs⟩ := HS.out
      obtain ⟨rfl, rfl⟩ : ad = a' ∧ c = c' := by cases ev; exact ⟨rfl, rfl⟩
      obtain ⟨b, o, rfl, hcw⟩ := hcs k (L.getD k []) (by simp [List.getD, hk])
      have hcr : wr.cell? ⟨b, o + k, none⟩ = some (.string (mkS (L.getD k []))) := (hB.out.cell (p := ⟨b, o + k, none⟩) (cell_lt (p := ⟨b, o + k, none⟩) hcw)).trans hcw
      have HT := Lib.hid (once_step L k hk)
      have HP := Lib.hid (once_pre L [] (k + 1))
      have hzx : (L.getD k []).length ≤ 1099511627776 := HZ.out _ (by simp [List.getD, hk])
      clear ev hcs hcw hbx hbx2
      generalize L.getD k [] = x at *
      have hkey : keyOf Tryd.prog 9 (.string (mkS x)) = some (.string x) := by
        have h := WideMaps.keyOf_string_mk Tryd.underlying9 (s := mkS x) (by rw [size_mkS]; simp only [maxLen]; omega)
        rw [h]; exact congrArg (fun y => some (Lit.string y)) (bs_mkS x)
      have HK := Lib.hid hkey
      clear hkey
      by_cases hin : x ∈ onceGo [] (L.take k)
      · have hhas : Maps.has (setS (onceGo [] (L.take k))) (.string x) = true := by rw [has_setS, decide_eq_true hin]
        gi_wp2_with (gi_at_lookup; refine wpListIn_lookup_own_unit _ rfl _ _ 102 rfl 9 103 strKeyed Tryd.underlying102 (zeroUnit _) W.heap.size k _ rfl hM.out _ (.string x) rfl HK.out ?_)
        rw [if_pos hin, List.append_nil] at HT
        have e1 := HT.out
        refine ⟨⟨k + 1, hk, by simp, ?_, ?_, hB.out.alloc hB.out.size _, by simp; omega⟩, ?_⟩
        · show World.ownsMap _ _ _ _ _ _ _
          rw [e1]; exact (hM.out.alloc _).mono (Nat.le_succ k)
        · show J _ _
          rw [e1]; exact HJ.out.alloc _ hJk.out
        · simp [RowKit.intOf]; omega
      · have hhas : Maps.has (setS (onceGo [] (L.take k))) (.string x) = false := by rw [has_setS, decide_eq_false hin]
        rw [if_neg hin] at HT
        have HM1 := Lib.hid (hM.out.alloc (Obj.cells #[] 103))
        have HJ1 := Lib.hid (HJ.out.alloc (Obj.cells #[] 103) hJk.out)
        have HB1 := Lib.hid (hB.out.alloc hB.out.size (Obj.cells #[] 103))
        have hbz : W.heap.size < (wr.alloc (Obj.cells #[] 103)).heap.size := by simp; omega
        have hn1 : 1 ≤ n := hn
        gi_wp2_with (first
          | (gi_at_lookup; refine wpListIn_lookup_own_unit _ rfl _ _ 102 rfl 9 103 strKeyed Tryd.underlying102 (zeroUnit _) W.heap.size k _ rfl hM.out _ (.string x) rfl HK.out ?_)
          | (gi_at_mapUpdate; refine wpListIn_mapUpdate_own _ rfl _ _ _ 102 rfl 9 103 strKeyed Tryd.underlying102 unitElem W.heap.size k _ rfl HM1.out (by simp only [maxLen]; omega) _ _ (.string x) rfl rfl HK.out (.agg []) [] unitElem_mk ?_
             intro w1 hown1 hgrow1
             have HM2 := Lib.hid hown1
             have HJ2 := Lib.hid (HJ.out _ _ w1 _ HJ1.out hgrow1 (fun r e => by cases e; obtain ⟨es, ck, hb, -⟩ := HM1.out; exact ⟨Nat.le_refl _, _, hb, rfl⟩))
             have HB2 := Lib.hid (HB1.out.grown hgrow1 HB1.out.size (fun r e => by cases e; exact HW.out.size))
             have hz2 := hgrow1.size
             obtain ⟨fn, tmps, assign, body, hy, hR⟩ := HY.out _ x w1 HJ2.out (by have h2 := HP.out; rw [HT.out] at h2; exact h2)
             clear hown1))
        refine hR.mono ?_
        rintro e W3 ⟨rfl, hJ3, hk3, hf3⟩
        have HJ3 := Lib.hid hJ3
        have HB3 := Lib.hid (HB2.out.trans hk3)
        have hz3 := hf3.size
        have HM3 : Hid (W3.ownsMap Tryd.prog 9 (unitElem (H := Unit)) W.heap.size (k + 1) (setS (onceGo [] (L.take k) ++ [x]))) := by
          rw [setS_snoc]; exact owns_from HM2.out hf3 (Nat.le_refl _)
        clear hJ3 hk3 hf3 hgrow1
        gi_wp2
        have e1 := HT.out
        refine ⟨⟨k + 1, hk, by simp, ?_, ?_, HB3, by omega⟩, ?_⟩
        · rw [e1]; exact HM3
        · rw [e1]; exact HJ3
        · simp [RowKit.intOf]; omega
    · obtain rfl : k = L.length := by omega
      have HJ3 := hJk.out
      rw [List.take_length] at HJ3
      have HJ4 := Lib.hid HJ3
      clear HJ3 hbx hbx2
      gi_wp2
      go_end0
      exact ⟨⟨_, rfl⟩, HJ4.out⟩
end Tk
end Go.Proofs.YtapnlopeipdjmaaDoor
