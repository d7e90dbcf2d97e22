/- law02.names: what Names tells, collected. -/
import Derived.Test.YtapnlopeipdjmaaDoorNmB
import Derived.RangeFuncBox
import Derived.Maps.AppendAt
namespace Go.Proofs.YtapnlopeipdjmaaDoor
open Go.RowKit
namespace Tk

attribute [local go_sem] Oper.semAt_some

theorem isStrs_below {w w' : World} {v : Value} {l : List Bs} (h : IsStrs w v l) (hb : Below w.heap.size w w') : IsStrs w' v l := by
  obtain ⟨a, c, rfl, hc⟩ := h
  refine ⟨a, c, rfl, fun j t hj => ?_⟩
  obtain ⟨b, o, rfl, h2⟩ := hc j t hj
  exact ⟨b, o, rfl, (hb.cell (p := ⟨b, o + j, none⟩) (cell_lt (p := ⟨b, o + j, none⟩) h2)).trans h2⟩

theorem boxed_below {W W' : World} {B : Nat} {t : TypeId} {v : Value} (h : Boxed W B t v) (hb : Below W.heap.size W W') : Boxed W' B t v := (hb.block B h.lt).trans h

theorem seq_notnil (x : Value) (w : World) : Sem.run Tryd.prog (binOp BinOp.eql 86 (.func (.func 90) #[] #[x]) .nilFunc) w = .ok (.bool false) w := by kernel_rfl

theorem own_base1 {w : World} {B B2 n : Nat} {v : Value} {xs : List Value} {e : TypeId} (h : w.ownsRow B e 1 v n xs) (hb : B2 ≤ B) : w.ownsRow B2 e 1 v n xs := by
  refine ⟨h.1, ?_⟩
  rcases h.2 with h2 | ⟨g, cap, cur, hv, hge, h2⟩
  · exact .inl h2
  · exact .inr ⟨g, cap, cur, hv, Nat.le_trans hb hge, h2⟩

/-- what law02.names returns -/
def ListedPost (l : List (Bs × Bs)) (w : World) (e : Ending) (w' : World) : Prop :=
  ∃ v', e = .returned (.tuple #[v', .bool true]) ∧ w'.ownsRow w.heap.size 9 1 v' (namesL l).length (strs (namesL l)) ∧ Below w.heap.size w w'

set_option maxHeartbeats 8000000 in
set_option maxRecDepth 100000 in
theorem lnames_any (v : Value) (l : List (Bs × Bs)) (w : World) (hs : IsFlds w v l) (hz : ∀ f ∈ l, f.1.length ≤ 1099511627776 ∧ f.2.length ≤ 1099511627776) (hl : l.length ≤ 1048576) :
    Calls Tryd.prog 34 #[v] w (ListedPost l w) := by
  obtain ⟨i0, hi0, hz0, hz1, hz2⟩ := info_parts strInfo
  have HS := Lib.hid hs
  have HZ := Lib.hid hz
  obtain ⟨a, cap, rfl⟩ : ∃ a cap, v = .slice a l.length cap := by obtain ⟨a, c, h, -⟩ := hs; exact ⟨a, c, h⟩
  clear hs hz
  have HN : Hid (∀ W, Below w.heap.size w W → CallsIn Fence.wide 4 Tryd.prog 66 #[.slice a l.length cap] W (NamesPost l W)) := fun W hb => callsIn_wide.2 (fnames_any _ l W (isFlds_below HS.out hb) HZ.out hl)
  unfold NamesPost at HN
  refine (callsIn_wide (n := 5)).1 ?_
  refine callsIn_of_wp_marks Tryd.func34 rfl trivial ?_ rfl
  simp only [Tryd.ntmps34, List.size_toArray, List.length_cons, List.length_nil, Nat.reduceAdd, Nat.reduceSub, Array.replicate_succ, Array.replicate_zero, List.push_toArray, List.append_toArray, List.nil_append, List.cons_append]
  gi_wp2_with fail
  have bL := (Boxed.new w 26 (.slice a l.length cap)).alloc (Obj.cells #[.slice none 0 0] 39) |>.alloc (Obj.cells #[.bool false] 4)
  have bR := (Boxed.new (w.alloc (Obj.cells #[.slice a l.length cap] 26)) 39 (.slice none 0 0)).alloc (Obj.cells #[.bool false] 4)
  have bK := Boxed.new ((w.alloc (Obj.cells #[.slice a l.length cap] 26)).alloc (Obj.cells #[.slice none 0 0] 39)) 4 (.bool false)
  simp only [World.size_alloc] at bR bK
  have hb3 : Below w.heap.size w (((w.alloc (Obj.cells #[.slice a l.length cap] 26)).alloc (Obj.cells #[.slice none 0 0] 39)).alloc (Obj.cells #[.bool false] 4)) := (((Below.refl _ _).alloc (Nat.le_refl _) _).alloc (by simp) _).alloc (by simp; omega) _
  generalize ((w.alloc (Obj.cells #[.slice a l.length cap] 26)).alloc (Obj.cells #[.slice none 0 0] 39)).alloc (Obj.cells #[.bool false] 4) = W3 at *
  refine ⟨trivial, (HN.out W3 hb3).mono ?_⟩
  rintro e w1 ⟨g, ad, c, rfl, hc, hst, hb⟩
  have hB1 := hb3.trans (hb.mono hb3.size)
  have BL := Lib.hid (boxed_below bL hb)
  have BR := Lib.hid (boxed_below bR hb)
  have BK := Lib.hid (boxed_below bK hb)
  have HB1 := Lib.hid hB1
  have HC := Lib.hid hc
  have HT := Lib.hid hst
  clear bL bR bK hb3 hb hB1 hc hst
  have hnn := seq_notnil (.pointer (some ⟨g, 0, none⟩))
  gi_wp2_with fail
  have hBw := HB1.out.size
  have hb0 : Below w1.heap.size w1 (w1.alloc (Obj.cells #[.slice none 0 0] 39)) := (Below.refl _ _).alloc (Nat.le_refl _) _
  have l0 := BL.out.lt
  have l1 := BR.out.lt
  have l2 := BK.out.lt
  have hnl := names_len l
  have hLz : ∀ x ∈ lowN l, x.length ≤ 1099511627776 := by
    intro x hx
    unfold lowN at hx
    rw [List.mem_map] at hx
    obtain ⟨f, hf, rfl⟩ := hx
    have := (HZ.out f hf).1
    simpa [lowL] using this
  have hLl : (lowN l).length ≤ 1048576 := by unfold lowN; simpa using hl
  have HH := names1_hands Fence.wide 4 trivial rfl (by decide) g c ad (lowN l) w1 HC.out HT.out hLl hLz
  have HNL := Lib.hid hnl
  clear hLz hLl hnl
  refine range_hands (w0 := w1) hb0 rfl (by decide) (gf := 90) (lb := #[.pointer (some ⟨g, 0, none⟩)]) rfl trivial (enters_of Tryd.func90 (by kernel_rfl) rfl) (namesL l) rfl HH
    (fun pre W => Boxed W w.heap.size 26 (.slice a l.length cap) ∧ Boxed W (w.heap.size + 1) 39 (.slice none 0 0) ∧ Boxed W (w.heap.size + 1 + 1) 4 (.bool false) ∧ (∃ v, Boxed W w1.heap.size 39 v ∧ W.ownsRow w1.heap.size 9 1 v pre.length (strs pre) ∧ True) ∧ Below w.heap.size w W)
    (OwnFrom.and (Own.from (boxed_own _ _ fun _ => _) _) (OwnFrom.and (Own.from (boxed_own _ _ fun _ => _) _) (OwnFrom.and (Own.from (boxed_own _ _ fun _ => _) _) (OwnFrom.and (Own.from (holdsRow_own w1.heap.size w1.heap.size 39 9 1 (fun pre : List Bs => pre.length) (fun pre => strs pre) (fun _ _ => True)) _) (ownFrom_below (Nat.le_refl _) (by simp; omega))))))
    ⟨BL.out.alloc _, BR.out.alloc _, BK.out.alloc _, ⟨_, Boxed.new _ _ _, World.ownsRow_nil _ _ _ _, trivial⟩, HB1.out.alloc hBw _⟩
    (fun x => { tmps := #[.slice a l.length cap, .pointer (some ⟨w.heap.size, 0, none⟩), .pointer (some ⟨w.heap.size + 1, 0, none⟩), .pointer (some ⟨w.heap.size + 1 + 1, 0, none⟩), .func (.func 90) #[] #[.pointer (some ⟨g, 0, none⟩)], .pointer (some ⟨w1.heap.size, 0, none⟩), .string (mkS x), .slice a l.length cap, .func (.func 90) #[] #[.pointer (some ⟨g, 0, none⟩)], .func (.func 90) #[] #[.pointer (some ⟨g, 0, none⟩)], .bool false, .func (.func 90) #[] #[.pointer (some ⟨g, 0, none⟩)], .string (mkS x), undef, undef, undef, undef, undef, undef, undef, undef, undef, undef], defers := [] }) ?assign ?body ?done
  case assign =>
    intro l x W K hK
    gi_wp2
    exact hK
  case body =>
    rintro lp pre x W ⟨h0, h1, h2, ⟨v, hv, hrow, -⟩, hB⟩ hpre
    have hpl : pre.length + 1 ≤ l.length := by
      have h3 := hpre.length_le
      have h4 := HNL.out
      simp at h3
      omega
    obtain ⟨a1, c1, rfl⟩ : ∃ a c, v = .slice a pre.length c := by obtain ⟨a, c, h, -⟩ := isStrs_own hrow; exact ⟨a, c, h⟩
    have hc := hv.cell
    have hc0 := h0.cell
    have hWz := hv.lt
    have hq : ¬ ((l.length : Int) < (pre.length : Int)) := by omega
    have hq2 : ((pre.length : Int) ≤ (l.length : Int)) := by omega
    have H0 := Lib.hid h0
    have H1 := Lib.hid h1
    have H2 := Lib.hid h2
    have HB := Lib.hid hB
    have HRow := Lib.hid hrow
    have HV := Lib.hid hv
    clear h0 h1 h2 hB hrow hv
    gi_wp2_with (gi_at_builtin; refine wpListIn_append_own _ rfl _ _ 39 rfl w1.heap.size 9 i0 (.string .empty) 1 16 Tryd.underlying39 hi0 hz0 hz1 hz2 rfl (by decide) _ _ _ rfl (HRow.out.alloc _) ⟨W.heap.size, 0, none⟩ 1 1 [.string (mkS x)] rfl rfl (cell_one_new _ _ _) (by simp [Value.oneCell']) (by simp only [maxLen]; omega) (by omega) (by simp; omega) ?_; intro v' w4 hown' hgrow _; obtain ⟨g', cap', rfl⟩ := ownsRow_succ hown'; obtain ⟨hv1, hv2, hr2, hk2, hb2⟩ := HV.out.appended (by decide) HRow.out (Nat.le_of_lt hWz) (Nat.le_refl _) hown' hgrow; have hc1 := hv1.cell; have hf1 := hv1.frozen)
    have e1 : strs (pre ++ [x]) = strs pre ++ [.string (mkS x)] := by simp [strs]
    refine ⟨hk2, hb2, (hb2.block _ l0).trans H0.out, (hb2.block _ l1).trans H1.out, (hb2.block _ l2).trans H2.out, ⟨_, hv2, ?_⟩, HB.out.trans (hb2.mono hBw)⟩
    rw [e1]
    exact hr2
  case done =>
    rintro D W hD ⟨h0, h1, h2, ⟨v, hv, hrow, -⟩, hB⟩ hK
    obtain ⟨a1, c1, rfl⟩ : ∃ a c, v = .slice a (namesL l).length c := by obtain ⟨a, c, h, -⟩ := isStrs_own hrow; exact ⟨a, c, h⟩
    have hc := hv.cell
    have hc1 := h1.cell
    have hf1 := h1.frozen
    have hc2 := h2.cell
    have hf2 := h2.frozen
    have H0 := Lib.hid h0
    have H1 := Lib.hid h1
    have H2 := Lib.hid h2
    have HB := Lib.hid hB
    have HRow := Lib.hid hrow
    have HV := Lib.hid hv
    have HK := Lib.hid hK
    clear h0 h1 h2 hB hrow hv hK
    gi_wp2
    have hne1 : w.heap.size + 1 ≠ w.heap.size + 1 + 1 := by omega
    have hDz : w1.heap.size < D := by simp at hD; omega
    have b1 := (H1.out.set (.slice a1 (namesL l).length c1)).other hne1 (.bool true)
    have b2 := (H2.out.other (Ne.symm hne1) (.slice a1 (namesL l).length c1)).set (.bool true)
    have k1 := HRow.out.kept (grownBy_setCell' W (w.heap.size + 1) (.slice a1 (namesL l).length c1)) (.inr (H1.out.not_row (by decide) HRow.out).symm)
    have k2 := k1.kept (grownBy_setCell' _ (w.heap.size + 1 + 1) (.bool true)) (.inr ((H2.out.other (Ne.symm hne1) (.slice a1 (namesL l).length c1)).not_row (by decide) k1).symm)
    have hK2 := ((KeepsOthers.setCell W ⟨w.heap.size + 1, 0, none⟩ (.slice a1 (namesL l).length c1)).trans (KeepsOthers.setCell _ ⟨w.heap.size + 1 + 1, 0, none⟩ (.bool true))).same D _ HK.out rfl
    have hBF := (HB.out.setCell (p := ⟨w.heap.size + 1, 0, none⟩) (Nat.le_succ _) (.slice a1 (namesL l).length c1)).setCell (p := ⟨w.heap.size + 1 + 1, 0, none⟩) (Nat.le_trans (Nat.le_succ _) (Nat.le_succ _)) (.bool true)
    generalize (W.setCell ⟨w.heap.size + 1, 0, none⟩ (.slice a1 (namesL l).length c1)).setCell ⟨w.heap.size + 1 + 1, 0, none⟩ (.bool true) = W5 at *
    have z1 := (b1.kept (grownBy_putObj' W5 D (.deferred none)) (by intro e; injection e with e; omega)).cell
    have z2 := (b2.kept (grownBy_putObj' W5 D (.deferred none)) (by intro e; injection e with e; omega)).cell
    refine ⟨by simp, .inl ⟨_, _, rfl, run_takeDeferred hK2, ?_⟩⟩
    refine ⟨_, ?_, _, rfl, own_base1 (ownsRow_putObj k2 _ hK2 rfl) hBw, hBF.trans (belowK_b (w := w) (Nat.le_refl _) W5 D _ _ (by omega) hK2 rfl rfl)⟩
    simp [results, Tryd.results34, go_sem, z1, z2]
end Tk
end Go.Proofs.YtapnlopeipdjmaaDoor
