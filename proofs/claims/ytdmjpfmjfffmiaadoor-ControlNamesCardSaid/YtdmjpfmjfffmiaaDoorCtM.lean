/- law10.each: what Each tells, collected. -/
import Derived.Test.YtdmjpfmjfffmiaaDoorCtL
import Derived.Maps.OwnIn
import Derived.RangeFuncBox
import Derived.BigQuiet
namespace Go.Proofs.YtdmjpfmjfffmiaaDoor
open Go.RowKit
namespace Tk

attribute [local go_sem] Oper.semAt_some

def pcells (l : List (Bs × Bs)) : List Value := l.flatMap fun f => [.string (mkS f.1), .string (mkS f.2)]
theorem pcells_app (a b : List (Bs × Bs)) : pcells (a ++ b) = pcells a ++ pcells b := by simp [pcells]
theorem pcells_get : ∀ (l : List (Bs × Bs)) (j : Nat) (f : Bs × Bs), l[j]? = some f → (pcells l)[j * 2]? = some (.string (mkS f.1)) ∧ (pcells l)[j * 2 + 1]? = some (.string (mkS f.2))
  | [], j, f, h => by simp at h
  | g :: t, 0, f, h => by
    simp at h; subst h
    exact ⟨by simp [pcells], by simp [pcells]⟩
  | g :: t, j + 1, f, h => by
    have := pcells_get t j f (by simpa using h)
    unfold pcells at *
    rw [List.flatMap_cons, show (j + 1) * 2 = j * 2 + 2 by omega]
    constructor
    · simpa using this.1
    · simpa using this.2
/-- a list of pairs lies at v -/
def IsPrs (w : World) (v : Value) (l : List (Bs × Bs)) : Prop :=
  ∃ (a : Option Addr) (c : Nat), v = .slice a l.length c ∧ l.length ≤ c ∧ ∀ j f, l[j]? = some f → ∃ b o, a = some ⟨b, o, none⟩ ∧ w.cell? ⟨b, o + j * 2, none⟩ = some (.string (mkS f.1)) ∧ w.cell? ⟨b, o + j * 2 + 1, none⟩ = some (.string (mkS f.2))
theorem isPrs_own {w : World} {base : Nat} {v : Value} {l : List (Bs × Bs)} (h : w.ownsRow base 46 2 v l.length (pcells l)) : IsPrs w v l := by
  rcases h.2 with ⟨hv, hn⟩ | ⟨g, cap, cur, hv, hb, hg, hcap, -⟩
  · exact ⟨none, 0, by rw [hv, hn], by omega, fun j t hj => by simp [List.eq_nil_of_length_eq_zero hn] at hj⟩
  · refine ⟨some ⟨g, 0, none⟩, cap, hv, hcap, fun j f hj => ⟨g, 0, rfl, ?_, ?_⟩⟩
    · have := h.cells (g := g) (by rw [hv]; rfl) (j * 2) (.string (mkS f.1)) (pcells_get l j f hj).1
      rw [Go.WideShapes.add_plain] at this
      exact this
    · have := h.cells (g := g) (by rw [hv]; rfl) (j * 2 + 1) (.string (mkS f.2)) (pcells_get l j f hj).2
      rw [Go.WideShapes.add_plain, ← Nat.add_assoc] at this
      exact this
theorem isPrs_below {w w' : World} {v : Value} {l : List (Bs × Bs)} (h : IsPrs w v l) (hb : Below w.heap.size w w') : IsPrs w' v l := by
  obtain ⟨a, c, rfl, hc, h⟩ := h
  refine ⟨a, c, rfl, hc, fun j f hj => ?_⟩
  obtain ⟨b, o, rfl, h1, h2⟩ := h j f hj
  exact ⟨b, o, rfl, (hb.cell (p := ⟨b, o + j * 2, none⟩) (cell_in (p := ⟨b, o + j * 2, none⟩) h1)).trans h1, (hb.cell (p := ⟨b, o + j * 2 + 1, none⟩) (cell_in (p := ⟨b, o + j * 2 + 1, none⟩) h2)).trans h2⟩
theorem own_sameC {W W' : World} {base n size : Nat} {e : TypeId} {v : Value} {xs : List Value} (h : W.ownsRow base e size v n xs) (hk : ∀ k, v.ownBlock = some k → W'.heap[k]? = W.heap[k]?) : W'.ownsRow base e size v n xs := by
  refine ⟨h.1, ?_⟩
  rcases h.2 with h2 | ⟨g, cap, cur, hv, hb, hg, h3⟩
  · exact .inl h2
  · exact .inr ⟨g, cap, cur, hv, hb, (hk g (by rw [hv]; rfl)).trans hg, h3⟩
theorem own_baseC {w : World} {B B2 n size : Nat} {v : Value} {xs : List Value} {e : TypeId} (h : w.ownsRow B e size v n xs) (hb : B2 ≤ B) : w.ownsRow B2 e size v n xs := by
  refine ⟨h.1, ?_⟩
  rcases h.2 with h2 | ⟨g, cap, cur, hv, hge, h2⟩
  · exact .inl h2
  · exact .inr ⟨g, cap, cur, hv, Nat.le_trans hb hge, h2⟩
theorem prInfo : (Tryd.prog.info? 46).map (fun i => (i.zero, i.size, i.bytes)) = some (some (.agg #[.string .empty, .string .empty]), 2, 32) := by kernel_rfl
theorem cell_two_newC (w : World) (x y : Value) (t : TypeId) : ∀ j u, [x, y][j]? = some u → (w.alloc (.cells #[x, y] t)).cell? ((⟨w.heap.size, 0, none⟩ : Addr).add j) = some u := by
  intro j u hj
  match j, hj with
  | 0, hj => simp at hj; subst hj; simp [Addr.add]
  | 1, hj => simp at hj; subst hj; simp [Addr.add]
theorem seq2_notnil (x : Value) (w : World) : Sem.run Tryd.prog (binOp BinOp.eql 78 (.func (.func 96) #[] #[x]) .nilFunc) w = .ok (.bool false) w := by kernel_rfl

/-- what law10.each returns -/
def EachedPost (L : List Bs) (w : World) (e : Ending) (w' : World) : Prop :=
  ∃ v', e = .returned (.tuple #[v', .bool true]) ∧ w'.ownsRow w.heap.size 46 2 v' (pairsL L).length (pcells (pairsL L)) ∧ Below w.heap.size w w'

set_option maxHeartbeats 8000000 in
set_option maxRecDepth 100000 in
theorem leach_any (v : Value) (L : List Bs) (w : World) (hs : IsStrs w v L) (hz : ∀ x ∈ L, x.length ≤ 1000000) (hl : L.length ≤ 1048576) (hn : (pairsL L).length ≤ 700) :
    Calls Tryd.prog 22 #[v] w (EachedPost L w) := by
  obtain ⟨i0, hi0, hz0, hz1, hz2⟩ := info_parts prInfo
  have HS := Lib.hid hs
  have HZ := Lib.hid hz
  obtain ⟨a, cap, rfl⟩ : ∃ a cap, v = .slice a L.length cap := by obtain ⟨a, c, h, -⟩ := hs; exact ⟨a, c, h⟩
  clear hs hz
  have HN : Hid (∀ W, Below w.heap.size w W → CallsIn Fence.wide 4 Tryd.prog 47 #[.slice a L.length cap] W (EachPost L W)) := fun W hb => callsIn_wide.2 (ceach_any _ L W (isStrsC_below HS.out hb) HZ.out hl)
  unfold EachPost at HN
  refine (callsIn_wide (n := 5)).1 ?_
  refine callsIn_of_wp_marks Tryd.func22 rfl trivial ?_ rfl
  simp only [Tryd.ntmps22, List.size_toArray, List.length_cons, List.length_nil, Nat.reduceAdd, Nat.reduceSub, Array.replicate_succ, Array.replicate_zero, List.push_toArray, List.append_toArray, List.nil_append, List.cons_append]
  gi_wp2_with fail
  have bR := (Boxed.new w 40 (.slice none 0 0)).alloc (Obj.cells #[.bool false] 4)
  have bK := Boxed.new (w.alloc (Obj.cells #[.slice none 0 0] 40)) 4 (.bool false)
  simp only [World.size_alloc] at bK
  have hb3 : Below w.heap.size w ((w.alloc (Obj.cells #[.slice none 0 0] 40)).alloc (Obj.cells #[.bool false] 4)) := ((Below.refl _ _).alloc (Nat.le_refl _) _).alloc (by simp) _
  generalize (w.alloc (Obj.cells #[.slice none 0 0] 40)).alloc (Obj.cells #[.bool false] 4) = W3 at *
  refine ⟨trivial, (HN.out W3 hb3).mono ?_⟩
  rintro e w1 ⟨g, ad, c, rfl, hc, hst, hb⟩
  have BR := Lib.hid ((hb.block _ bR.lt).trans bR)
  have BK := Lib.hid ((hb.block _ bK.lt).trans bK)
  have HB1 := Lib.hid (hb3.trans (hb.mono hb3.size))
  have HC := Lib.hid hc
  have HT := Lib.hid hst
  have l1 : w.heap.size < w1.heap.size := Nat.lt_of_lt_of_le bR.lt hb.size
  have l2 : w.heap.size + 1 < w1.heap.size := Nat.lt_of_lt_of_le bK.lt hb.size
  clear bR bK hb3 hb hc hst
  have hnn := seq2_notnil (.pointer (some ⟨g, 0, none⟩))
  gi_wp2_with fail
  have hb0 : Below w1.heap.size w1 (w1.alloc (Obj.cells #[.slice none 0 0] 40)) := (Below.refl _ _).alloc (Nat.le_refl _) _
  have bO := Boxed.new w1 40 (.slice none 0 0)
  have HH := each1_hands g ad c L hl HZ.out
  have hsz2 := World.size_alloc w1 (Obj.cells #[.slice none 0 0] 40)
  generalize w1.alloc (Obj.cells #[.slice none 0 0] 40) = W2 at *
  refine range_m (gf := 96) (lb := #[.pointer (some ⟨g, 0, none⟩)]) rfl (enters_of Tryd.func96 (by kernel_rfl) rfl) (fun _ => rfl) HH
    (fun pre M W => Below w1.heap.size w1 W ∧ ∃ v, Boxed W w1.heap.size 40 v ∧ W.ownsRow w1.heap.size 46 2 v pre.length (pcells pre) ∧ ∀ k, M k ↔ (k = w1.heap.size ∨ v.ownBlock = some k))
    ?known ?abides ?reads (fun k => k = w1.heap.size) ⟨hb0, _, bO, World.ownsRow_nil _ _ _ _, fun k => by simp [Value.ownBlock]⟩
    (fun x => { tmps := #[.slice a L.length cap, undef, .pointer (some ⟨w.heap.size, 0, none⟩), .pointer (some ⟨w.heap.size + 1, 0, none⟩), .func (.func 96) #[] #[.pointer (some ⟨g, 0, none⟩)], .pointer (some ⟨w1.heap.size, 0, none⟩), .string (mkS x.1), .string (mkS x.2), .slice a L.length cap, .func (.func 96) #[] #[.pointer (some ⟨g, 0, none⟩)], .func (.func 96) #[] #[.pointer (some ⟨g, 0, none⟩)], .bool false, .func (.func 96) #[] #[.pointer (some ⟨g, 0, none⟩)], .string (mkS x.1), .string (mkS x.2), undef, undef, undef, undef, undef, undef, undef, undef, undef, undef], defers := [] }) ?assign ?body ?done
  case known =>
    rintro s M W ⟨-, v, hv, hr, hM⟩ k hk
    rcases (hM k).1 hk with rfl | h
    · exact hv.lt
    · exact (hr.lt k h).2
  case abides =>
    rintro s M W W' ⟨h1, v, hv, hr, hM⟩ hm
    exact ⟨below_mine h1 hm (by omega), v, (hm.same _ hv.lt (.inr ((hM _).2 (.inl rfl)))).trans hv, own_sameC hr fun k hk => hm.same k (hr.lt k hk).2 (.inr ((hM k).2 (.inr hk))), hM⟩
  case reads =>
    rintro s M W ⟨h1, -⟩
    exact ⟨(h1.cell (p := ⟨g, 0, none⟩) (cell_in (p := ⟨g, 0, none⟩) HC.out)).trans HC.out, isStrsC_below HT.out h1⟩
  case assign =>
    intro l m x W K hK
    unfold pairE
    gi_wp2
    exact hK
  case body =>
    rintro lp m pre x M W ⟨hB, v, hv, hrow, hM⟩ hpre
    have hpl : pre.length + 1 ≤ 700 := by
      have h3 := hpre.length_le
      simp at h3
      omega
    obtain ⟨a1, c1, rfl⟩ : ∃ a c, v = .slice a pre.length c := by obtain ⟨a, c, h, -⟩ := isPrs_own hrow; exact ⟨a, c, h⟩
    obtain ⟨n, t⟩ := x
    have hc := hv.cell
    have hWz := hv.lt
    have hq : ¬ ((700 : Int) < (pre.length : Int)) := by omega
    have HB := Lib.hid hB
    have HRow := Lib.hid hrow
    have HV := Lib.hid hv
    have HM := Lib.hid hM
    clear hB hrow hv hM hb0 bO HH
    gi_wp2_with (gi_at_builtin; refine wpListIn_append_own_at _ rfl _ _ 40 rfl w1.heap.size 46 i0 (.agg #[.string .empty, .string .empty]) 2 32 Tryd.underlying40 hi0 hz0 hz1 hz2 rfl (by decide) _ _ _ rfl (HRow.out.alloc _) ⟨W.heap.size, 0, none⟩ 1 1 [.string (mkS n), .string (mkS t)] rfl rfl (cell_two_newC _ _ _ _) (by simp [Value.oneCell']) (by simp only [maxLen]; omega) (by omega) (by simp; omega) ?_; intro v' w4 hown' hgrow _ hat; obtain ⟨g', cap', rfl⟩ := ownsRow_succ hown'; obtain ⟨hv1, hv2, hr2, hk2, hb2⟩ := HV.out.appended (by decide) HRow.out (Nat.le_of_lt hWz) (Nat.le_refl _) hown' hgrow; have hc1 := hv1.cell; have hf1 := hv1.frozen)
    have e1 : pcells (pre ++ [(n, t)]) = pcells pre ++ [.string (mkS n), .string (mkS t)] := by rw [pcells_app]; rfl
    refine ⟨fun k => k = w1.heap.size ∨ Value.ownBlock (.slice (some ⟨g', 0, none⟩) (pre.length + 1) cap') = some k, ⟨HB.out.trans hb2, _, hv2, ?_, fun _ => Iff.rfl⟩, hb2.size, ?_, ?_⟩
    · rw [e1, List.length_append]
      exact hr2
    · intro k hk hnk
      have n1 : k ≠ w1.heap.size := fun e => hnk ((HM.out k).2 (.inl e))
      have n2 : some k ≠ Value.ownBlock (.slice a1 pre.length c1) := fun e => hnk ((HM.out k).2 (.inr e.symm))
      have e2 := hgrow.block k (by simp; omega) n2
      have e3 := ((grownBy_setCell' w4 w1.heap.size (.slice (some ⟨g', 0, none⟩) (pre.length + 1) cap')).block k (Nat.lt_of_lt_of_le (by simp; omega) hgrow.size) (by intro e; injection e with e; exact n1 e))
      exact e3.trans (e2.trans ((below_allocC W _).block k hk))
    · rintro k (rfl | h)
      · exact .inl ((HM.out _).2 (.inl rfl))
      · rcases hat with h2 | h2
        · exact .inl ((HM.out _).2 (.inr (h2.symm.trans h)))
        · rw [h2] at h
          injection h with h
          right
          rw [← h]
          simp
  case done =>
    rintro D M W hD hMD ⟨hB, v, hv, hrow, hM⟩ hd
    obtain ⟨a1, c1, rfl⟩ : ∃ a c, v = .slice a (pairsL L).length c := by obtain ⟨a, c, h, -⟩ := isPrs_own hrow; exact ⟨a, c, h⟩
    have hc := hv.cell
    have h1 : Boxed W w.heap.size 40 (.slice none 0 0) := (hB.block _ l1).trans BR.out
    have h2 : Boxed W (w.heap.size + 1) 4 (.bool false) := (hB.block _ l2).trans BK.out
    have hc1 := h1.cell
    have hf1 := h1.frozen
    have hc2 := h2.cell
    have hf2 := h2.frozen
    have H1 := Lib.hid h1
    have H2 := Lib.hid h2
    have HB := Lib.hid (HB1.out.trans (hB.mono HB1.out.size))
    have HRow := Lib.hid hrow
    have HD := Lib.hid hd
    clear h1 h2 hB hrow hv hM hd hb0 bO HH hMD
    gi_wp2_with fail
    have hne1 : w.heap.size ≠ w.heap.size + 1 := by omega
    have hDz : w1.heap.size < D := by omega
    have b1 := (H1.out.set (.slice a1 (pairsL L).length c1)).other hne1 (.bool true)
    have b2 := (H2.out.other (Ne.symm hne1) (.slice a1 (pairsL L).length c1)).set (.bool true)
    have k1 := HRow.out.kept (grownBy_setCell' W w.heap.size (.slice a1 (pairsL L).length c1)) (.inr (H1.out.not_row (by decide) HRow.out).symm)
    have k2 := k1.kept (grownBy_setCell' _ (w.heap.size + 1) (.bool true)) (.inr ((H2.out.other (Ne.symm hne1) (.slice a1 (pairsL L).length c1)).not_row (by decide) k1).symm)
    have hK2 := ((KeepsOthers.setCell W ⟨w.heap.size, 0, none⟩ (.slice a1 (pairsL L).length c1)).trans (KeepsOthers.setCell _ ⟨w.heap.size + 1, 0, none⟩ (.bool true))).same D _ HD.out rfl
    have hBF := (HB.out.setCell (p := ⟨w.heap.size, 0, none⟩) (Nat.le_refl _) (.slice a1 (pairsL L).length c1)).setCell (p := ⟨w.heap.size + 1, 0, none⟩) (Nat.le_succ _) (.bool true)
    generalize (W.setCell ⟨w.heap.size, 0, none⟩ (.slice a1 (pairsL L).length c1)).setCell ⟨w.heap.size + 1, 0, none⟩ (.bool true) = W5 at *
    have z1 := (b1.kept (grownBy_putObj' W5 D (.deferred none)) (by intro e; injection e with e; omega)).cell
    have z2 := (b2.kept (grownBy_putObj' W5 D (.deferred none)) (by intro e; injection e with e; omega)).cell
    refine ⟨by simp, .inl ⟨_, _, rfl, run_takeDeferred hK2, ?_⟩⟩
    refine ⟨_, ?_, _, rfl, own_baseC (ownsRow_putObj k2 _ hK2 rfl) (by omega), hBF.trans (belowK_b (w := w) (Nat.le_refl _) W5 D _ _ (by omega) hK2 rfl rfl)⟩
    simp [results, Tryd.results22, go_sem, z1, z2]
end Tk
end Go.Proofs.YtdmjpfmjfffmiaaDoor
