/- The law ChunkCuts: its walk. -/
import Derived.Test.YtanilbckakoogaaDoorChkL
import Derived.Test.YtanilbckakoogaaDoorPkT
import Derived.Test.YtanilbckakoogaaDoorArgL
import Derived.Test.YtanilbckakoogaaDoorRefSe
import Derived.Deep.RegionHeld3
namespace Go.Proofs.YtanilbckakoogaaDoor
open Go.RowKit
namespace Tk

theorem LimBox.cell {g : Nat} {L X C M : Int} {w : World} (h : w.heap[g]? = some (.cells #[.int .i64 L, .int .i64 X, .int .i64 C, .int .i64 M] 50 (0, 0))) (i : Nat) (v : Value) (hv : (#[.int .i64 L, .int .i64 X, .int .i64 C, .int .i64 M] : Array Value)[i]? = some v) : w.cell? ⟨g, i, none⟩ = some v := by rw [Lib.cell_of_heap h]; exact hv

/-- two decoders that share nothing -/
def Apart (b : Nat) (vl vb vt : Value) (b2 : Nat) (xl xb xt : Value) : Prop := ∀ k, Mine b2 xl xb xt k → ¬ Mine b vl vb vt k

set_option maxRecDepth 100000 in
set_option maxHeartbeats 4000000 in
theorem cuts_big (L X C M : Int) (t : ByteArray) (v : Value) (l : List Int) (w : World) (hs : IsInts w v l) (hv : ErrV w.heap.size w) (hb : 200 < t.size ∨ (t.size ≤ 200 ∧ 20 < l.length)) :
    Calls Tryd.prog 7 #[.agg #[.int .i64 L, .int .i64 X, .int .i64 C, .int .i64 M], .string t, v] w (Yes2 w) := by
  have h0 : Below w.heap.size w (w.alloc (.cells #[.int .i64 L, .int .i64 X, .int .i64 C, .int .i64 M] 50)) := (Below.refl _ _).alloc (Nat.le_refl _) _
  have HL := Lib.hid (lives05_any _ (hv.later h0).top)
  have HB0 := Lib.hid h0
  obtain ⟨a, cap, rfl⟩ : ∃ a cap, v = .slice a l.length cap := by obtain ⟨a, c, h, -⟩ := hs; exact ⟨a, c, h⟩
  clear hs hv h0
  unfold Yes2 at HL ⊢
  rcases hb with h | ⟨h, h2⟩
  · have i0 : (200 : Int) < (t.size : Int) := by omega
    clear h
    go_enter Tryd.func7, Tryd.ntmps7
    go_wp2_with fail
    refine HL.out.mono ?_
    rintro e w1 ⟨rfl, hb⟩
    have HB1 := Lib.hid (HB0.out.trans (hb.mono HB0.out.size))
    clear hb
    go_wp2_with fail
    go_ret
    exact ⟨rfl, HB1.out⟩
  · have i0 : ¬ (200 : Int) < (t.size : Int) := by omega
    have i1 : (20 : Int) < (l.length : Int) := by omega
    clear h h2
    go_enter Tryd.func7, Tryd.ntmps7
    go_wp2_with fail
    refine HL.out.mono ?_
    rintro e w1 ⟨rfl, hb⟩
    have HB1 := Lib.hid (HB0.out.trans (hb.mono HB0.out.size))
    clear hb
    go_wp2_with fail
    go_ret
    exact ⟨rfl, HB1.out⟩

set_option maxRecDepth 100000 in
set_option maxHeartbeats 16000000 in
theorem cuts_main (L X C M : Int) (t : ByteArray) (v : Value) (l : List Int) (w : World) (hs : IsInts w v l) (hv : ErrV w.heap.size w) (ht : t.size ≤ 200) (hl : l.length ≤ 20) (hL : L ≤ 9223372036854775807) (hX : X ≤ 9223372036854775807) (hC : C ≤ 9223372036854775807) (hM : M ≤ 9223372036854775807) :
    Calls Tryd.prog 7 #[.agg #[.int .i64 L, .int .i64 X, .int .i64 C, .int .i64 M], .string t, v] w (Yes2 w) := by
  have h0 : Below w.heap.size w (w.alloc (.cells #[.int .i64 L, .int .i64 X, .int .i64 C, .int .i64 M] 50)) := (Below.refl _ _).alloc (Nat.le_refl _) _
  have hbx : (w.alloc (.cells #[.int .i64 L, .int .i64 X, .int .i64 C, .int .i64 M] 50)).heap[w.heap.size]? = some (.cells #[.int .i64 L, .int .i64 X, .int .i64 C, .int .i64 M] 50 (0, 0)) := heap_alloc_last w _
  have HBx := Lib.hid hbx
  have HV := Lib.hid (hv.later h0).top
  have HL := Lib.hid (lives05_any _ HV.out)
  have HS := Lib.hid (isInts_below hs h0)
  have HB0 := Lib.hid h0
  have m0 : max L 0 = ((L.toNat : Nat) : Int) := by omega
  have m1 : max X 0 = ((X.toNat : Nat) : Int) := by omega
  have m2 : max C 0 = ((C.toNat : Nat) : Int) := by omega
  have m3 : max M 0 = ((M.toNat : Nat) : Int) := by omega
  have HLim := Lib.hid (show Lim (newD L.toNat X.toNat C.toNat M.toNat) from ⟨by show L.toNat ≤ _; omega, by show X.toNat ≤ _; omega, by show C.toNat ≤ _; omega, by show M.toNat ≤ _; omega⟩)
  have HF0 := Lib.hid (newD_fit L.toNat X.toNat C.toNat M.toNat)
  have HN := Lib.hid (fun (B : Nat) (W : World) (h : B ≤ W.heap.size) => new_any L X C M _ _ _ _ B W h m0 m1 m2 m3)
  have HSt0 := Lib.hid (show (newD L.toNat X.toNat C.toNat M.toNat).bad = 0 ∧ (newD L.toNat X.toNat C.toNat M.toNat).mode = 0 from ⟨rfl, rfl⟩)
  generalize newD L.toNat X.toNat C.toNat M.toNat = s0 at *
  obtain ⟨a, cap, rfl⟩ : ∃ a cap, v = .slice a l.length cap := by obtain ⟨a, c, h, -⟩ := hs; exact ⟨a, c, h⟩
  have i0 : ¬ (200 : Int) < (t.size : Int) := by omega
  have i1 : ¬ (20 : Int) < (l.length : Int) := by omega
  have HLen := Lib.hid (length_bs t)
  clear hs hv h0 hbx m0 m1 m2 m3 hL hX hC hM
  unfold Yes2 at HL ⊢
  go_enter Tryd.func7, Tryd.ntmps7
  go_wp2_with fail
  generalize w.alloc (.cells #[.int .i64 L, .int .i64 X, .int .i64 C, .int .i64 M] 50) = w0 at *
  have HGl := Lib.hid (show w.heap.size < w0.heap.size from (Array.getElem?_eq_some_iff.1 HBx.out).1)
  generalize w.heap.size = g at HBx HGl ⊢
  refine HL.out.mono ?_
  rintro e w1 ⟨rfl, hb⟩
  have HB1 := Lib.hid hb
  have hbx1 := (hb.block g HGl.out).trans HBx.out
  have k0 := LimBox.cell hbx1 0 _ rfl
  have k1 := LimBox.cell hbx1 1 _ rfl
  have k2 := LimBox.cell hbx1 2 _ rfl
  have k3 := LimBox.cell hbx1 3 _ rfl
  have HBx1 := Lib.hid hbx1
  clear hb hbx1
  go_wp2_with fail
  have HNb : Hid (∀ W : World, Below w0.heap.size w0 W → Calls Tryd.prog 36 #[.agg #[.int .i64 L, .int .i64 X, .int .i64 C, .int .i64 M]] W fun e w' => ∃ b, e = .returned (.pointer (some ⟨b, 0, none⟩)) ∧ W.heap.size ≤ b ∧ Dec w0.heap.size b s0 (.slice none 0 0) (.slice none 0 0) (.slice none 0 0) w' ∧ Below w0.heap.size w0 w' ∧ Below W.heap.size W w' ∧
      w'.cell? ⟨g, 0, none⟩ = some (.int .i64 L) ∧ w'.cell? ⟨g, 1, none⟩ = some (.int .i64 X) ∧ w'.cell? ⟨g, 2, none⟩ = some (.int .i64 C) ∧ w'.cell? ⟨g, 3, none⟩ = some (.int .i64 M)) := by
    intro W hW
    refine (HN.out w0.heap.size W hW.size).mono ?_
    rintro e w' ⟨b, rfl, hb, hd, hbel⟩
    have hB := hW.trans (hbel.mono hW.size)
    have hbx := (hB.block g HGl.out).trans HBx.out
    exact ⟨b, rfl, hb, hd, hB, hbel, LimBox.cell hbx 0 _ rfl, LimBox.cell hbx 1 _ rfl, LimBox.cell hbx 2 _ rfl, LimBox.cell hbx 3 _ rfl⟩
  have HNa := Lib.hid (HNb.out w1.drew (HB1.out.trans ⟨rfl, rfl, rfl, Nat.le_refl _, fun _ _ => rfl⟩))
  have d0 : w1.drew.cell? ⟨g, 0, none⟩ = some (.int .i64 L) := k0
  have d1 : w1.drew.cell? ⟨g, 1, none⟩ = some (.int .i64 X) := k1
  have d2 : w1.drew.cell? ⟨g, 2, none⟩ = some (.int .i64 C) := k2
  have d3 : w1.drew.cell? ⟨g, 3, none⟩ = some (.int .i64 M) := k3
  (go_region_held3 (fun w' => w'.cell? ⟨g, 0, none⟩ = some (.int .i64 L) ∧ w'.cell? ⟨g, 1, none⟩ = some (.int .i64 X) ∧ w'.cell? ⟨g, 2, none⟩ = some (.int .i64 C) ∧ w'.cell? ⟨g, 3, none⟩ = some (.int .i64 M)) (first | (refine ⟨?_, ?_, ?_, ?_⟩ <;> assumption)) (first
      | (go_at_call 36; refine HNa.out.mono ?_; rintro e w2 ⟨b1, rfl, hb1, hd1, hB2, hbel1, t0, t1, t2, t3⟩)
      | (go_at_call 36; refine (HNb.out w2 hB2).mono ?_; rintro e w3 ⟨b2, rfl, hb2, hd2, hB3, hbel2, r0, r1, r2, r3⟩)))
  have HB3 := Lib.hid hB3
  have hlt12 : b1 < w2.heap.size := hd1.lt
  have hne : b1 ≠ b2 := by omega
  have HD1 := Lib.hid (hd1.below hbel2)
  have HD2 := Lib.hid hd2
  have HAp := Lib.hid (show ∀ k, Mine b2 (.slice none 0 0) (.slice none 0 0) (.slice none 0 0) k → ¬ Mine b1 (.slice none 0 0) (.slice none 0 0) (.slice none 0 0) k from fun k h1 h2 => by
    rcases h1 with rfl | h1 | h1 | h1
    · rcases h2 with h2 | h2 | h2 | h2
      · exact hne h2.symm
      · cases h2
      · cases h2
      · cases h2
    · cases h1
    · cases h1
    · cases h1)
  clear hd1 hd2 hbel1 hbel2 hB2 hB3 hb1 hb2 hlt12 hne t0 t1 t2 t3 r0 r1 r2 r3 d0 d1 d2 d3 k0 k1 k2 k3 HNa HNb
  go_wp2_with fail
  refine (feed_any t HD1.out 0 HF0.out (by omega) HLim.out (HV.out.later HB3.out)).mono ?_
  unfold FeedPost
  rintro e w4 ⟨rfl, hd4⟩
  have HB4 := Lib.hid (HB3.out.trans (DecTo.below HD1.out hd4))
  obtain ⟨v1, v2, v3, hdA, htA⟩ := hd4
  obtain ⟨hdO, hapO⟩ := HD2.out.other htA HAp.out
  have HDA := Lib.hid hdA
  have HDO := Lib.hid hdO
  have HAp2 := Lib.hid (show ∀ k, Mine b1 v1 v2 v3 k → ¬ Mine b2 (.slice none 0 0) (.slice none 0 0) (.slice none 0 0) k from fun k h1 h2 => hapO k h2 h1)
  have hfA := feedD_fit (bs t) s0 0 HF0.out
  have HFA := Lib.hid hfA
  obtain ⟨nA, hnA⟩ : ∃ n, n = (feedD s0 (bs t)).1 := ⟨_, rfl⟩
  obtain ⟨sA, hsA⟩ : ∃ n, n = (feedD s0 (bs t)).2 := ⟨_, rfl⟩
  have HAll := Lib.hid (show feedD s0 (bs t) = (nA, sA) by rw [hnA, hsA])
  rw [← hsA] at HDA
  rw [← hnA, ← hsA]
  clear hdA htA hdO hapO hfA hnA hsA HD1 HD2 HAp HFA
  go_wp2_with fail
  go_loopw [11, 12, 13] (fun v11 v12 v13 wr => ∃ (i ate : Nat) (so : Dc) (x1 x2 x3 : Value), i ≤ l.length + 1 ∧ ate ≤ t.size ∧ v11 = .int .i64 ate ∧ v12 = .int .i64 so.bad ∧ v13 = .int .i64 i ∧ Hid (Eats s0 ((bs t).take ate) so) ∧ Hid (Dec w0.heap.size b2 so x1 x2 x3 wr) ∧ Hid (Dec w0.heap.size b1 sA v1 v2 v3 wr) ∧ Hid (∀ k, Mine b1 v1 v2 v3 k → ¬ Mine b2 x1 x2 x3 k) ∧ Hid (Below w0.heap.size w0 wr) ∧ Hid (i = l.length + 1 → stopD so = true ∨ ate = t.size)) (fun _ _ v13 _ => l.length + 1 - (RowKit.intOf v13).toNat)
  case atStart => exact ⟨0, 0, s0, _, _, _, Nat.zero_le _, Nat.zero_le _, rfl, by rw [HSt0.out.1]; rfl, rfl, Eats.nil s0, HDO, HDA, HAp2, HB4, fun h => by omega⟩
  case round =>
    obtain ⟨i, ate, so, x1, x2, x3, hi, hate, rfl, rfl, rfl, HE, HDo, HDa, HAp, HB, HSt⟩ := hrel
    rename World => W
    have hfit := eats_fit HF0.out (by rw [HLen.out]; exact hate) HE.out
    have hmode := hfit.mode
    have HFit := Lib.hid hfit
    have HLimo := Lib.hid (HLim.out.eats HE.out)
    have HDn := Lib.hid (done_any HDo.out hmode)
    clear hfit hmode
    by_cases hgo : i ≤ l.length ∧ so.bad = 0 ∧ ¬ so.mode = 5
    · obtain ⟨g1, g2, g3⟩ := hgo
      have hdn := HDn.out
      rw [decide_eq_false g3] at hdn
      have HDn2 := Lib.hid hdn
      have c1 : (i : Int) ≤ (l.length : Int) := by omega
      have c2 : ((so.bad : Int) == 0) = true := by simp [g2]
      clear HDn hdn HSt
      -- the part that is fed
      have hpart : ∀ k : Nat, ate ≤ k → k ≤ t.size → ∀ W' : World, Dec w0.heap.size b2 so x1 x2 x3 W' → Below w0.heap.size w0 W' → Calls Tryd.prog 38 #[.pointer (some ⟨b2, 0, none⟩), .string (t.extract ate k)] W' (FeedPost w0.heap.size b2 so (((bs t).drop ate).take (k - ate)) x1 x2 x3 W') := by
        intro k h1 h2 W' hd hb
        have h := feed_any (t.extract ate k) hd (0 + ate) HFit.out (by rw [ByteArray.size_extract]; omega) HLimo.out (HV.out.later hb)
        rw [bs_extract] at h
        exact h
      have hmore : ∀ k : Nat, ate ≤ k → k ≤ t.size → Eats s0 ((bs t).take (ate + (feedD so (((bs t).drop ate).take (k - ate))).1)) (feedD so (((bs t).drop ate).take (k - ate))).2 ∧ ate + (feedD so (((bs t).drop ate).take (k - ate))).1 ≤ k ∧
          (k = t.size → stopD (feedD so (((bs t).drop ate).take (k - ate))).2 = true ∨ ate + (feedD so (((bs t).drop ate).take (k - ate))).1 = t.size) := fun k h1 h2 => by
        have := eats_more HE.out h1 (by rw [HLen.out]; exact h2)
        rw [HLen.out] at this
        exact this
      have HPart := Lib.hid hpart
      have HMore := Lib.hid hmore
      clear hpart hmore
      go_wp2_with fail
      refine HDn2.out.mono ?_
      rintro e w5 ⟨rfl, rfl⟩
      by_cases hlast : i < l.length
      · obtain ⟨a', c', e', hcells⟩ := HS.out
        injection e' with e1 _ e2
        subst e1 e2
        obtain ⟨bb, o, rfl, hc⟩ := hcells i hlast
        have hcW := (HB.out.cell (p := ⟨bb, o + i, none⟩) (cell_lt hc)).trans hc
        have q0 : (0 : Int) ≤ (i : Int) := by omega
        have q1 : (i : Int) < (l.length : Int) := by omega
        have e1 : (t.size : Int) - (ate : Int) + 1 = ((t.size - ate + 1 : Nat) : Int) := by omega
        have p1 : 1 ≤ t.size - ate + 1 := by omega
        have p2 : t.size - ate + 1 ≤ 1099511627776 := by omega
        have p3 : t.size - ate + 1 + ate = t.size + 1 := by omega
        clear hc hcells
        generalize t.size - ate + 1 = m0 at *
        go_wp2_with fail
        refine (pick_any _ m0 _ p1 p2).mono ?_
        rintro e w6 ⟨k, hk, rfl, rfl⟩
        obtain ⟨K, hK⟩ : ∃ K, K = ate + k := ⟨_, rfl⟩
        have hw : IntKind.i64.wrap ((ate : Int) + (k : Int)) = (K : Int) := by rw [IntWalk.i64_in _ (by omega)]; omega
        have r0 : (0 : Int) ≤ (ate : Int) := by omega
        have r1 : (ate : Int) ≤ (K : Int) := by omega
        have r2 : (K : Int) ≤ (t.size : Int) := by omega
        have r3 : (0 : Int) ≤ (K : Int) := by omega
        have hKt : K ≤ t.size := by omega
        have haK : ate ≤ K := by omega
        clear e1 q0 q1 p1 p2 p3 hk hK
        go_wp2_with fail
        refine (HPart.out K (by omega) (by omega) _ HDo.out HB.out).mono ?_
        have hm := HMore.out K (by omega) (by omega)
        unfold FeedPost
        generalize (feedD so (((bs t).drop ate).take (K - ate))).1 = m at *
        generalize (feedD so (((bs t).drop ate).take (K - ate))).2 = sn at *
        obtain ⟨m1, m2, m3⟩ := hm
        rintro e w7 ⟨rfl, hd7⟩
        have HB7 := Lib.hid (HB.out.trans (DecTo.below HDo.out hd7))
        obtain ⟨y1, y2, y3, hdn, htn⟩ := hd7
        obtain ⟨hda, hap⟩ := HDa.out.other htn HAp.out
        have HX := Lib.hid (⟨hdn, hda, hap⟩ : _ ∧ _ ∧ _)
        have HM1 := Lib.hid m1
        have HM3 := Lib.hid m3
        have n0 : ¬ (m : Int) < 0 := by omega
        have n1 : ¬ (K : Int) - (ate : Int) < (m : Int) := by omega
        clear hdn htn hda hap m1 m3
        go_wp2_with fail
        exact ⟨⟨i + 1, ate + m, sn, y1, y2, y3, by omega, by omega, by go_num, rfl, by go_num, HM1, Lib.hid HX.out.1, Lib.hid HX.out.2.1, Lib.hid HX.out.2.2, HB7, Lib.hid (fun h => absurd h (by omega))⟩, by simp [RowKit.intOf]; omega⟩
      · have hil : i = l.length := by omega
        have c3 : ¬ (i : Int) < (l.length : Int) := by omega
        obtain ⟨K, hK⟩ : ∃ K, K = t.size := ⟨_, rfl⟩
        have r0 : (0 : Int) ≤ (ate : Int) := by omega
        have r1 : (ate : Int) ≤ (t.size : Int) := by omega
        go_wp2_with fail
        rw [← hK]
        refine (HPart.out K (by omega) (by omega) _ HDo.out HB.out).mono ?_
        have hm := HMore.out K (by omega) (by omega)
        unfold FeedPost
        generalize (feedD so (((bs t).drop ate).take (K - ate))).1 = m at *
        generalize (feedD so (((bs t).drop ate).take (K - ate))).2 = sn at *
        obtain ⟨m1, m2, m3⟩ := hm
        rintro e w7 ⟨rfl, hd7⟩
        have HB7 := Lib.hid (HB.out.trans (DecTo.below HDo.out hd7))
        obtain ⟨y1, y2, y3, hdn, htn⟩ := hd7
        obtain ⟨hda, hap⟩ := HDa.out.other htn HAp.out
        have HX := Lib.hid (⟨hdn, hda, hap⟩ : _ ∧ _ ∧ _)
        have HM1 := Lib.hid m1
        have HM3 := Lib.hid m3
        have n0 : ¬ (m : Int) < 0 := by omega
        have n1 : ¬ (K : Int) - (ate : Int) < (m : Int) := by omega
        clear hdn htn hda hap m1 m3
        go_wp2_with fail
        exact ⟨⟨i + 1, ate + m, sn, y1, y2, y3, by omega, by omega, by go_num, rfl, by go_num, HM1, Lib.hid HX.out.1, Lib.hid HX.out.2.1, Lib.hid HX.out.2.2, HB7, Lib.hid (fun _ => HM3.out hK)⟩, by simp [RowKit.intOf]; omega⟩
    · have hstop : stopD so = true ∨ ate = t.size := by
        by_cases h1 : i ≤ l.length
        · by_cases h2 : so.bad = 0
          · by_cases h3 : so.mode = 5
            · exact .inl ((stop_iff so).2 (.inl h3))
            · exact absurd ⟨h1, h2, h3⟩ hgo
          · exact .inl ((stop_iff so).2 (.inr h2))
        · exact HSt.out (by omega)
      have hfin := eats_end (by rw [HLen.out]; exact hate) HE.out (by rw [HLen.out]; exact hstop)
      rw [HAll.out] at hfin
      injection hfin with f1 f2
      subst f1 f2
      have HDa2 := Lib.hid (done_any HDa.out HFit.out.mode)
      have hcase : ((¬ (i : Int) ≤ (l.length : Int)) ∨ ((i : Int) ≤ (l.length : Int) ∧ ((sA.bad : Int) == 0) = false)) ∨ ((i : Int) ≤ (l.length : Int) ∧ ((sA.bad : Int) == 0) = true ∧ sA.mode = 5) := by
        by_cases h1 : i ≤ l.length
        · by_cases h2 : sA.bad = 0
          · by_cases h3 : sA.mode = 5
            · exact .inr ⟨by omega, by simp [h2], h3⟩
            · exact absurd ⟨h1, h2, h3⟩ hgo
          · exact .inl (.inr ⟨by omega, by simp [h2]⟩)
        · exact .inl (.inl (by omega))
      have HTl := Lib.hid (show sA.trl.length ≤ 1048576 ∧ ∀ f ∈ sA.trl, f.1.length ≤ 1099511627776 from ⟨by have := HFit.out.trl; omega, fun f hf => by have := (HFit.out.each f hf).1; omega⟩)
      have HTr1 := Lib.hid (trailers_any HDa.out HTl.out.1)
      have HBo := Lib.hid (body_any HDa.out)
      have HBo2 := Lib.hid (body_any HDo.out)
      have hbq : ((mkS sA.body).toList == (mkS sA.body).toList) = true := by simp
      clear hstop hgo HSt HAll HE HFit HLimo hi hate
      unfold OwnPost at HTr1
      rcases hcase with hc | ⟨c1, c2, c3⟩
      · cases hd : decide (sA.mode = 5)
        · rw [hd] at HDn HDa2
          rcases hc with c1 | ⟨c1, c2⟩
          all_goals
            go_wp2_with fail
            refine HDa2.out.mono ?_
            rintro e w5 ⟨rfl, rfl⟩
            go_wp2_with fail
            refine HDn.out.mono ?_
            rintro e w5 ⟨rfl, rfl⟩
            go_wp2_with fail
            refine HBo.out.mono ?_
            rintro e w5 ⟨rfl, rfl⟩
            go_wp2_with fail
            refine HBo2.out.mono ?_
            rintro e w5 ⟨rfl, rfl⟩
            go_wp2_with fail
            refine HDa2.out.mono ?_
            rintro e w5 ⟨rfl, rfl⟩
            go_wp2_with fail
            go_ret
            exact ⟨rfl, HB0.out.trans (HB.out.mono HB0.out.size)⟩
        · rw [hd] at HDn HDa2
          rcases hc with c1 | ⟨c1, c2⟩
          all_goals
            go_wp2_with fail
            refine HDa2.out.mono ?_
            rintro e w5 ⟨rfl, rfl⟩
            go_wp2_with fail
            refine HDn.out.mono ?_
            rintro e w5 ⟨rfl, rfl⟩
            go_wp2_with fail
            refine HBo.out.mono ?_
            rintro e w5 ⟨rfl, rfl⟩
            go_wp2_with fail
            refine HBo2.out.mono ?_
            rintro e w5 ⟨rfl, rfl⟩
            go_wp2_with fail
            refine HDa2.out.mono ?_
            rintro e w5 ⟨rfl, rfl⟩
            go_wp2_with fail
            refine HTr1.out.mono ?_
            rintro e w6 ⟨z1, rfl, ho1, hz1⟩
            have HI1 := Lib.hid (isFlds_own ho1)
            have HB6 := Lib.hid (HB.out.trans (hz1.mono HB.out.size))
            have HTr2 := Lib.hid (trailers_any (HDo.out.below hz1) HTl.out.1)
            unfold OwnPost at HTr2
            clear ho1 hz1
            go_wp2_with fail
            refine HTr2.out.mono ?_
            rintro e w7 ⟨z2, rfl, ho2, hz2⟩
            have HI2 := Lib.hid (isFlds_own ho2)
            have HI3 := Lib.hid (isFlds_below HI1.out hz2)
            have HB7 := Lib.hid (HB6.out.trans (hz2.mono HB6.out.size))
            clear ho2 hz2
            go_wp2_with fail
            refine (rsame_self z1 z2 sA.trl w7 HI3.out HI2.out HTl.out.2 (by have := HTl.out.1; omega)).mono ?_
            rintro e w8 ⟨rfl, hz3⟩
            have HB8 := Lib.hid (HB7.out.trans (hz3.mono HB7.out.size))
            clear hz3
            go_wp2_with fail
            go_ret
            exact ⟨rfl, HB0.out.trans (HB8.out.mono HB0.out.size)⟩
      · have hd : decide (sA.mode = 5) = true := decide_eq_true c3
        rw [hd] at HDn HDa2
        clear c3 hd
        go_wp2_with fail
        refine HDn.out.mono ?_
        rintro e w5 ⟨rfl, rfl⟩
        go_wp2_with fail
        refine HDa2.out.mono ?_
        rintro e w5 ⟨rfl, rfl⟩
        go_wp2_with fail
        refine HDn.out.mono ?_
        rintro e w5 ⟨rfl, rfl⟩
        go_wp2_with fail
        refine HBo.out.mono ?_
        rintro e w5 ⟨rfl, rfl⟩
        go_wp2_with fail
        refine HBo2.out.mono ?_
        rintro e w5 ⟨rfl, rfl⟩
        go_wp2_with fail
        refine HDa2.out.mono ?_
        rintro e w5 ⟨rfl, rfl⟩
        go_wp2_with fail
        refine HTr1.out.mono ?_
        rintro e w6 ⟨z1, rfl, ho1, hz1⟩
        have HI1 := Lib.hid (isFlds_own ho1)
        have HB6 := Lib.hid (HB.out.trans (hz1.mono HB.out.size))
        have HTr2 := Lib.hid (trailers_any (HDo.out.below hz1) HTl.out.1)
        unfold OwnPost at HTr2
        clear ho1 hz1
        go_wp2_with fail
        refine HTr2.out.mono ?_
        rintro e w7 ⟨z2, rfl, ho2, hz2⟩
        have HI2 := Lib.hid (isFlds_own ho2)
        have HI3 := Lib.hid (isFlds_below HI1.out hz2)
        have HB7 := Lib.hid (HB6.out.trans (hz2.mono HB6.out.size))
        clear ho2 hz2
        go_wp2_with fail
        refine (rsame_self z1 z2 sA.trl w7 HI3.out HI2.out HTl.out.2 (by have := HTl.out.1; omega)).mono ?_
        rintro e w8 ⟨rfl, hz3⟩
        have HB8 := Lib.hid (HB7.out.trans (hz3.mono HB7.out.size))
        clear hz3
        go_wp2_with fail
        go_ret
        exact ⟨rfl, HB0.out.trans (HB8.out.mono HB0.out.size)⟩

theorem cuts_any (L X C M : Int) (t : ByteArray) (v : Value) (l : List Int) (w : World) (hs : IsInts w v l) (hv : ErrV w.heap.size w) (hL : L ≤ 9223372036854775807) (hX : X ≤ 9223372036854775807) (hC : C ≤ 9223372036854775807) (hM : M ≤ 9223372036854775807) :
    Calls Tryd.prog 7 #[.agg #[.int .i64 L, .int .i64 X, .int .i64 C, .int .i64 M], .string t, v] w (Yes2 w) := by
  by_cases h1 : t.size ≤ 200
  · by_cases h2 : l.length ≤ 20
    · exact cuts_main L X C M t v l w hs hv h1 h2 hL hX hC hM
    · exact cuts_big L X C M t v l w hs hv (.inr ⟨h1, by omega⟩)
  · exact cuts_big L X C M t v l w hs hv (.inl (by omega))
end Tk
end Go.Proofs.YtanilbckakoogaaDoor
