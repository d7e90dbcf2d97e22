/- The law ChunkStays: its walk. -/
import Derived.Test.YtanilbckakoogaaDoorChkL
import Derived.Test.YtanilbckakoogaaDoorLtT
import Derived.Test.YtanilbckakoogaaDoorFldS
namespace Go.Proofs.YtanilbckakoogaaDoor
open Go.RowKit
namespace Tk

theorem isStrs_belowS {w w' : World} {v : Value} {l : List Bs} (h : IsStrs w v l) (hb : Below w.heap.size w w') : IsStrs w' v l := by
  obtain ⟨a, c, rfl, hc⟩ := h
  refine ⟨a, c, rfl, fun j t hj => ?_⟩
  obtain ⟨b, o, rfl, h1⟩ := hc j t hj
  exact ⟨b, o, rfl, (hb.cell (p := ⟨b, o + j, none⟩) (cell_lt h1)).trans h1⟩

/-- the box of the limits -/
def BoxL (g : Nat) (L X C M : Int) (w : World) : Prop := w.heap[g]? = some (.cells #[.int .i64 L, .int .i64 X, .int .i64 C, .int .i64 M] 50 (0, 0))
theorem BoxL.cell {g : Nat} {L X C M : Int} {w : World} (h : BoxL g L X C M w) (i : Nat) (v : Value) (hv : (#[.int .i64 L, .int .i64 X, .int .i64 C, .int .i64 M] : Array Value)[i]? = some v) : w.cell? ⟨g, i, none⟩ = some v := by rw [Lib.cell_of_heap h]; exact hv
theorem BoxL.later {g B : Nat} {L X C M : Int} {w w' : World} (h : BoxL g L X C M w) (hb : Below B w w') (hg : g < B) : BoxL g L X C M w' := (hb.block g hg).trans h

set_option maxRecDepth 100000 in
set_option maxHeartbeats 4000000 in
theorem stays_big (L X C M : Int) (v : Value) (l : List Bs) (w : World) (hs : IsStrs w v l) (hz : ∀ x ∈ l, x.length ≤ 140737488351232) (hl : l.length ≤ 140737488351232) (hv : ErrV w.heap.size w) (hb : lightX 20 200 l = false) :
    Calls Tryd.prog 6 #[.agg #[.int .i64 L, .int .i64 X, .int .i64 C, .int .i64 M], v] w (Yes2 w) := by
  have h0 : Below w.heap.size w (w.alloc (.cells #[.int .i64 L, .int .i64 X, .int .i64 C, .int .i64 M] 50)) := (Below.refl _ _).alloc (Nat.le_refl _) _
  have HL := Lib.hid (lives05_any _ (hv.later h0).top)
  have HS := Lib.hid (isStrs_belowS hs h0)
  have HB0 := Lib.hid h0
  have HG := Lib.hid (fun (W : World) (h : IsStrs W v l) => lightX_any 20 200 v l W (by decide) (by decide) h hz hl)
  obtain ⟨a, cap, rfl⟩ : ∃ a cap, v = .slice a l.length cap := by obtain ⟨a, c, h, -⟩ := hs; exact ⟨a, c, h⟩
  rw [hb] at HG
  clear hs hz hl hv hb h0
  unfold Yes2 at HL ⊢
  go_enter Tryd.func6, Tryd.ntmps6
  go_wp2_with fail
  refine HL.out.mono ?_
  rintro e w1 ⟨rfl, hb⟩
  have HS1 := Lib.hid (isStrs_belowS HS.out hb)
  have HB1 := Lib.hid (HB0.out.trans (hb.mono HB0.out.size))
  clear hb
  go_wp2_with fail
  refine (HG.out _ HS1.out).mono ?_
  rintro e w2 ⟨rfl, rfl⟩
  go_wp2_with fail
  go_ret
  exact ⟨rfl, HB1.out⟩

set_option maxRecDepth 100000 in
set_option maxHeartbeats 16000000 in
theorem stays_main (L X C M : Int) (v : Value) (l : List Bs) (w : World) (hs : IsStrs w v l) (hv : ErrV w.heap.size w) (hb : lightX 20 200 l = true) (hL : L ≤ 9223372036854775807) (hX : X ≤ 9223372036854775807) (hC : C ≤ 9223372036854775807) (hM : M ≤ 9223372036854775807) :
    Calls Tryd.prog 6 #[.agg #[.int .i64 L, .int .i64 X, .int .i64 C, .int .i64 M], v] w (Yes2 w) := by
  obtain ⟨l20, leach⟩ := lightX_parts 20 200 l hb
  have h0 : Below w.heap.size w (w.alloc (.cells #[.int .i64 L, .int .i64 X, .int .i64 C, .int .i64 M] 50)) := (Below.refl _ _).alloc (Nat.le_refl _) _
  have hbx : BoxL w.heap.size L X C M (w.alloc (.cells #[.int .i64 L, .int .i64 X, .int .i64 C, .int .i64 M] 50)) := heap_alloc_last w _
  have HBx := Lib.hid hbx
  have HV := Lib.hid (hv.later h0).top
  have HL := Lib.hid (lives05_any _ HV.out)
  have HS := Lib.hid (isStrs_belowS hs h0)
  have HB0 := Lib.hid h0
  have hg := fun (W : World) (h : IsStrs W v l) => lightX_any 20 200 v l W (by decide) (by decide) h (fun x hx => by have := leach x hx; omega) (by omega)
  rw [hb] at hg
  have HG := Lib.hid hg
  have HEach := Lib.hid leach
  have m0 : max L 0 = ((L.toNat : Nat) : Int) := by omega
  have m1 : max X 0 = ((X.toNat : Nat) : Int) := by omega
  have m2 : max C 0 = ((C.toNat : Nat) : Int) := by omega
  have m3 : max M 0 = ((M.toNat : Nat) : Int) := by omega
  have HLim := Lib.hid (show Lim (newD L.toNat X.toNat C.toNat M.toNat) from ⟨by show L.toNat ≤ _; omega, by show X.toNat ≤ _; omega, by show C.toNat ≤ _; omega, by show M.toNat ≤ _; omega⟩)
  have HM := Lib.hid (show (newD L.toNat X.toNat C.toNat M.toNat).M = M.toNat from rfl)
  have HF0 := Lib.hid (newD_fit L.toNat X.toNat C.toNat M.toNat)
  have hbad0 : (newD L.toNat X.toNat C.toNat M.toNat).bad = 0 := rfl
  have HBad0 := Lib.hid hbad0
  have HN := Lib.hid (fun (B : Nat) (W : World) (h : B ≤ W.heap.size) => new_any L X C M _ _ _ _ B W h m0 m1 m2 m3)
  have HMx := Lib.hid m3
  generalize newD L.toNat X.toNat C.toNat M.toNat = s0 at *
  obtain ⟨a, cap, rfl⟩ : ∃ a cap, v = .slice a l.length cap := by obtain ⟨a, c, h, -⟩ := hs; exact ⟨a, c, h⟩
  clear hs hv hb h0 hbx hg leach m0 m1 m2 m3 hL hX hC hM hbad0
  have hmx : (0 : Int) ≤ max 0 M := by omega
  unfold Yes2 at HL ⊢
  go_enter Tryd.func6, Tryd.ntmps6
  go_wp2_with fail
  generalize w.alloc (.cells #[.int .i64 L, .int .i64 X, .int .i64 C, .int .i64 M] 50) = w0 at *
  have HGl := Lib.hid (show w.heap.size < w0.heap.size by
    have h := HBx.out
    unfold BoxL at h
    exact (Array.getElem?_eq_some_iff.1 h).1)
  generalize w.heap.size = g at HBx HGl ⊢
  refine HL.out.mono ?_
  rintro e w1 ⟨rfl, hb⟩
  have HB1 := Lib.hid hb
  clear hb
  go_wp2_with fail
  refine (HG.out _ (isStrs_belowS HS.out HB1.out)).mono ?_
  rintro e w2 ⟨rfl, rfl⟩
  have k0 := (HBx.out.later HB1.out HGl.out).cell 0 _ rfl
  have k1 := (HBx.out.later HB1.out HGl.out).cell 1 _ rfl
  have k2 := (HBx.out.later HB1.out HGl.out).cell 2 _ rfl
  have k3 := (HBx.out.later HB1.out HGl.out).cell 3 _ rfl
  go_wp2_with fail
  refine (HN.out w0.heap.size _ HB1.out.size).mono ?_
  rintro e w2 ⟨b, rfl, hb, hd, hbel⟩
  have HB2 := Lib.hid (HB1.out.trans (hbel.mono HB1.out.size))
  have HD2 := Lib.hid hd
  clear hb hd hbel k0 k1 k2 k3
  unfold ptr
  go_wp2_with fail
  go_loopw [6, 7] (fun v6 v7 wr => ∃ (i : Nat) (si : Dc) (u1 u2 u3 : Value), i ≤ l.length ∧ v7 = .int .i64 i ∧ v6 = .int .i64 si.bad ∧ Hid (Dec w0.heap.size b si u1 u2 u3 wr) ∧ Hid (Below w0.heap.size w0 wr) ∧ Hid (si.Fit (i * 200) ∧ Lim si ∧ si.M = M.toNat)) (fun _ v7 _ => l.length - (RowKit.intOf v7).toNat)
  case atStart => exact ⟨0, s0, _, _, _, Nat.zero_le _, rfl, by rw [HBad0.out]; rfl, HD2, HB2, ⟨by simpa using HF0.out, HLim.out, HM.out⟩⟩
  case round =>
    obtain ⟨i, si, u1, u2, u3, hi, rfl, rfl, HD, HB, HI⟩ := hrel
    rename World => W
    by_cases hlt : i < l.length
    · obtain ⟨a', c', e', hcells⟩ := HS.out
      injection e' with e1 _ e2
      subst e1 e2
      obtain ⟨bb, o, rfl, hcell⟩ := hcells i (l.getD i []) (by simp [List.getD, hlt])
      have hx := HEach.out (l.getD i []) (by simp [List.getD, hlt])
      have hblk := cell_lt hcell
      have hcW : W.cell? ⟨bb, o + i, none⟩ = some (.string (mkS (l.getD i []))) := (HB.out.cell (p := ⟨bb, o + i, none⟩) hblk).trans hcell
      have HCell := Lib.hid (fun (W' : World) (h : Below w0.heap.size w0 W') => (h.cell (p := ⟨bb, o + i, none⟩) hblk).trans hcell)
      clear hcells hcell hblk
      obtain ⟨hfit, hlim, hsM⟩ := HI.out
      have hfd := feed_any (mkS (l.getD i [])) HD.out (i * 200) hfit (by rw [size_mkS]; omega) hlim (HV.out.later HB.out)
      rw [bs_mkS] at hfd
      have hsz : (mkS (l.getD i [])).size = (l.getD i []).length := size_mkS _
      have hle := feedD_le (l.getD i []) si
      have hall := feedD_all (l.getD i []) si
      have hb1 := feed_bad si (l.getD i [])
      have hb5 := feed_end si (l.getD i [])
      have hfit2 := (feedD_fit (l.getD i []) si _ hfit).mono (show i * 200 + (l.getD i []).length ≤ (i + 1) * 200 by omega)
      have hlim2 := hlim.feed (l.getD i [])
      have hM2 := (feedD_lim (l.getD i []) si).2.2.2.trans hsM
      have hroom := hfit2.room
      have hmode2 := hfit2.mode
      have hmode := hfit.mode
      have HI2 := Lib.hid (⟨hfit2, hlim2, hM2⟩ : _ ∧ _ ∧ _)
      unfold FeedPost at hfd
      have hcase : (si.bad ≠ 0 ∧ (feedD si (l.getD i [])).1 = 0 ∧ (feedD si (l.getD i [])).2.bad = si.bad ∧ (feedD si (l.getD i [])).2.mode = si.mode) ∨ (si.bad = 0 ∧ si.mode = 5 ∧ (feedD si (l.getD i [])).1 = 0 ∧ (feedD si (l.getD i [])).2.bad = 0 ∧ (feedD si (l.getD i [])).2.mode = 5) ∨
          (si.bad = 0 ∧ ¬ si.mode = 5 ∧ (((feedD si (l.getD i [])).2.bad = 0 ∧ (feedD si (l.getD i [])).2.mode = 5) ∨ ((feedD si (l.getD i [])).2.bad = 0 ∧ ¬ (feedD si (l.getD i [])).2.mode = 5 ∧ (feedD si (l.getD i [])).1 = (l.getD i []).length) ∨ ((feedD si (l.getD i [])).2.bad ≠ 0))) := by
        by_cases h1 : si.bad = 0
        · by_cases h2 : si.mode = 5
          · refine .inr (.inl ⟨h1, h2, ?_⟩)
            rw [hb5 h2]; exact ⟨rfl, h1, h2⟩
          · refine .inr (.inr ⟨h1, h2, ?_⟩)
            by_cases h3 : (feedD si (l.getD i [])).2.bad = 0
            · by_cases h4 : (feedD si (l.getD i [])).2.mode = 5
              · exact .inl ⟨h3, h4⟩
              · exact .inr (.inl ⟨h3, h4, hall ((stop_false _).2 ⟨h4, h3⟩)⟩)
            · exact .inr (.inr h3)
        · refine .inl ⟨h1, ?_⟩
          rw [hb1 h1]; exact ⟨rfl, rfl, rfl⟩
      have hbody : ¬ max (0 : Int) M < ((mkS (feedD si (l.getD i [])).2.body).size : Int) := by
        rw [size_mkS]
        have := HMx.out
        omega
      have HDn := Lib.hid (done_any HD.out hmode)
      have HFd := Lib.hid hfd
      have HM2 := Lib.hid hmode2
      clear hfd hall hb1 hb5 hfit2 hlim2 hM2 hroom hmode hmode2 hfit hlim hsM
      generalize (feedD si (l.getD i [])).1 = N at *
      generalize (feedD si (l.getD i [])).2 = sn at *
      rw [← hsz] at hle hcase hx
      generalize mkS (l.getD i []) = sx at *
      clear hsz
      have g0 : (0 : Int) ≤ (i : Int) := by omega
      have g1 : (i : Int) < (l.length : Int) := by omega
      have n0 : ¬ (N : Int) < 0 := by omega
      have n1 : ¬ (sx.size : Int) < (N : Int) := by omega
      have HCase := Lib.hid hcase
      have HN0 := Lib.hid (show decide ((N : Int) < 0) = false from decide_eq_false n0)
      have HN1 := Lib.hid (show decide (sx.size < N) = false from decide_eq_false (by omega))
      have HN2 := Lib.hid (show decide (max (0 : Int) M < ((mkS sn.body).size : Int)) = false from decide_eq_false hbody)
      clear hcase hle
      go_wp2_with fail
      refine HDn.out.mono ?_
      rintro e w3 ⟨rfl, rfl⟩
      go_wp2_with fail
      refine HFd.out.mono ?_
      rintro e w4 ⟨rfl, hd4⟩
      have HB4 := Lib.hid (HB.out.trans (DecTo.below HD.out hd4))
      obtain ⟨v1, v2, v3, hd, -⟩ := hd4
      have HD4 := Lib.hid hd
      have hc4 := HCell.out _ HB4.out
      have k3 := (HBx.out.later HB4.out HGl.out).cell 3 _ rfl
      clear hd HDn HFd hcW
      have HDn4 := Lib.hid (fun n : Nat => done_any (HD4.out.draws n) HM2.out)
      have HNx := Lib.hid hx
      clear hx
      have hcase := HCase.out
      clear HCase
      generalize hd1 : decide (si.mode = 5) = d1 at *
      generalize hd2 : decide (sn.mode = 5) = d2 at *
      have hcase2 : (((si.bad : Int) != 0) = true ∧ ((N : Int) != 0) = false ∧ ((sn.bad : Int) != (si.bad : Int)) = false ∧ ((sn.bad : Int) == 0) = false ∧ ((d1 = true ∧ d2 = true) ∨ (d1 = false ∧ d2 = false))) ∨
          (((si.bad : Int) != 0) = false ∧ d1 = true ∧ ((N : Int) != 0) = false ∧ ((sn.bad : Int) == 0) = true ∧ d2 = true) ∨
          (((si.bad : Int) != 0) = false ∧ d1 = false ∧ ((((sn.bad : Int) == 0) = true ∧ d2 = true) ∨ (((sn.bad : Int) == 0) = true ∧ d2 = false ∧ ((N : Int) != (sx.size : Int)) = false) ∨ ((sn.bad : Int) == 0) = false)) := by
        subst hd1 hd2
        rcases hcase with ⟨c1, c2, c3, c4⟩ | ⟨c1, c2, c3, c4, c5⟩ | ⟨c1, c2, ⟨c3, c4⟩ | ⟨c3, c4, c5⟩ | c3⟩
        · refine .inl ⟨by simp [c1], by simp [c2], by simp [c3], by simp [c3, c1], ?_⟩
          rw [c4]
          by_cases h5 : si.mode = 5
          · exact .inl ⟨decide_eq_true h5, decide_eq_true h5⟩
          · exact .inr ⟨decide_eq_false h5, decide_eq_false h5⟩
        · exact .inr (.inl ⟨by simp [c1], decide_eq_true c2, by simp [c3], by simp [c4], decide_eq_true c5⟩)
        · exact .inr (.inr ⟨by simp [c1], decide_eq_false c2, .inl ⟨by simp [c3], decide_eq_true c4⟩⟩)
        · exact .inr (.inr ⟨by simp [c1], decide_eq_false c2, .inr (.inl ⟨by simp [c3], decide_eq_false c4, by simp [c5]⟩)⟩)
        · exact .inr (.inr ⟨by simp [c1], decide_eq_false c2, .inr (.inr (by simp [c3]))⟩)
      clear hcase hd1 hd2
      rcases hcase2 with ⟨c1, c2, c3, c4, ⟨rfl, rfl⟩ | ⟨rfl, rfl⟩⟩ | ⟨c1, rfl, c2, c3, rfl⟩ | ⟨c1, rfl, ⟨c3, rfl⟩ | ⟨c3, rfl, c5⟩ | c3⟩
      · go_wp2_with fail
        have q0 := HN0.out
        have q1 := HN1.out
        have q2 := HN2.out
        go_quiet (first | (go_at_call 41; refine Calls.quiet_of_same (body_any (HD4.out.draws _))) | (go_at_call 40; refine Calls.quiet_of_same (HDn4.out _)))
        go_wp2_with fail
        exact ⟨⟨i + 1, sn, v1, v2, v3, hlt, by go_num, rfl, Lib.hid (HD4.out.draws _), Lib.hid (HB4.out.trans ⟨rfl, rfl, rfl, Nat.le_refl _, fun _ _ => rfl⟩), HI2⟩, by simp [RowKit.intOf]; omega⟩
      · go_wp2_with fail
        have q0 := HN0.out
        have q1 := HN1.out
        have q2 := HN2.out
        go_quiet (first | (go_at_call 41; refine Calls.quiet_of_same (body_any (HD4.out.draws _))) | (go_at_call 40; refine Calls.quiet_of_same (HDn4.out _)))
        go_wp2_with fail
        exact ⟨⟨i + 1, sn, v1, v2, v3, hlt, by go_num, rfl, Lib.hid (HD4.out.draws _), Lib.hid (HB4.out.trans ⟨rfl, rfl, rfl, Nat.le_refl _, fun _ _ => rfl⟩), HI2⟩, by simp [RowKit.intOf]; omega⟩
      · go_wp2_with fail
        have q0 := HN0.out
        have q1 := HN1.out
        have q2 := HN2.out
        go_quiet (first | (go_at_call 41; refine Calls.quiet_of_same (body_any (HD4.out.draws _))) | (go_at_call 40; refine Calls.quiet_of_same (HDn4.out _)))
        go_wp2_with fail
        refine (HDn4.out _).mono ?_
        rintro e w5 ⟨rfl, rfl⟩
        go_wp2_with fail
        exact ⟨⟨i + 1, sn, v1, v2, v3, hlt, by go_num, rfl, Lib.hid (HD4.out.draws _), Lib.hid (HB4.out.trans ⟨rfl, rfl, rfl, Nat.le_refl _, fun _ _ => rfl⟩), HI2⟩, by simp [RowKit.intOf]; omega⟩
      · go_wp2_with fail
        have q0 := HN0.out
        have q1 := HN1.out
        have q2 := HN2.out
        go_quiet (first | (go_at_call 41; refine Calls.quiet_of_same (body_any (HD4.out.draws _))) | (go_at_call 40; refine Calls.quiet_of_same (HDn4.out _)))
        go_wp2_with fail
        refine (HDn4.out _).mono ?_
        rintro e w5 ⟨rfl, rfl⟩
        go_wp2_with fail
        exact ⟨⟨i + 1, sn, v1, v2, v3, hlt, by go_num, rfl, Lib.hid (HD4.out.draws _), Lib.hid (HB4.out.trans ⟨rfl, rfl, rfl, Nat.le_refl _, fun _ _ => rfl⟩), HI2⟩, by simp [RowKit.intOf]; omega⟩
      · go_wp2_with fail
        have q0 := HN0.out
        have q1 := HN1.out
        have q2 := HN2.out
        go_quiet (first | (go_at_call 41; refine Calls.quiet_of_same (body_any (HD4.out.draws _))) | (go_at_call 40; refine Calls.quiet_of_same (HDn4.out _)))
        go_wp2_with fail
        refine (HDn4.out _).mono ?_
        rintro e w5 ⟨rfl, rfl⟩
        go_wp2_with fail
        exact ⟨⟨i + 1, sn, v1, v2, v3, hlt, by go_num, rfl, Lib.hid (HD4.out.draws _), Lib.hid (HB4.out.trans ⟨rfl, rfl, rfl, Nat.le_refl _, fun _ _ => rfl⟩), HI2⟩, by simp [RowKit.intOf]; omega⟩
      · go_wp2_with fail
        have q0 := HN0.out
        have q1 := HN1.out
        have q2 := HN2.out
        go_quiet (first | (go_at_call 41; refine Calls.quiet_of_same (body_any (HD4.out.draws _))) | (go_at_call 40; refine Calls.quiet_of_same (HDn4.out _)))
        go_wp2_with fail
        exact ⟨⟨i + 1, sn, v1, v2, v3, hlt, by go_num, rfl, Lib.hid (HD4.out.draws _), Lib.hid (HB4.out.trans ⟨rfl, rfl, rfl, Nat.le_refl _, fun _ _ => rfl⟩), HI2⟩, by simp [RowKit.intOf]; omega⟩
    · have hbad := HI.out.1.bad
      clear hmx
      rcases hbad with e | e | e | e
      all_goals
        rw [e]
        go_wp2_with fail
        go_ret
        exact ⟨rfl, HB0.out.trans (HB.out.mono HB0.out.size)⟩

theorem stays_any (L X C M : Int) (v : Value) (l : List Bs) (w : World) (hs : IsStrs w v l) (hz : ∀ x ∈ l, x.length ≤ 140737488351232) (hl : l.length ≤ 140737488351232) (hv : ErrV w.heap.size w) (hL : L ≤ 9223372036854775807) (hX : X ≤ 9223372036854775807) (hC : C ≤ 9223372036854775807) (hM : M ≤ 9223372036854775807) :
    Calls Tryd.prog 6 #[.agg #[.int .i64 L, .int .i64 X, .int .i64 C, .int .i64 M], v] w (Yes2 w) := by
  cases hb : lightX 20 200 l
  · exact stays_big L X C M v l w hs hz hl hv hb
  · exact stays_main L X C M v l w hs hv hb hL hX hC hM
end Tk
end Go.Proofs.YtanilbckakoogaaDoor
