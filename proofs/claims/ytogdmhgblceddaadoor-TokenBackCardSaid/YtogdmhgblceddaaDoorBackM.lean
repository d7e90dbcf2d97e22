/- The law TokenBack: its walk where the texts may be gone through. -/
import Derived.Test.YtogdmhgblceddaaDoorBack
import Derived.Deep.QuietTactic
import Derived.BigQuiet
namespace Go.Proofs.YtogdmhgblceddaaDoor
open Go.RowKit
namespace Tk
open Ff Ieee Fl

theorem str_eq_bs (s : ByteArray) (l : Bs) (h : bs s = l) : s = mkS l := by rw [← h, mkS_bs]

set_option maxRecDepth 100000 in
set_option maxHeartbeats 8000000 in
theorem back_main (v : Value) (l : List Bs) (q : Nat) (w : World) (hT : Tabs w) (hq64 : q < 18446744073709551616) (hs : IsStrs w v l) (hz : ∀ x ∈ l, x.length ≤ 140737488351232) (hl : l.length ≤ 140737488351232) (hb : lightT l = true) :
    Calls Tryd.prog 4 #[v, .float .f64 q] w (Yes w) := by
  obtain ⟨i0, hi, hz0, hz1, hz2⟩ := info_parts strInfo
  have HL := Lib.hid (lives_any w hT)
  have hbig := hT.pows.big
  have HT := Lib.hid hT
  have HB := Lib.hid (fun (W : World) (h : Below w.heap.size w W) => lightTexts_any v l W (isStrs_below hs h) hz hl)
  rw [hb] at HB
  obtain ⟨hl20, hsum, hx200⟩ := light_parts l hb
  have HX := Lib.hid hx200
  have HS := Lib.hid hs
  clear hT hb hz hl hs hx200
  obtain ⟨a, cap, rfl⟩ : ∃ a cap, v = .slice a l.length cap := by obtain ⟨a, c, h, -⟩ := HS.out; exact ⟨a, c, h⟩
  go_enter Tryd.func4, Tryd.ntmps4
  go_wp2_with fail
  refine HL.out.mono ?_
  rintro e w1 ⟨rfl, hb⟩
  have HB1 := Lib.hid hb
  clear hb
  go_wp2_with fail
  refine (HB.out _ HB1.out).mono ?_
  rintro e w2 ⟨rfl, rfl⟩
  go_wp2_with fail
  go_loopw [5, 6, 7] (fun va vw vi wr => ∃ i : Nat, i ≤ l.length ∧ vi = .int .i64 i ∧ va = .string (mkS (joinQ (l.take i))) ∧ Hid (wr.ownsRow w.heap.size 9 1 vw (wantQ (l.take i)).length (strs (wantQ (l.take i)))) ∧ Hid (Below w.heap.size w wr)) (fun _ _ vi _ => l.length - (RowKit.intOf vi).toNat)
  case atStart => exact ⟨0, Nat.zero_le _, rfl, rfl, World.ownsRow_nil _ _ _ _, HB1.out⟩
  case round =>
    obtain ⟨i, hi', rfl, rfl, HO, HB2⟩ := hrel
    rename World => W
    have hjl : (mkS (joinQ (l.take i))).size ≤ 600 := by
      rw [size_mkS]
      have h1 := join_len (l.take i)
      have h2 := sum_take l i
      rw [List.length_take] at h1
      omega
    have hwl := want_len (l.take i)
    rw [List.length_take] at hwl
    by_cases hlt : i < l.length
    · obtain ⟨a', c', e', hc⟩ := isStrs_below HS.out HB2.out
      injection e' with e1 _ e2
      subst e1 e2
      obtain ⟨b, o, rfl, hcell⟩ := hc i (l.getD i []) (by simp [List.getD, hlt])
      have hbW : b < W.heap.size := by
        refine Nat.lt_of_not_le fun hle => ?_
        simp only [World.cell?, Array.getElem?_eq_none hle] at hcell
        cases hcell
      have hx := HX.out (l.getD i []) (by simp [List.getD, hlt])
      have htk : l.take (i + 1) = l.take i ++ [l.getD i []] := by
        rw [List.take_succ_eq_append_getElem hlt]; simp [List.getD, hlt]
      have HTK := Lib.hid htk
      clear hc htk
      generalize l.getD i [] = x at *
      have hxs := size_mkS x
      have HXS := Lib.hid hxs
      clear hxs
      cases hv : allL 1 x
      · obtain ⟨n1, n2⟩ := join_snoc_no (l.take i) x hv
        rw [← HTK.out] at n1 n2
        have hvx : allL 1 (bs (mkS x)) = false := hv
        have V := Lib.hid (fun W : World => quote_bad (mkS x) W (by rw [HXS.out]; omega) hvx)
        have N1 := Lib.hid n1
        have N2 := Lib.hid n2
        clear n1 n2 hv hvx
        go_wp2_with fail
        refine (V.out _).mono ?_
        rintro e w3 ⟨rfl, hb⟩
        have HB3 := Lib.hid (HB2.out.trans (hb.mono HB2.out.size))
        have HO3 := Lib.hid (own_later HO.out hb)
        clear hb
        go_wp2_with fail
        refine ⟨⟨i + 1, by omega, by go_num, by rw [N1.out], ?_, HB3⟩, by simp [RowKit.intOf]; omega⟩
        rw [N2.out]; exact HO3
      · obtain ⟨n1, n2⟩ := join_snoc_yes (l.take i) x hv
        rw [← HTK.out] at n1 n2
        have hvx : allL 1 (bs (mkS x)) = true := hv
        have V := Lib.hid (fun W : World => quote_ok (mkS x) W (by rw [HXS.out]; omega) hvx)
        have hqz : (mkS (quoteL x)).size ≤ 402 := by
          rw [size_mkS]
          have := esc_len x
          unfold quoteL
          rw [List.length_cons, List.length_append, List.length_singleton]; omega
        have hok : unqOk (bs (mkS (quoteL x))) = true := by rw [bs_mkS, unqOk_quote, hv]
        have U0 := fun W : World => unquote_yes (mkS (quoteL x)) W (by omega) hok
        rw [bs_mkS, unq_quote] at U0
        have U := Lib.hid U0
        have hcat : mkS (joinQ (l.take (i + 1))) = mkS (joinQ (l.take i)) ++ mkS (quoteL x) ++ ⟨#[32, 44, 9]⟩ := by
          rw [n1, ← mkS_append, ← mkS_append, ByteArray.append_assoc]; rfl
        have HCT := Lib.hid hcat
        have N2 := Lib.hid n2
        clear n1 n2 hv hvx hok U0 hcat
        rw [bs_mkS] at V
        generalize hqd : mkS (quoteL x) = qx at *
        have HQ := Lib.hid hqd
        clear hqd
        generalize mkS (joinQ (l.take i)) = J at *
        go_wp2_with fail
        refine (V.out _).mono ?_
        rintro e w3 ⟨rfl, hb⟩
        have HB3 := Lib.hid (HB2.out.trans (hb.mono HB2.out.size))
        have HO3 := Lib.hid (own_later HO.out hb)
        have hb3 : b < w3.heap.size := Nat.lt_of_lt_of_le hbW hb.size
        have hc3 : w3.cell? ⟨b, o + i, none⟩ = some (.string (mkS x)) := (hb.cell (p := ⟨b, o + i, none⟩) hbW).trans hcell
        have HC3 := Lib.hid hc3
        clear hb hc3
        go_wp2_with fail
        refine (U.out _).mono ?_
        rintro e w4 ⟨rfl, hb⟩
        have HB4 := Lib.hid (HB3.out.trans (hb.mono HB3.out.size))
        have hown4 := own_later HO3.out hb
        have hc4 : w4.cell? ⟨b, o + i, none⟩ = some (.string (mkS x)) := (hb.cell (p := ⟨b, o + i, none⟩) hb3).trans HC3.out
        clear hb
        have hB4 := HB4.out.size
        go_wp2_with (at_builtin; refine wpList_append_own _ rfl _ _ 30 rfl w.heap.size 9 i0 (.string .empty) 1 16 Tryd.underlying30 hi hz0 hz1 hz2 rfl (by decide) _ _ _ rfl (hown4.alloc _) ⟨w4.heap.size, 0, none⟩ 1 1 [.string qx] rfl rfl ?c1 ?c2 ?c3 ?c4 ?c5 ?_)
        case c1 => exact cell_one_new _ _ _
        case c2 => simp [Value.oneCell']
        case c3 => unfold maxLen; omega
        case c4 => omega
        case c5 => simp; omega
        intro v' w5 hown5 hg5 _
        have HB5 := Lib.hid (HB4.out.trans (((Below.refl w.heap.size w4).alloc hB4 _).trans (below_of_grown hg5 (hown4.alloc _) (by simp; omega))))
        have HO5 : Hid (w5.ownsRow w.heap.size 9 1 v' (wantQ (l.take (i + 1))).length (strs (wantQ (l.take (i + 1))))) := by
          show w5.ownsRow w.heap.size 9 1 v' (wantQ (l.take (i + 1))).length (strs (wantQ (l.take (i + 1))))
          rw [N2.out, List.length_append, strs_append]
          rw [← HQ.out] at hown5
          exact hown5
        clear hown5 hg5 hown4 hc4
        go_wp2_with fail
        exact ⟨⟨i + 1, by omega, by go_num, by rw [HCT.out], HO5, HB5⟩, by simp [RowKit.intOf]; omega⟩
    · have hil : l.take i = l := List.take_of_length_le (by omega)
      rw [hil] at HO hjl hwl
      have hspl := split_joined l
      rw [hil]
      clear hil
      have h18 := fun W : World => split_any (mkS (joinQ l)) W (by omega)
      rw [bs_mkS, hspl] at h18
      have H18 := Lib.hid h18
      clear h18 hspl
      generalize mkS (joinQ l) = J at *
      go_wp2_with fail
      refine (H18.out _).mono ?_
      rintro e w3 ⟨v3, rfl, ho3, hb3⟩
      have HB3 := Lib.hid (HB2.out.trans (hb3.mono HB2.out.size))
      have i3 := isStrs_own ho3
      have i4 := isStrs_own (own_later HO.out hb3)
      have h12 := same_any v3 _ (wantQ l) (wantQ l) w3 i3 i4 (by omega) (by omega)
      rw [show decide (wantQ l = wantQ l) = true by simp] at h12
      have H12 := Lib.hid h12
      clear h12 i3 i4 hb3 ho3
      go_wp2_with fail
      refine H12.out.mono ?_
      rintro e w4 ⟨rfl, n4, rfl⟩
      have HB4 := Lib.hid (below_drewN HB3.out n4)
      by_cases hw : isW q
      · have hT4 := HT.out.later HB4.out hbig
        have WT := Lib.hid (weightText_any q _ hT4 hw)
        have hk1 := gk_le (qn q) 1000
        obtain ⟨g1, g2⟩ := gk_spec (qn q) 1000
        obtain ⟨t0, t1⟩ := tst_split (tst_yes q hw)
        have hF1 := F_le1 _ hk1
        have ho := order_q (F (gk (qn q) 1000)) q (by omega) hw
        have hWg := fun W : World => weight_any (mkS (ktext (gk (qn q) 1000))) W (by rw [size_mkS]; have := ktext_len _ hk1; omega)
        unfold WgtPost at hWg
        rw [bs_mkS, wgt_text _ hk1] at hWg
        simp only [wF, wE] at hWg
        have WG := Lib.hid hWg
        have hone := order_pos (F (gk (qn q) 1000)) 4607182418800017408 (by omega) (by omega)
        clear hT4 hWg
        generalize gk (qn q) 1000 = k at *
        have hle : (FloatKind.f64.format.order (F k) q == some .lt || FloatKind.f64.format.order (F k) q == some .eq) = true := by
          rw [show FloatKind.f64.format.order (F k) q = some (compare (F k) (qn q)) from ho]
          rcases Nat.lt_or_eq_of_le g1 with h | h
          · rw [Nat.compare_eq_lt.2 h]; rfl
          · rw [Nat.compare_eq_eq.2 h]; rfl
        go_wp2_with fail
        refine WT.out.mono ?_
        rintro e w5 ⟨rfl, hb⟩
        have HB5 := Lib.hid (HB4.out.trans (hb.mono HB4.out.size))
        clear hb
        have hq1 : ∀ X : Nat, (some (compare (F k) X) == some Ordering.eq) = decide (F k = X) := fun X => by
          rcases Nat.lt_trichotomy (F k) X with h | h | h
          · rw [Nat.compare_eq_lt.2 h, decide_eq_false (by omega)]; rfl
          · rw [Nat.compare_eq_eq.2 h, decide_eq_true h]; rfl
          · rw [Nat.compare_eq_gt.2 h, decide_eq_false (by omega)]; rfl
        have ho1 : (FloatKind.f64.format.order (F k) 4607182418800017408 == some .eq) = decide (F k = 4607182418800017408) := by
          rw [show FloatKind.f64.format.order (F k) 4607182418800017408 = some (compare (F k) 4607182418800017408) from hone]
          exact hq1 _
        by_cases h1000 : k = 1000
        · rw [decide_eq_true (by rw [h1000]; exact F_1000)] at ho1
          clear h1000 hq1 hone ho g1 g2
          go_wp2_with fail
          refine (WG.out _).mono ?_
          rintro e w6 ⟨rfl, hb⟩
          have HB6 := Lib.hid (HB5.out.trans (hb.mono HB5.out.size))
          clear hb
          go_wp2_with fail
          go_ret
          exact ⟨rfl, HB6.out⟩
        · have hlt : F k < 4607182418800017408 := by rw [← F_1000]; exact F_lt (by omega) (by omega)
          rw [decide_eq_false (by omega)] at ho1
          obtain ⟨r, hr, hr1, hr2⟩ := add_at k (by omega)
          have hadd := fun W : World => run_float_arith (P := Tryd.prog) W .add 22 .f64 (F k) 4562254970085971183 r hr
          have hgt : (FloatKind.f64.format.order r q == some .gt) = true := by
            rw [show FloatKind.f64.format.order r q = some (compare r (qn q)) from order_q r q hr2 hw, Nat.compare_eq_gt.2 (by rcases g2 with g | g; exact absurd g h1000; omega)]; rfl
          clear h1000 hq1 hone ho g1 g2 hr hr1 hr2
          go_wp2_with fail
          refine (WG.out _).mono ?_
          rintro e w6 ⟨rfl, hb⟩
          have HB6 := Lib.hid (HB5.out.trans (hb.mono HB5.out.size))
          clear hb
          go_wp2_with fail
          go_ret
          exact ⟨rfl, HB6.out⟩
      · have hno := tst_no q hq64 hw
        have WT := Lib.hid (fun W : World => weightText_no q W hno)
        have hsp := tst_split' hno
        have hWg := fun W : World => weight_any (mkS []) W (by decide)
        unfold WgtPost at hWg
        rw [bs_mkS, wgt_nil] at hWg
        have WG := Lib.hid hWg
        clear hWg hno hw
        rcases hsp with t0 | ⟨t0, t1⟩
        all_goals
          go_wp2_with fail
          refine (WT.out _).mono ?_
          rintro e w5 ⟨rfl, hb⟩
          have HB5 := Lib.hid (HB4.out.trans (hb.mono HB4.out.size))
          clear hb
          go_wp2_with fail
          refine (WG.out _).mono ?_
          rintro e w6 ⟨rfl, hb⟩
          have HB6 := Lib.hid (HB5.out.trans (hb.mono HB5.out.size))
          clear hb
          go_wp2_with fail
          go_ret
          exact ⟨rfl, HB6.out⟩

/-- The law TokenBack, whatever the texts and the float. -/
theorem back_any (v : Value) (l : List Bs) (q : Nat) (w : World) (hT : Tabs w) (hq64 : q < 18446744073709551616) (hs : IsStrs w v l) (hz : ∀ x ∈ l, x.length ≤ 140737488351232) (hl : l.length ≤ 140737488351232) :
    Calls Tryd.prog 4 #[v, .float .f64 q] w (Yes w) := by
  cases hb : lightT l
  · exact back_big v l q w hT hs hz hl hb
  · exact back_main v l q w hT hq64 hs hz hl hb
end Tk
end Go.Proofs.YtogdmhgblceddaaDoor
