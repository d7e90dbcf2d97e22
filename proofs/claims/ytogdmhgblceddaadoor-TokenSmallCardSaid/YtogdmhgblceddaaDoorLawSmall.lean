/- The law TokenSmall: its walk. -/
import Derived.Test.YtogdmhgblceddaaDoorJoin
import Derived.Test.YtogdmhgblceddaaDoorSmall0
import Derived.Test.YtogdmhgblceddaaDoorTokE
import Derived.Test.YtogdmhgblceddaaDoorTokD
import Derived.Test.YtogdmhgblceddaaDoorLives
import Derived.Deep.RegionHeld3
namespace Go.Proofs.YtogdmhgblceddaaDoor
open Go.RowKit
namespace Tk
open Ff

theorem trim_keep (x : Bs) (W : World) (h : x.length ≤ 1099511627776) (p : Addr) (u : Value) (hc : W.cell? p = some u) (hp : p.block < W.heap.size) (hn : trimL x = x) :
    Calls Tryd.prog 25 #[.string (mkS x)] W fun r w' => r = .returned (.string (mkS x)) ∧ Below W.heap.size W w' ∧ w'.cell? p = some u := by
  have := trim_any (mkS x) W (by rw [size_mkS]; exact h)
  rw [bs_mkS, hn] at this
  exact this.mono fun _ _ h => ⟨h.1, h.2, (h.2.cell hp).trans hc⟩

theorem step_draws {w0 w w' : World} {n : Nat} (h0 : Below w0.heap.size w0 w) (h : Below (w.drewN n).heap.size (w.drewN n) w') : Below w0.heap.size w0 w' := by
  have h1 : Below w0.heap.size w0 (w.drewN n) := h0.trans ⟨rfl, rfl, rfl, Nat.le_refl _, fun _ _ => rfl⟩
  exact h1.trans (h.mono h1.size)

theorem beq_mkS (a b : Bs) : ((mkS a).toList == (mkS b).toList) = decide (a = b) := by
  rw [toList_bs, toList_bs, bs_mkS, bs_mkS]
  by_cases h : a = b <;> simp [h]

set_option maxRecDepth 100000 in
set_option maxHeartbeats 2000000 in
theorem small_big (s t : ByteArray) (w : World) (hT : Tabs w) (h : 200 < s.size ∨ (s.size ≤ 200 ∧ 200 < t.size)) :
    Calls Tryd.prog 5 #[.string s, .string t] w (Yes w) := by
  have HL := Lib.hid (lives_any w hT)
  clear hT
  rcases h with h | ⟨h0, h⟩
  all_goals
    go_enter Tryd.func5, Tryd.ntmps5
    go_wp2_with fail
    refine HL.out.mono ?_
    rintro e w1 ⟨rfl, hb⟩
    have HB := Lib.hid hb
    clear hb
    go_wp2_with fail
    go_ret
    exact ⟨rfl, HB.out⟩

set_option maxRecDepth 100000 in
set_option maxHeartbeats 4000000 in
theorem small_main (s t : ByteArray) (w : World) (hT : Tabs w) (hs : s.size ≤ 200) (ht : t.size ≤ 200) :
    Calls Tryd.prog 5 #[.string s, .string t] w (Yes w) := by
  have HL := Lib.hid (lives_any w hT)
  clear hT
  go_enter Tryd.func5, Tryd.ntmps5
  go_wp2_with fail
  refine HL.out.mono ?_
  rintro e w1 ⟨rfl, hb⟩
  have HB := Lib.hid hb
  clear hb
  go_wp2_with fail
  refine (tlower_any s w1 (by omega)).mono ?_
  rintro e w2 ⟨rfl, hb⟩
  have HB2 := Lib.hid (HB.out.trans (hb.mono HB.out.size))
  clear hb
  go_wp2_with fail
  refine (split_any s w2 (by omega)).mono ?_
  rintro e w3 ⟨v, rfl, ho, hb⟩
  have HO := Lib.hid ho
  have HB3 := Lib.hid (HB2.out.trans (hb.mono HB2.out.size))
  have hnl : (splitL (bs s)).length ≤ 201 := by have := split_len (bs s); rw [length_bs] at this; omega
  have hneat := split_neat (bs s)
  have hpiece : ∀ p ∈ splitL (bs s), p.length ≤ 200 := fun p hp => by have := split_piece (bs s) p hp; rw [length_bs] at this; omega
  have HN := Lib.hid hneat
  have HP := Lib.hid hpiece
  have HSP : Hid (splitL (bs s) = splitL (bs s)) := rfl
  obtain ⟨a0, c0, rfl, -⟩ := isStrs_own ho
  clear hb ho hneat hpiece
  generalize hl : splitL (bs s) = l at HO HN HP hnl HSP ⊢
  have HLL := Lib.hid hl
  clear hl HSP
  go_wp2_with fail
  go_loopw [7] (fun vi wr => ∃ i : Nat, i ≤ l.length ∧ vi = .int .i64 i ∧ Hid (wr.ownsRow w2.heap.size 9 1 (.slice a0 l.length c0) l.length (strs l)) ∧ Hid (Below w.heap.size w wr)) (fun vi _ => l.length - (RowKit.intOf vi).toNat)
  case atStart => exact ⟨0, Nat.zero_le _, rfl, HO.out, HB3.out⟩
  case round =>
    obtain ⟨i, hi, rfl, HO4, HB4⟩ := hrel
    rename World => W
    by_cases hlt : i < l.length
    · obtain ⟨a1, c1, e1, hc1⟩ := isStrs_own HO4.out
      injection e1 with e1 _ e2
      subst e1 e2
      have hmem : l.getD i [] ∈ l := by simp [List.getD, hlt]
      obtain ⟨b, o, rfl, hc⟩ := hc1 i (l.getD i []) (by simp [List.getD, hlt])
      obtain ⟨hne, htr⟩ := HN.out _ hmem
      have hpl := HP.out _ hmem
      have hbW : b < W.heap.size := (HO4.out.lt b rfl).2
      have he : (mkS (l.getD i [])).toList.isEmpty = false := by rw [toList_bs, bs_mkS]; simpa using hne
      have HTR := Lib.hid htr
      clear hmem hne htr hc1
      generalize l.getD i [] = x at *
      go_wp2_with fail
      go_region_held3 (fun w' => w'.cell? ⟨b, o + i, none⟩ = some (.string (mkS x))) (first | go_keep | exact (by assumption)) (first | (go_at_call 25; refine (trim_keep x _ (by omega) ⟨b, o + i, none⟩ _ (by assumption) (by assumption) HTR.out).mono ?_; rintro e w' ⟨rfl, hb, hc'⟩))
      go_ways
      go_wp2_with fail
      have hb2 : Below W.heap.size W w' := ((Below.refl W.heap.size W).drew).trans hb
      have HO5 := Lib.hid (own_later HO4.out hb2)
      have HB5 := Lib.hid (HB4.out.trans (hb2.mono HB4.out.size))
      refine ⟨⟨i + 1, by omega, by go_num, HO5, HB5⟩, by simp [RowKit.intOf]; omega⟩
    · have hil : i = l.length := by omega
      subst hil
      have HX := Lib.hid HLL.out.symm
      clear HLL
      subst_vars
      have hla := length_lowL (bs s)
      rw [length_bs] at hla
      have hlt' := length_lowL (bs t)
      rw [length_bs] at hlt'
      have hll := lowL_lowL (bs s)
      have htr := trim_sublist (bs s)
      rw [length_bs] at htr
      have h1 := Lib.hid (fun W : World => trim_any s W (by omega))
      have h2 := Lib.hid (fun W : World => tlower_any (mkS (lowL (bs s))) W (by rw [size_mkS]; omega))
      have h3 := Lib.hid (fun W : World => tsame_any s (mkS (lowL (bs s))) W (by omega) (by rw [size_mkS]; omega))
      have h4 := Lib.hid (fun W : World => tsame_any s t W (by omega) (by omega))
      have h5 := Lib.hid (fun W : World => tsame_any t s W (by omega) (by omega))
      have h6 := Lib.hid (fun W : World => tlower_any t W (by omega))
      have h7 := Lib.hid (fun W : World => trim_any (mkS (trimL (bs s))) W (by rw [size_mkS]; omega))
      have e8 : (⟨#[32]⟩ ++ s ++ ⟨#[9]⟩ : ByteArray) = mkS ([32] ++ bs s ++ [9]) := by
        rw [← mkS_append, ← mkS_append, mkS_bs]; rfl
      have h8 := Lib.hid (fun W : World => trim_any (mkS ([32] ++ bs s ++ [9])) W (by rw [size_mkS]; simp only [List.length_append, List.length_cons, List.length_nil, length_bs]; omega))
      simp only [bs_mkS, hll, trim_trim, trim_around, decide_true] at h2 h3 h7 h8
      rw [← e8] at h8
      have e5 : decide (lowL (bs t) = lowL (bs s)) = decide (lowL (bs s) = lowL (bs t)) := by simp only [eq_comm]
      rw [e5] at h5
      have hd : ((mkS (lowL (bs s))).toList == (mkS (lowL (bs t))).toList) = decide (lowL (bs s) = lowL (bs t)) := beq_mkS _ _
      clear e5 e8
      generalize decide (lowL (bs s) = lowL (bs t)) = d at *
      generalize ha : lowL (bs s) = al at *
      generalize hx : trimL (bs s) = xl at *
      generalize hb : lowL (bs t) = tl at *
      have haz : (((mkS al).size : Int) == (s.size : Int)) = true := by rw [size_mkS, hla]; simp
      clear hll
      go_wp2_with fail
      refine (h1.out _).mono ?_
      rintro e w4 ⟨rfl, hb4⟩
      have HB5 := Lib.hid (HB4.out.trans (hb4.mono HB4.out.size))
      clear hb4
      go_wp2_with fail
      refine (h2.out _).mono ?_
      rintro e w5 ⟨rfl, hb5⟩
      have HB6 := Lib.hid (HB5.out.trans (hb5.mono HB5.out.size))
      clear hb5
      go_wp2_with fail
      refine (h3.out _).mono ?_
      rintro e w6 ⟨rfl, q6, rfl⟩
      go_wp2_with fail
      refine (h4.out _).mono ?_
      rintro e w7 ⟨rfl, q7, rfl⟩
      go_wp2_with fail
      refine (h5.out _).mono ?_
      rintro e w8 ⟨rfl, q8, rfl⟩
      go_wp2_with fail
      refine (h4.out _).mono ?_
      rintro e w9 ⟨rfl, q9, rfl⟩
      go_wp2_with fail
      refine (h6.out _).mono ?_
      rintro e w10 ⟨rfl, hb10⟩
      have HB7 := Lib.hid (step_draws HB6.out hb10)
      clear hb10
      go_wp2_with fail
      refine (h7.out _).mono ?_
      rintro e w11 ⟨rfl, hb11⟩
      have HB8 := Lib.hid (HB7.out.trans (hb11.mono HB7.out.size))
      clear hb11
      go_wp2_with fail
      refine (h8.out _).mono ?_
      rintro e w12 ⟨rfl, hb12⟩
      have HB9 := Lib.hid (HB8.out.trans (hb12.mono HB8.out.size))
      clear hb12
      go_wp2_with fail
      have h9 := Lib.hid (fun W : World => quotes_any s W (by omega))
      have hlen : (splitL (bs (s ++ ⟨#[44]⟩ ++ t))).length ≤ 402 := by
        have := split_len (bs (s ++ ⟨#[44]⟩ ++ t))
        rw [length_bs] at this
        simp only [ByteArray.size_append] at this
        have e1 : (ByteArray.mk #[44]).size = 1 := rfl
        omega
      have hlenT : (splitL (bs t)).length ≤ 201 := by have := split_len (bs t); rw [length_bs] at this; omega
      have h10 := Lib.hid (fun W : World => split_any (s ++ ⟨#[44]⟩ ++ t) W (by have e1 : (ByteArray.mk #[44]).size = 1 := rfl; simp only [ByteArray.size_append]; omega))
      have e10 : bs (s ++ ⟨#[44]⟩ ++ t) = bs s ++ [44] ++ bs t := by
        show (s ++ ⟨#[44]⟩ ++ t).data.toList = _
        rw [ByteArray.data_append, ByteArray.data_append]
        simp [bs]
      rw [e10] at h10 hlen
      have hsp := split_app (bs s) (bs t)
      clear e10
      cases hq : hasQ (bs s)
      · rw [hq] at h9
        have HSP := Lib.hid (hsp hq)
        clear hsp hq
        generalize splitL (bs s ++ [44] ++ bs t) = l3 at *
        go_wp2_with fail
        refine (h9.out _).mono ?_
        rintro e w13 ⟨rfl, rfl⟩
        go_wp2_with fail
        refine (h10.out _).mono ?_
        rintro e w14 ⟨v1, rfl, ho1, hb14⟩
        have HB10 := Lib.hid (HB9.out.trans (hb14.mono HB9.out.size))
        have HO1 := Lib.hid ho1
        clear ho1 hb14
        go_wp2_with fail
        refine (split_any s _ (by omega)).mono ?_
        rintro e w15 ⟨v2, rfl, ho2, hb15⟩
        have HB11 := Lib.hid (HB10.out.trans (hb15.mono HB10.out.size))
        have HO2 := Lib.hid ho2
        have HL1 := Lib.hid hb15
        clear ho2 hb15
        go_wp2_with fail
        refine (split_any t _ (by omega)).mono ?_
        rintro e w16 ⟨v3, rfl, ho3, hb16⟩
        have HB12 := Lib.hid (HB11.out.trans (hb16.mono HB11.out.size))
        have HO3 := Lib.hid ho3
        have HL2 := Lib.hid hb16
        clear ho3 hb16
        have hB1 : w14.heap.size ≤ w16.heap.size := Nat.le_trans HL1.out.size HL2.out.size
        have ho2 := own_later HO2.out HL2.out
        have ho3 := HO3.out
        have hnl2 : (splitL (bs s)).length ≤ 1048576 := by omega
        have hnlT : (splitL (bs t)).length ≤ 1048576 := by omega
        go_wp2_with (at_builtin; refine join_guarded (by rfl) _ _ rfl w14.heap.size w15.heap.size v2 v3 _ _ rfl rfl ho2 ho3 hB1 hnl2 hnlT ?_; intro v4 w17 ho4 hb17)
        have hn17 : ∀ k, v1.ownBlock = some k → k < w14.heap.size := fun k e => (HO1.out.lt k e).2
        have i1 := isStrs_later (isStrs_own (own_later HO1.out (HL1.out.trans (HL2.out.mono HL1.out.size)))) hb17 hn17
        have h12 := same_any v1 v4 l3 (splitL (bs s) ++ splitL (bs t)) w17 i1 (isStrs_own ho4) (by omega) (by rw [List.length_append]; omega)
        have hdec : decide (l3 = splitL (bs s) ++ splitL (bs t)) = true := by rw [HSP.out]; simp
        rw [hdec] at h12
        have HB13 := Lib.hid (HB12.out.trans (hb17.mono HB10.out.size))
        clear i1 hb17 ho4 hdec hn17
        refine h12.mono ?_
        rintro e w18 ⟨rfl, q18, rfl⟩
        go_wp2_with fail
        go_ret
        exact ⟨rfl, HB13.out.trans ⟨rfl, rfl, rfl, Nat.le_refl _, fun _ _ => rfl⟩⟩
      · rw [hq] at h9
        clear hsp h10 hq hlen hlenT
        go_wp2_with fail
        refine (h9.out _).mono ?_
        rintro e w13 ⟨rfl, rfl⟩
        go_wp2_with fail
        go_ret
        exact ⟨rfl, HB9.out⟩

/-- The law TokenSmall, whatever the two texts. -/
theorem small_any (s t : ByteArray) (w : World) (hT : Tabs w) :
    Calls Tryd.prog 5 #[.string s, .string t] w (Yes w) := by
  by_cases hs : s.size ≤ 200
  · by_cases ht : t.size ≤ 200
    · exact small_main s t w hT hs ht
    · exact small_big s t w hT (.inr ⟨hs, by omega⟩)
  · exact small_big s t w hT (.inl (by omega))
end Tk
end Go.Proofs.YtogdmhgblceddaaDoor
