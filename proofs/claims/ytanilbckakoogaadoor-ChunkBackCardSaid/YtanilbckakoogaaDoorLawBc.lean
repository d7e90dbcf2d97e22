/- The law ChunkBack: its walk. -/
import Derived.Test.YtanilbckakoogaaDoorChkL
import Derived.Test.YtanilbckakoogaaDoorChkN
import Derived.Test.YtanilbckakoogaaDoorPkT
import Derived.Test.YtanilbckakoogaaDoorArgL
import Derived.Test.YtanilbckakoogaaDoorRefSe
namespace Go.Proofs.YtanilbckakoogaaDoor
open Go.RowKit
namespace Tk

def sumFs : List (Bs × Bs) := [([83, 117, 109], [49])]
theorem sumFs_ok : okFs sumFs = true := by decide +kernel
theorem sumFs_lines : linesF sumFs = sumF1 ++ [13, 10] := by decide +kernel
theorem sumFs_e : byE sumFs = 0 := by unfold byE; rw [sumFs_ok]; rfl
theorem sumFs_at (w : World) : IsFlds (w.alloc (.cells #[.string ⟨#[83, 117, 109]⟩, .string ⟨#[49]⟩] 26)) (.slice (some ⟨w.heap.size, 0, none⟩) 1 1) sumFs := by
  refine ⟨some ⟨w.heap.size, 0, none⟩, 1, rfl, Nat.le_refl _, fun j f hj => ⟨w.heap.size, 0, rfl, ?_⟩⟩
  have hj0 : j = 0 := by
    have := (List.getElem?_eq_some_iff.1 hj).1
    simpa [sumFs] using this
  subst hj0
  simp only [sumFs, List.getElem?_cons_zero, Option.some.injEq] at hj
  subst hj
  exact cell_new w _ _ _
def finB (body : Bs) : Dc := { roomD with mode := 5, body := body, head := 10, trl := [([83, 117, 109], [49])] }
theorem enc_len (k : Nat) (body : Bs) (h : body.length ≤ 200) : (encL k body (sumF1 ++ [13, 10])).length ≤ 1413 := by
  have := chunks_len k _ body (Nat.le_refl _) (by omega)
  unfold encL
  simp only [List.length_append, List.length_cons, List.length_nil]
  have e : sumF1.length = 6 := rfl
  omega
/-- however far it was fed: no flaw; at the end all is there -/
theorem back_step (k : Nat) (body behind : Bs) (hk : k ≠ 0 ∨ body = []) (hb : body.length ≤ 200) (ate : Nat) (so : Dc) (ha : ate ≤ (encL k body (sumF1 ++ [13, 10]) ++ behind).length)
    (h : Eats roomD ((encL k body (sumF1 ++ [13, 10]) ++ behind).take ate) so) :
    so.bad = 0 ∧ (so.mode = 5 → ate = (encL k body (sumF1 ++ [13, 10])).length ∧ so = finB body) ∧ (ate = (encL k body (sumF1 ++ [13, 10]) ++ behind).length → so.mode = 5) := by
  have he := eat_enc k body hk hb
  have hc := cut_enc roomD (finB body) (encL k body (sumF1 ++ [13, 10])) behind he (by rw [stop_iff]; exact .inl rfl) rfl
    ((encL k body (sumF1 ++ [13, 10]) ++ behind).take ate) ((encL k body (sumF1 ++ [13, 10]) ++ behind).drop ate) (List.take_append_drop _ _)
  unfold Eats at h
  have hl : ((encL k body (sumF1 ++ [13, 10]) ++ behind).take ate).length = ate := by rw [List.length_take]; omega
  rw [hl] at h
  rw [h] at hc
  obtain ⟨h1, h2, h3, h4⟩ := hc
  refine ⟨h1, fun hm => ?_, fun hl => ?_⟩
  · have := h2 hm
    injection this with e1 e2
    exact ⟨e1, e2⟩
  · have := h4 (List.drop_of_length_le (by omega))
    injection this with e1 e2
    rw [e2]; rfl

set_option maxRecDepth 100000 in
set_option maxHeartbeats 4000000 in
theorem back_big (body : ByteArray) (size : Int) (v : Value) (l : List Int) (behind : ByteArray) (w : World) (hs : IsInts w v l) (hv : ErrV w.heap.size w) (hb : 200 < body.size ∨ (body.size ≤ 200 ∧ (200 < behind.size ∨ (behind.size ≤ 200 ∧ 20 < l.length)))) :
    Calls Tryd.prog 5 #[.string body, .int .i64 size, v, .string behind] w (Yes2 w) := by
  have HL := Lib.hid (lives05_any w hv)
  obtain ⟨a, cap, rfl⟩ : ∃ a cap, v = .slice a l.length cap := by obtain ⟨a, c, h, -⟩ := hs; exact ⟨a, c, h⟩
  unfold Yes2 at HL ⊢
  have hcase : (200 : Int) < (body.size : Int) ∨ (¬ (200 : Int) < (body.size : Int) ∧ ((200 : Int) < (behind.size : Int) ∨ (¬ (200 : Int) < (behind.size : Int) ∧ (20 : Int) < (l.length : Int)))) := by omega
  clear hs hv hb
  rcases hcase with h | ⟨h, h2 | ⟨h2, h3⟩⟩
  all_goals
    go_enter Tryd.func5, Tryd.ntmps5
    go_wp2_with fail
    refine HL.out.mono ?_
    rintro e w1 ⟨rfl, hb⟩
    have HB1 := Lib.hid hb
    clear hb
    go_wp2_with fail
    go_ret
    exact ⟨rfl, HB1.out⟩

set_option maxRecDepth 100000 in
set_option maxHeartbeats 16000000 in
theorem back_main (body : ByteArray) (size : Int) (v : Value) (l : List Int) (behind : ByteArray) (w : World) (hs : IsInts w v l) (hv : ErrV w.heap.size w) (hB : Bruijn w.heap.size w) (hb : body.size ≤ 200) (hh : behind.size ≤ 200) (hl : l.length ≤ 20) (hsz : size ≤ 9223372036854775807) :
    Calls Tryd.prog 5 #[.string body, .int .i64 size, v, .string behind] w (Yes2 w) := by
  have HL := Lib.hid (lives05_any w hv)
  have HV := Lib.hid hv
  have HBj := Lib.hid hB
  have HS := Lib.hid hs
  have hlb := length_bs body
  have hlh := length_bs behind
  have hk0 : encK size (bs body) ≠ 0 ∨ bs body = [] := by
    unfold encK
    by_cases h1 : size < 1
    · rw [if_pos h1]
      by_cases h0 : (bs body).length = 0
      · exact .inr (List.eq_nil_of_length_eq_zero h0)
      · exact .inl h0
    · rw [if_neg h1]; exact .inl (by omega)
  have HEn := Lib.hid (fun (v : Value) (W : World) (h : IsFlds W v sumFs) (hB : Bruijn W.heap.size W) => encode_any body size v sumFs W h (by decide) (by decide) hb hB hsz)
  unfold EncPost at HEn
  rw [sumFs_ok, sumFs_lines, sumFs_e] at HEn
  rw [if_pos rfl] at HEn
  have hel := enc_len (encK size (bs body)) (bs body) (by omega)
  have HStep := Lib.hid (fun ate so => back_step (encK size (bs body)) (bs body) (bs behind) hk0 (by omega) ate so)
  generalize encL (encK size (bs body)) (bs body) (sumF1 ++ [13, 10]) = E at *
  obtain ⟨a, cap, rfl⟩ : ∃ a cap, v = .slice a l.length cap := by obtain ⟨a, c, h, -⟩ := hs; exact ⟨a, c, h⟩
  have i0 : ¬ (200 : Int) < (body.size : Int) := by omega
  have i1 : ¬ (200 : Int) < (behind.size : Int) := by omega
  have i2 : ¬ (20 : Int) < (l.length : Int) := by omega
  have HEl := Lib.hid (show E.length ≤ 1413 ∧ (bs behind).length ≤ 200 ∧ body.size ≤ 200 ∧ (bs body).length = body.size from ⟨hel, by omega, hb, hlb⟩)
  clear hs hv hB hlb hlh hk0 hel hsz hb hh
  unfold Yes2 at HL ⊢
  go_enter Tryd.func5, Tryd.ntmps5
  go_wp2_with fail
  refine HL.out.mono ?_
  rintro e w1 ⟨rfl, hb⟩
  have HB1 := Lib.hid hb
  have hb1 : Below w1.heap.size w1 (w1.alloc (.cells #[.string ⟨#[83, 117, 109]⟩, .string ⟨#[49]⟩] 26)) := (Below.refl _ _).alloc (Nat.le_refl _) _
  have HF := Lib.hid (sumFs_at w1)
  have HB2 := Lib.hid (hb.trans (hb1.mono hb.size))
  clear hb hb1
  go_wp2_with fail
  refine (HEn.out _ _ HF.out (HBj.out.later HB2.out).top).mono ?_
  rintro e w2 ⟨rfl, hb⟩
  have HB3 := Lib.hid (HB2.out.trans (hb.mono HB2.out.size))
  clear hb
  go_wp2_with fail
  refine (roomy_any _).mono ?_
  rintro e w3 ⟨rfl, hb⟩
  have HB4 := Lib.hid (HB3.out.trans (hb.mono HB3.out.size))
  clear hb
  go_wp2_with fail
  refine (new_any 200 1000 30 1000 200 1000 30 1000 w.heap.size w3 HB4.out.size rfl rfl rfl rfl).mono ?_
  rintro e w4 ⟨b, rfl, hb, hd, hbel⟩
  have HB5 := Lib.hid (HB4.out.trans (hbel.mono HB4.out.size))
  have HD0 := Lib.hid (show Dec w.heap.size b roomD (.slice none 0 0) (.slice none 0 0) (.slice none 0 0) w4 from hd)
  clear hb hd hbel
  have hcat : mkS E ++ behind = mkS (E ++ bs behind) := by
    have h2 := mkS_append E (bs behind)
    rw [mkS_bs] at h2
    exact h2
  have hz1 : (mkS E).size = E.length := size_mkS E
  have hz2 : (mkS E).size + behind.size ≤ 9223372036854775807 := by have := HEl.out; omega
  have HCat := Lib.hid hcat
  clear hcat
  unfold ptr
  go_wp2_with fail
  rw [HCat.out]
  obtain ⟨T, hT⟩ : ∃ T, T = mkS (E ++ bs behind) := ⟨_, rfl⟩
  have hbT : bs T = E ++ bs behind := by rw [hT, bs_mkS]
  have hlT : (bs T).length = T.size := length_bs T
  have hTz : T.size ≤ 1613 := by rw [← hlT, hbT, List.length_append]; have := HEl.out; omega
  have HStepT := Lib.hid (fun (ate : Nat) (so : Dc) (h1 : ate ≤ T.size) (h2 : Eats roomD ((bs T).take ate) so) => HStep.out ate so (by rw [← hbT, hlT]; exact h1) (by rw [← hbT]; exact h2))
  have HStepE := Lib.hid (show ∀ (ate : Nat) (so : Dc), ate = T.size → ate = (E ++ bs behind).length from fun ate so h => by rw [← hbT, hlT]; exact h)
  have HLenT := Lib.hid hlT
  rw [← hT]
  clear hT hbT hlT hz2 HCat HStep
  go_loopw [13, 14] (fun v13 v14 wr => ∃ (i ate : Nat) (so : Dc) (x1 x2 x3 : Value), i ≤ l.length + 1 ∧ ate ≤ T.size ∧ v13 = .int .i64 ate ∧ v14 = .int .i64 i ∧ Hid (Eats roomD ((bs T).take ate) so) ∧ Hid (Dec w.heap.size b so x1 x2 x3 wr) ∧ Hid (Below w.heap.size w wr) ∧ Hid (¬ so.mode = 5) ∧ Hid (i = l.length + 1 → ate = T.size)) (fun _ v14 _ => l.length + 1 - (RowKit.intOf v14).toNat)
  case atStart => exact ⟨0, 0, roomD, _, _, _, Nat.zero_le _, Nat.zero_le _, rfl, rfl, Eats.nil roomD, HD0, HB5, by show ¬ (0 : Nat) = 5; decide, fun h => by omega⟩
  case round =>
    obtain ⟨i, ate, so, x1, x2, x3, hi, hate, rfl, rfl, HE, HDo, HB, HNo, HSt⟩ := hrel
    rename World => W
    have hil : i ≤ l.length := by
      refine Nat.le_of_not_lt fun h => ?_
      have h1 := HSt.out (by omega)
      exact HNo.out ((HStepT.out ate so hate HE.out).2.2 (HStepE.out ate so h1))
    have hfit := eats_fit (newD_fit 200 1000 30 1000) (by rw [HLenT.out]; exact hate) HE.out
    have HFit := Lib.hid hfit
    have HLimo := Lib.hid (room_lim.eats HE.out)
    have hpart : ∀ k : Nat, ate ≤ k → k ≤ T.size → ∀ W' : World, Dec w.heap.size b so x1 x2 x3 W' → Below w.heap.size w W' → Calls Tryd.prog 38 #[.pointer (some ⟨b, 0, none⟩), .string (T.extract ate k)] W' (FeedPost w.heap.size b so (((bs T).drop ate).take (k - ate)) x1 x2 x3 W') := by
      intro k h1 h2 W' hd hb
      have h := feed_any (T.extract ate k) hd (0 + ate) HFit.out (by rw [ByteArray.size_extract]; omega) HLimo.out (HV.out.later hb)
      rw [bs_extract] at h
      exact h
    have hmore : ∀ k : Nat, ate ≤ k → k ≤ T.size → Eats roomD ((bs T).take (ate + (feedD so (((bs T).drop ate).take (k - ate))).1)) (feedD so (((bs T).drop ate).take (k - ate))).2 ∧ ate + (feedD so (((bs T).drop ate).take (k - ate))).1 ≤ k ∧
        (k = T.size → stopD (feedD so (((bs T).drop ate).take (k - ate))).2 = true ∨ ate + (feedD so (((bs T).drop ate).take (k - ate))).1 = T.size) := fun k h1 h2 => by
      have := eats_more HE.out h1 (by rw [HLenT.out]; exact h2)
      rw [HLenT.out] at this
      exact this
    have feedFit : ∀ {at2 : Nat} {sn : Dc}, Eats roomD ((bs T).take at2) sn → at2 ≤ T.size → sn.Fit (0 + at2) := fun h h2 => eats_fit (newD_fit 200 1000 30 1000) (by rw [HLenT.out]; exact h2) h
    have HPart := Lib.hid hpart
    have HMore := Lib.hid hmore
    have HFeedFit := Lib.hid (fun (at2 : Nat) (sn : Dc) => @feedFit at2 sn)
    have c1 : (i : Int) ≤ (l.length : Int) := by omega
    clear hpart hmore hfit feedFit
    by_cases hlast : i < l.length
    · obtain ⟨a', c', e', hcells⟩ := HS.out
      injection e' with e1 _ e2
      subst e1 e2
      obtain ⟨bb, o, rfl, hc⟩ := hcells i hlast
      have hcW := (HB.out.cell (p := ⟨bb, o + i, none⟩) (cell_lt hc)).trans hc
      have q0 : (0 : Int) ≤ (i : Int) := by omega
      have q1 : (i : Int) < (l.length : Int) := by omega
      have e1 : (T.size : Int) + 1 - (ate : Int) = ((T.size + 1 - ate : Nat) : Int) := by omega
      have p1 : 1 ≤ T.size + 1 - ate := by omega
      have p2 : T.size + 1 - ate ≤ 1099511627776 := by omega
      have p3 : T.size + 1 - ate + ate = T.size + 1 := by omega
      clear hc hcells
      generalize T.size + 1 - ate = m0 at *
      go_wp2_with fail
      refine (pick_any _ m0 _ p1 p2).mono ?_
      rintro e w6 ⟨k, hk, rfl, rfl⟩
      obtain ⟨K, hK⟩ : ∃ K, K = k + ate := ⟨_, rfl⟩
      have hw : IntKind.i64.wrap ((k : Int) + (ate : Int)) = (K : Int) := by rw [IntWalk.i64_in _ (by omega)]; omega
      have r0 : (0 : Int) ≤ (ate : Int) := by omega
      have r1 : (ate : Int) ≤ (K : Int) := by omega
      have r2 : (K : Int) ≤ (T.size : Int) := by omega
      have r3 : (0 : Int) ≤ (K : Int) := by omega
      have hKt : K ≤ T.size := by omega
      have haK : ate ≤ K := by omega
      clear e1 q0 q1 p1 p2 p3 hk hK
      go_wp2_with fail
      refine (HPart.out K haK hKt _ HDo.out HB.out).mono ?_
      have hm := HMore.out K haK hKt
      unfold FeedPost
      generalize (feedD so (((bs T).drop ate).take (K - ate))).1 = m at *
      generalize (feedD so (((bs T).drop ate).take (K - ate))).2 = sn at *
      obtain ⟨m1, m2, m3⟩ := hm
      obtain ⟨s1, s2, s3⟩ := HStepT.out (ate + m) sn (by omega) m1
      rw [s1]
      rintro e w7 ⟨rfl, hd7⟩
      have HB7 := Lib.hid (HB.out.trans (DecTo.below HDo.out hd7))
      obtain ⟨y1, y2, y3, hdn, -⟩ := hd7
      have HDn := Lib.hid hdn
      have HFs := Lib.hid (HFeedFit.out _ sn m1 (by omega))
      obtain ⟨A, hA⟩ : ∃ A, A = ate + m := ⟨_, rfl⟩
      have hwA : IntKind.i64.wrap ((ate : Int) + (m : Int)) = (A : Int) := by rw [IntWalk.i64_in _ (by omega)]; omega
      have n0 : ¬ (m : Int) < 0 := by omega
      have n1 : ¬ (K : Int) - (ate : Int) < (m : Int) := by omega
      have hAT : A ≤ T.size := by omega
      rw [← hA] at m1 s2
      have hlastK : K = T.size → sn.mode ≠ 5 → A = T.size := fun h1 h2 => by
        rcases m3 h1 with h | h
        · rcases (stop_iff sn).1 h with h | h
          · exact absurd h h2
          · exact absurd s1 h
        · omega
      have HM1 := Lib.hid m1
      have HLK := Lib.hid hlastK
      clear hdn m1 m2 m3 s1 s3 hA hlastK
      by_cases h5 : sn.mode = 5
      · obtain ⟨f1, f2⟩ := s2 h5
        have hdn := done_yes HDn.out h5
        subst f2
        have hbd := body_any HDn.out
        rw [show (finB (bs body)).body = bs body from rfl, mkS_bs] at hbd
        have htr := trailers_any HDn.out (by show (1 : Nat) ≤ 1048576; decide)
        change Calls Tryd.prog 42 #[.pointer (some ⟨b, 0, none⟩)] w7 (OwnPost sumFs w7) at htr
        unfold OwnPost at htr
        have HDy := Lib.hid hdn
        have HBd := Lib.hid hbd
        have HTr := Lib.hid htr
        have hbq : (body.toList == body.toList) = true := by simp
        clear s2 h5 hdn hbd htr hAT
        subst f1
        go_wp2_with fail
        refine HDy.out.mono ?_
        rintro e w8 ⟨rfl, rfl⟩
        go_wp2_with fail
        refine HDy.out.mono ?_
        rintro e w8 ⟨rfl, rfl⟩
        go_wp2_with fail
        refine HBd.out.mono ?_
        rintro e w8 ⟨rfl, rfl⟩
        go_wp2_with fail
        refine HTr.out.mono ?_
        rintro e w9 ⟨z1, rfl, ho1, hz9⟩
        have hb9 : Below w9.heap.size w9 (w9.alloc (.cells #[.string ⟨#[83, 117, 109]⟩, .string ⟨#[49]⟩] 26)) := (Below.refl _ _).alloc (Nat.le_refl _) _
        have HI1 := Lib.hid (isFlds_below (isFlds_own ho1) hb9)
        have HI2 := Lib.hid (sumFs_at w9)
        have HB9 := Lib.hid (HB7.out.trans (hz9.mono HB7.out.size))
        have HB10 := Lib.hid (HB9.out.trans (hb9.mono HB9.out.size))
        clear ho1 hz9 hb9
        go_wp2_with fail
        refine (rsame_self _ _ sumFs _ HI1.out HI2.out (by decide) (by decide)).mono ?_
        rintro e w10 ⟨rfl, hz⟩
        have HB11 := Lib.hid (HB10.out.trans (hz.mono HB10.out.size))
        clear hz
        go_wp2_with fail
        go_ret
        exact ⟨rfl, HB11.out⟩
      · have hdn := done_no HDn.out (by have := HFs.out.mode; omega)
        have HDy := Lib.hid hdn
        have H5 := Lib.hid h5
        clear s2 hdn h5
        go_wp2_with fail
        refine HDy.out.mono ?_
        rintro e w8 ⟨rfl, rfl⟩
        go_wp2_with fail
        exact ⟨⟨i + 1, A, sn, y1, y2, y3, by omega, hAT, by go_num, by go_num, HM1, HDn, HB7, H5, Lib.hid (fun h => absurd h (by omega))⟩, by simp [RowKit.intOf]; omega⟩
    · have hil2 : i = l.length := by omega
      have c3 : ¬ (i : Int) < (l.length : Int) := by omega
      obtain ⟨K, hK⟩ : ∃ K, K = T.size := ⟨_, rfl⟩
      have r0 : (0 : Int) ≤ (ate : Int) := by omega
      have r1 : (ate : Int) ≤ (T.size : Int) := by omega
      have hKt : K ≤ T.size := by omega
      have haK : ate ≤ K := by omega
      clear hil2
      go_wp2_with fail
      rw [← hK]
      refine (HPart.out K haK hKt _ HDo.out HB.out).mono ?_
      have hm := HMore.out K haK hKt
      unfold FeedPost
      generalize (feedD so (((bs T).drop ate).take (K - ate))).1 = m at *
      generalize (feedD so (((bs T).drop ate).take (K - ate))).2 = sn at *
      obtain ⟨m1, m2, m3⟩ := hm
      obtain ⟨s1, s2, s3⟩ := HStepT.out (ate + m) sn (by omega) m1
      rw [s1]
      rintro e w7 ⟨rfl, hd7⟩
      have HB7 := Lib.hid (HB.out.trans (DecTo.below HDo.out hd7))
      obtain ⟨y1, y2, y3, hdn, -⟩ := hd7
      have HDn := Lib.hid hdn
      have HFs := Lib.hid (HFeedFit.out _ sn m1 (by omega))
      obtain ⟨A, hA⟩ : ∃ A, A = ate + m := ⟨_, rfl⟩
      have hwA : IntKind.i64.wrap ((ate : Int) + (m : Int)) = (A : Int) := by rw [IntWalk.i64_in _ (by omega)]; omega
      have n0 : ¬ (m : Int) < 0 := by omega
      have n1 : ¬ (K : Int) - (ate : Int) < (m : Int) := by omega
      have hAT : A ≤ T.size := by omega
      rw [← hA] at m1 s2
      have hlastK : K = T.size → sn.mode ≠ 5 → A = T.size := fun h1 h2 => by
        rcases m3 h1 with h | h
        · rcases (stop_iff sn).1 h with h | h
          · exact absurd h h2
          · exact absurd s1 h
        · omega
      have HM1 := Lib.hid m1
      have HLK := Lib.hid hlastK
      clear hdn m1 m2 m3 s1 s3 hA hlastK
      by_cases h5 : sn.mode = 5
      · obtain ⟨f1, f2⟩ := s2 h5
        have hdn := done_yes HDn.out h5
        subst f2
        have hbd := body_any HDn.out
        rw [show (finB (bs body)).body = bs body from rfl, mkS_bs] at hbd
        have htr := trailers_any HDn.out (by show (1 : Nat) ≤ 1048576; decide)
        change Calls Tryd.prog 42 #[.pointer (some ⟨b, 0, none⟩)] w7 (OwnPost sumFs w7) at htr
        unfold OwnPost at htr
        have HDy := Lib.hid hdn
        have HBd := Lib.hid hbd
        have HTr := Lib.hid htr
        have hbq : (body.toList == body.toList) = true := by simp
        clear s2 h5 hdn hbd htr hAT
        subst f1
        go_wp2_with fail
        refine HDy.out.mono ?_
        rintro e w8 ⟨rfl, rfl⟩
        go_wp2_with fail
        refine HDy.out.mono ?_
        rintro e w8 ⟨rfl, rfl⟩
        go_wp2_with fail
        refine HBd.out.mono ?_
        rintro e w8 ⟨rfl, rfl⟩
        go_wp2_with fail
        refine HTr.out.mono ?_
        rintro e w9 ⟨z1, rfl, ho1, hz9⟩
        have hb9 : Below w9.heap.size w9 (w9.alloc (.cells #[.string ⟨#[83, 117, 109]⟩, .string ⟨#[49]⟩] 26)) := (Below.refl _ _).alloc (Nat.le_refl _) _
        have HI1 := Lib.hid (isFlds_below (isFlds_own ho1) hb9)
        have HI2 := Lib.hid (sumFs_at w9)
        have HB9 := Lib.hid (HB7.out.trans (hz9.mono HB7.out.size))
        have HB10 := Lib.hid (HB9.out.trans (hb9.mono HB9.out.size))
        clear ho1 hz9 hb9
        go_wp2_with fail
        refine (rsame_self _ _ sumFs _ HI1.out HI2.out (by decide) (by decide)).mono ?_
        rintro e w10 ⟨rfl, hz⟩
        have HB11 := Lib.hid (HB10.out.trans (hz.mono HB10.out.size))
        clear hz
        go_wp2_with fail
        go_ret
        exact ⟨rfl, HB11.out⟩
      · have hdn := done_no HDn.out (by have := HFs.out.mode; omega)
        have HDy := Lib.hid hdn
        have H5 := Lib.hid h5
        clear s2 hdn h5
        go_wp2_with fail
        refine HDy.out.mono ?_
        rintro e w8 ⟨rfl, rfl⟩
        go_wp2_with fail
        exact ⟨⟨i + 1, A, sn, y1, y2, y3, by omega, hAT, by go_num, by go_num, HM1, HDn, HB7, H5, Lib.hid (fun _ => HLK.out hK H5.out)⟩, by simp [RowKit.intOf]; omega⟩

theorem back_any (body : ByteArray) (size : Int) (v : Value) (l : List Int) (behind : ByteArray) (w : World) (hs : IsInts w v l) (hv : ErrV w.heap.size w) (hB : Bruijn w.heap.size w) (hsz : size ≤ 9223372036854775807) :
    Calls Tryd.prog 5 #[.string body, .int .i64 size, v, .string behind] w (Yes2 w) := by
  by_cases h1 : body.size ≤ 200
  · by_cases h2 : behind.size ≤ 200
    · by_cases h3 : l.length ≤ 20
      · exact back_main body size v l behind w hs hv hB h1 h2 h3 hsz
      · exact back_big body size v l behind w hs hv (.inr ⟨h1, .inr ⟨h2, by omega⟩⟩)
    · exact back_big body size v l behind w hs hv (.inr ⟨h1, .inl (by omega)⟩)
  · exact back_big body size v l behind w hs hv (.inl (by omega))
end Tk
end Go.Proofs.YtanilbckakoogaaDoor
