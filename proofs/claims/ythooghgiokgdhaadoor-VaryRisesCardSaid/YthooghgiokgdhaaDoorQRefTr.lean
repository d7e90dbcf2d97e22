/- The document's own Trim. -/
import Derived.Test.YthooghgiokgdhaaDoorQRefA
import Derived.Test.YthooghgiokgdhaaDoorQA
namespace Go.Proofs.YthooghgiokgdhaaDoor
open Go.RowKit
namespace Tk

theorem tr_consW (c : UInt8) (l : Bs) (hc : wh c = true) : trimL (c :: l) = trimL l := by
  rw [trimL_eq, trimL_eq]
  unfold tr
  rw [List.reverse_cons, dropWhile_append]
  have h1 : ([c] : Bs).dropWhile wh = [] := by rw [List.dropWhile_cons, hc, if_pos rfl]; rfl
  by_cases h : l.reverse.dropWhile wh = []
  · rw [if_pos h, h, h1]
  · rw [if_neg h, List.reverse_append]
    show (c :: (l.reverse.dropWhile wh).reverse).dropWhile wh = _
    rw [List.dropWhile_cons, hc, if_pos rfl]
theorem tr_snocW (c : UInt8) (l : Bs) (hc : wh c = true) : trimL (l ++ [c]) = trimL l := by
  rw [trimL_eq, trimL_eq]
  congr 1
  unfold tr
  rw [List.reverse_append]
  show ((c :: l.reverse).dropWhile wh).reverse = _
  rw [List.dropWhile_cons, hc, if_pos rfl]
theorem wh_of (c : UInt8) : wh c = (decide (c.toNat = 32) || decide (c.toNat = 9)) := by
  have := u8_all (fun c => wh c == (decide (c.toNat = 32) || decide (c.toNat = 9))) (by decide +kernel) c
  simpa using this

set_option maxHeartbeats 400000 in
theorem rWhite_any (c : UInt8) (w : World) :
    Calls Tryd.prog 77 #[.int .u8 (c.toNat : Int)] w fun e w' => e = .returned (.bool (wh c)) ∧ w = w' := by
  have HD := Lib.hid (wh_of c)
  generalize wh c = b at *
  generalize c.toNat = n at *
  by_cases h0 : n = 32
  · have e0 : ((n : Int) == 32) = true := by rw [beq_iff_eq]; omega
    have H0 := Lib.hid h0
    clear h0
    go_enter Tryd.func77, Tryd.ntmps77
    go_wp2_with fail
    go_ret
    exact ⟨retB2 (by rw [HD.out, H0.out]; simp), rfl⟩
  · have e0 : ((n : Int) == 32) = false := by rw [beq_eq_false_iff_ne]; omega
    have hd := HD.out
    rw [decide_eq_false h0, Bool.false_or] at hd
    have HD2 := Lib.hid hd
    by_cases h1 : n = 9
    · have e1 : ((n : Int) == 9) = true := by rw [beq_iff_eq]; omega
      have HD3 := Lib.hid (show b = true by rw [hd, decide_eq_true h1])
      clear h0 h1 hd HD HD2
      go_enter Tryd.func77, Tryd.ntmps77
      go_wp2_with fail
      go_ret
      exact ⟨retB2 (by rw [HD3.out] <;> first | rfl | simp), rfl⟩
    · have e1 : ((n : Int) == 9) = false := by rw [beq_eq_false_iff_ne]; omega
      have HD3 := Lib.hid (show b = false by rw [hd, decide_eq_false h1])
      clear h0 h1 hd HD HD2
      go_enter Tryd.func77, Tryd.ntmps77
      go_wp2_with fail
      go_ret
      exact ⟨retB2 (by rw [HD3.out] <;> first | rfl | simp), rfl⟩

set_option maxHeartbeats 4000000 in
set_option maxRecDepth 100000 in
theorem rTrim_any (s : ByteArray) (w : World) (hs : s.size ≤ 1099511627776) :
    Calls Tryd.prog 54 #[.string s] w fun e w' => e = .returned (.string (mkS (trimL (bs s)))) ∧ w = w' := by
  go_enter Tryd.func54, Tryd.ntmps54
  go_wp2_with fail
  go_loop [0] (fun vs => ∃ t : ByteArray, vs = .string t ∧ t.size ≤ s.size ∧ Hid (trimL (bs t) = trimL (bs s))) (fun vs => match vs with | .string t => t.size | _ => 0)
  case atStart => exact ⟨s, rfl, Nat.le_refl _, rfl⟩
  case round =>
    obtain ⟨t, rfl, htz, hT⟩ := hrel
    have second : ∀ (c1 : t.size = 0 ∨ ∃ h : 0 < t.size, wh t[0] = false), ∀ c, (bs t).head? = some c → wh c = false := by
      rintro (h | ⟨h, h'⟩) c hc
      · have : bs t = [] := List.eq_nil_of_length_eq_zero (by rw [length_bs]; exact h)
        rw [this] at hc; cases hc
      · rw [bs_head t h] at hc
        injection hc with hc
        rw [← hc]; exact h'
    have hcase : t.size = 0 ∨ (0 < t.size ∧ ((∃ h : 0 < t.size, wh t[0] = false) ∨ ∃ h : 0 < t.size, wh t[0] = true)) := by
      by_cases hz : t.size = 0
      · exact .inl hz
      · right
        have hp : 0 < t.size := by omega
        refine ⟨hp, ?_⟩
        cases h : wh t[0]
        · exact .inl ⟨hp, h⟩
        · exact .inr ⟨hp, h⟩
    have HSec := Lib.hid second
    clear second
    rcases hcase with hz | ⟨hp, ⟨hp', hw⟩ | ⟨hp', hw⟩⟩
    · have he := empty_of t hz
      have HHd := Lib.hid (HSec.out (.inl hz))
      clear hz
      go_wp2_with fail
      go_loop [0] (fun vs => ∃ u : ByteArray, vs = .string u ∧ u.size ≤ s.size ∧ Hid (trimL (bs u) = trimL (bs s)) ∧ Hid (∀ c, (bs u).head? = some c → wh c = false)) (fun vs => match vs with | .string t => t.size | _ => 0)
      case atStart => exact ⟨t, rfl, htz, hT, HHd⟩
      case round =>
        obtain ⟨u, rfl, huz, hU, hH⟩ := hrel
        by_cases hz : u.size = 0
        · have he2 := empty_of u hz
          have hnil : bs u = [] := List.eq_nil_of_length_eq_zero (by rw [length_bs]; exact hz)
          have HF := Lib.hid (show mkS (trimL (bs s)) = u by rw [← hU.out, hnil]; exact (show mkS [] = u by rw [← hnil, mkS_bs]))
          clear hz hnil
          go_wp2_with fail
          go_ret
          exact ⟨by rw [HF.out]; rfl, rfl⟩
        · have hup : 0 < u.size := by omega
          have he2 := not_empty_of u hup
          have hul : u.size - 1 < u.size := by omega
          have k1 : IntKind.i64.wrap ((u.size : Int) - 1) = ((u.size - 1 : Nat) : Int) := by rw [IntWalk.i64_in _ (by omega)]; omega
          have k2 : ((u.size : Int) - 1).toNat = u.size - 1 := by omega
          have hsp : bs u = (bs u).take (u.size - 1) ++ [u[u.size - 1]'hul] := by
            have h1 := take_snoc (bs u) (u.size - 1) (by rw [length_bs]; exact hul)
            rw [getD_bs u _ hul, show u.size - 1 + 1 = u.size by omega, List.take_of_length_le (by rw [length_bs]; exact Nat.le_refl _)] at h1
            exact h1
          have HC := rWhite_any (u[u.size - 1]'hul) w
          cases hl : wh (u[u.size - 1]'hul)
          · rw [hl] at HC
            have hneat : Neat (bs u) := ⟨hH.out, fun c hc => by
              rw [hsp, List.getLast?_append] at hc
              simp at hc
              rw [← hc]; exact hl⟩
            have HF := Lib.hid (show mkS (trimL (bs s)) = u by rw [← hU.out, neat_trim _ hneat, mkS_bs])
            have HC2 := Lib.hid HC
            clear HC hl hsp hneat hz
            go_wp2_with fail
            refine HC2.out.mono ?_
            rintro e w' ⟨rfl, rfl⟩
            go_wp2_with fail
            go_ret
            exact ⟨by rw [HF.out]; rfl, rfl⟩
          · rw [hl] at HC
            have hbu : bs (u.extract 0 (u.size - 1)) = (bs u).take (u.size - 1) := by rw [bs_extract]; simp
            have hzu : (u.extract 0 (u.size - 1)).size = u.size - 1 := by rw [← length_bs, hbu, List.length_take, length_bs]; omega
            have hU2 : Hid (trimL (bs (u.extract 0 (u.size - 1))) = trimL (bs s)) := by
              show _ = _
              rw [hbu, ← hU.out]
              conv => rhs; rw [hsp]
              rw [tr_snocW _ _ hl]
            have hH2 : Hid (∀ c, (bs (u.extract 0 (u.size - 1))).head? = some c → wh c = false) := by
              intro c hc
              refine hH.out c ?_
              rw [hbu] at hc
              rw [hsp]
              cases hq : (bs u).take (u.size - 1) with
              | nil => rw [hq] at hc; cases hc
              | cons a q => rw [hq] at hc; exact hc
            have HZU := Lib.hid hzu
            have HC2 := Lib.hid HC
            clear HC hl hsp hbu hzu hz
            go_wp2_with fail
            refine HC2.out.mono ?_
            rintro e w' ⟨rfl, rfl⟩
            go_wp2_with fail
            exact ⟨⟨u.extract 0 (u.size - 1), rfl, by rw [HZU.out]; omega, hU2, hH2⟩, by show (u.extract 0 (u.size - 1)).size < u.size; rw [HZU.out]; omega⟩
    · have he := not_empty_of t hp
      have hp2 : (0 : Int) < (t.size : Int) := by omega
      have HHd := Lib.hid (HSec.out (.inr ⟨hp', hw⟩))
      have HC0 := rWhite_any t[0] w
      rw [hw] at HC0
      have HC1 := Lib.hid HC0
      clear HC0 hw
      go_wp2_with fail
      refine HC1.out.mono ?_
      rintro e w' ⟨rfl, rfl⟩
      go_wp2_with fail
      go_loop [0] (fun vs => ∃ u : ByteArray, vs = .string u ∧ u.size ≤ s.size ∧ Hid (trimL (bs u) = trimL (bs s)) ∧ Hid (∀ c, (bs u).head? = some c → wh c = false)) (fun vs => match vs with | .string t => t.size | _ => 0)
      case atStart => exact ⟨t, rfl, htz, hT, HHd⟩
      case round =>
        obtain ⟨u, rfl, huz, hU, hH⟩ := hrel
        by_cases hz : u.size = 0
        · have he2 := empty_of u hz
          have hnil : bs u = [] := List.eq_nil_of_length_eq_zero (by rw [length_bs]; exact hz)
          have HF := Lib.hid (show mkS (trimL (bs s)) = u by rw [← hU.out, hnil]; exact (show mkS [] = u by rw [← hnil, mkS_bs]))
          clear hz hnil
          go_wp2_with fail
          go_ret
          exact ⟨by rw [HF.out]; rfl, rfl⟩
        · have hup : 0 < u.size := by omega
          have he2 := not_empty_of u hup
          have hul : u.size - 1 < u.size := by omega
          have k1 : IntKind.i64.wrap ((u.size : Int) - 1) = ((u.size - 1 : Nat) : Int) := by rw [IntWalk.i64_in _ (by omega)]; omega
          have k2 : ((u.size : Int) - 1).toNat = u.size - 1 := by omega
          have hsp : bs u = (bs u).take (u.size - 1) ++ [u[u.size - 1]'hul] := by
            have h1 := take_snoc (bs u) (u.size - 1) (by rw [length_bs]; exact hul)
            rw [getD_bs u _ hul, show u.size - 1 + 1 = u.size by omega, List.take_of_length_le (by rw [length_bs]; exact Nat.le_refl _)] at h1
            exact h1
          have HC := rWhite_any (u[u.size - 1]'hul) w
          cases hl : wh (u[u.size - 1]'hul)
          · rw [hl] at HC
            have hneat : Neat (bs u) := ⟨hH.out, fun c hc => by
              rw [hsp, List.getLast?_append] at hc
              simp at hc
              rw [← hc]; exact hl⟩
            have HF := Lib.hid (show mkS (trimL (bs s)) = u by rw [← hU.out, neat_trim _ hneat, mkS_bs])
            have HC2 := Lib.hid HC
            clear HC hl hsp hneat hz
            go_wp2_with fail
            refine HC2.out.mono ?_
            rintro e w' ⟨rfl, rfl⟩
            go_wp2_with fail
            go_ret
            exact ⟨by rw [HF.out]; rfl, rfl⟩
          · rw [hl] at HC
            have hbu : bs (u.extract 0 (u.size - 1)) = (bs u).take (u.size - 1) := by rw [bs_extract]; simp
            have hzu : (u.extract 0 (u.size - 1)).size = u.size - 1 := by rw [← length_bs, hbu, List.length_take, length_bs]; omega
            have hU2 : Hid (trimL (bs (u.extract 0 (u.size - 1))) = trimL (bs s)) := by
              show _ = _
              rw [hbu, ← hU.out]
              conv => rhs; rw [hsp]
              rw [tr_snocW _ _ hl]
            have hH2 : Hid (∀ c, (bs (u.extract 0 (u.size - 1))).head? = some c → wh c = false) := by
              intro c hc
              refine hH.out c ?_
              rw [hbu] at hc
              rw [hsp]
              cases hq : (bs u).take (u.size - 1) with
              | nil => rw [hq] at hc; cases hc
              | cons a q => rw [hq] at hc; exact hc
            have HZU := Lib.hid hzu
            have HC2 := Lib.hid HC
            clear HC hl hsp hbu hzu hz
            go_wp2_with fail
            refine HC2.out.mono ?_
            rintro e w' ⟨rfl, rfl⟩
            go_wp2_with fail
            exact ⟨⟨u.extract 0 (u.size - 1), rfl, by rw [HZU.out]; omega, hU2, hH2⟩, by show (u.extract 0 (u.size - 1)).size < u.size; rw [HZU.out]; omega⟩
    · have he := not_empty_of t hp
      have hp2 : (0 : Int) < (t.size : Int) := by omega
      have hp1 : (1 : Int) ≤ (t.size : Int) := by omega
      have HC0 := rWhite_any t[0] w
      rw [hw] at HC0
      have HC1 := Lib.hid HC0
      have hbt : bs (t.extract 1 t.size) = (bs t).drop 1 := by
        rw [bs_extract, List.take_of_length_le (by rw [List.length_drop, length_bs]; exact Nat.le_refl _)]
      have hzt : (t.extract 1 t.size).size = t.size - 1 := by rw [← length_bs, hbt, List.length_drop, length_bs]
      have hT2 : Hid (trimL (bs (t.extract 1 t.size)) = trimL (bs s)) := by
        show _ = _
        have h1 := bs_drop t 0 hp
        rw [List.drop_zero] at h1
        rw [hbt, ← hT.out]
        conv => rhs; rw [h1]
        rw [tr_consW _ _ hw]
      have HZT := Lib.hid hzt
      clear HC0 hw hbt hzt
      go_wp2_with fail
      refine HC1.out.mono ?_
      rintro e w' ⟨rfl, rfl⟩
      go_wp2_with fail
      exact ⟨⟨t.extract 1 t.size, rfl, by rw [HZT.out]; omega, hT2⟩, by show (t.extract 1 t.size).size < t.size; rw [HZT.out]; omega⟩
end Tk
end Go.Proofs.YthooghgiokgdhaaDoor
