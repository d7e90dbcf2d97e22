/- RefTr RefCk FldL Bld BldS FldM FldN RefLn Sam FldS Str FldG, put together. -/
import Derived.Test.YtpcdaaijlgilkaaDoorQA
import Derived.Shelf.Strings.Builder1
import Derived.Laws.StructEq
import Derived.IntWalk
import Derived.Deep.QuietTactic
import Derived.BigQuiet
import Derived.Deep.RegionHeld3
namespace Go.Proofs.YtpcdaaijlgilkaaDoor
open Go.RowKit
namespace Tk

theorem tr_consW (c : UInt8) (l : Bs) (hc : wh c = true) : trimL (c :: l) = trimL l := by
  rw [trimL_eq, trimL_eq]
  unfold tr
  rw [List.reverse_cons, dropWhile_append]
  have h1 : ([c] : Bs).dropWhile wh = [] := by rw [List.dropWhile_cons, hc, if_pos rfl]; rfl
  by_cases h : l.reverse.dropWhile wh = []
  · rw [if_pos h, h, h1]
  · rw [if_neg h, List.reverse_append]
    show (c :: (l.reverse.dropWhile wh).reverse).dropWhile wh = _
    rw [List.dropWhile_cons, hc, if_pos rfl]
theorem tr_snocW (c : UInt8) (l : Bs) (hc : wh c = true) : trimL (l ++ [c]) = trimL l := by
  rw [trimL_eq, trimL_eq]
  congr 1
  unfold tr
  rw [List.reverse_append]
  show ((c :: l.reverse).dropWhile wh).reverse = _
  rw [List.dropWhile_cons, hc, if_pos rfl]
theorem wh_of (c : UInt8) : wh c = (decide (c.toNat = 32) || decide (c.toNat = 9)) := by
  have := u8_all (fun c => wh c == (decide (c.toNat = 32) || decide (c.toNat = 9))) (by decide +kernel) c
  simpa using this

set_option maxHeartbeats 400000 in
theorem rWhite_any (c : UInt8) (w : World) :
    Calls Tryd.prog 59 #[.int .u8 (c.toNat : Int)] w fun e w' => e = .returned (.bool (wh c)) ∧ w = w' := by
  have HD := Lib.hid (wh_of c)
  generalize wh c = b at *
  generalize c.toNat = n at *
  by_cases h0 : n = 32
  · have e0 : ((n : Int) == 32) = true := by rw [beq_iff_eq]; omega
    have H0 := Lib.hid h0
    clear h0
    go_enter Tryd.func59, Tryd.ntmps59
    go_wp2_with fail
    go_ret
    exact ⟨retB2 (by rw [HD.out, H0.out]; simp), rfl⟩
  · have e0 : ((n : Int) == 32) = false := by rw [beq_eq_false_iff_ne]; omega
    have hd := HD.out
    rw [decide_eq_false h0, Bool.false_or] at hd
    have HD2 := Lib.hid hd
    by_cases h1 : n = 9
    · have e1 : ((n : Int) == 9) = true := by rw [beq_iff_eq]; omega
      have HD3 := Lib.hid (show b = true by rw [hd, decide_eq_true h1])
      clear h0 h1 hd HD HD2
      go_enter Tryd.func59, Tryd.ntmps59
      go_wp2_with fail
      go_ret
      exact ⟨retB2 (by rw [HD3.out] <;> first | rfl | simp), rfl⟩
    · have e1 : ((n : Int) == 9) = false := by rw [beq_eq_false_iff_ne]; omega
      have HD3 := Lib.hid (show b = false by rw [hd, decide_eq_false h1])
      clear h0 h1 hd HD HD2
      go_enter Tryd.func59, Tryd.ntmps59
      go_wp2_with fail
      go_ret
      exact ⟨retB2 (by rw [HD3.out] <;> first | rfl | simp), rfl⟩

set_option maxHeartbeats 4000000 in
set_option maxRecDepth 100000 in
theorem rTrim_any (s : ByteArray) (w : World) (hs : s.size ≤ 1099511627776) :
    Calls Tryd.prog 33 #[.string s] w fun e w' => e = .returned (.string (mkS (trimL (bs s)))) ∧ w = w' := by
  go_enter Tryd.func33, Tryd.ntmps33
  go_wp2_with fail
  go_loop [0] (fun vs => ∃ t : ByteArray, vs = .string t ∧ t.size ≤ s.size ∧ Hid (trimL (bs t) = trimL (bs s))) (fun vs => match vs with | .string t => t.size | _ => 0)
  case atStart => exact ⟨s, rfl, Nat.le_refl _, rfl⟩
  case round =>
    obtain ⟨t, rfl, htz, hT⟩ := hrel
    have second : ∀ (c1 : t.size = 0 ∨ ∃ h : 0 < t.size, wh t[0] = false), ∀ c, (bs t).head? = some c → wh c = false := by
      rintro (h | ⟨h, h'⟩) c hc
      · have : bs t = [] := List.eq_nil_of_length_eq_zero (by rw [length_bs]; exact h)
        rw [this] at hc; cases hc
      · rw [bs_head t h] at hc
        injection hc with hc
        rw [← hc]; exact h'
    have hcase : t.size = 0 ∨ (0 < t.size ∧ ((∃ h : 0 < t.size, wh t[0] = false) ∨ ∃ h : 0 < t.size, wh t[0] = true)) := by
      by_cases hz : t.size = 0
      · exact .inl hz
      · right
        have hp : 0 < t.size := by omega
        refine ⟨hp, ?_⟩
        cases h : wh t[0]
        · exact .inl ⟨hp, h⟩
        · exact .inr ⟨hp, h⟩
    have HSec := Lib.hid second
    clear second
    rcases hcase with hz | ⟨hp, ⟨hp', hw⟩ | ⟨hp', hw⟩⟩
    · have he := empty_of t hz
      have HHd := Lib.hid (HSec.out (.inl hz))
      clear hz
      go_wp2_with fail
      go_loop [0] (fun vs => ∃ u : ByteArray, vs = .string u ∧ u.size ≤ s.size ∧ Hid (trimL (bs u) = trimL (bs s)) ∧ Hid (∀ c, (bs u).head? = some c → wh c = false)) (fun vs => match vs with | .string t => t.size | _ => 0)
      case atStart => exact ⟨t, rfl, htz, hT, HHd⟩
      case round =>
        obtain ⟨u, rfl, huz, hU, hH⟩ := hrel
        by_cases hz : u.size = 0
        · have he2 := empty_of u hz
          have hnil : bs u = [] := List.eq_nil_of_length_eq_zero (by rw [length_bs]; exact hz)
          have HF := Lib.hid (show mkS (trimL (bs s)) = u by rw [← hU.out, hnil]; exact (show mkS [] = u by rw [← hnil, mkS_bs]))
          clear hz hnil
          go_wp2_with fail
          go_ret
          exact ⟨by rw [HF.out]; rfl, rfl⟩
        · have hup : 0 < u.size := by omega
          have he2 := not_empty_of u hup
          have hul : u.size - 1 < u.size := by omega
          have k1 : IntKind.i64.wrap ((u.size : Int) - 1) = ((u.size - 1 : Nat) : Int) := by rw [IntWalk.i64_in _ (by omega)]; omega
          have k2 : ((u.size : Int) - 1).toNat = u.size - 1 := by omega
          have hsp : bs u = (bs u).take (u.size - 1) ++ [u[u.size - 1]'hul] := by
            have h1 := take_snoc (bs u) (u.size - 1) (by rw [length_bs]; exact hul)
            rw [getD_bs u _ hul, show u.size - 1 + 1 = u.size by omega, List.take_of_length_le (by rw [length_bs]; exact Nat.le_refl _)] at h1
            exact h1
          have HC := rWhite_any (u[u.size - 1]'hul) w
          cases hl : wh (u[u.size - 1]'hul)
          · rw [hl] at HC
            have hneat : Neat (bs u) := ⟨hH.out, fun c hc => by
              rw [hsp, List.getLast?_append] at hc
              simp at hc
              rw [← hc]; exact hl⟩
            have HF := Lib.hid (show mkS (trimL (bs s)) = u by rw [← hU.out, neat_trim _ hneat, mkS_bs])
            have HC2 := Lib.hid HC
            clear HC hl hsp hneat hz
            go_wp2_with fail
            refine HC2.out.mono ?_
            rintro e w' ⟨rfl, rfl⟩
            go_wp2_with fail
            go_ret
            exact ⟨by rw [HF.out]; rfl, rfl⟩
          · rw [hl] at HC
            have hbu : bs (u.extract 0 (u.size - 1)) = (bs u).take (u.size - 1) := by rw [bs_extract]; simp
            have hzu : (u.extract 0 (u.size - 1)).size = u.size - 1 := by rw [← length_bs, hbu, List.length_take, length_bs]; omega
            have hU2 : Hid (trimL (bs (u.extract 0 (u.size - 1))) = trimL (bs s)) := by
              show _ = _
              rw [hbu, ← hU.out]
              conv => rhs; rw [hsp]
              rw [tr_snocW _ _ hl]
            have hH2 : Hid (∀ c, (bs (u.extract 0 (u.size - 1))).head? = some c → wh c = false) := by
              intro c hc
              refine hH.out c ?_
              rw [hbu] at hc
              rw [hsp]
              cases hq : (bs u).take (u.size - 1) with
              | nil => rw [hq] at hc; cases hc
              | cons a q => rw [hq] at hc; exact hc
            have HZU := Lib.hid hzu
            have HC2 := Lib.hid HC
            clear HC hl hsp hbu hzu hz
            go_wp2_with fail
            refine HC2.out.mono ?_
            rintro e w' ⟨rfl, rfl⟩
            go_wp2_with fail
            exact ⟨⟨u.extract 0 (u.size - 1), rfl, by rw [HZU.out]; omega, hU2, hH2⟩, by show (u.extract 0 (u.size - 1)).size < u.size; rw [HZU.out]; omega⟩
    · have he := not_empty_of t hp
      have hp2 : (0 : Int) < (t.size : Int) := by omega
      have HHd := Lib.hid (HSec.out (.inr ⟨hp', hw⟩))
      have HC0 := rWhite_any t[0] w
      rw [hw] at HC0
      have HC1 := Lib.hid HC0
      clear HC0 hw
      go_wp2_with fail
      refine HC1.out.mono ?_
      rintro e w' ⟨rfl, rfl⟩
      go_wp2_with fail
      go_loop [0] (fun vs => ∃ u : ByteArray, vs = .string u ∧ u.size ≤ s.size ∧ Hid (trimL (bs u) = trimL (bs s)) ∧ Hid (∀ c, (bs u).head? = some c → wh c = false)) (fun vs => match vs with | .string t => t.size | _ => 0)
      case atStart => exact ⟨t, rfl, htz, hT, HHd⟩
      case round =>
        obtain ⟨u, rfl, huz, hU, hH⟩ := hrel
        by_cases hz : u.size = 0
        · have he2 := empty_of u hz
          have hnil : bs u = [] := List.eq_nil_of_length_eq_zero (by rw [length_bs]; exact hz)
          have HF := Lib.hid (show mkS (trimL (bs s)) = u by rw [← hU.out, hnil]; exact (show mkS [] = u by rw [← hnil, mkS_bs]))
          clear hz hnil
          go_wp2_with fail
          go_ret
          exact ⟨by rw [HF.out]; rfl, rfl⟩
        · have hup : 0 < u.size := by omega
          have he2 := not_empty_of u hup
          have hul : u.size - 1 < u.size := by omega
          have k1 : IntKind.i64.wrap ((u.size : Int) - 1) = ((u.size - 1 : Nat) : Int) := by rw [IntWalk.i64_in _ (by omega)]; omega
          have k2 : ((u.size : Int) - 1).toNat = u.size - 1 := by omega
          have hsp : bs u = (bs u).take (u.size - 1) ++ [u[u.size - 1]'hul] := by
            have h1 := take_snoc (bs u) (u.size - 1) (by rw [length_bs]; exact hul)
            rw [getD_bs u _ hul, show u.size - 1 + 1 = u.size by omega, List.take_of_length_le (by rw [length_bs]; exact Nat.le_refl _)] at h1
            exact h1
          have HC := rWhite_any (u[u.size - 1]'hul) w
          cases hl : wh (u[u.size - 1]'hul)
          · rw [hl] at HC
            have hneat : Neat (bs u) := ⟨hH.out, fun c hc => by
              rw [hsp, List.getLast?_append] at hc
              simp at hc
              rw [← hc]; exact hl⟩
            have HF := Lib.hid (show mkS (trimL (bs s)) = u by rw [← hU.out, neat_trim _ hneat, mkS_bs])
            have HC2 := Lib.hid HC
            clear HC hl hsp hneat hz
            go_wp2_with fail
            refine HC2.out.mono ?_
            rintro e w' ⟨rfl, rfl⟩
            go_wp2_with fail
            go_ret
            exact ⟨by rw [HF.out]; rfl, rfl⟩
          · rw [hl] at HC
            have hbu : bs (u.extract 0 (u.size - 1)) = (bs u).take (u.size - 1) := by rw [bs_extract]; simp
            have hzu : (u.extract 0 (u.size - 1)).size = u.size - 1 := by rw [← length_bs, hbu, List.length_take, length_bs]; omega
            have hU2 : Hid (trimL (bs (u.extract 0 (u.size - 1))) = trimL (bs s)) := by
              show _ = _
              rw [hbu, ← hU.out]
              conv => rhs; rw [hsp]
              rw [tr_snocW _ _ hl]
            have hH2 : Hid (∀ c, (bs (u.extract 0 (u.size - 1))).head? = some c → wh c = false) := by
              intro c hc
              refine hH.out c ?_
              rw [hbu] at hc
              rw [hsp]
              cases hq : (bs u).take (u.size - 1) with
              | nil => rw [hq] at hc; cases hc
              | cons a q => rw [hq] at hc; exact hc
            have HZU := Lib.hid hzu
            have HC2 := Lib.hid HC
            clear HC hl hsp hbu hzu hz
            go_wp2_with fail
            refine HC2.out.mono ?_
            rintro e w' ⟨rfl, rfl⟩
            go_wp2_with fail
            exact ⟨⟨u.extract 0 (u.size - 1), rfl, by rw [HZU.out]; omega, hU2, hH2⟩, by show (u.extract 0 (u.size - 1)).size < u.size; rw [HZU.out]; omega⟩
    · have he := not_empty_of t hp
      have hp2 : (0 : Int) < (t.size : Int) := by omega
      have hp1 : (1 : Int) ≤ (t.size : Int) := by omega
      have HC0 := rWhite_any t[0] w
      rw [hw] at HC0
      have HC1 := Lib.hid HC0
      have hbt : bs (t.extract 1 t.size) = (bs t).drop 1 := by
        rw [bs_extract, List.take_of_length_le (by rw [List.length_drop, length_bs]; exact Nat.le_refl _)]
      have hzt : (t.extract 1 t.size).size = t.size - 1 := by rw [← length_bs, hbt, List.length_drop, length_bs]
      have hT2 : Hid (trimL (bs (t.extract 1 t.size)) = trimL (bs s)) := by
        show _ = _
        have h1 := bs_drop t 0 hp
        rw [List.drop_zero] at h1
        rw [hbt, ← hT.out]
        conv => rhs; rw [h1]
        rw [tr_consW _ _ hw]
      have HZT := Lib.hid hzt
      clear HC0 hw hbt hzt
      go_wp2_with fail
      refine HC1.out.mono ?_
      rintro e w' ⟨rfl, rfl⟩
      go_wp2_with fail
      exact ⟨⟨t.extract 1 t.size, rfl, by rw [HZT.out]; omega, hT2⟩, by show (t.extract 1 t.size).size < t.size; rw [HZT.out]; omega⟩
end Tk
end Go.Proofs.YtpcdaaijlgilkaaDoor
namespace Go.Proofs.YtpcdaaijlgilkaaDoor
open Go.RowKit
namespace Tk

set_option maxHeartbeats 2000000 in
set_option maxRecDepth 100000 in
theorem rcheck_any (n v : ByteArray) (w : World) (hn : n.size ≤ 1099511627776) (hv : v.size ≤ 1099511627776) :
    Calls Tryd.prog 28 #[.agg #[.string n, .string v]] w fun e w' => e = .returned (.int .i64 (okE (bs n) (bs v))) ∧ Below w.heap.size w w' := by
  have HT := Lib.hid (fun W : World => show Calls Tryd.prog 54 #[.string n] W (fun e w' => e = .returned (.bool (!(bs n).isEmpty && allL 2 (bs n))) ∧ Below W.heap.size W w') from (rToken_any n W hn).mono fun _ _ h => ⟨h.1, h.2 ▸ Below.refl _ _⟩)
  have HC := Lib.hid (fun W : World => show Calls Tryd.prog 55 #[.string v] W (fun e w' => e = .returned (.bool (allL 1 (bs v))) ∧ Below W.heap.size W w') from (rChars_any v W hv).mono fun _ _ h => ⟨h.1, h.2 ▸ Below.refl _ _⟩)
  have HR := Lib.hid (fun W : World => show Calls Tryd.prog 33 #[.string v] W (fun e w' => e = .returned (.string (mkS (trimL (bs v)))) ∧ Below W.heap.size W w') from (rTrim_any v W hv).mono fun _ _ h => ⟨h.1, h.2 ▸ Below.refl _ _⟩)
  obtain ⟨hN0, hN1⟩ := cell_new w (.string n) (.string v) 26
  have hB0 : Below w.heap.size w (w.alloc (.cells #[.string n, .string v] 26)).drew := ((Below.refl _ _).alloc (Nat.le_refl _) _).drew
  have hg : w.heap.size < (w.alloc (.cells #[.string n, .string v] 26)).heap.size := by simp
  have hgl := Nat.le_of_lt hg
  cases ht : (!(bs n).isEmpty && allL 2 (bs n))
  · have fin : okE (bs n) (bs v) = 4 := okE_no _ _ (by unfold okF; rw [ht]; rfl)
    rw [ht] at HT
    have HF := Lib.hid fin
    clear fin ht
    go_enter Tryd.func28, Tryd.ntmps28
    go_wp2_with fail
    generalize w.alloc (.cells #[.string n, .string v] 26) = W0 at *
    generalize hgw : w.heap.size = g at *
    have HGW := Lib.hid hgw
    clear hgw
    first
    | go_region_with (first | (go_at_call 54; refine (keep_cell (HT.out _) ⟨g, 1, none⟩ _ (by assumption) (by assumption) (by assumption) (by assumption)).mono ?_; rintro e w' ⟨rfl, hb, hs, hc', hg'⟩))
    | fail
    all_goals
      go_wp2_with fail
      go_ret
      exact ⟨by rw [HF.out]; rfl, by rw [HGW.out]; assumption⟩
  · rw [ht] at HT
    cases hc : allL 1 (bs v)
    · have fin : okE (bs n) (bs v) = 4 := okE_no _ _ (by unfold okF; rw [ht, hc]; rfl)
      rw [hc] at HC
      have HF := Lib.hid fin
      clear fin ht hc
      go_enter Tryd.func28, Tryd.ntmps28
      go_wp2_with fail
      generalize w.alloc (.cells #[.string n, .string v] 26) = W0 at *
      generalize hgw : w.heap.size = g at *
      have HGW := Lib.hid hgw
      clear hgw
      first
      | go_region_with (first | (go_at_call 54; refine (keep_cell (HT.out _) ⟨g, 1, none⟩ _ (by assumption) (by assumption) (by assumption) (by assumption)).mono ?_; rintro e w' ⟨rfl, hb, hs, hc', hg'⟩) | (go_at_call 55; refine (keep_cell (HC.out _) ⟨g, 1, none⟩ _ (by assumption) (by assumption) (by assumption) (by assumption)).mono ?_; rintro e w' ⟨rfl, hb, hs, hc', hg'⟩))
      | fail
      all_goals
        go_wp2_with fail
        go_ret
        exact ⟨by rw [HF.out]; rfl, by rw [HGW.out]; assumption⟩
    · have hne := beq_bs (trimL (bs v)) v
      rw [hc] at HC
      cases htr : decide (trimL (bs v) = bs v)
      all_goals
        have hfin : okE (bs n) (bs v) = if decide (trimL (bs v) = bs v) then 0 else 4 := by unfold okE okF; rw [ht, hc]; simp
        rw [htr] at hne hfin
        have HF := Lib.hid hfin
        clear hfin ht hc htr
        generalize trimL (bs v) = t at *
        go_enter Tryd.func28, Tryd.ntmps28
        go_wp2_with fail
        generalize w.alloc (.cells #[.string n, .string v] 26) = W0 at *
        generalize hgw : w.heap.size = g at *
        have HGW := Lib.hid hgw
        clear hgw
        first
        | go_region_with (first | (go_at_call 54; refine (keep_cell (HT.out _) ⟨g, 1, none⟩ _ (by assumption) (by assumption) (by assumption) (by assumption)).mono ?_; rintro e w' ⟨rfl, hb, hs, hc', hg'⟩) | (go_at_call 55; refine (keep_cell (HC.out _) ⟨g, 1, none⟩ _ (by assumption) (by assumption) (by assumption) (by assumption)).mono ?_; rintro e w' ⟨rfl, hb, hs, hc', hg'⟩) | (go_at_call 33; refine (keep_cell (HR.out _) ⟨g, 1, none⟩ _ (by assumption) (by assumption) (by assumption) (by assumption)).mono ?_; rintro e w' ⟨rfl, hb, hs, hc', hg'⟩))
        | fail
        all_goals
          go_wp2_with fail
          go_ret
          exact ⟨by rw [HF.out]; rfl, by rw [HGW.out]; assumption⟩
end Tk
end Go.Proofs.YtpcdaaijlgilkaaDoor
namespace Go.Proofs.YtpcdaaijlgilkaaDoor
open Go.RowKit
namespace Tk

def lnN (l : Bs) : Bs := if lineOk l then lineN l else []
def lnV (l : Bs) : Bs := if lineOk l then lineV l else []
def lnE (l : Bs) : Int := if lineOk l then 0 else 4
def LinePost (l : Bs) (w : World) (e : Ending) (w' : World) : Prop := e = .returned (.tuple #[.agg #[.string (mkS (lnN l)), .string (mkS (lnV l))], .int .i64 (lnE l)]) ∧ Below w.heap.size w w'
theorem ln_ok (l : Bs) (h : lineOk l = true) : lnN l = lineN l ∧ lnV l = lineV l ∧ lnE l = 0 := by unfold lnN lnV lnE; rw [h]; exact ⟨rfl, rfl, rfl⟩
theorem ln_no (l : Bs) (h : lineOk l = false) : lnN l = [] ∧ lnV l = [] ∧ lnE l = 4 := by unfold lnN lnV lnE; rw [h]; exact ⟨rfl, rfl, rfl⟩

theorem cut_len1 (c : UInt8) (l : Bs) : (cutL c l).1.length ≤ l.length := by
  unfold cutL
  split
  · exact (List.takeWhile_sublist (· != c) (l := l)).length_le
  · exact Nat.le_refl _
theorem cut_len2 (c : UInt8) (l : Bs) : (cutL c l).2.1.length ≤ l.length := by
  unfold cutL
  split
  · refine Nat.le_trans (by simp) ((List.dropWhile_sublist (· != c) (l := l)).length_le)
  · simp

/-- a block of two cells of the call's own, and what becomes of it -/
def Two (w : World) (g : Nat) (T : TypeId) (a b : Value) : Prop := w.heap[g]? = some (.cells #[a, b] T (0, 0))
theorem Two.new (w : World) (T : TypeId) (a b : Value) : Two (w.alloc (.cells #[a, b] T)) w.heap.size T a b := heap_alloc_last w _
theorem Two.later {w w' : World} {g : Nat} {T : TypeId} {a b : Value} (h : Two w g T a b) (hb : Below w.heap.size w w') : Two w' g T a b := by
  unfold Two at *
  have hlt : g < w.heap.size := (Array.getElem?_eq_some_iff.1 h).1
  rw [hb.block g hlt]; exact h
theorem Two.draws {w : World} {g : Nat} {T : TypeId} {a b : Value} (h : Two w g T a b) (n : Nat) : Two (w.drewN n) g T a b := h
theorem Two.lt {w : World} {g : Nat} {T : TypeId} {a b : Value} (h : Two w g T a b) : g < w.heap.size := (Array.getElem?_eq_some_iff.1 h).1
theorem Two.c0 {w : World} {g : Nat} {T : TypeId} {a b : Value} (h : Two w g T a b) : w.cell? ⟨g, 0, none⟩ = some a := by rw [Lib.cell_of_heap h]; rfl
theorem Two.c1 {w : World} {g : Nat} {T : TypeId} {a b : Value} (h : Two w g T a b) : w.cell? ⟨g, 1, none⟩ = some b := by rw [Lib.cell_of_heap h]; rfl
theorem Two.f0 {w : World} {g : Nat} {T : TypeId} {a b : Value} (h : Two w g T a b) : w.frozen? ⟨g, 0, none⟩ = false := Lib.frozen_of_heap h 0
theorem Two.f1 {w : World} {g : Nat} {T : TypeId} {a b : Value} (h : Two w g T a b) : w.frozen? ⟨g, 1, none⟩ = false := Lib.frozen_of_heap h 1

theorem Two.set {w : World} {g : Nat} {T : TypeId} {a b : Value} (h : Two w g T a b) (a' b' : Value) (o : Obj) :
    (((w.setCell ⟨g, 0, none⟩ a').setCell ⟨g, 1, none⟩ b').alloc o).cell? ⟨g, 0, none⟩ = some a' ∧ (((w.setCell ⟨g, 0, none⟩ a').setCell ⟨g, 1, none⟩ b').alloc o).cell? ⟨g, 1, none⟩ = some b' := by
  have hlt : g < ((w.setCell ⟨g, 0, none⟩ a').setCell ⟨g, 1, none⟩ b').heap.size := by simpa using h.lt
  have h1 : (w.setCell ⟨g, 0, none⟩ a').cell? ⟨g, 1, none⟩ = some b := by
    rw [World.cell?_setCell_other (w := w) (a := ⟨g, 0, none⟩) (b := ⟨g, 1, none⟩) (h := by intro e; injection e with _ e2; cases e2)]; exact h.c1
  constructor
  · rw [World.cell?_alloc_lt _ _ _ hlt, World.cell?_setCell_other (w := w.setCell ⟨g, 0, none⟩ a') (a := ⟨g, 1, none⟩) (b := ⟨g, 0, none⟩) (h := by intro e; injection e with _ e2; cases e2)]
    exact World.cell?_setCell_same _ _ _ h.c0
  · rw [World.cell?_alloc_lt _ _ _ hlt]
    exact World.cell?_setCell_same _ _ _ h1
theorem Two.put {w : World} {g : Nat} {T : TypeId} {a b : Value} (h : Two w g T a b) (a' b' : Value) :
    ((w.setCell ⟨g, 0, none⟩ a').setCell ⟨g, 1, none⟩ b').cell? ⟨g, 0, none⟩ = some a' ∧ ((w.setCell ⟨g, 0, none⟩ a').setCell ⟨g, 1, none⟩ b').cell? ⟨g, 1, none⟩ = some b' := by
  have h1 : (w.setCell ⟨g, 0, none⟩ a').cell? ⟨g, 1, none⟩ = some b := by
    rw [World.cell?_setCell_other (w := w) (a := ⟨g, 0, none⟩) (b := ⟨g, 1, none⟩) (h := by intro e; injection e with _ e2; cases e2)]; exact h.c1
  constructor
  · rw [World.cell?_setCell_other (w := w.setCell ⟨g, 0, none⟩ a') (a := ⟨g, 1, none⟩) (b := ⟨g, 0, none⟩) (h := by intro e; injection e with _ e2; cases e2)]
    exact World.cell?_setCell_same _ _ _ h.c0
  · exact World.cell?_setCell_same _ _ _ h1
theorem Two.below {w0 w : World} {B g : Nat} {T : TypeId} {a b : Value} (hb : Below B w0 w) (h : Two w g T a b) (hg : B ≤ g) (a' b' : Value) (o : Obj) : Below B w0 (((w.setCell ⟨g, 0, none⟩ a').setCell ⟨g, 1, none⟩ b').alloc o) :=
  ((hb.setCell (p := ⟨g, 0, none⟩) hg _).setCell (p := ⟨g, 1, none⟩) hg _).alloc (by have := h.lt; simp; omega) _

set_option maxHeartbeats 4000000 in
set_option maxRecDepth 100000 in
theorem line_no (s : ByteArray) (w : World) (hs : s.size ≤ 1099511627) (hc : (cutL 58 (bs s)).2.2 = false) :
    Calls Tryd.prog 6 #[.string s] w (LinePost (bs s) w) := by
  have HC := Lib.hid (fun W : World => cut_any s 58 W (by omega))
  unfold CutPost at HC
  rw [hc] at HC
  have hno : lineOk (bs s) = false := by unfold lineOk; rw [hc]; rfl
  obtain ⟨e1, e2, e3⟩ := ln_no _ hno
  have E1 := Lib.hid e1
  have E2 := Lib.hid e2
  have E3 := Lib.hid e3
  have l1 := cut_len1 58 (bs s)
  have l2 := cut_len2 58 (bs s)
  rw [length_bs] at l1 l2
  have HCl := Lib.hid (fun W : World => clone_any (mkS (cutL 58 (bs s)).1) W (by rw [size_mkS]; omega))
  have HTr := Lib.hid (fun W : World => trim_any (mkS (cutL 58 (bs s)).2.1) W (by rw [size_mkS]; omega))
  rw [bs_mkS] at HCl HTr
  have HN := Lib.hid (Two.new w 26 (.string ⟨#[]⟩) (.string ⟨#[]⟩))
  have HB0 := Lib.hid (show Below w.heap.size w (w.alloc (.cells #[.string ⟨#[]⟩, .string ⟨#[]⟩] 26)) from (Below.refl _ _).alloc (Nat.le_refl _) _)
  clear hc hno e1 e2 e3
  go_enter Tryd.func6, Tryd.ntmps6
  go_wp2_with fail
  generalize w.alloc (.cells #[.string ⟨#[]⟩, .string ⟨#[]⟩] 26) = W0 at *
  refine (HC.out _).mono ?_
  rintro e w' ⟨rfl, n, rfl⟩
  have HN1 := Lib.hid (HN.out.draws n)
  have HB1 := Lib.hid (HB0.out.trans (⟨rfl, rfl, rfl, Nat.le_refl _, fun _ _ => rfl⟩ : Below w.heap.size W0 (W0.drewN n)))
  go_wp2_with fail
  refine (HCl.out _).mono ?_
  rintro e w2 ⟨rfl, hb⟩
  have HN2 := Lib.hid (HN1.out.later hb)
  have HB2 := Lib.hid (HB1.out.trans (hb.mono HB1.out.size))
  clear hb
  go_wp2_with fail
  refine (HTr.out _).mono ?_
  rintro e w3 ⟨rfl, hb⟩
  have HN3 := HN2.out.later hb
  have HB3 := Lib.hid (HB2.out.trans (hb.mono HB2.out.size))
  have q0 := HN3.c0
  have q1 := HN3.c1
  have r0 := HN3.f0
  have r1 := HN3.f1
  have hlt := HN3.lt
  have HH := Lib.hid HN3
  clear hb HN3
  go_wp2_with fail
  obtain ⟨z0, z1⟩ := HH.out.set (.string ⟨#[]⟩) (.string ⟨#[]⟩) (Obj.cells #[.string (mkS (cutL 58 (bs s)).1), .string (mkS (trimL (cutL 58 (bs s)).2.1))] 26)
  refine bodyPost_ret (v := .tuple #[.agg #[.string ⟨#[]⟩, .string ⟨#[]⟩], .int .i64 4]) ?_ rfl ⟨?_, ?_⟩
  · simp [results, Tryd.results6, go_sem, z0, z1]
  · rw [E1.out, E2.out, E3.out]; rfl
  · exact Two.below HB3.out HH.out (Nat.le_refl _) _ _ _
set_option maxHeartbeats 4000000 in
set_option maxRecDepth 100000 in
theorem line_bad (s : ByteArray) (w : World) (hs : s.size ≤ 1099511627) (hc : (cutL 58 (bs s)).2.2 = true) (hk : okF (cutL 58 (bs s)).1 (trimL (cutL 58 (bs s)).2.1) = false) :
    Calls Tryd.prog 6 #[.string s] w (LinePost (bs s) w) := by
  have HC := Lib.hid (fun W : World => cut_any s 58 W (by omega))
  unfold CutPost at HC
  rw [hc] at HC
  have hlo : lineOk (bs s) = okF (cutL 58 (bs s)).1 (trimL (cutL 58 (bs s)).2.1) := by unfold lineOk; rw [hc]; rfl
  have l1 := cut_len1 58 (bs s)
  have l2 := cut_len2 58 (bs s)
  have l3 := trim_sublist (cutL 58 (bs s)).2.1
  rw [length_bs] at l1 l2
  have HCl := Lib.hid (fun W : World => clone_any (mkS (cutL 58 (bs s)).1) W (by rw [size_mkS]; omega))
  have HTr := Lib.hid (fun W : World => trim_any (mkS (cutL 58 (bs s)).2.1) W (by rw [size_mkS]; omega))
  have HCk := Lib.hid (fun W : World => check_any' (mkS (cutL 58 (bs s)).1) (mkS (trimL (cutL 58 (bs s)).2.1)) W (by rw [size_mkS]; omega) (by rw [size_mkS]; omega))
  rw [bs_mkS] at HCl HTr
  rw [bs_mkS, bs_mkS] at HCk
  have HN := Lib.hid (Two.new w 26 (.string ⟨#[]⟩) (.string ⟨#[]⟩))
  have HB0 := Lib.hid (show Below w.heap.size w (w.alloc (.cells #[.string ⟨#[]⟩, .string ⟨#[]⟩] 26)) from (Below.refl _ _).alloc (Nat.le_refl _) _)
  rw [okE_no _ _ hk] at HCk
  obtain ⟨e1, e2, e3⟩ := ln_no _ (hlo.trans hk)
  have E1 := Lib.hid e1
  have E2 := Lib.hid e2
  have E3 := Lib.hid e3
  clear hc hk hlo e1 e2 e3
  generalize trimL (cutL 58 (bs s)).2.1 = V at *
  generalize (cutL 58 (bs s)).1 = N at *
  go_enter Tryd.func6, Tryd.ntmps6
  go_wp2_with fail
  generalize w.alloc (.cells #[.string ⟨#[]⟩, .string ⟨#[]⟩] 26) = W0 at *
  refine (HC.out _).mono ?_
  rintro e w' ⟨rfl, n, rfl⟩
  have HN1 := Lib.hid (HN.out.draws n)
  have HB1 := Lib.hid (HB0.out.trans (⟨rfl, rfl, rfl, Nat.le_refl _, fun _ _ => rfl⟩ : Below w.heap.size W0 (W0.drewN n)))
  go_wp2_with fail
  refine (HCl.out _).mono ?_
  rintro e w2 ⟨rfl, hb⟩
  have HN2 := Lib.hid (HN1.out.later hb)
  have HB2 := Lib.hid (HB1.out.trans (hb.mono HB1.out.size))
  clear hb
  go_wp2_with fail
  refine (HTr.out _).mono ?_
  rintro e w3 ⟨rfl, hb⟩
  have HN3 := Lib.hid (HN2.out.later hb)
  have HB3 := Lib.hid (HB2.out.trans (hb.mono HB2.out.size))
  have hlt := HN3.out.lt
  clear hb
  have HF3 := Lib.hid (Two.new w3 26 (.string (mkS N)) (.string (mkS V)))
  have HN4 := Lib.hid (HN3.out.later ((Below.refl _ _).alloc (Nat.le_refl _) (Obj.cells #[.string (mkS N), .string (mkS V)] 26)))
  have HB4 := Lib.hid (HB3.out.alloc HB3.out.size (Obj.cells #[.string (mkS N), .string (mkS V)] 26))
  go_wp2_with fail
  generalize w3.alloc (Obj.cells #[.string (mkS N), .string (mkS V)] 26) = w4 at *
  generalize w3.heap.size = f at *
  refine (HCk.out _).mono ?_
  rintro e w5 ⟨rfl, hb⟩
  have HF5 := HF3.out.later hb
  have HN5 := HN4.out.later hb
  have HB5 := Lib.hid (HB4.out.trans (hb.mono HB4.out.size))
  have q0 := HN5.c0
  have q1 := HN5.c1
  have r0 := HN5.f0
  have r1 := HN5.f1
  have s0 := HF5.c0
  have s1 := HF5.c1
  have HH := Lib.hid HN5
  clear hb HN5 HF5
  go_wp2_with fail
  obtain ⟨z0, z1⟩ := HH.out.put (.string ⟨#[]⟩) (.string ⟨#[]⟩)
  refine bodyPost_ret (v := .tuple #[.agg #[.string ⟨#[]⟩, .string ⟨#[]⟩], .int .i64 4]) ?_ rfl ⟨?_, ?_⟩
  · simp [results, Tryd.results6, go_sem, z0, z1]
  · rw [E1.out, E2.out, E3.out]; rfl
  · exact (HB5.out.setCell (p := ⟨w.heap.size, 0, none⟩) (Nat.le_refl _) _).setCell (p := ⟨w.heap.size, 1, none⟩) (Nat.le_refl _) _

set_option maxHeartbeats 4000000 in
set_option maxRecDepth 100000 in
theorem line_yes (s : ByteArray) (w : World) (hs : s.size ≤ 1099511627) (hc : (cutL 58 (bs s)).2.2 = true) (hk : okF (cutL 58 (bs s)).1 (trimL (cutL 58 (bs s)).2.1) = true) :
    Calls Tryd.prog 6 #[.string s] w (LinePost (bs s) w) := by
  have HC := Lib.hid (fun W : World => cut_any s 58 W (by omega))
  unfold CutPost at HC
  rw [hc] at HC
  have hlo : lineOk (bs s) = okF (cutL 58 (bs s)).1 (trimL (cutL 58 (bs s)).2.1) := by unfold lineOk; rw [hc]; rfl
  have l1 := cut_len1 58 (bs s)
  have l2 := cut_len2 58 (bs s)
  have l3 := trim_sublist (cutL 58 (bs s)).2.1
  rw [length_bs] at l1 l2
  have HCl := Lib.hid (fun W : World => clone_any (mkS (cutL 58 (bs s)).1) W (by rw [size_mkS]; omega))
  have HTr := Lib.hid (fun W : World => trim_any (mkS (cutL 58 (bs s)).2.1) W (by rw [size_mkS]; omega))
  have HCk := Lib.hid (fun W : World => check_any' (mkS (cutL 58 (bs s)).1) (mkS (trimL (cutL 58 (bs s)).2.1)) W (by rw [size_mkS]; omega) (by rw [size_mkS]; omega))
  rw [bs_mkS] at HCl HTr
  rw [bs_mkS, bs_mkS] at HCk
  have HN := Lib.hid (Two.new w 26 (.string ⟨#[]⟩) (.string ⟨#[]⟩))
  have HB0 := Lib.hid (show Below w.heap.size w (w.alloc (.cells #[.string ⟨#[]⟩, .string ⟨#[]⟩] 26)) from (Below.refl _ _).alloc (Nat.le_refl _) _)
  rw [okE_ok _ _ hk] at HCk
  obtain ⟨e1, e2, e3⟩ := ln_ok _ (hlo.trans hk)
  have E1 := Lib.hid (show lnN (bs s) = (cutL 58 (bs s)).1 from e1)
  have E2 := Lib.hid (show lnV (bs s) = trimL (cutL 58 (bs s)).2.1 from e2)
  have E3 := Lib.hid e3
  clear hc hk hlo e1 e2 e3
  generalize trimL (cutL 58 (bs s)).2.1 = V at *
  generalize (cutL 58 (bs s)).1 = N at *
  go_enter Tryd.func6, Tryd.ntmps6
  go_wp2_with fail
  generalize w.alloc (.cells #[.string ⟨#[]⟩, .string ⟨#[]⟩] 26) = W0 at *
  refine (HC.out _).mono ?_
  rintro e w' ⟨rfl, n, rfl⟩
  have HN1 := Lib.hid (HN.out.draws n)
  have HB1 := Lib.hid (HB0.out.trans (⟨rfl, rfl, rfl, Nat.le_refl _, fun _ _ => rfl⟩ : Below w.heap.size W0 (W0.drewN n)))
  go_wp2_with fail
  refine (HCl.out _).mono ?_
  rintro e w2 ⟨rfl, hb⟩
  have HN2 := Lib.hid (HN1.out.later hb)
  have HB2 := Lib.hid (HB1.out.trans (hb.mono HB1.out.size))
  clear hb
  go_wp2_with fail
  refine (HTr.out _).mono ?_
  rintro e w3 ⟨rfl, hb⟩
  have HN3 := Lib.hid (HN2.out.later hb)
  have HB3 := Lib.hid (HB2.out.trans (hb.mono HB2.out.size))
  have hlt := HN3.out.lt
  clear hb
  have HF3 := Lib.hid (Two.new w3 26 (.string (mkS N)) (.string (mkS V)))
  have HN4 := Lib.hid (HN3.out.later ((Below.refl _ _).alloc (Nat.le_refl _) (Obj.cells #[.string (mkS N), .string (mkS V)] 26)))
  have HB4 := Lib.hid (HB3.out.alloc HB3.out.size (Obj.cells #[.string (mkS N), .string (mkS V)] 26))
  go_wp2_with fail
  generalize w3.alloc (Obj.cells #[.string (mkS N), .string (mkS V)] 26) = w4 at *
  generalize w3.heap.size = f at *
  refine (HCk.out _).mono ?_
  rintro e w5 ⟨rfl, hb⟩
  have HF5 := HF3.out.later hb
  have HN5 := HN4.out.later hb
  have HB5 := Lib.hid (HB4.out.trans (hb.mono HB4.out.size))
  have q0 := HN5.c0
  have q1 := HN5.c1
  have r0 := HN5.f0
  have r1 := HN5.f1
  have s0 := HF5.c0
  have s1 := HF5.c1
  have HH := Lib.hid HN5
  clear hb HN5 HF5
  go_wp2_with fail
  obtain ⟨z0, z1⟩ := HH.out.put (.string (mkS N)) (.string (mkS V))
  refine bodyPost_ret (v := .tuple #[.agg #[.string (mkS N), .string (mkS V)], .int .i64 0]) ?_ rfl ⟨?_, ?_⟩
  · simp [results, Tryd.results6, go_sem, z0, z1]
  · rw [E1.out, E2.out, E3.out]
  · exact (HB5.out.setCell (p := ⟨w.heap.size, 0, none⟩) (Nat.le_refl _) _).setCell (p := ⟨w.heap.size, 1, none⟩) (Nat.le_refl _) _

theorem line_any (s : ByteArray) (w : World) (hs : s.size ≤ 1099511627) :
    Calls Tryd.prog 6 #[.string s] w (LinePost (bs s) w) := by
  cases hc : (cutL 58 (bs s)).2.2
  · exact line_no s w hs hc
  · cases hk : okF (cutL 58 (bs s)).1 (trimL (cutL 58 (bs s)).2.1)
    · exact line_bad s w hs hc hk
    · exact line_yes s w hs hc hk
end Tk
end Go.Proofs.YtpcdaaijlgilkaaDoor
namespace Go.Proofs.YtpcdaaijlgilkaaDoor
open Go.RowKit
namespace Tk

theorem bldInfo : (Tryd.prog.info? 53).map (·.size) = some 2 := by kernel_rfl
theorem bldLies : liesAt Tryd.prog Tryd.prog.depth 53 (2 / Tryd.prog.cellsOf 53) 0 53 1 = true := by kernel_rfl

abbrev IsB (B b : Nat) (l : Bs) (w : World) : Prop := Lib.IsBuilder 53 5 B b (Lib.byteCells l) w

set_option maxHeartbeats 1000000 in
set_option maxRecDepth 100000 in
theorem check_used (b : Nat) (w : World) (h0 : w.cell? ⟨b, 0, none⟩ = some (.pointer (some ⟨b, 0, none⟩))) :
    Calls Tryd.prog 60 #[.pointer (some ⟨b, 0, none⟩)] w fun e w' => e = .returned (.tuple #[]) ∧ w' = w := by
  obtain ⟨j, hj, _⟩ := Option.map_eq_some_iff.1 bldInfo
  go_enter Tryd.func60, Tryd.ntmps60
  go_wp2_with fail
  rw [Lib.run_neq_ptr_same w _ Tryd.underlying50 hj]
  go_wp2_with fail
  go_end0
  exact ⟨rfl, rfl⟩

set_option maxHeartbeats 1000000 in
set_option maxRecDepth 100000 in
theorem check_fresh (b : Nat) (w : World) (h0 : w.cell? ⟨b, 0, none⟩ = some (.pointer none)) (hsh : w.shape? b = some (53, 2)) (hfz : w.frozen? ⟨b, 0, none⟩ = false) :
    Calls Tryd.prog 60 #[.pointer (some ⟨b, 0, none⟩)] w fun e w' => e = .returned (.tuple #[]) ∧ w' = w.setCell ⟨b, 0, none⟩ (.pointer (some ⟨b, 0, none⟩)) := by
  obtain ⟨j, hj, hjs⟩ := Option.map_eq_some_iff.1 bldInfo
  go_enter Tryd.func60, Tryd.ntmps60
  go_wp2_with fail
  rw [Lib.run_to_unsafe w ⟨b, 0, none⟩ Tryd.underlying50 Tryd.underlying94 hj (by rw [hjs]; decide) hsh (Nat.zero_lt_succ 1)]
  simp only [Result.andThen]
  rw [Oper.upon_value]
  go_wp2_with fail
  rw [run_callFunc_extern Tryd.func80 (by kernel_rfl) (by kernel_rfl) (by kernel_rfl) (e := Extern.AbiNoEscape.same) (by kernel_rfl)]
  rw [Lib.run_noEscape]
  simp only [Result.andThen]
  rw [Oper.upon_value]
  go_wp2_with fail
  rw [Lib.run_from_unsafe w ⟨b, 0, none⟩ Tryd.underlying94 Tryd.underlying50 hj hsh bldLies]
  simp only [Result.andThen]
  rw [Oper.upon_value]
  go_wp2_with fail
  go_end0
  exact ⟨rfl, rfl⟩

theorem check_any (B b : Nat) (l : Bs) (w : World) (h : IsB B b l w) :
    Calls Tryd.prog 60 #[.pointer (some ⟨b, 0, none⟩)] w fun e w' => e = .returned (.tuple #[]) ∧ (Lib.BuilderAt 53 5 B b (.pointer (some ⟨b, 0, none⟩)) (Lib.byteCells l) w' ∧ Below B w w') := by
  rcases h with h | h
  · refine (check_fresh b w h.cell0 h.shape h.frozen0).mono ?_
    rintro e w' ⟨rfl, rfl⟩
    exact ⟨rfl, h.used _, (Below.refl B w).setCell (p := ⟨b, 0, none⟩) h.1 _⟩
  · refine (check_used b w h.cell0).mono ?_
    rintro e w' ⟨rfl, rfl⟩
    exact ⟨rfl, h, Below.refl B _⟩

theorem byteInf : (Tryd.prog.info? 5).map (fun i => (i.zero, i.size, i.bytes)) = some (some (.int .u8 0), 1, 1) := by kernel_rfl

end Tk
end Go.Proofs.YtpcdaaijlgilkaaDoor
namespace Go.Proofs.YtpcdaaijlgilkaaDoor
open Go.RowKit
namespace Tk

theorem cells_str (l : Bs) (s : ByteArray) : Lib.byteCells (l ++ bs s) = Lib.byteCells l ++ Lib.strCells s := by
  simp [Lib.byteCells, Lib.strCells, bs]

/-- blocks other than b that hold no bytes stay -/
def Others (b : Nat) (w w' : World) : Prop := ∀ (k : Nat) (cs : Array Value) (T : TypeId) (fr : Nat × Nat), w.heap[k]? = some (.cells cs T fr) → T ≠ 5 → k ≠ b → w'.heap[k]? = some (.cells cs T fr)

theorem check_oth (B b : Nat) (l : Bs) (w : World) (h : IsB B b l w) :
    Calls Tryd.prog 60 #[.pointer (some ⟨b, 0, none⟩)] w fun e w' => e = .returned (.tuple #[]) ∧ Lib.BuilderAt 53 5 B b (.pointer (some ⟨b, 0, none⟩)) (Lib.byteCells l) w' ∧ Below B w w' ∧ ∀ k, k ≠ b → w'.heap[k]? = w.heap[k]? := by
  rcases h with h | h
  · refine (check_fresh b w h.cell0 h.shape h.frozen0).mono ?_
    rintro e w' ⟨rfl, rfl⟩
    exact ⟨rfl, h.used _, (Below.refl B w).setCell (p := ⟨b, 0, none⟩) h.1 _, fun k hk => Below.heap_setCell _ _ _ _ hk⟩
  · refine (check_used b w h.cell0).mono ?_
    rintro e w' ⟨rfl, rfl⟩
    exact ⟨rfl, h, Below.refl B _, fun _ _ => rfl⟩

set_option maxHeartbeats 2000000 in
set_option maxRecDepth 100000 in
theorem writeString (B b : Nat) (l : Bs) (s : ByteArray) (w : World) (h : IsB B b l w) (hlen : l.length + s.size ≤ 1099511627776) (hBw : B ≤ w.heap.size) :
    Calls Tryd.prog 34 #[.pointer (some ⟨b, 0, none⟩), .string s] w fun e w' => e = .returned (.tuple #[.int .i64 s.size, .nilIface]) ∧ IsB B b (l ++ bs s) w' ∧ Below B w w' ∧ Others b w w' := by
  obtain ⟨i0, hi, hz0, hz1, hz2⟩ := info_parts byteInf
  have hl : (Lib.byteCells l).length = l.length := by simp [Lib.byteCells]
  go_enter Tryd.func34, Tryd.ntmps34
  go_wp2_with fail
  refine (check_oth B b l _ h).mono ?_
  rintro e w1 ⟨rfl, h1, hb1, hk1⟩
  have HK1 := Lib.hid hk1
  clear hk1
  obtain ⟨hB, v, hbk, hown, hne⟩ := h1
  have c0 : w1.cell? ⟨b, 0, none⟩ = some (.pointer (some ⟨b, 0, none⟩)) := by rw [Lib.cell_of_heap hbk]; rfl
  have c1 : w1.cell? ⟨b, 1, none⟩ = some v := by rw [Lib.cell_of_heap hbk]; rfl
  go_wp2_with (at_builtin; refine Lib.wpList_append_own_string _ rfl _ _ 51 9 rfl B 5 i0 Tryd.underlying51 Tryd.underlying9 hi hz0 hz1 hz2 _ _ _ rfl hown s rfl ?c3 ?c4 ?c5 ?_)
  case c3 => unfold maxLen; omega
  case c4 => omega
  case c5 => have := hb1.size; omega
  intro v' w2 hown' hgrow _
  have hlt : b < w1.heap.size := by
    rcases Nat.lt_or_ge b w1.heap.size with h' | h'
    · exact h'
    · simp [Array.getElem?_eq_none h'] at hbk
  have hb2 : w2.heap[b]? = some (.cells #[.pointer (some ⟨b, 0, none⟩), v] 53 (0, 0)) := by
    rw [hgrow.block b hlt (fun e => hne e.symm)]
    exact hbk
  have d0 : w2.cell? ⟨b, 0, none⟩ = some (.pointer (some ⟨b, 0, none⟩)) := by rw [Lib.cell_of_heap hb2]; rfl
  have d1 : w2.cell? ⟨b, 1, none⟩ = some v := by rw [Lib.cell_of_heap hb2]; rfl
  have f1 : w2.frozen? ⟨b, 1, none⟩ = false := Lib.frozen_of_heap hb2 1
  obtain ⟨ao, n', cap, rfl⟩ : ∃ ao n' cap, v' = .slice ao n' cap := by
    rcases hown'.2 with ⟨hv, _⟩ | ⟨g, cap, cur, hv, _⟩
    · exact ⟨_, _, _, hv⟩
    · exact ⟨_, _, _, hv⟩
  go_wp2_with fail
  go_ret2
  refine ⟨rfl, .inr ?_, ?_, ?_⟩
  · rw [cells_str]
    exact Lib.BuilderAt.put (T := 53) (e := 5) hB hb2 (bs' := Lib.byteCells l ++ Lib.strCells s) (by simpa [hl, Lib.strCells_length] using hown') (by decide)
  · exact (hb1.grown hgrow (by have := hb1.size; omega) (fun k hk => (hown.lt k hk).1)).setCell (p := ⟨b, 1, none⟩) hB _
  · intro k cs T fr hk hT hne'
    have h1 : w1.heap[k]? = some (.cells cs T fr) := by rw [HK1.out k hne']; exact hk
    have hlt1 : k < w1.heap.size := (Array.getElem?_eq_some_iff.1 h1).1
    rw [Below.heap_setCell _ _ _ _ hne', hgrow.block k hlt1 (fun e => Lib.ownBlock_ne hown h1 hT e.symm)]
    exact h1
end Tk
end Go.Proofs.YtpcdaaijlgilkaaDoor
namespace Go.Proofs.YtpcdaaijlgilkaaDoor
open Go.RowKit
namespace Tk

/-- a slice that holds these fields -/
def IsFlds (w : World) (v : Value) (l : List (Bs × Bs)) : Prop :=
  ∃ (a : Option Addr) (c : Nat), v = .slice a l.length c ∧ l.length ≤ c ∧ ∀ j f, l[j]? = some f → ∃ b o, a = some ⟨b, o, none⟩ ∧ w.cell? ⟨b, o + j * 2, none⟩ = some (.string (mkS f.1)) ∧ w.cell? ⟨b, o + j * 2 + 1, none⟩ = some (.string (mkS f.2))
theorem cell_lt {w : World} {p : Addr} {v : Value} (h : w.cell? p = some v) : p.block < w.heap.size := by
  refine Nat.lt_of_not_le fun hle => ?_
  simp only [World.cell?, Array.getElem?_eq_none hle] at h
  cases h
theorem isFlds_below {w w' : World} {v : Value} {l : List (Bs × Bs)} (h : IsFlds w v l) (hb : Below w.heap.size w w') : IsFlds w' v l := by
  obtain ⟨a, c, rfl, hl, hc⟩ := h
  refine ⟨a, c, rfl, hl, fun j t hj => ?_⟩
  obtain ⟨b, o, rfl, h1, h2⟩ := hc j t hj
  exact ⟨b, o, rfl, (hb.cell (p := ⟨b, o + j * 2, none⟩) (cell_lt (p := ⟨b, o + j * 2, none⟩) h1)).trans h1, (hb.cell (p := ⟨b, o + j * 2 + 1, none⟩) (cell_lt (p := ⟨b, o + j * 2 + 1, none⟩) h2)).trans h2⟩

def sumF : List (Bs × Bs) → Nat
  | [] => 0
  | f :: t => f.1.length + f.2.length + 4 + sumF t
def linesF (l : List (Bs × Bs)) : Bs := l.flatMap bytesF
theorem bytesF_len (f : Bs × Bs) : (bytesF f).length = f.1.length + f.2.length + 4 := by
  unfold bytesF; simp only [List.length_append, List.length_cons, List.length_nil]; omega
theorem lines_len : ∀ l, (linesF l).length = sumF l
  | [] => rfl
  | f :: t => by
    have := lines_len t
    unfold linesF at *
    rw [List.flatMap_cons, List.length_append, this, bytesF_len, sumF]
theorem sumF_mem : ∀ (l : List (Bs × Bs)) (f : Bs × Bs), f ∈ l → f.1.length + f.2.length + 4 ≤ sumF l
  | g :: t, f, h => by
    unfold sumF
    rcases List.mem_cons.1 h with rfl | h
    · omega
    · have := sumF_mem t f h; omega
theorem sumF_take : ∀ (l : List (Bs × Bs)) (i : Nat), sumF (l.take i) ≤ sumF l
  | [], i => by simp
  | f :: t, 0 => by simp [sumF]
  | f :: t, i + 1 => by have := sumF_take t i; simp only [List.take_succ_cons, sumF]; omega

def byN (l : List (Bs × Bs)) : Bs := if okFs l then linesF l else []
def byE (l : List (Bs × Bs)) : Int := if okFs l then 0 else 4
def BytesPost (l : List (Bs × Bs)) (w : World) (e : Ending) (w' : World) : Prop := e = .returned (.tuple #[.string (mkS (byN l)), .int .i64 (byE l)]) ∧ Below w.heap.size w w'

theorem okFs_take_no (l : List (Bs × Bs)) (f : Bs × Bs) (h : f ∈ l) (hk : okF f.1 f.2 = false) : okFs l = false := by
  cases hh : okFs l
  · rfl
  · unfold okFs at hh
    rw [List.all_eq_true] at hh
    rw [hh f h] at hk; cases hk
theorem okFs_snoc (l : List (Bs × Bs)) (f : Bs × Bs) (h : okFs l = true) (hk : okF f.1 f.2 = true) : okFs (l ++ [f]) = true := by
  unfold okFs at *
  rw [List.all_append, h]; simp [hk]
theorem lines_snoc (l : List (Bs × Bs)) (f : Bs × Bs) : linesF (l ++ [f]) = linesF l ++ f.1 ++ [58, 32] ++ f.2 ++ [13, 10] := by
  unfold linesF bytesF; simp

theorem own_keep {w w' : World} {B : Nat} {v : Value} {n : Nat} {xs : List Value} {e : TypeId} (h : w.ownsRow B e 1 v n xs) (hb : Below w.heap.size w w') : w'.ownsRow B e 1 v n xs :=
  World.ownsRow.kept h (row := none) ⟨hb.os, hb.tape, hb.output, hb.size, fun k hk _ => hb.block k hk⟩ (by cases h : v.ownBlock <;> simp)
theorem at_below {w w' : World} {B b : Nat} {p : Value} {xs : List Value} (h : Lib.BuilderAt 53 5 B b p xs w) (hb : Below w.heap.size w w') : Lib.BuilderAt 53 5 B b p xs w' := by
  have hlt := h.lt
  obtain ⟨hB, v, h1, h2, h3⟩ := h
  exact ⟨hB, v, by rw [hb.block b hlt]; exact h1, own_keep h2 hb, h3⟩
theorem isB_below {w w' : World} {B b : Nat} {l : Bs} (h : IsB B b l w) (hb : Below w.heap.size w w') : IsB B b l w' := by
  rcases h with h | h
  · exact .inl (at_below h hb)
  · exact .inr (at_below h hb)
theorem isB_lt {w : World} {B b : Nat} {l : Bs} (h : IsB B b l w) : b < w.heap.size := by
  rcases h with h | h <;> exact h.lt
theorem Two.others {w w' : World} {g b : Nat} {T : TypeId} {x y : Value} (h : Two w g T x y) (ho : Others b w w') (hT : T ≠ 5) (hg : g ≠ b) : Two w' g T x y := ho g _ _ _ h hT hg

set_option maxHeartbeats 8000000 in
set_option maxRecDepth 100000 in
theorem bytes_any (v : Value) (l : List (Bs × Bs)) (w : World) (hs : IsFlds w v l) (hz : sumF l ≤ 1099511627) (hl : l.length ≤ 1099511627) :
    Calls Tryd.prog 8 #[v] w (BytesPost l w) := by
  have HS := Lib.hid hs
  obtain ⟨a, cap, rfl⟩ : ∃ a cap, v = .slice a l.length cap := by obtain ⟨a, c, h, -⟩ := hs; exact ⟨a, c, h⟩
  have HMem := Lib.hid (sumF_mem l)
  have hB0 := Lib.hid (Lib.fresh_isBuilder 53 5 w)
  have HB1 := Lib.hid (show Below w.heap.size w (w.alloc (Obj.cells #[Value.pointer none, Value.slice none 0 0] 53)) from (Below.refl _ _).alloc (Nat.le_refl _) _)
  have hsz : w.heap.size ≤ (w.alloc (Obj.cells #[Value.pointer none, Value.slice none 0 0] 53)).heap.size := by simp
  clear hs
  go_enter Tryd.func8, Tryd.ntmps8
  go_wp2_with fail
  generalize w.alloc (Obj.cells #[Value.pointer none, Value.slice none 0 0] 53) = W at *
  generalize hgw : w.heap.size = B at *
  have HGW := Lib.hid hgw
  clear hgw
  go_loopw [10] (fun v wr => ∃ i : Nat, i ≤ l.length ∧ v = .int .i64 i ∧ Hid (okFs (l.take i) = true) ∧ Hid (IsB B B (linesF (l.take i)) wr) ∧ Hid (Below B w wr) ∧ B ≤ wr.heap.size) (fun v _ => l.length - (RowKit.intOf v).toNat)
  case atStart => exact ⟨0, Nat.zero_le _, rfl, rfl, hB0.out, HB1.out, hsz⟩
  case round =>
    obtain ⟨i, hi, rfl, hok, hI, hB3, hBw⟩ := hrel
    rename World => W3
    have hpl := lines_len (l.take i)
    have hpt := sumF_take l i
    by_cases hlt : i < l.length
    · have hbw : Below w.heap.size w W3 := by rw [HGW.out]; exact hB3.out
      obtain ⟨a', c', e', hcap, hc⟩ := isFlds_below HS.out hbw
      injection e' with e1 _ e2
      subst e1 e2
      obtain ⟨b, o, rfl, hc0, hc1⟩ := hc i (l.getD i ([], [])) (by simp [List.getD, hlt])
      have hm := HMem.out (l.getD i ([], [])) (by simp [List.getD, hlt])
      have hmm : l.getD i ([], []) ∈ l := by simp [List.getD, hlt]
      have htk : l.take (i + 1) = l.take i ++ [l.getD i ([], [])] := by
        rw [List.take_succ_eq_append_getElem hlt]; simp [List.getD, hlt]
      have HTK := Lib.hid htk
      have HMM := Lib.hid hmm
      clear hc htk hmm hbw
      generalize l.getD i ([], []) = f at *
      obtain ⟨n, x⟩ := f
      have hnz := size_mkS n
      have hxz := size_mkS x
      simp only at hm hc0 hc1
      have HC := fun W : World => check_any' (mkS n) (mkS x) W (by omega) (by omega)
      rw [bs_mkS, bs_mkS] at HC
      have hBlt := isB_lt hI.out
      have hgB : W3.heap.size ≠ B := by omega
      have HF0 := Lib.hid (Two.new W3 26 (.string (mkS n)) (.string (mkS x)))
      have hb0 : Below W3.heap.size W3 (W3.alloc (Obj.cells #[.string (mkS n), .string (mkS x)] 26)) := (Below.refl _ _).alloc (Nat.le_refl _) _
      have HI0 := Lib.hid (isB_below hI.out hb0)
      have HB0 := Lib.hid (hB3.out.trans (hb0.mono hBw))
      have hq0 := HF0.out.c0
      have hq1 := HF0.out.c1
      have HMZ := Lib.hid hnz
      have HXZ := Lib.hid hxz
      have hs0 : B ≤ (W3.alloc (Obj.cells #[.string (mkS n), .string (mkS x)] 26)).heap.size := by simp; omega
      clear hb0 hnz hxz
      cases hk : okF n x
      · rw [okE_no _ _ hk] at HC
        have hno := okFs_take_no l (n, x) HMM.out hk
        have e1 : byN l = [] := by unfold byN; rw [hno]; rfl
        have e2 : byE l = 4 := by unfold byE; rw [hno]; rfl
        have E1 := Lib.hid e1
        have E2 := Lib.hid e2
        have HC2 := Lib.hid HC
        clear HC hk hno e1 e2
        go_wp2_with fail
        generalize W3.alloc (Obj.cells #[.string (mkS n), .string (mkS x)] 26) = W4 at *
        refine (HC2.out _).mono ?_
        rintro e w5 ⟨rfl, hb⟩
        have HB5 := Lib.hid (HB0.out.trans (hb.mono hs0))
        clear hb
        go_wp2_with fail
        go_ret2
        exact ⟨by rw [E1.out, E2.out]; rfl, by rw [HGW.out]; exact HB5.out⟩
      · rw [okE_ok _ _ hk] at HC
        have hok2 := okFs_snoc _ (n, x) hok.out hk
        rw [← HTK.out] at hok2
        have hln := lines_snoc (l.take i) (n, x)
        rw [← HTK.out] at hln
        simp only at hln
        have HLN := Lib.hid hln
        have HOK := Lib.hid hok2
        have HC2 := Lib.hid HC
        clear HC hk hok2 hln
        generalize linesF (l.take i) = P at *
        go_wp2_with fail
        generalize W3.alloc (Obj.cells #[.string (mkS n), .string (mkS x)] 26) = W4 at *
        generalize W3.heap.size = g at *
        refine (HC2.out _).mono ?_
        rintro e w5 ⟨rfl, hb⟩
        have HB5 := Lib.hid (HB0.out.trans (hb.mono hs0))
        have HF5 := HF0.out.later hb
        have hI5 := isB_below HI0.out hb
        have HX5 := Lib.hid hb.size
        have p0 := HF5.c0
        have HFF5 := Lib.hid HF5
        have H1 := Lib.hid (writeString B B P (mkS n) w5 hI5 (by have := HMZ.out; omega) (Nat.le_trans hs0 hb.size))
        clear hb HF5 hI5
        have hs5 := Nat.le_trans hs0 HX5.out
        go_wp2_with fail
        refine H1.out.mono ?_
        rintro e w6 ⟨rfl, hi6, hb6, ho6⟩
        have HFF6 := Lib.hid (HFF5.out.others ho6 (by decide) hgB)
        have HB6 := Lib.hid (HB5.out.trans hb6)
        have hs6 := Nat.le_trans hs5 hb6.size
        have H2 := Lib.hid (writeString B B _ ⟨#[58, 32]⟩ w6 hi6 (by rw [List.length_append, length_bs]; have := HMZ.out; have e1 : (ByteArray.mk #[58, 32]).size = 2 := rfl; omega) hs6)
        clear hi6 hb6 ho6 p0
        go_wp2_with fail
        refine H2.out.mono ?_
        rintro e w7 ⟨rfl, hi7, hb7, ho7⟩
        have HFF7 := HFF6.out.others ho7 (by decide) hgB
        have p1 := HFF7.c1
        have HFF7 := Lib.hid HFF7
        have HB7 := Lib.hid (HB6.out.trans hb7)
        have hs7 := Nat.le_trans hs6 hb7.size
        have H3 := Lib.hid (writeString B B _ (mkS x) w7 hi7 (by simp only [List.length_append, length_bs]; have := HMZ.out; have := HXZ.out; have e1 : (ByteArray.mk #[58, 32]).size = 2 := rfl; omega) hs7)
        clear hi7 hb7 ho7
        go_wp2_with fail
        refine H3.out.mono ?_
        rintro e w8 ⟨rfl, hi8, hb8, ho8⟩
        have HB8 := Lib.hid (HB7.out.trans hb8)
        have hs8 := Nat.le_trans hs7 hb8.size
        have H4 := Lib.hid (writeString B B _ ⟨#[13, 10]⟩ w8 hi8 (by simp only [List.length_append, length_bs]; have := HMZ.out; have := HXZ.out; have e1 : (ByteArray.mk #[58, 32]).size = 2 := rfl; have e2 : (ByteArray.mk #[13, 10]).size = 2 := rfl; omega) hs8)
        clear hi8 hb8 ho8 p1
        go_wp2_with fail
        refine H4.out.mono ?_
        rintro e w9 ⟨rfl, hi9, hb9, ho9⟩
        have HB9 := Lib.hid (HB8.out.trans hb9)
        have hs9 := Nat.le_trans hs8 hb9.size
        have HI9 : Hid (IsB B B (linesF (l.take (i + 1))) w9) := by
          show IsB B B (linesF (l.take (i + 1))) w9
          rw [HLN.out]
          exact hi9
        clear hi9 hb9 ho9
        go_wp2_with fail
        exact ⟨⟨i + 1, by omega, by go_num, HOK, HI9, HB9, hs9⟩, by simp [RowKit.intOf]; omega⟩
    · have hil : l.take i = l := List.take_of_length_le (by omega)
      rw [hil] at hok hI
      have e1 : byN l = linesF l := by unfold byN; rw [hok.out]; rfl
      have e2 : byE l = 0 := by unfold byE; rw [hok.out]; rfl
      have E1 := Lib.hid e1
      have E2 := Lib.hid e2
      have H3 := Lib.hid (Tryd.Builder_String_any B B (linesF l) W3 hI.out hBw)
      clear hil e1 e2
      go_wp2_with fail
      refine H3.out.mono ?_
      rintro e w5 ⟨rfl, hb5⟩
      have HB5 := Lib.hid (hB3.out.trans hb5)
      clear hb5
      go_wp2_with fail
      go_ret2
      exact ⟨by rw [E1.out, E2.out]; rfl, by rw [HGW.out]; exact HB5.out⟩
end Tk
end Go.Proofs.YtpcdaaijlgilkaaDoor
namespace Go.Proofs.YtpcdaaijlgilkaaDoor
open Go.RowKit
namespace Tk

theorem noStand : Tryd.prog.stoodInHeld 26 = false := by kernel_rfl
theorem field_eql (W : World) (a b c d : ByteArray) : (binOp .eql 26 (.agg #[.string a, .string b]) (.agg #[.string c, .string d])).run Tryd.prog W = .ok (.bool (a.toList == c.toList && b.toList == d.toList)) W := by
  rw [run_eql_struct, run_equalIn_agg _ _ _ _ _ (by simp [Program.fieldsOf, Tryd.underlying26]) noStand]
  simp [Program.fieldsOf, Tryd.underlying26, Op.eqFields, go_sem]
  by_cases h1 : a.toList = c.toList <;> by_cases h2 : b.toList = d.toList <;> simp [h1, h2]

/-- may the fields be gone through: so many bytes together -/
def lfGo (b : Nat) : Nat → List (Bs × Bs) → Bool
  | _, [] => true
  | n, f :: t => if b < n + f.1.length + f.2.length then false else lfGo b (n + f.1.length + f.2.length) t
def lightF (l : List (Bs × Bs)) : Bool := decide (l.length ≤ 30) && lfGo 600 0 l
theorem lfGo_sum (b : Nat) : ∀ (l : List (Bs × Bs)) (n : Nat), n ≤ b → lfGo b n l = true → n + sumF l ≤ b + 4 * l.length
  | [], n, hn, _ => by simp [sumF]; exact hn
  | f :: t, n, hn, h => by
    unfold lfGo at h
    split at h
    · cases h
    · have := lfGo_sum b t (n + f.1.length + f.2.length) (by omega) h
      unfold sumF; simp only [List.length_cons]; omega
theorem lightF_parts (l : List (Bs × Bs)) (h : lightF l = true) : l.length ≤ 30 ∧ sumF l ≤ 720 := by
  unfold lightF at h
  rw [Bool.and_eq_true, decide_eq_true_eq] at h
  have := lfGo_sum 600 l 0 (by omega) h.2
  exact ⟨h.1, by omega⟩

set_option maxHeartbeats 2000000 in
set_option maxRecDepth 100000 in
theorem lightFields_any (v : Value) (l : List (Bs × Bs)) (w : World) (hs : IsFlds w v l) (hz : ∀ f ∈ l, f.1.length ≤ 140737488351232 ∧ f.2.length ≤ 140737488351232) (hl : l.length ≤ 140737488351232) :
    Calls Tryd.prog 29 #[v, .int .i64 30, .int .i64 600] w fun e w' => e = .returned (.bool (lightF l)) ∧ ∃ n, w' = w.drewN n := by
  obtain ⟨a, c, rfl, hcap, hc⟩ := hs
  have HC := Lib.hid hc
  have HZ := Lib.hid hz
  clear hc hz
  by_cases h20 : 30 < l.length
  · have fin : lightF l = false := by unfold lightF; rw [decide_eq_false (by omega)]; rfl
    have HF := Lib.hid fin
    have h' : (30 : Int) < (l.length : Int) := by omega
    clear fin
    go_enter Tryd.func29, Tryd.ntmps29
    go_wp2_with fail
    go_ret
    exact ⟨by rw [HF.out]; rfl, 0, rfl⟩
  · have fin : lightF l = lfGo 600 0 l := by unfold lightF; rw [decide_eq_true (by omega)]; rfl
    have HF := Lib.hid fin
    have h' : ¬ (30 : Int) < (l.length : Int) := by omega
    clear fin
    go_enter Tryd.func29, Tryd.ntmps29
    go_wp2_with fail
    go_loopw [7, 8] (fun vn vi wr => ∃ (i n m : Nat), i ≤ l.length ∧ n ≤ 600 ∧ vi = .int .i64 i ∧ vn = .int .i64 n ∧ wr = w.drewN m ∧ Hid (lightF l = lfGo 600 n (l.drop i))) (fun _ vi _ => l.length - (RowKit.intOf vi).toNat)
    case atStart => exact ⟨0, 0, 0, by omega, by omega, rfl, rfl, rfl, HF.out⟩
    case round =>
      obtain ⟨i, n, m, hi, hn, rfl, rfl, rfl, hd⟩ := hrel
      by_cases hlt : i < l.length
      · obtain ⟨b, o, rfl, hc0, hc1⟩ := HC.out i (l.getD i ([], [])) (by simp [List.getD, hlt])
        obtain ⟨z0, z1⟩ := HZ.out (l.getD i ([], [])) (by simp [List.getD, hlt])
        have hdr : l.drop i = l.getD i ([], []) :: l.drop (i + 1) := by rw [List.drop_eq_getElem_cons hlt]; simp [List.getD, hlt]
        have HD := Lib.hid hdr
        clear hdr
        generalize l.getD i ([], []) = f at *
        obtain ⟨x, y⟩ := f
        simp only at z0 z1 hc0 hc1
        have s0 := size_mkS x
        have s1 := size_mkS y
        have HS0 := Lib.hid s0
        have HS1 := Lib.hid s1
        have y0 : (mkS x).size ≤ 140737488351232 := by omega
        have y1 : (mkS y).size ≤ 140737488351232 := by omega
        clear s0 s1 z0 z1
        have hb0 : (0 : Int) ≤ (i : Int) := by omega
        have hb1 : (i : Int) < (l.length : Int) := by omega
        by_cases hb : 600 < n + (mkS x).size + (mkS y).size
        · have fin : lightF l = false := by
            rw [hd.out, HD.out, lfGo, if_pos (by rw [← HS0.out, ← HS1.out]; exact hb)]
          have HF2 := Lib.hid fin
          have hb' : (600 : Int) < (n : Int) + ((mkS x).size : Int) + ((mkS y).size : Int) := by omega
          clear fin HF HD hd
          generalize mkS x = s at *
          generalize mkS y = t at *
          have w1 : IntKind.i64.wrap ((n : Int) + (s.size : Int)) = (n : Int) + (s.size : Int) := IntWalk.i64_in _ (by omega)
          have w2 : IntKind.i64.wrap ((n : Int) + (s.size : Int) + (t.size : Int)) = (n : Int) + (s.size : Int) + (t.size : Int) := IntWalk.i64_in _ (by omega)
          go_wp2_with fail
          go_quiet (fail)
          clear w1 w2
          go_wp2_with fail
          go_ret
          exact ⟨by rw [HF2.out]; rfl, _, rfl⟩
        · have nx : lightF l = lfGo 600 (n + (mkS x).size + (mkS y).size) (l.drop (i + 1)) := by
            rw [hd.out, HD.out, lfGo, if_neg (by rw [← HS0.out, ← HS1.out]; exact hb), HS0.out, HS1.out]
          have HN := Lib.hid nx
          have hb' : ¬ (600 : Int) < (n : Int) + ((mkS x).size : Int) + ((mkS y).size : Int) := by omega
          clear nx HF HD hd
          generalize mkS x = s at *
          generalize mkS y = t at *
          have w1 : IntKind.i64.wrap ((n : Int) + (s.size : Int)) = (n : Int) + (s.size : Int) := IntWalk.i64_in _ (by omega)
          have w2 : IntKind.i64.wrap ((n : Int) + (s.size : Int) + (t.size : Int)) = (n : Int) + (s.size : Int) + (t.size : Int) := IntWalk.i64_in _ (by omega)
          go_wp2_with fail
          go_quiet (fail)
          clear w1 w2
          go_wp2_with fail
          exact ⟨⟨i + 1, n + s.size + t.size, _, by omega, by omega, by go_num, by go_num, rfl, HN⟩, by simp [RowKit.intOf]; omega⟩
      · have fin : lightF l = true := by rw [hd.out, List.drop_eq_nil_of_le (by omega)]; rfl
        have HF2 := Lib.hid fin
        clear fin
        go_wp2_with fail
        go_ret
        exact ⟨by rw [HF2.out]; rfl, _, rfl⟩

set_option maxHeartbeats 1000000 in
theorem light02_any (v : Value) (l : List (Bs × Bs)) (w : World) (hs : IsFlds w v l) (hz : ∀ f ∈ l, f.1.length ≤ 140737488351232 ∧ f.2.length ≤ 140737488351232) (hl : l.length ≤ 140737488351232) :
    Calls Tryd.prog 5 #[v] w fun e w' => e = .returned (.bool (lightF l)) ∧ ∃ n, w' = w.drewN n := by
  have H := Lib.hid (lightFields_any v l w hs hz hl)
  obtain ⟨a, cap, rfl⟩ : ∃ a cap, v = .slice a l.length cap := by obtain ⟨a, c, h, -⟩ := hs; exact ⟨a, c, h⟩
  clear hs hz
  go_enter Tryd.func5, Tryd.ntmps5
  go_wp2_with fail
  refine H.out.mono ?_
  rintro e w' ⟨rfl, n, rfl⟩
  go_wp2_with fail
  go_ret
  exact ⟨rfl, n, rfl⟩

theorem ex_line1 : lnN [65, 58, 32, 32, 98, 32] = [65] ∧ lnV [65, 58, 32, 32, 98, 32] = [98] ∧ lnE [65, 58, 32, 32, 98, 32] = 0 := by decide +kernel
theorem ex_line2 : lnN [65, 32, 58, 32, 98] = [] ∧ lnV [65, 32, 58, 32, 98] = [] ∧ lnE [65, 32, 58, 32, 98] = 4 := by decide +kernel
def Yes2 (w : World) (r : Ending) (w' : World) : Prop := r = .returned (.bool true) ∧ Below w.heap.size w w'

set_option maxHeartbeats 2000000 in
set_option maxRecDepth 100000 in
theorem lives02_any (w : World) : Calls Tryd.prog 4 #[] w (Yes2 w) := by
  have h1 := fun W : World => line_any ⟨#[65, 58, 32, 32, 98, 32]⟩ W (by decide)
  have h2 := fun W : World => line_any ⟨#[65, 32, 58, 32, 98]⟩ W (by decide)
  unfold LinePost at h1 h2
  rw [show bs ⟨#[65, 58, 32, 32, 98, 32]⟩ = [65, 58, 32, 32, 98, 32] from rfl, ex_line1.1, ex_line1.2.1, ex_line1.2.2, show mkS [65] = (⟨#[65]⟩ : ByteArray) from rfl, show mkS [98] = (⟨#[98]⟩ : ByteArray) from rfl] at h1
  rw [show bs ⟨#[65, 32, 58, 32, 98]⟩ = [65, 32, 58, 32, 98] from rfl, ex_line2.1, ex_line2.2.1, ex_line2.2.2, show mkS [] = (⟨#[]⟩ : ByteArray) from rfl] at h2
  have H1 := Lib.hid h1
  have H2 := Lib.hid h2
  clear h1 h2
  go_enter Tryd.func4, Tryd.ntmps4
  go_wp2_with fail
  refine (H1.out _).mono ?_
  rintro e w1 ⟨rfl, hb⟩
  have HF1 := Lib.hid (Two.new w1 26 (.string ⟨#[65]⟩) (.string ⟨#[98]⟩))
  have HB1 := Lib.hid (hb.alloc hb.size (Obj.cells #[.string ⟨#[65]⟩, .string ⟨#[98]⟩] 26))
  clear hb
  go_wp2_with fail
  generalize w1.alloc (Obj.cells #[.string ⟨#[65]⟩, .string ⟨#[98]⟩] 26) = w2 at *
  refine (H2.out _).mono ?_
  rintro e w3 ⟨rfl, hb⟩
  have hF3 := HF1.out.later hb
  have c0 := hF3.c0
  have c1 := hF3.c1
  have hlt := hF3.lt
  have HB3 := Lib.hid (HB1.out.trans (hb.mono HB1.out.size))
  clear hb hF3
  go_wp2_with fail
  go_ret
  exact ⟨rfl, HB3.out.alloc HB3.out.size _⟩
end Tk
end Go.Proofs.YtpcdaaijlgilkaaDoor
namespace Go.Proofs.YtpcdaaijlgilkaaDoor
open Go.RowKit
namespace Tk

theorem cutS_none (c : UInt8) (l : Bs) (h : ∀ x ∈ l, x ≠ c) : cutL c l = (l, [], false) := by
  have : l.contains c = false := by
    cases hc : l.contains c
    · rfl
    · exact absurd rfl (h c (by simpa using hc))
  unfold cutL; rw [this]; rfl
theorem cutS_at (c : UInt8) (l r : Bs) (h : ∀ x ∈ l, x ≠ c) : cutL c (l ++ c :: r) = (l, r, true) := by
  have hp : ∀ x ∈ l, (x != c) = true := fun x hx => by simp [h x hx]
  unfold cutL
  rw [if_pos (by simp), List.takeWhile_append_of_pos hp, List.takeWhile_cons, List.dropWhile_append_of_pos hp, List.dropWhile_cons]
  simp

set_option maxHeartbeats 8000000 in
set_option maxRecDepth 100000 in
theorem rline_any (s : ByteArray) (w : World) (hs : s.size ≤ 1099511627) :
    Calls Tryd.prog 7 #[.string s] w (LinePost (bs s) w) := by
  have HN := Lib.hid (Two.new w 26 (.string ⟨#[]⟩) (.string ⟨#[]⟩))
  have HB0 := Lib.hid (show Below w.heap.size w (w.alloc (.cells #[.string ⟨#[]⟩, .string ⟨#[]⟩] 26)) from (Below.refl _ _).alloc (Nat.le_refl _) _)
  unfold LinePost
  go_enter Tryd.func7, Tryd.ntmps7
  go_wp2_with fail
  generalize w.alloc (.cells #[.string ⟨#[]⟩, .string ⟨#[]⟩] 26) = W0 at *
  go_loop [4] (fun v => ∃ i : Nat, i ≤ s.size ∧ v = .int .i64 i ∧ Hid (∀ x ∈ (bs s).take i, x ≠ 58)) (fun v => s.size - (RowKit.intOf v).toNat)
  case atStart => exact ⟨0, Nat.zero_le _, rfl, Lib.hid (by simp)⟩
  case round =>
    obtain ⟨i, hi, rfl, hd⟩ := hrel
    by_cases hlt : i < s.size
    · have D := Lib.hid (bs_drop s i hlt)
      by_cases h58 : s[i] = 58
      · have c1 : ((s[i].toNat : Int) != 58) = false := by rw [h58]; rfl
        have hcut : cutL 58 (bs s) = ((bs s).take i, (bs s).drop (i + 1), true) := by
          have h1 := cutS_at 58 ((bs s).take i) ((bs s).drop (i + 1)) hd.out
          rw [← h58, ← D.out, List.take_append_drop] at h1
          rw [h58] at h1
          exact h1
        have hne : ((i : Int) == (s.size : Int)) = false := by simp; omega
        have r0 : (0 : Int) ≤ (i : Int) := by omega
        have r1 : (i : Int) ≤ (s.size : Int) := by omega
        have r2 : (i : Int) + 1 ≤ (s.size : Int) := by omega
        have r3 : (0 : Int) ≤ (i : Int) + 1 := by omega
        have r4 : IntKind.i64.wrap ((i : Int) + 1) = (i : Int) + 1 := IntWalk.i64_in _ (by omega)
        have r5 : ((i : Int) + 1).toNat = i + 1 := by omega
        have b1 : bs (s.extract 0 i) = (bs s).take i := by rw [bs_extract]; simp
        have b2 : bs (s.extract (i + 1) s.size) = (bs s).drop (i + 1) := by
          rw [bs_extract, List.take_of_length_le (by rw [List.length_drop, length_bs]; exact Nat.le_refl _)]
        have z2 : (s.extract (i + 1) s.size).size ≤ s.size := by rw [ByteArray.size_extract]; omega
        have z1 : (s.extract 0 i).size ≤ s.size := by rw [ByteArray.size_extract]; omega
        have l3 := trim_sublist ((bs s).drop (i + 1))
        have HTr := Lib.hid (fun W : World => rTrim_any (s.extract (i + 1) s.size) W (by omega))
        rw [b2] at HTr
        obtain ⟨N, hN⟩ : ∃ N, N = s.extract 0 i := ⟨_, rfl⟩
        have hlo : lineOk (bs s) = okF (bs N) (trimL ((bs s).drop (i + 1))) := by unfold lineOk; rw [hcut, hN, b1]; rfl
        have hl1 : lineN (bs s) = bs N := by unfold lineN; rw [hcut, hN, b1]
        have hl2 : lineV (bs s) = trimL ((bs s).drop (i + 1)) := by unfold lineV; rw [hcut]
        have hvz : (trimL ((bs s).drop (i + 1))).length ≤ s.size := by
          have := (trim_sublist ((bs s).drop (i + 1)))
          rw [List.length_drop, length_bs] at this
          omega
        generalize hV : trimL ((bs s).drop (i + 1)) = V at *
        have HCk := Lib.hid (fun W : World => rcheck_any N (mkS V) W (by rw [hN]; omega) (by rw [size_mkS]; omega))
        rw [bs_mkS] at HCk
        have hib : (s.size : Int) ≤ 1099511627 := by omega
        rw [← hN] at b1 z1
        have HEx := Lib.hid hN
        have hN2 : s.extract 0 i = N := hN.symm
        clear hcut h58 b1 b2 z1 z2 l3 hV hN hd D hi
        cases hk : okF (bs N) V
        · rw [okE_no _ _ hk] at HCk
          obtain ⟨e1, e2, e3⟩ := ln_no _ (hlo.trans hk)
          have E1 := Lib.hid e1
          have E2 := Lib.hid e2
          have E3 := Lib.hid e3
          clear hlo hl1 hl2 hk e1 e2 e3
          go_wp2_with fail
          have t0 : W0.drew.cell? ⟨w.heap.size, 0, none⟩ = some (.string ⟨#[]⟩) := HN.out.c0
          have hlt0 : w.heap.size < W0.heap.size := HN.out.lt
          have HK : ∀ o, (W0.alloc o).drew.cell? ⟨w.heap.size, 0, none⟩ = some (.string ⟨#[]⟩) := fun o => (World.cell?_alloc_lt W0 o ⟨w.heap.size, 0, none⟩ hlt0).trans HN.out.c0
          go_region_held3 (fun w' => w'.cell? ⟨w.heap.size, 0, none⟩ = some (.string ⟨#[]⟩)) (first | exact HK _ | exact (by assumption) | go_keep) ((go_at_call 33; refine (HTr.out _).mono ?_; rintro e w3 ⟨rfl, rfl⟩))
          all_goals
            have hbA : Below W0.heap.size W0 (W0.alloc (Obj.cells #[.string N, .string (mkS V)] 26)).drew := ((Below.refl _ _).alloc (Nat.le_refl _) _).drew
            have hFA : Two (W0.alloc (Obj.cells #[.string N, .string (mkS V)] 26)).drew W0.heap.size 26 (.string N) (.string (mkS V)) := Two.new W0 26 (.string N) (.string (mkS V))
            go_wp2_with fail
            refine (HCk.out _).mono ?_
            rintro e w5 ⟨rfl, hb⟩
            have hB5 := hbA.trans (hb.mono hbA.size)
            have HN5 := HN.out.later hB5
            have hF5 := hFA.later hb
            have HB5 := Lib.hid (HB0.out.trans (hB5.mono HB0.out.size))
            have q0 := HN5.c0
            have q1 := HN5.c1
            have p0 := HN5.f0
            have p1 := HN5.f1
            have y0 := hF5.c0
            have y1 := hF5.c1
            have HH := Lib.hid HN5
            clear hb HN5 hB5 hbA hFA hF5 t0 HK hlt0
            go_wp2_with fail
            obtain ⟨x0, x1⟩ := HH.out.put (.string ⟨#[]⟩) (.string ⟨#[]⟩)
            refine bodyPost_ret (v := .tuple #[.agg #[.string ⟨#[]⟩, .string ⟨#[]⟩], .int .i64 4]) ?_ rfl ⟨?_, ?_⟩
            · simp [results, Tryd.results7, go_sem, x0, x1]
            · rw [E1.out, E2.out, E3.out]; rfl
            · exact (HB5.out.setCell (p := ⟨w.heap.size, 0, none⟩) (Nat.le_refl _) _).setCell (p := ⟨w.heap.size, 1, none⟩) (Nat.le_refl _) _
        · rw [okE_ok _ _ hk] at HCk
          obtain ⟨e1, e2, e3⟩ := ln_ok _ (hlo.trans hk)
          have E1 := Lib.hid (e1.trans hl1)
          have E2 := Lib.hid (e2.trans hl2)
          have E3 := Lib.hid e3
          clear hlo hl1 hl2 hk e1 e2 e3
          go_wp2_with fail
          have t0 : W0.drew.cell? ⟨w.heap.size, 0, none⟩ = some (.string ⟨#[]⟩) := HN.out.c0
          have hlt0 : w.heap.size < W0.heap.size := HN.out.lt
          have HK : ∀ o, (W0.alloc o).drew.cell? ⟨w.heap.size, 0, none⟩ = some (.string ⟨#[]⟩) := fun o => (World.cell?_alloc_lt W0 o ⟨w.heap.size, 0, none⟩ hlt0).trans HN.out.c0
          go_region_held3 (fun w' => w'.cell? ⟨w.heap.size, 0, none⟩ = some (.string ⟨#[]⟩)) (first | exact HK _ | exact (by assumption) | go_keep) ((go_at_call 33; refine (HTr.out _).mono ?_; rintro e w3 ⟨rfl, rfl⟩))
          all_goals
            have hbA : Below W0.heap.size W0 (W0.alloc (Obj.cells #[.string N, .string (mkS V)] 26)).drew := ((Below.refl _ _).alloc (Nat.le_refl _) _).drew
            have hFA : Two (W0.alloc (Obj.cells #[.string N, .string (mkS V)] 26)).drew W0.heap.size 26 (.string N) (.string (mkS V)) := Two.new W0 26 (.string N) (.string (mkS V))
            go_wp2_with fail
            refine (HCk.out _).mono ?_
            rintro e w5 ⟨rfl, hb⟩
            have hB5 := hbA.trans (hb.mono hbA.size)
            have HN5 := HN.out.later hB5
            have hF5 := hFA.later hb
            have HB5 := Lib.hid (HB0.out.trans (hB5.mono HB0.out.size))
            have q0 := HN5.c0
            have q1 := HN5.c1
            have p0 := HN5.f0
            have p1 := HN5.f1
            have y0 := hF5.c0
            have y1 := hF5.c1
            have HH := Lib.hid HN5
            clear hb HN5 hB5 hbA hFA hF5 t0 HK hlt0
            go_wp2_with fail
            obtain ⟨x0, x1⟩ := HH.out.put (.string N) (.string (mkS V))
            refine bodyPost_ret (v := .tuple #[.agg #[.string N, .string (mkS V)], .int .i64 0]) ?_ rfl ⟨?_, ?_⟩
            · simp [results, Tryd.results7, go_sem, x0, x1]
            · rw [E1.out, E2.out, E3.out, mkS_bs]
            · exact (HB5.out.setCell (p := ⟨w.heap.size, 0, none⟩) (Nat.le_refl _) _).setCell (p := ⟨w.heap.size, 1, none⟩) (Nat.le_refl _) _
      · have c1 : ((s[i].toNat : Int) != 58) = true := by
          rw [bne_iff_ne]
          intro e
          have e2 : s[i].toNat = (58 : UInt8).toNat := by show s[i].toNat = 58; omega
          exact h58 (UInt8.toNat_inj.1 e2)
        have HX := Lib.hid (show ∀ x ∈ (bs s).take (i + 1), x ≠ 58 from by
          intro x hx
          have h1 : (bs s).take (i + 1) = (bs s).take i ++ [s[i]] := by
            have h2 : ((bs s).drop i).take 1 = [s[i]] := by rw [D.out]; rfl
            rw [List.take_add, h2]
          rw [h1] at hx
          rcases List.mem_append.1 hx with hx | hx
          · exact hd.out x hx
          · simp at hx; rw [hx]; exact h58)
        have hib : (s.size : Int) ≤ 1099511627 := by omega
        clear h58
        go_wp2_with fail
        exact ⟨⟨i + 1, by omega, by go_num, HX⟩, by simp [RowKit.intOf]; omega⟩
    · have hil : i = s.size := by omega
      have hcut : cutL 58 (bs s) = (bs s, [], false) := cutS_none 58 (bs s) (by have h := hd.out; rw [List.take_of_length_le (by rw [length_bs]; omega)] at h; exact h)
      have hno : lineOk (bs s) = false := by unfold lineOk; rw [hcut]; rfl
      obtain ⟨e1, e2, e3⟩ := ln_no _ hno
      have E1 := Lib.hid e1
      have E2 := Lib.hid e2
      have E3 := Lib.hid e3
      have heq : ((i : Int) == (s.size : Int)) = true := by simp; omega
      have q0 := HN.out.c0
      have q1 := HN.out.c1
      have p0 := HN.out.f0
      have p1 := HN.out.f1
      clear hcut hno e1 e2 e3 hd hi
      subst hil
      go_wp2_with fail
      obtain ⟨x0, x1⟩ := HN.out.put (.string ⟨#[]⟩) (.string ⟨#[]⟩)
      refine bodyPost_ret (v := .tuple #[.agg #[.string ⟨#[]⟩, .string ⟨#[]⟩], .int .i64 4]) ?_ rfl ⟨?_, ?_⟩
      · simp [results, Tryd.results7, go_sem, x0, x1]
      · rw [E1.out, E2.out, E3.out]; rfl
      · exact (HB0.out.setCell (p := ⟨w.heap.size, 0, none⟩) (Nat.le_refl _) _).setCell (p := ⟨w.heap.size, 1, none⟩) (Nat.le_refl _) _

theorem field_neq (W : World) (a b : ByteArray) : (binOp .neq 26 (.agg #[.string a, .string b]) (.agg #[.string a, .string b])).run Tryd.prog W = .ok (.bool false) W := by
  rw [run_neq_struct, run_equalIn_agg _ _ _ _ _ (by simp [Program.fieldsOf, Tryd.underlying26]) noStand]
  simp [Program.fieldsOf, Tryd.underlying26, Op.eqFields, go_sem]
set_option maxHeartbeats 2000000 in
set_option maxRecDepth 100000 in
theorem ksame_self (v1 v2 : Value) (l : List (Bs × Bs)) (w : World) (h1 : IsFlds w v1 l) (h2 : IsFlds w v2 l) (hl : l.length ≤ 1099511627) :
    Calls Tryd.prog 19 #[v1, v2] w fun e w' => e = .returned (.bool true) ∧ Below w.heap.size w w' := by
  obtain ⟨a1, c1, rfl, l1, k1⟩ := h1
  obtain ⟨a2, c2, rfl, l2, k2⟩ := h2
  have K1 := Lib.hid k1
  have K2 := Lib.hid k2
  have hb : ((l.length : Int) != (l.length : Int)) = false := by simp
  clear k1 k2
  go_enter Tryd.func19, Tryd.ntmps19
  go_wp2_with fail
  go_loopw [5] (fun v wr => ∃ (j n : Nat), j ≤ l.length ∧ v = .int .i64 j ∧ wr = w.drewN n) (fun v _ => l.length - (RowKit.intOf v).toNat)
  case atStart => exact ⟨0, 0, Nat.zero_le _, rfl, rfl⟩
  case round =>
    obtain ⟨j, n, hj, rfl, rfl⟩ := hrel
    by_cases hlt : j < l.length
    · obtain ⟨b1, o1, rfl, d1, d2⟩ := K1.out j (l.getD j ([], [])) (by simp [List.getD, hlt])
      obtain ⟨b2, o2, rfl, d3, d4⟩ := K2.out j (l.getD j ([], [])) (by simp [List.getD, hlt])
      have hfn := field_neq
      generalize l.getD j ([], []) = f at *
      have g0 : (0 : Int) ≤ (j : Int) := by omega
      have g1 : (j : Int) < (l.length : Int) := by omega
      go_wp2_with fail
      go_quiet (fail)
      go_wp2_with fail
      exact ⟨⟨j + 1, _, by omega, by go_num, rfl⟩, by simp [RowKit.intOf]; omega⟩
    · go_wp2_with fail
      go_ret
      exact ⟨rfl, ⟨rfl, rfl, rfl, Nat.le_refl _, fun _ _ => rfl⟩⟩
end Tk
end Go.Proofs.YtpcdaaijlgilkaaDoor
namespace Go.Proofs.YtpcdaaijlgilkaaDoor
open Go.RowKit
namespace Tk

set_option maxHeartbeats 400000 in
theorem lower_any (c : UInt8) (w : World) :
    Calls Tryd.prog 64 #[.int .u8 (c.toNat : Int)] w fun r w' => r = .returned (.int .u8 ((lowB c).toNat : Int)) ∧ w = w' := by
  have hlt := c.toNat_lt
  by_cases h0 : 65 ≤ c.toNat
  · by_cases h1 : c.toNat ≤ 90
    · have HU := Lib.hid (lowB_up c h0 h1)
      generalize c.toNat = n at *
      go_enter Tryd.func64, Tryd.ntmps64
      go_wp2_with fail
      go_ret
      exact ⟨by rw [HU.out]; rfl, rfl⟩
    · have HU := Lib.hid (lowB_same c (by omega))
      go_enter Tryd.func64, Tryd.ntmps64
      go_wp2_with fail
      go_ret
      exact ⟨by rw [HU.out]; rfl, rfl⟩
  · have HU := Lib.hid (lowB_same c (by omega))
    go_enter Tryd.func64, Tryd.ntmps64
    go_wp2_with fail
    go_ret
    exact ⟨by rw [HU.out]; rfl, rfl⟩

set_option maxRecDepth 100000 in
set_option maxHeartbeats 1000000 in
theorem tsame_any (s t : ByteArray) (w : World) (hs : s.size ≤ 1099511627776) (_ht : t.size ≤ 1099511627776) :
    Calls Tryd.prog 41 #[.string s, .string t] w fun r w' => r = .returned (.bool (decide (lowL (bs s) = lowL (bs t)))) ∧ ∃ n, w' = w.drewN n := by
  have HL := Lib.hid (length_bs s)
  have HM := Lib.hid (length_bs t)
  by_cases hne : s.size = t.size
  · have hb : ((s.size : Int) != (t.size : Int)) = false := by rw [hne]; simp
    have HN := Lib.hid hne
    clear hne
    go_enter Tryd.func41, Tryd.ntmps41
    go_wp2_with fail
    go_loopw [13, 5] (fun v _ wr => ∃ (j : Nat), j ≤ s.size ∧ v = .int .i64 j ∧ Hid (∃ n, wr = w.drewN n) ∧ Hid (decide (lowL (bs s) = lowL (bs t)) = decide (lowL ((bs s).drop j) = lowL ((bs t).drop j)))) (fun v _ _ => s.size - (RowKit.intOf v).toNat)
    case atStart => exact ⟨0, Nat.zero_le _, rfl, ⟨0, rfl⟩, rfl⟩
    case round =>
      obtain ⟨j, hj, rfl, HW, hd⟩ := hrel
      rename World => W
      by_cases hlt : j < s.size
      · have hlt2 : j < t.size := by have := HN.out; omega
        have hdr := drop_cons (bs s) j (by rw [HL.out]; exact hlt)
        rw [getD_bs s j hlt] at hdr
        have hdr2 := drop_cons (bs t) j (by rw [HM.out]; exact hlt2)
        rw [getD_bs t j hlt2] at hdr2
        have HD := Lib.hid hdr
        have HD2 := Lib.hid hdr2
        clear hdr hdr2
        have hI : (j : Int) < (s.size : Int) := by omega
        have hI2 : (j : Int) < (t.size : Int) := by omega
        go_wp2_with fail
        go_quiet ((go_at_call 64; exact Calls.quiet_of_same ((lower_any _ _).mono fun _ _ h => ⟨h.1, h.2.symm⟩)))
        obtain ⟨n, hW⟩ := HW.out
        have HW2 : Hid (∃ m, W.drewN nq = w.drewN m) := ⟨n + nq, by rw [hW, World.drewN_drewN]⟩
        clear hW
        go_wp2_with fail
        · have hx : (((lowB s[j]).toNat : Int) != ((lowB t[j]).toNat : Int)) = true := by assumption
          have hne : lowB s[j] ≠ lowB t[j] := fun e => by rw [e] at hx; simp at hx
          have fin : decide (lowL (bs s) = lowL (bs t)) = false := by
            rw [hd.out, HD.out, HD2.out]; simp [lowL, hne]
          go_ret
          exact ⟨by rw [fin]; rfl, HW2.out⟩
        · have hx : (((lowB s[j]).toNat : Int) != ((lowB t[j]).toNat : Int)) = false := by assumption
          have he : lowB s[j] = lowB t[j] := UInt8.toNat_inj.1 (by rw [bne_eq_false_iff_eq] at hx; omega)
          refine ⟨⟨j + 1, by omega, by go_num, HW2, ?_⟩, by simp [RowKit.intOf]; omega⟩
          show _ = _
          rw [hd.out, HD.out, HD2.out]; simp [lowL, he]
      · have fin : decide (lowL (bs s) = lowL (bs t)) = true := by
          have := HN.out
          rw [hd.out, List.drop_eq_nil_of_le (by rw [HL.out]; omega), List.drop_eq_nil_of_le (by rw [HM.out]; omega)]; simp
        have HF := Lib.hid fin
        clear fin
        go_wp2_with fail
        go_ret
        exact ⟨by rw [HF.out]; rfl, HW.out⟩
  · have hb : ((s.size : Int) != (t.size : Int)) = true := by simp; omega
    have hf : decide (lowL (bs s) = lowL (bs t)) = false := by
      simp only [decide_eq_false_iff_not]
      intro e
      have := congrArg List.length e
      rw [length_lowL, length_lowL, length_bs, length_bs] at this
      exact hne this
    have HF := Lib.hid hf
    clear hf hne
    go_enter Tryd.func41, Tryd.ntmps41
    go_wp2_with fail
    go_ret
    exact ⟨by rw [HF.out]; rfl, 0, rfl⟩
end Tk
end Go.Proofs.YtpcdaaijlgilkaaDoor
namespace Go.Proofs.YtpcdaaijlgilkaaDoor
open Go.RowKit
namespace Tk

def eqF (f g : Bs × Bs) : Bool := decide (lowL f.1 = lowL g.1) && decide (f.2 = g.2)
def sameFs : List (Bs × Bs) → List (Bs × Bs) → Bool
  | [], [] => true
  | f :: t, g :: u => eqF f g && sameFs t u
  | _, _ => false

theorem below_some_draws {w w1 : World} (h : Below w.heap.size w w1) (n : Nat) : Below w.heap.size w (w1.drewN n) := h.trans ⟨rfl, rfl, rfl, Nat.le_refl _, fun _ _ => rfl⟩
theorem beq_mkS' (a b : Bs) : ((mkS a).toList == (mkS b).toList) = decide (a = b) := by
  rw [toList_bs, toList_bs, bs_mkS, bs_mkS]
  by_cases h : a = b <;> simp [h]

set_option maxHeartbeats 2000000 in
set_option maxRecDepth 100000 in
theorem same1_any (n x m y : Bs) (w : World) (hn : n.length ≤ 1099511627776) (hm : m.length ≤ 1099511627776) :
    Calls Tryd.prog 51 #[.agg #[.string (mkS n), .string (mkS x)], .agg #[.string (mkS m), .string (mkS y)]] w fun e w' => e = .returned (.bool (eqF (n, x) (m, y))) ∧ Below w.heap.size w w' := by
  have HS := fun W : World => tsame_any (mkS n) (mkS m) W (by rw [size_mkS]; exact hn) (by rw [size_mkS]; exact hm)
  rw [bs_mkS, bs_mkS] at HS
  have hv : eqF (n, x) (m, y) = (decide (lowL n = lowL m) && decide (x = y)) := rfl
  have hxy := beq_mkS' x y
  have HV := Lib.hid hv
  clear hv
  generalize decide (x = y) = d at *
  generalize decide (lowL n = lowL m) = c at *
  have HS2 := Lib.hid HS
  clear HS
  cases c
  all_goals
    go_enter Tryd.func51, Tryd.ntmps51
    go_wp2_with fail
    refine (HS2.out _).mono ?_
    rintro e w' ⟨rfl, k, rfl⟩
    go_wp2_with fail
    go_ret
    refine ⟨by rw [HV.out]; rfl, below_some_draws ?_ _⟩
    exact ((Below.refl _ _).alloc (Nat.le_refl _) _).alloc (by simp) _

theorem sameFs_drop (l m : List (Bs × Bs)) (i : Nat) (hi : i < l.length) (hm : i < m.length) : sameFs (l.drop i) (m.drop i) = (eqF (l.getD i ([], [])) (m.getD i ([], [])) && sameFs (l.drop (i + 1)) (m.drop (i + 1))) := by
  rw [List.drop_eq_getElem_cons hi, List.drop_eq_getElem_cons hm, sameFs]
  simp [List.getD, hi, hm]
theorem sameFs_len : ∀ (l m : List (Bs × Bs)), sameFs l m = true → l.length = m.length
  | [], [], _ => rfl
  | f :: t, g :: u, h => by
    simp only [sameFs, Bool.and_eq_true] at h
    have := sameFs_len t u h.2
    simp [this]
  | [], _ :: _, h => by simp [sameFs] at h
  | _ :: _, [], h => by simp [sameFs] at h

set_option maxHeartbeats 4000000 in
set_option maxRecDepth 100000 in
theorem efunc_any (v1 v2 : Value) (l m : List (Bs × Bs)) (w : World) (h1 : IsFlds w v1 l) (h2 : IsFlds w v2 m) (hz : ∀ f, f ∈ l ∨ f ∈ m → f.1.length ≤ 1099511627776) (hl : l.length ≤ 1099511627) (_hm : m.length ≤ 1099511627) :
    Calls Tryd.prog 50 #[v1, v2, .func (.func 51) #[] #[]] w fun e w' => e = .returned (.bool (sameFs l m)) ∧ Below w.heap.size w w' := by
  have H1 := Lib.hid h1
  have H2 := Lib.hid h2
  have HZ := Lib.hid hz
  obtain ⟨a1, c1, rfl⟩ : ∃ a cap, v1 = .slice a l.length cap := by obtain ⟨a, c, h, -⟩ := h1; exact ⟨a, c, h⟩
  obtain ⟨a2, c2, rfl⟩ : ∃ a cap, v2 = .slice a m.length cap := by obtain ⟨a, c, h, -⟩ := h2; exact ⟨a, c, h⟩
  clear h1 h2 hz
  by_cases hlm : l.length = m.length
  · have hb : ((l.length : Int) != (m.length : Int)) = false := by rw [hlm]; simp
    have HLM := Lib.hid hlm
    clear hlm
    go_enter Tryd.func50, Tryd.ntmps50
    go_wp2_with fail
    go_loopw [17] (fun vi wr => ∃ i : Nat, i ≤ l.length ∧ vi = .int .i64 i ∧ Hid (sameFs l m = sameFs (l.drop i) (m.drop i)) ∧ Hid (Below w.heap.size w wr)) (fun vi _ => l.length - (RowKit.intOf vi).toNat)
    case atStart => exact ⟨0, Nat.zero_le _, rfl, rfl, Below.refl _ _⟩
    case round =>
      obtain ⟨i, hi, rfl, hd, HB⟩ := hrel
      rename World => W
      by_cases hlt : i < l.length
      · have hlt2 : i < m.length := by have := HLM.out; omega
        obtain ⟨a1', c1', e', -, hc1⟩ := isFlds_below H1.out HB.out
        injection e' with e1 _ e2
        subst e1 e2
        obtain ⟨a2', c2', e', -, hc2⟩ := isFlds_below H2.out HB.out
        injection e' with e1 _ e2
        subst e1 e2
        obtain ⟨b1, o1, rfl, p0, p1⟩ := hc1 i (l.getD i ([], [])) (by simp [List.getD, hlt])
        obtain ⟨b2, o2, rfl, q0, q1⟩ := hc2 i (m.getD i ([], [])) (by simp [List.getD, hlt2])
        have z1 := HZ.out (l.getD i ([], [])) (.inl (by simp [List.getD, hlt]))
        have z2 := HZ.out (m.getD i ([], [])) (.inr (by simp [List.getD, hlt2]))
        have hst := sameFs_drop l m i hlt hlt2
        have HST := Lib.hid hst
        clear hc1 hc2 hst
        generalize l.getD i ([], []) = f at *
        generalize m.getD i ([], []) = g at *
        obtain ⟨n, x⟩ := f
        obtain ⟨k, y⟩ := g
        simp only at z1 z2 p0 p1 q0 q1
        have g0 : (0 : Int) ≤ (i : Int) := by omega
        have g1 : (i : Int) < (l.length : Int) := by omega
        have g2 : (i : Int) < (m.length : Int) := by omega
        have HC := fun W : World => same1_any n x k y W z1 z2
        have hlt2' : b2 < W.heap.size := cell_lt (p := ⟨b2, o2 + i * 2, none⟩) q0
        have r0 : (W.alloc (Obj.cells #[.string (mkS n), .string (mkS x)] 26)).cell? ⟨b2, o2 + i * 2, none⟩ = some (.string (mkS k)) := (World.cell?_alloc_lt W _ _ hlt2').trans q0
        have r1 : (W.alloc (Obj.cells #[.string (mkS n), .string (mkS x)] 26)).cell? ⟨b2, o2 + i * 2 + 1, none⟩ = some (.string (mkS y)) := (World.cell?_alloc_lt W _ _ hlt2').trans q1
        have hbb : Below W.heap.size W ((W.alloc (Obj.cells #[.string (mkS n), .string (mkS x)] 26)).alloc (Obj.cells #[.string (mkS k), .string (mkS y)] 26)) := ((Below.refl _ _).alloc (Nat.le_refl _) _).alloc (by simp) _
        have HB2 := Lib.hid (HB.out.trans (hbb.mono HB.out.size))
        clear hbb
        cases hv : eqF (n, x) (k, y)
        · rw [hv] at HC
          have fin : sameFs l m = false := by rw [hd.out, HST.out, hv]; rfl
          have HF := Lib.hid fin
          have HC2 := Lib.hid HC
          clear HC fin hv
          go_wp2_with fail
          refine (HC2.out _).mono ?_
          rintro e w' ⟨rfl, hb'⟩
          have HB3 := Lib.hid (HB2.out.trans (hb'.mono HB2.out.size))
          clear hb'
          go_wp2_with fail
          go_ret
          exact ⟨by rw [HF.out]; rfl, HB3.out⟩
        · rw [hv] at HC
          have nx : sameFs l m = sameFs (l.drop (i + 1)) (m.drop (i + 1)) := by rw [hd.out, HST.out, hv]; rfl
          have HX := Lib.hid nx
          have HC2 := Lib.hid HC
          clear HC nx hv
          go_wp2_with fail
          refine (HC2.out _).mono ?_
          rintro e w' ⟨rfl, hb'⟩
          have HB3 := Lib.hid (HB2.out.trans (hb'.mono HB2.out.size))
          clear hb'
          go_wp2_with fail
          exact ⟨⟨i + 1, by omega, by go_num, HX, HB3⟩, by simp [RowKit.intOf]; omega⟩
      · have fin : sameFs l m = true := by
          have := HLM.out
          rw [hd.out, List.drop_eq_nil_of_le (by omega), List.drop_eq_nil_of_le (by omega)]; rfl
        have HF := Lib.hid fin
        clear fin
        go_wp2_with fail
        go_ret
        exact ⟨by rw [HF.out]; rfl, HB.out⟩
  · have hb : ((l.length : Int) != (m.length : Int)) = true := by simp; omega
    have fin : sameFs l m = false := by
      cases h : sameFs l m
      · rfl
      · exact absurd (sameFs_len l m h) hlm
    have HF := Lib.hid fin
    clear fin hlm
    go_enter Tryd.func50, Tryd.ntmps50
    go_wp2_with fail
    go_ret
    exact ⟨by rw [HF.out]; rfl, Below.refl _ _⟩

set_option maxHeartbeats 4000000 in
set_option maxRecDepth 100000 in
theorem fsame_any (v1 v2 : Value) (l m : List (Bs × Bs)) (w : World) (h1 : IsFlds w v1 l) (h2 : IsFlds w v2 m) (hz : ∀ f, f ∈ l ∨ f ∈ m → f.1.length ≤ 1099511627776) (hl : l.length ≤ 1099511627) (hm : m.length ≤ 1099511627) :
    Calls Tryd.prog 25 #[v1, v2] w fun e w' => e = .returned (.bool (sameFs l m)) ∧ Below w.heap.size w w' := by
  have H := Lib.hid (efunc_any v1 v2 l m w h1 h2 hz hl hm)
  obtain ⟨a1, c1, rfl⟩ : ∃ a cap, v1 = .slice a l.length cap := by obtain ⟨a, c, h, -⟩ := h1; exact ⟨a, c, h⟩
  obtain ⟨a2, c2, rfl⟩ : ∃ a cap, v2 = .slice a m.length cap := by obtain ⟨a, c, h, -⟩ := h2; exact ⟨a, c, h⟩
  clear h1 h2 hz
  go_enter Tryd.func25, Tryd.ntmps25
  go_wp2_with fail
  refine H.out.mono ?_
  rintro e w' ⟨rfl, hb⟩
  have HB := Lib.hid hb
  clear hb
  go_wp2_with fail
  go_ret
  exact ⟨rfl, HB.out⟩
end Tk
end Go.Proofs.YtpcdaaijlgilkaaDoor
namespace Go.Proofs.YtpcdaaijlgilkaaDoor
open Go.RowKit
namespace Tk

def strs (P : List Bs) : List Value := P.map fun t => .string (mkS t)
theorem strs_append (P Q : List Bs) : strs (P ++ Q) = strs P ++ strs Q := by simp [strs]
theorem strInfo : (Tryd.prog.info? 9).map (fun i => (i.zero, i.size, i.bytes)) = some (some (.string .empty), 1, 16) := by kernel_rfl

def ListPost (base : Nat) (Q : List Bs) (w : World) (r : Ending) (w' : World) : Prop :=
  ∃ v, r = .returned v ∧ w'.ownsRow base 9 1 v Q.length (strs Q) ∧ Below base w w'

theorem below_of_grown {a b : World} {B : Nat} {v : Value} {n : Nat} {xs : List Value} {e : TypeId} (h : a.grownBy b v.ownBlock) (ho : a.ownsRow B e 1 v n xs) (hB : B ≤ a.heap.size) : Below B a b :=
  (Below.refl B a).grown h hB fun k hk => (ho.lt k hk).1
end Tk
end Go.Proofs.YtpcdaaijlgilkaaDoor
namespace Go.Proofs.YtpcdaaijlgilkaaDoor
open Go.RowKit
namespace Tk

def isN (name : Bs) (f : Bs × Bs) : Bool := decide (lowL f.1 = lowL name)
def allF (l : List (Bs × Bs)) (name : Bs) : List Bs := (l.filter (isN name)).map (·.2)
theorem allF_snoc (l : List (Bs × Bs)) (f : Bs × Bs) (name : Bs) : allF (l ++ [f]) name = allF l name ++ (if isN name f then [f.2] else []) := by
  unfold allF
  cases h : isN name f <;> simp [h]
theorem allF_len (l : List (Bs × Bs)) (name : Bs) : (allF l name).length ≤ l.length := by
  unfold allF; rw [List.length_map]; exact List.length_filter_le _ _

set_option maxHeartbeats 4000000 in
set_option maxRecDepth 100000 in
theorem fown_any (n x : Bs) (w : World) (hn : n.length ≤ 1099511627776) (hx : x.length ≤ 1099511627776) :
    Calls Tryd.prog 47 #[.string (mkS n), .string (mkS x)] w fun e w' => e = .returned (.agg #[.string (mkS n), .string (mkS x)]) ∧ Below w.heap.size w w' := by
  have H1 := Lib.hid (fun W : World => clone_any (mkS n) W (by rw [size_mkS]; exact hn))
  have H2 := Lib.hid (fun W : World => clone_any (mkS x) W (by rw [size_mkS]; exact hx))
  rw [bs_mkS] at H1 H2
  have HN := Lib.hid (Two.new w 26 (.string ⟨#[]⟩) (.string ⟨#[]⟩))
  have HB0 := Lib.hid (show Below w.heap.size w (w.alloc (.cells #[.string ⟨#[]⟩, .string ⟨#[]⟩] 26)) from (Below.refl _ _).alloc (Nat.le_refl _) _)
  have hsz : w.heap.size ≤ (w.alloc (.cells #[.string ⟨#[]⟩, .string ⟨#[]⟩] 26)).heap.size := by simp
  go_enter Tryd.func47, Tryd.ntmps47
  go_wp2_with fail
  generalize w.alloc (.cells #[.string ⟨#[]⟩, .string ⟨#[]⟩] 26) = W0 at *
  refine (H1.out _).mono ?_
  rintro e w1 ⟨rfl, hb⟩
  have HN1 := Lib.hid (HN.out.later hb)
  have HB1 := Lib.hid (HB0.out.trans (hb.mono hsz))
  have hsz1 := Nat.le_trans hsz hb.size
  clear hb
  go_wp2_with fail
  refine (H2.out _).mono ?_
  rintro e w2 ⟨rfl, hb⟩
  have HN2 := Lib.hid (HN1.out.later hb)
  have HB2 := Lib.hid (HB1.out.trans (hb.mono hsz1))
  have c0 := HN2.out.c0
  have c1 := HN2.out.c1
  have f0 := HN2.out.f0
  have f1 := HN2.out.f1
  clear hb
  have hput := HN2.out.put (.string (mkS n)) (.string (mkS x))
  have q0 := hput.1
  have q1 := hput.2
  clear hput
  go_wp2_with fail
  refine bodyPost_ret (v := .agg #[.string (mkS n), .string (mkS x)]) ?_ rfl ⟨rfl, ?_⟩
  · simp [results, Tryd.results47, go_sem, q0, q1]
  · exact (HB2.out.setCell (p := ⟨w.heap.size, 0, none⟩) (Nat.le_refl _) _).setCell (p := ⟨w.heap.size, 1, none⟩) (Nat.le_refl _) _

set_option maxHeartbeats 8000000 in
set_option maxRecDepth 100000 in
theorem fall_any (v : Value) (l : List (Bs × Bs)) (name : Bs) (w : World) (hs : IsFlds w v l) (hz : ∀ f ∈ l, f.1.length ≤ 1099511627776 ∧ f.2.length ≤ 1099511627776) (hn : name.length ≤ 1099511627776) (hl : l.length ≤ 1048576) :
    Calls Tryd.prog 15 #[v, .string (mkS name)] w (ListPost w.heap.size (allF l name) w) := by
  have HS := Lib.hid hs
  have HZ := Lib.hid hz
  obtain ⟨i0, hi0, hz0, hz1, hz2⟩ := info_parts strInfo
  have HNZ := Lib.hid (size_mkS name)
  obtain ⟨a, cap, rfl⟩ : ∃ a cap, v = .slice a l.length cap := by obtain ⟨a, c, h, -⟩ := hs; exact ⟨a, c, h⟩
  clear hs hz
  go_enter Tryd.func15, Tryd.ntmps15
  go_wp2_with fail
  go_loopw [5, 10] (fun v5 vi wr => ∃ i : Nat, i ≤ l.length ∧ vi = .int .i64 i ∧ Hid (wr.ownsRow w.heap.size 9 1 v5 (allF (l.take i) name).length (strs (allF (l.take i) name))) ∧ Hid (Below w.heap.size w wr)) (fun _ vi _ => l.length - (RowKit.intOf vi).toNat)
  case atStart => exact ⟨0, Nat.zero_le _, rfl, World.ownsRow_nil _ _ _ _, Below.refl _ _⟩
  case round =>
    obtain ⟨i, hi, rfl, HO, HB⟩ := hrel
    rename World => W
    by_cases hlt : i < l.length
    · obtain ⟨a', c', e', hcap, hc⟩ := isFlds_below HS.out HB.out
      injection e' with e1 _ e2
      subst e1 e2
      obtain ⟨b, o, rfl, hc0, hc1⟩ := hc i (l.getD i ([], [])) (by simp [List.getD, hlt])
      have hm := HZ.out (l.getD i ([], [])) (by simp [List.getD, hlt])
      have htk : l.take (i + 1) = l.take i ++ [l.getD i ([], [])] := by
        rw [List.take_succ_eq_append_getElem hlt]; simp [List.getD, hlt]
      have hnx := allF_snoc (l.take i) (l.getD i ([], [])) name
      rw [← htk] at hnx
      have HNX := Lib.hid hnx
      have hal := allF_len (l.take i) name
      have htl : (l.take i).length ≤ i := by simp; omega
      have hal2 : (allF (l.take i) name).length ≤ 1048576 := by omega
      clear hc htk hnx hal htl
      generalize l.getD i ([], []) = f at *
      obtain ⟨n, x⟩ := f
      have hnz := size_mkS n
      have hxz := size_mkS x
      simp only at hm hc0 hc1
      have HC := fun W : World => tsame_any (mkS n) (mkS name) W (by omega) (by rw [HNZ.out]; exact hn)
      rw [bs_mkS, bs_mkS] at HC
      have HCl := Lib.hid (fun W : World => clone_any (mkS x) W (by omega))
      rw [bs_mkS] at HCl
      have HF0 := Lib.hid (Two.new W 26 (.string (mkS n)) (.string (mkS x)))
      have hb0 : Below W.heap.size W (W.alloc (Obj.cells #[.string (mkS n), .string (mkS x)] 26)) := (Below.refl _ _).alloc (Nat.le_refl _) _
      have HO0 := Lib.hid (own_keep HO.out hb0)
      have HB0 := Lib.hid (HB.out.trans (hb0.mono HB.out.size))
      have hq0 := HF0.out.c0
      have hq1 := HF0.out.c1
      have g0 : (0 : Int) ≤ (i : Int) := by omega
      have g1 : (i : Int) < (l.length : Int) := by omega
      have hbsz := HB.out.size
      have hs0 : w.heap.size ≤ (W.alloc (Obj.cells #[.string (mkS n), .string (mkS x)] 26)).heap.size := by simp; omega
      clear hb0 hnz hxz hbsz
      have hkk : isN name (n, x) = decide (lowL n = lowL name) := rfl
      rw [← hkk] at HC
      clear hkk
      generalize allF (l.take i) name = P at *
      cases hk : isN name (n, x)
      · rw [hk] at HC HNX
        have hx2 : allF (l.take (i + 1)) name = P := by rw [HNX.out]; simp
        have HX := Lib.hid hx2
        have HC2 := Lib.hid HC
        clear HC hk hx2
        go_wp2_with fail
        generalize W.alloc (Obj.cells #[.string (mkS n), .string (mkS x)] 26) = W4 at *
        generalize W.heap.size = g at *
        refine (HC2.out _).mono ?_
        rintro e w5 ⟨rfl, k, rfl⟩
        go_wp2_with fail
        refine ⟨⟨i + 1, hlt, by go_num, ?_, below_some_draws HB0.out k⟩, by simp [RowKit.intOf]; omega⟩
        show World.ownsRow _ _ _ _ _ _ _
        rw [HX.out]
        exact HO0.out
      · rw [hk] at HC HNX
        have hx2 : allF (l.take (i + 1)) name = P ++ [x] := by rw [HNX.out]; simp
        have HX := Lib.hid hx2
        have HC2 := Lib.hid HC
        clear HC hk hx2
        go_wp2_with fail
        generalize W.alloc (Obj.cells #[.string (mkS n), .string (mkS x)] 26) = W4 at *
        generalize W.heap.size = g at *
        refine (HC2.out _).mono ?_
        rintro e w5 ⟨rfl, k, rfl⟩
        have hF5 := HF0.out.draws k
        have p1 := hF5.c1
        have HB5 := Lib.hid (below_some_draws HB0.out k)
        have HO5 := Lib.hid (show (W4.drewN k).ownsRow w.heap.size 9 1 u5 P.length (strs P) from HO0.out)
        have hs5 : w.heap.size ≤ (W4.drewN k).heap.size := hs0
        clear hF5
        go_wp2_with fail
        refine (HCl.out _).mono ?_
        rintro e w6 ⟨rfl, hb⟩
        have hown' := own_keep HO5.out hb
        have hB' : w.heap.size ≤ w6.heap.size := Nat.le_trans hs5 hb.size
        have HB6 := Lib.hid (HB5.out.trans (hb.mono hs5))
        clear hb p1
        go_wp2_with (at_builtin; refine wpList_append_own _ rfl _ _ 34 rfl w.heap.size 9 i0 (.string .empty) 1 16 Tryd.underlying34 hi0 hz0 hz1 hz2 rfl (by decide) _ _ _ rfl (hown'.alloc _) ⟨w6.heap.size, 0, none⟩ 1 1 [.string (mkS x)] rfl rfl ?c1 ?c2 ?c3 ?c4 ?c5 ?_)
        case c1 => exact cell_one_new _ _ _
        case c2 => simp [Value.oneCell']
        case c3 => unfold maxLen; omega
        case c4 => omega
        case c5 => simp; omega
        intro v' w1 hown1 hg1 _
        have hb1 : Below w.heap.size w w1 := HB6.out.trans (((Below.refl w.heap.size w6).alloc hB' _).trans (below_of_grown hg1 (hown'.alloc _) (by simp; omega)))
        have HB7 := Lib.hid hb1
        have HO7 := Lib.hid hown1
        clear hb1 hown1 hg1 hown'
        go_wp2_with fail
        refine ⟨⟨i + 1, hlt, by go_num, ?_, HB7⟩, by simp [RowKit.intOf]; omega⟩
        show World.ownsRow _ _ _ _ _ _ _
        rw [HX.out, List.length_append, strs_append]
        exact HO7.out
    · have hil : l.take i = l := List.take_of_length_le (by omega)
      rw [hil] at HO
      go_wp2_with fail
      go_ret
      exact ⟨u5, rfl, HO.out, HB.out⟩
end Tk
end Go.Proofs.YtpcdaaijlgilkaaDoor
