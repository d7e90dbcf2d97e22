/- RefTr RefL VdA RSm, put together. -/
import Derived.Test.YthooghgiokgdhaaGreatDoorQI
import Derived.Test.YthooghgiokgdhaaGreatDoorQA
import Derived.Test.YthooghgiokgdhaaGreatDoorQH
namespace Go.Proofs.YthooghgiokgdhaaGreatDoor
open Go.RowKit
namespace Tk

theorem tr_consW (c : UInt8) (l : Bs) (hc : wh c = true) : trimL (c :: l) = trimL l := by
  rw [trimL_eq, trimL_eq]
  unfold tr
  rw [List.reverse_cons, dropWhile_append]
  have h1 : ([c] : Bs).dropWhile wh = [] := by rw [List.dropWhile_cons, hc, if_pos rfl]; rfl
  by_cases h : l.reverse.dropWhile wh = []
  · rw [if_pos h, h, h1]
  · rw [if_neg h, List.reverse_append]
    show (c :: (l.reverse.dropWhile wh).reverse).dropWhile wh = _
    rw [List.dropWhile_cons, hc, if_pos rfl]
theorem tr_snocW (c : UInt8) (l : Bs) (hc : wh c = true) : trimL (l ++ [c]) = trimL l := by
  rw [trimL_eq, trimL_eq]
  congr 1
  unfold tr
  rw [List.reverse_append]
  show ((c :: l.reverse).dropWhile wh).reverse = _
  rw [List.dropWhile_cons, hc, if_pos rfl]
theorem wh_of (c : UInt8) : wh c = (decide (c.toNat = 32) || decide (c.toNat = 9)) := by
  have := u8_all (fun c => wh c == (decide (c.toNat = 32) || decide (c.toNat = 9))) (by decide +kernel) c
  simpa using this

set_option maxHeartbeats 400000 in
theorem rWhite_any (c : UInt8) (w : World) :
    Calls Tryz.prog 189 #[.int .u8 (c.toNat : Int)] w fun e w' => e = .returned (.bool (wh c)) ∧ w = w' := by
  have HD := Lib.hid (wh_of c)
  generalize wh c = b at *
  generalize c.toNat = n at *
  by_cases h0 : n = 32
  · have e0 : ((n : Int) == 32) = true := by rw [beq_iff_eq]; omega
    have H0 := Lib.hid h0
    clear h0
    go_enter Tryz.func189, Tryz.ntmps189
    go_wp2_with fail
    go_ret
    exact ⟨retB2 (by rw [HD.out, H0.out]; simp), rfl⟩
  · have e0 : ((n : Int) == 32) = false := by rw [beq_eq_false_iff_ne]; omega
    have hd := HD.out
    rw [decide_eq_false h0, Bool.false_or] at hd
    have HD2 := Lib.hid hd
    by_cases h1 : n = 9
    · have e1 : ((n : Int) == 9) = true := by rw [beq_iff_eq]; omega
      have HD3 := Lib.hid (show b = true by rw [hd, decide_eq_true h1])
      clear h0 h1 hd HD HD2
      go_enter Tryz.func189, Tryz.ntmps189
      go_wp2_with fail
      go_ret
      exact ⟨retB2 (by rw [HD3.out] <;> first | rfl | simp), rfl⟩
    · have e1 : ((n : Int) == 9) = false := by rw [beq_eq_false_iff_ne]; omega
      have HD3 := Lib.hid (show b = false by rw [hd, decide_eq_false h1])
      clear h0 h1 hd HD HD2
      go_enter Tryz.func189, Tryz.ntmps189
      go_wp2_with fail
      go_ret
      exact ⟨retB2 (by rw [HD3.out] <;> first | rfl | simp), rfl⟩

set_option maxHeartbeats 4000000 in
set_option maxRecDepth 100000 in
theorem rTrim_any (s : ByteArray) (w : World) (hs : s.size ≤ 1099511627776) :
    Calls Tryz.prog 141 #[.string s] w fun e w' => e = .returned (.string (mkS (trimL (bs s)))) ∧ w = w' := by
  go_enter Tryz.func141, Tryz.ntmps141
  go_wp2_with fail
  go_loop [0] (fun vs => ∃ t : ByteArray, vs = .string t ∧ t.size ≤ s.size ∧ Hid (trimL (bs t) = trimL (bs s))) (fun vs => match vs with | .string t => t.size | _ => 0)
  case atStart => exact ⟨s, rfl, Nat.le_refl _, rfl⟩
  case round =>
    obtain ⟨t, rfl, htz, hT⟩ := hrel
    have second : ∀ (c1 : t.size = 0 ∨ ∃ h : 0 < t.size, wh t[0] = false), ∀ c, (bs t).head? = some c → wh c = false := by
      rintro (h | ⟨h, h'⟩) c hc
      · have : bs t = [] := List.eq_nil_of_length_eq_zero (by rw [length_bs]; exact h)
        rw [this] at hc; cases hc
      · rw [bs_head t h] at hc
        injection hc with hc
        rw [← hc]; exact h'
    have hcase : t.size = 0 ∨ (0 < t.size ∧ ((∃ h : 0 < t.size, wh t[0] = false) ∨ ∃ h : 0 < t.size, wh t[0] = true)) := by
      by_cases hz : t.size = 0
      · exact .inl hz
      · right
        have hp : 0 < t.size := by omega
        refine ⟨hp, ?_⟩
        cases h : wh t[0]
        · exact .inl ⟨hp, h⟩
        · exact .inr ⟨hp, h⟩
    have HSec := Lib.hid second
    clear second
    rcases hcase with hz | ⟨hp, ⟨hp', hw⟩ | ⟨hp', hw⟩⟩
    · have he := empty_of t hz
      have HHd := Lib.hid (HSec.out (.inl hz))
      clear hz
      go_wp2_with fail
      go_loop [0] (fun vs => ∃ u : ByteArray, vs = .string u ∧ u.size ≤ s.size ∧ Hid (trimL (bs u) = trimL (bs s)) ∧ Hid (∀ c, (bs u).head? = some c → wh c = false)) (fun vs => match vs with | .string t => t.size | _ => 0)
      case atStart => exact ⟨t, rfl, htz, hT, HHd⟩
      case round =>
        obtain ⟨u, rfl, huz, hU, hH⟩ := hrel
        by_cases hz : u.size = 0
        · have he2 := empty_of u hz
          have hnil : bs u = [] := List.eq_nil_of_length_eq_zero (by rw [length_bs]; exact hz)
          have HF := Lib.hid (show mkS (trimL (bs s)) = u by rw [← hU.out, hnil]; exact (show mkS [] = u by rw [← hnil, mkS_bs]))
          clear hz hnil
          go_wp2_with fail
          go_ret
          exact ⟨by rw [HF.out]; rfl, rfl⟩
        · have hup : 0 < u.size := by omega
          have he2 := not_empty_of u hup
          have hul : u.size - 1 < u.size := by omega
          have k1 : IntKind.i64.wrap ((u.size : Int) - 1) = ((u.size - 1 : Nat) : Int) := by rw [IntWalk.i64_in _ (by omega)]; omega
          have k2 : ((u.size : Int) - 1).toNat = u.size - 1 := by omega
          have hsp : bs u = (bs u).take (u.size - 1) ++ [u[u.size - 1]'hul] := by
            have h1 := take_snoc (bs u) (u.size - 1) (by rw [length_bs]; exact hul)
            rw [getD_bs u _ hul, show u.size - 1 + 1 = u.size by omega, List.take_of_length_le (by rw [length_bs]; exact Nat.le_refl _)] at h1
            exact h1
          have HC := rWhite_any (u[u.size - 1]'hul) w
          cases hl : wh (u[u.size - 1]'hul)
          · rw [hl] at HC
            have hneat : Neat (bs u) := ⟨hH.out, fun c hc => by
              rw [hsp, List.getLast?_append] at hc
              simp at hc
              rw [← hc]; exact hl⟩
            have HF := Lib.hid (show mkS (trimL (bs s)) = u by rw [← hU.out, neat_trim _ hneat, mkS_bs])
            have HC2 := Lib.hid HC
            clear HC hl hsp hneat hz
            go_wp2_with fail
            refine HC2.out.mono ?_
            rintro e w' ⟨rfl, rfl⟩
            go_wp2_with fail
            go_ret
            exact ⟨by rw [HF.out]; rfl, rfl⟩
          · rw [hl] at HC
            have hbu : bs (u.extract 0 (u.size - 1)) = (bs u).take (u.size - 1) := by rw [bs_extract]; simp
            have hzu : (u.extract 0 (u.size - 1)).size = u.size - 1 := by rw [← length_bs, hbu, List.length_take, length_bs]; omega
            have hU2 : Hid (trimL (bs (u.extract 0 (u.size - 1))) = trimL (bs s)) := by
              show _ = _
              rw [hbu, ← hU.out]
              conv => rhs; rw [hsp]
              rw [tr_snocW _ _ hl]
            have hH2 : Hid (∀ c, (bs (u.extract 0 (u.size - 1))).head? = some c → wh c = false) := by
              intro c hc
              refine hH.out c ?_
              rw [hbu] at hc
              rw [hsp]
              cases hq : (bs u).take (u.size - 1) with
              | nil => rw [hq] at hc; cases hc
              | cons a q => rw [hq] at hc; exact hc
            have HZU := Lib.hid hzu
            have HC2 := Lib.hid HC
            clear HC hl hsp hbu hzu hz
            go_wp2_with fail
            refine HC2.out.mono ?_
            rintro e w' ⟨rfl, rfl⟩
            go_wp2_with fail
            exact ⟨⟨u.extract 0 (u.size - 1), rfl, by rw [HZU.out]; omega, hU2, hH2⟩, by show (u.extract 0 (u.size - 1)).size < u.size; rw [HZU.out]; omega⟩
    · have he := not_empty_of t hp
      have hp2 : (0 : Int) < (t.size : Int) := by omega
      have HHd := Lib.hid (HSec.out (.inr ⟨hp', hw⟩))
      have HC0 := rWhite_any t[0] w
      rw [hw] at HC0
      have HC1 := Lib.hid HC0
      clear HC0 hw
      go_wp2_with fail
      refine HC1.out.mono ?_
      rintro e w' ⟨rfl, rfl⟩
      go_wp2_with fail
      go_loop [0] (fun vs => ∃ u : ByteArray, vs = .string u ∧ u.size ≤ s.size ∧ Hid (trimL (bs u) = trimL (bs s)) ∧ Hid (∀ c, (bs u).head? = some c → wh c = false)) (fun vs => match vs with | .string t => t.size | _ => 0)
      case atStart => exact ⟨t, rfl, htz, hT, HHd⟩
      case round =>
        obtain ⟨u, rfl, huz, hU, hH⟩ := hrel
        by_cases hz : u.size = 0
        · have he2 := empty_of u hz
          have hnil : bs u = [] := List.eq_nil_of_length_eq_zero (by rw [length_bs]; exact hz)
          have HF := Lib.hid (show mkS (trimL (bs s)) = u by rw [← hU.out, hnil]; exact (show mkS [] = u by rw [← hnil, mkS_bs]))
          clear hz hnil
          go_wp2_with fail
          go_ret
          exact ⟨by rw [HF.out]; rfl, rfl⟩
        · have hup : 0 < u.size := by omega
          have he2 := not_empty_of u hup
          have hul : u.size - 1 < u.size := by omega
          have k1 : IntKind.i64.wrap ((u.size : Int) - 1) = ((u.size - 1 : Nat) : Int) := by rw [IntWalk.i64_in _ (by omega)]; omega
          have k2 : ((u.size : Int) - 1).toNat = u.size - 1 := by omega
          have hsp : bs u = (bs u).take (u.size - 1) ++ [u[u.size - 1]'hul] := by
            have h1 := take_snoc (bs u) (u.size - 1) (by rw [length_bs]; exact hul)
            rw [getD_bs u _ hul, show u.size - 1 + 1 = u.size by omega, List.take_of_length_le (by rw [length_bs]; exact Nat.le_refl _)] at h1
            exact h1
          have HC := rWhite_any (u[u.size - 1]'hul) w
          cases hl : wh (u[u.size - 1]'hul)
          · rw [hl] at HC
            have hneat : Neat (bs u) := ⟨hH.out, fun c hc => by
              rw [hsp, List.getLast?_append] at hc
              simp at hc
              rw [← hc]; exact hl⟩
            have HF := Lib.hid (show mkS (trimL (bs s)) = u by rw [← hU.out, neat_trim _ hneat, mkS_bs])
            have HC2 := Lib.hid HC
            clear HC hl hsp hneat hz
            go_wp2_with fail
            refine HC2.out.mono ?_
            rintro e w' ⟨rfl, rfl⟩
            go_wp2_with fail
            go_ret
            exact ⟨by rw [HF.out]; rfl, rfl⟩
          · rw [hl] at HC
            have hbu : bs (u.extract 0 (u.size - 1)) = (bs u).take (u.size - 1) := by rw [bs_extract]; simp
            have hzu : (u.extract 0 (u.size - 1)).size = u.size - 1 := by rw [← length_bs, hbu, List.length_take, length_bs]; omega
            have hU2 : Hid (trimL (bs (u.extract 0 (u.size - 1))) = trimL (bs s)) := by
              show _ = _
              rw [hbu, ← hU.out]
              conv => rhs; rw [hsp]
              rw [tr_snocW _ _ hl]
            have hH2 : Hid (∀ c, (bs (u.extract 0 (u.size - 1))).head? = some c → wh c = false) := by
              intro c hc
              refine hH.out c ?_
              rw [hbu] at hc
              rw [hsp]
              cases hq : (bs u).take (u.size - 1) with
              | nil => rw [hq] at hc; cases hc
              | cons a q => rw [hq] at hc; exact hc
            have HZU := Lib.hid hzu
            have HC2 := Lib.hid HC
            clear HC hl hsp hbu hzu hz
            go_wp2_with fail
            refine HC2.out.mono ?_
            rintro e w' ⟨rfl, rfl⟩
            go_wp2_with fail
            exact ⟨⟨u.extract 0 (u.size - 1), rfl, by rw [HZU.out]; omega, hU2, hH2⟩, by show (u.extract 0 (u.size - 1)).size < u.size; rw [HZU.out]; omega⟩
    · have he := not_empty_of t hp
      have hp2 : (0 : Int) < (t.size : Int) := by omega
      have hp1 : (1 : Int) ≤ (t.size : Int) := by omega
      have HC0 := rWhite_any t[0] w
      rw [hw] at HC0
      have HC1 := Lib.hid HC0
      have hbt : bs (t.extract 1 t.size) = (bs t).drop 1 := by
        rw [bs_extract, List.take_of_length_le (by rw [List.length_drop, length_bs]; exact Nat.le_refl _)]
      have hzt : (t.extract 1 t.size).size = t.size - 1 := by rw [← length_bs, hbt, List.length_drop, length_bs]
      have hT2 : Hid (trimL (bs (t.extract 1 t.size)) = trimL (bs s)) := by
        show _ = _
        have h1 := bs_drop t 0 hp
        rw [List.drop_zero] at h1
        rw [hbt, ← hT.out]
        conv => rhs; rw [h1]
        rw [tr_consW _ _ hw]
      have HZT := Lib.hid hzt
      clear HC0 hw hbt hzt
      go_wp2_with fail
      refine HC1.out.mono ?_
      rintro e w' ⟨rfl, rfl⟩
      go_wp2_with fail
      exact ⟨⟨t.extract 1 t.size, rfl, by rw [HZT.out]; omega, hT2⟩, by show (t.extract 1 t.size).size < t.size; rw [HZT.out]; omega⟩
end Tk
end Go.Proofs.YthooghgiokgdhaaGreatDoor
namespace Go.Proofs.YthooghgiokgdhaaGreatDoor
open Go.RowKit
namespace Tk

/-- the byte at place t when the first i are in small letters -/
def mixR (l : Bs) (i t : Nat) : UInt8 := if t < i then lowB (l.getD t 0) else l.getD t 0
theorem bytesRow_atR (s : ByteArray) (cap t : Nat) (h : t < s.size) : (bytesRow s cap)[t]? = some (.int .u8 (((bs s).getD t 0).toNat : Int)) := by
  unfold bytesRow
  rw [Array.getElem?_append_left (by simpa using h), Array.getElem?_map]
  have e : (bs s).getD t 0 = s.data[t]'h := by rw [getD_bs s t h]; rfl
  rw [e, Array.getElem?_eq_getElem h]; rfl
theorem lowB_add (c : UInt8) (h0 : 65 ≤ c.toNat) (h1 : c.toNat ≤ 90) : ((lowB c).toNat : Int) = (c.toNat : Int) + 32 := by
  have := lowB_up c h0 h1; omega

set_option maxRecDepth 100000 in
set_option maxHeartbeats 4000000 in
theorem refLower_any (s : ByteArray) (w : World) (hs : s.size ≤ 1099511627776) :
    Calls Tryz.prog 90 #[.string s] w (StrPost (lowL (bs s)) w) := by
  have HL := Lib.hid (length_bs s)
  have hconv := run_bytes_of_string (P := Tryz.prog) w 9 108 5 s Tryz.underlying9 Tryz.underlying108 Tryz.underlying5
  have hC : ∀ t, t < s.size → (bytesRow s (grownCap w s.size 0 5))[t]? = some (.int .u8 (((bs s).getD t 0).toNat : Int)) := fun t h => bytesRow_atR s _ t h
  generalize bytesRow s (grownCap w s.size 0 5) = C at *
  generalize grownCap w s.size 0 5 = cap at *
  have HC := Lib.hid hC
  clear hC
  go_enter Tryz.func90, Tryz.ntmps90
  go_wp2_with fail
  go_loopw [4] (fun vi wr => ∃ i : Nat, i ≤ s.size ∧ vi = .int .i64 i ∧ Hid (∀ t, t < s.size → wr.cell? ⟨w.heap.size, t, none⟩ = some (.int .u8 ((mixR (bs s) i t).toNat : Int)) ∧ wr.frozen? ⟨w.heap.size, t, none⟩ = false) ∧ Hid (Below w.heap.size w wr)) (fun vi _ => s.size - (RowKit.intOf vi).toNat)
  case atStart =>
    refine ⟨0, Nat.zero_le _, rfl, ?_, ?_⟩
    · intro t ht
      have h1 : ((w.alloc (.cells C 5 (C.size, C.size + 1))).drew).cell? ⟨w.heap.size, t, none⟩ = C[t]? := World.cell?_alloc_mark w C 5 _ t
      have hlt : t < C.size := by
        refine Nat.lt_of_not_le fun hle => ?_
        have := HC.out t ht
        rw [Array.getElem?_eq_none hle] at this
        cases this
      have h2 : ((w.alloc (.cells C 5 (C.size, C.size + 1))).drew).frozen? ⟨w.heap.size, t, none⟩ = _ := World.frozen?_alloc_mark w C 5 _ _ t
      refine ⟨by rw [h1, HC.out t ht]; rfl, ?_⟩
      rw [h2]
      simp; omega
    · exact ((Below.refl _ _).alloc (Nat.le_refl _) _).drew
  case round =>
    obtain ⟨i, hi, rfl, HM, HB⟩ := hrel
    rename World => W
    by_cases hlt : i < s.size
    · obtain ⟨hc, hf⟩ := HM.out i hlt
      have e : mixR (bs s) i i = (bs s).getD i 0 := by unfold mixR; rw [if_neg (by omega)]
      rw [e] at hc
      have nx : ∀ W' : World, (∀ t, t < s.size → t ≠ i → W'.cell? ⟨w.heap.size, t, none⟩ = W.cell? ⟨w.heap.size, t, none⟩) → W'.cell? ⟨w.heap.size, i, none⟩ = some (.int .u8 ((lowB ((bs s).getD i 0)).toNat : Int)) → (∀ t, W'.frozen? ⟨w.heap.size, t, none⟩ = W.frozen? ⟨w.heap.size, t, none⟩) →
          Hid (∀ t, t < s.size → W'.cell? ⟨w.heap.size, t, none⟩ = some (.int .u8 ((mixR (bs s) (i + 1) t).toNat : Int)) ∧ W'.frozen? ⟨w.heap.size, t, none⟩ = false) := by
        intro W' h1 h2 h3 t ht
        obtain ⟨g1, g2⟩ := HM.out t ht
        refine ⟨?_, by rw [h3]; exact g2⟩
        by_cases hti : t = i
        · subst hti
          rw [h2]
          unfold mixR; rw [if_pos (by omega)]
        · rw [h1 t ht hti, g1]
          have : mixR (bs s) i t = mixR (bs s) (i + 1) t := by
            unfold mixR
            by_cases h3 : t < i
            · rw [if_pos h3, if_pos (by omega)]
            · rw [if_neg h3, if_neg (by omega)]
          rw [this]
      have NX := Lib.hid nx
      clear nx e
      generalize (bs s).getD i 0 = c at *
      have hcl := c.toNat_lt
      by_cases h0 : 65 ≤ c.toNat ∧ c.toNat ≤ 90
      · have up := lowB_add c h0.1 h0.2
        have UP := Lib.hid up
        have k0 : (65 : Int) ≤ (c.toNat : Int) := by omega
        have k1 : (c.toNat : Int) ≤ 90 := by omega
        clear up h0
        go_wp2_with fail
        have hcell := hc
        refine ⟨⟨i + 1, by omega, by go_num, NX.out _ (fun t ht hti => World.cell?_setCell_other W ⟨w.heap.size, i, none⟩ ⟨w.heap.size, t, none⟩ _ (by intro e; injection e with _ e2; exact hti e2.symm)) (by rw [World.cell?_setCell_same _ _ _ hcell, UP.out]) (fun t => World.frozen?_setCell _ _ _ _), ?_⟩, by simp [RowKit.intOf]; omega⟩
        exact HB.out.setCell (p := ⟨w.heap.size, i, none⟩) (Nat.le_refl _) _
      · have hsame := lowB_same c h0
        have HS := Lib.hid hsame
        clear hsame
        by_cases h65 : 65 ≤ c.toNat
        · have k0 : (65 : Int) ≤ (c.toNat : Int) := by omega
          have k1 : ¬ (c.toNat : Int) ≤ 90 := by omega
          clear h0
          go_wp2_with fail
          exact ⟨⟨i + 1, by omega, by go_num, NX.out _ (fun _ _ _ => rfl) (by rw [HS.out]; exact hc) (fun _ => rfl), HB⟩, by simp [RowKit.intOf]; omega⟩
        · have k0 : ¬ (65 : Int) ≤ (c.toNat : Int) := by omega
          clear h0
          go_wp2_with fail
          exact ⟨⟨i + 1, by omega, by go_num, NX.out _ (fun _ _ _ => rfl) (by rw [HS.out]; exact hc) (fun _ => rfl), HB⟩, by simp [RowKit.intOf]; omega⟩
    · have hlen : (lowL (bs s)).length = s.size := by rw [length_lowL, HL.out]
      have hback := run_convert_bytes_back (P := Tryz.prog) W 108 9 5 ⟨w.heap.size, 0, none⟩ cap (lowL (bs s)) Tryz.underlying108 Tryz.underlying5 Tryz.underlying9 (fun j hj => by
        have hj' : j < s.size := by rw [hlen] at hj; exact hj
        have h1 := (HM.out j hj').1
        have e : mixR (bs s) i j = (lowL (bs s))[j] := by
          have hjl : j < (bs s).length := by rw [HL.out]; exact hj'
          have e2 : (lowL (bs s))[j] = lowB ((bs s)[j]'hjl) := by simp [lowL]
          unfold mixR
          rw [if_pos (by omega), e2]
          simp [List.getD, hjl]
        rw [e] at h1
        by_cases hj0 : j = 0
        · subst hj0; simpa [Addr.add] using h1
        · simpa [Addr.add, hj0] using h1)
      rw [hlen] at hback
      go_wp2_with fail
      go_ret
      exact ⟨rfl, HB.out⟩
end Tk
end Go.Proofs.YthooghgiokgdhaaGreatDoor
namespace Go.Proofs.YthooghgiokgdhaaGreatDoor
open Go.RowKit
namespace Tk

theorem whV_wh (c : UInt8) : wh c = whV c := by rw [wh_of, whV_toNat]
/-- what one has behind a byte -/
theorem one_next (s : ByteArray) (i : Nat) (h : i < s.size) (p : Bool) (hp : p = (decide (0 < i) && wh ((bs s).getD (i - 1) 0))) :
    narL ((bs s).take (i + 1)) = narL ((bs s).take i) ++ (if wh s[i] then (if p then [] else [32]) else [s[i]]) := by
  rw [nar_take (bs s) i (by rw [length_bs]; exact h), getD_bs s i h, hp, ← whV_wh]
  unfold addV
  rw [← whV_wh]

set_option maxHeartbeats 4000000 in
set_option maxRecDepth 100000 in
theorem rone_any (s : ByteArray) (w : World) (hs : s.size ≤ 1099511627776) :
    Calls Tryz.prog 120 #[.string s] w fun e w' => e = .returned (.string (mkS (narL (bs s)))) ∧ w = w' := by
  have HL := Lib.hid (length_bs s)
  have HNl := Lib.hid (fun i => narL_len ((bs s).take i))
  go_enter Tryz.func120, Tryz.ntmps120
  go_wp2_with fail
  go_loop [3, 4] (fun vo vi => ∃ i : Nat, i ≤ s.size ∧ vi = .int .i64 i ∧ vo = .string (mkS (narL ((bs s).take i)))) (fun _ vi => s.size - (RowKit.intOf vi).toNat)
  case atStart => exact ⟨0, Nat.zero_le _, rfl, rfl⟩
  case round =>
    obtain ⟨i, hi, rfl, rfl⟩ := hrel
    by_cases hlt : i < s.size
    · have g0 : (0 : Int) ≤ (i : Int) := by omega
      have g1 : (i : Int) < (s.size : Int) := by omega
      have HN := Lib.hid (fun p hp => one_next s i hlt p hp)
      have hnl := HNl.out i
      rw [List.length_take, HL.out] at hnl
      have hnl2 : (narL ((bs s).take i)).length ≤ 1099511627776 := by omega
      have HC0 := rWhite_any s[i] w
      have hx : s.extract i (i + 1) = mkS [s[i]] := by
        rw [← mkS_bs (s.extract i (i + 1)), bs_extract, show i + 1 - i = 1 by omega, bs_drop s i hlt]; rfl
      have k1 : IntKind.i64.wrap ((i : Int) + 1) = ((i + 1 : Nat) : Int) := by rw [IntWalk.i64_in _ (by omega)]; rfl
      have hsz := size_mkS (narL ((bs s).take i))
      generalize narL ((bs s).take i) = P at *
      cases hw : wh s[i]
      · rw [hw] at HC0
        have hn := HN.out _ rfl
        rw [hw] at hn
        have HN2 := Lib.hid (show narL ((bs s).take (i + 1)) = P ++ [s[i]] by rw [hn]; rfl)
        have HX := Lib.hid hx
        have HC := Lib.hid HC0
        clear HC0 hw hn hnl hx
        go_wp2_with fail
        refine HC.out.mono ?_
        rintro e w' ⟨rfl, rfl⟩
        go_wp2_with fail
        refine ⟨⟨i + 1, hlt, by go_num, ?_⟩, by simp [RowKit.intOf]; omega⟩
        rw [HN2.out, ← mkS_append, ← HX.out]
      · rw [hw] at HC0
        by_cases h0 : i = 0
        · subst h0
          have hn := HN.out false rfl
          rw [hw] at hn
          have HN2 := Lib.hid (show narL ((bs s).take (0 + 1)) = P ++ [32] by rw [hn]; rfl)
          have HC := Lib.hid HC0
          clear HC0 hw hn hnl hx
          go_wp2_with fail
          refine HC.out.mono ?_
          rintro e w' ⟨rfl, rfl⟩
          go_wp2_with fail
          refine ⟨⟨0 + 1, hlt, by go_num, ?_⟩, by simp [RowKit.intOf]; omega⟩
          rw [HN2.out, ← mkS_append]; rfl
        · have e0 : ((i : Int) == 0) = false := by rw [beq_eq_false_iff_ne]; omega
          have hi1 : i - 1 < s.size := by omega
          have k2 : IntKind.i64.wrap ((i : Int) - 1) = ((i - 1 : Nat) : Int) := by rw [IntWalk.i64_in _ (by omega)]; omega
          have HC1 := rWhite_any (s[i - 1]'hi1) w
          have HN1 := HN.out (wh (s[i - 1]'hi1)) (by rw [getD_bs s (i - 1) hi1, decide_eq_true (by omega)]; rfl)
          rw [hw] at HN1
          have g2 : (0 : Int) ≤ ((i - 1 : Nat) : Int) := by omega
          have g3 : ((i - 1 : Nat) : Int) < (s.size : Int) := by omega
          cases hw1 : wh (s[i - 1]'hi1)
          · rw [hw1] at HC1 HN1
            have HN2 := Lib.hid (show narL ((bs s).take (i + 1)) = P ++ [32] by rw [HN1]; rfl)
            have HC := Lib.hid HC0
            have HD := Lib.hid HC1
            clear HC0 HC1 hw hw1 HN1 hnl hx h0
            go_wp2_with fail
            refine HC.out.mono ?_
            rintro e w' ⟨rfl, rfl⟩
            go_wp2_with fail
            refine HD.out.mono ?_
            rintro e w' ⟨rfl, rfl⟩
            go_wp2_with fail
            refine ⟨⟨i + 1, hlt, by go_num, ?_⟩, by simp [RowKit.intOf]; omega⟩
            rw [HN2.out, ← mkS_append]; rfl
          · rw [hw1] at HC1 HN1
            have HN2 := Lib.hid (show narL ((bs s).take (i + 1)) = P by rw [HN1]; simp)
            have HC := Lib.hid HC0
            have HD := Lib.hid HC1
            clear HC0 HC1 hw hw1 HN1 hnl hx h0
            go_wp2_with fail
            refine HC.out.mono ?_
            rintro e w' ⟨rfl, rfl⟩
            go_wp2_with fail
            refine HD.out.mono ?_
            rintro e w' ⟨rfl, rfl⟩
            go_wp2_with fail
            exact ⟨⟨i + 1, hlt, by go_num, by rw [HN2.out]⟩, by simp [RowKit.intOf]; omega⟩
    · obtain rfl : i = s.size := by omega
      have hF : (bs s).take s.size = bs s := List.take_of_length_le (by rw [HL.out]; exact Nat.le_refl _)
      rw [hF]
      go_wp2_with fail
      go_ret
      exact ⟨rfl, rfl⟩

set_option maxHeartbeats 1000000 in
theorem rprimary_any (s t : Bs) (w : World) (hs : s.length ≤ 1099511627) (ht : t.length ≤ 1099511627) :
    Calls Tryz.prog 70 #[.string (mkS s), .string (mkS t)] w fun e w' => e = .returned (.string (mkS (lowL s ++ 32 :: t))) ∧ Below w.heap.size w w' := by
  have hL := refLower_any (mkS s) w (by rw [size_mkS]; omega)
  rw [bs_mkS] at hL
  have HL := Lib.hid hL
  have h1 := size_mkS (lowL s)
  have h2 := size_mkS t
  have h3 : (lowL s).length = s.length := by simp [lowL]
  generalize lowL s = u at *
  clear hL
  go_enter Tryz.func70, Tryz.ntmps70
  go_wp2_with fail
  refine HL.out.mono ?_
  rintro e w1 ⟨rfl, hb⟩
  have HB1 := Lib.hid hb
  clear hb
  go_wp2_with fail
  go_ret
  refine ⟨?_, HB1.out⟩
  rw [show (⟨#[32]⟩ : ByteArray) = mkS [32] from rfl, mkS_append, mkS_append]; simp
end Tk
end Go.Proofs.YthooghgiokgdhaaGreatDoor
namespace Go.Proofs.YthooghgiokgdhaaGreatDoor
open Go.RowKit
namespace Tk

theorem beq_mkR (a b : Bs) : ((mkS a).toList == (mkS b).toList) = decide (a = b) := by
  rw [toList_bs, toList_bs, bs_mkS, bs_mkS]
  by_cases h : a = b <;> simp [h]

set_option maxHeartbeats 1000000 in
theorem rsm_any (a b : ByteArray) (w : World) (ha : a.size ≤ 1099511627776) (hb : b.size ≤ 1099511627776) :
    Calls Tryz.prog 71 #[.string a, .string b] w fun e w' => e = .returned (.bool (decide (lowL (bs a) = lowL (bs b)))) ∧ Below w.heap.size w w' := by
  have HA := Lib.hid (fun W => show Calls Tryz.prog 90 #[.string a] W (fun e w' => e = .returned (.string (mkS (lowL (bs a)))) ∧ Below W.heap.size W w') from refLower_any a W ha)
  have HB := Lib.hid (fun W => show Calls Tryz.prog 90 #[.string b] W (fun e w' => e = .returned (.string (mkS (lowL (bs b)))) ∧ Below W.heap.size W w') from refLower_any b W hb)
  have HE := Lib.hid (beq_mkR (lowL (bs a)) (lowL (bs b)))
  generalize decide (lowL (bs a) = lowL (bs b)) = d at *
  generalize mkS (lowL (bs a)) = x at *
  generalize mkS (lowL (bs b)) = y at *
  go_enter Tryz.func71, Tryz.ntmps71
  go_wp2_with fail
  refine (HA.out _).mono ?_
  rintro e w1 ⟨rfl, hb1⟩
  have HB1 := Lib.hid hb1
  clear hb1
  go_wp2_with fail
  refine (HB.out _).mono ?_
  rintro e w2 ⟨rfl, hb2⟩
  have HB2 := Lib.hid (HB1.out.trans (hb2.mono HB1.out.size))
  clear hb2
  go_wp2_with fail
  go_ret
  exact ⟨by rw [← HE.out]; rfl, HB2.out⟩
end Tk
end Go.Proofs.YthooghgiokgdhaaGreatDoor
