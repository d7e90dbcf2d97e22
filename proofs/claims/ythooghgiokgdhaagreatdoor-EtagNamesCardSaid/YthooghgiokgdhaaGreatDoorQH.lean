/- RefTr RefSp RefF ReA ReB, put together. -/
import Derived.Test.YthooghgiokgdhaaGreatDoorQG
import Derived.Test.YthooghgiokgdhaaGreatDoorQA
import Derived.Test.YthooghgiokgdhaaGreatDoorQD
import Derived.Test.YthooghgiokgdhaaGreatDoorQE
import Derived.Deep.Cut
import Derived.StillTailTactics
namespace Go.Proofs.YthooghgiokgdhaaGreatDoor
open Go.RowKit
namespace Tk

theorem tr_consW (c : UInt8) (l : Bs) (hc : wh c = true) : trimL (c :: l) = trimL l := by
  rw [trimL_eq, trimL_eq]
  unfold tr
  rw [List.reverse_cons, dropWhile_append]
  have h1 : ([c] : Bs).dropWhile wh = [] := by rw [List.dropWhile_cons, hc, if_pos rfl]; rfl
  by_cases h : l.reverse.dropWhile wh = []
  · rw [if_pos h, h, h1]
  · rw [if_neg h, List.reverse_append]
    show (c :: (l.reverse.dropWhile wh).reverse).dropWhile wh = _
    rw [List.dropWhile_cons, hc, if_pos rfl]
theorem tr_snocW (c : UInt8) (l : Bs) (hc : wh c = true) : trimL (l ++ [c]) = trimL l := by
  rw [trimL_eq, trimL_eq]
  congr 1
  unfold tr
  rw [List.reverse_append]
  show ((c :: l.reverse).dropWhile wh).reverse = _
  rw [List.dropWhile_cons, hc, if_pos rfl]
theorem wh_of (c : UInt8) : wh c = (decide (c.toNat = 32) || decide (c.toNat = 9)) := by
  have := u8_all (fun c => wh c == (decide (c.toNat = 32) || decide (c.toNat = 9))) (by decide +kernel) c
  simpa using this

set_option maxHeartbeats 400000 in
theorem rWhite_any (c : UInt8) (w : World) :
    Calls Tryz.prog 189 #[.int .u8 (c.toNat : Int)] w fun e w' => e = .returned (.bool (wh c)) ∧ w = w' := by
  have HD := Lib.hid (wh_of c)
  generalize wh c = b at *
  generalize c.toNat = n at *
  by_cases h0 : n = 32
  · have e0 : ((n : Int) == 32) = true := by rw [beq_iff_eq]; omega
    have H0 := Lib.hid h0
    clear h0
    go_enter Tryz.func189, Tryz.ntmps189
    go_wp2_with fail
    go_ret
    exact ⟨retB2 (by rw [HD.out, H0.out]; simp), rfl⟩
  · have e0 : ((n : Int) == 32) = false := by rw [beq_eq_false_iff_ne]; omega
    have hd := HD.out
    rw [decide_eq_false h0, Bool.false_or] at hd
    have HD2 := Lib.hid hd
    by_cases h1 : n = 9
    · have e1 : ((n : Int) == 9) = true := by rw [beq_iff_eq]; omega
      have HD3 := Lib.hid (show b = true by rw [hd, decide_eq_true h1])
      clear h0 h1 hd HD HD2
      go_enter Tryz.func189, Tryz.ntmps189
      go_wp2_with fail
      go_ret
      exact ⟨retB2 (by rw [HD3.out] <;> first | rfl | simp), rfl⟩
    · have e1 : ((n : Int) == 9) = false := by rw [beq_eq_false_iff_ne]; omega
      have HD3 := Lib.hid (show b = false by rw [hd, decide_eq_false h1])
      clear h0 h1 hd HD HD2
      go_enter Tryz.func189, Tryz.ntmps189
      go_wp2_with fail
      go_ret
      exact ⟨retB2 (by rw [HD3.out] <;> first | rfl | simp), rfl⟩

set_option maxHeartbeats 4000000 in
set_option maxRecDepth 100000 in
theorem rTrim_any (s : ByteArray) (w : World) (hs : s.size ≤ 1099511627776) :
    Calls Tryz.prog 141 #[.string s] w fun e w' => e = .returned (.string (mkS (trimL (bs s)))) ∧ w = w' := by
  go_enter Tryz.func141, Tryz.ntmps141
  go_wp2_with fail
  go_loop [0] (fun vs => ∃ t : ByteArray, vs = .string t ∧ t.size ≤ s.size ∧ Hid (trimL (bs t) = trimL (bs s))) (fun vs => match vs with | .string t => t.size | _ => 0)
  case atStart => exact ⟨s, rfl, Nat.le_refl _, rfl⟩
  case round =>
    obtain ⟨t, rfl, htz, hT⟩ := hrel
    have second : ∀ (c1 : t.size = 0 ∨ ∃ h : 0 < t.size, wh t[0] = false), ∀ c, (bs t).head? = some c → wh c = false := by
      rintro (h | ⟨h, h'⟩) c hc
      · have : bs t = [] := List.eq_nil_of_length_eq_zero (by rw [length_bs]; exact h)
        rw [this] at hc; cases hc
      · rw [bs_head t h] at hc
        injection hc with hc
        rw [← hc]; exact h'
    have hcase : t.size = 0 ∨ (0 < t.size ∧ ((∃ h : 0 < t.size, wh t[0] = false) ∨ ∃ h : 0 < t.size, wh t[0] = true)) := by
      by_cases hz : t.size = 0
      · exact .inl hz
      · right
        have hp : 0 < t.size := by omega
        refine ⟨hp, ?_⟩
        cases h : wh t[0]
        · exact .inl ⟨hp, h⟩
        · exact .inr ⟨hp, h⟩
    have HSec := Lib.hid second
    clear second
    rcases hcase with hz | ⟨hp, ⟨hp', hw⟩ | ⟨hp', hw⟩⟩
    · have he := empty_of t hz
      have HHd := Lib.hid (HSec.out (.inl hz))
      clear hz
      go_wp2_with fail
      go_loop [0] (fun vs => ∃ u : ByteArray, vs = .string u ∧ u.size ≤ s.size ∧ Hid (trimL (bs u) = trimL (bs s)) ∧ Hid (∀ c, (bs u).head? = some c → wh c = false)) (fun vs => match vs with | .string t => t.size | _ => 0)
      case atStart => exact ⟨t, rfl, htz, hT, HHd⟩
      case round =>
        obtain ⟨u, rfl, huz, hU, hH⟩ := hrel
        by_cases hz : u.size = 0
        · have he2 := empty_of u hz
          have hnil : bs u = [] := List.eq_nil_of_length_eq_zero (by rw [length_bs]; exact hz)
          have HF := Lib.hid (show mkS (trimL (bs s)) = u by rw [← hU.out, hnil]; exact (show mkS [] = u by rw [← hnil, mkS_bs]))
          clear hz hnil
          go_wp2_with fail
          go_ret
          exact ⟨by rw [HF.out]; rfl, rfl⟩
        · have hup : 0 < u.size := by omega
          have he2 := not_empty_of u hup
          have hul : u.size - 1 < u.size := by omega
          have k1 : IntKind.i64.wrap ((u.size : Int) - 1) = ((u.size - 1 : Nat) : Int) := by rw [IntWalk.i64_in _ (by omega)]; omega
          have k2 : ((u.size : Int) - 1).toNat = u.size - 1 := by omega
          have hsp : bs u = (bs u).take (u.size - 1) ++ [u[u.size - 1]'hul] := by
            have h1 := take_snoc (bs u) (u.size - 1) (by rw [length_bs]; exact hul)
            rw [getD_bs u _ hul, show u.size - 1 + 1 = u.size by omega, List.take_of_length_le (by rw [length_bs]; exact Nat.le_refl _)] at h1
            exact h1
          have HC := rWhite_any (u[u.size - 1]'hul) w
          cases hl : wh (u[u.size - 1]'hul)
          · rw [hl] at HC
            have hneat : Neat (bs u) := ⟨hH.out, fun c hc => by
              rw [hsp, List.getLast?_append] at hc
              simp at hc
              rw [← hc]; exact hl⟩
            have HF := Lib.hid (show mkS (trimL (bs s)) = u by rw [← hU.out, neat_trim _ hneat, mkS_bs])
            have HC2 := Lib.hid HC
            clear HC hl hsp hneat hz
            go_wp2_with fail
            refine HC2.out.mono ?_
            rintro e w' ⟨rfl, rfl⟩
            go_wp2_with fail
            go_ret
            exact ⟨by rw [HF.out]; rfl, rfl⟩
          · rw [hl] at HC
            have hbu : bs (u.extract 0 (u.size - 1)) = (bs u).take (u.size - 1) := by rw [bs_extract]; simp
            have hzu : (u.extract 0 (u.size - 1)).size = u.size - 1 := by rw [← length_bs, hbu, List.length_take, length_bs]; omega
            have hU2 : Hid (trimL (bs (u.extract 0 (u.size - 1))) = trimL (bs s)) := by
              show _ = _
              rw [hbu, ← hU.out]
              conv => rhs; rw [hsp]
              rw [tr_snocW _ _ hl]
            have hH2 : Hid (∀ c, (bs (u.extract 0 (u.size - 1))).head? = some c → wh c = false) := by
              intro c hc
              refine hH.out c ?_
              rw [hbu] at hc
              rw [hsp]
              cases hq : (bs u).take (u.size - 1) with
              | nil => rw [hq] at hc; cases hc
              | cons a q => rw [hq] at hc; exact hc
            have HZU := Lib.hid hzu
            have HC2 := Lib.hid HC
            clear HC hl hsp hbu hzu hz
            go_wp2_with fail
            refine HC2.out.mono ?_
            rintro e w' ⟨rfl, rfl⟩
            go_wp2_with fail
            exact ⟨⟨u.extract 0 (u.size - 1), rfl, by rw [HZU.out]; omega, hU2, hH2⟩, by show (u.extract 0 (u.size - 1)).size < u.size; rw [HZU.out]; omega⟩
    · have he := not_empty_of t hp
      have hp2 : (0 : Int) < (t.size : Int) := by omega
      have HHd := Lib.hid (HSec.out (.inr ⟨hp', hw⟩))
      have HC0 := rWhite_any t[0] w
      rw [hw] at HC0
      have HC1 := Lib.hid HC0
      clear HC0 hw
      go_wp2_with fail
      refine HC1.out.mono ?_
      rintro e w' ⟨rfl, rfl⟩
      go_wp2_with fail
      go_loop [0] (fun vs => ∃ u : ByteArray, vs = .string u ∧ u.size ≤ s.size ∧ Hid (trimL (bs u) = trimL (bs s)) ∧ Hid (∀ c, (bs u).head? = some c → wh c = false)) (fun vs => match vs with | .string t => t.size | _ => 0)
      case atStart => exact ⟨t, rfl, htz, hT, HHd⟩
      case round =>
        obtain ⟨u, rfl, huz, hU, hH⟩ := hrel
        by_cases hz : u.size = 0
        · have he2 := empty_of u hz
          have hnil : bs u = [] := List.eq_nil_of_length_eq_zero (by rw [length_bs]; exact hz)
          have HF := Lib.hid (show mkS (trimL (bs s)) = u by rw [← hU.out, hnil]; exact (show mkS [] = u by rw [← hnil, mkS_bs]))
          clear hz hnil
          go_wp2_with fail
          go_ret
          exact ⟨by rw [HF.out]; rfl, rfl⟩
        · have hup : 0 < u.size := by omega
          have he2 := not_empty_of u hup
          have hul : u.size - 1 < u.size := by omega
          have k1 : IntKind.i64.wrap ((u.size : Int) - 1) = ((u.size - 1 : Nat) : Int) := by rw [IntWalk.i64_in _ (by omega)]; omega
          have k2 : ((u.size : Int) - 1).toNat = u.size - 1 := by omega
          have hsp : bs u = (bs u).take (u.size - 1) ++ [u[u.size - 1]'hul] := by
            have h1 := take_snoc (bs u) (u.size - 1) (by rw [length_bs]; exact hul)
            rw [getD_bs u _ hul, show u.size - 1 + 1 = u.size by omega, List.take_of_length_le (by rw [length_bs]; exact Nat.le_refl _)] at h1
            exact h1
          have HC := rWhite_any (u[u.size - 1]'hul) w
          cases hl : wh (u[u.size - 1]'hul)
          · rw [hl] at HC
            have hneat : Neat (bs u) := ⟨hH.out, fun c hc => by
              rw [hsp, List.getLast?_append] at hc
              simp at hc
              rw [← hc]; exact hl⟩
            have HF := Lib.hid (show mkS (trimL (bs s)) = u by rw [← hU.out, neat_trim _ hneat, mkS_bs])
            have HC2 := Lib.hid HC
            clear HC hl hsp hneat hz
            go_wp2_with fail
            refine HC2.out.mono ?_
            rintro e w' ⟨rfl, rfl⟩
            go_wp2_with fail
            go_ret
            exact ⟨by rw [HF.out]; rfl, rfl⟩
          · rw [hl] at HC
            have hbu : bs (u.extract 0 (u.size - 1)) = (bs u).take (u.size - 1) := by rw [bs_extract]; simp
            have hzu : (u.extract 0 (u.size - 1)).size = u.size - 1 := by rw [← length_bs, hbu, List.length_take, length_bs]; omega
            have hU2 : Hid (trimL (bs (u.extract 0 (u.size - 1))) = trimL (bs s)) := by
              show _ = _
              rw [hbu, ← hU.out]
              conv => rhs; rw [hsp]
              rw [tr_snocW _ _ hl]
            have hH2 : Hid (∀ c, (bs (u.extract 0 (u.size - 1))).head? = some c → wh c = false) := by
              intro c hc
              refine hH.out c ?_
              rw [hbu] at hc
              rw [hsp]
              cases hq : (bs u).take (u.size - 1) with
              | nil => rw [hq] at hc; cases hc
              | cons a q => rw [hq] at hc; exact hc
            have HZU := Lib.hid hzu
            have HC2 := Lib.hid HC
            clear HC hl hsp hbu hzu hz
            go_wp2_with fail
            refine HC2.out.mono ?_
            rintro e w' ⟨rfl, rfl⟩
            go_wp2_with fail
            exact ⟨⟨u.extract 0 (u.size - 1), rfl, by rw [HZU.out]; omega, hU2, hH2⟩, by show (u.extract 0 (u.size - 1)).size < u.size; rw [HZU.out]; omega⟩
    · have he := not_empty_of t hp
      have hp2 : (0 : Int) < (t.size : Int) := by omega
      have hp1 : (1 : Int) ≤ (t.size : Int) := by omega
      have HC0 := rWhite_any t[0] w
      rw [hw] at HC0
      have HC1 := Lib.hid HC0
      have hbt : bs (t.extract 1 t.size) = (bs t).drop 1 := by
        rw [bs_extract, List.take_of_length_le (by rw [List.length_drop, length_bs]; exact Nat.le_refl _)]
      have hzt : (t.extract 1 t.size).size = t.size - 1 := by rw [← length_bs, hbt, List.length_drop, length_bs]
      have hT2 : Hid (trimL (bs (t.extract 1 t.size)) = trimL (bs s)) := by
        show _ = _
        have h1 := bs_drop t 0 hp
        rw [List.drop_zero] at h1
        rw [hbt, ← hT.out]
        conv => rhs; rw [h1]
        rw [tr_consW _ _ hw]
      have HZT := Lib.hid hzt
      clear HC0 hw hbt hzt
      go_wp2_with fail
      refine HC1.out.mono ?_
      rintro e w' ⟨rfl, rfl⟩
      go_wp2_with fail
      exact ⟨⟨t.extract 1 t.size, rfl, by rw [HZT.out]; omega, hT2⟩, by show (t.extract 1 t.size).size < t.size; rw [HZT.out]; omega⟩
end Tk
end Go.Proofs.YthooghgiokgdhaaGreatDoor
namespace Go.Proofs.YthooghgiokgdhaaGreatDoor
open Go.RowKit
namespace Tk

def spQ (q : Bool) (l : Bs) (b i : Nat) : List Bs := parts (spl (if q then 1 else 0) ((l.take i).drop b) (l.drop i))
def rest (l : Bs) (b : Nat) : List Bs := if b < l.length then addP (trimL (l.drop b)) else []
theorem spQ_start (l : Bs) : splitL l = spQ false l 0 0 := by simp [spQ, splitL]
theorem spQ_end (q : Bool) (l : Bs) (b i : Nat) (h : l.length ≤ i) : spQ q l b i = addP (trimL (l.drop b)) := by
  unfold spQ
  rw [List.take_of_length_le h, List.drop_eq_nil_of_le h]
  cases q <;> simp [spl, parts_one]
theorem spQ_esc (l : Bs) (b i : Nat) (hi : i + 1 < l.length) (hb : b ≤ i) (hc : l.getD i 0 = 92) : spQ true l b i = spQ true l b (i + 1 + 1) := by
  unfold spQ
  rw [if_pos rfl, drop_cons l i (by omega), hc, spl, if_pos rfl, drop_cons l (i + 1) hi, spl, take_snoc l (i + 1) hi, take_snoc l i (by omega), List.append_assoc, List.append_assoc, List.drop_append_of_le_length (by rw [List.length_take]; omega), hc]
theorem spQ_last (l : Bs) (b i : Nat) (hi : i + 1 = l.length) (hb : b ≤ i) (hc : l.getD i 0 = 92) : spQ true l b i = addP (trimL (l.drop b)) := by
  unfold spQ
  have e : l.drop b = (l.take i).drop b ++ [92] := by
    have h1 : l.take (i + 1) = l := List.take_of_length_le (by omega)
    rw [take_snoc l i (by omega), hc] at h1
    rw [← List.drop_append_of_le_length (by rw [List.length_take]; omega), h1]
  have e2 : l.drop (i + 1) = [] := List.drop_eq_nil_of_le (by omega)
  have e3 : ∀ c : Bs, spl 2 c [] = [c] := fun c => by simp [spl]
  rw [if_pos rfl, drop_cons l i (by omega), hc, spl, if_pos rfl, e2, e3, parts_one, e]
theorem spQ_close (l : Bs) (b i : Nat) (hi : i < l.length) (hb : b ≤ i) (hc : l.getD i 0 = 34) : spQ true l b i = spQ false l b (i + 1) := by
  unfold spQ
  rw [if_pos rfl, if_neg (by decide), drop_cons l i hi, hc, spl, if_neg (by decide), if_pos rfl, take_snoc l i hi, List.drop_append_of_le_length (by rw [List.length_take]; omega), hc]
theorem spQ_in (l : Bs) (b i : Nat) (hi : i < l.length) (hb : b ≤ i) (h1 : l.getD i 0 ≠ 92) (h2 : l.getD i 0 ≠ 34) : spQ true l b i = spQ true l b (i + 1) := by
  unfold spQ
  rw [if_pos rfl, drop_cons l i hi, spl, if_neg h1, if_neg h2, take_snoc l i hi, List.drop_append_of_le_length (by rw [List.length_take]; omega)]
theorem spQ_open (l : Bs) (b i : Nat) (hi : i < l.length) (hb : b ≤ i) (hc : l.getD i 0 = 34) : spQ false l b i = spQ true l b (i + 1) := by
  unfold spQ
  rw [if_neg (by decide), if_pos rfl, drop_cons l i hi, hc, spl, if_neg (by decide), if_pos rfl, take_snoc l i hi, List.drop_append_of_le_length (by rw [List.length_take]; omega), hc]
theorem spQ_out (l : Bs) (b i : Nat) (hi : i < l.length) (hb : b ≤ i) (h1 : l.getD i 0 ≠ 44) (h2 : l.getD i 0 ≠ 34) : spQ false l b i = spQ false l b (i + 1) := by
  unfold spQ
  rw [if_neg (by decide), drop_cons l i hi, spl, if_neg h1, if_neg h2, take_snoc l i hi, List.drop_append_of_le_length (by rw [List.length_take]; omega)]
theorem spQ_comma (l : Bs) (b i : Nat) (hi : i < l.length) (hc : l.getD i 0 = 44) : spQ false l b i = addP (trimL ((l.drop b).take (i - b))) ++ spQ false l (i + 1) (i + 1) := by
  unfold spQ
  rw [if_neg (by decide), drop_cons l i hi, hc, spl, if_pos rfl, parts_cons, List.drop_take, List.drop_take, Nat.sub_self, List.take_zero]
theorem rest_past (l : Bs) (b : Nat) (h : l.length ≤ b) : rest l b = [] := by unfold rest; rw [if_neg (by omega)]
theorem rest_left (l : Bs) (b : Nat) (h : b < l.length) : rest l b = addP (trimL (l.drop b)) := by unfold rest; rw [if_pos h]
theorem u8_eqb (c : UInt8) (n : Nat) (hn : n < 256) (h : ((c.toNat : Int) == n) = true) : c = UInt8.ofNat n := u8_is c n hn h

set_option maxHeartbeats 16000000 in
set_option maxRecDepth 100000 in
theorem rSplit_any (s : ByteArray) (w : World) (hs : s.size ≤ 1099511627776) :
    Calls Tryz.prog 89 #[.string s] w (ListPost w.heap.size (splitL (bs s)) w) := by
  obtain ⟨i0, hi0, hz0, hz1, hz2⟩ := info_parts strInfo
  have HL := Lib.hid (length_bs s)
  go_enter Tryz.func89, Tryz.ntmps89
  go_wp2_with fail
  go_loopw [3, 4, 5, 6] (fun v vb vq vi wr => ∃ (i b : Nat) (q : Bool) (P : List Bs), i ≤ s.size + 1 ∧ b ≤ s.size + 1 ∧ P.length ≤ i ∧ vi = .int .i64 i ∧ vb = .int .i64 b ∧ vq = .bool q ∧ Hid (wr.ownsRow w.heap.size 9 1 v P.length (strs P)) ∧ Hid (Below w.heap.size w wr) ∧ Hid ((b ≤ i ∧ i ≤ s.size ∧ splitL (bs s) = P ++ spQ q (bs s) b i) ∨ (i = s.size + 1 ∧ splitL (bs s) = P ++ rest (bs s) b))) (fun _ _ _ vi _ => s.size + 2 - (RowKit.intOf vi).toNat)
  case atStart => exact ⟨0, 0, false, [], by omega, by omega, by simp, rfl, rfl, rfl, World.ownsRow_nil _ _ _ _, Below.refl _ _, .inl ⟨by omega, by omega, spQ_start _⟩⟩
  case round =>
    obtain ⟨i, b, q, P, hi, hb0, hP, rfl, rfl, rfl, HO, HB, HS⟩ := hrel
    rename World => W
    rename Value => v
    by_cases hle : i ≤ s.size
    · obtain ⟨hb, -, hsp⟩ : b ≤ i ∧ i ≤ s.size ∧ splitL (bs s) = P ++ spQ q (bs s) b i := by
        rcases HS.out with h | h
        · exact h
        · omega
      have HS2 := Lib.hid hsp
      clear hsp HS
      by_cases hlt : i < s.size
      · have hgd := getD_bs s i hlt
        have HG := Lib.hid hgd
        clear hgd
        have hll : i < (bs s).length := by rw [HL.out]; exact hlt
        have HLL := Lib.hid hll
        clear hll
        cases q
        · by_cases h34 : ((s[i].toNat : Int) == 34) = true
          · have e := HG.out.trans (u8_is s[i] 34 (by omega) h34)
            have h44 : ((s[i].toNat : Int) == 44) = false := by rw [eq_of_beq h34]; rfl
            have H2 : Hid (splitL (bs s) = P ++ spQ true (bs s) b (i + 1)) := by
              show _ = _
              rw [HS2.out, spQ_open (bs s) b i HLL.out hb e]
            clear e HS2
            go_wp2_with fail
            go_roundw
            case rel => exact ⟨i + 1, b, true, P, by omega, by omega, by omega, by go_num, rfl, rfl, HO, HB, .inl ⟨by omega, by omega, H2.out⟩⟩
            case measure => simp [RowKit.intOf] <;> omega
          · have h34 : ((s[i].toNat : Int) == 34) = false := by simpa using h34
            have n34 : (bs s).getD i 0 ≠ 34 := fun h => u8_not s[i] 34 h34 (by omega) (HG.out.symm.trans h)
            by_cases h44 : ((s[i].toNat : Int) == 44) = true
            · have e := HG.out.trans (u8_is s[i] 44 (by omega) h44)
              have H2 : Hid (splitL (bs s) = P ++ (addP (trimL (bs (s.extract b i))) ++ spQ false (bs s) (i + 1) (i + 1))) := by
                show _ = _
                rw [HS2.out, spQ_comma (bs s) b i HLL.out e, bs_extract]
              have HT := Lib.hid (fun W => rTrim_any (s.extract b i) W (by rw [← length_bs, bs_extract, List.length_take]; omega))
              generalize trimL (bs (s.extract b i)) = t at *
              clear e HS2 n34
              by_cases he : t = []
              · subst he
                have hne : (mkS []).toList.isEmpty = true := by rw [toList_bs]; rfl
                have H3 : Hid (splitL (bs s) = P ++ spQ false (bs s) (i + 1) (i + 1)) := by
                  show _ = _
                  rw [H2.out]; simp [addP]
                clear H2
                go_wp2_with fail
                rw [show (min (i : Int) (s.size : Int)).toNat = i by omega]
                refine (HT.out _).mono ?_
                rintro e w' ⟨rfl, rfl⟩
                go_wp2_with fail
                go_roundw
                case rel => exact ⟨i + 1, i + 1, false, P, by omega, by omega, by first | omega | (rw [List.length_append]; simp; omega), by go_num, by go_num, rfl, HO, HB, .inl ⟨by omega, by omega, H3.out⟩⟩
                case measure => simp [RowKit.intOf] <;> omega
              · have hne : (mkS t).toList.isEmpty = false := by rw [toList_bs, bs_mkS]; simpa using he
                have H3 : Hid (splitL (bs s) = (P ++ [t]) ++ spQ false (bs s) (i + 1) (i + 1)) := by
                  show _ = _
                  rw [H2.out]; simp [addP, he]
                clear H2
                go_wp2_with fail
                rw [show (min (i : Int) (s.size : Int)).toNat = i by omega]
                refine (HT.out _).mono ?_
                rintro e w' ⟨rfl, rfl⟩
                have hown' := HO.out
                have hB' := HB.out.size
                go_wp2_with (at_builtin; refine wpList_append_own _ rfl _ _ 26 rfl w.heap.size 9 i0 (.string .empty) 1 16 Tryz.underlying26 hi0 hz0 hz1 hz2 rfl (by decide) _ _ _ rfl (hown'.alloc _) ⟨W.heap.size, 0, none⟩ 1 1 [.string (mkS t)] rfl rfl ?c1 ?c2 ?c3 ?c4 ?c5 ?_)
                case c1 => exact cell_one_new _ _ _
                case c2 => simp [Value.oneCell']
                case c3 => unfold maxLen; omega
                case c4 => omega
                case c5 => simp; omega
                intro v' w1 hown1 hg1 _
                have hb1 : Below w.heap.size w w1 := HB.out.trans (((Below.refl w.heap.size W).alloc hB' _).trans (below_of_grown hg1 (hown'.alloc _) (by simp; omega)))
                have HB1 := Lib.hid hb1
                have ho1 : w1.ownsRow w.heap.size 9 1 v' (P ++ [t]).length (strs (P ++ [t])) := by rw [List.length_append, strs_append]; exact hown1
                have HO1 := Lib.hid ho1
                clear hb1 hown1 hg1 hown' hB' ho1
                go_wp2_with fail
                go_roundw
                case rel => exact ⟨i + 1, i + 1, false, P ++ [t], by omega, by omega, by first | omega | (rw [List.length_append]; simp; omega), by go_num, by go_num, rfl, HO1, HB1, .inl ⟨by omega, by omega, H3.out⟩⟩
                case measure => simp [RowKit.intOf] <;> omega
            · have h44 : ((s[i].toNat : Int) == 44) = false := by simpa using h44
              have n44 : (bs s).getD i 0 ≠ 44 := fun h => u8_not s[i] 44 h44 (by omega) (HG.out.symm.trans h)
              have H2 : Hid (splitL (bs s) = P ++ spQ false (bs s) b (i + 1)) := by
                show _ = _
                rw [HS2.out, spQ_out (bs s) b i HLL.out hb n44 n34]
              clear n34 n44 HS2
              go_wp2_with fail
              go_roundw
              case rel => exact ⟨i + 1, b, false, P, by omega, by omega, by omega, by go_num, rfl, rfl, HO, HB, .inl ⟨by omega, by omega, H2.out⟩⟩
              case measure => simp [RowKit.intOf] <;> omega
        · by_cases h92 : ((s[i].toNat : Int) == 92) = true
          · have e := HG.out.trans (u8_is s[i] 92 (by omega) h92)
            by_cases hl : i + 1 < s.size
            · have H2 : Hid (splitL (bs s) = P ++ spQ true (bs s) b (i + 1 + 1)) := by
                show _ = _
                rw [HS2.out, spQ_esc (bs s) b i (by rw [HL.out]; exact hl) hb e]
              clear e HS2
              go_wp2_with fail
              go_roundw
              case rel => exact ⟨i + 1 + 1, b, true, P, by omega, by omega, by omega, by go_num, rfl, rfl, HO, HB, .inl ⟨by omega, by omega, H2.out⟩⟩
              case measure => simp [RowKit.intOf] <;> omega
            · have H2 : Hid (splitL (bs s) = P ++ rest (bs s) b) := by
                show _ = _
                rw [HS2.out, spQ_last (bs s) b i (by rw [HL.out]; omega) hb e, rest_left (bs s) b (by rw [HL.out]; omega)]
              clear e HS2
              go_wp2_with fail
              go_roundw
              case rel => exact ⟨i + 1 + 1, b, true, P, by omega, by omega, by omega, by go_num, rfl, rfl, HO, HB, .inr ⟨by omega, H2.out⟩⟩
              case measure => simp [RowKit.intOf] <;> omega
          · have h92 : ((s[i].toNat : Int) == 92) = false := by simpa using h92
            have n92 : (bs s).getD i 0 ≠ 92 := fun h => u8_not s[i] 92 h92 (by omega) (HG.out.symm.trans h)
            by_cases h34 : ((s[i].toNat : Int) == 34) = true
            · have e := HG.out.trans (u8_is s[i] 34 (by omega) h34)
              have h44 : ((s[i].toNat : Int) == 44) = false := by rw [eq_of_beq h34]; rfl
              have H2 : Hid (splitL (bs s) = P ++ spQ false (bs s) b (i + 1)) := by
                show _ = _
                rw [HS2.out, spQ_close (bs s) b i HLL.out hb e]
              clear e HS2 n92
              go_wp2_with fail
              go_roundw
              case rel => exact ⟨i + 1, b, false, P, by omega, by omega, by omega, by go_num, rfl, rfl, HO, HB, .inl ⟨by omega, by omega, H2.out⟩⟩
              case measure => simp [RowKit.intOf] <;> omega
            · have h34 : ((s[i].toNat : Int) == 34) = false := by simpa using h34
              have n34 : (bs s).getD i 0 ≠ 34 := fun h => u8_not s[i] 34 h34 (by omega) (HG.out.symm.trans h)
              have H2 : Hid (splitL (bs s) = P ++ spQ true (bs s) b (i + 1)) := by
                show _ = _
                rw [HS2.out, spQ_in (bs s) b i HLL.out hb n92 n34]
              clear n34 n92 HS2
              go_wp2_with fail
              go_roundw
              case rel => exact ⟨i + 1, b, true, P, by omega, by omega, by omega, by go_num, rfl, rfl, HO, HB, .inl ⟨by omega, by omega, H2.out⟩⟩
              case measure => simp [RowKit.intOf] <;> omega
      · have hie : i = s.size := by omega
        subst hie
        have H2 : Hid (splitL (bs s) = P ++ (addP (trimL (bs (s.extract b s.size))) ++ rest (bs s) (s.size + 1))) := by
          show _ = _
          rw [HS2.out, spQ_end q (bs s) b s.size (by rw [HL.out]; exact Nat.le_refl _), rest_past (bs s) (s.size + 1) (by rw [HL.out]; omega), bs_extract, List.take_of_length_le (by rw [List.length_drop, HL.out]; exact Nat.le_refl _), List.append_nil]
        have HT := Lib.hid (fun W => rTrim_any (s.extract b s.size) W (by rw [← length_bs, bs_extract, List.length_take]; omega))
        generalize trimL (bs (s.extract b s.size)) = t at *
        clear HS2
        by_cases he : t = []
        · subst he
          have hne : (mkS []).toList.isEmpty = true := by rw [toList_bs]; rfl
          have H3 : Hid (splitL (bs s) = P ++ rest (bs s) (s.size + 1)) := by
            show _ = _
            rw [H2.out]; simp [addP]
          clear H2
          go_wp2_with fail
          try rw [show (min (s.size : Int) (s.size : Int)).toNat = s.size by omega]
          refine (HT.out _).mono ?_
          rintro e w' ⟨rfl, rfl⟩
          go_wp2_with fail
          go_roundw
          case rel => exact ⟨s.size + 1, s.size + 1, q, P, by omega, by omega, by first | omega | (rw [List.length_append]; simp; omega), by go_num, by go_num, rfl, HO, HB, .inr ⟨by omega, H3.out⟩⟩
          case measure => simp [RowKit.intOf] <;> omega
        · have hne : (mkS t).toList.isEmpty = false := by rw [toList_bs, bs_mkS]; simpa using he
          have H3 : Hid (splitL (bs s) = (P ++ [t]) ++ rest (bs s) (s.size + 1)) := by
            show _ = _
            rw [H2.out]; simp [addP, he]
          clear H2
          go_wp2_with fail
          try rw [show (min (s.size : Int) (s.size : Int)).toNat = s.size by omega]
          refine (HT.out _).mono ?_
          rintro e w' ⟨rfl, rfl⟩
          have hown' := HO.out
          have hB' := HB.out.size
          go_wp2_with (at_builtin; refine wpList_append_own _ rfl _ _ 26 rfl w.heap.size 9 i0 (.string .empty) 1 16 Tryz.underlying26 hi0 hz0 hz1 hz2 rfl (by decide) _ _ _ rfl (hown'.alloc _) ⟨W.heap.size, 0, none⟩ 1 1 [.string (mkS t)] rfl rfl ?c1 ?c2 ?c3 ?c4 ?c5 ?_)
          case c1 => exact cell_one_new _ _ _
          case c2 => simp [Value.oneCell']
          case c3 => unfold maxLen; omega
          case c4 => omega
          case c5 => simp; omega
          intro v' w1 hown1 hg1 _
          have hb1 : Below w.heap.size w w1 := HB.out.trans (((Below.refl w.heap.size W).alloc hB' _).trans (below_of_grown hg1 (hown'.alloc _) (by simp; omega)))
          have HB1 := Lib.hid hb1
          have ho1 : w1.ownsRow w.heap.size 9 1 v' (P ++ [t]).length (strs (P ++ [t])) := by rw [List.length_append, strs_append]; exact hown1
          have HO1 := Lib.hid ho1
          clear hb1 hown1 hg1 hown' hB' ho1
          go_wp2_with fail
          go_roundw
          case rel => exact ⟨s.size + 1, s.size + 1, q, P ++ [t], by omega, by omega, by first | omega | (rw [List.length_append]; simp; omega), by go_num, by go_num, rfl, HO1, HB1, .inr ⟨by omega, H3.out⟩⟩
          case measure => simp [RowKit.intOf] <;> omega
    · have hie : i = s.size + 1 := by omega
      subst hie
      have hsp : splitL (bs s) = P ++ rest (bs s) b := by
        rcases HS.out with h | h
        · omega
        · exact h.2
      have HS2 := Lib.hid hsp
      clear hsp HS
      by_cases hb : b < s.size
      · have H2 : Hid (splitL (bs s) = P ++ (addP (trimL (bs (s.extract b s.size))) ++ [])) := by
          show _ = _
          rw [HS2.out, rest_left (bs s) b (by rw [HL.out]; exact hb), bs_extract, List.take_of_length_le (by rw [List.length_drop, HL.out]; exact Nat.le_refl _), List.append_nil]
        have HT := Lib.hid (fun W => rTrim_any (s.extract b s.size) W (by rw [← length_bs, bs_extract, List.length_take]; omega))
        generalize trimL (bs (s.extract b s.size)) = t at *
        clear HS2
        by_cases he : t = []
        · subst he
          have hne : (mkS []).toList.isEmpty = true := by rw [toList_bs]; rfl
          have H3 : Hid (splitL (bs s) = P) := by
            show _ = _
            rw [H2.out]; simp [addP]
          clear H2
          go_wp2_with fail
          skip
          refine (HT.out _).mono ?_
          rintro e w' ⟨rfl, rfl⟩
          go_wp2_with fail
          go_ret
          refine ⟨_, rfl, ?_, HB.out⟩
          rw [H3.out]
          exact HO.out
        · have hne : (mkS t).toList.isEmpty = false := by rw [toList_bs, bs_mkS]; simpa using he
          have H3 : Hid (splitL (bs s) = (P ++ [t])) := by
            show _ = _
            rw [H2.out]; simp [addP, he]
          clear H2
          go_wp2_with fail
          skip
          refine (HT.out _).mono ?_
          rintro e w' ⟨rfl, rfl⟩
          have hown' := HO.out
          have hB' := HB.out.size
          go_wp2_with (at_builtin; refine wpList_append_own _ rfl _ _ 26 rfl w.heap.size 9 i0 (.string .empty) 1 16 Tryz.underlying26 hi0 hz0 hz1 hz2 rfl (by decide) _ _ _ rfl (hown'.alloc _) ⟨W.heap.size, 0, none⟩ 1 1 [.string (mkS t)] rfl rfl ?c1 ?c2 ?c3 ?c4 ?c5 ?_)
          case c1 => exact cell_one_new _ _ _
          case c2 => simp [Value.oneCell']
          case c3 => unfold maxLen; omega
          case c4 => omega
          case c5 => simp; omega
          intro v' w1 hown1 hg1 _
          have hb1 : Below w.heap.size w w1 := HB.out.trans (((Below.refl w.heap.size W).alloc hB' _).trans (below_of_grown hg1 (hown'.alloc _) (by simp; omega)))
          have HB1 := Lib.hid hb1
          have ho1 : w1.ownsRow w.heap.size 9 1 v' (P ++ [t]).length (strs (P ++ [t])) := by rw [List.length_append, strs_append]; exact hown1
          have HO1 := Lib.hid ho1
          clear hb1 hown1 hg1 hown' hB' ho1
          go_wp2_with fail
          go_ret
          refine ⟨_, rfl, ?_, HB1.out⟩
          rw [H3.out]
          exact HO1.out
      · have H2 : Hid (splitL (bs s) = P) := by
          show _ = _
          rw [HS2.out, rest_past (bs s) b (by rw [HL.out]; omega), List.append_nil]
        clear HS2
        go_wp2_with fail
        go_ret
        refine ⟨_, rfl, ?_, HB.out⟩
        rw [H2.out]
        exact HO.out
end Tk
end Go.Proofs.YthooghgiokgdhaaGreatDoor
namespace Go.Proofs.YthooghgiokgdhaaGreatDoor
open Go.RowKit
namespace Tk

set_option maxHeartbeats 8000000 in
set_option maxRecDepth 100000 in
theorem rall_any (v : Value) (l : List (Bs × Bs)) (name : Bs) (w : World) (hs : IsFlds w v l) (hz : ∀ f ∈ l, f.1.length ≤ 1099511627776 ∧ f.2.length ≤ 1099511627776) (hn : name.length ≤ 1099511627776) (hl : l.length ≤ 1048576) :
    Calls Tryz.prog 10 #[v, .string (mkS name)] w (ListPost w.heap.size (allF l name) w) := by
  have HS := Lib.hid hs
  have HZ := Lib.hid hz
  obtain ⟨i0, hi0, hz0, hz1, hz2⟩ := info_parts strInfo
  have HNZ := Lib.hid (size_mkS name)
  obtain ⟨a, cap, rfl⟩ : ∃ a cap, v = .slice a l.length cap := by obtain ⟨a, c, h, -⟩ := hs; exact ⟨a, c, h⟩
  clear hs hz
  go_enter Tryz.func10, Tryz.ntmps10
  go_wp2_with fail
  go_loopw [5, 6] (fun v5 vi wr => ∃ i : Nat, i ≤ l.length ∧ vi = .int .i64 i ∧ Hid (wr.ownsRow w.heap.size 9 1 v5 (allF (l.take i) name).length (strs (allF (l.take i) name))) ∧ Hid (Below w.heap.size w wr)) (fun _ vi _ => l.length - (RowKit.intOf vi).toNat)
  case atStart => exact ⟨0, Nat.zero_le _, rfl, World.ownsRow_nil _ _ _ _, Below.refl _ _⟩
  case round =>
    obtain ⟨i, hi, rfl, HO, HB⟩ := hrel
    rename World => W
    by_cases hlt : i < l.length
    · obtain ⟨a', c', e', hcap, hc⟩ := isFlds_below HS.out HB.out
      injection e' with e1 _ e2
      subst e1 e2
      obtain ⟨b, o, rfl, hc0, hc1⟩ := hc i (l.getD i ([], [])) (by simp [List.getD, hlt])
      have hm := HZ.out (l.getD i ([], [])) (by simp [List.getD, hlt])
      have htk : l.take (i + 1) = l.take i ++ [l.getD i ([], [])] := by
        rw [List.take_succ_eq_append_getElem hlt]; simp [List.getD, hlt]
      have hnx := allF_snoc (l.take i) (l.getD i ([], [])) name
      rw [← htk] at hnx
      have HNX := Lib.hid hnx
      have hal := allF_len (l.take i) name
      have htl : (l.take i).length ≤ i := by simp; omega
      have hal2 : (allF (l.take i) name).length ≤ 1048576 := by omega
      clear hc htk hnx hal htl
      generalize l.getD i ([], []) = f at *
      obtain ⟨n, x⟩ := f
      have hnz := size_mkS n
      have hxz := size_mkS x
      simp only at hm hc0 hc1
      have HC := fun W : World => rsm_any (mkS n) (mkS name) W (by omega) (by rw [HNZ.out]; exact hn)
      rw [bs_mkS, bs_mkS] at HC
      have g0 : (0 : Int) ≤ (i : Int) := by omega
      have g1 : (i : Int) < (l.length : Int) := by omega
      have hlt1 := cell_lt (p := ⟨b, o + i * 2 + 1, none⟩) hc1
      clear hnz hxz
      have hkk : isN name (n, x) = decide (lowL n = lowL name) := rfl
      rw [← hkk] at HC
      clear hkk
      generalize allF (l.take i) name = P at *
      cases hk : isN name (n, x)
      · rw [hk] at HC HNX
        have hx2 : allF (l.take (i + 1)) name = P := by rw [HNX.out]; simp
        have HX := Lib.hid hx2
        have HC2 := Lib.hid HC
        clear HC hk hx2
        go_wp2_with fail
        refine (HC2.out _).mono ?_
        rintro e w5 ⟨rfl, hb⟩
        have HO5 := Lib.hid (own_keep HO.out hb)
        have HB5 := Lib.hid (HB.out.trans (hb.mono HB.out.size))
        clear hb
        go_wp2_with fail
        refine ⟨⟨i + 1, hlt, by go_num, ?_, HB5⟩, by simp [RowKit.intOf]; omega⟩
        show World.ownsRow _ _ _ _ _ _ _
        rw [HX.out]
        exact HO5.out
      · rw [hk] at HC HNX
        have hx2 : allF (l.take (i + 1)) name = P ++ [x] := by rw [HNX.out]; simp
        have HX := Lib.hid hx2
        have HC2 := Lib.hid HC
        clear HC hk hx2
        go_wp2_with fail
        refine (HC2.out _).mono ?_
        rintro e w6 ⟨rfl, hb⟩
        have hown' := own_keep HO.out hb
        have hB' : w.heap.size ≤ w6.heap.size := Nat.le_trans HB.out.size hb.size
        have HB6 := Lib.hid (HB.out.trans (hb.mono HB.out.size))
        have p1 : w6.cell? ⟨b, o + i * 2 + 1, none⟩ = some (.string (mkS x)) := (hb.cell (p := ⟨b, o + i * 2 + 1, none⟩) hlt1).trans hc1
        clear hb
        go_wp2_with (at_builtin; refine wpList_append_own _ rfl _ _ 26 rfl w.heap.size 9 i0 (.string .empty) 1 16 Tryz.underlying26 hi0 hz0 hz1 hz2 rfl (by decide) _ _ _ rfl (hown'.alloc _) ⟨w6.heap.size, 0, none⟩ 1 1 [.string (mkS x)] rfl rfl ?c1 ?c2 ?c3 ?c4 ?c5 ?_)
        case c1 => exact cell_one_new _ _ _
        case c2 => simp [Value.oneCell']
        case c3 => unfold maxLen; omega
        case c4 => omega
        case c5 => simp; omega
        intro v' w1 hown1 hg1 _
        have hb1 : Below w.heap.size w w1 := HB6.out.trans (((Below.refl w.heap.size w6).alloc hB' _).trans (below_of_grown hg1 (hown'.alloc _) (by simp; omega)))
        have HB7 := Lib.hid hb1
        have HO7 := Lib.hid hown1
        clear hb1 hown1 hg1 hown'
        go_wp2_with fail
        refine ⟨⟨i + 1, hlt, by go_num, ?_, HB7⟩, by simp [RowKit.intOf]; omega⟩
        show World.ownsRow _ _ _ _ _ _ _
        rw [HX.out, List.length_append, strs_append]
        exact HO7.out
    · have hil : l.take i = l := List.take_of_length_le (by omega)
      rw [hil] at HO
      go_wp2_with fail
      go_ret
      exact ⟨_, rfl, HO.out, HB.out⟩

end Tk
end Go.Proofs.YthooghgiokgdhaaGreatDoor
namespace Go.Proofs.YthooghgiokgdhaaGreatDoor
open Go.RowKit
namespace Tk

theorem lit874734 : (⟨#[87, 47, 34]⟩ : ByteArray) = mkS [87, 47, 34] := rfl
theorem drop_last1 (l : Bs) (h : l ≠ []) : l.drop (l.length - 1) = [l.getLast h] := by
  have hl : l.length - 1 < l.length := by
    rcases l with _ | ⟨x, l⟩
    · exact absurd rfl h
    · simp
  rw [List.drop_eq_getElem_cons hl, List.drop_eq_nil_of_le (by omega), List.getLast_eq_getElem]
theorem tail_tag (q : Bs) (h2 : 2 ≤ q.length) : tgB q = (decide (q.getD 0 0 = 34) && (decide (q.getD (q.length - 1) 0 = 34) && opq ((q.drop 1).take (q.length - 1 - 1)))) ∧ tgV (q.drop 1) = (q.drop 1).take (q.length - 1 - 1) := by
  match q, h2 with
  | a :: b :: t, _ =>
    have e1 : tgC ((a :: b :: t).drop 1) = decide ((a :: b :: t).getD ((a :: b :: t).length - 1) 0 = 34) := by
      unfold tgC
      show decide ((b :: t).drop ((b :: t).length - 1) = [34]) = _
      rw [drop_last1 (b :: t) (by simp)]
      have : (b :: t).getLast (by simp) = (a :: b :: t).getD ((a :: b :: t).length - 1) 0 := by
        simp [List.getD, List.getLast_eq_getElem]
      rw [this]
      by_cases h : (a :: b :: t).getD ((a :: b :: t).length - 1) 0 = 34
      · rw [h]; rfl
      · rw [decide_eq_false h, decide_eq_false (fun e => h (by injection e))]
    have e2 : tgV ((a :: b :: t).drop 1) = ((a :: b :: t).drop 1).take ((a :: b :: t).length - 1 - 1) := by unfold tgV; simp
    refine ⟨?_, e2⟩
    unfold tgB
    rw [e1, e2]
    congr 1
    by_cases h : a = 34
    · subst h; rfl
    · show decide ([a] = [34]) = decide (a = 34)
      rw [decide_eq_false h, decide_eq_false (fun e => h (by injection e))]
theorem short_tag (q : Bs) (h2 : q.length < 2) : tgB q = false := by
  match q, h2 with
  | [], _ => rfl
  | [a], _ =>
    unfold tgB
    have : tgC (List.drop 1 [a]) = false := by rfl
    rw [this]; simp
theorem tgSB (Q : ByteArray) (h : Q.size < 2) : tgB (bs Q) = false := short_tag _ (by rw [length_bs]; exact h)
theorem tg_of (s : Bs) (k : Bool) (q : Bs) (hk : tgW s = k) (hq : tgQ s = q) : tgO s = tgB q ∧ (tgB q = true → tgG s = (k, tgV (q.drop 1)) ∧ tgE s = 0) := by
  have h : tgO s = tgB q := by unfold tgO; rw [hq]
  refine ⟨h, fun hb => ?_⟩
  rw [← h] at hb
  unfold tgG tgE
  rw [if_pos hb, if_pos hb, hk, hq]; exact ⟨rfl, rfl⟩

/-- what One tells -/
def oneS (L : List Bs) : Bs := match L with | [v] => v | _ => []
def oneB (L : List Bs) : Bool := match L with | [_] => true | _ => false
theorem oneS_not (P : List Bs) (h : P.length ≠ 1) : oneS P = [] ∧ oneB P = false := by
  match P, h with
  | [], _ => exact ⟨rfl, rfl⟩
  | _ :: _ :: _, _ => exact ⟨rfl, rfl⟩

end Tk
end Go.Proofs.YthooghgiokgdhaaGreatDoor
namespace Go.Proofs.YthooghgiokgdhaaGreatDoor
open Go.RowKit
namespace Tk

end Tk
end Go.Proofs.YthooghgiokgdhaaGreatDoor
