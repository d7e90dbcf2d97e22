/- The document's own Split. -/
import Derived.Test.YthooghgiokgdhaaDoorQRefTr
import Derived.Test.YthooghgiokgdhaaDoorQA
namespace Go.Proofs.YthooghgiokgdhaaDoor
open Go.RowKit
namespace Tk

def spQ (q : Bool) (l : Bs) (b i : Nat) : List Bs := parts (spl (if q then 1 else 0) ((l.take i).drop b) (l.drop i))
def rest (l : Bs) (b : Nat) : List Bs := if b < l.length then addP (trimL (l.drop b)) else []
theorem spQ_start (l : Bs) : splitL l = spQ false l 0 0 := by simp [spQ, splitL]
theorem spQ_end (q : Bool) (l : Bs) (b i : Nat) (h : l.length ≤ i) : spQ q l b i = addP (trimL (l.drop b)) := by
  unfold spQ
  rw [List.take_of_length_le h, List.drop_eq_nil_of_le h]
  cases q <;> simp [spl, parts_one]
theorem spQ_esc (l : Bs) (b i : Nat) (hi : i + 1 < l.length) (hb : b ≤ i) (hc : l.getD i 0 = 92) : spQ true l b i = spQ true l b (i + 1 + 1) := by
  unfold spQ
  rw [if_pos rfl, drop_cons l i (by omega), hc, spl, if_pos rfl, drop_cons l (i + 1) hi, spl, take_snoc l (i + 1) hi, take_snoc l i (by omega), List.append_assoc, List.append_assoc, List.drop_append_of_le_length (by rw [List.length_take]; omega), hc]
theorem spQ_last (l : Bs) (b i : Nat) (hi : i + 1 = l.length) (hb : b ≤ i) (hc : l.getD i 0 = 92) : spQ true l b i = addP (trimL (l.drop b)) := by
  unfold spQ
  have e : l.drop b = (l.take i).drop b ++ [92] := by
    have h1 : l.take (i + 1) = l := List.take_of_length_le (by omega)
    rw [take_snoc l i (by omega), hc] at h1
    rw [← List.drop_append_of_le_length (by rw [List.length_take]; omega), h1]
  have e2 : l.drop (i + 1) = [] := List.drop_eq_nil_of_le (by omega)
  have e3 : ∀ c : Bs, spl 2 c [] = [c] := fun c => by simp [spl]
  rw [if_pos rfl, drop_cons l i (by omega), hc, spl, if_pos rfl, e2, e3, parts_one, e]
theorem spQ_close (l : Bs) (b i : Nat) (hi : i < l.length) (hb : b ≤ i) (hc : l.getD i 0 = 34) : spQ true l b i = spQ false l b (i + 1) := by
  unfold spQ
  rw [if_pos rfl, if_neg (by decide), drop_cons l i hi, hc, spl, if_neg (by decide), if_pos rfl, take_snoc l i hi, List.drop_append_of_le_length (by rw [List.length_take]; omega), hc]
theorem spQ_in (l : Bs) (b i : Nat) (hi : i < l.length) (hb : b ≤ i) (h1 : l.getD i 0 ≠ 92) (h2 : l.getD i 0 ≠ 34) : spQ true l b i = spQ true l b (i + 1) := by
  unfold spQ
  rw [if_pos rfl, drop_cons l i hi, spl, if_neg h1, if_neg h2, take_snoc l i hi, List.drop_append_of_le_length (by rw [List.length_take]; omega)]
theorem spQ_open (l : Bs) (b i : Nat) (hi : i < l.length) (hb : b ≤ i) (hc : l.getD i 0 = 34) : spQ false l b i = spQ true l b (i + 1) := by
  unfold spQ
  rw [if_neg (by decide), if_pos rfl, drop_cons l i hi, hc, spl, if_neg (by decide), if_pos rfl, take_snoc l i hi, List.drop_append_of_le_length (by rw [List.length_take]; omega), hc]
theorem spQ_out (l : Bs) (b i : Nat) (hi : i < l.length) (hb : b ≤ i) (h1 : l.getD i 0 ≠ 44) (h2 : l.getD i 0 ≠ 34) : spQ false l b i = spQ false l b (i + 1) := by
  unfold spQ
  rw [if_neg (by decide), drop_cons l i hi, spl, if_neg h1, if_neg h2, take_snoc l i hi, List.drop_append_of_le_length (by rw [List.length_take]; omega)]
theorem spQ_comma (l : Bs) (b i : Nat) (hi : i < l.length) (hc : l.getD i 0 = 44) : spQ false l b i = addP (trimL ((l.drop b).take (i - b))) ++ spQ false l (i + 1) (i + 1) := by
  unfold spQ
  rw [if_neg (by decide), drop_cons l i hi, hc, spl, if_pos rfl, parts_cons, List.drop_take, List.drop_take, Nat.sub_self, List.take_zero]
theorem rest_past (l : Bs) (b : Nat) (h : l.length ≤ b) : rest l b = [] := by unfold rest; rw [if_neg (by omega)]
theorem rest_left (l : Bs) (b : Nat) (h : b < l.length) : rest l b = addP (trimL (l.drop b)) := by unfold rest; rw [if_pos h]
theorem u8_eqb (c : UInt8) (n : Nat) (hn : n < 256) (h : ((c.toNat : Int) == n) = true) : c = UInt8.ofNat n := u8_is c n hn h

set_option maxHeartbeats 16000000 in
set_option maxRecDepth 100000 in
theorem rSplit_any (s : ByteArray) (w : World) (hs : s.size ≤ 1099511627776) :
    Calls Tryd.prog 38 #[.string s] w (ListPost w.heap.size (splitL (bs s)) w) := by
  obtain ⟨i0, hi0, hz0, hz1, hz2⟩ := info_parts strInfo
  have HL := Lib.hid (length_bs s)
  go_enter Tryd.func38, Tryd.ntmps38
  go_wp2_with fail
  go_loopw [3, 4, 5, 6] (fun v vb vq vi wr => ∃ (i b : Nat) (q : Bool) (P : List Bs), i ≤ s.size + 1 ∧ b ≤ s.size + 1 ∧ P.length ≤ i ∧ vi = .int .i64 i ∧ vb = .int .i64 b ∧ vq = .bool q ∧ Hid (wr.ownsRow w.heap.size 9 1 v P.length (strs P)) ∧ Hid (Below w.heap.size w wr) ∧ Hid ((b ≤ i ∧ i ≤ s.size ∧ splitL (bs s) = P ++ spQ q (bs s) b i) ∨ (i = s.size + 1 ∧ splitL (bs s) = P ++ rest (bs s) b))) (fun _ _ _ vi _ => s.size + 2 - (RowKit.intOf vi).toNat)
  case atStart => exact ⟨0, 0, false, [], by omega, by omega, by simp, rfl, rfl, rfl, World.ownsRow_nil _ _ _ _, Below.refl _ _, .inl ⟨by omega, by omega, spQ_start _⟩⟩
  case round =>
    obtain ⟨i, b, q, P, hi, hb0, hP, rfl, rfl, rfl, HO, HB, HS⟩ := hrel
    rename World => W
    rename Value => v
    by_cases hle : i ≤ s.size
    · obtain ⟨hb, -, hsp⟩ : b ≤ i ∧ i ≤ s.size ∧ splitL (bs s) = P ++ spQ q (bs s) b i := by
        rcases HS.out with h | h
        · exact h
        · omega
      have HS2 := Lib.hid hsp
      clear hsp HS
      by_cases hlt : i < s.size
      · have hgd := getD_bs s i hlt
        have HG := Lib.hid hgd
        clear hgd
        have hll : i < (bs s).length := by rw [HL.out]; exact hlt
        have HLL := Lib.hid hll
        clear hll
        cases q
        · by_cases h34 : ((s[i].toNat : Int) == 34) = true
          · have e := HG.out.trans (u8_is s[i] 34 (by omega) h34)
            have h44 : ((s[i].toNat : Int) == 44) = false := by rw [eq_of_beq h34]; rfl
            have H2 : Hid (splitL (bs s) = P ++ spQ true (bs s) b (i + 1)) := by
              show _ = _
              rw [HS2.out, spQ_open (bs s) b i HLL.out hb e]
            clear e HS2
            go_wp2_with fail
            go_roundw
            case rel => exact ⟨i + 1, b, true, P, by omega, by omega, by omega, by go_num, rfl, rfl, HO, HB, .inl ⟨by omega, by omega, H2.out⟩⟩
            case measure => simp [RowKit.intOf] <;> omega
          · have h34 : ((s[i].toNat : Int) == 34) = false := by simpa using h34
            have n34 : (bs s).getD i 0 ≠ 34 := fun h => u8_not s[i] 34 h34 (by omega) (HG.out.symm.trans h)
            by_cases h44 : ((s[i].toNat : Int) == 44) = true
            · have e := HG.out.trans (u8_is s[i] 44 (by omega) h44)
              have H2 : Hid (splitL (bs s) = P ++ (addP (trimL (bs (s.extract b i))) ++ spQ false (bs s) (i + 1) (i + 1))) := by
                show _ = _
                rw [HS2.out, spQ_comma (bs s) b i HLL.out e, bs_extract]
              have HT := Lib.hid (fun W => rTrim_any (s.extract b i) W (by rw [← length_bs, bs_extract, List.length_take]; omega))
              generalize trimL (bs (s.extract b i)) = t at *
              clear e HS2 n34
              by_cases he : t = []
              · subst he
                have hne : (mkS []).toList.isEmpty = true := by rw [toList_bs]; rfl
                have H3 : Hid (splitL (bs s) = P ++ spQ false (bs s) (i + 1) (i + 1)) := by
                  show _ = _
                  rw [H2.out]; simp [addP]
                clear H2
                go_wp2_with fail
                rw [show (min (i : Int) (s.size : Int)).toNat = i by omega]
                refine (HT.out _).mono ?_
                rintro e w' ⟨rfl, rfl⟩
                go_wp2_with fail
                go_roundw
                case rel => exact ⟨i + 1, i + 1, false, P, by omega, by omega, by first | omega | (rw [List.length_append]; simp; omega), by go_num, by go_num, rfl, HO, HB, .inl ⟨by omega, by omega, H3.out⟩⟩
                case measure => simp [RowKit.intOf] <;> omega
              · have hne : (mkS t).toList.isEmpty = false := by rw [toList_bs, bs_mkS]; simpa using he
                have H3 : Hid (splitL (bs s) = (P ++ [t]) ++ spQ false (bs s) (i + 1) (i + 1)) := by
                  show _ = _
                  rw [H2.out]; simp [addP, he]
                clear H2
                go_wp2_with fail
                rw [show (min (i : Int) (s.size : Int)).toNat = i by omega]
                refine (HT.out _).mono ?_
                rintro e w' ⟨rfl, rfl⟩
                have hown' := HO.out
                have hB' := HB.out.size
                go_wp2_with (at_builtin; refine wpList_append_own _ rfl _ _ 23 rfl w.heap.size 9 i0 (.string .empty) 1 16 Tryd.underlying23 hi0 hz0 hz1 hz2 rfl (by decide) _ _ _ rfl (hown'.alloc _) ⟨W.heap.size, 0, none⟩ 1 1 [.string (mkS t)] rfl rfl ?c1 ?c2 ?c3 ?c4 ?c5 ?_)
                case c1 => exact cell_one_new _ _ _
                case c2 => simp [Value.oneCell']
                case c3 => unfold maxLen; omega
                case c4 => omega
                case c5 => simp; omega
                intro v' w1 hown1 hg1 _
                have hb1 : Below w.heap.size w w1 := HB.out.trans (((Below.refl w.heap.size W).alloc hB' _).trans (below_of_grown hg1 (hown'.alloc _) (by simp; omega)))
                have HB1 := Lib.hid hb1
                have ho1 : w1.ownsRow w.heap.size 9 1 v' (P ++ [t]).length (strs (P ++ [t])) := by rw [List.length_append, strs_append]; exact hown1
                have HO1 := Lib.hid ho1
                clear hb1 hown1 hg1 hown' hB' ho1
                go_wp2_with fail
                go_roundw
                case rel => exact ⟨i + 1, i + 1, false, P ++ [t], by omega, by omega, by first | omega | (rw [List.length_append]; simp; omega), by go_num, by go_num, rfl, HO1, HB1, .inl ⟨by omega, by omega, H3.out⟩⟩
                case measure => simp [RowKit.intOf] <;> omega
            · have h44 : ((s[i].toNat : Int) == 44) = false := by simpa using h44
              have n44 : (bs s).getD i 0 ≠ 44 := fun h => u8_not s[i] 44 h44 (by omega) (HG.out.symm.trans h)
              have H2 : Hid (splitL (bs s) = P ++ spQ false (bs s) b (i + 1)) := by
                show _ = _
                rw [HS2.out, spQ_out (bs s) b i HLL.out hb n44 n34]
              clear n34 n44 HS2
              go_wp2_with fail
              go_roundw
              case rel => exact ⟨i + 1, b, false, P, by omega, by omega, by omega, by go_num, rfl, rfl, HO, HB, .inl ⟨by omega, by omega, H2.out⟩⟩
              case measure => simp [RowKit.intOf] <;> omega
        · by_cases h92 : ((s[i].toNat : Int) == 92) = true
          · have e := HG.out.trans (u8_is s[i] 92 (by omega) h92)
            by_cases hl : i + 1 < s.size
            · have H2 : Hid (splitL (bs s) = P ++ spQ true (bs s) b (i + 1 + 1)) := by
                show _ = _
                rw [HS2.out, spQ_esc (bs s) b i (by rw [HL.out]; exact hl) hb e]
              clear e HS2
              go_wp2_with fail
              go_roundw
              case rel => exact ⟨i + 1 + 1, b, true, P, by omega, by omega, by omega, by go_num, rfl, rfl, HO, HB, .inl ⟨by omega, by omega, H2.out⟩⟩
              case measure => simp [RowKit.intOf] <;> omega
            · have H2 : Hid (splitL (bs s) = P ++ rest (bs s) b) := by
                show _ = _
                rw [HS2.out, spQ_last (bs s) b i (by rw [HL.out]; omega) hb e, rest_left (bs s) b (by rw [HL.out]; omega)]
              clear e HS2
              go_wp2_with fail
              go_roundw
              case rel => exact ⟨i + 1 + 1, b, true, P, by omega, by omega, by omega, by go_num, rfl, rfl, HO, HB, .inr ⟨by omega, H2.out⟩⟩
              case measure => simp [RowKit.intOf] <;> omega
          · have h92 : ((s[i].toNat : Int) == 92) = false := by simpa using h92
            have n92 : (bs s).getD i 0 ≠ 92 := fun h => u8_not s[i] 92 h92 (by omega) (HG.out.symm.trans h)
            by_cases h34 : ((s[i].toNat : Int) == 34) = true
            · have e := HG.out.trans (u8_is s[i] 34 (by omega) h34)
              have h44 : ((s[i].toNat : Int) == 44) = false := by rw [eq_of_beq h34]; rfl
              have H2 : Hid (splitL (bs s) = P ++ spQ false (bs s) b (i + 1)) := by
                show _ = _
                rw [HS2.out, spQ_close (bs s) b i HLL.out hb e]
              clear e HS2 n92
              go_wp2_with fail
              go_roundw
              case rel => exact ⟨i + 1, b, false, P, by omega, by omega, by omega, by go_num, rfl, rfl, HO, HB, .inl ⟨by omega, by omega, H2.out⟩⟩
              case measure => simp [RowKit.intOf] <;> omega
            · have h34 : ((s[i].toNat : Int) == 34) = false := by simpa using h34
              have n34 : (bs s).getD i 0 ≠ 34 := fun h => u8_not s[i] 34 h34 (by omega) (HG.out.symm.trans h)
              have H2 : Hid (splitL (bs s) = P ++ spQ true (bs s) b (i + 1)) := by
                show _ = _
                rw [HS2.out, spQ_in (bs s) b i HLL.out hb n92 n34]
              clear n34 n92 HS2
              go_wp2_with fail
              go_roundw
              case rel => exact ⟨i + 1, b, true, P, by omega, by omega, by omega, by go_num, rfl, rfl, HO, HB, .inl ⟨by omega, by omega, H2.out⟩⟩
              case measure => simp [RowKit.intOf] <;> omega
      · have hie : i = s.size := by omega
        subst hie
        have H2 : Hid (splitL (bs s) = P ++ (addP (trimL (bs (s.extract b s.size))) ++ rest (bs s) (s.size + 1))) := by
          show _ = _
          rw [HS2.out, spQ_end q (bs s) b s.size (by rw [HL.out]; exact Nat.le_refl _), rest_past (bs s) (s.size + 1) (by rw [HL.out]; omega), bs_extract, List.take_of_length_le (by rw [List.length_drop, HL.out]; exact Nat.le_refl _), List.append_nil]
        have HT := Lib.hid (fun W => rTrim_any (s.extract b s.size) W (by rw [← length_bs, bs_extract, List.length_take]; omega))
        generalize trimL (bs (s.extract b s.size)) = t at *
        clear HS2
        by_cases he : t = []
        · subst he
          have hne : (mkS []).toList.isEmpty = true := by rw [toList_bs]; rfl
          have H3 : Hid (splitL (bs s) = P ++ rest (bs s) (s.size + 1)) := by
            show _ = _
            rw [H2.out]; simp [addP]
          clear H2
          go_wp2_with fail
          try rw [show (min (s.size : Int) (s.size : Int)).toNat = s.size by omega]
          refine (HT.out _).mono ?_
          rintro e w' ⟨rfl, rfl⟩
          go_wp2_with fail
          go_roundw
          case rel => exact ⟨s.size + 1, s.size + 1, q, P, by omega, by omega, by first | omega | (rw [List.length_append]; simp; omega), by go_num, by go_num, rfl, HO, HB, .inr ⟨by omega, H3.out⟩⟩
          case measure => simp [RowKit.intOf] <;> omega
        · have hne : (mkS t).toList.isEmpty = false := by rw [toList_bs, bs_mkS]; simpa using he
          have H3 : Hid (splitL (bs s) = (P ++ [t]) ++ rest (bs s) (s.size + 1)) := by
            show _ = _
            rw [H2.out]; simp [addP, he]
          clear H2
          go_wp2_with fail
          try rw [show (min (s.size : Int) (s.size : Int)).toNat = s.size by omega]
          refine (HT.out _).mono ?_
          rintro e w' ⟨rfl, rfl⟩
          have hown' := HO.out
          have hB' := HB.out.size
          go_wp2_with (at_builtin; refine wpList_append_own _ rfl _ _ 23 rfl w.heap.size 9 i0 (.string .empty) 1 16 Tryd.underlying23 hi0 hz0 hz1 hz2 rfl (by decide) _ _ _ rfl (hown'.alloc _) ⟨W.heap.size, 0, none⟩ 1 1 [.string (mkS t)] rfl rfl ?c1 ?c2 ?c3 ?c4 ?c5 ?_)
          case c1 => exact cell_one_new _ _ _
          case c2 => simp [Value.oneCell']
          case c3 => unfold maxLen; omega
          case c4 => omega
          case c5 => simp; omega
          intro v' w1 hown1 hg1 _
          have hb1 : Below w.heap.size w w1 := HB.out.trans (((Below.refl w.heap.size W).alloc hB' _).trans (below_of_grown hg1 (hown'.alloc _) (by simp; omega)))
          have HB1 := Lib.hid hb1
          have ho1 : w1.ownsRow w.heap.size 9 1 v' (P ++ [t]).length (strs (P ++ [t])) := by rw [List.length_append, strs_append]; exact hown1
          have HO1 := Lib.hid ho1
          clear hb1 hown1 hg1 hown' hB' ho1
          go_wp2_with fail
          go_roundw
          case rel => exact ⟨s.size + 1, s.size + 1, q, P ++ [t], by omega, by omega, by first | omega | (rw [List.length_append]; simp; omega), by go_num, by go_num, rfl, HO1, HB1, .inr ⟨by omega, H3.out⟩⟩
          case measure => simp [RowKit.intOf] <;> omega
    · have hie : i = s.size + 1 := by omega
      subst hie
      have hsp : splitL (bs s) = P ++ rest (bs s) b := by
        rcases HS.out with h | h
        · omega
        · exact h.2
      have HS2 := Lib.hid hsp
      clear hsp HS
      by_cases hb : b < s.size
      · have H2 : Hid (splitL (bs s) = P ++ (addP (trimL (bs (s.extract b s.size))) ++ [])) := by
          show _ = _
          rw [HS2.out, rest_left (bs s) b (by rw [HL.out]; exact hb), bs_extract, List.take_of_length_le (by rw [List.length_drop, HL.out]; exact Nat.le_refl _), List.append_nil]
        have HT := Lib.hid (fun W => rTrim_any (s.extract b s.size) W (by rw [← length_bs, bs_extract, List.length_take]; omega))
        generalize trimL (bs (s.extract b s.size)) = t at *
        clear HS2
        by_cases he : t = []
        · subst he
          have hne : (mkS []).toList.isEmpty = true := by rw [toList_bs]; rfl
          have H3 : Hid (splitL (bs s) = P) := by
            show _ = _
            rw [H2.out]; simp [addP]
          clear H2
          go_wp2_with fail
          skip
          refine (HT.out _).mono ?_
          rintro e w' ⟨rfl, rfl⟩
          go_wp2_with fail
          go_ret
          refine ⟨_, rfl, ?_, HB.out⟩
          rw [H3.out]
          exact HO.out
        · have hne : (mkS t).toList.isEmpty = false := by rw [toList_bs, bs_mkS]; simpa using he
          have H3 : Hid (splitL (bs s) = (P ++ [t])) := by
            show _ = _
            rw [H2.out]; simp [addP, he]
          clear H2
          go_wp2_with fail
          skip
          refine (HT.out _).mono ?_
          rintro e w' ⟨rfl, rfl⟩
          have hown' := HO.out
          have hB' := HB.out.size
          go_wp2_with (at_builtin; refine wpList_append_own _ rfl _ _ 23 rfl w.heap.size 9 i0 (.string .empty) 1 16 Tryd.underlying23 hi0 hz0 hz1 hz2 rfl (by decide) _ _ _ rfl (hown'.alloc _) ⟨W.heap.size, 0, none⟩ 1 1 [.string (mkS t)] rfl rfl ?c1 ?c2 ?c3 ?c4 ?c5 ?_)
          case c1 => exact cell_one_new _ _ _
          case c2 => simp [Value.oneCell']
          case c3 => unfold maxLen; omega
          case c4 => omega
          case c5 => simp; omega
          intro v' w1 hown1 hg1 _
          have hb1 : Below w.heap.size w w1 := HB.out.trans (((Below.refl w.heap.size W).alloc hB' _).trans (below_of_grown hg1 (hown'.alloc _) (by simp; omega)))
          have HB1 := Lib.hid hb1
          have ho1 : w1.ownsRow w.heap.size 9 1 v' (P ++ [t]).length (strs (P ++ [t])) := by rw [List.length_append, strs_append]; exact hown1
          have HO1 := Lib.hid ho1
          clear hb1 hown1 hg1 hown' hB' ho1
          go_wp2_with fail
          go_ret
          refine ⟨_, rfl, ?_, HB1.out⟩
          rw [H3.out]
          exact HO1.out
      · have H2 : Hid (splitL (bs s) = P) := by
          show _ = _
          rw [HS2.out, rest_past (bs s) b (by rw [HL.out]; omega), List.append_nil]
        clear HS2
        go_wp2_with fail
        go_ret
        refine ⟨_, rfl, ?_, HB.out⟩
        rw [H2.out]
        exact HO.out
end Tk
end Go.Proofs.YthooghgiokgdhaaDoor
