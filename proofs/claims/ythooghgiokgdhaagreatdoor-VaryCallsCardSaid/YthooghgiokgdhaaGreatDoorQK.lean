/- RefSp RefF RefD VdB BldB, put together. -/
import Derived.Test.YthooghgiokgdhaaGreatDoorQJ
import Derived.Test.YthooghgiokgdhaaGreatDoorQC
import Derived.Test.YthooghgiokgdhaaGreatDoorQG
import Derived.Test.YthooghgiokgdhaaGreatDoorQB
namespace Go.Proofs.YthooghgiokgdhaaGreatDoor
open Go.RowKit
namespace Tk

def spQ (q : Bool) (l : Bs) (b i : Nat) : List Bs := parts (spl (if q then 1 else 0) ((l.take i).drop b) (l.drop i))
def rest (l : Bs) (b : Nat) : List Bs := if b < l.length then addP (trimL (l.drop b)) else []
theorem spQ_start (l : Bs) : splitL l = spQ false l 0 0 := by simp [spQ, splitL]
theorem spQ_end (q : Bool) (l : Bs) (b i : Nat) (h : l.length ≤ i) : spQ q l b i = addP (trimL (l.drop b)) := by
  unfold spQ
  rw [List.take_of_length_le h, List.drop_eq_nil_of_le h]
  cases q <;> simp [spl, parts_one]
theorem spQ_esc (l : Bs) (b i : Nat) (hi : i + 1 < l.length) (hb : b ≤ i) (hc : l.getD i 0 = 92) : spQ true l b i = spQ true l b (i + 1 + 1) := by
  unfold spQ
  rw [if_pos rfl, drop_cons l i (by omega), hc, spl, if_pos rfl, drop_cons l (i + 1) hi, spl, take_snoc l (i + 1) hi, take_snoc l i (by omega), List.append_assoc, List.append_assoc, List.drop_append_of_le_length (by rw [List.length_take]; omega), hc]
theorem spQ_last (l : Bs) (b i : Nat) (hi : i + 1 = l.length) (hb : b ≤ i) (hc : l.getD i 0 = 92) : spQ true l b i = addP (trimL (l.drop b)) := by
  unfold spQ
  have e : l.drop b = (l.take i).drop b ++ [92] := by
    have h1 : l.take (i + 1) = l := List.take_of_length_le (by omega)
    rw [take_snoc l i (by omega), hc] at h1
    rw [← List.drop_append_of_le_length (by rw [List.length_take]; omega), h1]
  have e2 : l.drop (i + 1) = [] := List.drop_eq_nil_of_le (by omega)
  have e3 : ∀ c : Bs, spl 2 c [] = [c] := fun c => by simp [spl]
  rw [if_pos rfl, drop_cons l i (by omega), hc, spl, if_pos rfl, e2, e3, parts_one, e]
theorem spQ_close (l : Bs) (b i : Nat) (hi : i < l.length) (hb : b ≤ i) (hc : l.getD i 0 = 34) : spQ true l b i = spQ false l b (i + 1) := by
  unfold spQ
  rw [if_pos rfl, if_neg (by decide), drop_cons l i hi, hc, spl, if_neg (by decide), if_pos rfl, take_snoc l i hi, List.drop_append_of_le_length (by rw [List.length_take]; omega), hc]
theorem spQ_in (l : Bs) (b i : Nat) (hi : i < l.length) (hb : b ≤ i) (h1 : l.getD i 0 ≠ 92) (h2 : l.getD i 0 ≠ 34) : spQ true l b i = spQ true l b (i + 1) := by
  unfold spQ
  rw [if_pos rfl, drop_cons l i hi, spl, if_neg h1, if_neg h2, take_snoc l i hi, List.drop_append_of_le_length (by rw [List.length_take]; omega)]
theorem spQ_open (l : Bs) (b i : Nat) (hi : i < l.length) (hb : b ≤ i) (hc : l.getD i 0 = 34) : spQ false l b i = spQ true l b (i + 1) := by
  unfold spQ
  rw [if_neg (by decide), if_pos rfl, drop_cons l i hi, hc, spl, if_neg (by decide), if_pos rfl, take_snoc l i hi, List.drop_append_of_le_length (by rw [List.length_take]; omega), hc]
theorem spQ_out (l : Bs) (b i : Nat) (hi : i < l.length) (hb : b ≤ i) (h1 : l.getD i 0 ≠ 44) (h2 : l.getD i 0 ≠ 34) : spQ false l b i = spQ false l b (i + 1) := by
  unfold spQ
  rw [if_neg (by decide), drop_cons l i hi, spl, if_neg h1, if_neg h2, take_snoc l i hi, List.drop_append_of_le_length (by rw [List.length_take]; omega)]
theorem spQ_comma (l : Bs) (b i : Nat) (hi : i < l.length) (hc : l.getD i 0 = 44) : spQ false l b i = addP (trimL ((l.drop b).take (i - b))) ++ spQ false l (i + 1) (i + 1) := by
  unfold spQ
  rw [if_neg (by decide), drop_cons l i hi, hc, spl, if_pos rfl, parts_cons, List.drop_take, List.drop_take, Nat.sub_self, List.take_zero]
theorem rest_past (l : Bs) (b : Nat) (h : l.length ≤ b) : rest l b = [] := by unfold rest; rw [if_neg (by omega)]
theorem rest_left (l : Bs) (b : Nat) (h : b < l.length) : rest l b = addP (trimL (l.drop b)) := by unfold rest; rw [if_pos h]
theorem u8_eqb (c : UInt8) (n : Nat) (hn : n < 256) (h : ((c.toNat : Int) == n) = true) : c = UInt8.ofNat n := u8_is c n hn h

set_option maxHeartbeats 16000000 in
set_option maxRecDepth 100000 in
theorem rSplit_any (s : ByteArray) (w : World) (hs : s.size ≤ 1099511627776) :
    Calls Tryz.prog 89 #[.string s] w (ListPost w.heap.size (splitL (bs s)) w) := by
  obtain ⟨i0, hi0, hz0, hz1, hz2⟩ := info_parts strInfo
  have HL := Lib.hid (length_bs s)
  go_enter Tryz.func89, Tryz.ntmps89
  go_wp2_with fail
  go_loopw [3, 4, 5, 6] (fun v vb vq vi wr => ∃ (i b : Nat) (q : Bool) (P : List Bs), i ≤ s.size + 1 ∧ b ≤ s.size + 1 ∧ P.length ≤ i ∧ vi = .int .i64 i ∧ vb = .int .i64 b ∧ vq = .bool q ∧ Hid (wr.ownsRow w.heap.size 9 1 v P.length (strs P)) ∧ Hid (Below w.heap.size w wr) ∧ Hid ((b ≤ i ∧ i ≤ s.size ∧ splitL (bs s) = P ++ spQ q (bs s) b i) ∨ (i = s.size + 1 ∧ splitL (bs s) = P ++ rest (bs s) b))) (fun _ _ _ vi _ => s.size + 2 - (RowKit.intOf vi).toNat)
  case atStart => exact ⟨0, 0, false, [], by omega, by omega, by simp, rfl, rfl, rfl, World.ownsRow_nil _ _ _ _, Below.refl _ _, .inl ⟨by omega, by omega, spQ_start _⟩⟩
  case round =>
    obtain ⟨i, b, q, P, hi, hb0, hP, rfl, rfl, rfl, HO, HB, HS⟩ := hrel
    rename World => W
    rename Value => v
    by_cases hle : i ≤ s.size
    · obtain ⟨hb, -, hsp⟩ : b ≤ i ∧ i ≤ s.size ∧ splitL (bs s) = P ++ spQ q (bs s) b i := by
        rcases HS.out with h | h
        · exact h
        · omega
      have HS2 := Lib.hid hsp
      clear hsp HS
      by_cases hlt : i < s.size
      · have hgd := getD_bs s i hlt
        have HG := Lib.hid hgd
        clear hgd
        have hll : i < (bs s).length := by rw [HL.out]; exact hlt
        have HLL := Lib.hid hll
        clear hll
        cases q
        · by_cases h34 : ((s[i].toNat : Int) == 34) = true
          · have e := HG.out.trans (u8_is s[i] 34 (by omega) h34)
            have h44 : ((s[i].toNat : Int) == 44) = false := by rw [eq_of_beq h34]; rfl
            have H2 : Hid (splitL (bs s) = P ++ spQ true (bs s) b (i + 1)) := by
              show _ = _
              rw [HS2.out, spQ_open (bs s) b i HLL.out hb e]
            clear e HS2
            go_wp2_with fail
            go_roundw
            case rel => exact ⟨i + 1, b, true, P, by omega, by omega, by omega, by go_num, rfl, rfl, HO, HB, .inl ⟨by omega, by omega, H2.out⟩⟩
            case measure => simp [RowKit.intOf] <;> omega
          · have h34 : ((s[i].toNat : Int) == 34) = false := by simpa using h34
            have n34 : (bs s).getD i 0 ≠ 34 := fun h => u8_not s[i] 34 h34 (by omega) (HG.out.symm.trans h)
            by_cases h44 : ((s[i].toNat : Int) == 44) = true
            · have e := HG.out.trans (u8_is s[i] 44 (by omega) h44)
              have H2 : Hid (splitL (bs s) = P ++ (addP (trimL (bs (s.extract b i))) ++ spQ false (bs s) (i + 1) (i + 1))) := by
                show _ = _
                rw [HS2.out, spQ_comma (bs s) b i HLL.out e, bs_extract]
              have HT := Lib.hid (fun W => rTrim_any (s.extract b i) W (by rw [← length_bs, bs_extract, List.length_take]; omega))
              generalize trimL (bs (s.extract b i)) = t at *
              clear e HS2 n34
              by_cases he : t = []
              · subst he
                have hne : (mkS []).toList.isEmpty = true := by rw [toList_bs]; rfl
                have H3 : Hid (splitL (bs s) = P ++ spQ false (bs s) (i + 1) (i + 1)) := by
                  show _ = _
                  rw [H2.out]; simp [addP]
                clear H2
                go_wp2_with fail
                rw [show (min (i : Int) (s.size : Int)).toNat = i by omega]
                refine (HT.out _).mono ?_
                rintro e w' ⟨rfl, rfl⟩
                go_wp2_with fail
                go_roundw
                case rel => exact ⟨i + 1, i + 1, false, P, by omega, by omega, by first | omega | (rw [List.length_append]; simp; omega), by go_num, by go_num, rfl, HO, HB, .inl ⟨by omega, by omega, H3.out⟩⟩
                case measure => simp [RowKit.intOf] <;> omega
              · have hne : (mkS t).toList.isEmpty = false := by rw [toList_bs, bs_mkS]; simpa using he
                have H3 : Hid (splitL (bs s) = (P ++ [t]) ++ spQ false (bs s) (i + 1) (i + 1)) := by
                  show _ = _
                  rw [H2.out]; simp [addP, he]
                clear H2
                go_wp2_with fail
                rw [show (min (i : Int) (s.size : Int)).toNat = i by omega]
                refine (HT.out _).mono ?_
                rintro e w' ⟨rfl, rfl⟩
                have hown' := HO.out
                have hB' := HB.out.size
                go_wp2_with (at_builtin; refine wpList_append_own _ rfl _ _ 26 rfl w.heap.size 9 i0 (.string .empty) 1 16 Tryz.underlying26 hi0 hz0 hz1 hz2 rfl (by decide) _ _ _ rfl (hown'.alloc _) ⟨W.heap.size, 0, none⟩ 1 1 [.string (mkS t)] rfl rfl ?c1 ?c2 ?c3 ?c4 ?c5 ?_)
                case c1 => exact cell_one_new _ _ _
                case c2 => simp [Value.oneCell']
                case c3 => unfold maxLen; omega
                case c4 => omega
                case c5 => simp; omega
                intro v' w1 hown1 hg1 _
                have hb1 : Below w.heap.size w w1 := HB.out.trans (((Below.refl w.heap.size W).alloc hB' _).trans (below_of_grown hg1 (hown'.alloc _) (by simp; omega)))
                have HB1 := Lib.hid hb1
                have ho1 : w1.ownsRow w.heap.size 9 1 v' (P ++ [t]).length (strs (P ++ [t])) := by rw [List.length_append, strs_append]; exact hown1
                have HO1 := Lib.hid ho1
                clear hb1 hown1 hg1 hown' hB' ho1
                go_wp2_with fail
                go_roundw
                case rel => exact ⟨i + 1, i + 1, false, P ++ [t], by omega, by omega, by first | omega | (rw [List.length_append]; simp; omega), by go_num, by go_num, rfl, HO1, HB1, .inl ⟨by omega, by omega, H3.out⟩⟩
                case measure => simp [RowKit.intOf] <;> omega
            · have h44 : ((s[i].toNat : Int) == 44) = false := by simpa using h44
              have n44 : (bs s).getD i 0 ≠ 44 := fun h => u8_not s[i] 44 h44 (by omega) (HG.out.symm.trans h)
              have H2 : Hid (splitL (bs s) = P ++ spQ false (bs s) b (i + 1)) := by
                show _ = _
                rw [HS2.out, spQ_out (bs s) b i HLL.out hb n44 n34]
              clear n34 n44 HS2
              go_wp2_with fail
              go_roundw
              case rel => exact ⟨i + 1, b, false, P, by omega, by omega, by omega, by go_num, rfl, rfl, HO, HB, .inl ⟨by omega, by omega, H2.out⟩⟩
              case measure => simp [RowKit.intOf] <;> omega
        · by_cases h92 : ((s[i].toNat : Int) == 92) = true
          · have e := HG.out.trans (u8_is s[i] 92 (by omega) h92)
            by_cases hl : i + 1 < s.size
            · have H2 : Hid (splitL (bs s) = P ++ spQ true (bs s) b (i + 1 + 1)) := by
                show _ = _
                rw [HS2.out, spQ_esc (bs s) b i (by rw [HL.out]; exact hl) hb e]
              clear e HS2
              go_wp2_with fail
              go_roundw
              case rel => exact ⟨i + 1 + 1, b, true, P, by omega, by omega, by omega, by go_num, rfl, rfl, HO, HB, .inl ⟨by omega, by omega, H2.out⟩⟩
              case measure => simp [RowKit.intOf] <;> omega
            · have H2 : Hid (splitL (bs s) = P ++ rest (bs s) b) := by
                show _ = _
                rw [HS2.out, spQ_last (bs s) b i (by rw [HL.out]; omega) hb e, rest_left (bs s) b (by rw [HL.out]; omega)]
              clear e HS2
              go_wp2_with fail
              go_roundw
              case rel => exact ⟨i + 1 + 1, b, true, P, by omega, by omega, by omega, by go_num, rfl, rfl, HO, HB, .inr ⟨by omega, H2.out⟩⟩
              case measure => simp [RowKit.intOf] <;> omega
          · have h92 : ((s[i].toNat : Int) == 92) = false := by simpa using h92
            have n92 : (bs s).getD i 0 ≠ 92 := fun h => u8_not s[i] 92 h92 (by omega) (HG.out.symm.trans h)
            by_cases h34 : ((s[i].toNat : Int) == 34) = true
            · have e := HG.out.trans (u8_is s[i] 34 (by omega) h34)
              have h44 : ((s[i].toNat : Int) == 44) = false := by rw [eq_of_beq h34]; rfl
              have H2 : Hid (splitL (bs s) = P ++ spQ false (bs s) b (i + 1)) := by
                show _ = _
                rw [HS2.out, spQ_close (bs s) b i HLL.out hb e]
              clear e HS2 n92
              go_wp2_with fail
              go_roundw
              case rel => exact ⟨i + 1, b, false, P, by omega, by omega, by omega, by go_num, rfl, rfl, HO, HB, .inl ⟨by omega, by omega, H2.out⟩⟩
              case measure => simp [RowKit.intOf] <;> omega
            · have h34 : ((s[i].toNat : Int) == 34) = false := by simpa using h34
              have n34 : (bs s).getD i 0 ≠ 34 := fun h => u8_not s[i] 34 h34 (by omega) (HG.out.symm.trans h)
              have H2 : Hid (splitL (bs s) = P ++ spQ true (bs s) b (i + 1)) := by
                show _ = _
                rw [HS2.out, spQ_in (bs s) b i HLL.out hb n92 n34]
              clear n34 n92 HS2
              go_wp2_with fail
              go_roundw
              case rel => exact ⟨i + 1, b, true, P, by omega, by omega, by omega, by go_num, rfl, rfl, HO, HB, .inl ⟨by omega, by omega, H2.out⟩⟩
              case measure => simp [RowKit.intOf] <;> omega
      · have hie : i = s.size := by omega
        subst hie
        have H2 : Hid (splitL (bs s) = P ++ (addP (trimL (bs (s.extract b s.size))) ++ rest (bs s) (s.size + 1))) := by
          show _ = _
          rw [HS2.out, spQ_end q (bs s) b s.size (by rw [HL.out]; exact Nat.le_refl _), rest_past (bs s) (s.size + 1) (by rw [HL.out]; omega), bs_extract, List.take_of_length_le (by rw [List.length_drop, HL.out]; exact Nat.le_refl _), List.append_nil]
        have HT := Lib.hid (fun W => rTrim_any (s.extract b s.size) W (by rw [← length_bs, bs_extract, List.length_take]; omega))
        generalize trimL (bs (s.extract b s.size)) = t at *
        clear HS2
        by_cases he : t = []
        · subst he
          have hne : (mkS []).toList.isEmpty = true := by rw [toList_bs]; rfl
          have H3 : Hid (splitL (bs s) = P ++ rest (bs s) (s.size + 1)) := by
            show _ = _
            rw [H2.out]; simp [addP]
          clear H2
          go_wp2_with fail
          try rw [show (min (s.size : Int) (s.size : Int)).toNat = s.size by omega]
          refine (HT.out _).mono ?_
          rintro e w' ⟨rfl, rfl⟩
          go_wp2_with fail
          go_roundw
          case rel => exact ⟨s.size + 1, s.size + 1, q, P, by omega, by omega, by first | omega | (rw [List.length_append]; simp; omega), by go_num, by go_num, rfl, HO, HB, .inr ⟨by omega, H3.out⟩⟩
          case measure => simp [RowKit.intOf] <;> omega
        · have hne : (mkS t).toList.isEmpty = false := by rw [toList_bs, bs_mkS]; simpa using he
          have H3 : Hid (splitL (bs s) = (P ++ [t]) ++ rest (bs s) (s.size + 1)) := by
            show _ = _
            rw [H2.out]; simp [addP, he]
          clear H2
          go_wp2_with fail
          try rw [show (min (s.size : Int) (s.size : Int)).toNat = s.size by omega]
          refine (HT.out _).mono ?_
          rintro e w' ⟨rfl, rfl⟩
          have hown' := HO.out
          have hB' := HB.out.size
          go_wp2_with (at_builtin; refine wpList_append_own _ rfl _ _ 26 rfl w.heap.size 9 i0 (.string .empty) 1 16 Tryz.underlying26 hi0 hz0 hz1 hz2 rfl (by decide) _ _ _ rfl (hown'.alloc _) ⟨W.heap.size, 0, none⟩ 1 1 [.string (mkS t)] rfl rfl ?c1 ?c2 ?c3 ?c4 ?c5 ?_)
          case c1 => exact cell_one_new _ _ _
          case c2 => simp [Value.oneCell']
          case c3 => unfold maxLen; omega
          case c4 => omega
          case c5 => simp; omega
          intro v' w1 hown1 hg1 _
          have hb1 : Below w.heap.size w w1 := HB.out.trans (((Below.refl w.heap.size W).alloc hB' _).trans (below_of_grown hg1 (hown'.alloc _) (by simp; omega)))
          have HB1 := Lib.hid hb1
          have ho1 : w1.ownsRow w.heap.size 9 1 v' (P ++ [t]).length (strs (P ++ [t])) := by rw [List.length_append, strs_append]; exact hown1
          have HO1 := Lib.hid ho1
          clear hb1 hown1 hg1 hown' hB' ho1
          go_wp2_with fail
          go_roundw
          case rel => exact ⟨s.size + 1, s.size + 1, q, P ++ [t], by omega, by omega, by first | omega | (rw [List.length_append]; simp; omega), by go_num, by go_num, rfl, HO1, HB1, .inr ⟨by omega, H3.out⟩⟩
          case measure => simp [RowKit.intOf] <;> omega
    · have hie : i = s.size + 1 := by omega
      subst hie
      have hsp : splitL (bs s) = P ++ rest (bs s) b := by
        rcases HS.out with h | h
        · omega
        · exact h.2
      have HS2 := Lib.hid hsp
      clear hsp HS
      by_cases hb : b < s.size
      · have H2 : Hid (splitL (bs s) = P ++ (addP (trimL (bs (s.extract b s.size))) ++ [])) := by
          show _ = _
          rw [HS2.out, rest_left (bs s) b (by rw [HL.out]; exact hb), bs_extract, List.take_of_length_le (by rw [List.length_drop, HL.out]; exact Nat.le_refl _), List.append_nil]
        have HT := Lib.hid (fun W => rTrim_any (s.extract b s.size) W (by rw [← length_bs, bs_extract, List.length_take]; omega))
        generalize trimL (bs (s.extract b s.size)) = t at *
        clear HS2
        by_cases he : t = []
        · subst he
          have hne : (mkS []).toList.isEmpty = true := by rw [toList_bs]; rfl
          have H3 : Hid (splitL (bs s) = P) := by
            show _ = _
            rw [H2.out]; simp [addP]
          clear H2
          go_wp2_with fail
          skip
          refine (HT.out _).mono ?_
          rintro e w' ⟨rfl, rfl⟩
          go_wp2_with fail
          go_ret
          refine ⟨_, rfl, ?_, HB.out⟩
          rw [H3.out]
          exact HO.out
        · have hne : (mkS t).toList.isEmpty = false := by rw [toList_bs, bs_mkS]; simpa using he
          have H3 : Hid (splitL (bs s) = (P ++ [t])) := by
            show _ = _
            rw [H2.out]; simp [addP, he]
          clear H2
          go_wp2_with fail
          skip
          refine (HT.out _).mono ?_
          rintro e w' ⟨rfl, rfl⟩
          have hown' := HO.out
          have hB' := HB.out.size
          go_wp2_with (at_builtin; refine wpList_append_own _ rfl _ _ 26 rfl w.heap.size 9 i0 (.string .empty) 1 16 Tryz.underlying26 hi0 hz0 hz1 hz2 rfl (by decide) _ _ _ rfl (hown'.alloc _) ⟨W.heap.size, 0, none⟩ 1 1 [.string (mkS t)] rfl rfl ?c1 ?c2 ?c3 ?c4 ?c5 ?_)
          case c1 => exact cell_one_new _ _ _
          case c2 => simp [Value.oneCell']
          case c3 => unfold maxLen; omega
          case c4 => omega
          case c5 => simp; omega
          intro v' w1 hown1 hg1 _
          have hb1 : Below w.heap.size w w1 := HB.out.trans (((Below.refl w.heap.size W).alloc hB' _).trans (below_of_grown hg1 (hown'.alloc _) (by simp; omega)))
          have HB1 := Lib.hid hb1
          have ho1 : w1.ownsRow w.heap.size 9 1 v' (P ++ [t]).length (strs (P ++ [t])) := by rw [List.length_append, strs_append]; exact hown1
          have HO1 := Lib.hid ho1
          clear hb1 hown1 hg1 hown' hB' ho1
          go_wp2_with fail
          go_ret
          refine ⟨_, rfl, ?_, HB1.out⟩
          rw [H3.out]
          exact HO1.out
      · have H2 : Hid (splitL (bs s) = P) := by
          show _ = _
          rw [HS2.out, rest_past (bs s) b (by rw [HL.out]; omega), List.append_nil]
        clear HS2
        go_wp2_with fail
        go_ret
        refine ⟨_, rfl, ?_, HB.out⟩
        rw [H2.out]
        exact HO.out
end Tk
end Go.Proofs.YthooghgiokgdhaaGreatDoor
namespace Go.Proofs.YthooghgiokgdhaaGreatDoor
open Go.RowKit
namespace Tk

set_option maxHeartbeats 8000000 in
set_option maxRecDepth 100000 in
theorem rall_any (v : Value) (l : List (Bs × Bs)) (name : Bs) (w : World) (hs : IsFlds w v l) (hz : ∀ f ∈ l, f.1.length ≤ 1099511627776 ∧ f.2.length ≤ 1099511627776) (hn : name.length ≤ 1099511627776) (hl : l.length ≤ 1048576) :
    Calls Tryz.prog 10 #[v, .string (mkS name)] w (ListPost w.heap.size (allF l name) w) := by
  have HS := Lib.hid hs
  have HZ := Lib.hid hz
  obtain ⟨i0, hi0, hz0, hz1, hz2⟩ := info_parts strInfo
  have HNZ := Lib.hid (size_mkS name)
  obtain ⟨a, cap, rfl⟩ : ∃ a cap, v = .slice a l.length cap := by obtain ⟨a, c, h, -⟩ := hs; exact ⟨a, c, h⟩
  clear hs hz
  go_enter Tryz.func10, Tryz.ntmps10
  go_wp2_with fail
  go_loopw [5, 6] (fun v5 vi wr => ∃ i : Nat, i ≤ l.length ∧ vi = .int .i64 i ∧ Hid (wr.ownsRow w.heap.size 9 1 v5 (allF (l.take i) name).length (strs (allF (l.take i) name))) ∧ Hid (Below w.heap.size w wr)) (fun _ vi _ => l.length - (RowKit.intOf vi).toNat)
  case atStart => exact ⟨0, Nat.zero_le _, rfl, World.ownsRow_nil _ _ _ _, Below.refl _ _⟩
  case round =>
    obtain ⟨i, hi, rfl, HO, HB⟩ := hrel
    rename World => W
    by_cases hlt : i < l.length
    · obtain ⟨a', c', e', hcap, hc⟩ := isFlds_below HS.out HB.out
      injection e' with e1 _ e2
      subst e1 e2
      obtain ⟨b, o, rfl, hc0, hc1⟩ := hc i (l.getD i ([], [])) (by simp [List.getD, hlt])
      have hm := HZ.out (l.getD i ([], [])) (by simp [List.getD, hlt])
      have htk : l.take (i + 1) = l.take i ++ [l.getD i ([], [])] := by
        rw [List.take_succ_eq_append_getElem hlt]; simp [List.getD, hlt]
      have hnx := allF_snoc (l.take i) (l.getD i ([], [])) name
      rw [← htk] at hnx
      have HNX := Lib.hid hnx
      have hal := allF_len (l.take i) name
      have htl : (l.take i).length ≤ i := by simp; omega
      have hal2 : (allF (l.take i) name).length ≤ 1048576 := by omega
      clear hc htk hnx hal htl
      generalize l.getD i ([], []) = f at *
      obtain ⟨n, x⟩ := f
      have hnz := size_mkS n
      have hxz := size_mkS x
      simp only at hm hc0 hc1
      have HC := fun W : World => rsm_any (mkS n) (mkS name) W (by omega) (by rw [HNZ.out]; exact hn)
      rw [bs_mkS, bs_mkS] at HC
      have g0 : (0 : Int) ≤ (i : Int) := by omega
      have g1 : (i : Int) < (l.length : Int) := by omega
      have hlt1 := cell_lt (p := ⟨b, o + i * 2 + 1, none⟩) hc1
      clear hnz hxz
      have hkk : isN name (n, x) = decide (lowL n = lowL name) := rfl
      rw [← hkk] at HC
      clear hkk
      generalize allF (l.take i) name = P at *
      cases hk : isN name (n, x)
      · rw [hk] at HC HNX
        have hx2 : allF (l.take (i + 1)) name = P := by rw [HNX.out]; simp
        have HX := Lib.hid hx2
        have HC2 := Lib.hid HC
        clear HC hk hx2
        go_wp2_with fail
        refine (HC2.out _).mono ?_
        rintro e w5 ⟨rfl, hb⟩
        have HO5 := Lib.hid (own_keep HO.out hb)
        have HB5 := Lib.hid (HB.out.trans (hb.mono HB.out.size))
        clear hb
        go_wp2_with fail
        refine ⟨⟨i + 1, hlt, by go_num, ?_, HB5⟩, by simp [RowKit.intOf]; omega⟩
        show World.ownsRow _ _ _ _ _ _ _
        rw [HX.out]
        exact HO5.out
      · rw [hk] at HC HNX
        have hx2 : allF (l.take (i + 1)) name = P ++ [x] := by rw [HNX.out]; simp
        have HX := Lib.hid hx2
        have HC2 := Lib.hid HC
        clear HC hk hx2
        go_wp2_with fail
        refine (HC2.out _).mono ?_
        rintro e w6 ⟨rfl, hb⟩
        have hown' := own_keep HO.out hb
        have hB' : w.heap.size ≤ w6.heap.size := Nat.le_trans HB.out.size hb.size
        have HB6 := Lib.hid (HB.out.trans (hb.mono HB.out.size))
        have p1 : w6.cell? ⟨b, o + i * 2 + 1, none⟩ = some (.string (mkS x)) := (hb.cell (p := ⟨b, o + i * 2 + 1, none⟩) hlt1).trans hc1
        clear hb
        go_wp2_with (at_builtin; refine wpList_append_own _ rfl _ _ 26 rfl w.heap.size 9 i0 (.string .empty) 1 16 Tryz.underlying26 hi0 hz0 hz1 hz2 rfl (by decide) _ _ _ rfl (hown'.alloc _) ⟨w6.heap.size, 0, none⟩ 1 1 [.string (mkS x)] rfl rfl ?c1 ?c2 ?c3 ?c4 ?c5 ?_)
        case c1 => exact cell_one_new _ _ _
        case c2 => simp [Value.oneCell']
        case c3 => unfold maxLen; omega
        case c4 => omega
        case c5 => simp; omega
        intro v' w1 hown1 hg1 _
        have hb1 : Below w.heap.size w w1 := HB6.out.trans (((Below.refl w.heap.size w6).alloc hB' _).trans (below_of_grown hg1 (hown'.alloc _) (by simp; omega)))
        have HB7 := Lib.hid hb1
        have HO7 := Lib.hid hown1
        clear hb1 hown1 hg1 hown'
        go_wp2_with fail
        refine ⟨⟨i + 1, hlt, by go_num, ?_, HB7⟩, by simp [RowKit.intOf]; omega⟩
        show World.ownsRow _ _ _ _ _ _ _
        rw [HX.out, List.length_append, strs_append]
        exact HO7.out
    · have hil : l.take i = l := List.take_of_length_le (by omega)
      rw [hil] at HO
      go_wp2_with fail
      go_ret
      exact ⟨_, rfl, HO.out, HB.out⟩

end Tk
end Go.Proofs.YthooghgiokgdhaaGreatDoor
namespace Go.Proofs.YthooghgiokgdhaaGreatDoor
open Go.RowKit
namespace Tk

theorem joinB_snoc (P : List Bs) (x : Bs) : joinB (P ++ [x]) = if P = [] then x else joinB P ++ [44, 32] ++ x := by
  unfold joinB
  cases P with
  | nil => simp [Lib.join_one]
  | cons y r =>
    rw [if_neg (by simp), List.cons_append, Lib.join_cons, Lib.join_cons]
    simp [Lib.joinTail]
theorem joinB_len (P : List Bs) : (joinB P).length ≤ Lib.lens P + 2 * P.length := by
  unfold joinB
  cases P with
  | nil => simp [Lib.join_nil]
  | cons x r => rw [Lib.join_length]; simp only [List.length_cons, List.length_nil]; omega
theorem joinB_take (P : List Bs) (i : Nat) : (joinB (P.take i)).length ≤ Lib.lens P + 2 * P.length := by
  have h1 := joinB_len (P.take i)
  have h2 := Lib.lens_take_le P i
  rw [List.length_take] at h1
  omega
theorem lens_mem (P : List Bs) (x : Bs) (h : x ∈ P) : x.length ≤ Lib.lens P := by
  induction P with
  | nil => simp at h
  | cons y t ih =>
    rcases List.mem_cons.1 h with rfl | h
    · simp [Lib.lens]
    · have := ih h; simp [Lib.lens] at *; omega

set_option maxHeartbeats 4000000 in
set_option maxRecDepth 100000 in
theorem rjoin_any (v : Value) (P : List Bs) (w : World) (hs : IsStrs w v P) (hP : P.length ≤ 1048576) (hj : Lib.lens P + 2 * P.length ≤ 1000000) :
    Calls Tryz.prog 121 #[v] w fun e w' => e = .returned (.string (mkS (joinB P))) ∧ w = w' := by
  obtain ⟨a, c, rfl, hc⟩ := hs
  have HC := Lib.hid hc
  have HT := Lib.hid (joinB_take P)
  have HM := Lib.hid (lens_mem P)
  clear hc
  go_enter Tryz.func121, Tryz.ntmps121
  go_wp2_with fail
  go_loop [3, 4] (fun vs vi => ∃ i : Nat, i ≤ P.length ∧ vi = .int .i64 i ∧ vs = .string (mkS (joinB (P.take i)))) (fun _ vi => P.length - (RowKit.intOf vi).toNat)
  case atStart => exact ⟨0, Nat.zero_le _, rfl, rfl⟩
  case round =>
    obtain ⟨i, hi, rfl, rfl⟩ := hrel
    by_cases hlt : i < P.length
    · obtain ⟨b, o, rfl, hc0⟩ := HC.out i (P.getD i []) (by simp [List.getD, hlt])
      have htk : P.take (i + 1) = P.take i ++ [P.getD i []] := by rw [List.take_succ_eq_append_getElem hlt]; simp [List.getD, hlt]
      have hsn := joinB_snoc (P.take i) (P.getD i [])
      rw [← htk] at hsn
      have hz := HT.out i
      have hxz := HM.out (P.getD i []) (by simp [List.getD, hlt])
      have hnil : P.take i = [] ↔ i = 0 := by
        rw [List.take_eq_nil_iff]
        constructor
        · rintro (h | h)
          · exact h
          · rw [h] at hlt; simp at hlt
        · exact .inl
      clear htk
      generalize P.getD i [] = x at *
      generalize hJ2 : joinB (P.take (i + 1)) = J2 at *
      generalize hJ : joinB (P.take i) = J at *
      have HJ2 := Lib.hid hJ2
      have z1 := size_mkS J
      have z2 := size_mkS x
      have y1 : (mkS J).size ≤ 1000000 := by omega
      have y2 : (mkS x).size ≤ 1000000 := by omega
      have g0 : (0 : Int) ≤ (i : Int) := by omega
      have g1 : (i : Int) < (P.length : Int) := by omega
      by_cases hi0 : i = 0
      · have e0 : ¬ (0 : Int) < (i : Int) := by omega
        have hJe : J = [] := by rw [← hJ, hnil.2 hi0]; rfl
        rw [if_pos (hnil.2 hi0)] at hsn
        have E : Hid (mkS J ++ mkS x = mkS J2) := by show _ = _; rw [hJe, hsn, mkS_append]; rfl
        clear hnil hsn hJ hJ2 z1 z2 hi0 hJe
        go_wp2_with fail
        exact ⟨⟨i + 1, hlt, by go_num, by rw [HJ2.out]; exact congrArg Value.string E.out⟩, by simp [RowKit.intOf]; omega⟩
      · have e0 : (0 : Int) < (i : Int) := by omega
        rw [if_neg (fun h => hi0 (hnil.1 h))] at hsn
        have E : Hid (mkS J ++ ⟨#[44, 32]⟩ ++ mkS x = mkS J2) := by show _ = _; rw [hsn, ← mkS_append, ← mkS_append]; rfl
        clear hnil hsn hJ hJ2 z1 z2 hi0
        go_wp2_with fail
        exact ⟨⟨i + 1, hlt, by go_num, by rw [HJ2.out]; exact congrArg Value.string E.out⟩, by simp [RowKit.intOf]; omega⟩
    · have hil : P.take i = P := List.take_of_length_le (by omega)
      have HF := Lib.hid hil
      clear hil
      go_wp2_with fail
      go_ret
      exact ⟨by rw [HF.out]; rfl, rfl⟩

end Tk
end Go.Proofs.YthooghgiokgdhaaGreatDoor
namespace Go.Proofs.YthooghgiokgdhaaGreatDoor
open Go.RowKit
namespace Tk

set_option maxHeartbeats 8000000 in
set_option maxRecDepth 100000 in
theorem rvval_any (v : Value) (l : List (Bs × Bs)) (name : Bs) (w : World) (hs : IsFlds w v l) (hz : sumF l ≤ 400000) (hn : name.length ≤ 1099511627776) (hl : l.length ≤ 100000) :
    Calls Tryz.prog 63 #[v, .string (mkS name)] w fun e w' => e = .returned (.string (mkS (valV (allF l name)))) ∧ Below w.heap.size w w' := by
  have HA := Lib.hid (rall_any v l name w hs (sum_each l (by omega)) hn (by omega))
  have hpc := Lib.hid (fun p hp => Nat.le_trans (all_piece name l p hp) hz)
  have hal := allF_len l name
  have hPl : (allF l name).length ≤ 100000 := by omega
  have hsm := sum_all name l
  have hjn := joinN_len (allF l name)
  have hjl : Hid ((joinB ((allF l name).map narL)).length ≤ 2000000) := by show (Lib.join _ _).length ≤ _; omega
  unfold ListPost at HA
  obtain ⟨a, cap, rfl⟩ : ∃ a cap, v = .slice a l.length cap := by obtain ⟨a, c, h, -⟩ := hs; exact ⟨a, c, h⟩
  have hls : Hid (Lib.lens ((allF l name).map narL) + 2 * (allF l name).length ≤ 1000000) := by
    have := lens_nar (allF l name)
    show _ ≤ _; omega
  clear hs hz hal hsm hjn
  generalize allF l name = P at *
  have hv0 : P = [] → valV P = [45] := fun h => by unfold valV; rw [if_pos h]
  have hv1 : P ≠ [] → valV P = 43 :: joinB (P.map narL) := fun h => by unfold valV; rw [if_neg h]; rfl
  generalize valV P = V at *
  by_cases hP0 : P = []
  · subst hP0
    obtain rfl := hv0 rfl
    clear hv0 hv1
    go_enter Tryz.func63, Tryz.ntmps63
    go_wp2_with fail
    refine HA.out.mono ?_
    rintro e w1 ⟨v1, rfl, ho, hb⟩
    obtain ⟨a1, c1, rfl⟩ : ∃ a c, v1 = .slice a 0 c := by
      rcases ho.2 with ⟨hv, hn⟩ | ⟨g, cap, cur, hv, _⟩
      · exact ⟨_, _, hv⟩
      · exact ⟨_, _, hv⟩
    have HB := Lib.hid hb
    clear ho hb
    go_wp2_with fail
    go_ret
    exact ⟨rfl, HB.out⟩
  · obtain rfl := hv1 hP0
    have hpos : (P.length : Int) ≠ 0 := by
      have : P.length ≠ 0 := fun e => hP0 (List.eq_nil_of_length_eq_zero e)
      omega
    have e0 : ((P.length : Int) == 0) = false := by rw [beq_eq_false_iff_ne]; exact hpos
    have HP0 := Lib.hid hP0
    have HP1 := Lib.hid hpos
    clear hv0 hv1 hP0 hpos
    go_enter Tryz.func63, Tryz.ntmps63
    go_wp2_with fail
    refine HA.out.mono ?_
    rintro e w1 ⟨v1, rfl, ho, hb⟩
    obtain ⟨g, c1, rfl, hge⟩ : ∃ g c, v1 = .slice (some ⟨g, 0, none⟩) P.length c ∧ w.heap.size ≤ g := by
      rcases ho.2 with ⟨hv, hn⟩ | ⟨g, cap, cur, hv, hb, _⟩
      · exact absurd hn (by have := HP1.out; omega)
      · exact ⟨_, _, hv, hb⟩
    have HB := Lib.hid hb
    have HO := Lib.hid ho
    have HGe := Lib.hid hge
    clear ho hb hge
    go_wp2_with fail
    go_loopw [6] (fun vi wr => ∃ i : Nat, i ≤ P.length ∧ vi = .int .i64 i ∧ Hid (wr.ownsRow w.heap.size 9 1 (.slice (some ⟨g, 0, none⟩) P.length c1) P.length (strs (mixV P i))) ∧ Hid (Below w.heap.size w wr)) (fun vi _ => P.length - (RowKit.intOf vi).toNat)
    case atStart => exact ⟨0, Nat.zero_le _, rfl, by show World.ownsRow _ _ _ _ _ _ _; rw [mixV_0]; exact HO.out, HB.out⟩
    case round =>
      obtain ⟨i, hi, rfl, HOi, HBi⟩ := hrel
      rename World => W
      by_cases hlt : i < P.length
      · have hg := mixV_get P i hlt
        have hst := mixV_set P i hlt
        have hm := hpc.out (P.getD i []) (by simp [List.getD, hlt])
        have hc0 := HOi.out.cellAt i (by rw [Nat.mul_one]; exact hlt)
        rw [hg] at hc0
        have hf0 := HOi.out.frozenAt i
        have hN0 := rone_any (mkS (P.getD i [])) W (by rw [size_mkS]; omega)
        rw [bs_mkS] at hN0
        have HN := Lib.hid hN0
        clear hN0
        have HG := Lib.hid hg
        have HS := Lib.hid hst
        have g0 : (0 : Int) ≤ (i : Int) := by omega
        have g1 : (i : Int) < (P.length : Int) := by omega
        clear hg hst hm
        generalize P.getD i [] = x at *
        go_wp2_with fail
        refine HN.out.mono ?_
        rintro e W2 ⟨rfl, rfl⟩
        have HO2 := HOi
        have HB2 := HBi
        go_wp2_with fail
        have hst := HO2.out.stored i (.string (mkS (narL x)))
        rw [HS.out] at hst
        refine ⟨⟨i + 1, hlt, by go_num, hst.1, ?_⟩, by simp [RowKit.intOf]; omega⟩
        exact HB2.out.setCell (p := ⟨g, i, none⟩) HGe.out _
      · obtain rfl : i = P.length := by omega
        have hol := HOi.out
        rw [mixV_end] at hol
        have hlen2 : P.length = (P.map narL).length := by simp
        have hj := rjoin_any (.slice (some ⟨g, 0, none⟩) P.length c1) (P.map narL) W (isStrs_own (l := P.map narL) (by rw [← hlen2]; exact hol)) (by rw [← hlen2]; omega) (by rw [← hlen2]; exact hls.out)
        have HJ := Lib.hid hj
        clear hol hlen2 hj
        generalize hjj : joinB (P.map narL) = j at *
        have hjz := size_mkS j
        have hjl2 : j.length ≤ 2000000 := hjl.out
        have HJJ := Lib.hid hjj
        clear hjj
        go_wp2_with fail
        refine HJ.out.mono ?_
        rintro e W2 ⟨rfl, rfl⟩
        have HB2 := HBi
        go_wp2_with fail
        go_ret
        refine ⟨?_, HB2.out⟩
        rw [HJJ.out, show (⟨#[43]⟩ : ByteArray) = mkS [43] from rfl, mkS_append]; rfl
end Tk
end Go.Proofs.YthooghgiokgdhaaGreatDoor
namespace Go.Proofs.YthooghgiokgdhaaGreatDoor
open Go.RowKit
namespace Tk

set_option maxHeartbeats 2000000 in
set_option maxRecDepth 100000 in
theorem writeByte (B b : Nat) (l : Bs) (c : UInt8) (w : World) (h : IsB B b l w) (hlen : l.length + 1 ≤ 1099511627776) (hBw : B ≤ w.heap.size) :
    Calls Tryz.prog 125 #[.pointer (some ⟨b, 0, none⟩), .int .u8 c.toNat] w fun e w' => e = .returned .nilIface ∧ IsB B b (l ++ [c]) w' ∧ Below B w w' := by
  obtain ⟨i0, hi, hz0, hz1, hz2⟩ := info_parts byteInf
  have hl : (Lib.byteCells l).length = l.length := by simp [Lib.byteCells]
  have hcat : Lib.byteCells (l ++ [c]) = Lib.byteCells l ++ [.int .u8 c.toNat] := by simp [Lib.byteCells]
  go_enter Tryz.func125, Tryz.ntmps125
  go_wp2_with fail
  refine (check_any B b l _ h).mono ?_
  rintro e w1 ⟨rfl, h1, hb1⟩
  obtain ⟨hB, v, hbk, hown, hne⟩ := h1
  have c0 : w1.cell? ⟨b, 0, none⟩ = some (.pointer (some ⟨b, 0, none⟩)) := by rw [Lib.cell_of_heap hbk]; rfl
  have c1 : w1.cell? ⟨b, 1, none⟩ = some v := by rw [Lib.cell_of_heap hbk]; rfl
  go_wp2_with (at_builtin; refine wpList_append_own _ rfl _ _ 108 rfl B 5 i0 (.int .u8 0) 1 1 Tryz.underlying108 hi hz0 hz1 hz2 rfl (by decide) _ _ _ rfl (hown.alloc _) ⟨w1.heap.size, 0, none⟩ 1 1 [.int .u8 c.toNat] rfl rfl ?c1 ?c2 ?c3 ?c4 ?c5 ?_)
  case c1 =>
    intro j u hj
    match j, hj with
    | 0, hj => simp at hj; subst hj; simp [Addr.add]
  case c2 => intro u hu; simp at hu; subst hu; rfl
  case c3 => unfold maxLen; omega
  case c4 => omega
  case c5 => have := hb1.size; simp; omega
  intro v' w2 hown' hgrow _
  have hlt : b < w1.heap.size := by
    rcases Nat.lt_or_ge b w1.heap.size with h' | h'
    · exact h'
    · simp [Array.getElem?_eq_none h'] at hbk
  have hb2 : w2.heap[b]? = some (.cells #[.pointer (some ⟨b, 0, none⟩), v] 110 (0, 0)) := by
    rw [hgrow.block b (by simp; omega) (fun e => hne e.symm), Lib.alloc_old w1 _ b hlt]
    exact hbk
  have d0 : w2.cell? ⟨b, 0, none⟩ = some (.pointer (some ⟨b, 0, none⟩)) := by rw [Lib.cell_of_heap hb2]; rfl
  have d1 : w2.cell? ⟨b, 1, none⟩ = some v := by rw [Lib.cell_of_heap hb2]; rfl
  have f1 : w2.frozen? ⟨b, 1, none⟩ = false := Lib.frozen_of_heap hb2 1
  obtain ⟨g, cap, rfl⟩ : ∃ g cap, v' = .slice (some ⟨g, 0, none⟩) (l.length + 1) cap := by
    rcases hown'.2 with ⟨_, h0⟩ | ⟨g, cap, cur, hv, _⟩
    · omega
    · exact ⟨g, cap, hv⟩
  go_wp2_with fail
  go_ret
  refine ⟨rfl, .inr ?_, ?_⟩
  · rw [hcat]
    exact Lib.BuilderAt.put (T := 110) (e := 5) hB hb2 (bs' := Lib.byteCells l ++ [.int .u8 c.toNat]) (by simpa [hl] using hown') (by decide)
  · exact ((hb1.alloc (by have := hb1.size; omega) _).grown hgrow (by have := hb1.size; simp; omega) (fun k hk => (hown.lt k hk).1)).setCell (p := ⟨b, 1, none⟩) hB _
end Tk
end Go.Proofs.YthooghgiokgdhaaGreatDoor
