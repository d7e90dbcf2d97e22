/- RefSp RefF RefD RefE RefSt RefH7 EmD RefS, put together. -/
import Derived.Test.YtdlbmfgajgefdaaGreatDoorQG
import Derived.Test.YtdlbmfgajgefdaaGreatDoorQB
import Derived.Test.YtdlbmfgajgefdaaGreatDoorQD
import Derived.Test.YtdlbmfgajgefdaaGreatDoorQF
import Derived.Test.YtdlbmfgajgefdaaGreatDoorQA
namespace Go.Proofs.YtdlbmfgajgefdaaGreatDoor
open Go.RowKit
namespace Tk

def spQ (q : Bool) (l : Bs) (b i : Nat) : List Bs := parts (spl (if q then 1 else 0) ((l.take i).drop b) (l.drop i))
def rest (l : Bs) (b : Nat) : List Bs := if b < l.length then addP (trimL (l.drop b)) else []
theorem spQ_start (l : Bs) : splitL l = spQ false l 0 0 := by simp [spQ, splitL]
theorem spQ_end (q : Bool) (l : Bs) (b i : Nat) (h : l.length ≤ i) : spQ q l b i = addP (trimL (l.drop b)) := by
  unfold spQ
  rw [List.take_of_length_le h, List.drop_eq_nil_of_le h]
  cases q <;> simp [spl, parts_one]
theorem spQ_esc (l : Bs) (b i : Nat) (hi : i + 1 < l.length) (hb : b ≤ i) (hc : l.getD i 0 = 92) : spQ true l b i = spQ true l b (i + 1 + 1) := by
  unfold spQ
  rw [if_pos rfl, drop_cons l i (by omega), hc, spl, if_pos rfl, drop_cons l (i + 1) hi, spl, take_snoc l (i + 1) hi, take_snoc l i (by omega), List.append_assoc, List.append_assoc, List.drop_append_of_le_length (by rw [List.length_take]; omega), hc]
theorem spQ_last (l : Bs) (b i : Nat) (hi : i + 1 = l.length) (hb : b ≤ i) (hc : l.getD i 0 = 92) : spQ true l b i = addP (trimL (l.drop b)) := by
  unfold spQ
  have e : l.drop b = (l.take i).drop b ++ [92] := by
    have h1 : l.take (i + 1) = l := List.take_of_length_le (by omega)
    rw [take_snoc l i (by omega), hc] at h1
    rw [← List.drop_append_of_le_length (by rw [List.length_take]; omega), h1]
  have e2 : l.drop (i + 1) = [] := List.drop_eq_nil_of_le (by omega)
  have e3 : ∀ c : Bs, spl 2 c [] = [c] := fun c => by simp [spl]
  rw [if_pos rfl, drop_cons l i (by omega), hc, spl, if_pos rfl, e2, e3, parts_one, e]
theorem spQ_close (l : Bs) (b i : Nat) (hi : i < l.length) (hb : b ≤ i) (hc : l.getD i 0 = 34) : spQ true l b i = spQ false l b (i + 1) := by
  unfold spQ
  rw [if_pos rfl, if_neg (by decide), drop_cons l i hi, hc, spl, if_neg (by decide), if_pos rfl, take_snoc l i hi, List.drop_append_of_le_length (by rw [List.length_take]; omega), hc]
theorem spQ_in (l : Bs) (b i : Nat) (hi : i < l.length) (hb : b ≤ i) (h1 : l.getD i 0 ≠ 92) (h2 : l.getD i 0 ≠ 34) : spQ true l b i = spQ true l b (i + 1) := by
  unfold spQ
  rw [if_pos rfl, drop_cons l i hi, spl, if_neg h1, if_neg h2, take_snoc l i hi, List.drop_append_of_le_length (by rw [List.length_take]; omega)]
theorem spQ_open (l : Bs) (b i : Nat) (hi : i < l.length) (hb : b ≤ i) (hc : l.getD i 0 = 34) : spQ false l b i = spQ true l b (i + 1) := by
  unfold spQ
  rw [if_neg (by decide), if_pos rfl, drop_cons l i hi, hc, spl, if_neg (by decide), if_pos rfl, take_snoc l i hi, List.drop_append_of_le_length (by rw [List.length_take]; omega), hc]
theorem spQ_out (l : Bs) (b i : Nat) (hi : i < l.length) (hb : b ≤ i) (h1 : l.getD i 0 ≠ 44) (h2 : l.getD i 0 ≠ 34) : spQ false l b i = spQ false l b (i + 1) := by
  unfold spQ
  rw [if_neg (by decide), drop_cons l i hi, spl, if_neg h1, if_neg h2, take_snoc l i hi, List.drop_append_of_le_length (by rw [List.length_take]; omega)]
theorem spQ_comma (l : Bs) (b i : Nat) (hi : i < l.length) (hc : l.getD i 0 = 44) : spQ false l b i = addP (trimL ((l.drop b).take (i - b))) ++ spQ false l (i + 1) (i + 1) := by
  unfold spQ
  rw [if_neg (by decide), drop_cons l i hi, hc, spl, if_pos rfl, parts_cons, List.drop_take, List.drop_take, Nat.sub_self, List.take_zero]
theorem rest_past (l : Bs) (b : Nat) (h : l.length ≤ b) : rest l b = [] := by unfold rest; rw [if_neg (by omega)]
theorem rest_left (l : Bs) (b : Nat) (h : b < l.length) : rest l b = addP (trimL (l.drop b)) := by unfold rest; rw [if_pos h]
theorem u8_eqb (c : UInt8) (n : Nat) (hn : n < 256) (h : ((c.toNat : Int) == n) = true) : c = UInt8.ofNat n := u8_is c n hn h

set_option maxHeartbeats 16000000 in
set_option maxRecDepth 100000 in
theorem rSplit_any (s : ByteArray) (w : World) (hs : s.size ≤ 1099511627776) :
    Calls Tryz.prog 95 #[.string s] w (ListPost w.heap.size (splitL (bs s)) w) := by
  obtain ⟨i0, hi0, hz0, hz1, hz2⟩ := info_parts strInfo
  have HL := Lib.hid (length_bs s)
  go_enter Tryz.func95, Tryz.ntmps95
  go_wp2_with fail
  go_loopw [3, 4, 5, 6] (fun v vb vq vi wr => ∃ (i b : Nat) (q : Bool) (P : List Bs), i ≤ s.size + 1 ∧ b ≤ s.size + 1 ∧ P.length ≤ i ∧ vi = .int .i64 i ∧ vb = .int .i64 b ∧ vq = .bool q ∧ Hid (wr.ownsRow w.heap.size 9 1 v P.length (strs P)) ∧ Hid (Below w.heap.size w wr) ∧ Hid ((b ≤ i ∧ i ≤ s.size ∧ splitL (bs s) = P ++ spQ q (bs s) b i) ∨ (i = s.size + 1 ∧ splitL (bs s) = P ++ rest (bs s) b))) (fun _ _ _ vi _ => s.size + 2 - (RowKit.intOf vi).toNat)
  case atStart => exact ⟨0, 0, false, [], by omega, by omega, by simp, rfl, rfl, rfl, World.ownsRow_nil _ _ _ _, Below.refl _ _, .inl ⟨by omega, by omega, spQ_start _⟩⟩
  case round =>
    obtain ⟨i, b, q, P, hi, hb0, hP, rfl, rfl, rfl, HO, HB, HS⟩ := hrel
    rename World => W
    rename Value => v
    by_cases hle : i ≤ s.size
    · obtain ⟨hb, -, hsp⟩ : b ≤ i ∧ i ≤ s.size ∧ splitL (bs s) = P ++ spQ q (bs s) b i := by
        rcases HS.out with h | h
        · exact h
        · omega
      have HS2 := Lib.hid hsp
      clear hsp HS
      by_cases hlt : i < s.size
      · have hgd := getD_bs s i hlt
        have HG := Lib.hid hgd
        clear hgd
        have hll : i < (bs s).length := by rw [HL.out]; exact hlt
        have HLL := Lib.hid hll
        clear hll
        cases q
        · by_cases h34 : ((s[i].toNat : Int) == 34) = true
          · have e := HG.out.trans (u8_is s[i] 34 (by omega) h34)
            have h44 : ((s[i].toNat : Int) == 44) = false := by rw [eq_of_beq h34]; rfl
            have H2 : Hid (splitL (bs s) = P ++ spQ true (bs s) b (i + 1)) := by
              show _ = _
              rw [HS2.out, spQ_open (bs s) b i HLL.out hb e]
            clear e HS2
            go_wp2_with fail
            go_roundw
            case rel => exact ⟨i + 1, b, true, P, by omega, by omega, by omega, by go_num, rfl, rfl, HO, HB, .inl ⟨by omega, by omega, H2.out⟩⟩
            case measure => simp [RowKit.intOf] <;> omega
          · have h34 : ((s[i].toNat : Int) == 34) = false := by simpa using h34
            have n34 : (bs s).getD i 0 ≠ 34 := fun h => u8_not s[i] 34 h34 (by omega) (HG.out.symm.trans h)
            by_cases h44 : ((s[i].toNat : Int) == 44) = true
            · have e := HG.out.trans (u8_is s[i] 44 (by omega) h44)
              have H2 : Hid (splitL (bs s) = P ++ (addP (trimL (bs (s.extract b i))) ++ spQ false (bs s) (i + 1) (i + 1))) := by
                show _ = _
                rw [HS2.out, spQ_comma (bs s) b i HLL.out e, bs_extract]
              have HT := Lib.hid (fun W => rTrim_any (s.extract b i) W (by rw [← length_bs, bs_extract, List.length_take]; omega))
              generalize trimL (bs (s.extract b i)) = t at *
              clear e HS2 n34
              by_cases he : t = []
              · subst he
                have hne : (mkS []).toList.isEmpty = true := by rw [toList_bs]; rfl
                have H3 : Hid (splitL (bs s) = P ++ spQ false (bs s) (i + 1) (i + 1)) := by
                  show _ = _
                  rw [H2.out]; simp [addP]
                clear H2
                go_wp2_with fail
                rw [show (min (i : Int) (s.size : Int)).toNat = i by omega]
                refine (HT.out _).mono ?_
                rintro e w' ⟨rfl, rfl⟩
                go_wp2_with fail
                go_roundw
                case rel => exact ⟨i + 1, i + 1, false, P, by omega, by omega, by first | omega | (rw [List.length_append]; simp; omega), by go_num, by go_num, rfl, HO, HB, .inl ⟨by omega, by omega, H3.out⟩⟩
                case measure => simp [RowKit.intOf] <;> omega
              · have hne : (mkS t).toList.isEmpty = false := by rw [toList_bs, bs_mkS]; simpa using he
                have H3 : Hid (splitL (bs s) = (P ++ [t]) ++ spQ false (bs s) (i + 1) (i + 1)) := by
                  show _ = _
                  rw [H2.out]; simp [addP, he]
                clear H2
                go_wp2_with fail
                rw [show (min (i : Int) (s.size : Int)).toNat = i by omega]
                refine (HT.out _).mono ?_
                rintro e w' ⟨rfl, rfl⟩
                have hown' := HO.out
                have hB' := HB.out.size
                go_wp2_with (at_builtin; refine wpList_append_own _ rfl _ _ 46 rfl w.heap.size 9 i0 (.string .empty) 1 16 Tryz.underlying46 hi0 hz0 hz1 hz2 rfl (by decide) _ _ _ rfl (hown'.alloc _) ⟨W.heap.size, 0, none⟩ 1 1 [.string (mkS t)] rfl rfl ?c1 ?c2 ?c3 ?c4 ?c5 ?_)
                case c1 => exact cell_one_new _ _ _
                case c2 => simp [Value.oneCell']
                case c3 => unfold maxLen; omega
                case c4 => omega
                case c5 => simp; omega
                intro v' w1 hown1 hg1 _
                have hb1 : Below w.heap.size w w1 := HB.out.trans (((Below.refl w.heap.size W).alloc hB' _).trans (below_of_grown hg1 (hown'.alloc _) (by simp; omega)))
                have HB1 := Lib.hid hb1
                have ho1 : w1.ownsRow w.heap.size 9 1 v' (P ++ [t]).length (strs (P ++ [t])) := by rw [List.length_append, strs_append]; exact hown1
                have HO1 := Lib.hid ho1
                clear hb1 hown1 hg1 hown' hB' ho1
                go_wp2_with fail
                go_roundw
                case rel => exact ⟨i + 1, i + 1, false, P ++ [t], by omega, by omega, by first | omega | (rw [List.length_append]; simp; omega), by go_num, by go_num, rfl, HO1, HB1, .inl ⟨by omega, by omega, H3.out⟩⟩
                case measure => simp [RowKit.intOf] <;> omega
            · have h44 : ((s[i].toNat : Int) == 44) = false := by simpa using h44
              have n44 : (bs s).getD i 0 ≠ 44 := fun h => u8_not s[i] 44 h44 (by omega) (HG.out.symm.trans h)
              have H2 : Hid (splitL (bs s) = P ++ spQ false (bs s) b (i + 1)) := by
                show _ = _
                rw [HS2.out, spQ_out (bs s) b i HLL.out hb n44 n34]
              clear n34 n44 HS2
              go_wp2_with fail
              go_roundw
              case rel => exact ⟨i + 1, b, false, P, by omega, by omega, by omega, by go_num, rfl, rfl, HO, HB, .inl ⟨by omega, by omega, H2.out⟩⟩
              case measure => simp [RowKit.intOf] <;> omega
        · by_cases h92 : ((s[i].toNat : Int) == 92) = true
          · have e := HG.out.trans (u8_is s[i] 92 (by omega) h92)
            by_cases hl : i + 1 < s.size
            · have H2 : Hid (splitL (bs s) = P ++ spQ true (bs s) b (i + 1 + 1)) := by
                show _ = _
                rw [HS2.out, spQ_esc (bs s) b i (by rw [HL.out]; exact hl) hb e]
              clear e HS2
              go_wp2_with fail
              go_roundw
              case rel => exact ⟨i + 1 + 1, b, true, P, by omega, by omega, by omega, by go_num, rfl, rfl, HO, HB, .inl ⟨by omega, by omega, H2.out⟩⟩
              case measure => simp [RowKit.intOf] <;> omega
            · have H2 : Hid (splitL (bs s) = P ++ rest (bs s) b) := by
                show _ = _
                rw [HS2.out, spQ_last (bs s) b i (by rw [HL.out]; omega) hb e, rest_left (bs s) b (by rw [HL.out]; omega)]
              clear e HS2
              go_wp2_with fail
              go_roundw
              case rel => exact ⟨i + 1 + 1, b, true, P, by omega, by omega, by omega, by go_num, rfl, rfl, HO, HB, .inr ⟨by omega, H2.out⟩⟩
              case measure => simp [RowKit.intOf] <;> omega
          · have h92 : ((s[i].toNat : Int) == 92) = false := by simpa using h92
            have n92 : (bs s).getD i 0 ≠ 92 := fun h => u8_not s[i] 92 h92 (by omega) (HG.out.symm.trans h)
            by_cases h34 : ((s[i].toNat : Int) == 34) = true
            · have e := HG.out.trans (u8_is s[i] 34 (by omega) h34)
              have h44 : ((s[i].toNat : Int) == 44) = false := by rw [eq_of_beq h34]; rfl
              have H2 : Hid (splitL (bs s) = P ++ spQ false (bs s) b (i + 1)) := by
                show _ = _
                rw [HS2.out, spQ_close (bs s) b i HLL.out hb e]
              clear e HS2 n92
              go_wp2_with fail
              go_roundw
              case rel => exact ⟨i + 1, b, false, P, by omega, by omega, by omega, by go_num, rfl, rfl, HO, HB, .inl ⟨by omega, by omega, H2.out⟩⟩
              case measure => simp [RowKit.intOf] <;> omega
            · have h34 : ((s[i].toNat : Int) == 34) = false := by simpa using h34
              have n34 : (bs s).getD i 0 ≠ 34 := fun h => u8_not s[i] 34 h34 (by omega) (HG.out.symm.trans h)
              have H2 : Hid (splitL (bs s) = P ++ spQ true (bs s) b (i + 1)) := by
                show _ = _
                rw [HS2.out, spQ_in (bs s) b i HLL.out hb n92 n34]
              clear n34 n92 HS2
              go_wp2_with fail
              go_roundw
              case rel => exact ⟨i + 1, b, true, P, by omega, by omega, by omega, by go_num, rfl, rfl, HO, HB, .inl ⟨by omega, by omega, H2.out⟩⟩
              case measure => simp [RowKit.intOf] <;> omega
      · have hie : i = s.size := by omega
        subst hie
        have H2 : Hid (splitL (bs s) = P ++ (addP (trimL (bs (s.extract b s.size))) ++ rest (bs s) (s.size + 1))) := by
          show _ = _
          rw [HS2.out, spQ_end q (bs s) b s.size (by rw [HL.out]; exact Nat.le_refl _), rest_past (bs s) (s.size + 1) (by rw [HL.out]; omega), bs_extract, List.take_of_length_le (by rw [List.length_drop, HL.out]; exact Nat.le_refl _), List.append_nil]
        have HT := Lib.hid (fun W => rTrim_any (s.extract b s.size) W (by rw [← length_bs, bs_extract, List.length_take]; omega))
        generalize trimL (bs (s.extract b s.size)) = t at *
        clear HS2
        by_cases he : t = []
        · subst he
          have hne : (mkS []).toList.isEmpty = true := by rw [toList_bs]; rfl
          have H3 : Hid (splitL (bs s) = P ++ rest (bs s) (s.size + 1)) := by
            show _ = _
            rw [H2.out]; simp [addP]
          clear H2
          go_wp2_with fail
          try rw [show (min (s.size : Int) (s.size : Int)).toNat = s.size by omega]
          refine (HT.out _).mono ?_
          rintro e w' ⟨rfl, rfl⟩
          go_wp2_with fail
          go_roundw
          case rel => exact ⟨s.size + 1, s.size + 1, q, P, by omega, by omega, by first | omega | (rw [List.length_append]; simp; omega), by go_num, by go_num, rfl, HO, HB, .inr ⟨by omega, H3.out⟩⟩
          case measure => simp [RowKit.intOf] <;> omega
        · have hne : (mkS t).toList.isEmpty = false := by rw [toList_bs, bs_mkS]; simpa using he
          have H3 : Hid (splitL (bs s) = (P ++ [t]) ++ rest (bs s) (s.size + 1)) := by
            show _ = _
            rw [H2.out]; simp [addP, he]
          clear H2
          go_wp2_with fail
          try rw [show (min (s.size : Int) (s.size : Int)).toNat = s.size by omega]
          refine (HT.out _).mono ?_
          rintro e w' ⟨rfl, rfl⟩
          have hown' := HO.out
          have hB' := HB.out.size
          go_wp2_with (at_builtin; refine wpList_append_own _ rfl _ _ 46 rfl w.heap.size 9 i0 (.string .empty) 1 16 Tryz.underlying46 hi0 hz0 hz1 hz2 rfl (by decide) _ _ _ rfl (hown'.alloc _) ⟨W.heap.size, 0, none⟩ 1 1 [.string (mkS t)] rfl rfl ?c1 ?c2 ?c3 ?c4 ?c5 ?_)
          case c1 => exact cell_one_new _ _ _
          case c2 => simp [Value.oneCell']
          case c3 => unfold maxLen; omega
          case c4 => omega
          case c5 => simp; omega
          intro v' w1 hown1 hg1 _
          have hb1 : Below w.heap.size w w1 := HB.out.trans (((Below.refl w.heap.size W).alloc hB' _).trans (below_of_grown hg1 (hown'.alloc _) (by simp; omega)))
          have HB1 := Lib.hid hb1
          have ho1 : w1.ownsRow w.heap.size 9 1 v' (P ++ [t]).length (strs (P ++ [t])) := by rw [List.length_append, strs_append]; exact hown1
          have HO1 := Lib.hid ho1
          clear hb1 hown1 hg1 hown' hB' ho1
          go_wp2_with fail
          go_roundw
          case rel => exact ⟨s.size + 1, s.size + 1, q, P ++ [t], by omega, by omega, by first | omega | (rw [List.length_append]; simp; omega), by go_num, by go_num, rfl, HO1, HB1, .inr ⟨by omega, H3.out⟩⟩
          case measure => simp [RowKit.intOf] <;> omega
    · have hie : i = s.size + 1 := by omega
      subst hie
      have hsp : splitL (bs s) = P ++ rest (bs s) b := by
        rcases HS.out with h | h
        · omega
        · exact h.2
      have HS2 := Lib.hid hsp
      clear hsp HS
      by_cases hb : b < s.size
      · have H2 : Hid (splitL (bs s) = P ++ (addP (trimL (bs (s.extract b s.size))) ++ [])) := by
          show _ = _
          rw [HS2.out, rest_left (bs s) b (by rw [HL.out]; exact hb), bs_extract, List.take_of_length_le (by rw [List.length_drop, HL.out]; exact Nat.le_refl _), List.append_nil]
        have HT := Lib.hid (fun W => rTrim_any (s.extract b s.size) W (by rw [← length_bs, bs_extract, List.length_take]; omega))
        generalize trimL (bs (s.extract b s.size)) = t at *
        clear HS2
        by_cases he : t = []
        · subst he
          have hne : (mkS []).toList.isEmpty = true := by rw [toList_bs]; rfl
          have H3 : Hid (splitL (bs s) = P) := by
            show _ = _
            rw [H2.out]; simp [addP]
          clear H2
          go_wp2_with fail
          skip
          refine (HT.out _).mono ?_
          rintro e w' ⟨rfl, rfl⟩
          go_wp2_with fail
          go_ret
          refine ⟨_, rfl, ?_, HB.out⟩
          rw [H3.out]
          exact HO.out
        · have hne : (mkS t).toList.isEmpty = false := by rw [toList_bs, bs_mkS]; simpa using he
          have H3 : Hid (splitL (bs s) = (P ++ [t])) := by
            show _ = _
            rw [H2.out]; simp [addP, he]
          clear H2
          go_wp2_with fail
          skip
          refine (HT.out _).mono ?_
          rintro e w' ⟨rfl, rfl⟩
          have hown' := HO.out
          have hB' := HB.out.size
          go_wp2_with (at_builtin; refine wpList_append_own _ rfl _ _ 46 rfl w.heap.size 9 i0 (.string .empty) 1 16 Tryz.underlying46 hi0 hz0 hz1 hz2 rfl (by decide) _ _ _ rfl (hown'.alloc _) ⟨W.heap.size, 0, none⟩ 1 1 [.string (mkS t)] rfl rfl ?c1 ?c2 ?c3 ?c4 ?c5 ?_)
          case c1 => exact cell_one_new _ _ _
          case c2 => simp [Value.oneCell']
          case c3 => unfold maxLen; omega
          case c4 => omega
          case c5 => simp; omega
          intro v' w1 hown1 hg1 _
          have hb1 : Below w.heap.size w w1 := HB.out.trans (((Below.refl w.heap.size W).alloc hB' _).trans (below_of_grown hg1 (hown'.alloc _) (by simp; omega)))
          have HB1 := Lib.hid hb1
          have ho1 : w1.ownsRow w.heap.size 9 1 v' (P ++ [t]).length (strs (P ++ [t])) := by rw [List.length_append, strs_append]; exact hown1
          have HO1 := Lib.hid ho1
          clear hb1 hown1 hg1 hown' hB' ho1
          go_wp2_with fail
          go_ret
          refine ⟨_, rfl, ?_, HB1.out⟩
          rw [H3.out]
          exact HO1.out
      · have H2 : Hid (splitL (bs s) = P) := by
          show _ = _
          rw [HS2.out, rest_past (bs s) b (by rw [HL.out]; omega), List.append_nil]
        clear HS2
        go_wp2_with fail
        go_ret
        refine ⟨_, rfl, ?_, HB.out⟩
        rw [H2.out]
        exact HO.out
end Tk
end Go.Proofs.YtdlbmfgajgefdaaGreatDoor
namespace Go.Proofs.YtdlbmfgajgefdaaGreatDoor
open Go.RowKit
namespace Tk

set_option maxHeartbeats 8000000 in
set_option maxRecDepth 100000 in
theorem rall_any (v : Value) (l : List (Bs × Bs)) (name : Bs) (w : World) (hs : IsFlds w v l) (hz : ∀ f ∈ l, f.1.length ≤ 1099511627776 ∧ f.2.length ≤ 1099511627776) (hn : name.length ≤ 1099511627776) (hl : l.length ≤ 1048576) :
    Calls Tryz.prog 36 #[v, .string (mkS name)] w (ListPost w.heap.size (allF l name) w) := by
  have HS := Lib.hid hs
  have HZ := Lib.hid hz
  obtain ⟨i0, hi0, hz0, hz1, hz2⟩ := info_parts strInfo
  have HNZ := Lib.hid (size_mkS name)
  obtain ⟨a, cap, rfl⟩ : ∃ a cap, v = .slice a l.length cap := by obtain ⟨a, c, h, -⟩ := hs; exact ⟨a, c, h⟩
  clear hs hz
  go_enter Tryz.func36, Tryz.ntmps36
  go_wp2_with fail
  go_loopw [5, 6] (fun v5 vi wr => ∃ i : Nat, i ≤ l.length ∧ vi = .int .i64 i ∧ Hid (wr.ownsRow w.heap.size 9 1 v5 (allF (l.take i) name).length (strs (allF (l.take i) name))) ∧ Hid (Below w.heap.size w wr)) (fun _ vi _ => l.length - (RowKit.intOf vi).toNat)
  case atStart => exact ⟨0, Nat.zero_le _, rfl, World.ownsRow_nil _ _ _ _, Below.refl _ _⟩
  case round =>
    obtain ⟨i, hi, rfl, HO, HB⟩ := hrel
    rename World => W
    by_cases hlt : i < l.length
    · obtain ⟨a', c', e', hcap, hc⟩ := isFlds_below HS.out HB.out
      injection e' with e1 _ e2
      subst e1 e2
      obtain ⟨b, o, rfl, hc0, hc1⟩ := hc i (l.getD i ([], [])) (by simp [List.getD, hlt])
      have hm := HZ.out (l.getD i ([], [])) (by simp [List.getD, hlt])
      have htk : l.take (i + 1) = l.take i ++ [l.getD i ([], [])] := by
        rw [List.take_succ_eq_append_getElem hlt]; simp [List.getD, hlt]
      have hnx := allF_snoc (l.take i) (l.getD i ([], [])) name
      rw [← htk] at hnx
      have HNX := Lib.hid hnx
      have hal := allF_len (l.take i) name
      have htl : (l.take i).length ≤ i := by simp; omega
      have hal2 : (allF (l.take i) name).length ≤ 1048576 := by omega
      clear hc htk hnx hal htl
      generalize l.getD i ([], []) = f at *
      obtain ⟨n, x⟩ := f
      have hnz := size_mkS n
      have hxz := size_mkS x
      simp only at hm hc0 hc1
      have HC := fun W : World => rsm_any (mkS n) (mkS name) W (by omega) (by rw [HNZ.out]; exact hn)
      rw [bs_mkS, bs_mkS] at HC
      have g0 : (0 : Int) ≤ (i : Int) := by omega
      have g1 : (i : Int) < (l.length : Int) := by omega
      have hlt1 := cell_lt (p := ⟨b, o + i * 2 + 1, none⟩) hc1
      clear hnz hxz
      have hkk : isN name (n, x) = decide (lowL n = lowL name) := rfl
      rw [← hkk] at HC
      clear hkk
      generalize allF (l.take i) name = P at *
      cases hk : isN name (n, x)
      · rw [hk] at HC HNX
        have hx2 : allF (l.take (i + 1)) name = P := by rw [HNX.out]; simp
        have HX := Lib.hid hx2
        have HC2 := Lib.hid HC
        clear HC hk hx2
        go_wp2_with fail
        refine (HC2.out _).mono ?_
        rintro e w5 ⟨rfl, hb⟩
        have HO5 := Lib.hid (own_keep HO.out hb)
        have HB5 := Lib.hid (HB.out.trans (hb.mono HB.out.size))
        clear hb
        go_wp2_with fail
        refine ⟨⟨i + 1, hlt, by go_num, ?_, HB5⟩, by simp [RowKit.intOf]; omega⟩
        show World.ownsRow _ _ _ _ _ _ _
        rw [HX.out]
        exact HO5.out
      · rw [hk] at HC HNX
        have hx2 : allF (l.take (i + 1)) name = P ++ [x] := by rw [HNX.out]; simp
        have HX := Lib.hid hx2
        have HC2 := Lib.hid HC
        clear HC hk hx2
        go_wp2_with fail
        refine (HC2.out _).mono ?_
        rintro e w6 ⟨rfl, hb⟩
        have hown' := own_keep HO.out hb
        have hB' : w.heap.size ≤ w6.heap.size := Nat.le_trans HB.out.size hb.size
        have HB6 := Lib.hid (HB.out.trans (hb.mono HB.out.size))
        have p1 : w6.cell? ⟨b, o + i * 2 + 1, none⟩ = some (.string (mkS x)) := (hb.cell (p := ⟨b, o + i * 2 + 1, none⟩) hlt1).trans hc1
        clear hb
        go_wp2_with (at_builtin; refine wpList_append_own _ rfl _ _ 46 rfl w.heap.size 9 i0 (.string .empty) 1 16 Tryz.underlying46 hi0 hz0 hz1 hz2 rfl (by decide) _ _ _ rfl (hown'.alloc _) ⟨w6.heap.size, 0, none⟩ 1 1 [.string (mkS x)] rfl rfl ?c1 ?c2 ?c3 ?c4 ?c5 ?_)
        case c1 => exact cell_one_new _ _ _
        case c2 => simp [Value.oneCell']
        case c3 => unfold maxLen; omega
        case c4 => omega
        case c5 => simp; omega
        intro v' w1 hown1 hg1 _
        have hb1 : Below w.heap.size w w1 := HB6.out.trans (((Below.refl w.heap.size w6).alloc hB' _).trans (below_of_grown hg1 (hown'.alloc _) (by simp; omega)))
        have HB7 := Lib.hid hb1
        have HO7 := Lib.hid hown1
        clear hb1 hown1 hg1 hown'
        go_wp2_with fail
        refine ⟨⟨i + 1, hlt, by go_num, ?_, HB7⟩, by simp [RowKit.intOf]; omega⟩
        show World.ownsRow _ _ _ _ _ _ _
        rw [HX.out, List.length_append, strs_append]
        exact HO7.out
    · have hil : l.take i = l := List.take_of_length_le (by omega)
      rw [hil] at HO
      go_wp2_with fail
      go_ret
      exact ⟨_, rfl, HO.out, HB.out⟩

end Tk
end Go.Proofs.YtdlbmfgajgefdaaGreatDoor
namespace Go.Proofs.YtdlbmfgajgefdaaGreatDoor
open Go.RowKit
namespace Tk

theorem joinB_snoc (P : List Bs) (x : Bs) : joinB (P ++ [x]) = if P = [] then x else joinB P ++ [44, 32] ++ x := by
  unfold joinB
  cases P with
  | nil => simp [Lib.join_one]
  | cons y r =>
    rw [if_neg (by simp), List.cons_append, Lib.join_cons, Lib.join_cons]
    simp [Lib.joinTail]
theorem joinB_len (P : List Bs) : (joinB P).length ≤ Lib.lens P + 2 * P.length := by
  unfold joinB
  cases P with
  | nil => simp [Lib.join_nil]
  | cons x r => rw [Lib.join_length]; simp only [List.length_cons, List.length_nil]; omega
theorem joinB_take (P : List Bs) (i : Nat) : (joinB (P.take i)).length ≤ Lib.lens P + 2 * P.length := by
  have h1 := joinB_len (P.take i)
  have h2 := Lib.lens_take_le P i
  rw [List.length_take] at h1
  omega
theorem lens_mem (P : List Bs) (x : Bs) (h : x ∈ P) : x.length ≤ Lib.lens P := by
  induction P with
  | nil => simp at h
  | cons y t ih =>
    rcases List.mem_cons.1 h with rfl | h
    · simp [Lib.lens]
    · have := ih h; simp [Lib.lens] at *; omega

set_option maxHeartbeats 4000000 in
set_option maxRecDepth 100000 in
theorem rjoin_any (v : Value) (P : List Bs) (w : World) (hs : IsStrs w v P) (hP : P.length ≤ 1048576) (hj : Lib.lens P + 2 * P.length ≤ 1000000) :
    Calls Tryz.prog 104 #[v] w fun e w' => e = .returned (.string (mkS (joinB P))) ∧ w = w' := by
  obtain ⟨a, c, rfl, hc⟩ := hs
  have HC := Lib.hid hc
  have HT := Lib.hid (joinB_take P)
  have HM := Lib.hid (lens_mem P)
  clear hc
  go_enter Tryz.func104, Tryz.ntmps104
  go_wp2_with fail
  go_loop [3, 4] (fun vs vi => ∃ i : Nat, i ≤ P.length ∧ vi = .int .i64 i ∧ vs = .string (mkS (joinB (P.take i)))) (fun _ vi => P.length - (RowKit.intOf vi).toNat)
  case atStart => exact ⟨0, Nat.zero_le _, rfl, rfl⟩
  case round =>
    obtain ⟨i, hi, rfl, rfl⟩ := hrel
    by_cases hlt : i < P.length
    · obtain ⟨b, o, rfl, hc0⟩ := HC.out i (P.getD i []) (by simp [List.getD, hlt])
      have htk : P.take (i + 1) = P.take i ++ [P.getD i []] := by rw [List.take_succ_eq_append_getElem hlt]; simp [List.getD, hlt]
      have hsn := joinB_snoc (P.take i) (P.getD i [])
      rw [← htk] at hsn
      have hz := HT.out i
      have hxz := HM.out (P.getD i []) (by simp [List.getD, hlt])
      have hnil : P.take i = [] ↔ i = 0 := by
        rw [List.take_eq_nil_iff]
        constructor
        · rintro (h | h)
          · exact h
          · rw [h] at hlt; simp at hlt
        · exact .inl
      clear htk
      generalize P.getD i [] = x at *
      generalize hJ2 : joinB (P.take (i + 1)) = J2 at *
      generalize hJ : joinB (P.take i) = J at *
      have HJ2 := Lib.hid hJ2
      have z1 := size_mkS J
      have z2 := size_mkS x
      have y1 : (mkS J).size ≤ 1000000 := by omega
      have y2 : (mkS x).size ≤ 1000000 := by omega
      have g0 : (0 : Int) ≤ (i : Int) := by omega
      have g1 : (i : Int) < (P.length : Int) := by omega
      by_cases hi0 : i = 0
      · have e0 : ¬ (0 : Int) < (i : Int) := by omega
        have hJe : J = [] := by rw [← hJ, hnil.2 hi0]; rfl
        rw [if_pos (hnil.2 hi0)] at hsn
        have E : Hid (mkS J ++ mkS x = mkS J2) := by show _ = _; rw [hJe, hsn, mkS_append]; rfl
        clear hnil hsn hJ hJ2 z1 z2 hi0 hJe
        go_wp2_with fail
        exact ⟨⟨i + 1, hlt, by go_num, by rw [HJ2.out]; exact congrArg Value.string E.out⟩, by simp [RowKit.intOf]; omega⟩
      · have e0 : (0 : Int) < (i : Int) := by omega
        rw [if_neg (fun h => hi0 (hnil.1 h))] at hsn
        have E : Hid (mkS J ++ ⟨#[44, 32]⟩ ++ mkS x = mkS J2) := by show _ = _; rw [hsn, ← mkS_append, ← mkS_append]; rfl
        clear hnil hsn hJ hJ2 z1 z2 hi0
        go_wp2_with fail
        exact ⟨⟨i + 1, hlt, by go_num, by rw [HJ2.out]; exact congrArg Value.string E.out⟩, by simp [RowKit.intOf]; omega⟩
    · have hil : P.take i = P := List.take_of_length_le (by omega)
      have HF := Lib.hid hil
      clear hil
      go_wp2_with fail
      go_ret
      exact ⟨by rw [HF.out]; rfl, rfl⟩

set_option maxHeartbeats 4000000 in
set_option maxRecDepth 100000 in
theorem rget_any (v : Value) (l : List (Bs × Bs)) (name : Bs) (w : World) (hs : IsFlds w v l) (hz : sumF l ≤ 1000000) (hn : name.length ≤ 1099511627776) (hl : l.length ≤ 1048576) :
    Calls Tryz.prog 64 #[v, .string (mkS name)] w fun e w' => e = .returned (.tuple #[.string (mkS (joinB (allF l name))), .bool (decide (0 < (allF l name).length))]) ∧ Below w.heap.size w w' := by
  have HA := Lib.hid (rall_any v l name w hs (sum_each l (by omega)) hn hl)
  unfold ListPost at HA
  obtain ⟨a, cap, rfl⟩ : ∃ a cap, v = .slice a l.length cap := by obtain ⟨a, c, h, -⟩ := hs; exact ⟨a, c, h⟩
  have hal := allF_len l name
  have hsm := sum_all name l
  have hP : (allF l name).length ≤ 1048576 := by omega
  have hj : Lib.lens (allF l name) + 2 * (allF l name).length ≤ 1000000 := by omega
  clear hs hz hal hsm
  generalize allF l name = P at *
  go_enter Tryz.func64, Tryz.ntmps64
  go_wp2_with fail
  refine HA.out.mono ?_
  rintro e w1 ⟨v1, rfl, ho, hb⟩
  have HB := Lib.hid hb
  have HJ := Lib.hid (rjoin_any v1 P w1 (isStrs_own ho) hP hj)
  obtain ⟨a1, c1, rfl⟩ : ∃ a c, v1 = .slice a P.length c := by obtain ⟨a, c, h, -⟩ := isStrs_own ho; exact ⟨a, c, h⟩
  clear ho hb hj
  by_cases hp : 0 < P.length
  all_goals
    go_wp2_with fail
    refine HJ.out.mono ?_
    rintro e w' ⟨rfl, rfl⟩
    go_wp2_with fail
    go_ret2
    exact ⟨by first | (rw [decide_eq_true hp]; done) | (rw [decide_eq_false hp]; done) | (simp [hp]; done) | rfl, HB.out⟩
end Tk
end Go.Proofs.YtdlbmfgajgefdaaGreatDoor
namespace Go.Proofs.YtdlbmfgajgefdaaGreatDoor
open Go.RowKit
namespace Tk

theorem delF_snocD (l : List (Bs × Bs)) (f : Bs × Bs) (name : Bs) : delF name (l ++ [f]) = delF name l ++ (if isN name f then [] else [f]) := by
  rw [delF_app]
  congr 1
  unfold delF
  cases h : isN name f <;> simp [h]
theorem keepD {w w' : World} {B : Nat} {v : Value} {n : Nat} {xs : List Value} {e : TypeId} {k : Nat} (h : w.ownsRow B e k v n xs) (hb : Below w.heap.size w w') : w'.ownsRow B e k v n xs :=
  World.ownsRow.kept h (row := none) ⟨hb.os, hb.tape, hb.output, hb.size, fun k hk _ => hb.block k hk⟩ (by cases h : v.ownBlock <;> simp)

set_option maxHeartbeats 8000000 in
set_option maxRecDepth 100000 in
theorem rdel_any (v : Value) (l : List (Bs × Bs)) (name : Bs) (w : World) (hs : IsFlds w v l) (hz : ∀ f ∈ l, f.1.length ≤ 1099511627776 ∧ f.2.length ≤ 1099511627776) (hn : name.length ≤ 1099511627776) (hl : l.length ≤ 1048576) :
    Calls Tryz.prog 54 #[v, .string (mkS name)] w (OwnPost (delF name l) w) := by
  have HS := Lib.hid hs
  have HZ := Lib.hid hz
  have HNZ := Lib.hid (size_mkS name)
  unfold OwnPost
  obtain ⟨a, cap, rfl⟩ : ∃ a cap, v = .slice a l.length cap := by obtain ⟨a, c, h, -⟩ := hs; exact ⟨a, c, h⟩
  clear hs hz
  go_enter Tryz.func54, Tryz.ntmps54
  go_wp2_with fail
  go_loopw [5, 6] (fun v5 vi wr => ∃ i : Nat, i ≤ l.length ∧ vi = .int .i64 i ∧ Hid (wr.ownsRow w.heap.size 32 2 v5 (delF name (l.take i)).length (fcells (delF name (l.take i)))) ∧ Hid (Below w.heap.size w wr)) (fun _ vi _ => l.length - (RowKit.intOf vi).toNat)
  case atStart => exact ⟨0, Nat.zero_le _, rfl, World.ownsRow_nil _ _ _ _, Below.refl _ _⟩
  case round =>
    obtain ⟨i, hi, rfl, HO, HB⟩ := hrel
    rename World => W
    by_cases hlt : i < l.length
    · obtain ⟨a', c', e', hcap, hc⟩ := isFlds_below HS.out HB.out
      injection e' with e1 _ e2
      subst e1 e2
      obtain ⟨b, o, rfl, hc0, hc1⟩ := hc i (l.getD i ([], [])) (by simp [List.getD, hlt])
      have hm := HZ.out (l.getD i ([], [])) (by simp [List.getD, hlt])
      have htk : l.take (i + 1) = l.take i ++ [l.getD i ([], [])] := by
        rw [List.take_succ_eq_append_getElem hlt]; simp [List.getD, hlt]
      have hnx := delF_snocD (l.take i) (l.getD i ([], [])) name
      rw [← htk] at hnx
      have HNX := Lib.hid hnx
      have hal := delF_len name (l.take i)
      have htl : (l.take i).length ≤ i := by simp; omega
      have hal2 : (delF name (l.take i)).length ≤ 1048576 := by omega
      clear hc htk hnx hal htl
      generalize l.getD i ([], []) = f at *
      obtain ⟨n, x⟩ := f
      have hnz := size_mkS n
      simp only at hm hc0 hc1
      have HC := fun W : World => rsm_any (mkS n) (mkS name) W (by omega) (by rw [HNZ.out]; exact hn)
      rw [bs_mkS, bs_mkS] at HC
      have g0 : (0 : Int) ≤ (i : Int) := by omega
      have g1 : (i : Int) < (l.length : Int) := by omega
      have hlt0 := cell_lt (p := ⟨b, o + i * 2, none⟩) hc0
      have hlt1 := cell_lt (p := ⟨b, o + i * 2 + 1, none⟩) hc1
      clear hnz
      have hkk : isN name (n, x) = decide (lowL n = lowL name) := rfl
      rw [← hkk] at HC
      clear hkk
      generalize delF name (l.take i) = P at *
      cases hk : isN name (n, x)
      · rw [hk] at HC HNX
        have hx2 : delF name (l.take (i + 1)) = P ++ [(n, x)] := by rw [HNX.out]; simp
        have HX := Lib.hid hx2
        have HC2 := Lib.hid HC
        clear HC hk hx2
        go_wp2_with fail
        refine (HC2.out _).mono ?_
        rintro e w6 ⟨rfl, hb⟩
        have ho6 := keepD HO.out hb
        have hB' : w.heap.size ≤ w6.heap.size := Nat.le_trans HB.out.size hb.size
        have HB6 := Lib.hid (HB.out.trans (hb.mono HB.out.size))
        have p0 : w6.cell? ⟨b, o + i * 2, none⟩ = some (.string (mkS n)) := (hb.cell (p := ⟨b, o + i * 2, none⟩) hlt0).trans hc0
        have p1 : w6.cell? ⟨b, o + i * 2 + 1, none⟩ = some (.string (mkS x)) := (hb.cell (p := ⟨b, o + i * 2 + 1, none⟩) hlt1).trans hc1
        have hbal : Below w6.heap.size w6 (w6.alloc (Obj.cells #[.string (mkS n), .string (mkS x)] 32)) := (Below.refl _ _).alloc (Nat.le_refl _) _
        have HO7 := Lib.hid (keepD ho6 hbal)
        have HF7 := Lib.hid (isFlds_lit w6 n x)
        have HB7 := Lib.hid (HB6.out.trans (hbal.mono hB'))
        have hs7 : w.heap.size ≤ (w6.alloc (Obj.cells #[.string (mkS n), .string (mkS x)] 32)).heap.size := HB7.out.size
        clear hb ho6 hbal
        go_wp2_with (at_builtin; refine joinF_guarded (by rfl) _ _ rfl w.heap.size _ _ P [(n, x)] rfl rfl HO7.out HF7.out (fun _ _ h => by injection h with h1; cases h1) hs7 hal2 (by simp) ?_)
        intro v8 w8 ho8 hg8
        have HB8 := Lib.hid (HB7.out.trans (below_of_grownF hg8 HO7.out hs7))
        have e1 : (P ++ [(n, x)]).length = P.length + 1 := by simp
        have HO8 : Hid (w8.ownsRow w.heap.size 32 2 v8 (delF name (l.take (i + 1))).length (fcells (delF name (l.take (i + 1))))) := by
          show World.ownsRow _ _ _ _ _ _ _
          rw [HX.out]
          first | exact ho8 | (rw [e1]; exact ho8)
        clear ho8 hg8 e1
        go_wp2_with fail
        exact ⟨⟨i + 1, hlt, by go_num, HO8, HB8⟩, by simp [RowKit.intOf]; omega⟩
      · rw [hk] at HC HNX
        have hx2 : delF name (l.take (i + 1)) = P := by rw [HNX.out]; simp
        have HX := Lib.hid hx2
        have HC2 := Lib.hid HC
        clear HC hk hx2
        go_wp2_with fail
        refine (HC2.out _).mono ?_
        rintro e w5 ⟨rfl, hb⟩
        have HO5 := Lib.hid (keepD HO.out hb)
        have HB5 := Lib.hid (HB.out.trans (hb.mono HB.out.size))
        clear hb
        go_wp2_with fail
        refine ⟨⟨i + 1, hlt, by go_num, ?_, HB5⟩, by simp [RowKit.intOf]; omega⟩
        show World.ownsRow _ _ _ _ _ _ _
        rw [HX.out]
        exact HO5.out
    · have hil : l.take i = l := List.take_of_length_le (by omega)
      rw [hil] at HO
      go_wp2_with fail
      go_ret
      exact ⟨_, rfl, HO.out, HB.out⟩
end Tk
end Go.Proofs.YtdlbmfgajgefdaaGreatDoor
namespace Go.Proofs.YtdlbmfgajgefdaaGreatDoor
open Go.RowKit
namespace Tk

def stG (name x : Bs) : Bool → List (Bs × Bs) → List (Bs × Bs)
  | _, [] => []
  | th, f :: t => if isN name f then (if th then stG name x true t else (f.1, x) :: stG name x true t) else f :: stG name x th t
def anyN (name : Bs) (l : List (Bs × Bs)) : Bool := l.any (isN name)
theorem anyN_snoc (name : Bs) (l : List (Bs × Bs)) (f : Bs × Bs) : anyN name (l ++ [f]) = (anyN name l || isN name f) := by unfold anyN; simp
theorem stG_snoc (name x : Bs) (f : Bs × Bs) : ∀ (l : List (Bs × Bs)) (th : Bool), stG name x th (l ++ [f]) = stG name x th l ++ (if isN name f then (if th || anyN name l then [] else [(f.1, x)]) else [f])
  | [], th => by
    cases h : isN name f <;> cases th <;> simp [stG, h, anyN]
  | g :: t, th => by
    have h1 := stG_snoc name x f t true
    have h2 := stG_snoc name x f t th
    rw [List.cons_append]
    unfold stG
    cases hg : isN name g
    · simp only [Bool.false_eq_true, if_false, h2]
      rw [show anyN name (g :: t) = anyN name t by unfold anyN; simp [hg]]
      rfl
    · have ha : anyN name (g :: t) = true := by unfold anyN; simp [hg]
      cases th
      · simp only [if_true, Bool.false_eq_true, if_false, h1, ha]
        rfl
      · simp only [if_true, h1, ha]
        rfl
theorem stG_true (name x : Bs) : ∀ l : List (Bs × Bs), stG name x true l = delF name l
  | [] => rfl
  | f :: t => by
    rw [delF_cons]
    unfold stG
    rw [stG_true name x t]
    cases h : isN name f <;> simp
theorem stG_all (name x : Bs) : ∀ l : List (Bs × Bs), stG name x false l ++ (if anyN name l then [] else [(name, x)]) = setF name x l
  | [] => rfl
  | f :: t => by
    have ih := stG_all name x t
    unfold stG
    cases h : isN name f
    · rw [show anyN name (f :: t) = anyN name t by unfold anyN; simp [h]]
      simp only [Bool.false_eq_true, if_false, List.cons_append, ih]
      unfold setF
      rw [List.findIdx_cons, h]
      simp only [cond_false, List.length_cons, Nat.add_lt_add_iff_right]
      split
      · simp
      · simp
    · rw [show anyN name (f :: t) = true by unfold anyN; simp [h]]
      simp only [if_true, Bool.false_eq_true, if_false, List.append_nil, stG_true]
      unfold setF
      rw [List.findIdx_cons, h]
      simp
theorem stG_len (name x : Bs) : ∀ (l : List (Bs × Bs)) (th : Bool), (stG name x th l).length ≤ l.length
  | [], _ => Nat.le_refl _
  | f :: t, th => by
    have h1 := stG_len name x t true
    have h2 := stG_len name x t th
    unfold stG
    split
    · split
      · simp; omega
      · simp; omega
    · simp; omega

theorem below_put {w : World} {B k : Nat} (h : B ≤ k) (o : Nat) (v : Value) : Below B w (w.setCell ⟨k, o, none⟩ v) :=
  ⟨rfl, rfl, rfl, by simp, fun j hj => Below.heap_setCell _ _ _ _ (by show j ≠ k; omega)⟩
theorem own_aside {w : World} {B n size k : Nat} {v : Value} {xs : List Value} {e : TypeId} (h : w.ownsRow B e size v n xs) (hk : v.ownBlock ≠ some k) (o : Nat) (u : Value) : (w.setCell ⟨k, o, none⟩ u).ownsRow B e size v n xs := by
  rcases h.2 with hn | ⟨g, cap, cur, rfl, hb, hgg, rest⟩
  · exact ⟨h.1, .inl hn⟩
  · exact ⟨h.1, .inr ⟨g, cap, cur, rfl, hb, (Below.heap_setCell _ _ _ _ (by show g ≠ k; intro e2; exact hk (congrArg some e2))).trans hgg, rest⟩⟩

set_option maxHeartbeats 8000000 in
set_option maxRecDepth 100000 in
theorem rset_any (v : Value) (l : List (Bs × Bs)) (name y : Bs) (w : World) (hs : IsFlds w v l) (hz : ∀ f ∈ l, f.1.length ≤ 1099511627776 ∧ f.2.length ≤ 1099511627776) (hn : name.length ≤ 1099511627776) (hl : l.length ≤ 1048576) :
    Calls Tryz.prog 65 #[v, .string (mkS name), .string (mkS y)] w (OwnPost (setF name y l) w) := by
  have HS := Lib.hid hs
  have HZ := Lib.hid hz
  have HNZ := Lib.hid (size_mkS name)
  unfold OwnPost
  obtain ⟨a, cap, rfl⟩ : ∃ a cap, v = .slice a l.length cap := by obtain ⟨a, c, h, -⟩ := hs; exact ⟨a, c, h⟩
  clear hs hz
  go_enter Tryz.func65, Tryz.ntmps65
  go_wp2_with fail
  go_loopw [7, 8, 9] (fun v7 v8 vi wr => ∃ i : Nat, i ≤ l.length ∧ v8 = .bool (anyN name (l.take i)) ∧ vi = .int .i64 i ∧ Hid (wr.ownsRow w.heap.size 32 2 v7 (stG name y false (l.take i)).length (fcells (stG name y false (l.take i)))) ∧ Hid (Below w.heap.size w wr)) (fun _ _ vi _ => l.length - (RowKit.intOf vi).toNat)
  case atStart => exact ⟨0, Nat.zero_le _, rfl, rfl, World.ownsRow_nil _ _ _ _, Below.refl _ _⟩
  case round =>
    obtain ⟨i, hi, rfl, rfl, HO, HB⟩ := hrel
    rename World => W
    by_cases hlt : i < l.length
    · obtain ⟨a', c', e', hcap, hc⟩ := isFlds_below HS.out HB.out
      injection e' with e1 _ e2
      subst e1 e2
      obtain ⟨b, o, rfl, hc0, hc1⟩ := hc i (l.getD i ([], [])) (by simp [List.getD, hlt])
      have hm := HZ.out (l.getD i ([], [])) (by simp [List.getD, hlt])
      have htk : l.take (i + 1) = l.take i ++ [l.getD i ([], [])] := by
        rw [List.take_succ_eq_append_getElem hlt]; simp [List.getD, hlt]
      have hnx := stG_snoc name y (l.getD i ([], [])) (l.take i) false
      rw [← htk, Bool.false_or] at hnx
      have hax := anyN_snoc name (l.take i) (l.getD i ([], []))
      rw [← htk] at hax
      have HNX := Lib.hid hnx
      have hal := stG_len name y (l.take i) false
      have htl : (l.take i).length ≤ i := by simp; omega
      have hal2 : (stG name y false (l.take i)).length ≤ 1048576 := by omega
      clear hc htk hnx hal htl
      generalize l.getD i ([], []) = f at *
      obtain ⟨n, x⟩ := f
      have hnz := size_mkS n
      simp only at hm hc0 hc1
      have HC := fun W : World => rsm_any (mkS n) (mkS name) W (by omega) (by rw [HNZ.out]; exact hn)
      rw [bs_mkS, bs_mkS] at HC
      have g0 : (0 : Int) ≤ (i : Int) := by omega
      have g1 : (i : Int) < (l.length : Int) := by omega
      clear hnz
      have hkk : isN name (n, x) = decide (lowL n = lowL name) := rfl
      rw [← hkk] at HC
      clear hkk
      have HT0 := Lib.hid (Two.new W 32 (.string (mkS n)) (.string (mkS x)))
      have hb0 : Below W.heap.size W (W.alloc (Obj.cells #[.string (mkS n), .string (mkS x)] 32)) := (Below.refl _ _).alloc (Nat.le_refl _) _
      have HO0 := Lib.hid (keepD HO.out hb0)
      have HB0 := Lib.hid (HB.out.trans (hb0.mono HB.out.size))
      have HOb := Lib.hid (ownBlock_lt HO.out)
      have hsW := HB.out.size
      have HSW := Lib.hid hsW
      clear hb0 hsW
      generalize stG name y false (l.take i) = P at *
      generalize hth : anyN name (l.take i) = th at *
      cases hk : isN name (n, x)
      · rw [hk] at HC HNX hax
        have hx2 : stG name y false (l.take (i + 1)) = P ++ [(n, x)] := by rw [HNX.out]; simp
        have HX := Lib.hid hx2
        have HAx := Lib.hid (show anyN name (l.take (i + 1)) = th by rw [hax]; simp)
        have HC2 := Lib.hid HC
        clear HC hk hx2 hax hth
        go_wp2_with fail
        refine (HC2.out _).mono ?_
        rintro e w6 ⟨rfl, hb⟩
        have ho6 := keepD HO0.out hb
        have HT6 := Lib.hid (HT0.out.later hb)
        have HB6 := Lib.hid (HB0.out.trans (hb.mono HB0.out.size))
        have p0 := HT6.out.c0
        have p1 := HT6.out.c1
        have hbal : Below w6.heap.size w6 (w6.alloc (Obj.cells #[.string (mkS n), .string (mkS x)] 32)) := (Below.refl _ _).alloc (Nat.le_refl _) _
        have HO7 := Lib.hid (keepD ho6 hbal)
        have HF7 := Lib.hid (isFlds_lit w6 n x)
        have HB7 := Lib.hid (HB6.out.trans (hbal.mono HB6.out.size))
        have hs7 : w.heap.size ≤ (w6.alloc (Obj.cells #[.string (mkS n), .string (mkS x)] 32)).heap.size := HB7.out.size
        clear hb ho6 hbal
        go_wp2_with (at_builtin; refine joinF_guarded (by rfl) _ _ rfl w.heap.size _ _ P [(n, x)] rfl rfl HO7.out HF7.out (fun _ _ h => by injection h with h1; cases h1) hs7 hal2 (by simp) ?_)
        intro v8 w8 ho8 hg8
        have HB8 := Lib.hid (HB7.out.trans (below_of_grownF hg8 HO7.out hs7))
        have e1 : (P ++ [(n, x)]).length = P.length + 1 := by simp
        have HO8 : Hid (w8.ownsRow w.heap.size 32 2 v8 (stG name y false (l.take (i + 1))).length (fcells (stG name y false (l.take (i + 1))))) := by
          show World.ownsRow _ _ _ _ _ _ _
          rw [HX.out]
          first | exact ho8 | (rw [e1]; exact ho8)
        clear ho8 hg8 e1
        go_wp2_with fail
        exact ⟨⟨i + 1, hlt, by rw [HAx.out], by go_num, HO8, HB8⟩, by simp [RowKit.intOf]; omega⟩
      · rw [hk] at HC HNX hax
        have HAx := Lib.hid (show anyN name (l.take (i + 1)) = true by rw [hax]; simp)
        have HC2 := Lib.hid HC
        clear HC hk hax hth
        cases th
        · have hx2 : stG name y false (l.take (i + 1)) = P ++ [(n, y)] := by rw [HNX.out]; simp
          have HX := Lib.hid hx2
          clear hx2
          go_wp2_with fail
          refine (HC2.out _).mono ?_
          rintro e w6 ⟨rfl, hb⟩
          have ho6 := keepD HO0.out hb
          have HT6 := Lib.hid (HT0.out.later hb)
          have HB6 := Lib.hid (HB0.out.trans (hb.mono HB0.out.size))
          have p0 := HT6.out.c0
          have p1 := HT6.out.c1
          have r1 := HT6.out.f1
          have HBp := Lib.hid (HB6.out.trans (below_put (w := w6) HSW.out 1 (.string (mkS y))))
          have hop := own_aside ho6 HOb.out 1 (.string (mkS y))
          have hbal : Below (w6.setCell ⟨W.heap.size, 1, none⟩ (.string (mkS y))).heap.size (w6.setCell ⟨W.heap.size, 1, none⟩ (.string (mkS y))) ((w6.setCell ⟨W.heap.size, 1, none⟩ (.string (mkS y))).alloc (Obj.cells #[.string (mkS n), .string (mkS y)] 32)) := (Below.refl _ _).alloc (Nat.le_refl _) _
          have HO7 := Lib.hid (keepD hop hbal)
          have hsz : (w6.setCell ⟨W.heap.size, 1, none⟩ (.string (mkS y))).heap.size = w6.heap.size := by simp
          have hF7 := isFlds_lit (w6.setCell ⟨W.heap.size, 1, none⟩ (.string (mkS y))) n y
          rw [hsz] at hF7
          have HF7 := Lib.hid hF7
          clear hF7 hsz
          have HB7 := Lib.hid (HBp.out.trans (hbal.mono HBp.out.size))
          have hs7 : w.heap.size ≤ ((w6.setCell ⟨W.heap.size, 1, none⟩ (.string (mkS y))).alloc (Obj.cells #[.string (mkS n), .string (mkS y)] 32)).heap.size := HB7.out.size
          clear hb ho6 hop hbal
          go_wp2_with (at_builtin; refine joinF_guarded (by rfl) _ _ rfl w.heap.size _ _ P [(n, y)] rfl rfl HO7.out HF7.out (fun _ _ h => by injection h with h1; cases h1) hs7 hal2 (by simp) ?_)
          intro v8 w8 ho8 hg8
          have HB8 := Lib.hid (HB7.out.trans (below_of_grownF hg8 HO7.out hs7))
          have e1 : (P ++ [(n, y)]).length = P.length + 1 := by simp
          have HO8 : Hid (w8.ownsRow w.heap.size 32 2 v8 (stG name y false (l.take (i + 1))).length (fcells (stG name y false (l.take (i + 1))))) := by
            show World.ownsRow _ _ _ _ _ _ _
            rw [HX.out]
            first | exact ho8 | (rw [e1]; exact ho8)
          clear ho8 hg8 e1
          go_wp2_with fail
          exact ⟨⟨i + 1, hlt, by rw [HAx.out], by go_num, HO8, HB8⟩, by simp [RowKit.intOf]; omega⟩
        · have hx2 : stG name y false (l.take (i + 1)) = P := by rw [HNX.out]; simp
          have HX := Lib.hid hx2
          clear hx2
          go_wp2_with fail
          refine (HC2.out _).mono ?_
          rintro e w6 ⟨rfl, hb⟩
          have HO6 := Lib.hid (keepD HO0.out hb)
          have HB6 := Lib.hid (HB0.out.trans (hb.mono HB0.out.size))
          clear hb
          go_wp2_with fail
          refine ⟨⟨i + 1, hlt, by rw [HAx.out], by go_num, ?_, HB6⟩, by simp [RowKit.intOf]; omega⟩
          show World.ownsRow _ _ _ _ _ _ _
          rw [HX.out]
          exact HO6.out
    · have hil : l.take i = l := List.take_of_length_le (by omega)
      rw [hil] at HO ⊢
      have hall := stG_all name y l
      have hal := stG_len name y l false
      generalize stG name y false l = P at *
      cases hth : anyN name l
      · rw [hth] at hall
        have HAll := Lib.hid hall
        have hbal : Below W.heap.size W (W.alloc (Obj.cells #[.string (mkS name), .string (mkS y)] 32)) := (Below.refl _ _).alloc (Nat.le_refl _) _
        have HO7 := Lib.hid (keepD HO.out hbal)
        have HF7 := Lib.hid (isFlds_lit W name y)
        have HB7 := Lib.hid (HB.out.trans (hbal.mono HB.out.size))
        have hs7 : w.heap.size ≤ (W.alloc (Obj.cells #[.string (mkS name), .string (mkS y)] 32)).heap.size := HB7.out.size
        have hal2 : P.length ≤ 1048576 := by omega
        clear hall hbal hil hth hal
        go_wp2_with (at_builtin; refine joinF_guarded (by rfl) _ _ rfl w.heap.size _ _ P [(name, y)] rfl rfl HO7.out HF7.out (fun _ _ h => by injection h with h1; cases h1) hs7 hal2 (by simp) ?_)
        intro v8 w8 ho8 hg8
        have HB8 := Lib.hid (HB7.out.trans (below_of_grownF hg8 HO7.out hs7))
        have e1 : (P ++ [(name, y)]).length = P.length + 1 := by simp
        have HO8 : Hid (w8.ownsRow w.heap.size 32 2 v8 (setF name y l).length (fcells (setF name y l))) := by
          show World.ownsRow _ _ _ _ _ _ _
          rw [← HAll.out]
          first | exact ho8 | (simp only [Bool.false_eq_true, if_false]; exact ho8) | (simp only [Bool.false_eq_true, if_false]; rw [e1]; exact ho8)
        clear ho8 hg8 e1
        go_wp2_with fail
        go_ret
        exact ⟨_, rfl, HO8.out, HB8.out⟩
      · rw [hth] at hall
        simp only [if_true, List.append_nil] at hall
        have HAll := Lib.hid hall
        clear hall hil hth hal
        go_wp2_with fail
        go_ret
        refine ⟨_, rfl, ?_, HB.out⟩
        rw [← HAll.out]
        exact HO.out
end Tk
end Go.Proofs.YtdlbmfgajgefdaaGreatDoor
namespace Go.Proofs.YtdlbmfgajgefdaaGreatDoor
open Go.RowKit
namespace Tk

theorem dig_at (i : Nat) (h : i < 10) : (⟨#[48, 49, 50, 51, 52, 53, 54, 55, 56, 57]⟩ : ByteArray).extract i (i + 1) = mkS (Lib.decDigits i) := by
  rw [Lib.decDigits_one h]
  have key : ∀ j : Fin 10, (⟨#[48, 49, 50, 51, 52, 53, 54, 55, 56, 57]⟩ : ByteArray).extract j.val (j.val + 1) = mkS [UInt8.ofNat (48 + j.val)] := by decide +kernel
  exact key ⟨i, h⟩
theorem dec_big (u : Nat) (h : ¬ u < 10) : Lib.decDigits u = Lib.decDigits (u / 10) ++ Lib.decDigits (u % 10) := by
  rw [Lib.decDigits, dif_neg h, Lib.decDigits_one (show u % 10 < 10 by omega)]

set_option maxHeartbeats 4000000 in
set_option maxRecDepth 100000 in
theorem rdig_nat : ∀ (k u : Nat), u ≤ k → u ≤ 9223372036854775807 → ∀ w : World, Calls Tryz.prog 66 #[.int .i64 (u : Int)] w fun e w' => e = .returned (.string (mkS (Lib.decDigits u))) ∧ w = w' := by
  intro k
  induction k with
  | zero =>
    intro u hu hm w
    obtain rfl : u = 0 := by omega
    have HE := Lib.hid (dig_at 0 (by decide))
    go_enter Tryz.func66, Tryz.ntmps66
    go_wp2_with fail
    go_ret
    exact ⟨by rw [← HE.out]; rfl, rfl⟩
  | succ k ih =>
    intro u hu hm w
    have n0 : ¬ (u : Int) < 0 := by omega
    by_cases hs : u < 10
    · have HE := Lib.hid (dig_at u hs)
      have m1 : (u : Int) < 10 := by omega
      have m2 : IntKind.i64.wrap ((u : Int) + 1) = (u : Int) + 1 := IntWalk.i64_in _ (by omega)
      have g0 : (0 : Int) ≤ (u : Int) := by omega
      have g1 : (u : Int) ≤ (u : Int) + 1 := by omega
      have g2 : (u : Int) + 1 ≤ 10 := by omega
      have m3 : ((u : Int) + 1).toNat = u + 1 := by omega
      clear ih
      go_enter Tryz.func66, Tryz.ntmps66
      go_wp2_with fail
      go_ret
      exact ⟨by rw [← HE.out]; rfl, rfl⟩
    · have H1 := Lib.hid (ih (u / 10) (by omega) (by omega) w)
      have H2 := Lib.hid (ih (u % 10) (by omega) (by omega) w)
      have HE := Lib.hid (dec_big u hs)
      have m1 : ¬ (u : Int) < 10 := by omega
      have q1 : Int.tdiv (u : Int) 10 = ((u / 10 : Nat) : Int) := by rw [Int.tdiv_eq_ediv_of_nonneg (by omega)]; omega
      have q2 : Int.tmod (u : Int) 10 = ((u % 10 : Nat) : Int) := by rw [Int.tmod_eq_emod_of_nonneg (by omega)]; omega
      have z1 : (mkS (Lib.decDigits (u / 10))).size ≤ 100 := by rw [size_mkS, Lib.decDigits_length]; have := nDigits_le 18 (u / 10) (by omega); omega
      have z2 : (mkS (Lib.decDigits (u % 10))).size ≤ 100 := by rw [size_mkS, Lib.decDigits_length]; have := nDigits_le 18 (u % 10) (by omega); omega
      clear ih
      go_enter Tryz.func66, Tryz.ntmps66
      go_wp2_with fail
      refine H1.out.mono ?_
      rintro e w1 ⟨rfl, rfl⟩
      go_wp2_with fail
      refine H2.out.mono ?_
      rintro e w1 ⟨rfl, rfl⟩
      go_wp2_with fail
      go_ret
      exact ⟨by rw [HE.out, ← mkS_append]; rfl, rfl⟩

theorem dec_step (q r : Nat) (hq : q ≠ 0) (hr : r < 10) : Lib.decDigits (q * 10 + r) = Lib.decDigits q ++ [UInt8.ofNat (48 + r)] := by
  rw [dec_big _ (by omega), show (q * 10 + r) / 10 = q by omega, show (q * 10 + r) % 10 = r by omega, Lib.decDigits_one hr]
theorem min_eq : mkS (digI (-9223372036854775808)) = ⟨#[45, 57, 50, 50, 51, 51, 55, 50, 48, 51, 54, 56, 53, 52, 55, 55, 53, 56, 48, 56]⟩ := by
  unfold digI
  rw [show (-9223372036854775808 : Int) = -((9223372036854775808 : Nat) : Int) from rfl, Lib.itoa_neg _ (by decide)]
  rw [show (9223372036854775808 : Nat) = 922337203685477580 * 10 + 8 from rfl, dec_step 922337203685477580 8 (by decide) (by decide), show (922337203685477580 : Nat) = 92233720368547758 * 10 + 0 from rfl, dec_step 92233720368547758 0 (by decide) (by decide), show (92233720368547758 : Nat) = 9223372036854775 * 10 + 8 from rfl, dec_step 9223372036854775 8 (by decide) (by decide), show (9223372036854775 : Nat) = 922337203685477 * 10 + 5 from rfl, dec_step 922337203685477 5 (by decide) (by decide), show (922337203685477 : Nat) = 92233720368547 * 10 + 7 from rfl, dec_step 92233720368547 7 (by decide) (by decide), show (92233720368547 : Nat) = 9223372036854 * 10 + 7 from rfl, dec_step 9223372036854 7 (by decide) (by decide), show (9223372036854 : Nat) = 922337203685 * 10 + 4 from rfl, dec_step 922337203685 4 (by decide) (by decide), show (922337203685 : Nat) = 92233720368 * 10 + 5 from rfl, dec_step 92233720368 5 (by decide) (by decide), show (92233720368 : Nat) = 9223372036 * 10 + 8 from rfl, dec_step 9223372036 8 (by decide) (by decide), show (9223372036 : Nat) = 922337203 * 10 + 6 from rfl, dec_step 922337203 6 (by decide) (by decide), show (922337203 : Nat) = 92233720 * 10 + 3 from rfl, dec_step 92233720 3 (by decide) (by decide), show (92233720 : Nat) = 9223372 * 10 + 0 from rfl, dec_step 9223372 0 (by decide) (by decide), show (9223372 : Nat) = 922337 * 10 + 2 from rfl, dec_step 922337 2 (by decide) (by decide), show (922337 : Nat) = 92233 * 10 + 7 from rfl, dec_step 92233 7 (by decide) (by decide), show (92233 : Nat) = 9223 * 10 + 3 from rfl, dec_step 9223 3 (by decide) (by decide), show (9223 : Nat) = 922 * 10 + 3 from rfl, dec_step 922 3 (by decide) (by decide), show (922 : Nat) = 92 * 10 + 2 from rfl, dec_step 92 2 (by decide) (by decide), show (92 : Nat) = 9 * 10 + 2 from rfl, dec_step 9 2 (by decide) (by decide), Lib.decDigits_one (show 9 < 10 by decide)]
  rfl
set_option maxHeartbeats 4000000 in
set_option maxRecDepth 100000 in
theorem rdig_any (n : Int) (w : World) (h0 : -9223372036854775808 ≤ n) (h1 : n ≤ 9223372036854775807) :
    Calls Tryz.prog 66 #[.int .i64 n] w fun e w' => e = .returned (.string (mkS (digI n))) ∧ w = w' := by
  by_cases hn : n < 0
  · by_cases hm : n = -9223372036854775808
    · have HE : Hid (mkS (digI n) = ⟨#[45, 57, 50, 50, 51, 51, 55, 50, 48, 51, 54, 56, 53, 52, 55, 55, 53, 56, 48, 56]⟩) := by
        show _ = _
        rw [hm]
        exact min_eq
      have m1 : IntKind.i64.wrap (-n) = n := by rw [hm]; decide
      have m2 : (n == n) = true := by simp
      clear hm h0 h1
      go_enter Tryz.func66, Tryz.ntmps66
      go_wp2_with fail
      go_ret
      exact ⟨by rw [HE.out]; rfl, rfl⟩
    · obtain ⟨u, rfl⟩ : ∃ u : Nat, n = -(u : Int) := ⟨n.natAbs, by omega⟩
      have H1 := Lib.hid (rdig_nat u u (Nat.le_refl _) (by omega) w)
      have HE : Hid (mkS (digI (-(u : Int))) = (⟨#[45]⟩ : ByteArray) ++ mkS (Lib.decDigits u)) := by
        show _ = _
        unfold digI
        rw [Lib.itoa_neg _ (by omega), show (⟨#[45]⟩ : ByteArray) = mkS [45] from rfl, mkS_append]; rfl
      have m0 : -(u : Int) < 0 := hn
      have m1 : IntKind.i64.wrap (u : Int) = (u : Int) := IntWalk.i64_in _ (by omega)
      have m2 : (-(u : Int) == (u : Int)) = false := by simp; omega
      have z1 : (mkS (Lib.decDigits u)).size ≤ 100 := by rw [size_mkS, Lib.decDigits_length]; have := nDigits_le 18 u (by omega); omega
      clear hn hm
      go_enter Tryz.func66, Tryz.ntmps66
      go_wp2_with fail
      refine H1.out.mono ?_
      rintro e w1 ⟨rfl, rfl⟩
      go_wp2_with fail
      go_ret
      exact ⟨by rw [HE.out]; rfl, rfl⟩
  · obtain ⟨u, rfl⟩ : ∃ u : Nat, n = (u : Int) := ⟨n.toNat, by omega⟩
    have h := rdig_nat u u (Nat.le_refl _) (by omega) w
    unfold digI
    rw [Lib.itoa_nonneg]
    exact h
end Tk
end Go.Proofs.YtdlbmfgajgefdaaGreatDoor
namespace Go.Proofs.YtdlbmfgajgefdaaGreatDoor
open Go.RowKit
namespace Tk

/-- a status's reason -/
def reaB (s : Int) : Bs :=
  if s = 200 then [79, 75]
  else if s = 304 then [78, 111, 116, 32, 77, 111, 100, 105, 102, 105, 101, 100]
  else if s = 400 then [66, 97, 100, 32, 82, 101, 113, 117, 101, 115, 116]
  else if s = 413 then [67, 111, 110, 116, 101, 110, 116, 32, 84, 111, 111, 32, 76, 97, 114, 103, 101]
  else if s = 431 then [82, 101, 113, 117, 101, 115, 116, 32, 72, 101, 97, 100, 101, 114, 32, 70, 105, 101, 108, 100, 115, 32, 84, 111, 111, 32, 76, 97, 114, 103, 101]
  else if s = 500 then [73, 110, 116, 101, 114, 110, 97, 108, 32, 83, 101, 114, 118, 101, 114, 32, 69, 114, 114, 111, 114]
  else if s = 501 then [78, 111, 116, 32, 73, 109, 112, 108, 101, 109, 101, 110, 116, 101, 100]
  else if s = 502 then [66, 97, 100, 32, 71, 97, 116, 101, 119, 97, 121]
  else if s = 503 then [83, 101, 114, 118, 105, 99, 101, 32, 85, 110, 97, 118, 97, 105, 108, 97, 98, 108, 101]
  else if s = 504 then [71, 97, 116, 101, 119, 97, 121, 32, 84, 105, 109, 101, 111, 117, 116]
  else if s = 505 then [72, 84, 84, 80, 32, 86, 101, 114, 115, 105, 111, 110, 32, 78, 111, 116, 32, 83, 117, 112, 112, 111, 114, 116, 101, 100]
  else [79, 116, 104, 101, 114]
theorem reaB_other (s : Int) (h200 : s ≠ 200) (h304 : s ≠ 304) (h400 : s ≠ 400) (h413 : s ≠ 413) (h431 : s ≠ 431) (h500 : s ≠ 500) (h501 : s ≠ 501) (h502 : s ≠ 502) (h503 : s ≠ 503) (h504 : s ≠ 504) (h505 : s ≠ 505) : reaB s = [79, 116, 104, 101, 114] := by
  unfold reaB
  rw [if_neg h200, if_neg h304, if_neg h400, if_neg h413, if_neg h431, if_neg h500, if_neg h501, if_neg h502, if_neg h503, if_neg h504, if_neg h505]
theorem reaB_len (s : Int) : (reaB s).length ≤ 40 := by
  by_cases h200 : s = 200
  · subst h200; decide
  by_cases h304 : s = 304
  · subst h304; decide
  by_cases h400 : s = 400
  · subst h400; decide
  by_cases h413 : s = 413
  · subst h413; decide
  by_cases h431 : s = 431
  · subst h431; decide
  by_cases h500 : s = 500
  · subst h500; decide
  by_cases h501 : s = 501
  · subst h501; decide
  by_cases h502 : s = 502
  · subst h502; decide
  by_cases h503 : s = 503
  · subst h503; decide
  by_cases h504 : s = 504
  · subst h504; decide
  by_cases h505 : s = 505
  · subst h505; decide
  rw [reaB_other s h200 h304 h400 h413 h431 h500 h501 h502 h503 h504 h505]; decide

set_option maxHeartbeats 4000000 in
set_option maxRecDepth 100000 in
theorem reason8_any (s : Int) (w : World) :
    Calls Tryz.prog 31 #[.int .i64 s] w fun e w' => e = .returned (.string (mkS (reaB s))) ∧ w = w' := by
  by_cases h200 : s = 200
  · subst h200
    go_enter Tryz.func31, Tryz.ntmps31
    go_wp2_with fail
    go_ret
    exact ⟨rfl, rfl⟩
  have b200 : (s == 200) = false := by simp [h200]
  by_cases h304 : s = 304
  · subst h304
    clear h200
    clear b200
    go_enter Tryz.func31, Tryz.ntmps31
    go_wp2_with fail
    go_ret
    exact ⟨rfl, rfl⟩
  have b304 : (s == 304) = false := by simp [h304]
  by_cases h400 : s = 400
  · subst h400
    clear h200 h304
    clear b200 b304
    go_enter Tryz.func31, Tryz.ntmps31
    go_wp2_with fail
    go_ret
    exact ⟨rfl, rfl⟩
  have b400 : (s == 400) = false := by simp [h400]
  by_cases h413 : s = 413
  · subst h413
    clear h200 h304 h400
    clear b200 b304 b400
    go_enter Tryz.func31, Tryz.ntmps31
    go_wp2_with fail
    go_ret
    exact ⟨rfl, rfl⟩
  have b413 : (s == 413) = false := by simp [h413]
  by_cases h431 : s = 431
  · subst h431
    clear h200 h304 h400 h413
    clear b200 b304 b400 b413
    go_enter Tryz.func31, Tryz.ntmps31
    go_wp2_with fail
    go_ret
    exact ⟨rfl, rfl⟩
  have b431 : (s == 431) = false := by simp [h431]
  by_cases h500 : s = 500
  · subst h500
    clear h200 h304 h400 h413 h431
    clear b200 b304 b400 b413 b431
    go_enter Tryz.func31, Tryz.ntmps31
    go_wp2_with fail
    go_ret
    exact ⟨rfl, rfl⟩
  have b500 : (s == 500) = false := by simp [h500]
  by_cases h501 : s = 501
  · subst h501
    clear h200 h304 h400 h413 h431 h500
    clear b200 b304 b400 b413 b431 b500
    go_enter Tryz.func31, Tryz.ntmps31
    go_wp2_with fail
    go_ret
    exact ⟨rfl, rfl⟩
  have b501 : (s == 501) = false := by simp [h501]
  by_cases h502 : s = 502
  · subst h502
    clear h200 h304 h400 h413 h431 h500 h501
    clear b200 b304 b400 b413 b431 b500 b501
    go_enter Tryz.func31, Tryz.ntmps31
    go_wp2_with fail
    go_ret
    exact ⟨rfl, rfl⟩
  have b502 : (s == 502) = false := by simp [h502]
  by_cases h503 : s = 503
  · subst h503
    clear h200 h304 h400 h413 h431 h500 h501 h502
    clear b200 b304 b400 b413 b431 b500 b501 b502
    go_enter Tryz.func31, Tryz.ntmps31
    go_wp2_with fail
    go_ret
    exact ⟨rfl, rfl⟩
  have b503 : (s == 503) = false := by simp [h503]
  by_cases h504 : s = 504
  · subst h504
    clear h200 h304 h400 h413 h431 h500 h501 h502 h503
    clear b200 b304 b400 b413 b431 b500 b501 b502 b503
    go_enter Tryz.func31, Tryz.ntmps31
    go_wp2_with fail
    go_ret
    exact ⟨rfl, rfl⟩
  have b504 : (s == 504) = false := by simp [h504]
  by_cases h505 : s = 505
  · subst h505
    clear h200 h304 h400 h413 h431 h500 h501 h502 h503 h504
    clear b200 b304 b400 b413 b431 b500 b501 b502 b503 b504
    go_enter Tryz.func31, Tryz.ntmps31
    go_wp2_with fail
    go_ret
    exact ⟨rfl, rfl⟩
  have b505 : (s == 505) = false := by simp [h505]
  have HE := Lib.hid (reaB_other s h200 h304 h400 h413 h431 h500 h501 h502 h503 h504 h505)
  rw [HE.out]
  clear HE h200 h304 h400 h413 h431 h500 h501 h502 h503 h504 h505
  go_enter Tryz.func31, Tryz.ntmps31
  go_wp2_with fail
  go_ret
  exact ⟨rfl, rfl⟩

set_option maxHeartbeats 4000000 in
set_option maxRecDepth 100000 in
theorem rreason8_any (s : Int) (w : World) :
    Calls Tryz.prog 32 #[.int .i64 s] w fun e w' => e = .returned (.string (mkS (reaB s))) ∧ w = w' := by
  by_cases h200 : s = 200
  · subst h200
    go_enter Tryz.func32, Tryz.ntmps32
    go_wp2_with fail
    go_ret
    exact ⟨rfl, rfl⟩
  have b200 : (s == 200) = false := by simp [h200]
  by_cases h304 : s = 304
  · subst h304
    clear h200
    clear b200
    go_enter Tryz.func32, Tryz.ntmps32
    go_wp2_with fail
    go_ret
    exact ⟨rfl, rfl⟩
  have b304 : (s == 304) = false := by simp [h304]
  by_cases h400 : s = 400
  · subst h400
    clear h200 h304
    clear b200 b304
    go_enter Tryz.func32, Tryz.ntmps32
    go_wp2_with fail
    go_ret
    exact ⟨rfl, rfl⟩
  have b400 : (s == 400) = false := by simp [h400]
  by_cases h413 : s = 413
  · subst h413
    clear h200 h304 h400
    clear b200 b304 b400
    go_enter Tryz.func32, Tryz.ntmps32
    go_wp2_with fail
    go_ret
    exact ⟨rfl, rfl⟩
  have b413 : (s == 413) = false := by simp [h413]
  by_cases h431 : s = 431
  · subst h431
    clear h200 h304 h400 h413
    clear b200 b304 b400 b413
    go_enter Tryz.func32, Tryz.ntmps32
    go_wp2_with fail
    go_ret
    exact ⟨rfl, rfl⟩
  have b431 : (s == 431) = false := by simp [h431]
  by_cases h500 : s = 500
  · subst h500
    clear h200 h304 h400 h413 h431
    clear b200 b304 b400 b413 b431
    go_enter Tryz.func32, Tryz.ntmps32
    go_wp2_with fail
    go_ret
    exact ⟨rfl, rfl⟩
  have b500 : (s == 500) = false := by simp [h500]
  by_cases h501 : s = 501
  · subst h501
    clear h200 h304 h400 h413 h431 h500
    clear b200 b304 b400 b413 b431 b500
    go_enter Tryz.func32, Tryz.ntmps32
    go_wp2_with fail
    go_ret
    exact ⟨rfl, rfl⟩
  have b501 : (s == 501) = false := by simp [h501]
  by_cases h502 : s = 502
  · subst h502
    clear h200 h304 h400 h413 h431 h500 h501
    clear b200 b304 b400 b413 b431 b500 b501
    go_enter Tryz.func32, Tryz.ntmps32
    go_wp2_with fail
    go_ret
    exact ⟨rfl, rfl⟩
  have b502 : (s == 502) = false := by simp [h502]
  by_cases h503 : s = 503
  · subst h503
    clear h200 h304 h400 h413 h431 h500 h501 h502
    clear b200 b304 b400 b413 b431 b500 b501 b502
    go_enter Tryz.func32, Tryz.ntmps32
    go_wp2_with fail
    go_ret
    exact ⟨rfl, rfl⟩
  have b503 : (s == 503) = false := by simp [h503]
  by_cases h504 : s = 504
  · subst h504
    clear h200 h304 h400 h413 h431 h500 h501 h502 h503
    clear b200 b304 b400 b413 b431 b500 b501 b502 b503
    go_enter Tryz.func32, Tryz.ntmps32
    go_wp2_with fail
    go_ret
    exact ⟨rfl, rfl⟩
  have b504 : (s == 504) = false := by simp [h504]
  by_cases h505 : s = 505
  · subst h505
    clear h200 h304 h400 h413 h431 h500 h501 h502 h503 h504
    clear b200 b304 b400 b413 b431 b500 b501 b502 b503 b504
    go_enter Tryz.func32, Tryz.ntmps32
    go_wp2_with fail
    go_ret
    exact ⟨rfl, rfl⟩
  have b505 : (s == 505) = false := by simp [h505]
  have HE := Lib.hid (reaB_other s h200 h304 h400 h413 h431 h500 h501 h502 h503 h504 h505)
  rw [HE.out]
  clear HE h200 h304 h400 h413 h431 h500 h501 h502 h503 h504 h505
  go_enter Tryz.func32, Tryz.ntmps32
  go_wp2_with fail
  go_ret
  exact ⟨rfl, rfl⟩

theorem results_one {P : Program} {fn : Func} {p : Tmp} {ty : TypeId} (h : fn.results = #[.cell p ty]) (tmps : Array Value) (w : World) (g : Nat) (t : TypeId) (cs : Array Value) (fr : Nat × Nat) (d : TypeDesc)
    (hp : tmps.getD p undef = .pointer (some ⟨g, 0, none⟩)) (hg : w.heap[g]? = some (.cells cs t fr))
    (hu : P.underlying ty = some d) (hd : (match d with | .struct _ | .array _ _ => true | _ => false) = true) (hi : (P.info? ty).map (·.size) = some cs.size) :
    (results fn tmps).run P w = .ok (.agg cs) w := by
  have hp' : tmps[p]?.getD undef = .pointer (some ⟨g, 0, none⟩) := by simpa using hp
  simp [results, h, hp', asAddr, run_loadVar_row w g t ty cs fr d hg hu hd hi]

def ctyB : Bs := [67, 111, 110, 116, 101, 110, 116, 45, 84, 121, 112, 101]
def txtB : Bs := [116, 101, 120, 116, 47, 112, 108, 97, 105, 110]
/-- what Plain says -/
def plaB (s : Int) : Bs := digI s ++ [32] ++ reaB s ++ [10]
def PlPost (s : Int) (w : World) (e : Ending) (w' : World) : Prop :=
  ∃ vf, e = .returned (.agg (msgC ⟨#[]⟩ ⟨#[]⟩ s (mkS (reaB s)) 1 vf (mkS (plaB s)) (.slice none 0 0))) ∧ IsFlds w' vf [(ctyB, txtB)] ∧ Below w.heap.size w w'
theorem flds_new1 (w : World) (a b : Bs) : IsFlds (w.alloc (Obj.cells #[.string (mkS a), .string (mkS b)] 32)) (.slice (some ⟨w.heap.size, 0, none⟩) 1 1) [(a, b)] := by
  refine ⟨_, 1, rfl, Nat.le_refl _, fun j t hj => ⟨w.heap.size, 0, rfl, ?_⟩⟩
  match j, hj with
  | 0, hj => cases hj; exact ⟨by rw [World.cell?_alloc_new]; rfl, by rw [World.cell?_alloc_new]; rfl⟩
theorem flds_row {w : World} {k n c : Nat} {l : List (Bs × Bs)} {g : Nat} {cs : Array Value} (h : IsFlds w (.slice (some ⟨k, 0, none⟩) n c) l) (hk : k ≠ g) : IsFlds (w.setRow g cs) (.slice (some ⟨k, 0, none⟩) n c) l := by
  have e : (w.setRow g cs).heap[k]? = w.heap[k]? := setRow_other _ _ _ _ hk
  obtain ⟨a, cap, hv, hl, hc⟩ := h
  refine ⟨a, cap, hv, hl, fun j f hj => ?_⟩
  obtain ⟨b, o, h1, h2, h3⟩ := hc j f hj
  have hb : b = k := by
    injection hv with e1
    rw [h1] at e1
    injection e1 with e1
    injection e1 with e1
    exact e1.symm
  subst hb
  refine ⟨b, o, h1, ?_, ?_⟩
  · simp only [World.cell?] at h2 ⊢; rw [e]; exact h2
  · simp only [World.cell?] at h3 ⊢; rw [e]; exact h3

set_option maxHeartbeats 8000000 in
set_option maxRecDepth 100000 in
theorem plain8_any (s : Int) (w : World) (hTn : TenH w) (h0 : -9223372036854775808 ≤ s) (h1 : s ≤ 9223372036854775807) :
    Calls Tryz.prog 34 #[.int .i64 s] w (PlPost s w) := by
  have hs1 : (w.alloc (.cells (msgC ⟨#[]⟩ ⟨#[]⟩ 0 ⟨#[]⟩ 0 (.slice none 0 0) ⟨#[]⟩ (.slice none 0 0)) 24)).heap.size = w.heap.size + 1 := by simp
  have HX := Lib.hid (Box.new w 24 (msgC ⟨#[]⟩ ⟨#[]⟩ 0 ⟨#[]⟩ 0 (.slice none 0 0) ⟨#[]⟩ (.slice none 0 0)))
  have hB0 := below_alloc w (.cells (msgC ⟨#[]⟩ ⟨#[]⟩ 0 ⟨#[]⟩ 0 (.slice none 0 0) ⟨#[]⟩ (.slice none 0 0)) 24)
  have HX2 := Lib.hid (HX.out.later (below_alloc _ (Obj.cells #[.string (mkS ctyB), .string (mkS txtB)] 32)))
  have HF2 := flds_new1 (w.alloc (.cells (msgC ⟨#[]⟩ ⟨#[]⟩ 0 ⟨#[]⟩ 0 (.slice none 0 0) ⟨#[]⟩ (.slice none 0 0)) 24)) ctyB txtB
  have HB2 := Lib.hid (hB0.alloc hB0.size (Obj.cells #[.string (mkS ctyB), .string (mkS txtB)] 32))
  rw [hs1] at HF2
  have HFl := Lib.hid HF2
  clear HF2
  have HRe := Lib.hid (fun W : World => reason8_any s W)
  have HIt : Hid (∀ W : World, TenH W → Calls Tryz.prog 61 #[.int .i64 s] W fun e w' => e = .returned (.string (mkS (digI s))) ∧ Below W.heap.size W w') := fun W hT => by
    refine (itoaG_any s W hT h0 h1).mono ?_
    rintro e w' ⟨rfl, hb⟩
    exact ⟨rfl, hb⟩
  have HTn := Lib.hid (fun (W : World) (hb : Below w.heap.size w W) => hTn.later hb)
  have hd := digI_len s h0 h1
  have hr := reaB_len s
  have hp : mkS (plaB s) = mkS (digI s) ++ ⟨#[32]⟩ ++ mkS (reaB s) ++ ⟨#[10]⟩ := by
    rw [show (⟨#[32]⟩ : ByteArray) = mkS [32] from rfl, show (⟨#[10]⟩ : ByteArray) = mkS [10] from rfl, mkS_append, mkS_append, mkS_append]
    rfl
  unfold PlPost
  rw [hp]
  have z1 : (mkS (digI s)).size ≤ 100 := by rw [size_mkS]; exact hd
  have z2 : (mkS (reaB s)).size ≤ 40 := by rw [size_mkS]; exact hr
  clear hp hd hr hB0 hTn h0 h1
  unfold msgC at *
  generalize mkS (digI s) = D at *
  generalize mkS (reaB s) = RR at *
  have g1 : (D ++ ⟨#[32]⟩ : ByteArray).size ≤ 101 := by rw [ByteArray.size_append]; show _ + 1 ≤ _; omega
  have g2 : (D ++ ⟨#[32]⟩ ++ RR : ByteArray).size ≤ 141 := by rw [ByteArray.size_append]; omega
  go_enter Tryz.func34, Tryz.ntmps34
  go_wp2_with fail
  refine (HRe.out _).mono ?_
  rintro e w1 ⟨rfl, rfl⟩
  go_wp2_with fail
  refine (HIt.out _ (HTn.out _ HB2.out)).mono ?_
  rintro e w2 ⟨rfl, hb⟩
  have HX3 := Lib.hid (HX2.out.later hb)
  have HF3 := Lib.hid (isFlds_below HFl.out hb)
  have HB3 := Lib.hid (HB2.out.trans (hb.mono HB2.out.size))
  clear hb HX HX2 HFl HB2
  go_wp2_with (refine wpList_store_row rfl 24 _ _ rfl w.heap.size 24 _ #[.string ⟨#[]⟩, .string ⟨#[]⟩, .int .i64 s, .string RR, .int .i64 1, .slice (some ⟨w.heap.size + 1, 0, none⟩) 1 1, .string (D ++ ⟨#[32]⟩ ++ RR ++ ⟨#[10]⟩), .slice none 0 0] rfl rfl HX3.out (by kernel_rfl) rfl (all_oneCell_toArray (List.all_eq_true.1 (by rfl))) ?_)
  refine bodyPost_ret (v := .agg #[.string ⟨#[]⟩, .string ⟨#[]⟩, .int .i64 s, .string RR, .int .i64 1, .slice (some ⟨w.heap.size + 1, 0, none⟩) 1 1, .string (D ++ ⟨#[32]⟩ ++ RR ++ ⟨#[10]⟩), .slice none 0 0]) ?_ rfl ⟨_, rfl, flds_row HF3.out (Nat.ne_of_gt (Nat.lt_succ_self _)), below_setRow HB3.out (Nat.le_refl _) _⟩
  exact results_one (g := w.heap.size) (t := 24) rfl _ _ _ (0, 0) _ rfl (Box.row HX3.out) Tryz.underlying24 rfl (by kernel_rfl)

set_option maxHeartbeats 8000000 in
set_option maxRecDepth 100000 in
theorem rplain8_any (s : Int) (w : World) (hTn : TenH w) (h0 : -9223372036854775808 ≤ s) (h1 : s ≤ 9223372036854775807) :
    Calls Tryz.prog 35 #[.int .i64 s] w (PlPost s w) := by
  have hs1 : (w.alloc (.cells (msgC ⟨#[]⟩ ⟨#[]⟩ 0 ⟨#[]⟩ 0 (.slice none 0 0) ⟨#[]⟩ (.slice none 0 0)) 24)).heap.size = w.heap.size + 1 := by simp
  have HX := Lib.hid (Box.new w 24 (msgC ⟨#[]⟩ ⟨#[]⟩ 0 ⟨#[]⟩ 0 (.slice none 0 0) ⟨#[]⟩ (.slice none 0 0)))
  have hB0 := below_alloc w (.cells (msgC ⟨#[]⟩ ⟨#[]⟩ 0 ⟨#[]⟩ 0 (.slice none 0 0) ⟨#[]⟩ (.slice none 0 0)) 24)
  have HX2 := Lib.hid (HX.out.later (below_alloc _ (Obj.cells #[.string (mkS ctyB), .string (mkS txtB)] 32)))
  have HF2 := flds_new1 (w.alloc (.cells (msgC ⟨#[]⟩ ⟨#[]⟩ 0 ⟨#[]⟩ 0 (.slice none 0 0) ⟨#[]⟩ (.slice none 0 0)) 24)) ctyB txtB
  have HB2 := Lib.hid (hB0.alloc hB0.size (Obj.cells #[.string (mkS ctyB), .string (mkS txtB)] 32))
  rw [hs1] at HF2
  have HFl := Lib.hid HF2
  clear HF2
  have HRe := Lib.hid (fun W : World => rreason8_any s W)
  have HIt : Hid (∀ W : World, TenH W → Calls Tryz.prog 66 #[.int .i64 s] W fun e w' => e = .returned (.string (mkS (digI s))) ∧ Below W.heap.size W w') := fun W hT => by
    refine (rdig_any s W h0 h1).mono ?_
    rintro e w' ⟨rfl, hb⟩
    exact ⟨rfl, hb ▸ Below.refl _ _⟩
  have HTn := Lib.hid (fun (W : World) (hb : Below w.heap.size w W) => hTn.later hb)
  have hd := digI_len s h0 h1
  have hr := reaB_len s
  have hp : mkS (plaB s) = mkS (digI s) ++ ⟨#[32]⟩ ++ mkS (reaB s) ++ ⟨#[10]⟩ := by
    rw [show (⟨#[32]⟩ : ByteArray) = mkS [32] from rfl, show (⟨#[10]⟩ : ByteArray) = mkS [10] from rfl, mkS_append, mkS_append, mkS_append]
    rfl
  unfold PlPost
  rw [hp]
  have z1 : (mkS (digI s)).size ≤ 100 := by rw [size_mkS]; exact hd
  have z2 : (mkS (reaB s)).size ≤ 40 := by rw [size_mkS]; exact hr
  clear hp hd hr hB0 hTn h0 h1
  unfold msgC at *
  generalize mkS (digI s) = D at *
  generalize mkS (reaB s) = RR at *
  have g1 : (D ++ ⟨#[32]⟩ : ByteArray).size ≤ 101 := by rw [ByteArray.size_append]; show _ + 1 ≤ _; omega
  have g2 : (D ++ ⟨#[32]⟩ ++ RR : ByteArray).size ≤ 141 := by rw [ByteArray.size_append]; omega
  go_enter Tryz.func35, Tryz.ntmps35
  go_wp2_with fail
  refine (HRe.out _).mono ?_
  rintro e w1 ⟨rfl, rfl⟩
  go_wp2_with fail
  refine (HIt.out _ (HTn.out _ HB2.out)).mono ?_
  rintro e w2 ⟨rfl, hb⟩
  have HX3 := Lib.hid (HX2.out.later hb)
  have HF3 := Lib.hid (isFlds_below HFl.out hb)
  have HB3 := Lib.hid (HB2.out.trans (hb.mono HB2.out.size))
  clear hb HX HX2 HFl HB2
  go_wp2_with fail
  refine (HRe.out _).mono ?_
  rintro e w3 ⟨rfl, rfl⟩
  go_wp2_with (refine wpList_store_row rfl 24 _ _ rfl w.heap.size 24 _ #[.string ⟨#[]⟩, .string ⟨#[]⟩, .int .i64 s, .string RR, .int .i64 1, .slice (some ⟨w.heap.size + 1, 0, none⟩) 1 1, .string (D ++ ⟨#[32]⟩ ++ RR ++ ⟨#[10]⟩), .slice none 0 0] rfl rfl HX3.out (by kernel_rfl) rfl (all_oneCell_toArray (List.all_eq_true.1 (by rfl))) ?_)
  refine bodyPost_ret (v := .agg #[.string ⟨#[]⟩, .string ⟨#[]⟩, .int .i64 s, .string RR, .int .i64 1, .slice (some ⟨w.heap.size + 1, 0, none⟩) 1 1, .string (D ++ ⟨#[32]⟩ ++ RR ++ ⟨#[10]⟩), .slice none 0 0]) ?_ rfl ⟨_, rfl, flds_row HF3.out (Nat.ne_of_gt (Nat.lt_succ_self _)), below_setRow HB3.out (Nat.le_refl _) _⟩
  exact results_one (g := w.heap.size) (t := 24) rfl _ _ _ (0, 0) _ rfl (Box.row HX3.out) Tryz.underlying24 rfl (by kernel_rfl)
end Tk
end Go.Proofs.YtdlbmfgajgefdaaGreatDoor
namespace Go.Proofs.YtdlbmfgajgefdaaGreatDoor
open Go.RowKit
namespace Tk

set_option maxHeartbeats 1000000 in
set_option maxRecDepth 100000 in
theorem rcut_any (s : ByteArray) (w : World) (hs : s.size ≤ 1099511627776) :
    Calls Tryz.prog 184 #[.string s] w fun e w' => e = .returned (.tuple #[.string (mkS (cutL 32 (bs s)).1), .string (mkS (cutL 32 (bs s)).2.1), .bool (cutL 32 (bs s)).2.2]) ∧ Below w.heap.size w w' := by
  go_enter Tryz.func184, Tryz.ntmps184
  go_wp2_with fail
  go_loop [5] (fun v => ∃ i : Nat, i ≤ s.size ∧ v = .int .i64 i ∧ Hid (∀ x ∈ (bs s).take i, x ≠ (32 : UInt8))) (fun v => s.size - (RowKit.intOf v).toNat)
  case atStart => exact ⟨0, Nat.zero_le _, rfl, fun x hx => by simp at hx⟩
  case round =>
    obtain ⟨i, hi, rfl, hI⟩ := hrel
    by_cases hlt : i < s.size
    · by_cases hc : s[i] = 32
      · have e1 : ((s[i].toNat : Int) == 32) = true := by rw [hc]; rfl
        have hsp : bs s = (bs s).take i ++ 32 :: (bs s).drop (i + 1) := by
          have := bs_drop s i hlt
          rw [hc] at this
          rw [← this, List.take_append_drop]
        have hcut : cutL 32 (bs s) = ((bs s).take i, (bs s).drop (i + 1), true) := by
          conv => lhs; rw [hsp]
          exact cutL_at 32 _ _ hI.out
        have a1 : s.extract 0 i = mkS ((bs s).take i) := by rw [extract_mkS]; simp
        have a2 : s.extract (i + 1) s.size = mkS ((bs s).drop (i + 1)) := by
          rw [extract_mkS, List.take_of_length_le (by rw [List.length_drop, length_bs]; exact Nat.le_refl _)]
        have HF := Lib.hid hcut
        have A1 := Lib.hid a1
        have A2 := Lib.hid a2
        have c1 : (0 : Int) ≤ ↑i := by omega
        have c2 : (↑i : Int) ≤ ↑s.size := by omega
        have c3 : (0 : Int) ≤ ↑i + 1 := by omega
        have c4 : (↑i + 1 : Int) ≤ ↑s.size := by omega
        have c5 : IntKind.i64.wrap (↑i + 1) = ↑i + 1 := IntWalk.i64_in _ (by omega)
        have c6 : ((i : Int) + 1).toNat = i + 1 := by omega
        clear hcut a1 a2 hsp hc
        go_wp2_with fail
        go_quiet (fail)
        go_wp2
        go_ret3
        refine ⟨?_, bdraws w _⟩
        rw [HF.out]
        simp only [← A1.out, ← A2.out]
        first | rfl | simp
      · have e1 : ((s[i].toNat : Int) == 32) = false := by
          rw [beq_eq_false_iff_ne]
          intro e
          exact hc (UInt8.toNat_inj.1 (show s[i].toNat = 32 by omega))
        have hI2 : Hid (∀ x ∈ (bs s).take (i + 1), x ≠ (32 : UInt8)) := by
          intro x hx
          rw [take_snoc (bs s) i (by rw [length_bs]; exact hlt), getD_bs s i hlt, List.mem_append, List.mem_singleton] at hx
          rcases hx with hx | rfl
          · exact hI.out x hx
          · exact hc
        clear hc
        go_wp2_with fail
        exact ⟨⟨i + 1, by omega, by go_num, hI2⟩, by simp [RowKit.intOf]; omega⟩
    · have hcut : cutL 32 (bs s) = (bs s, [], false) := by
        refine cut_none 32 _ ?_
        have := hI.out
        rw [List.take_of_length_le (by rw [length_bs]; omega)] at this
        exact this
      have HF := Lib.hid hcut
      clear hcut
      go_wp2_with fail
      go_ret3
      exact ⟨by rw [HF.out, mkS_bs]; rfl, Below.refl _ _⟩

set_option maxHeartbeats 1000000 in
theorem rseen_any (s : ByteArray) (w : World) (hs : s.size ≤ 1099511627776) :
    Calls Tryz.prog 139 #[.string s] w fun e w' => e = .returned (.bool (someL vis (bs s))) ∧ w = w' := by
  have HV := Lib.hid (show someL vis (bs s) = (!(bs s).isEmpty && (bs s).all vis) from rfl)
  go_enter Tryz.func139, Tryz.ntmps139
  go_wp2_with fail
  go_loop [3] (fun v => ∃ i : Nat, i ≤ s.size ∧ v = .int .i64 i ∧ Hid ((bs s).all vis = ((bs s).drop i).all vis)) (fun v => s.size - (RowKit.intOf v).toNat)
  case atStart => exact ⟨0, Nat.zero_le _, rfl, rfl⟩
  case round =>
    obtain ⟨i, hi, rfl, hd⟩ := hrel
    by_cases hlt : i < s.size
    · have D := Lib.hid (bs_drop s i hlt)
      have hv : vis s[i] = (decide (33 ≤ s[i].toNat) && decide (s[i].toNat ≤ 126)) := rfl
      by_cases h0 : s[i].toNat < 33
      · have fin : someL vis (bs s) = false := by rw [HV.out, hd.out, D.out, List.all_cons, hv, decide_eq_false (by omega)]; simp
        have HF := Lib.hid fin
        clear fin hv
        go_wp2_with fail
        go_ret
        exact ⟨retB2 (by rw [HF.out]), rfl⟩
      · by_cases h1 : 126 < s[i].toNat
        · have fin : someL vis (bs s) = false := by rw [HV.out, hd.out, D.out, List.all_cons, hv, decide_eq_false (show ¬ s[i].toNat ≤ 126 by omega)]; simp
          have HF := Lib.hid fin
          clear fin hv
          go_wp2_with fail
          go_ret
          exact ⟨retB2 (by rw [HF.out]), rfl⟩
        · have nx : (bs s).all vis = ((bs s).drop (i + 1)).all vis := by
            rw [hd.out, D.out, List.all_cons, hv, decide_eq_true (show 33 ≤ s[i].toNat by omega), decide_eq_true (show s[i].toNat ≤ 126 by omega)]; rfl
          have HX := Lib.hid nx
          clear nx hv
          go_wp2_with fail
          exact ⟨⟨i + 1, by omega, by go_num, HX⟩, by simp [RowKit.intOf]; omega⟩
    · have ha : (bs s).all vis = true := by rw [hd.out, List.drop_eq_nil_of_le (by rw [length_bs]; omega)]; rfl
      cases he : (bs s).isEmpty
      · have he2 : s.toList.isEmpty = false := by rw [toList_bs]; exact he
        have HF := Lib.hid (show someL vis (bs s) = true by rw [HV.out, ha, he]; rfl)
        clear ha he
        go_wp2_with fail
        go_ret
        exact ⟨retB2 (by rw [HF.out] <;> first | rfl | simp), rfl⟩
      · have he2 : s.toList.isEmpty = true := by rw [toList_bs]; exact he
        have HF := Lib.hid (show someL vis (bs s) = false by rw [HV.out, he]; rfl)
        clear ha he
        go_wp2_with fail
        go_ret
        exact ⟨retB2 (by rw [HF.out] <;> first | rfl | simp), rfl⟩
end Tk
end Go.Proofs.YtdlbmfgajgefdaaGreatDoor
