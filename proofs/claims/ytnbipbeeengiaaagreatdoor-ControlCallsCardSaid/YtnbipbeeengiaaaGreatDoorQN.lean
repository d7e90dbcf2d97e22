/- RefSp RefL CtJ CtK, put together. -/
import Derived.Test.YtnbipbeeengiaaaGreatDoorQM
import Derived.Test.YtnbipbeeengiaaaGreatDoorQF
import Derived.Test.YtnbipbeeengiaaaGreatDoorQA
import Derived.Test.YtnbipbeeengiaaaGreatDoorQJ
import Derived.Laws.AppendOwnNone
import Derived.BigFrame
import Derived.Deep.RegionWith
import Derived.Deep.RegionHeld3
namespace Go.Proofs.YtnbipbeeengiaaaGreatDoor
open Go.RowKit
namespace Tk

def spQ (q : Bool) (l : Bs) (b i : Nat) : List Bs := parts (spl (if q then 1 else 0) ((l.take i).drop b) (l.drop i))
def rest (l : Bs) (b : Nat) : List Bs := if b < l.length then addP (trimL (l.drop b)) else []
theorem spQ_start (l : Bs) : splitL l = spQ false l 0 0 := by simp [spQ, splitL]
theorem spQ_end (q : Bool) (l : Bs) (b i : Nat) (h : l.length ≤ i) : spQ q l b i = addP (trimL (l.drop b)) := by
  unfold spQ
  rw [List.take_of_length_le h, List.drop_eq_nil_of_le h]
  cases q <;> simp [spl, parts_one]
theorem spQ_esc (l : Bs) (b i : Nat) (hi : i + 1 < l.length) (hb : b ≤ i) (hc : l.getD i 0 = 92) : spQ true l b i = spQ true l b (i + 1 + 1) := by
  unfold spQ
  rw [if_pos rfl, drop_cons l i (by omega), hc, spl, if_pos rfl, drop_cons l (i + 1) hi, spl, take_snoc l (i + 1) hi, take_snoc l i (by omega), List.append_assoc, List.append_assoc, List.drop_append_of_le_length (by rw [List.length_take]; omega), hc]
theorem spQ_last (l : Bs) (b i : Nat) (hi : i + 1 = l.length) (hb : b ≤ i) (hc : l.getD i 0 = 92) : spQ true l b i = addP (trimL (l.drop b)) := by
  unfold spQ
  have e : l.drop b = (l.take i).drop b ++ [92] := by
    have h1 : l.take (i + 1) = l := List.take_of_length_le (by omega)
    rw [take_snoc l i (by omega), hc] at h1
    rw [← List.drop_append_of_le_length (by rw [List.length_take]; omega), h1]
  have e2 : l.drop (i + 1) = [] := List.drop_eq_nil_of_le (by omega)
  have e3 : ∀ c : Bs, spl 2 c [] = [c] := fun c => by simp [spl]
  rw [if_pos rfl, drop_cons l i (by omega), hc, spl, if_pos rfl, e2, e3, parts_one, e]
theorem spQ_close (l : Bs) (b i : Nat) (hi : i < l.length) (hb : b ≤ i) (hc : l.getD i 0 = 34) : spQ true l b i = spQ false l b (i + 1) := by
  unfold spQ
  rw [if_pos rfl, if_neg (by decide), drop_cons l i hi, hc, spl, if_neg (by decide), if_pos rfl, take_snoc l i hi, List.drop_append_of_le_length (by rw [List.length_take]; omega), hc]
theorem spQ_in (l : Bs) (b i : Nat) (hi : i < l.length) (hb : b ≤ i) (h1 : l.getD i 0 ≠ 92) (h2 : l.getD i 0 ≠ 34) : spQ true l b i = spQ true l b (i + 1) := by
  unfold spQ
  rw [if_pos rfl, drop_cons l i hi, spl, if_neg h1, if_neg h2, take_snoc l i hi, List.drop_append_of_le_length (by rw [List.length_take]; omega)]
theorem spQ_open (l : Bs) (b i : Nat) (hi : i < l.length) (hb : b ≤ i) (hc : l.getD i 0 = 34) : spQ false l b i = spQ true l b (i + 1) := by
  unfold spQ
  rw [if_neg (by decide), if_pos rfl, drop_cons l i hi, hc, spl, if_neg (by decide), if_pos rfl, take_snoc l i hi, List.drop_append_of_le_length (by rw [List.length_take]; omega), hc]
theorem spQ_out (l : Bs) (b i : Nat) (hi : i < l.length) (hb : b ≤ i) (h1 : l.getD i 0 ≠ 44) (h2 : l.getD i 0 ≠ 34) : spQ false l b i = spQ false l b (i + 1) := by
  unfold spQ
  rw [if_neg (by decide), drop_cons l i hi, spl, if_neg h1, if_neg h2, take_snoc l i hi, List.drop_append_of_le_length (by rw [List.length_take]; omega)]
theorem spQ_comma (l : Bs) (b i : Nat) (hi : i < l.length) (hc : l.getD i 0 = 44) : spQ false l b i = addP (trimL ((l.drop b).take (i - b))) ++ spQ false l (i + 1) (i + 1) := by
  unfold spQ
  rw [if_neg (by decide), drop_cons l i hi, hc, spl, if_pos rfl, parts_cons, List.drop_take, List.drop_take, Nat.sub_self, List.take_zero]
theorem rest_past (l : Bs) (b : Nat) (h : l.length ≤ b) : rest l b = [] := by unfold rest; rw [if_neg (by omega)]
theorem rest_left (l : Bs) (b : Nat) (h : b < l.length) : rest l b = addP (trimL (l.drop b)) := by unfold rest; rw [if_pos h]
theorem u8_eqb (c : UInt8) (n : Nat) (hn : n < 256) (h : ((c.toNat : Int) == n) = true) : c = UInt8.ofNat n := u8_is c n hn h

set_option maxHeartbeats 16000000 in
set_option maxRecDepth 100000 in
theorem rSplit_any (s : ByteArray) (w : World) (hs : s.size ≤ 1099511627776) :
    Calls Tryz.prog 63 #[.string s] w (ListPost w.heap.size (splitL (bs s)) w) := by
  obtain ⟨i0, hi0, hz0, hz1, hz2⟩ := info_parts strInfo
  have HL := Lib.hid (length_bs s)
  go_enter Tryz.func63, Tryz.ntmps63
  go_wp2_with fail
  go_loopw [3, 4, 5, 6] (fun v vb vq vi wr => ∃ (i b : Nat) (q : Bool) (P : List Bs), i ≤ s.size + 1 ∧ b ≤ s.size + 1 ∧ P.length ≤ i ∧ vi = .int .i64 i ∧ vb = .int .i64 b ∧ vq = .bool q ∧ Hid (wr.ownsRow w.heap.size 9 1 v P.length (strs P)) ∧ Hid (Below w.heap.size w wr) ∧ Hid ((b ≤ i ∧ i ≤ s.size ∧ splitL (bs s) = P ++ spQ q (bs s) b i) ∨ (i = s.size + 1 ∧ splitL (bs s) = P ++ rest (bs s) b))) (fun _ _ _ vi _ => s.size + 2 - (RowKit.intOf vi).toNat)
  case atStart => exact ⟨0, 0, false, [], by omega, by omega, by simp, rfl, rfl, rfl, World.ownsRow_nil _ _ _ _, Below.refl _ _, .inl ⟨by omega, by omega, spQ_start _⟩⟩
  case round =>
    obtain ⟨i, b, q, P, hi, hb0, hP, rfl, rfl, rfl, HO, HB, HS⟩ := hrel
    rename World => W
    rename Value => v
    by_cases hle : i ≤ s.size
    · obtain ⟨hb, -, hsp⟩ : b ≤ i ∧ i ≤ s.size ∧ splitL (bs s) = P ++ spQ q (bs s) b i := by
        rcases HS.out with h | h
        · exact h
        · omega
      have HS2 := Lib.hid hsp
      clear hsp HS
      by_cases hlt : i < s.size
      · have hgd := getD_bs s i hlt
        have HG := Lib.hid hgd
        clear hgd
        have hll : i < (bs s).length := by rw [HL.out]; exact hlt
        have HLL := Lib.hid hll
        clear hll
        cases q
        · by_cases h34 : ((s[i].toNat : Int) == 34) = true
          · have e := HG.out.trans (u8_is s[i] 34 (by omega) h34)
            have h44 : ((s[i].toNat : Int) == 44) = false := by rw [eq_of_beq h34]; rfl
            have H2 : Hid (splitL (bs s) = P ++ spQ true (bs s) b (i + 1)) := by
              show _ = _
              rw [HS2.out, spQ_open (bs s) b i HLL.out hb e]
            clear e HS2
            go_wp2_with fail
            go_roundw
            case rel => exact ⟨i + 1, b, true, P, by omega, by omega, by omega, by go_num, rfl, rfl, HO, HB, .inl ⟨by omega, by omega, H2.out⟩⟩
            case measure => simp [RowKit.intOf] <;> omega
          · have h34 : ((s[i].toNat : Int) == 34) = false := by simpa using h34
            have n34 : (bs s).getD i 0 ≠ 34 := fun h => u8_not s[i] 34 h34 (by omega) (HG.out.symm.trans h)
            by_cases h44 : ((s[i].toNat : Int) == 44) = true
            · have e := HG.out.trans (u8_is s[i] 44 (by omega) h44)
              have H2 : Hid (splitL (bs s) = P ++ (addP (trimL (bs (s.extract b i))) ++ spQ false (bs s) (i + 1) (i + 1))) := by
                show _ = _
                rw [HS2.out, spQ_comma (bs s) b i HLL.out e, bs_extract]
              have HT := Lib.hid (fun W => rTrim_any (s.extract b i) W (by rw [← length_bs, bs_extract, List.length_take]; omega))
              generalize trimL (bs (s.extract b i)) = t at *
              clear e HS2 n34
              by_cases he : t = []
              · subst he
                have hne : (mkS []).toList.isEmpty = true := by rw [toList_bs]; rfl
                have H3 : Hid (splitL (bs s) = P ++ spQ false (bs s) (i + 1) (i + 1)) := by
                  show _ = _
                  rw [H2.out]; simp [addP]
                clear H2
                go_wp2_with fail
                rw [show (min (i : Int) (s.size : Int)).toNat = i by omega]
                refine (HT.out _).mono ?_
                rintro e w' ⟨rfl, rfl⟩
                go_wp2_with fail
                go_roundw
                case rel => exact ⟨i + 1, i + 1, false, P, by omega, by omega, by first | omega | (rw [List.length_append]; simp; omega), by go_num, by go_num, rfl, HO, HB, .inl ⟨by omega, by omega, H3.out⟩⟩
                case measure => simp [RowKit.intOf] <;> omega
              · have hne : (mkS t).toList.isEmpty = false := by rw [toList_bs, bs_mkS]; simpa using he
                have H3 : Hid (splitL (bs s) = (P ++ [t]) ++ spQ false (bs s) (i + 1) (i + 1)) := by
                  show _ = _
                  rw [H2.out]; simp [addP, he]
                clear H2
                go_wp2_with fail
                rw [show (min (i : Int) (s.size : Int)).toNat = i by omega]
                refine (HT.out _).mono ?_
                rintro e w' ⟨rfl, rfl⟩
                have hown' := HO.out
                have hB' := HB.out.size
                go_wp2_with (at_builtin; refine wpList_append_own _ rfl _ _ 26 rfl w.heap.size 9 i0 (.string .empty) 1 16 Tryz.underlying26 hi0 hz0 hz1 hz2 rfl (by decide) _ _ _ rfl (hown'.alloc _) ⟨W.heap.size, 0, none⟩ 1 1 [.string (mkS t)] rfl rfl ?c1 ?c2 ?c3 ?c4 ?c5 ?_)
                case c1 => exact cell_one_new _ _ _
                case c2 => simp [Value.oneCell']
                case c3 => unfold maxLen; omega
                case c4 => omega
                case c5 => simp; omega
                intro v' w1 hown1 hg1 _
                have hb1 : Below w.heap.size w w1 := HB.out.trans (((Below.refl w.heap.size W).alloc hB' _).trans (below_of_grown hg1 (hown'.alloc _) (by simp; omega)))
                have HB1 := Lib.hid hb1
                have ho1 : w1.ownsRow w.heap.size 9 1 v' (P ++ [t]).length (strs (P ++ [t])) := by rw [List.length_append, strs_append]; exact hown1
                have HO1 := Lib.hid ho1
                clear hb1 hown1 hg1 hown' hB' ho1
                go_wp2_with fail
                go_roundw
                case rel => exact ⟨i + 1, i + 1, false, P ++ [t], by omega, by omega, by first | omega | (rw [List.length_append]; simp; omega), by go_num, by go_num, rfl, HO1, HB1, .inl ⟨by omega, by omega, H3.out⟩⟩
                case measure => simp [RowKit.intOf] <;> omega
            · have h44 : ((s[i].toNat : Int) == 44) = false := by simpa using h44
              have n44 : (bs s).getD i 0 ≠ 44 := fun h => u8_not s[i] 44 h44 (by omega) (HG.out.symm.trans h)
              have H2 : Hid (splitL (bs s) = P ++ spQ false (bs s) b (i + 1)) := by
                show _ = _
                rw [HS2.out, spQ_out (bs s) b i HLL.out hb n44 n34]
              clear n34 n44 HS2
              go_wp2_with fail
              go_roundw
              case rel => exact ⟨i + 1, b, false, P, by omega, by omega, by omega, by go_num, rfl, rfl, HO, HB, .inl ⟨by omega, by omega, H2.out⟩⟩
              case measure => simp [RowKit.intOf] <;> omega
        · by_cases h92 : ((s[i].toNat : Int) == 92) = true
          · have e := HG.out.trans (u8_is s[i] 92 (by omega) h92)
            by_cases hl : i + 1 < s.size
            · have H2 : Hid (splitL (bs s) = P ++ spQ true (bs s) b (i + 1 + 1)) := by
                show _ = _
                rw [HS2.out, spQ_esc (bs s) b i (by rw [HL.out]; exact hl) hb e]
              clear e HS2
              go_wp2_with fail
              go_roundw
              case rel => exact ⟨i + 1 + 1, b, true, P, by omega, by omega, by omega, by go_num, rfl, rfl, HO, HB, .inl ⟨by omega, by omega, H2.out⟩⟩
              case measure => simp [RowKit.intOf] <;> omega
            · have H2 : Hid (splitL (bs s) = P ++ rest (bs s) b) := by
                show _ = _
                rw [HS2.out, spQ_last (bs s) b i (by rw [HL.out]; omega) hb e, rest_left (bs s) b (by rw [HL.out]; omega)]
              clear e HS2
              go_wp2_with fail
              go_roundw
              case rel => exact ⟨i + 1 + 1, b, true, P, by omega, by omega, by omega, by go_num, rfl, rfl, HO, HB, .inr ⟨by omega, H2.out⟩⟩
              case measure => simp [RowKit.intOf] <;> omega
          · have h92 : ((s[i].toNat : Int) == 92) = false := by simpa using h92
            have n92 : (bs s).getD i 0 ≠ 92 := fun h => u8_not s[i] 92 h92 (by omega) (HG.out.symm.trans h)
            by_cases h34 : ((s[i].toNat : Int) == 34) = true
            · have e := HG.out.trans (u8_is s[i] 34 (by omega) h34)
              have h44 : ((s[i].toNat : Int) == 44) = false := by rw [eq_of_beq h34]; rfl
              have H2 : Hid (splitL (bs s) = P ++ spQ false (bs s) b (i + 1)) := by
                show _ = _
                rw [HS2.out, spQ_close (bs s) b i HLL.out hb e]
              clear e HS2 n92
              go_wp2_with fail
              go_roundw
              case rel => exact ⟨i + 1, b, false, P, by omega, by omega, by omega, by go_num, rfl, rfl, HO, HB, .inl ⟨by omega, by omega, H2.out⟩⟩
              case measure => simp [RowKit.intOf] <;> omega
            · have h34 : ((s[i].toNat : Int) == 34) = false := by simpa using h34
              have n34 : (bs s).getD i 0 ≠ 34 := fun h => u8_not s[i] 34 h34 (by omega) (HG.out.symm.trans h)
              have H2 : Hid (splitL (bs s) = P ++ spQ true (bs s) b (i + 1)) := by
                show _ = _
                rw [HS2.out, spQ_in (bs s) b i HLL.out hb n92 n34]
              clear n34 n92 HS2
              go_wp2_with fail
              go_roundw
              case rel => exact ⟨i + 1, b, true, P, by omega, by omega, by omega, by go_num, rfl, rfl, HO, HB, .inl ⟨by omega, by omega, H2.out⟩⟩
              case measure => simp [RowKit.intOf] <;> omega
      · have hie : i = s.size := by omega
        subst hie
        have H2 : Hid (splitL (bs s) = P ++ (addP (trimL (bs (s.extract b s.size))) ++ rest (bs s) (s.size + 1))) := by
          show _ = _
          rw [HS2.out, spQ_end q (bs s) b s.size (by rw [HL.out]; exact Nat.le_refl _), rest_past (bs s) (s.size + 1) (by rw [HL.out]; omega), bs_extract, List.take_of_length_le (by rw [List.length_drop, HL.out]; exact Nat.le_refl _), List.append_nil]
        have HT := Lib.hid (fun W => rTrim_any (s.extract b s.size) W (by rw [← length_bs, bs_extract, List.length_take]; omega))
        generalize trimL (bs (s.extract b s.size)) = t at *
        clear HS2
        by_cases he : t = []
        · subst he
          have hne : (mkS []).toList.isEmpty = true := by rw [toList_bs]; rfl
          have H3 : Hid (splitL (bs s) = P ++ rest (bs s) (s.size + 1)) := by
            show _ = _
            rw [H2.out]; simp [addP]
          clear H2
          go_wp2_with fail
          try rw [show (min (s.size : Int) (s.size : Int)).toNat = s.size by omega]
          refine (HT.out _).mono ?_
          rintro e w' ⟨rfl, rfl⟩
          go_wp2_with fail
          go_roundw
          case rel => exact ⟨s.size + 1, s.size + 1, q, P, by omega, by omega, by first | omega | (rw [List.length_append]; simp; omega), by go_num, by go_num, rfl, HO, HB, .inr ⟨by omega, H3.out⟩⟩
          case measure => simp [RowKit.intOf] <;> omega
        · have hne : (mkS t).toList.isEmpty = false := by rw [toList_bs, bs_mkS]; simpa using he
          have H3 : Hid (splitL (bs s) = (P ++ [t]) ++ rest (bs s) (s.size + 1)) := by
            show _ = _
            rw [H2.out]; simp [addP, he]
          clear H2
          go_wp2_with fail
          try rw [show (min (s.size : Int) (s.size : Int)).toNat = s.size by omega]
          refine (HT.out _).mono ?_
          rintro e w' ⟨rfl, rfl⟩
          have hown' := HO.out
          have hB' := HB.out.size
          go_wp2_with (at_builtin; refine wpList_append_own _ rfl _ _ 26 rfl w.heap.size 9 i0 (.string .empty) 1 16 Tryz.underlying26 hi0 hz0 hz1 hz2 rfl (by decide) _ _ _ rfl (hown'.alloc _) ⟨W.heap.size, 0, none⟩ 1 1 [.string (mkS t)] rfl rfl ?c1 ?c2 ?c3 ?c4 ?c5 ?_)
          case c1 => exact cell_one_new _ _ _
          case c2 => simp [Value.oneCell']
          case c3 => unfold maxLen; omega
          case c4 => omega
          case c5 => simp; omega
          intro v' w1 hown1 hg1 _
          have hb1 : Below w.heap.size w w1 := HB.out.trans (((Below.refl w.heap.size W).alloc hB' _).trans (below_of_grown hg1 (hown'.alloc _) (by simp; omega)))
          have HB1 := Lib.hid hb1
          have ho1 : w1.ownsRow w.heap.size 9 1 v' (P ++ [t]).length (strs (P ++ [t])) := by rw [List.length_append, strs_append]; exact hown1
          have HO1 := Lib.hid ho1
          clear hb1 hown1 hg1 hown' hB' ho1
          go_wp2_with fail
          go_roundw
          case rel => exact ⟨s.size + 1, s.size + 1, q, P ++ [t], by omega, by omega, by first | omega | (rw [List.length_append]; simp; omega), by go_num, by go_num, rfl, HO1, HB1, .inr ⟨by omega, H3.out⟩⟩
          case measure => simp [RowKit.intOf] <;> omega
    · have hie : i = s.size + 1 := by omega
      subst hie
      have hsp : splitL (bs s) = P ++ rest (bs s) b := by
        rcases HS.out with h | h
        · omega
        · exact h.2
      have HS2 := Lib.hid hsp
      clear hsp HS
      by_cases hb : b < s.size
      · have H2 : Hid (splitL (bs s) = P ++ (addP (trimL (bs (s.extract b s.size))) ++ [])) := by
          show _ = _
          rw [HS2.out, rest_left (bs s) b (by rw [HL.out]; exact hb), bs_extract, List.take_of_length_le (by rw [List.length_drop, HL.out]; exact Nat.le_refl _), List.append_nil]
        have HT := Lib.hid (fun W => rTrim_any (s.extract b s.size) W (by rw [← length_bs, bs_extract, List.length_take]; omega))
        generalize trimL (bs (s.extract b s.size)) = t at *
        clear HS2
        by_cases he : t = []
        · subst he
          have hne : (mkS []).toList.isEmpty = true := by rw [toList_bs]; rfl
          have H3 : Hid (splitL (bs s) = P) := by
            show _ = _
            rw [H2.out]; simp [addP]
          clear H2
          go_wp2_with fail
          skip
          refine (HT.out _).mono ?_
          rintro e w' ⟨rfl, rfl⟩
          go_wp2_with fail
          go_ret
          refine ⟨_, rfl, ?_, HB.out⟩
          rw [H3.out]
          exact HO.out
        · have hne : (mkS t).toList.isEmpty = false := by rw [toList_bs, bs_mkS]; simpa using he
          have H3 : Hid (splitL (bs s) = (P ++ [t])) := by
            show _ = _
            rw [H2.out]; simp [addP, he]
          clear H2
          go_wp2_with fail
          skip
          refine (HT.out _).mono ?_
          rintro e w' ⟨rfl, rfl⟩
          have hown' := HO.out
          have hB' := HB.out.size
          go_wp2_with (at_builtin; refine wpList_append_own _ rfl _ _ 26 rfl w.heap.size 9 i0 (.string .empty) 1 16 Tryz.underlying26 hi0 hz0 hz1 hz2 rfl (by decide) _ _ _ rfl (hown'.alloc _) ⟨W.heap.size, 0, none⟩ 1 1 [.string (mkS t)] rfl rfl ?c1 ?c2 ?c3 ?c4 ?c5 ?_)
          case c1 => exact cell_one_new _ _ _
          case c2 => simp [Value.oneCell']
          case c3 => unfold maxLen; omega
          case c4 => omega
          case c5 => simp; omega
          intro v' w1 hown1 hg1 _
          have hb1 : Below w.heap.size w w1 := HB.out.trans (((Below.refl w.heap.size W).alloc hB' _).trans (below_of_grown hg1 (hown'.alloc _) (by simp; omega)))
          have HB1 := Lib.hid hb1
          have ho1 : w1.ownsRow w.heap.size 9 1 v' (P ++ [t]).length (strs (P ++ [t])) := by rw [List.length_append, strs_append]; exact hown1
          have HO1 := Lib.hid ho1
          clear hb1 hown1 hg1 hown' hB' ho1
          go_wp2_with fail
          go_ret
          refine ⟨_, rfl, ?_, HB1.out⟩
          rw [H3.out]
          exact HO1.out
      · have H2 : Hid (splitL (bs s) = P) := by
          show _ = _
          rw [HS2.out, rest_past (bs s) b (by rw [HL.out]; omega), List.append_nil]
        clear HS2
        go_wp2_with fail
        go_ret
        refine ⟨_, rfl, ?_, HB.out⟩
        rw [H2.out]
        exact HO.out
end Tk
end Go.Proofs.YtnbipbeeengiaaaGreatDoor
namespace Go.Proofs.YtnbipbeeengiaaaGreatDoor
open Go.RowKit
namespace Tk

/-- the byte at place t when the first i are in small letters -/
def mixR (l : Bs) (i t : Nat) : UInt8 := if t < i then lowB (l.getD t 0) else l.getD t 0
theorem bytesRow_atR (s : ByteArray) (cap t : Nat) (h : t < s.size) : (bytesRow s cap)[t]? = some (.int .u8 (((bs s).getD t 0).toNat : Int)) := by
  unfold bytesRow
  rw [Array.getElem?_append_left (by simpa using h), Array.getElem?_map]
  have e : (bs s).getD t 0 = s.data[t]'h := by rw [getD_bs s t h]; rfl
  rw [e, Array.getElem?_eq_getElem h]; rfl
theorem lowB_add (c : UInt8) (h0 : 65 ≤ c.toNat) (h1 : c.toNat ≤ 90) : ((lowB c).toNat : Int) = (c.toNat : Int) + 32 := by
  have := lowB_up c h0 h1; omega

set_option maxRecDepth 100000 in
set_option maxHeartbeats 4000000 in
theorem refLower_any (s : ByteArray) (w : World) (hs : s.size ≤ 1099511627776) :
    Calls Tryz.prog 64 #[.string s] w (StrPost (lowL (bs s)) w) := by
  have HL := Lib.hid (length_bs s)
  have hconv := run_bytes_of_string (P := Tryz.prog) w 9 82 5 s Tryz.underlying9 Tryz.underlying82 Tryz.underlying5
  have hC : ∀ t, t < s.size → (bytesRow s (grownCap w s.size 0 5))[t]? = some (.int .u8 (((bs s).getD t 0).toNat : Int)) := fun t h => bytesRow_atR s _ t h
  generalize bytesRow s (grownCap w s.size 0 5) = C at *
  generalize grownCap w s.size 0 5 = cap at *
  have HC := Lib.hid hC
  clear hC
  go_enter Tryz.func64, Tryz.ntmps64
  go_wp2_with fail
  go_loopw [4] (fun vi wr => ∃ i : Nat, i ≤ s.size ∧ vi = .int .i64 i ∧ Hid (∀ t, t < s.size → wr.cell? ⟨w.heap.size, t, none⟩ = some (.int .u8 ((mixR (bs s) i t).toNat : Int)) ∧ wr.frozen? ⟨w.heap.size, t, none⟩ = false) ∧ Hid (Below w.heap.size w wr)) (fun vi _ => s.size - (RowKit.intOf vi).toNat)
  case atStart =>
    refine ⟨0, Nat.zero_le _, rfl, ?_, ?_⟩
    · intro t ht
      have h1 : ((w.alloc (.cells C 5 (C.size, C.size + 1))).drew).cell? ⟨w.heap.size, t, none⟩ = C[t]? := World.cell?_alloc_mark w C 5 _ t
      have hlt : t < C.size := by
        refine Nat.lt_of_not_le fun hle => ?_
        have := HC.out t ht
        rw [Array.getElem?_eq_none hle] at this
        cases this
      have h2 : ((w.alloc (.cells C 5 (C.size, C.size + 1))).drew).frozen? ⟨w.heap.size, t, none⟩ = _ := World.frozen?_alloc_mark w C 5 _ _ t
      refine ⟨by rw [h1, HC.out t ht]; rfl, ?_⟩
      rw [h2]
      simp; omega
    · exact ((Below.refl _ _).alloc (Nat.le_refl _) _).drew
  case round =>
    obtain ⟨i, hi, rfl, HM, HB⟩ := hrel
    rename World => W
    by_cases hlt : i < s.size
    · obtain ⟨hc, hf⟩ := HM.out i hlt
      have e : mixR (bs s) i i = (bs s).getD i 0 := by unfold mixR; rw [if_neg (by omega)]
      rw [e] at hc
      have nx : ∀ W' : World, (∀ t, t < s.size → t ≠ i → W'.cell? ⟨w.heap.size, t, none⟩ = W.cell? ⟨w.heap.size, t, none⟩) → W'.cell? ⟨w.heap.size, i, none⟩ = some (.int .u8 ((lowB ((bs s).getD i 0)).toNat : Int)) → (∀ t, W'.frozen? ⟨w.heap.size, t, none⟩ = W.frozen? ⟨w.heap.size, t, none⟩) →
          Hid (∀ t, t < s.size → W'.cell? ⟨w.heap.size, t, none⟩ = some (.int .u8 ((mixR (bs s) (i + 1) t).toNat : Int)) ∧ W'.frozen? ⟨w.heap.size, t, none⟩ = false) := by
        intro W' h1 h2 h3 t ht
        obtain ⟨g1, g2⟩ := HM.out t ht
        refine ⟨?_, by rw [h3]; exact g2⟩
        by_cases hti : t = i
        · subst hti
          rw [h2]
          unfold mixR; rw [if_pos (by omega)]
        · rw [h1 t ht hti, g1]
          have : mixR (bs s) i t = mixR (bs s) (i + 1) t := by
            unfold mixR
            by_cases h3 : t < i
            · rw [if_pos h3, if_pos (by omega)]
            · rw [if_neg h3, if_neg (by omega)]
          rw [this]
      have NX := Lib.hid nx
      clear nx e
      generalize (bs s).getD i 0 = c at *
      have hcl := c.toNat_lt
      by_cases h0 : 65 ≤ c.toNat ∧ c.toNat ≤ 90
      · have up := lowB_add c h0.1 h0.2
        have UP := Lib.hid up
        have k0 : (65 : Int) ≤ (c.toNat : Int) := by omega
        have k1 : (c.toNat : Int) ≤ 90 := by omega
        clear up h0
        go_wp2_with fail
        have hcell := hc
        refine ⟨⟨i + 1, by omega, by go_num, NX.out _ (fun t ht hti => World.cell?_setCell_other W ⟨w.heap.size, i, none⟩ ⟨w.heap.size, t, none⟩ _ (by intro e; injection e with _ e2; exact hti e2.symm)) (by rw [World.cell?_setCell_same _ _ _ hcell, UP.out]) (fun t => World.frozen?_setCell _ _ _ _), ?_⟩, by simp [RowKit.intOf]; omega⟩
        exact HB.out.setCell (p := ⟨w.heap.size, i, none⟩) (Nat.le_refl _) _
      · have hsame := lowB_same c h0
        have HS := Lib.hid hsame
        clear hsame
        by_cases h65 : 65 ≤ c.toNat
        · have k0 : (65 : Int) ≤ (c.toNat : Int) := by omega
          have k1 : ¬ (c.toNat : Int) ≤ 90 := by omega
          clear h0
          go_wp2_with fail
          exact ⟨⟨i + 1, by omega, by go_num, NX.out _ (fun _ _ _ => rfl) (by rw [HS.out]; exact hc) (fun _ => rfl), HB⟩, by simp [RowKit.intOf]; omega⟩
        · have k0 : ¬ (65 : Int) ≤ (c.toNat : Int) := by omega
          clear h0
          go_wp2_with fail
          exact ⟨⟨i + 1, by omega, by go_num, NX.out _ (fun _ _ _ => rfl) (by rw [HS.out]; exact hc) (fun _ => rfl), HB⟩, by simp [RowKit.intOf]; omega⟩
    · have hlen : (lowL (bs s)).length = s.size := by rw [length_lowL, HL.out]
      have hback := run_convert_bytes_back (P := Tryz.prog) W 82 9 5 ⟨w.heap.size, 0, none⟩ cap (lowL (bs s)) Tryz.underlying82 Tryz.underlying5 Tryz.underlying9 (fun j hj => by
        have hj' : j < s.size := by rw [hlen] at hj; exact hj
        have h1 := (HM.out j hj').1
        have e : mixR (bs s) i j = (lowL (bs s))[j] := by
          have hjl : j < (bs s).length := by rw [HL.out]; exact hj'
          have e2 : (lowL (bs s))[j] = lowB ((bs s)[j]'hjl) := by simp [lowL]
          unfold mixR
          rw [if_pos (by omega), e2]
          simp [List.getD, hjl]
        rw [e] at h1
        by_cases hj0 : j = 0
        · subst hj0; simpa [Addr.add] using h1
        · simpa [Addr.add, hj0] using h1)
      rw [hlen] at hback
      go_wp2_with fail
      go_ret
      exact ⟨rfl, HB.out⟩
end Tk
end Go.Proofs.YtnbipbeeengiaaaGreatDoor
namespace Go.Proofs.YtnbipbeeengiaaaGreatDoor
open Go.RowKit
namespace Tk

theorem addC_wide {W : World} {o : Oper} {a : Act} {K : Act → World → Prop} {Q : Exit → Act → World → Prop} (s x : Operand)
    (ho : o.op = .call { callee := .builtin .append, args := #[s, x], argTypes := #[26, 26] })
    (base : Nat) (v : Value) (P : List Bs) (t : Bs) (hs : a.eval s = v) (hx : a.eval x = .slice (some ⟨W.heap.size, 0, none⟩) 1 1) (h1 : W.ownsRow base 9 1 v P.length (strs P)) (hB : base ≤ W.heap.size) (hP : P.length ≤ 8796093022207)
    (h : ∀ v' w', w'.ownsRow base 9 1 v' (P ++ [t]).length (strs (P ++ [t])) → (W.alloc (.cells #[.string (mkS t)] 9)).grownBy w' v.ownBlock → K (a.put o.dst v') w') :
    o.wp Tryz.prog a (W.alloc (.cells #[.string (mkS t)] 9)) K Q := by
  obtain ⟨i0, hi, hz0, hz1, hz2⟩ := info_parts strInfo
  refine wp_append_own (P := Tryz.prog) _ s x 26 ho base 9 i0 (.string .empty) 1 16 Tryz.underlying26 hi hz0 hz1 hz2 rfl (by decide) v P.length (strs P) hs (h1.alloc _) ⟨W.heap.size, 0, none⟩ 1 1 [.string (mkS t)] hx rfl (cell_one_new _ _ _) (by simp [Value.oneCell']) (by unfold maxLen; omega) (by omega) (by simp; omega) ?_
  intro v' w' ho' hg' _
  refine h v' w' ?_ hg'
  rw [List.length_append, strs_append]
  exact ho'
theorem wpList_addC {ops : Array Oper} {rest : List Oper} {W : World} {o : Oper} {a : Act} {Q : Exit → Act → World → Prop} (hgd : o.guard = none) (s x : Operand)
    (ho : o.op = .call { callee := .builtin .append, args := #[s, x], argTypes := #[26, 26] })
    (base : Nat) (v : Value) (P : List Bs) (t : Bs) (hs : a.eval s = v) (hx : a.eval x = .slice (some ⟨W.heap.size, 0, none⟩) 1 1) (h1 : W.ownsRow base 9 1 v P.length (strs P)) (hB : base ≤ W.heap.size) (hP : P.length ≤ 8796093022207)
    (h : ∀ v' w', w'.ownsRow base 9 1 v' (P ++ [t]).length (strs (P ++ [t])) → (W.alloc (.cells #[.string (mkS t)] 9)).grownBy w' v.ownBlock → wpList Tryz.prog ops Q rest (a.put o.dst v') w') :
    wpList Tryz.prog ops Q (o :: rest) a (W.alloc (.cells #[.string (mkS t)] 9)) :=
  wpList_plain hgd fun _ hK => addC_wide s x ho base v P t hs hx h1 hB hP fun v' w' k1 k2 => hK _ _ (h v' w' k1 k2)
theorem strs_one (R : List Bs) : ∀ u ∈ strs R, u.oneCell' = true := by
  intro u hu
  unfold strs at hu
  rw [List.mem_map] at hu
  obtain ⟨t, -, rfl⟩ := hu
  rfl
set_option maxRecDepth 100000 in
theorem joinS_run (w : World) (o : Oper) (a : Act) (K : Act → World → Prop) (Q : Exit → Act → World → Prop) (s x : Operand)
    (ho : o.op = .call { callee := .builtin .append, args := #[s, x], argTypes := #[26, 26] })
    (base : Nat) (v v2 : Value) (P R : List Bs) (hs : a.eval s = v) (hx : a.eval x = v2) (h1 : w.ownsRow base 9 1 v P.length (strs P)) (h2 : IsStrs w v2 R) (hnl : ∀ n c, v2 = .slice none n c → c = 0)
    (hB : base ≤ w.heap.size) (hPR : P.length + R.length ≤ 8796093022208)
    (h : ∀ v' w', w'.ownsRow base 9 1 v' (P ++ R).length (strs (P ++ R)) → w.grownBy w' v.ownBlock → K (a.put o.dst v') w') : o.wp Tryz.prog a w K Q := by
  obtain ⟨i0, hi, hz0, hz1, hz2⟩ := info_parts strInfo
  obtain ⟨ad, cap, rfl, hc⟩ := h2
  rcases ad with _ | ad
  · have hR0 : R = [] := by
      cases R with
      | nil => rfl
      | cons f t => obtain ⟨b, o, e, -⟩ := hc 0 f rfl; cases e
    subst hR0
    have hcap0 := hnl _ _ rfl
    subst hcap0
    have hrun := run_append_owned_none (P := Tryz.prog) (w := w) base 26 o.type 9 i0 1 Tryz.underlying26 hi v P.length (strs P) h1
    unfold Oper.wp
    simp only [List.length_nil] at hx
    simp [execOp, ho, resolve, invoke, builtin, hs, hx, hrun, Result.andThen]
    exact h v w (by simpa using h1) ⟨rfl, rfl, rfl, Nat.le_refl _, fun _ _ _ => rfl⟩
  · refine wp_append_own (P := Tryz.prog) w s x 26 ho base 9 i0 (.string .empty) 1 16 Tryz.underlying26 hi hz0 hz1 hz2 rfl (by decide) v P.length (strs P) hs h1 ad R.length cap (strs R) hx (by simp [strs])
      (fun j u hj => ?_) (strs_one R) (by unfold maxLen; omega) (by omega) hB ?_
    · unfold strs at hj
      rw [List.getElem?_map] at hj
      obtain ⟨t, ht, rfl⟩ := Option.map_eq_some_iff.1 hj
      obtain ⟨b, o, e, g0⟩ := hc j t ht
      injection e with e
      subst e
      rw [Go.WideShapes.add_plain]
      exact g0
    · intro v' w' ho' hg' _
      refine h v' w' ?_ hg'
      rw [List.length_append, strs_append]
      exact ho'
theorem wpList_joinS {ops : Array Oper} {rest : List Oper} {w : World} {o : Oper} {a : Act} {Q : Exit → Act → World → Prop} (hgd : o.guard = none) (s x : Operand)
    (ho : o.op = .call { callee := .builtin .append, args := #[s, x], argTypes := #[26, 26] })
    (base : Nat) (v v2 : Value) (P R : List Bs) (hs : a.eval s = v) (hx : a.eval x = v2) (h1 : w.ownsRow base 9 1 v P.length (strs P)) (h2 : IsStrs w v2 R) (hnl : ∀ n c, v2 = .slice none n c → c = 0)
    (hB : base ≤ w.heap.size) (hPR : P.length + R.length ≤ 8796093022208)
    (h : ∀ v' w', w'.ownsRow base 9 1 v' (P ++ R).length (strs (P ++ R)) → w.grownBy w' v.ownBlock → wpList Tryz.prog ops Q rest (a.put o.dst v') w') : wpList Tryz.prog ops Q (o :: rest) a w :=
  wpList_plain hgd fun _ hK => joinS_run w o a _ Q s x ho base v v2 P R hs hx h1 h2 hnl hB hPR fun v' w' a b => hK _ _ (h v' w' a b)

end Tk
end Go.Proofs.YtnbipbeeengiaaaGreatDoor
namespace Go.Proofs.YtnbipbeeengiaaaGreatDoor
open Go.RowKit
namespace Tk

theorem made_strsC (n : Nat) : (madeCells #[Value.string .empty] n).toList = strs (List.replicate n []) := by
  apply List.ext_getElem?
  intro j
  by_cases hj : j < n
  · simp [madeCells, strs, hj, Nat.mod_one]; rfl
  · rw [List.getElem?_eq_none (by simp [madeCells]; omega), List.getElem?_eq_none (by simp [strs]; omega)]
theorem own_keepC {w w' : World} {B : Nat} {v : Value} {n : Nat} {xs : List Value} {e : TypeId} (h : w.ownsRow B e 1 v n xs) (hb : Below w.heap.size w w') : w'.ownsRow B e 1 v n xs :=
  World.ownsRow.kept h (row := none) ⟨hb.os, hb.tape, hb.output, hb.size, fun k hk _ => hb.block k hk⟩ (by cases h : v.ownBlock <;> simp)
theorem strs_putC (a : List Bs) (f : Bs) (b : List Bs) (s : Bs) : (strs (a ++ f :: b)).set a.length (.string (mkS s)) = strs (a ++ s :: b) := by
  simp [strs]
theorem own_putC {w : World} {B g cap n : Nat} {a b : List Bs} {f : Bs} (h : w.ownsRow B 9 1 (.slice (some ⟨g, 0, none⟩) n cap) n (strs (a ++ f :: b))) (s : Bs) :
    (w.setCell ⟨g, a.length, none⟩ (.string (mkS s))).ownsRow B 9 1 (.slice (some ⟨g, 0, none⟩) n cap) n (strs (a ++ s :: b)) := by
  have h1 := (h.stored a.length (.string (mkS s))).1
  rw [strs_putC] at h1
  exact h1
theorem strs_midC (a : List Bs) (f : Bs) (b : List Bs) : (strs (a ++ f :: b))[a.length]? = some (.string (mkS f)) := by simp [strs]

/-- what control.Each returns -/
def EachPost (l : List Bs) (w : World) (e : Ending) (w' : World) : Prop :=
  ∃ (g : Nat) (ad : Option Addr) (c : Nat), e = .returned (.func (.func 91) #[] #[.pointer (some ⟨g, 0, none⟩)]) ∧ w'.cell? ⟨g, 0, none⟩ = some (.slice ad l.length c) ∧ IsStrs w' (.slice ad l.length c) l ∧ Below w.heap.size w w'

set_option maxHeartbeats 8000000 in
set_option maxRecDepth 100000 in
theorem ceach_any (v : Value) (l : List Bs) (w : World) (hs : IsStrs w v l) (hz : ∀ x ∈ l, x.length ≤ 1000000) (hl : l.length ≤ 1048576) :
    Calls Tryz.prog 62 #[v] w (EachPost l w) := by
  obtain ⟨i0, hi0, hz0, hz1, hz2⟩ := info_parts strInfo
  have HS := Lib.hid hs
  have HZ := Lib.hid hz
  obtain ⟨a, cap, rfl⟩ : ∃ a cap, v = .slice a l.length cap := by obtain ⟨a, c, h, -⟩ := hs; exact ⟨a, c, h⟩
  clear hs hz
  go_enter Tryz.func62, Tryz.ntmps62
  go_wp2_with (refine wpList_make_full w rfl _ _ 26 rfl w.heap.size 9 i0 (.string .empty) 1 Tryz.underlying26 hi0 hz0 hz1 .i64 .i64 _ _ l.length rfl rfl rfl rfl ?c1 ?c2 (Nat.le_refl _) ?_)
  case c1 => rw [hz2]; omega
  case c2 => unfold maxLen; omega
  intro w1 ho hg
  rw [made_strsC] at ho
  have HO0 := Lib.hid ho
  have HB0 := Lib.hid (show Below w.heap.size w w1 from ⟨hg.os, hg.tape, hg.output, hg.size, fun k hk => hg.block k hk (by simp)⟩)
  clear ho hg
  have hw1 := HB0.out.size
  have hw2 : w.heap.size < w1.heap.size := by
    obtain ⟨-, ⟨hv, -⟩ | ⟨g, cp, cur, hv, -, hg, -⟩⟩ := HO0.out
    · cases hv
    · cases hv; exact (Array.getElem?_eq_some_iff.1 hg).1
  have HO1 := Lib.hid (HO0.out.alloc (Obj.cells #[.slice (some ⟨w.heap.size, 0, none⟩) l.length l.length] 26))
  have HB1 := Lib.hid (HB0.out.alloc hw1 (Obj.cells #[.slice (some ⟨w.heap.size, 0, none⟩) l.length l.length] 26))
  have HX1 : Hid ((w1.alloc (Obj.cells #[.slice (some ⟨w.heap.size, 0, none⟩) l.length l.length] 26)).cell? ⟨w1.heap.size, 0, none⟩ = some (.slice (some ⟨w.heap.size, 0, none⟩) l.length l.length)) := by
    rw [Lib.cell_of_heap (heap_alloc_last w1 _)]; rfl
  have hz3 : w1.heap.size < (w1.alloc (Obj.cells #[.slice (some ⟨w.heap.size, 0, none⟩) l.length l.length] 26)).heap.size := by simp
  go_wp2_with fail
  generalize w1.alloc (Obj.cells #[.slice (some ⟨w.heap.size, 0, none⟩) l.length l.length] 26) = w2 at *
  generalize w1.heap.size = g at *
  go_loopw [11] (fun vi wr => ∃ i : Nat, i ≤ l.length ∧ vi = .int .i64 i ∧ Hid (wr.ownsRow w.heap.size 9 1 (.slice (some ⟨w.heap.size, 0, none⟩) l.length l.length) l.length (strs (l.take i ++ List.replicate (l.length - i) []))) ∧ Hid (wr.cell? ⟨g, 0, none⟩ = some (.slice (some ⟨w.heap.size, 0, none⟩) l.length l.length)) ∧ g < wr.heap.size ∧ Hid (Below w.heap.size w wr)) (fun vi _ => l.length - (RowKit.intOf vi).toNat)
  case atStart => exact ⟨0, Nat.zero_le _, rfl, HO1, HX1, hz3, HB1⟩
  case round =>
    obtain ⟨i, hi, rfl, HO, HX, hgz, HB⟩ := hrel
    rename World => W
    by_cases hlt : i < l.length
    · obtain ⟨a', c', e', hc⟩ := isStrsC_below HS.out HB.out
      injection e' with e1 _ e2
      subst e1 e2
      obtain ⟨b, o, rfl, hc0⟩ := hc i (l.getD i []) (by simp [List.getD, hlt])
      have hm := HZ.out (l.getD i []) (by simp [List.getD, hlt])
      have htk : l.take (i + 1) = l.take i ++ [l.getD i []] := by
        rw [List.take_succ_eq_append_getElem hlt]; simp [List.getD, hlt]
      have hlen : (l.take i).length = i := by simp; omega
      have hrep : List.replicate (l.length - i) ([] : Bs) = [] :: List.replicate (l.length - (i + 1)) [] := by
        rw [show l.length - i = (l.length - (i + 1)) + 1 by omega]; rfl
      rw [hrep] at HO
      have HTK := Lib.hid htk
      have HLen := Lib.hid hlen
      clear hc htk hlen hrep
      generalize l.getD i [] = x at *
      have HL : Hid (∀ W : World, Calls Tryz.prog 90 #[.string (mkS x)] W fun e w' => e = .returned (.string (mkS x)) ∧ Below W.heap.size W w') := fun W => by
        have h := clone_any (mkS x) W (by rw [size_mkS]; omega)
        rw [bs_mkS] at h
        exact h
      have g0 : (0 : Int) ≤ (i : Int) := by omega
      have g1 : (i : Int) < (l.length : Int) := by omega
      have hbsz := HB.out.size
      have hmid := strs_midC (l.take i) [] (List.replicate (l.length - (i + 1)) [])
      rw [HLen.out] at hmid
      have k0 := HO.out.cellAt i (by omega)
      rw [hmid] at k0
      have f0 := HO.out.frozenAt i
      have hx1 := HX.out
      have hwg : w.heap.size < W.heap.size := by
        obtain ⟨-, ⟨hv, -⟩ | ⟨g, cp, cur, hv, -, hg, -⟩⟩ := HO.out
        · cases hv
        · cases hv; exact (Array.getElem?_eq_some_iff.1 hg).1
      have HFin := Lib.hid (fun (w5 : World) (h : Below W.heap.size W w5) => own_keepC HO.out h)
      have HD : Hid (Below W.heap.size W W.drew) := (Below.refl _ _).drew
      clear hmid HO
      go_wp2_with fail
      go_region_with (go_at_call 90; refine (HL.out _).mono ?_; rintro e w5 ⟨rfl, hb0⟩; have hb := HD.out.trans hb0; have q1 : w5.cell? ⟨g, 0, none⟩ = some (.slice (some ⟨w.heap.size, 0, none⟩) l.length l.length) := (hb.cell (p := ⟨g, 0, none⟩) hgz).trans hx1; have q3 : w5.cell? ⟨w.heap.size, i, none⟩ = some (.string (mkS [])) := (hb.cell (p := ⟨w.heap.size, i, none⟩) hwg).trans k0; have q4 := (HFin.out w5 hb).frozenAt i)
      all_goals
        have HO5 := Lib.hid (HFin.out w5 hb)
        have HB5 := Lib.hid (HB.out.trans (hb.mono hbsz))
        have HQ5 := Lib.hid q1
        have hz5 := hb.size
        clear hb hb0 q1 q3 q4 k0 f0 hx1 HX
        go_wp2_with fail
        have hst := own_putC (a := l.take i) HO5.out x
        rw [HLen.out] at hst
        refine ⟨⟨i + 1, hlt, by go_num, ?_, ?_, ?_, ?_⟩, by simp [RowKit.intOf]; omega⟩
        · show World.ownsRow _ _ _ _ _ _ _
          rw [HTK.out, List.append_assoc]
          exact hst
        · show World.cell? _ _ = _
          rw [World.cell?_setCell_other (w := w5) (a := ⟨w.heap.size, i, none⟩) (b := ⟨g, 0, none⟩) (h := by intro e; injection e with e1 _; omega)]; exact HQ5.out
        · rw [World.size_setCell]; omega
        · exact HB5.out.setCell (p := ⟨w.heap.size, i, none⟩) (Nat.le_refl _) _
    · obtain rfl : i = l.length := by omega
      have hfin := HO.out
      rw [Nat.sub_self, List.take_length, List.replicate_zero, List.append_nil] at hfin
      have HF := Lib.hid (isStrs_own hfin)
      clear hfin
      go_wp2_with fail
      go_ret
      exact ⟨g, _, _, rfl, HX.out, HF.out, HB.out⟩
end Tk
end Go.Proofs.YtnbipbeeengiaaaGreatDoor
