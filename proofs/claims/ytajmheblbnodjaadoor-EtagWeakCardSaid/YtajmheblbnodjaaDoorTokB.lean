/- token.appendPart, Split. -/
import Derived.Test.YtajmheblbnodjaaDoorTokA
import Derived.Test.YtajmheblbnodjaaDoorStr
namespace Go.Proofs.YtajmheblbnodjaaDoor
open Go.RowKit
namespace Tk

set_option maxHeartbeats 400000 in
theorem appendPart_any (base : Nat) (v : Value) (P : List Bs) (s : ByteArray) (w : World) (hown : w.ownsRow base 9 1 v P.length (strs P)) (hB : base ≤ w.heap.size) (hs : s.size ≤ 1099511627776) (hP : P.length ≤ 4398046511104) :
    Calls Tryd.prog 66 #[v, .string s] w (ListPost base (P ++ addP (trimL (bs s))) w) := by
  obtain ⟨i0, hi, hz0, hz1, hz2⟩ := info_parts strInfo
  have HT := Lib.hid (trim_any s w hs)
  have HO := Lib.hid hown
  have hl := trim_sublist (bs s)
  rw [length_bs] at hl
  clear hown
  generalize trimL (bs s) = t at *
  by_cases he : t = []
  · subst he
    have hne : (mkS []).toList.isEmpty = true := by rw [toList_bs]; rfl
    go_enter Tryd.func66, Tryd.ntmps66
    go_wp2_with fail
    refine HT.out.mono ?_
    rintro e w' ⟨rfl, hb⟩
    have HB := Lib.hid hb
    clear hb
    go_wp2_with fail
    go_ret
    refine ⟨v, rfl, ?_, HB.out.mono hB⟩
    have e : P ++ addP [] = P := by simp [addP]
    rw [e]
    exact World.ownsRow.kept HO.out (row := none) ⟨HB.out.os, HB.out.tape, HB.out.output, HB.out.size, fun k hk _ => HB.out.block k hk⟩ (by cases h : v.ownBlock <;> simp)
  · have hne : (mkS t).toList.isEmpty = false := by rw [toList_bs, bs_mkS]; simpa using he
    have hadd : addP t = [t] := by unfold addP; rw [if_neg he]
    go_enter Tryd.func66, Tryd.ntmps66
    go_wp2_with fail
    refine HT.out.mono ?_
    rintro e w' ⟨rfl, hb⟩
    have hown' : w'.ownsRow base 9 1 v P.length (strs P) := World.ownsRow.kept HO.out (row := none) ⟨hb.os, hb.tape, hb.output, hb.size, fun k hk _ => hb.block k hk⟩ (by cases h : v.ownBlock <;> simp)
    have hB' : base ≤ w'.heap.size := Nat.le_trans hB hb.size
    have HB := Lib.hid (hb.mono hB)
    clear hb
    go_wp2_with (at_builtin; refine wpList_append_own _ rfl _ _ 45 rfl base 9 i0 (.string .empty) 1 16 Tryd.underlying45 hi hz0 hz1 hz2 rfl (by decide) _ _ _ rfl (hown'.alloc _) ⟨w'.heap.size, 0, none⟩ 1 1 [.string (mkS t)] rfl rfl ?c1 ?c2 ?c3 ?c4 ?c5 ?_)
    case c1 => exact cell_one_new _ _ _
    case c2 => simp [Value.oneCell']
    case c3 => unfold maxLen; omega
    case c4 => omega
    case c5 => simp; omega
    intro v' w1 hown1 hg1 _
    have hb1 : Below base w w1 := HB.out.trans (((Below.refl base w').alloc hB' _).trans (below_of_grown hg1 (hown'.alloc _) (by simp; omega)))
    have HB1 := Lib.hid hb1
    have HO1 := Lib.hid hown1
    clear hb1 hown1 hg1
    go_wp2_with fail
    go_ret
    refine ⟨v', rfl, ?_, HB1.out⟩
    rw [hadd, List.length_append, strs_append]
    exact HO1.out
end Tk
end Go.Proofs.YtajmheblbnodjaaDoor
