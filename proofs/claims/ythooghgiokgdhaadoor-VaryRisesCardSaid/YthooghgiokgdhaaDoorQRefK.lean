/- The document's own List. -/
import Derived.Test.YthooghgiokgdhaaDoorQRefF
namespace Go.Proofs.YthooghgiokgdhaaDoor
open Go.RowKit
namespace Tk

set_option maxHeartbeats 8000000 in
set_option maxRecDepth 100000 in
theorem rlist_any (v : Value) (l : List (Bs × Bs)) (name : Bs) (w : World) (hs : IsFlds w v l) (hz : sumF l ≤ 1000000) (hn : name.length ≤ 1099511627776) (hl : l.length ≤ 1048576) :
    Calls Tryd.prog 18 #[v, .string (mkS name)] w (ListPost w.heap.size (listF l name) w) := by
  have HA := Lib.hid (rall_any v l name w hs (sum_each l (by omega)) hn hl)
  unfold ListPost at HA
  have hlist : listF l name = (allF l name).flatMap splitL := rfl
  have HLI := Lib.hid hlist
  have hpc := Lib.hid (fun p hp => Nat.le_trans (all_piece name l p hp) hz)
  have hfl := Lib.hid (fun i => flat_sub (allF l name) i)
  have hal := allF_len l name
  have hPl : (allF l name).length ≤ 1048576 := by omega
  have hln := listF_len name l
  rw [hlist] at hln
  have hln2 : ((allF l name).flatMap splitL).length ≤ 1000000 := by omega
  obtain ⟨a, cap, rfl⟩ : ∃ a cap, v = .slice a l.length cap := by obtain ⟨a, c, h, -⟩ := hs; exact ⟨a, c, h⟩
  clear hs hz hlist hln hal
  generalize listF l name = Q at *
  generalize allF l name = P at *
  go_enter Tryd.func18, Tryd.ntmps18
  go_wp2_with fail
  refine HA.out.mono ?_
  rintro e w1 ⟨v1, rfl, ho, hb⟩
  have HB1 := Lib.hid hb
  have HS := Lib.hid (isStrs_own ho)
  have HLt := Lib.hid (fun k e => (ho.lt k e).2)
  obtain ⟨a1, c1, rfl⟩ : ∃ a c, v1 = .slice a P.length c := by obtain ⟨a, c, h, -⟩ := isStrs_own ho; exact ⟨a, c, h⟩
  clear ho hb
  go_wp2_with fail
  go_loopw [6, 7] (fun v5 vi wr => ∃ i : Nat, i ≤ P.length ∧ vi = .int .i64 i ∧ Hid (wr.ownsRow w1.heap.size 9 1 v5 ((P.take i).flatMap splitL).length (strs ((P.take i).flatMap splitL))) ∧ Hid (Below w1.heap.size w1 wr)) (fun _ vi _ => P.length - (RowKit.intOf vi).toNat)
  case atStart => exact ⟨0, Nat.zero_le _, rfl, World.ownsRow_nil _ _ _ _, Below.refl _ _⟩
  case round =>
    obtain ⟨i, hi, rfl, HO, HB⟩ := hrel
    rename World => W
    by_cases hlt : i < P.length
    · obtain ⟨a', c', e', hc⟩ := isStrs_later HS.out HB.out HLt.out
      injection e' with e1 _ e2
      subst e1 e2
      obtain ⟨b, o, rfl, hc⟩ := hc i (P.getD i []) (by simp [List.getD, hlt])
      have hm := hpc.out (P.getD i []) (by simp [List.getD, hlt])
      have htk := take_flat P i hlt
      have HTK := Lib.hid htk
      have hf1 := hfl.out i
      have hsl := split_len (P.getD i [])
      clear htk
      generalize P.getD i [] = x at *
      have hxz := size_mkS x
      have hsp := fun W : World => rSplit_any (mkS x) W (by omega)
      rw [bs_mkS] at hsp
      have HSP := Lib.hid hsp
      have g0 : (0 : Int) ≤ (i : Int) := by omega
      have g1 : (i : Int) < (P.length : Int) := by omega
      clear hsp hxz
      have hk1 : ((P.take i).flatMap splitL).length ≤ 1048576 := by omega
      have hk2 : (splitL x).length ≤ 1048576 := by omega
      generalize (P.take i).flatMap splitL = R at *
      generalize splitL x = S at *
      go_wp2_with fail
      refine (HSP.out _).mono ?_
      rintro e w3 ⟨v3, rfl, ho3, hb3⟩
      have HO3 := Lib.hid (own_keep HO.out hb3)
      have HB3 := Lib.hid (HB.out.trans (hb3.mono HB.out.size))
      have HS3 := Lib.hid ho3
      clear ho3 hb3
      go_wp2_with (at_builtin; refine join_guarded (by rfl) _ _ rfl w1.heap.size _ _ _ R S rfl rfl HO3.out HS3.out HB3.out.size hk1 hk2 ?_)
      intro v4 w4 ho4 hb4
      have HB4 := Lib.hid (HB3.out.trans hb4)
      have HO4 : Hid (w4.ownsRow w1.heap.size 9 1 v4 ((P.take (i + 1)).flatMap splitL).length (strs ((P.take (i + 1)).flatMap splitL))) := by
        show World.ownsRow _ _ _ _ _ _ _
        rw [HTK.out, List.length_append]; exact ho4
      clear ho4 hb4
      go_wp2_with fail
      exact ⟨⟨i + 1, hlt, by go_num, HO4, HB4⟩, by simp [RowKit.intOf]; omega⟩
    · have hil : P.take i = P := List.take_of_length_le (by omega)
      rw [hil, ← HLI.out] at HO
      have HBF := Lib.hid (HB1.out.trans (HB.out.mono HB1.out.size))
      have HOF := Lib.hid (World.ownsRow.mono HO.out HB1.out.size)
      go_wp2_with fail
      go_ret
      exact ⟨_, rfl, HOF.out, HBF.out⟩
end Tk
end Go.Proofs.YthooghgiokgdhaaDoor
