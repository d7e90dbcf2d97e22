/- The document's own first lines: cut, seen, version. -/
import Derived.Test.YtliinjibnikfgaaDoorRefA
import Derived.Test.YtliinjibnikfgaaDoorStaC
namespace Go.Proofs.YtliinjibnikfgaaDoor
open Go.RowKit
namespace Tk

set_option maxHeartbeats 1000000 in
set_option maxRecDepth 100000 in
theorem rcut_any (s : ByteArray) (w : World) (hs : s.size ≤ 1099511627776) :
    Calls Tryd.prog 69 #[.string s] w fun e w' => e = .returned (.tuple #[.string (mkS (cutL 32 (bs s)).1), .string (mkS (cutL 32 (bs s)).2.1), .bool (cutL 32 (bs s)).2.2]) ∧ Below w.heap.size w w' := by
  go_enter Tryd.func69, Tryd.ntmps69
  go_wp2_with fail
  go_loop [5] (fun v => ∃ i : Nat, i ≤ s.size ∧ v = .int .i64 i ∧ Hid (∀ x ∈ (bs s).take i, x ≠ (32 : UInt8))) (fun v => s.size - (RowKit.intOf v).toNat)
  case atStart => exact ⟨0, Nat.zero_le _, rfl, fun x hx => by simp at hx⟩
  case round =>
    obtain ⟨i, hi, rfl, hI⟩ := hrel
    by_cases hlt : i < s.size
    · by_cases hc : s[i] = 32
      · have e1 : ((s[i].toNat : Int) == 32) = true := by rw [hc]; rfl
        have hsp : bs s = (bs s).take i ++ 32 :: (bs s).drop (i + 1) := by
          have := bs_drop s i hlt
          rw [hc] at this
          rw [← this, List.take_append_drop]
        have hcut : cutL 32 (bs s) = ((bs s).take i, (bs s).drop (i + 1), true) := by
          conv => lhs; rw [hsp]
          exact cutL_at 32 _ _ hI.out
        have a1 : s.extract 0 i = mkS ((bs s).take i) := by rw [extract_mkS]; simp
        have a2 : s.extract (i + 1) s.size = mkS ((bs s).drop (i + 1)) := by
          rw [extract_mkS, List.take_of_length_le (by rw [List.length_drop, length_bs]; exact Nat.le_refl _)]
        have HF := Lib.hid hcut
        have A1 := Lib.hid a1
        have A2 := Lib.hid a2
        have c1 : (0 : Int) ≤ ↑i := by omega
        have c2 : (↑i : Int) ≤ ↑s.size := by omega
        have c3 : (0 : Int) ≤ ↑i + 1 := by omega
        have c4 : (↑i + 1 : Int) ≤ ↑s.size := by omega
        have c5 : IntKind.i64.wrap (↑i + 1) = ↑i + 1 := IntWalk.i64_in _ (by omega)
        have c6 : ((i : Int) + 1).toNat = i + 1 := by omega
        clear hcut a1 a2 hsp hc
        go_wp2_with fail
        go_quiet (fail)
        go_wp2
        go_ret3
        refine ⟨?_, bdraws w _⟩
        rw [HF.out]
        simp only [← A1.out, ← A2.out]
        first | rfl | simp
      · have e1 : ((s[i].toNat : Int) == 32) = false := by
          rw [beq_eq_false_iff_ne]
          intro e
          exact hc (UInt8.toNat_inj.1 (show s[i].toNat = 32 by omega))
        have hI2 : Hid (∀ x ∈ (bs s).take (i + 1), x ≠ (32 : UInt8)) := by
          intro x hx
          rw [take_snoc (bs s) i (by rw [length_bs]; exact hlt), getD_bs s i hlt, List.mem_append, List.mem_singleton] at hx
          rcases hx with hx | rfl
          · exact hI.out x hx
          · exact hc
        clear hc
        go_wp2_with fail
        exact ⟨⟨i + 1, by omega, by go_num, hI2⟩, by simp [RowKit.intOf]; omega⟩
    · have hcut : cutL 32 (bs s) = (bs s, [], false) := by
        refine cut_none 32 _ ?_
        have := hI.out
        rw [List.take_of_length_le (by rw [length_bs]; omega)] at this
        exact this
      have HF := Lib.hid hcut
      clear hcut
      go_wp2_with fail
      go_ret3
      exact ⟨by rw [HF.out, mkS_bs]; rfl, Below.refl _ _⟩

set_option maxHeartbeats 1000000 in
theorem rseen_any (s : ByteArray) (w : World) (hs : s.size ≤ 1099511627776) :
    Calls Tryd.prog 71 #[.string s] w fun e w' => e = .returned (.bool (someL vis (bs s))) ∧ w = w' := by
  have HV := Lib.hid (show someL vis (bs s) = (!(bs s).isEmpty && (bs s).all vis) from rfl)
  go_enter Tryd.func71, Tryd.ntmps71
  go_wp2_with fail
  go_loop [3] (fun v => ∃ i : Nat, i ≤ s.size ∧ v = .int .i64 i ∧ Hid ((bs s).all vis = ((bs s).drop i).all vis)) (fun v => s.size - (RowKit.intOf v).toNat)
  case atStart => exact ⟨0, Nat.zero_le _, rfl, rfl⟩
  case round =>
    obtain ⟨i, hi, rfl, hd⟩ := hrel
    by_cases hlt : i < s.size
    · have D := Lib.hid (bs_drop s i hlt)
      have hv : vis s[i] = (decide (33 ≤ s[i].toNat) && decide (s[i].toNat ≤ 126)) := rfl
      by_cases h0 : s[i].toNat < 33
      · have fin : someL vis (bs s) = false := by rw [HV.out, hd.out, D.out, List.all_cons, hv, decide_eq_false (by omega)]; simp
        have HF := Lib.hid fin
        clear fin hv
        go_wp2_with fail
        go_ret
        exact ⟨retB2 (by rw [HF.out]), rfl⟩
      · by_cases h1 : 126 < s[i].toNat
        · have fin : someL vis (bs s) = false := by rw [HV.out, hd.out, D.out, List.all_cons, hv, decide_eq_false (show ¬ s[i].toNat ≤ 126 by omega)]; simp
          have HF := Lib.hid fin
          clear fin hv
          go_wp2_with fail
          go_ret
          exact ⟨retB2 (by rw [HF.out]), rfl⟩
        · have nx : (bs s).all vis = ((bs s).drop (i + 1)).all vis := by
            rw [hd.out, D.out, List.all_cons, hv, decide_eq_true (show 33 ≤ s[i].toNat by omega), decide_eq_true (show s[i].toNat ≤ 126 by omega)]; rfl
          have HX := Lib.hid nx
          clear nx hv
          go_wp2_with fail
          exact ⟨⟨i + 1, by omega, by go_num, HX⟩, by simp [RowKit.intOf]; omega⟩
    · have ha : (bs s).all vis = true := by rw [hd.out, List.drop_eq_nil_of_le (by rw [length_bs]; omega)]; rfl
      cases he : (bs s).isEmpty
      · have he2 : s.toList.isEmpty = false := by rw [toList_bs]; exact he
        have HF := Lib.hid (show someL vis (bs s) = true by rw [HV.out, ha, he]; rfl)
        clear ha he
        go_wp2_with fail
        go_ret
        exact ⟨retB2 (by rw [HF.out] <;> first | rfl | simp), rfl⟩
      · have he2 : s.toList.isEmpty = true := by rw [toList_bs]; exact he
        have HF := Lib.hid (show someL vis (bs s) = false by rw [HV.out, he]; rfl)
        clear ha he
        go_wp2_with fail
        go_ret
        exact ⟨retB2 (by rw [HF.out] <;> first | rfl | simp), rfl⟩
end Tk
end Go.Proofs.YtliinjibnikfgaaDoor
