/- The law TokenNumbers: its walk. -/
import Derived.Test.YtogdmhgblceddaaDoorNumB
import Derived.Deep.RegionWith
namespace Go.Proofs.YtogdmhgblceddaaDoor
open Go.RowKit
namespace Tk
open Ff

theorem run_one (c : Nat) (hc : c < 256) (b : Nat) (W : World) (h : W.cell? ⟨b, 0, none⟩ = some (.int .u8 c)) : (convert 45 9 (.slice (some ⟨b, 0, none⟩) 1 1)).run Tryd.prog W = .ok (.string (mkS [UInt8.ofNat c])) W :=
  run_convert_bytes_back (P := Tryd.prog) _ 45 9 5 ⟨b, 0, none⟩ 1 [UInt8.ofNat c] Tryd.underlying45 Tryd.underlying5 Tryd.underlying9 (fun j hj => by
    have e : ((UInt8.ofNat c).toNat : Int) = c := by rw [UInt8.toNat_ofNat']; omega
    obtain rfl : j = 0 := by simpa using hj
    show W.cell? ⟨b, 0, none⟩ = some (.int .u8 ((UInt8.ofNat c).toNat : Int))
    rw [e]; exact h)

theorem number_at (l : Bs) (W : World) (h : l.length ≤ 1099511627776) : Calls Tryd.prog 31 #[.string (mkS l)] W fun r w' => r = .returned (.tuple #[.int .i64 (numL l).1, .int .i64 (numL l).2]) ∧ W = w' := by
  have := number_any (mkS l) W (by rw [size_mkS]; exact h)
  rw [bs_mkS] at this
  exact this

set_option maxRecDepth 100000 in
set_option maxHeartbeats 1000000 in
theorem law_neg (n : Int) (noughts at' c : Int) (w : World) (hT : Tabs w) (hn : n < 0) :
    Calls Tryd.prog 6 #[.int .i64 n, .int .i64 noughts, .int .i64 at', .int .u8 c] w (Yes w) := by
  have HL := Lib.hid (lives_any w hT)
  clear hT
  go_enter Tryd.func6, Tryd.ntmps6
  go_wp2_with fail
  refine HL.out.mono ?_
  rintro e w1 ⟨rfl, hb⟩
  have HB := Lib.hid hb
  clear hb
  go_wp2_with fail
  go_ret
  exact ⟨rfl, HB.out⟩

set_option maxRecDepth 100000 in
set_option maxHeartbeats 1000000 in
theorem law_big (n : Nat) (noughts at' : Int) (c : Nat) (w : World) (hT : Tabs w) (hn : n ≤ 9223372036854775807) (hc : c < 256) (hmx : maxN < n) :
    Calls Tryd.prog 6 #[.int .i64 n, .int .i64 noughts, .int .i64 at', .int .u8 c] w (Yes w) := by
  have HL := Lib.hid (lives_any w hT)
  have hlen := digL_len20 n hn
  have HD := Lib.hid (fun W => digits_any n n W (Nat.le_refl _) hn)
  clear hT
  go_enter Tryd.func6, Tryd.ntmps6
  go_wp2_with fail
  refine HL.out.mono ?_
  rintro e w1 ⟨rfl, hb⟩
  have HB := Lib.hid hb
  clear hb
  go_wp2_with fail
  refine (pick_any noughts 30 w1 (by omega) (by omega)).mono ?_
  rintro e w' ⟨k, hk, rfl, rfl⟩
  go_wp2_with fail
  refine (times_any k w1 (by omega)).mono ?_
  rintro e w' ⟨rfl, rfl⟩
  go_wp2_with fail
  refine (HD.out w1).mono ?_
  rintro e w' ⟨rfl, rfl⟩
  have hsz : (mkS (List.replicate k 48)).size + (mkS (digL n)).size ≤ 9223372036854775807 := by rw [size_mkS, size_mkS, List.length_replicate]; omega
  have hcat : mkS (List.replicate k 48) ++ mkS (digL n) = mkS (List.replicate k 48 ++ digL n) := mkS_append _ _
  have hl2 : (List.replicate k 48 ++ digL n).length ≤ 50 := by rw [List.length_append, List.length_replicate]; omega
  have HZ := Lib.hid (num_zeros k n)
  generalize List.replicate k 48 ++ digL n = l at *
  go_wp2_with fail
  refine (number_at l w1 (by omega)).mono ?_
  rintro e w' ⟨rfl, rfl⟩
  rw [HZ.out]
  have hp := pick_any at' (l.length + 1) w1 (by omega) (by omega)
  rw [show (((l.length + 1 : Nat)) : Int) = (l.length : Int) + 1 from rfl] at hp
  have HP := Lib.hid hp
  have hsl := size_mkS l
  clear hp
  rw [if_pos hmx]
  have hm1 : (9007199254740991 : Int) < n := by unfold maxN at hmx; omega
  clear hmx
  go_wp2_with fail
  refine HP.out.mono ?_
  rintro e w' ⟨a, ha, rfl, rfl⟩
  have hcv := run_one c hc w1.heap.size (w1.alloc (.cells #[.int .u8 c] 5)).drew (by simp)
  have z1 : ((mkS l).extract 0 a).size = a := by rw [← length_bs, bs_extract, bs_mkS, List.length_take, List.length_drop]; omega
  have z2 : (mkS [UInt8.ofNat c]).size = 1 := rfl
  have z4 : ((mkS l).extract a l.length).size = l.length - a := by rw [← length_bs, bs_extract, bs_mkS, List.length_take, List.length_drop]; omega
  have hm := number_at (l.take a ++ [UInt8.ofNat c] ++ l.drop a) (w1.alloc (.cells #[.int .u8 c] 5)).drew (by simp; omega)
  have hx : mkS (l.take a ++ [UInt8.ofNat c] ++ l.drop a) = (mkS l).extract 0 a ++ mkS [UInt8.ofNat c] ++ (mkS l).extract a l.length := by
    rw [extract_mkS, extract_mkS, mkS_append, mkS_append, bs_mkS]
    rw [List.drop_zero, Nat.sub_zero, List.take_of_length_le (l := l.drop a) (by rw [List.length_drop]; exact Nat.le_refl _)]
  rw [hx] at hm
  have hbad : isDig (UInt8.ofNat c) = false → (numL (l.take a ++ [UInt8.ofNat c] ++ l.drop a)).2 = 4 := fun h => by rw [num_bad _ _ _ h]
  generalize numL (l.take a ++ [UInt8.ofNat c] ++ l.drop a) = r at *
  obtain ⟨r1, r2⟩ := r
  have HM := Lib.hid hm
  have HBAD := Lib.hid hbad
  clear hm hx hbad
  go_wp2_with fail
  go_region_with ((go_at_call 31; refine HM.out.mono ?_; rintro e w' ⟨rfl, rfl⟩))
  all_goals
    by_cases hd : isDig (UInt8.ofNat c) = true
    · have h48 : (48 : Int) ≤ c := by unfold isDig at hd; rw [UInt8.toNat_ofNat'] at hd; simp at hd; omega
      have h57 : (c : Int) ≤ 57 := by unfold isDig at hd; rw [UInt8.toNat_ofNat'] at hd; simp at hd; omega
      clear hd
      go_wp2_with fail
      go_ret
      exact ⟨rfl, (HB.out.alloc HB.out.size _).drew⟩
    · obtain rfl : r2 = 4 := HBAD.out (by simpa using hd)
      have h45 : (c : Int) < 48 ∨ (57 : Int) < c := by
        unfold isDig at hd; rw [UInt8.toNat_ofNat'] at hd; simp at hd; omega
      clear hd
      rcases h45 with h4 | h5
      · go_wp2_with fail
        go_ret
        exact ⟨rfl, (HB.out.alloc HB.out.size _).drew⟩
      · have h4 : (48 : Int) ≤ c := by omega
        go_wp2_with fail
        go_ret
        exact ⟨rfl, (HB.out.alloc HB.out.size _).drew⟩

set_option maxRecDepth 100000 in
set_option maxHeartbeats 1000000 in
theorem law_small (n : Nat) (noughts at' : Int) (c : Nat) (w : World) (hT : Tabs w) (hn : n ≤ 9223372036854775807) (hc : c < 256) (hmx : ¬ maxN < n) :
    Calls Tryd.prog 6 #[.int .i64 n, .int .i64 noughts, .int .i64 at', .int .u8 c] w (Yes w) := by
  have HL := Lib.hid (lives_any w hT)
  have hlen := digL_len20 n hn
  have HD := Lib.hid (fun W => digits_any n n W (Nat.le_refl _) hn)
  clear hT
  go_enter Tryd.func6, Tryd.ntmps6
  go_wp2_with fail
  refine HL.out.mono ?_
  rintro e w1 ⟨rfl, hb⟩
  have HB := Lib.hid hb
  clear hb
  go_wp2_with fail
  refine (pick_any noughts 30 w1 (by omega) (by omega)).mono ?_
  rintro e w' ⟨k, hk, rfl, rfl⟩
  go_wp2_with fail
  refine (times_any k w1 (by omega)).mono ?_
  rintro e w' ⟨rfl, rfl⟩
  go_wp2_with fail
  refine (HD.out w1).mono ?_
  rintro e w' ⟨rfl, rfl⟩
  have hsz : (mkS (List.replicate k 48)).size + (mkS (digL n)).size ≤ 9223372036854775807 := by rw [size_mkS, size_mkS, List.length_replicate]; omega
  have hcat : mkS (List.replicate k 48) ++ mkS (digL n) = mkS (List.replicate k 48 ++ digL n) := mkS_append _ _
  have hl2 : (List.replicate k 48 ++ digL n).length ≤ 50 := by rw [List.length_append, List.length_replicate]; omega
  have HZ := Lib.hid (num_zeros k n)
  generalize List.replicate k 48 ++ digL n = l at *
  go_wp2_with fail
  refine (number_at l w1 (by omega)).mono ?_
  rintro e w' ⟨rfl, rfl⟩
  rw [HZ.out]
  have hp := pick_any at' (l.length + 1) w1 (by omega) (by omega)
  rw [show (((l.length + 1 : Nat)) : Int) = (l.length : Int) + 1 from rfl] at hp
  have HP := Lib.hid hp
  have hsl := size_mkS l
  clear hp
  rw [if_neg hmx]
  have hm1 : (n : Int) ≤ 9007199254740991 := by unfold maxN at hmx; omega
  clear hmx
  go_wp2_with fail
  refine HP.out.mono ?_
  rintro e w' ⟨a, ha, rfl, rfl⟩
  have hcv := run_one c hc w1.heap.size (w1.alloc (.cells #[.int .u8 c] 5)).drew (by simp)
  have z1 : ((mkS l).extract 0 a).size = a := by rw [← length_bs, bs_extract, bs_mkS, List.length_take, List.length_drop]; omega
  have z2 : (mkS [UInt8.ofNat c]).size = 1 := rfl
  have z4 : ((mkS l).extract a l.length).size = l.length - a := by rw [← length_bs, bs_extract, bs_mkS, List.length_take, List.length_drop]; omega
  have hm := number_at (l.take a ++ [UInt8.ofNat c] ++ l.drop a) (w1.alloc (.cells #[.int .u8 c] 5)).drew (by simp; omega)
  have hx : mkS (l.take a ++ [UInt8.ofNat c] ++ l.drop a) = (mkS l).extract 0 a ++ mkS [UInt8.ofNat c] ++ (mkS l).extract a l.length := by
    rw [extract_mkS, extract_mkS, mkS_append, mkS_append, bs_mkS]
    rw [List.drop_zero, Nat.sub_zero, List.take_of_length_le (l := l.drop a) (by rw [List.length_drop]; exact Nat.le_refl _)]
  rw [hx] at hm
  have hbad : isDig (UInt8.ofNat c) = false → (numL (l.take a ++ [UInt8.ofNat c] ++ l.drop a)).2 = 4 := fun h => by rw [num_bad _ _ _ h]
  generalize numL (l.take a ++ [UInt8.ofNat c] ++ l.drop a) = r at *
  obtain ⟨r1, r2⟩ := r
  have HM := Lib.hid hm
  have HBAD := Lib.hid hbad
  clear hm hx hbad
  go_wp2_with fail
  go_region_with ((go_at_call 31; refine HM.out.mono ?_; rintro e w' ⟨rfl, rfl⟩))
  all_goals
    by_cases hd : isDig (UInt8.ofNat c) = true
    · have h48 : (48 : Int) ≤ c := by unfold isDig at hd; rw [UInt8.toNat_ofNat'] at hd; simp at hd; omega
      have h57 : (c : Int) ≤ 57 := by unfold isDig at hd; rw [UInt8.toNat_ofNat'] at hd; simp at hd; omega
      clear hd
      go_wp2_with fail
      go_ret
      exact ⟨rfl, (HB.out.alloc HB.out.size _).drew⟩
    · obtain rfl : r2 = 4 := HBAD.out (by simpa using hd)
      have h45 : (c : Int) < 48 ∨ (57 : Int) < c := by
        unfold isDig at hd; rw [UInt8.toNat_ofNat'] at hd; simp at hd; omega
      clear hd
      rcases h45 with h4 | h5
      · go_wp2_with fail
        go_ret
        exact ⟨rfl, (HB.out.alloc HB.out.size _).drew⟩
      · have h4 : (48 : Int) ≤ c := by omega
        go_wp2_with fail
        go_ret
        exact ⟨rfl, (HB.out.alloc HB.out.size _).drew⟩
end Tk
end Go.Proofs.YtogdmhgblceddaaDoor
