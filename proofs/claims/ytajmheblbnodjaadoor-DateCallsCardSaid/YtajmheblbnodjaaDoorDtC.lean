/- date: the names of days and months, and the texts of numbers. -/
import Derived.Test.YtajmheblbnodjaaDoorDtB
import Derived.Lib.AppendIntMem
import Derived.Lib.ItoaMem
import Derived.Lib.LaidTab
import Derived.ProofKit
import Derived.Deep.RegionHeld3
namespace Go.Proofs.YtajmheblbnodjaaDoor
open Go.RowKit Go.ChangeShapes Go.WideShapes
namespace Tk

/-- what the library's and the package's tables hold -/
structure NamH (w : World) : Prop where
  big : 3 < w.heap.size ∧ 0 < w.heap.size ∧ 1 < w.heap.size ∧ 2 < w.heap.size
  tab : Lib.TabIs Tryd.prog w "internal/strconv.uint64pow10" .u64 Lib.pow10Tab
  day : ∃ t fr, w.heap[0]? = some (.cells ((dN.map fun l => Value.string (mkS l)).toArray) t fr)
  mon : ∃ t fr, w.heap[1]? = some (.cells ((mN.map fun l => Value.string (mkS l)).toArray) t fr)
  mxl : ∃ m, w.cell? ⟨2, 0, none⟩ = some (.int .i64 m)
theorem gTenD : Tryd.prog.globalNamed "internal/strconv.uint64pow10" = some 3 := by kernel_rfl
theorem NamH.later {w w' : World} (h : NamH w) (hb : Below w.heap.size w w') : NamH w' := by
  obtain ⟨⟨b1, b2, b3, b4⟩, ht, ⟨t1, f1, hd⟩, ⟨t2, f2, hm⟩, m, hx⟩ := h
  have hs := hb.size
  refine ⟨⟨by omega, by omega, by omega, by omega⟩, var?_below hb gTenD b1 ht, ⟨t1, f1, ?_⟩, ⟨t2, f2, ?_⟩, m, ?_⟩
  · rw [hb.block _ b2]; exact hd
  · rw [hb.block _ b3]; exact hm
  · rw [hb.cell (by exact b4)]; exact hx
theorem NamH.dayC {w : World} (h : NamH w) (k : Nat) (hk : k < 7) : w.cell? ⟨0, k, none⟩ = some (.string (mkS (dN.getD k []))) := by
  obtain ⟨t, fr, e⟩ := h.day
  rw [Lib.cell_of_heap e]
  have : k = 0 ∨ k = 1 ∨ k = 2 ∨ k = 3 ∨ k = 4 ∨ k = 5 ∨ k = 6 := by omega
  rcases this with rfl | rfl | rfl | rfl | rfl | rfl | rfl <;> rfl
theorem NamH.monC {w : World} (h : NamH w) (k : Nat) (hk : k < 12) : w.cell? ⟨1, k, none⟩ = some (.string (mkS (mN.getD k []))) := by
  obtain ⟨t, fr, e⟩ := h.mon
  rw [Lib.cell_of_heap e]
  have : k = 0 ∨ k = 1 ∨ k = 2 ∨ k = 3 ∨ k = 4 ∨ k = 5 ∨ k = 6 ∨ k = 7 ∨ k = 8 ∨ k = 9 ∨ k = 10 ∨ k = 11 := by omega
  rcases this with rfl | rfl | rfl | rfl | rfl | rfl | rfl | rfl | rfl | rfl | rfl | rfl <;> rfl

theorem decD : ∀ (k u : Nat), u ≤ k → Lib.decDigits u = digL u
  | 0, u, h => by
    obtain rfl : u = 0 := by omega
    rw [Lib.decDigits_one (by omega), digL_small 0 (by omega)]
  | k + 1, u, h => by
    by_cases hu : u < 10
    · rw [Lib.decDigits_one hu, digL_small u hu]
    · rw [Lib.decDigits, dif_neg hu, digL, dif_neg hu, decD k (u / 10) (by omega)]
theorem itoaD_any (n : Nat) (w : World) (hT : NamH w) (h1 : n ≤ 9223372036854775807) :
    Calls Tryd.prog 46 #[.int .i64 (n : Int)] w fun e w' => e = .returned (.string (mkS (digL n))) ∧ Below w.heap.size w w' :=
  (Tryd.strconv_Itoa (n : Int) (by omega) (by omega) w hT.tab).mono fun e w' ⟨h1, _, _, h2⟩ => ⟨by
    rw [h1, Lib.itoa_nonneg, decD n n (Nat.le_refl _)]; rfl, h2 ▸ Lib.below_grow _ _ (Nat.le_refl _) _ _⟩
theorem digL_two (n : Nat) (h : 10 ≤ n) (h1 : n ≤ 99) : digL n = two n := by
  rw [digL_big n (by omega), digL_small (n / 10) (by omega), digL_small (n % 10) (by omega)]
  unfold two d1
  rw [show ((n : Int) / 10).toNat = n / 10 by omega, show ((n : Int) % 10).toNat = n % 10 by omega]; rfl
theorem digL_hund (n : Nat) (h1 : n ≤ 99) : digL (100 + n) = 49 :: two n := by
  rw [digL_big _ (by omega), digL_big ((100 + n) / 10) (by omega), digL_small ((100 + n) / 10 / 10) (by omega), digL_small ((100 + n) / 10 % 10) (by omega), digL_small ((100 + n) % 10) (by omega)]
  unfold two d1
  rw [show (100 + n) / 10 / 10 = 1 by omega, show (100 + n) / 10 % 10 = ((n : Int) / 10).toNat by omega, show (100 + n) % 10 = ((n : Int) % 10).toNat by omega]; rfl
theorem digL_yr4 (n : Nat) (h : 1000 ≤ n) (h1 : n ≤ 9999) : digL n = yr4 n := by
  rw [digL_big n (by omega), digL_big (n / 10) (by omega), digL_big (n / 10 / 10) (by omega), digL_small (n / 10 / 10 / 10) (by omega), digL_small (n / 10 / 10 % 10) (by omega), digL_small (n / 10 % 10) (by omega), digL_small (n % 10) (by omega)]
  unfold yr4 two d1
  rw [show n / 10 / 10 / 10 = ((n : Int) / 100 / 10).toNat by omega, show n / 10 / 10 % 10 = ((n : Int) / 100 % 10).toNat by omega, show n / 10 % 10 = ((n : Int) % 100 / 10).toNat by omega, show n % 10 = ((n : Int) % 100 % 10).toNat by omega]; rfl
theorem retS {a b : ByteArray} (h : a = b) : Ending.returned (.string a) = .returned (.string b) := by rw [h]

set_option maxHeartbeats 1000000 in
theorem two_any (n : Int) (w : World) (hT : NamH w) (hn : 0 ≤ n ∧ n ≤ 99) :
    Calls Tryd.prog 45 #[.int .i64 n] w fun e w' => e = .returned (.string (mkS (two n))) ∧ Below w.heap.size w w' := by
  have h := itoaD_any (100 + n.toNat) w hT (by omega)
  rw [digL_hund _ (by omega), show (((100 + n.toNat : Nat)) : Int) = 100 + n by omega, show ((n.toNat : Nat) : Int) = n by omega] at h
  have HI := Lib.hid h
  have hsz : (mkS (49 :: two n)).size = 3 := by rw [size_mkS]; rfl
  have HV := Lib.hid (show (mkS (49 :: two n)).extract 1 3 = mkS (two n) by rw [extract_mkS]; rfl)
  clear h hT
  generalize mkS (49 :: two n) = A at *
  go_enter Tryd.func45, Tryd.ntmps45
  go_wp2_with fail
  refine HI.out.mono ?_
  rintro e w1 ⟨rfl, hb⟩
  have HB := Lib.hid hb
  clear hb
  go_wp2_with fail
  go_ret
  exact ⟨retS HV.out, HB.out⟩

theorem number1_any (s : ByteArray) (w : World) (hs : s.size ≤ 1099511627776) :
    Calls Tryd.prog 53 #[.string s] w fun e w' => e = .returned (.int .i64 (numP (bs s))) ∧ w = w' := by
  have HN := Lib.hid (number_any s w hs)
  have HV := Lib.hid (show ((numL (bs s)).1 : Int) = numP (bs s) from rfl)
  generalize numL (bs s) = N at *
  obtain ⟨a, b⟩ := N
  go_enter Tryd.func53, Tryd.ntmps53
  go_wp2_with fail
  refine HN.out.mono ?_
  rintro e w' ⟨rfl, rfl⟩
  go_wp2_with fail
  go_ret
  exact ⟨retId HV.out, rfl⟩

theorem fullYear_any (n now : Int) (w : World) (hn : 0 ≤ n ∧ n ≤ 1000000) (hw : 0 ≤ now ∧ now ≤ 1000000) :
    Calls Tryd.prog 56 #[.int .i64 n, .int .i64 now] w fun e w' => e = .returned (.int .i64 (lateY n now)) ∧ w = w' := by
  have h1 := hn
  have h2 := hw
  cases e1 : decide (now + 50 < now - now % 100 + n)
  · have HV := Lib.hid (show (if now + 50 < now - now % 100 + n then now - now % 100 + n - 100 else now - now % 100 + n) = now - now % 100 + n from if_neg (of_decide_eq_false e1))
    cases e2 : decide (now - now % 100 + n < 1970)
    · have HW := Lib.hid (show lateY n now = now - now % 100 + n by unfold lateY; rw [HV.out, if_neg (of_decide_eq_false e2)])
      clear HV
      go_enter Tryd.func56, Tryd.ntmps56
      go_wp2_with fail
      go_ret
      exact ⟨retId HW.out.symm, rfl⟩
    · have HW := Lib.hid (show lateY n now = now - now % 100 + n + 100 by unfold lateY; rw [HV.out, if_pos (of_decide_eq_true e2)])
      clear HV
      go_enter Tryd.func56, Tryd.ntmps56
      go_wp2_with fail
      go_ret
      exact ⟨retId HW.out.symm, rfl⟩
  · have HV := Lib.hid (show (if now + 50 < now - now % 100 + n then now - now % 100 + n - 100 else now - now % 100 + n) = now - now % 100 + n - 100 from if_pos (of_decide_eq_true e1))
    cases e2 : decide (now - now % 100 + n - 100 < 1970)
    · have HW := Lib.hid (show lateY n now = now - now % 100 + n - 100 by unfold lateY; rw [HV.out, if_neg (of_decide_eq_false e2)])
      clear HV
      go_enter Tryd.func56, Tryd.ntmps56
      go_wp2_with fail
      go_ret
      exact ⟨retId HW.out.symm, rfl⟩
    · have HW := Lib.hid (show lateY n now = now - now % 100 + n - 100 + 100 by unfold lateY; rw [HV.out, if_pos (of_decide_eq_true e2)])
      clear HV
      go_enter Tryd.func56, Tryd.ntmps56
      go_wp2_with fail
      go_ret
      exact ⟨retId (by rw [HW.out]; omega), rfl⟩
end Tk
end Go.Proofs.YtajmheblbnodjaaDoor
