/- date: the three formats read. -/
import Derived.Test.YtajmheblbnodjaaDoorDtK
import Derived.Test.YtajmheblbnodjaaDoorDtG
import Derived.Test.YtajmheblbnodjaaDoorTrm
import Derived.Deep.Cut
namespace Go.Proofs.YtajmheblbnodjaaDoor
open Go.RowKit
namespace Tk

theorem textA : TextF 31 fA := ⟨enters_of Tryd.func31 (by kernel_rfl) rfl, fun c W h hr => fixdate_any c W h hr⟩
theorem textB : TextF 55 fB := ⟨enters_of Tryd.func55 (by kernel_rfl) rfl, fun c W h hr => rfc850_any c W h hr⟩
theorem textC : TextF 57 fC := ⟨enters_of Tryd.func57 (by kernel_rfl) rfl, fun c W h hr => asctime_any c W h hr⟩

theorem wr_keep {F : FuncId} {f : Cv → Bs} (s : ByteArray) (w : World) (hF : TextF F f) (hN : NamH w) :
    ∀ (M D T : ByteArray) (y : Int) (W : World), Below w.heap.size w W → M.size ≤ 1000000 → D.size ≤ 1000000 → T.size = 8 →
      Calls Tryd.prog 52 #[.string s, .func (.func F) #[] #[], .int .i64 y, .string M, .string D, .string T] W fun e w' => e = .returned (.tuple #[.int .i64 (optV (wr f (bs s) y (bs M) (bs D) (bs T))), .int .i64 (optE (wr f (bs s) y (bs M) (bs D) (bs T)))]) ∧ Below w.heap.size w w' := by
  intro M D T y W hb hM hD hT
  exact (written_any F f s M D T y W hF (hN.later hb) hM hD hT).mono fun e w' ⟨he, hb2⟩ => ⟨he, hb.trans (hb2.mono hb.size)⟩

set_option maxHeartbeats 8000000 in
set_option maxRecDepth 100000 in
theorem parseFixdate_any (s : ByteArray) (now : Int) (w : World) (hN : NamH w) (_hs : s.size ≤ 1000000) :
    Calls Tryd.prog 33 #[.string s, .int .i64 now] w (OptPost (wrA (bs s)) w) := by
  unfold OptPost
  by_cases hl : s.size = 29
  · have hv : wrA (bs s) = wr fA (bs s) (numP (bs (s.extract 12 16))) (bs (s.extract 8 11)) (bs (s.extract 5 7)) (bs (s.extract 17 25)) := by
      unfold wrA; rw [if_pos (by rw [length_bs]; exact hl), bs_extract, bs_extract, bs_extract, bs_extract]
    have HV := Lib.hid hv
    have HWr := Lib.hid (wr_keep s w textA hN)
    have HNn := Lib.hid (fun X W hX => number1_any X W hX)
    have jb : Below w.heap.size w w.drew := (Below.refl _ _).drew
    clear hv hN
    generalize wrA (bs s) = R at *
    go_enter Tryd.func33, Tryd.ntmps33
    go_upto_region 3 with (fail)
    go_region_held3 (fun w' => Below w.heap.size w w') (first | assumption) (first
      | (go_at_call 53; refine (HNn.out _ _ (by rw [ByteArray.size_extract]; omega)).mono ?_; rintro e w' ⟨rfl, rfl⟩)
      | (go_at_call 52; refine (HWr.out _ _ _ _ _ (by assumption) (by rw [ByteArray.size_extract]; omega) (by rw [ByteArray.size_extract]; omega) (by rw [ByteArray.size_extract]; omega)).mono ?_; rintro e w' ⟨rfl, kb⟩))
    all_goals
      go_wp2_with fail
      go_ret2
      exact ⟨ret2 (by rw [HV.out]) (by rw [HV.out]), by assumption⟩
  · have e1 : ((s.size : Int) == 29) = false := by rw [beq_eq_false_iff_ne]; omega
    have HV := Lib.hid (show wrA (bs s) = none by unfold wrA; rw [if_neg (by rw [length_bs]; exact hl)])
    clear hN hl
    generalize wrA (bs s) = R at *
    go_enter Tryd.func33, Tryd.ntmps33
    go_wp2_with fail
    go_ret2
    exact ⟨ret2 (by rw [HV.out]; rfl) (by rw [HV.out]; rfl), Below.refl _ _⟩

set_option maxHeartbeats 8000000 in
set_option maxRecDepth 100000 in
theorem parseAsctime_any (s : ByteArray) (now : Int) (w : World) (hN : NamH w) (_hs : s.size ≤ 1000000) :
    Calls Tryd.prog 35 #[.string s, .int .i64 now] w (OptPost (wrC (bs s)) w) := by
  unfold OptPost
  by_cases hl : s.size = 24
  · have hv : wrC (bs s) = wr fC (bs s) (numP (bs (s.extract 20 24))) (bs (s.extract 4 7)) (bs (mkS (trimL (bs (s.extract 8 10))))) (bs (s.extract 11 19)) := by
      unfold wrC; rw [if_pos (by rw [length_bs]; exact hl), bs_extract, bs_extract, bs_extract, bs_extract, bs_mkS, List.take_of_length_le (l := (bs s).drop 20) (by rw [List.length_drop, length_bs]; omega)]
    have HV := Lib.hid hv
    have HWr := Lib.hid (wr_keep s w textC hN)
    have HNn := Lib.hid (fun X W hX => number1_any X W hX)
    have HTr : Hid (∀ (X : ByteArray) (W : World), Below w.heap.size w W → X.size ≤ 1000 → Calls Tryd.prog 58 #[.string X] W fun e w' => e = .returned (.string (mkS (trimL (bs X)))) ∧ Below w.heap.size w w') := by
      intro X W hb hX
      exact (show Calls Tryd.prog 58 #[.string X] W (fun e w' => e = .returned (.string (mkS (trimL (bs X)))) ∧ Below W.heap.size W w') from trim_any X W (by omega)).mono fun e w' ⟨he, hb2⟩ => ⟨he, hb.trans (hb2.mono hb.size)⟩
    have HTs : Hid ((mkS (trimL (bs (s.extract 8 10)))).size ≤ 1000000) := by
      show _ ≤ _
      have h2 : (bs (s.extract 8 10)).length ≤ 2 := by rw [length_bs, ByteArray.size_extract]; omega
      have h3 := trim_sublist (bs (s.extract 8 10))
      rw [size_mkS]; omega
    have jb : Below w.heap.size w w.drew := (Below.refl _ _).drew
    clear hv hN
    generalize wrC (bs s) = R at *
    go_enter Tryd.func35, Tryd.ntmps35
    go_upto_region 3 with (fail)
    go_region_held3 (fun w' => Below w.heap.size w w') (first | assumption) (first
      | (go_at_call 53; refine (HNn.out _ _ (by rw [ByteArray.size_extract]; omega)).mono ?_; rintro e w' ⟨rfl, rfl⟩)
      | (go_at_call 58; refine (HTr.out _ _ (by assumption) (by rw [ByteArray.size_extract]; omega)).mono ?_; rintro e w' ⟨rfl, kb⟩)
      | (go_at_call 52; refine (HWr.out _ _ _ _ _ (by assumption) (by rw [ByteArray.size_extract]; omega) HTs.out (by rw [ByteArray.size_extract]; omega)).mono ?_; rintro e w' ⟨rfl, kb⟩))
    all_goals
      go_wp2_with fail
      go_ret2
      exact ⟨ret2 (by rw [HV.out, bs_mkS]) (by rw [HV.out, bs_mkS]), by assumption⟩
  · have e1 : ((s.size : Int) == 24) = false := by rw [beq_eq_false_iff_ne]; omega
    have HV := Lib.hid (show wrC (bs s) = none by unfold wrC; rw [if_neg (by rw [length_bs]; exact hl)])
    clear hN hl
    generalize wrC (bs s) = R at *
    go_enter Tryd.func35, Tryd.ntmps35
    go_wp2_with fail
    go_ret2
    exact ⟨ret2 (by rw [HV.out]; rfl) (by rw [HV.out]; rfl), Below.refl _ _⟩

set_option maxHeartbeats 8000000 in
set_option maxRecDepth 100000 in
theorem parseRFC850_any (s : ByteArray) (now : Int) (w : World) (hN : NamH w) (hs : s.size ≤ 1000000) (hn : 1970 ≤ now ∧ now ≤ 9999) :
    Calls Tryd.prog 34 #[.string s, .int .i64 now] w (OptPost (wrB (bs s) now) w) := by
  obtain ⟨m, hm⟩ := hN.mxl
  have hC : Calls Tryd.prog 54 #[.string s, .string ⟨#[44, 32]⟩] w fun e w' => e = .returned (.tuple #[.string (mkS (Lib.cut (bs s) [44, 32]).1), .string (mkS (bhd (bs s))), .bool (Lib.cut (bs s) [44, 32]).2.2]) ∧ Below w.heap.size w w' :=
    (Tryd.strings_Cut s ⟨#[44, 32]⟩ m w (by omega) hm).mono fun e w' ⟨he, n, hw⟩ => ⟨he, hw ▸ bdrN (Below.refl _ _) n⟩
  have HC := Lib.hid hC
  have HK : Hid (∀ w1, Below w.heap.size w w1 → NamH w1) := fun w1 hb => hN.later hb
  have hB : wrB (bs s) now = if (bhd (bs s)).length = 22 then wr fB (bs s) (lateY (numP (((bhd (bs s)).drop 7).take 2)) now) (((bhd (bs s)).drop 3).take 3) ((bhd (bs s)).take 2) (((bhd (bs s)).drop 10).take 8) else none := rfl
  unfold OptPost
  clear hC hm hN
  generalize (Lib.cut (bs s) [44, 32]).1 = X1 at *
  generalize (Lib.cut (bs s) [44, 32]).2.2 = X3 at *
  generalize bhd (bs s) = Y at *
  obtain ⟨D, hD⟩ : ∃ D, D = mkS Y := ⟨_, rfl⟩
  have hy : bs D = Y := by rw [hD, bs_mkS]
  rw [← hD] at HC
  rw [← hy] at hB
  clear hD hy
  by_cases hl : D.size = 22
  · have hv : wrB (bs s) now = wr fB (bs s) (lateY (numP (bs (D.extract 7 9))) now) (bs (D.extract 3 6)) (bs (D.extract 0 2)) (bs (D.extract 10 18)) := by
      rw [hB, if_pos (by rw [length_bs]; exact hl), bs_extract, bs_extract, bs_extract, bs_extract]; rfl
    have HV := Lib.hid hv
    have HWr : Hid (∀ w1, Below w.heap.size w w1 → ∀ (M D T : ByteArray) (y : Int) (W : World), Below w1.heap.size w1 W → M.size ≤ 1000000 → D.size ≤ 1000000 → T.size = 8 →
      Calls Tryd.prog 52 #[.string s, .func (.func 55) #[] #[], .int .i64 y, .string M, .string D, .string T] W fun e w' => e = .returned (.tuple #[.int .i64 (optV (wr fB (bs s) y (bs M) (bs D) (bs T))), .int .i64 (optE (wr fB (bs s) y (bs M) (bs D) (bs T)))]) ∧ Below w1.heap.size w1 w') := fun w1 hb => wr_keep s w1 textB (HK.out w1 hb)
    have HNn := Lib.hid (fun X W hX => number1_any X W hX)
    have b1 := numP_small (bs (D.extract 7 9)) (by rw [length_bs, ByteArray.size_extract]; omega)
    have HFy := Lib.hid (fun W => fullYear_any (numP (bs (D.extract 7 9))) now W (by omega) (by omega))
    clear hv hB HK
    generalize wrB (bs s) now = R at *
    go_enter Tryd.func34, Tryd.ntmps34
    go_wp2_with fail
    refine HC.out.mono ?_
    rintro e w1 ⟨rfl, hb⟩
    have HB1 := Lib.hid hb
    have HW1 := Lib.hid (HWr.out w1 hb)
    have jb : Below w1.heap.size w1 w1.drew := (Below.refl _ _).drew
    clear hb HWr HC
    go_upto_region 4 with (fail)
    go_region_held3 (fun w' => Below w1.heap.size w1 w') (first | assumption) (first
      | (go_at_call 53; refine (HNn.out _ _ (by rw [ByteArray.size_extract]; omega)).mono ?_; rintro e w' ⟨rfl, rfl⟩)
      | (go_at_call 56; refine (HFy.out _).mono ?_; rintro e w' ⟨rfl, rfl⟩)
      | (go_at_call 52; refine (HW1.out _ _ _ _ _ (by assumption) (by rw [ByteArray.size_extract]; omega) (by rw [ByteArray.size_extract]; omega) (by rw [ByteArray.size_extract]; omega)).mono ?_; rintro e w' ⟨rfl, kb⟩))
    all_goals
      go_wp2_with fail
      go_ret2
      exact ⟨ret2 (by rw [HV.out]) (by rw [HV.out]), HB1.out.trans (Below.mono (by assumption) HB1.out.size)⟩
  · have e1 : ((D.size : Int) == 22) = false := by rw [beq_eq_false_iff_ne]; omega
    have HV := Lib.hid (show wrB (bs s) now = none by rw [hB, if_neg (by rw [length_bs]; exact hl)])
    clear hl hB HK
    generalize wrB (bs s) now = R at *
    go_enter Tryd.func34, Tryd.ntmps34
    go_wp2_with fail
    refine HC.out.mono ?_
    rintro e w1 ⟨rfl, hb⟩
    have HB1 := Lib.hid hb
    clear hb
    go_wp2_with fail
    go_ret2
    exact ⟨ret2 (by rw [HV.out]; rfl) (by rw [HV.out]; rfl), HB1.out⟩
end Tk
end Go.Proofs.YtajmheblbnodjaaDoor
