/- DateNames: the law. -/
import Derived.Test.YtdpfeedpnnicjaaDoorLawDb
namespace Go.Proofs.YtdpfeedpnnicjaaDoor
open Go.RowKit
namespace Tk

theorem nm_p0 : pP [83, 117, 110, 100, 97, 121, 44, 32, 48, 54, 45, 78, 111, 118, 45, 57, 52, 32, 48, 56, 58, 52, 57, 58, 51, 55, 32, 71, 77, 84] (yNow 784111777) = some 784111777 := by decide +kernel
theorem nm_prs0 (w : World) (hN : NamH w) : ∀ W, Below w.heap.size w W → Calls Tryd.prog 9 #[.string ⟨#[83, 117, 110, 100, 97, 121, 44, 32, 48, 54, 45, 78, 111, 118, 45, 57, 52, 32, 48, 56, 58, 52, 57, 58, 51, 55, 32, 71, 77, 84]⟩, .int .i64 784111777] W fun e w' => e = .returned (.tuple #[.int .i64 784111777, .int .i64 0]) ∧ Below W.heap.size W w' := by
  intro W hb
  have hp := prs_bel ⟨#[83, 117, 110, 100, 97, 121, 44, 32, 48, 54, 45, 78, 111, 118, 45, 57, 52, 32, 48, 56, 58, 52, 57, 58, 51, 55, 32, 71, 77, 84]⟩ 784111777 w hN (by decide) W hb
  rw [show bs ⟨#[83, 117, 110, 100, 97, 121, 44, 32, 48, 54, 45, 78, 111, 118, 45, 57, 52, 32, 48, 56, 58, 52, 57, 58, 51, 55, 32, 71, 77, 84]⟩ = [83, 117, 110, 100, 97, 121, 44, 32, 48, 54, 45, 78, 111, 118, 45, 57, 52, 32, 48, 56, 58, 52, 57, 58, 51, 55, 32, 71, 77, 84] from rfl, nm_p0] at hp
  exact hp
theorem nm_p1 : pP [83, 117, 110, 32, 78, 111, 118, 32, 32, 54, 32, 48, 56, 58, 52, 57, 58, 51, 55, 32, 49, 57, 57, 52] (yNow 0) = some 784111777 := by decide +kernel
theorem nm_prs1 (w : World) (hN : NamH w) : ∀ W, Below w.heap.size w W → Calls Tryd.prog 9 #[.string ⟨#[83, 117, 110, 32, 78, 111, 118, 32, 32, 54, 32, 48, 56, 58, 52, 57, 58, 51, 55, 32, 49, 57, 57, 52]⟩, .int .i64 0] W fun e w' => e = .returned (.tuple #[.int .i64 784111777, .int .i64 0]) ∧ Below W.heap.size W w' := by
  intro W hb
  have hp := prs_bel ⟨#[83, 117, 110, 32, 78, 111, 118, 32, 32, 54, 32, 48, 56, 58, 52, 57, 58, 51, 55, 32, 49, 57, 57, 52]⟩ 0 w hN (by decide) W hb
  rw [show bs ⟨#[83, 117, 110, 32, 78, 111, 118, 32, 32, 54, 32, 48, 56, 58, 52, 57, 58, 51, 55, 32, 49, 57, 57, 52]⟩ = [83, 117, 110, 32, 78, 111, 118, 32, 32, 54, 32, 48, 56, 58, 52, 57, 58, 51, 55, 32, 49, 57, 57, 52] from rfl, nm_p1] at hp
  exact hp
theorem nm_p2 : pP [77, 111, 110, 44, 32, 48, 54, 32, 78, 111, 118, 32, 49, 57, 57, 52, 32, 48, 56, 58, 52, 57, 58, 51, 55, 32, 71, 77, 84] (yNow 0) = none := by decide +kernel
theorem nm_prs2 (w : World) (hN : NamH w) : ∀ W, Below w.heap.size w W → Calls Tryd.prog 9 #[.string ⟨#[77, 111, 110, 44, 32, 48, 54, 32, 78, 111, 118, 32, 49, 57, 57, 52, 32, 48, 56, 58, 52, 57, 58, 51, 55, 32, 71, 77, 84]⟩, .int .i64 0] W fun e w' => e = .returned (.tuple #[.int .i64 0, .int .i64 4]) ∧ Below W.heap.size W w' := by
  intro W hb
  have hp := prs_bel ⟨#[77, 111, 110, 44, 32, 48, 54, 32, 78, 111, 118, 32, 49, 57, 57, 52, 32, 48, 56, 58, 52, 57, 58, 51, 55, 32, 71, 77, 84]⟩ 0 w hN (by decide) W hb
  rw [show bs ⟨#[77, 111, 110, 44, 32, 48, 54, 32, 78, 111, 118, 32, 49, 57, 57, 52, 32, 48, 56, 58, 52, 57, 58, 51, 55, 32, 71, 77, 84]⟩ = [77, 111, 110, 44, 32, 48, 54, 32, 78, 111, 118, 32, 49, 57, 57, 52, 32, 48, 56, 58, 52, 57, 58, 51, 55, 32, 71, 77, 84] from rfl, nm_p2] at hp
  exact hp
theorem nm_p3 : pP [83, 117, 110, 44, 32, 48, 54, 32, 78, 111, 118, 32, 49, 57, 57, 52, 32, 48, 56, 58, 52, 57, 58, 54, 48, 32, 71, 77, 84] (yNow 0) = none := by decide +kernel
theorem nm_prs3 (w : World) (hN : NamH w) : ∀ W, Below w.heap.size w W → Calls Tryd.prog 9 #[.string ⟨#[83, 117, 110, 44, 32, 48, 54, 32, 78, 111, 118, 32, 49, 57, 57, 52, 32, 48, 56, 58, 52, 57, 58, 54, 48, 32, 71, 77, 84]⟩, .int .i64 0] W fun e w' => e = .returned (.tuple #[.int .i64 0, .int .i64 4]) ∧ Below W.heap.size W w' := by
  intro W hb
  have hp := prs_bel ⟨#[83, 117, 110, 44, 32, 48, 54, 32, 78, 111, 118, 32, 49, 57, 57, 52, 32, 48, 56, 58, 52, 57, 58, 54, 48, 32, 71, 77, 84]⟩ 0 w hN (by decide) W hb
  rw [show bs ⟨#[83, 117, 110, 44, 32, 48, 54, 32, 78, 111, 118, 32, 49, 57, 57, 52, 32, 48, 56, 58, 52, 57, 58, 54, 48, 32, 71, 77, 84]⟩ = [83, 117, 110, 44, 32, 48, 54, 32, 78, 111, 118, 32, 49, 57, 57, 52, 32, 48, 56, 58, 52, 57, 58, 54, 48, 32, 71, 77, 84] from rfl, nm_p3] at hp
  exact hp
theorem nm_p4 : pP [115, 117, 110, 44, 32, 48, 54, 32, 78, 111, 118, 32, 49, 57, 57, 52, 32, 48, 56, 58, 52, 57, 58, 51, 55, 32, 71, 77, 84] (yNow 0) = none := by decide +kernel
theorem nm_prs4 (w : World) (hN : NamH w) : ∀ W, Below w.heap.size w W → Calls Tryd.prog 9 #[.string ⟨#[115, 117, 110, 44, 32, 48, 54, 32, 78, 111, 118, 32, 49, 57, 57, 52, 32, 48, 56, 58, 52, 57, 58, 51, 55, 32, 71, 77, 84]⟩, .int .i64 0] W fun e w' => e = .returned (.tuple #[.int .i64 0, .int .i64 4]) ∧ Below W.heap.size W w' := by
  intro W hb
  have hp := prs_bel ⟨#[115, 117, 110, 44, 32, 48, 54, 32, 78, 111, 118, 32, 49, 57, 57, 52, 32, 48, 56, 58, 52, 57, 58, 51, 55, 32, 71, 77, 84]⟩ 0 w hN (by decide) W hb
  rw [show bs ⟨#[115, 117, 110, 44, 32, 48, 54, 32, 78, 111, 118, 32, 49, 57, 57, 52, 32, 48, 56, 58, 52, 57, 58, 51, 55, 32, 71, 77, 84]⟩ = [115, 117, 110, 44, 32, 48, 54, 32, 78, 111, 118, 32, 49, 57, 57, 52, 32, 48, 56, 58, 52, 57, 58, 51, 55, 32, 71, 77, 84] from rfl, nm_p4] at hp
  exact hp
theorem nm_p5 : pP [] (yNow 0) = none := by decide +kernel
theorem nm_prs5 (w : World) (hN : NamH w) : ∀ W, Below w.heap.size w W → Calls Tryd.prog 9 #[.string ⟨#[]⟩, .int .i64 0] W fun e w' => e = .returned (.tuple #[.int .i64 0, .int .i64 4]) ∧ Below W.heap.size W w' := by
  intro W hb
  have hp := prs_bel ⟨#[]⟩ 0 w hN (by decide) W hb
  rw [show bs ⟨#[]⟩ = [] from rfl, nm_p5] at hp
  exact hp
theorem nm_p6 : pP [70, 114, 105, 100, 97, 121, 44, 32, 48, 49, 45, 74, 97, 110, 45, 57, 57, 32, 48, 48, 58, 48, 48, 58, 48, 48, 32, 71, 77, 84] (yNow 1704067200) = some 915148800 := by decide +kernel
theorem nm_prs6 (w : World) (hN : NamH w) : ∀ W, Below w.heap.size w W → Calls Tryd.prog 9 #[.string ⟨#[70, 114, 105, 100, 97, 121, 44, 32, 48, 49, 45, 74, 97, 110, 45, 57, 57, 32, 48, 48, 58, 48, 48, 58, 48, 48, 32, 71, 77, 84]⟩, .int .i64 1704067200] W fun e w' => e = .returned (.tuple #[.int .i64 915148800, .int .i64 0]) ∧ Below W.heap.size W w' := by
  intro W hb
  have hp := prs_bel ⟨#[70, 114, 105, 100, 97, 121, 44, 32, 48, 49, 45, 74, 97, 110, 45, 57, 57, 32, 48, 48, 58, 48, 48, 58, 48, 48, 32, 71, 77, 84]⟩ 1704067200 w hN (by decide) W hb
  rw [show bs ⟨#[70, 114, 105, 100, 97, 121, 44, 32, 48, 49, 45, 74, 97, 110, 45, 57, 57, 32, 48, 48, 58, 48, 48, 58, 48, 48, 32, 71, 77, 84]⟩ = [70, 114, 105, 100, 97, 121, 44, 32, 48, 49, 45, 74, 97, 110, 45, 57, 57, 32, 48, 48, 58, 48, 48, 58, 48, 48, 32, 71, 77, 84] from rfl, nm_p6] at hp
  exact hp
theorem nm_p7 : pP [84, 104, 117, 114, 115, 100, 97, 121, 44, 32, 48, 49, 45, 74, 97, 110, 45, 55, 48, 32, 48, 48, 58, 48, 48, 58, 48, 48, 32, 71, 77, 84] (yNow 1704067200) = none := by decide +kernel
theorem nm_prs7 (w : World) (hN : NamH w) : ∀ W, Below w.heap.size w W → Calls Tryd.prog 9 #[.string ⟨#[84, 104, 117, 114, 115, 100, 97, 121, 44, 32, 48, 49, 45, 74, 97, 110, 45, 55, 48, 32, 48, 48, 58, 48, 48, 58, 48, 48, 32, 71, 77, 84]⟩, .int .i64 1704067200] W fun e w' => e = .returned (.tuple #[.int .i64 0, .int .i64 4]) ∧ Below W.heap.size W w' := by
  intro W hb
  have hp := prs_bel ⟨#[84, 104, 117, 114, 115, 100, 97, 121, 44, 32, 48, 49, 45, 74, 97, 110, 45, 55, 48, 32, 48, 48, 58, 48, 48, 58, 48, 48, 32, 71, 77, 84]⟩ 1704067200 w hN (by decide) W hb
  rw [show bs ⟨#[84, 104, 117, 114, 115, 100, 97, 121, 44, 32, 48, 49, 45, 74, 97, 110, 45, 55, 48, 32, 48, 48, 58, 48, 48, 58, 48, 48, 32, 71, 77, 84]⟩ = [84, 104, 117, 114, 115, 100, 97, 121, 44, 32, 48, 49, 45, 74, 97, 110, 45, 55, 48, 32, 48, 48, 58, 48, 48, 58, 48, 48, 32, 71, 77, 84] from rfl, nm_p7] at hp
  exact hp
theorem nm_f0 : fA (civ 0) = [84, 104, 117, 44, 32, 48, 49, 32, 74, 97, 110, 32, 49, 57, 55, 48, 32, 48, 48, 58, 48, 48, 58, 48, 48, 32, 71, 77, 84] := by decide +kernel
theorem nm_fmt0 (w : World) (hN : NamH w) : ∀ W, Below w.heap.size w W → Calls Tryd.prog 10 #[.int .i64 0] W fun e w' => e = .returned (.tuple #[.string (mkS [84, 104, 117, 44, 32, 48, 49, 32, 74, 97, 110, 32, 49, 57, 55, 48, 32, 48, 48, 58, 48, 48, 58, 48, 48, 32, 71, 77, 84]), .int .i64 0]) ∧ Below W.heap.size W w' := by
  have h := fmt_bel 0 w hN (by decide)
  rw [nm_f0] at h
  exact h
theorem nm_f1 : fA (civ 253402300799) = [70, 114, 105, 44, 32, 51, 49, 32, 68, 101, 99, 32, 57, 57, 57, 57, 32, 50, 51, 58, 53, 57, 58, 53, 57, 32, 71, 77, 84] := by decide +kernel
theorem nm_fmt1 (w : World) (hN : NamH w) : ∀ W, Below w.heap.size w W → Calls Tryd.prog 10 #[.int .i64 253402300799] W fun e w' => e = .returned (.tuple #[.string (mkS [70, 114, 105, 44, 32, 51, 49, 32, 68, 101, 99, 32, 57, 57, 57, 57, 32, 50, 51, 58, 53, 57, 58, 53, 57, 32, 71, 77, 84]), .int .i64 0]) ∧ Below W.heap.size W w' := by
  have h := fmt_bel 253402300799 w hN (by decide)
  rw [nm_f1] at h
  exact h
theorem nm_fmt2 (w : World) (hN : NamH w) : ∀ W, Below w.heap.size w W → Calls Tryd.prog 10 #[.int .i64 (-1)] W fun e w' => e = .returned (.tuple #[.string ⟨#[]⟩, .int .i64 2]) ∧ Below W.heap.size W w' := fun W hb => format_any (-1) W (by decide) (hN.later hb)
theorem nm_c : civ 951782400 = ⟨2000, 2, 29, 0, 0, 0, 2⟩ := by decide +kernel
theorem nm_civ (w : World) : ∀ W, Below w.heap.size w W → Calls Tryd.prog 11 #[.int .i64 951782400] W fun e w' => e = .returned (.tuple #[.agg #[.int .i64 2000, .int .i64 2, .int .i64 29, .int .i64 0, .int .i64 0, .int .i64 0, .int .i64 2], .int .i64 0]) ∧ Below W.heap.size W w' := by
  have h := civ_bel 951782400 w (by decide)
  rw [nm_c] at h
  exact h
theorem nm_d0 : dayV 2000 2 29 = 11016 ∧ dayE 2000 2 29 = 0 := by decide +kernel
theorem nm_d1 : dayV 1900 2 29 = 0 ∧ dayE 1900 2 29 = 2 := by decide +kernel
theorem nm_d2 : dayV 2001 2 29 = 0 ∧ dayE 2001 2 29 = 2 := by decide +kernel
theorem nm_d3 : dayV 1969 12 31 = 0 ∧ dayE 1969 12 31 = 2 := by decide +kernel
theorem nm_s0 : secX ⟨2000, 2, 29, 0, 0, 0, 2⟩ = 951782400 ∧ secE ⟨2000, 2, 29, 0, 0, 0, 2⟩ = 0 := by decide +kernel
theorem nm_s1 : secE ⟨2000, 2, 29, 0, 0, 0, 0⟩ = 2 := by decide +kernel
theorem nm_sec0 (w : World) : ∀ W, Below w.heap.size w W → Calls Tryd.prog 13 #[.agg #[.int .i64 2000, .int .i64 2, .int .i64 29, .int .i64 0, .int .i64 0, .int .i64 0, .int .i64 2]] W fun e w' => e = .returned (.tuple #[.int .i64 951782400, .int .i64 0]) ∧ Below W.heap.size W w' := by
  have h := sec_bel ⟨2000, 2, 29, 0, 0, 0, 2⟩ w
  rw [nm_s0.1, nm_s0.2] at h
  exact h
theorem nm_sec1 (w : World) : ∀ W, Below w.heap.size w W → Calls Tryd.prog 13 #[.agg #[.int .i64 2000, .int .i64 2, .int .i64 29, .int .i64 0, .int .i64 0, .int .i64 0, .int .i64 0]] W fun e w' => e = .returned (.tuple #[.int .i64 (secX ⟨2000, 2, 29, 0, 0, 0, 0⟩), .int .i64 2]) ∧ Below W.heap.size W w' := by
  have h := sec_bel ⟨2000, 2, 29, 0, 0, 0, 0⟩ w
  rw [nm_s1] at h
  exact h

set_option maxHeartbeats 40000000 in
set_option maxRecDepth 100000 in
theorem names_any (w : World) (hN : NamH w) :
    Calls Tryd.prog 3 #[] w fun e w' => e = .returned (.bool true) ∧ Below w.heap.size w w' := by
  have HL := Lib.hid (lives9_bel w hN)
  have HP0 := Lib.hid (nm_prs0 w hN)
  have HP1 := Lib.hid (nm_prs1 w hN)
  have HP2 := Lib.hid (nm_prs2 w hN)
  have HP3 := Lib.hid (nm_prs3 w hN)
  have HP4 := Lib.hid (nm_prs4 w hN)
  have HP5 := Lib.hid (nm_prs5 w hN)
  have HP6 := Lib.hid (nm_prs6 w hN)
  have HP7 := Lib.hid (nm_prs7 w hN)
  have HF0 := Lib.hid (nm_fmt0 w hN)
  have HF1 := Lib.hid (nm_fmt1 w hN)
  have HF2 := Lib.hid (nm_fmt2 w hN)
  have HC := Lib.hid (nm_civ w)
  have HS0 := Lib.hid (nm_sec0 w)
  have HS1 := Lib.hid (nm_sec1 w)
  have hd0 := fun W => days_any 2000 2 29 W
  rw [nm_d0.1, nm_d0.2] at hd0
  have HD0 := Lib.hid hd0
  have hd1 := fun W => days_any 1900 2 29 W
  rw [nm_d1.1, nm_d1.2] at hd1
  have HD1 := Lib.hid hd1
  have hd2 := fun W => days_any 2001 2 29 W
  rw [nm_d2.1, nm_d2.2] at hd2
  have HD2 := Lib.hid hd2
  have hd3 := fun W => days_any 1969 12 31 W
  rw [nm_d3.1, nm_d3.2] at hd3
  have HD3 := Lib.hid hd3
  have eS0 : ((mkS [84, 104, 117, 44, 32, 48, 49, 32, 74, 97, 110, 32, 49, 57, 55, 48, 32, 48, 48, 58, 48, 48, 58, 48, 48, 32, 71, 77, 84]).toList == [84, 104, 117, 44, 32, 48, 49, 32, 74, 97, 110, 32, 49, 57, 55, 48, 32, 48, 48, 58, 48, 48, 58, 48, 48, 32, 71, 77, 84]) = true := by rw [toList_bs, bs_mkS]; exact beq_self_eq_true _
  generalize mkS [84, 104, 117, 44, 32, 48, 49, 32, 74, 97, 110, 32, 49, 57, 55, 48, 32, 48, 48, 58, 48, 48, 58, 48, 48, 32, 71, 77, 84] = S0 at *
  have eS1 : ((mkS [70, 114, 105, 44, 32, 51, 49, 32, 68, 101, 99, 32, 57, 57, 57, 57, 32, 50, 51, 58, 53, 57, 58, 53, 57, 32, 71, 77, 84]).toList == [70, 114, 105, 44, 32, 51, 49, 32, 68, 101, 99, 32, 57, 57, 57, 57, 32, 50, 51, 58, 53, 57, 58, 53, 57, 32, 71, 77, 84]) = true := by rw [toList_bs, bs_mkS]; exact beq_self_eq_true _
  generalize mkS [70, 114, 105, 44, 32, 51, 49, 32, 68, 101, 99, 32, 57, 57, 57, 57, 32, 50, 51, 58, 53, 57, 58, 53, 57, 32, 71, 77, 84] = S1 at *
  generalize secX ⟨2000, 2, 29, 0, 0, 0, 0⟩ = X1 at *
  have HNw := Lib.hid (fun (c : Cv) (w : World) => CvB.new w c)
  have HCl := Lib.hid (fun (W W' : World) (g : Nat) (c : Cv) (h : CvB W g c) (hb : Below W.heap.size W W') => CvB.later h hb)
  have HCn := Lib.hid (fun (W : World) (g : Nat) (c : Cv) (h : CvB W g c) => CvB.cells h)
  have HB0 := Lib.hid (Below.refl w.heap.size w)
  clear hN hd0 hd1 hd2 hd3
  go_enter Tryd.func3, Tryd.ntmps3
  go_wp2_with fail
  refine (HL.out _ HB0.out).mono ?_
  rintro e w1 ⟨rfl, hb⟩
  have HB1 := Lib.hid (HB0.out.trans (hb.mono HB0.out.size))
  clear hb HB0 HL
  go_wp2_with fail
  refine (HP0.out _ HB1.out).mono ?_
  rintro e w2 ⟨rfl, hb⟩
  have HB2 := Lib.hid (HB1.out.trans (hb.mono HB1.out.size))
  clear hb HB1 HP0
  go_wp2_with fail
  refine (HP1.out _ HB2.out).mono ?_
  rintro e w3 ⟨rfl, hb⟩
  have HB3 := Lib.hid (HB2.out.trans (hb.mono HB2.out.size))
  clear hb HB2 HP1
  go_wp2_with fail
  refine (HP2.out _ HB3.out).mono ?_
  rintro e w4 ⟨rfl, hb⟩
  have HB4 := Lib.hid (HB3.out.trans (hb.mono HB3.out.size))
  clear hb HB3 HP2
  go_wp2_with fail
  refine (HP3.out _ HB4.out).mono ?_
  rintro e w5 ⟨rfl, hb⟩
  have HB5 := Lib.hid (HB4.out.trans (hb.mono HB4.out.size))
  clear hb HB4 HP3
  go_wp2_with fail
  refine (HP4.out _ HB5.out).mono ?_
  rintro e w6 ⟨rfl, hb⟩
  have HB6 := Lib.hid (HB5.out.trans (hb.mono HB5.out.size))
  clear hb HB5 HP4
  go_wp2_with fail
  refine (HP5.out _ HB6.out).mono ?_
  rintro e w7 ⟨rfl, hb⟩
  have HB7 := Lib.hid (HB6.out.trans (hb.mono HB6.out.size))
  clear hb HB6 HP5
  go_wp2_with fail
  refine (HF0.out _ HB7.out).mono ?_
  rintro e w8 ⟨rfl, hb⟩
  have HB8 := Lib.hid (HB7.out.trans (hb.mono HB7.out.size))
  clear hb HB7 HF0
  go_wp2_with fail
  refine (HF1.out _ HB8.out).mono ?_
  rintro e w9 ⟨rfl, hb⟩
  have HB9 := Lib.hid (HB8.out.trans (hb.mono HB8.out.size))
  clear hb HB8 HF1
  go_wp2_with fail
  refine (HF2.out _ HB9.out).mono ?_
  rintro e w10 ⟨rfl, hb⟩
  have HB10 := Lib.hid (HB9.out.trans (hb.mono HB9.out.size))
  clear hb HB9 HF2
  go_wp2_with fail
  refine (HC.out _ HB10.out).mono ?_
  rintro e w11 ⟨rfl, hb⟩
  have ab := hb.alloc hb.size (.cells #[.int .i64 2000, .int .i64 2, .int .i64 29, .int .i64 0, .int .i64 0, .int .i64 0, .int .i64 2] 29)
  have HB12 := Lib.hid (HB10.out.trans (ab.mono HB10.out.size))
  have HG12 := Lib.hid (HNw.out ⟨2000, 2, 29, 0, 0, 0, 2⟩ w11)
  have hgA := HNw.out ⟨2000, 2, 29, 0, 0, 0, 2⟩ w11
  have hgs : w.heap.size ≤ w11.heap.size := (HB10.out.trans (hb.mono HB10.out.size)).size
  obtain ⟨p0, p1, p2, p3, p4, p5, p6⟩ := HCn.out _ _ _ hgA
  unfold cvC at HG12 p0 p1 p2 p3 p4 p5 p6
  dsimp only at HG12 p0 p1 p2 p3 p4 p5 p6
  clear hb ab hgA HC HB10
  go_upto_region 13 with (fail)
  generalize w11.alloc (.cells #[.int .i64 2000, .int .i64 2, .int .i64 29, .int .i64 0, .int .i64 0, .int .i64 0, .int .i64 2] 29) = W12 at *
  generalize w11.heap.size = g at *
  go_wp2_with fail
  refine (HD0.out _).mono ?_
  rintro e w100 ⟨rfl, rfl⟩
  clear HD0
  go_wp2_with fail
  refine (HD1.out _).mono ?_
  rintro e w101 ⟨rfl, rfl⟩
  clear HD1
  go_wp2_with fail
  refine (HD2.out _).mono ?_
  rintro e w102 ⟨rfl, rfl⟩
  clear HD2
  go_wp2_with fail
  refine (HD3.out _).mono ?_
  rintro e w103 ⟨rfl, rfl⟩
  clear HD3
  go_wp2_with fail
  clear p0 p1 p2 p3 p4 p5 p6
  refine (HS0.out _ HB12.out).mono ?_
  rintro e w13 ⟨rfl, hb⟩
  have HB13 := Lib.hid (HB12.out.trans (hb.mono HB12.out.size))
  have HG13 := Lib.hid (HCl.out _ _ _ _ HG12.out hb)
  clear HG12
  clear hb HB12 HS0
  obtain ⟨p0, p1, p2, p3, p4, p5, p6⟩ := HCn.out _ _ _ HG13.out
  dsimp only at p0 p1 p2 p3 p4 p5 p6
  have f6 : w13.frozen? ⟨g, 6, none⟩ = false := Lib.frozen_of_heap HG13.out 6
  have n0 : (w13.setCell ⟨g, 6, none⟩ (.int .i64 0)).cell? ⟨g, 0, none⟩ = some (.int .i64 2000) := (World.cell?_setCell_other _ _ _ _ (by intro e; injection e with _ e2 _; cases e2)).trans p0
  have n1 : (w13.setCell ⟨g, 6, none⟩ (.int .i64 0)).cell? ⟨g, 1, none⟩ = some (.int .i64 2) := (World.cell?_setCell_other _ _ _ _ (by intro e; injection e with _ e2 _; cases e2)).trans p1
  have n2 : (w13.setCell ⟨g, 6, none⟩ (.int .i64 0)).cell? ⟨g, 2, none⟩ = some (.int .i64 29) := (World.cell?_setCell_other _ _ _ _ (by intro e; injection e with _ e2 _; cases e2)).trans p2
  have n3 : (w13.setCell ⟨g, 6, none⟩ (.int .i64 0)).cell? ⟨g, 3, none⟩ = some (.int .i64 0) := (World.cell?_setCell_other _ _ _ _ (by intro e; injection e with _ e2 _; cases e2)).trans p3
  have n4 : (w13.setCell ⟨g, 6, none⟩ (.int .i64 0)).cell? ⟨g, 4, none⟩ = some (.int .i64 0) := (World.cell?_setCell_other _ _ _ _ (by intro e; injection e with _ e2 _; cases e2)).trans p4
  have n5 : (w13.setCell ⟨g, 6, none⟩ (.int .i64 0)).cell? ⟨g, 5, none⟩ = some (.int .i64 0) := (World.cell?_setCell_other _ _ _ _ (by intro e; injection e with _ e2 _; cases e2)).trans p5
  have n6 : (w13.setCell ⟨g, 6, none⟩ (.int .i64 0)).cell? ⟨g, 6, none⟩ = some (.int .i64 0) := World.cell?_setCell_same _ _ _ p6
  have HB14 := Lib.hid (HB13.out.setCell (p := ⟨g, 6, none⟩) hgs (.int .i64 0))
  have hlt : g < (w13.setCell ⟨g, 6, none⟩ (.int .i64 0)).heap.size := Nat.lt_of_lt_of_le (Array.getElem?_eq_some_iff.1 HG13.out).1 ((Below.refl 0 w13).setCell (p := ⟨g, 6, none⟩) (Nat.zero_le _) (.int .i64 0)).size
  go_upto_region 19 with (fail)
  generalize w13.setCell ⟨g, 6, none⟩ (.int .i64 0) = W14 at *
  go_wp2_with fail
  clear p0 p1 p2 p3 p4 p5 p6 f6 n3 n4 n5 n6
  refine (HS1.out _ HB14.out).mono ?_
  rintro e w15 ⟨rfl, hb⟩
  have m0 := (Below.cell hb (p := ⟨g, 0, none⟩) hlt).trans n0
  have m1 := (Below.cell hb (p := ⟨g, 1, none⟩) hlt).trans n1
  have m2 := (Below.cell hb (p := ⟨g, 2, none⟩) hlt).trans n2
  have hlt' := Nat.lt_of_lt_of_le hlt hb.size
  have HB15 := Lib.hid (HB14.out.trans (hb.mono HB14.out.size))
  clear hb HB14 HS1 n0 n1 n2 hlt
  have n0 := m0
  have n1 := m1
  have n2 := m2
  have hlt := hlt'
  clear m0 m1 m2 hlt'
  go_wp2_with fail
  refine (HP6.out _ HB15.out).mono ?_
  rintro e w16 ⟨rfl, hb⟩
  have m0 := (Below.cell hb (p := ⟨g, 0, none⟩) hlt).trans n0
  have m1 := (Below.cell hb (p := ⟨g, 1, none⟩) hlt).trans n1
  have m2 := (Below.cell hb (p := ⟨g, 2, none⟩) hlt).trans n2
  have hlt' := Nat.lt_of_lt_of_le hlt hb.size
  have HB16 := Lib.hid (HB15.out.trans (hb.mono HB15.out.size))
  clear hb HB15 HP6 n0 n1 n2 hlt
  have n0 := m0
  have n1 := m1
  have n2 := m2
  have hlt := hlt'
  clear m0 m1 m2 hlt'
  go_wp2_with fail
  refine (HP7.out _ HB16.out).mono ?_
  rintro e w17 ⟨rfl, hb⟩
  have m0 := (Below.cell hb (p := ⟨g, 0, none⟩) hlt).trans n0
  have m1 := (Below.cell hb (p := ⟨g, 1, none⟩) hlt).trans n1
  have m2 := (Below.cell hb (p := ⟨g, 2, none⟩) hlt).trans n2
  have hlt' := Nat.lt_of_lt_of_le hlt hb.size
  have HB17 := Lib.hid (HB16.out.trans (hb.mono HB16.out.size))
  clear hb HB16 HP7 n0 n1 n2 hlt
  have n0 := m0
  have n1 := m1
  have n2 := m2
  have hlt := hlt'
  clear m0 m1 m2 hlt'
  go_wp2_with fail
  go_ret
  exact ⟨retBd (by simp), HB17.out⟩
end Tk
end Go.Proofs.YtdpfeedpnnicjaaDoor
