/- x -/
import Derived.Test.YtdmjpfmjfffmiaaDoorCtN
import Derived.Test.YtdmjpfmjfffmiaaDoorCtI
namespace Go.Proofs.YtdmjpfmjfffmiaaDoor
open Go.RowKit
namespace Tk
def s1N : Bs := [109, 97, 120, 45, 115, 116, 97, 108, 101, 44, 32, 109, 105, 110, 45, 102, 114, 101, 115, 104, 61, 34, 55, 34, 44, 32, 115, 45, 109, 97, 120, 97, 103, 101, 61, 120]
def s2N : Bs := [115, 116, 97, 108, 101, 45, 119, 104, 105, 108, 101, 45, 114, 101, 118, 97, 108, 105, 100, 97, 116, 101, 61, 57, 57, 57, 57, 57, 57, 57, 57, 57, 57, 57, 44, 32, 115, 116, 97, 108, 101, 45, 105, 102, 45, 101, 114, 114, 111, 114].append [61, 49, 44, 32, 115, 116, 97, 108, 101, 45, 105, 102, 45, 101, 114, 114, 111, 114, 61, 48, 44, 32, 112, 114, 105, 118, 97, 116, 101, 44, 32, 112, 117, 98, 108, 105, 99, 61, 49, 44, 32, 119, 104, 97, 116, 44, 32, 97, 32, 98]
def s3N : Bs := [65, 61, 34, 120, 32, 121, 34, 44, 32, 98, 44, 32, 61, 99, 44, 32, 100, 61]
def s4N : Bs := [109, 97, 120, 45, 115, 116, 97, 108, 101, 61, 53, 44, 32, 109, 97, 120, 45, 115, 116, 97, 108, 101, 61, 57]
def s5N : Bs := [110, 111, 45, 115, 116, 111, 114, 101]
def s6N : Bs := [109, 105, 110, 45, 102, 114, 101, 115, 104]
def tcN : Bs := [115, 45, 109, 97, 120, 97, 103, 101, 61, 48, 44, 32, 109, 97, 120, 45, 115, 116, 97, 108, 101, 44, 32, 109, 105, 110, 45, 102, 114, 101, 115, 104, 61, 55, 44, 32, 115, 116, 97, 108, 101, 45, 119, 104, 105, 108, 101, 45, 114, 101, 118, 97].append [108, 105, 100, 97, 116, 101, 61, 50, 49, 52, 55, 52, 56, 51, 54, 52, 56, 44, 32, 115, 116, 97, 108, 101, 45, 105, 102, 45, 101, 114, 114, 111, 114, 61, 48, 44, 32, 112, 117, 98, 108, 105, 99, 44, 32, 112, 114, 105, 118, 97, 116, 101]
def cN : Ctl := ⟨-1, 0, 2147483648, 7, 2147483648, 0, false, false, false, false, false, false, false, true, true⟩
def badN : Ctl := ⟨-2, -1, -1, -1, -1, -1, false, false, false, false, false, false, false, false, false⟩
def pN : List (Bs × Bs) := [([97], [120, 32, 121]), ([98], []), ([100], [])]
theorem ctl_ext {a b : Ctl} (h : decide (a.a0 = b.a0 ∧ a.a1 = b.a1 ∧ a.a2 = b.a2 ∧ a.a3 = b.a3 ∧ a.a4 = b.a4 ∧ a.a5 = b.a5) && (a.b0 == b.b0 && a.b1 == b.b1 && a.b2 == b.b2 && a.b3 == b.b3 && a.b4 == b.b4 && a.b5 == b.b5 && a.b6 == b.b6 && a.b7 == b.b7 && a.b8 == b.b8) = true) : a = b := by
  cases a; cases b
  simp at h
  simp [h]
set_option maxRecDepth 100000 in
theorem p12N : parseL [s1N, s2N] = cN := ctl_ext (by decide +kernel)
theorem p4N : parseL [s4N] = ⟨-1, -1, 9, -1, -1, -1, false, false, false, false, false, false, false, false, false⟩ := ctl_ext (by decide +kernel)
theorem p5N : parseL [s5N] = ⟨-1, -1, -1, -1, -1, -1, false, true, false, false, false, false, false, false, false⟩ := ctl_ext (by decide +kernel)
theorem p6N : parseL [s6N] = noneC := ctl_ext (by decide +kernel)
theorem tN : textC cN = tcN := by decide +kernel
theorem t0N : textC noneC = [] := by decide +kernel
theorem k1N : chkE cN = 0 := by decide +kernel
theorem k2N : chkE badN = 2 := by decide +kernel
theorem prN : pairsL [s3N] = pN := by decide +kernel
end Tk
end Go.Proofs.YtdmjpfmjfffmiaaDoor
