/- The texts of the thousandths: what strconv.FormatFloat answers at each of them, by one look at all of them. -/
import Derived.Test.YtapnlopeipdjmaaGreatDoorFfG
namespace Go.Proofs.YtapnlopeipdjmaaGreatDoor
open Go.RowKit Go.Sort Go.Lib
namespace Ff

/-- a thousandth's float: float64(k) / 1000 -/
def F (k : Nat) : Nat := (Go.floatBits .quo .f64 (Go.floatOfInt .f64 k) 4652007308841189376).getD 0
def strip (l : List UInt8) : List UInt8 := (l.reverse.dropWhile (· == 48)).reverse
def ktext (k : Nat) : List UInt8 :=
  if k = 1000 then [49] else if k = 0 then [48] else strip [48, 46, UInt8.ofNat (48 + k / 100), UInt8.ofNat (48 + k / 10 % 10), UInt8.ofNat (48 + k % 10)]
def ndig : Nat → Nat → Nat
  | 0, _ => 0
  | f + 1, d => if d < 10 then 1 else ndig f (d / 10) + 1

def ckE (k : Nat) : Nat := F k / 4503599627370496
def ckM (k : Nat) : Nat := F k % 4503599627370496 + 4503599627370496
def ckm (k : Nat) : Nat := ckM k * 2048
def cke (k : Nat) : Int := (ckE k : Int) - 1086
def ckP (k : Nat) : Int := sfP (ckm k) (cke k)
def ckS (k : Nat) : Nat := (-(cke k + log2Pow10 (ckP k) + 3)).toNat
def ckA (k x : Nat) : Int := uscale x (thi (ckP k)) (ckS k)
def ckR (k : Nat) : Int × Int := sfR (ckA k (sfMin (ckm k))) (ckA k (ckm k + 1024)) (ckA k (ckm k)) (sfOdd (ckm k)) (ckP k)
def ckd (k : Nat) : Nat := (ckR k).1.toNat
def ckn (k : Nat) : Nat := ndig 20 (ckd k)
def ckz (k : Nat) : Nat := nz (ckd k) (ckn k) (ckn k)
def cktext (k : Nat) : List UInt8 :=
  if (ckn k : Int) + (ckR k).2 = 1 then [49] else 48 :: 46 :: (List.replicate (-((ckn k : Int) + (ckR k).2)).toNat 48 ++ (List.range (ckz k)).map fun t => dg (ckd k) (ckn k - 1 - t))

def inU (a : Int) : Bool := decide (4 ≤ a) && decide (a ≤ 4611686018427387904)
def ck (k : Nat) : Bool :=
  decide (F k < 9223372036854775808) && (bits BinOp.and IntKind.i64 ((F k : Int) / 4503599627370496) 2047 == (ckE k : Int)) && (bits BinOp.and IntKind.u64 (F k : Int) 4503599627370495 == ((F k % 4503599627370496 : Nat) : Int)) &&
  (bits BinOp.or IntKind.u64 ((F k % 4503599627370496 : Nat) : Int) 4503599627370496 == (ckM k : Int)) && decide (1 ≤ ckE k) && decide (ckE k ≤ 1023) && decide (986 ≤ ckE k) &&
  (ckP k == 16 || ckP k == 17 || ckP k == 18 || ckP k == 19) && decide (0 ≤ -(cke k + log2Pow10 (ckP k) + 3)) && decide (ckS k < 64) &&
  inU (ckA k (sfMin (ckm k))) && inU (ckA k (ckm k + 1024)) && inU (ckA k (ckm k)) && (bits BinOp.and IntKind.i64 ((ckm k : Int) / 2048) 1 == sfOdd (ckm k)) &&
  decide (0 < (ckR k).1) && decide ((ckR k).1 < 18446744073709551616) && decide (-100 ≤ (ckR k).2) && decide ((ckR k).2 ≤ 100) &&
  decide (1 ≤ ckn k) && decide (ckn k ≤ 20) && decide (10 ^ (ckn k - 1) ≤ ckd k) && decide (ckd k < 10 ^ ckn k) && decide (1 ≤ ckz k) &&
  (if (ckn k : Int) + (ckR k).2 = 1 then decide (ckz k = 1) && decide (dg (ckd k) (ckn k - 1) = 49) else decide (0 ≤ -((ckn k : Int) + (ckR k).2)) && decide (2 + (-((ckn k : Int) + (ckR k).2)).toNat + ckz k ≤ 12)) &&
  decide (cktext k = ktext k)

set_option maxRecDepth 100000 in
theorem ck_all : ((List.range 1001).drop 1).all ck = true := by decide +kernel
theorem ck_at (k : Nat) (h1 : 1 ≤ k) (h2 : k ≤ 1000) : ck k = true := by
  have h := List.all_eq_true.1 ck_all k
  exact h (by
    rw [show (List.range 1001).drop 1 = (List.range 1000).map (· + 1) from by decide +kernel, List.mem_map]
    exact ⟨k - 1, by rw [List.mem_range]; omega, by omega⟩)
end Ff
end Go.Proofs.YtapnlopeipdjmaaGreatDoor
