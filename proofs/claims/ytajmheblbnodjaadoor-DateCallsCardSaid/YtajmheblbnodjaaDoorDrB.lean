/- The document's date: names, two digits, clocks. -/
import Derived.Test.YtajmheblbnodjaaDoorDrA
import Derived.Test.YtajmheblbnodjaaDoorDtI
import Derived.Deep.Cut
import Derived.Lib.ConvBytes
import Derived.Laws.BytesArg
namespace Go.Proofs.YtajmheblbnodjaaDoor
open Go.RowKit
namespace Tk

/-- a list of texts in a block of its own -/
def StrB (W : World) (g : Nat) (l : List Bs) : Prop := W.heap[g]? = some (.cells ((l.map fun x => Value.string (mkS x)).toArray) 9 (0, 0))
theorem StrB.later {w w' : World} {g : Nat} {l : List Bs} (h : StrB w g l) (hb : Below w.heap.size w w') : StrB w' g l := by
  have hl := (Array.getElem?_eq_some_iff.1 h).1
  unfold StrB at *; rw [hb.block g hl]; exact h
theorem StrB.cell {w : World} {g : Nat} {l : List Bs} (h : StrB w g l) (k : Nat) (hk : k < l.length) : w.cell? ⟨g, k, none⟩ = some (.string (mkS (l.getD k []))) := by
  unfold StrB at h
  rw [Lib.cell_of_heap h]
  simp [List.getD, hk]
def ListNPost (l : List Bs) (w : World) (e : Ending) (w' : World) : Prop := ∃ g, e = .returned (.slice (some ⟨g, 0, none⟩) l.length l.length) ∧ w.heap.size ≤ g ∧ g < w'.heap.size ∧ StrB w' g l ∧ Below w.heap.size w w'

set_option maxHeartbeats 1000000 in
theorem rdaysL_any (w : World) :
    Calls Tryd.prog 48 #[] w (ListNPost dN w) := by
  have HA := Lib.hid (heap_alloc_last w (.cells #[.string ⟨#[83, 117, 110, 100, 97, 121]⟩, .string ⟨#[77, 111, 110, 100, 97, 121]⟩, .string ⟨#[84, 117, 101, 115, 100, 97, 121]⟩, .string ⟨#[87, 101, 100, 110, 101, 115, 100, 97, 121]⟩, .string ⟨#[84, 104, 117, 114, 115, 100, 97, 121]⟩, .string ⟨#[70, 114, 105, 100, 97, 121]⟩, .string ⟨#[83, 97, 116, 117, 114, 100, 97, 121]⟩] 9))
  have HB := Lib.hid ((Below.refl w.heap.size w).alloc (Nat.le_refl _) (.cells #[.string ⟨#[83, 117, 110, 100, 97, 121]⟩, .string ⟨#[77, 111, 110, 100, 97, 121]⟩, .string ⟨#[84, 117, 101, 115, 100, 97, 121]⟩, .string ⟨#[87, 101, 100, 110, 101, 115, 100, 97, 121]⟩, .string ⟨#[84, 104, 117, 114, 115, 100, 97, 121]⟩, .string ⟨#[70, 114, 105, 100, 97, 121]⟩, .string ⟨#[83, 97, 116, 117, 114, 100, 97, 121]⟩] 9))
  go_enter Tryd.func48, Tryd.ntmps48
  go_wp2_with fail
  go_ret
  exact ⟨w.heap.size, rfl, Nat.le_refl _, (Array.getElem?_eq_some_iff.1 HA.out).1, HA.out, HB.out⟩

set_option maxHeartbeats 1000000 in
theorem rmonthsL_any (w : World) :
    Calls Tryd.prog 49 #[] w (ListNPost mN w) := by
  have HA := Lib.hid (heap_alloc_last w (.cells #[.string ⟨#[74, 97, 110]⟩, .string ⟨#[70, 101, 98]⟩, .string ⟨#[77, 97, 114]⟩, .string ⟨#[65, 112, 114]⟩, .string ⟨#[77, 97, 121]⟩, .string ⟨#[74, 117, 110]⟩, .string ⟨#[74, 117, 108]⟩, .string ⟨#[65, 117, 103]⟩, .string ⟨#[83, 101, 112]⟩, .string ⟨#[79, 99, 116]⟩, .string ⟨#[78, 111, 118]⟩, .string ⟨#[68, 101, 99]⟩] 9))
  have HB := Lib.hid ((Below.refl w.heap.size w).alloc (Nat.le_refl _) (.cells #[.string ⟨#[74, 97, 110]⟩, .string ⟨#[70, 101, 98]⟩, .string ⟨#[77, 97, 114]⟩, .string ⟨#[65, 112, 114]⟩, .string ⟨#[77, 97, 121]⟩, .string ⟨#[74, 117, 110]⟩, .string ⟨#[74, 117, 108]⟩, .string ⟨#[65, 117, 103]⟩, .string ⟨#[83, 101, 112]⟩, .string ⟨#[79, 99, 116]⟩, .string ⟨#[78, 111, 118]⟩, .string ⟨#[68, 101, 99]⟩] 9))
  go_enter Tryd.func49, Tryd.ntmps49
  go_wp2_with fail
  go_ret
  exact ⟨w.heap.size, rfl, Nat.le_refl _, (Array.getElem?_eq_some_iff.1 HA.out).1, HA.out, HB.out⟩

set_option maxHeartbeats 1000000 in
set_option maxRecDepth 100000 in
theorem rtwo_any (n : Int) (w : World) (hn : 0 ≤ n ∧ n ≤ 99) :
    Calls Tryd.prog 50 #[.int .i64 n] w fun e w' => e = .returned (.string (mkS (two n))) ∧ Below w.heap.size w w' := by
  have h1 := hn
  have hg := heap_alloc_last w (.cells #[.int .u8 (48 + n / 10), .int .u8 (48 + n % 10)] 5)
  have hB := (Below.refl w.heap.size w).alloc (Nat.le_refl _) (.cells #[.int .u8 (48 + n / 10), .int .u8 (48 + n % 10)] 5)
  have hcv : (convert 87 9 (.slice (some ⟨w.heap.size, 0, none⟩) 2 2)).run Tryd.prog (w.alloc (.cells #[.int .u8 (48 + n / 10), .int .u8 (48 + n % 10)] 5)) = .ok (.string (mkS (two n))) (w.alloc (.cells #[.int .u8 (48 + n / 10), .int .u8 (48 + n % 10)] 5)) := by
    refine run_convert_bytes_back (P := Tryd.prog) _ 87 9 5 ⟨w.heap.size, 0, none⟩ 2 (two n) Tryd.underlying87 Tryd.underlying5 Tryd.underlying9 ?_
    intro j hj
    have q1 := d1_nat (n / 10) (by omega)
    have q2 := d1_nat (n % 10) (by omega)
    have hj2 : j = 0 ∨ j = 1 := by have : (two n).length = 2 := rfl; omega
    rcases hj2 with rfl | rfl
    · show World.cell? _ ⟨w.heap.size, 0, none⟩ = _
      rw [Lib.cell_of_heap hg]
      show some (Value.int .u8 (48 + n / 10)) = some (Value.int .u8 ((d1 (n / 10)).toNat : Int))
      rw [q1]; congr 2; omega
    · show World.cell? _ ⟨w.heap.size, 1, none⟩ = _
      rw [Lib.cell_of_heap hg]
      show some (Value.int .u8 (48 + n % 10)) = some (Value.int .u8 ((d1 (n % 10)).toNat : Int))
      rw [q2]; congr 2; omega
  have HB := Lib.hid hB
  clear hg hB hn
  generalize mkS (two n) = R at *
  go_enter Tryd.func50, Tryd.ntmps50
  go_wp2_with fail
  go_ret
  exact ⟨rfl, HB.out⟩
end Tk
end Go.Proofs.YtajmheblbnodjaaDoor
