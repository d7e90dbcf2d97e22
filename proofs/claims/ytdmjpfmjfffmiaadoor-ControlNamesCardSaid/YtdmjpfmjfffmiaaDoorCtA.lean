/- control: a variable of several cells; the number of a directive; what the least of two numbers does at a place. -/
import Derived.Test.YtdmjpfmjfffmiaaDoorCtP
import Derived.Test.YtdmjpfmjfffmiaaDoorNum
import Derived.Test.YtdmjpfmjfffmiaaDoorTokE
import Derived.Deep.RegionHeld3
import Derived.Deep.RegionWith
namespace Go.Proofs.YtdmjpfmjfffmiaaDoor
open Go.RowKit
namespace Tk

/-- block g is a variable with these cells -/
def Bx (w : World) (g : Nat) (T : TypeId) (cs : Array Value) : Prop := w.heap[g]? = some (.cells cs T (0, 0))
theorem Bx.new (w : World) (T : TypeId) (cs : Array Value) : Bx (w.alloc (.cells cs T)) w.heap.size T cs := heap_alloc_last w _
theorem Bx.lt {w : World} {g : Nat} {T : TypeId} {cs : Array Value} (h : Bx w g T cs) : g < w.heap.size := (Array.getElem?_eq_some_iff.1 h).1
theorem Bx.later {w w' : World} {g : Nat} {T : TypeId} {cs : Array Value} (h : Bx w g T cs) (hb : Below w.heap.size w w') : Bx w' g T cs := (hb.block g h.lt).trans h
theorem Bx.cell {w : World} {g : Nat} {T : TypeId} {cs : Array Value} (h : Bx w g T cs) (i : Nat) (v : Value) (hv : cs[i]? = some v) : w.cell? ⟨g, i, none⟩ = some v := by rw [Lib.cell_of_heap h]; exact hv
theorem Bx.frozen {w : World} {g : Nat} {T : TypeId} {cs : Array Value} (h : Bx w g T cs) (i : Nat) : w.frozen? ⟨g, i, none⟩ = false := Lib.frozen_of_heap h i
theorem Bx.set {w : World} {g : Nat} {T : TypeId} {cs : Array Value} (h : Bx w g T cs) (i : Nat) (v : Value) : Bx (w.setCell ⟨g, i, none⟩ v) g T (cs.setIfInBounds i v) := heap_setCell_same w g i cs T v h
theorem Bx.grown {w w' : World} {g : Nat} {T : TypeId} {cs : Array Value} {r : Option Nat} (h : Bx w g T cs) (hg : w.grownBy w' r) (hr : some g ≠ r) : Bx w' g T cs := (hg.block g h.lt hr).trans h
theorem grown_setC (w : World) (g i : Nat) (v : Value) : w.grownBy (w.setCell ⟨g, i, none⟩ v) (some g) :=
  ⟨rfl, rfl, rfl, by rw [World.size_setCell]; exact Nat.le_refl _, fun k _ hne => heap_setCell_other w ⟨g, i, none⟩ k v (fun e => hne (by rw [e]))⟩
theorem grownC_trans {a b c : World} {r : Option Nat} (h : a.grownBy b r) (k : b.grownBy c r) : a.grownBy c r :=
  ⟨k.os.trans h.os, k.tape.trans h.tape, k.output.trans h.output, Nat.le_trans h.size k.size, fun i hi hne => (k.block i (Nat.lt_of_lt_of_le hi h.size) hne).trans (h.block i hi hne)⟩
theorem grownC_refl (a : World) (r : Option Nat) : a.grownBy a r := ⟨rfl, rfl, rfl, Nat.le_refl _, fun _ _ _ => rfl⟩
theorem grownC_below {w w' : World} (h : Below w.heap.size w w') (r : Option Nat) : w.grownBy w' r := ⟨h.os, h.tape, h.output, h.size, fun k hk _ => h.block k hk⟩

/-- an argument of a directive -/
def argV (t : Bs) (h : Bool) : Value := .agg #[.string (mkS t), .bool h]

set_option maxHeartbeats 1000000 in
set_option maxRecDepth 100000 in
theorem secs_any (t : Bs) (h : Bool) (w : World) (ht : t.length ≤ 1099511627776) :
    Calls Tryd.prog 74 #[argV t h] w fun e w' => e = .returned (.int .i64 (secN t)) ∧ Below w.heap.size w w' := by
  have HN : Hid (∀ W : World, Calls Tryd.prog 106 #[.string (mkS t)] W fun r w' => r = .returned (.tuple #[.int .i64 (numL t).1, .int .i64 (numL t).2]) ∧ W = w') := fun W => by
    have := number_any (mkS t) W (by rw [size_mkS]; exact ht)
    rw [bs_mkS] at this
    exact this
  have hB := Bx.new w 72 #[.string (mkS t), .bool h]
  have c0 := hB.cell 0 _ rfl
  have HB0 := Lib.hid (show Below w.heap.size w (w.alloc (.cells #[.string (mkS t), .bool h] 72)) from (Below.refl _ _).alloc (Nat.le_refl _) _)
  have hsec : secN t = if (numL t).2 = 0 then min ((numL t).1 : Int) mxD else if (numL t).2 = 3 then mxD else -1 := rfl
  have HS := Lib.hid hsec
  clear hsec hB
  unfold argV
  generalize numL t = r at *
  obtain ⟨n, e⟩ := r
  simp only at HN HS
  by_cases h0 : e = 0
  · subst h0
    rw [if_pos rfl] at HS
    rw [HS.out]
    go_enter Tryd.func74, Tryd.ntmps74
    go_wp2_with fail
    refine (HN.out _).mono ?_
    rintro e w' ⟨rfl, rfl⟩
    go_wp2_with fail
    go_ret
    exact ⟨rfl, HB0.out⟩
  · rw [if_neg h0] at HS
    have b0 : ((e : Int) == 0) = false := by rw [beq_eq_false_iff_ne]; omega
    by_cases h3 : e = 3
    · subst h3
      rw [if_pos rfl] at HS
      rw [HS.out]
      clear h0
      go_enter Tryd.func74, Tryd.ntmps74
      go_wp2_with fail
      refine (HN.out _).mono ?_
      rintro e w' ⟨rfl, rfl⟩
      go_wp2_with fail
      go_ret
      exact ⟨rfl, HB0.out⟩
    · rw [if_neg h3] at HS
      have b3 : ((e : Int) == 3) = false := by rw [beq_eq_false_iff_ne]; omega
      rw [HS.out]
      clear h0 h3
      go_enter Tryd.func74, Tryd.ntmps74
      go_wp2_with fail
      refine (HN.out _).mono ?_
      rintro e w' ⟨rfl, rfl⟩
      go_wp2_with fail
      go_ret
      exact ⟨rfl, HB0.out⟩

set_option maxHeartbeats 1000000 in
set_option maxRecDepth 100000 in
theorem stale_any (t : Bs) (h : Bool) (w : World) (ht : t.length ≤ 1099511627776) :
    Calls Tryd.prog 77 #[argV t h] w fun e w' => e = .returned (.int .i64 (staleN t h)) ∧ Below w.heap.size w w' := by
  have HN := Lib.hid (fun W : World => secs_any t h W ht)
  have hB := Bx.new w 72 #[.string (mkS t), .bool h]
  have c0 := hB.cell 0 _ rfl
  have c1 := hB.cell 1 _ rfl
  have HB0 := Lib.hid (show Below w.heap.size w (w.alloc (.cells #[.string (mkS t), .bool h] 72)) from (Below.refl _ _).alloc (Nat.le_refl _) _)
  have hsz : w.heap.size ≤ (w.alloc (.cells #[.string (mkS t), .bool h] 72)).heap.size := by simp
  clear hB
  unfold argV at *
  cases h
  · go_enter Tryd.func77, Tryd.ntmps77
    go_wp2_with fail
    go_ret
    exact ⟨rfl, HB0.out⟩
  · go_enter Tryd.func77, Tryd.ntmps77
    go_wp2_with fail
    refine (HN.out _).mono ?_
    rintro e w' ⟨rfl, hb⟩
    have HB1 := Lib.hid (HB0.out.trans (hb.mono hsz))
    clear hb
    go_wp2_with fail
    go_ret
    exact ⟨rfl, HB1.out⟩

set_option maxHeartbeats 1000000 in
set_option maxRecDepth 100000 in
theorem least_any (g i : Nat) (T : TypeId) (cs : Array Value) (a n : Int) (w : World) (hB : Bx w g T cs) (hi : cs[i]? = some (.int .i64 a)) :
    Calls Tryd.prog 73 #[.pointer (some ⟨g, i, none⟩), .int .i64 n] w fun e w' => e = .returned (.tuple #[]) ∧ Bx w' g T (cs.setIfInBounds i (.int .i64 (leastI a n))) ∧ w.grownBy w' (some g) := by
  have hc := hB.cell i _ hi
  have hf := hB.frozen i
  have same : cs.setIfInBounds i (.int .i64 a) = cs := by
    apply Array.ext_getElem?
    intro j
    rw [Array.getElem?_setIfInBounds]
    split
    · rename_i h; subst h
      have := (Array.getElem?_eq_some_iff.1 hi).1
      rw [if_pos this, hi]
    · rfl
  have HB := Lib.hid hB
  have HSm := Lib.hid same
  clear hB same hi
  by_cases h0 : n = -1
  · subst h0
    rw [least_none, HSm.out]
    have b0 : ((-1 : Int) != -1) = false := by decide
    go_enter Tryd.func73, Tryd.ntmps73
    go_wp2_with fail
    refine bodyPost_end (v := .tuple #[]) ?_ rfl ⟨rfl, HB.out, grownC_refl _ _⟩
    simp [results, Tryd.results73, go_sem]
  · have b0 : ((n : Int) != -1) = true := by simpa using h0
    have b0' : ((n : Int) == -1) = false := by simpa using h0
    by_cases h1 : a = -1
    · subst h1
      have b1 : ((-1 : Int) == -1) = true := by decide
      rw [least_none']
      clear h0
      go_enter Tryd.func73, Tryd.ntmps73
      go_wp2_with fail
      refine bodyPost_end (v := .tuple #[]) ?_ rfl ⟨rfl, HB.out.set _ _, grown_setC _ _ _ _⟩
      simp [results, Tryd.results73, go_sem]
    · have b1 : ((a : Int) == -1) = false := by simpa using h1
      by_cases h2 : n < a
      · have e : leastI a n = n := by unfold leastI; rw [if_neg h0, if_pos (.inr h2)]
        rw [e]
        have b2 : decide (n < a) = true := decide_eq_true h2
        clear h0 h1 e
        go_enter Tryd.func73, Tryd.ntmps73
        go_wp2_with fail
        refine bodyPost_end (v := .tuple #[]) ?_ rfl ⟨rfl, HB.out.set _ _, grown_setC _ _ _ _⟩
        simp [results, Tryd.results73, go_sem]
      · have e : leastI a n = a := by unfold leastI; rw [if_neg h0, if_neg (by omega)]
        rw [e, HSm.out]
        have b2 : decide (n < a) = false := decide_eq_false h2
        clear h0 h1 e
        go_enter Tryd.func73, Tryd.ntmps73
        go_wp2_with fail
        refine bodyPost_end (v := .tuple #[]) ?_ rfl ⟨rfl, HB.out, grownC_refl _ _⟩
        simp [results, Tryd.results73, go_sem]
end Tk
end Go.Proofs.YtdmjpfmjfffmiaaDoor
