/- DrB DrD DrP DrC, put together. -/
import Derived.Test.YtajmheblbnodjaaGreatDoorQR
import Derived.Test.YtajmheblbnodjaaGreatDoorQO
import Derived.Deep.Cut
import Derived.Lib.ConvBytes
import Derived.Laws.BytesArg
import Derived.Test.YtajmheblbnodjaaGreatDoorQN
import Derived.Test.YtajmheblbnodjaaGreatDoorQP
namespace Go.Proofs.YtajmheblbnodjaaGreatDoor
open Go.RowKit
namespace Tk

/-- a list of texts in a block of its own -/
def StrB (W : World) (g : Nat) (l : List Bs) : Prop := W.heap[g]? = some (.cells ((l.map fun x => Value.string (mkS x)).toArray) 9 (0, 0))
theorem StrB.later {w w' : World} {g : Nat} {l : List Bs} (h : StrB w g l) (hb : Below w.heap.size w w') : StrB w' g l := by
  have hl := (Array.getElem?_eq_some_iff.1 h).1
  unfold StrB at *; rw [hb.block g hl]; exact h
theorem StrB.cell {w : World} {g : Nat} {l : List Bs} (h : StrB w g l) (k : Nat) (hk : k < l.length) : w.cell? ⟨g, k, none⟩ = some (.string (mkS (l.getD k []))) := by
  unfold StrB at h
  rw [Lib.cell_of_heap h]
  simp [List.getD, hk]
def ListNPost (l : List Bs) (w : World) (e : Ending) (w' : World) : Prop := ∃ g, e = .returned (.slice (some ⟨g, 0, none⟩) l.length l.length) ∧ w.heap.size ≤ g ∧ g < w'.heap.size ∧ StrB w' g l ∧ Below w.heap.size w w'

set_option maxHeartbeats 1000000 in
theorem rdaysL_any (w : World) :
    Calls Tryz.prog 225 #[] w (ListNPost dN w) := by
  have HA := Lib.hid (heap_alloc_last w (.cells #[.string ⟨#[83, 117, 110, 100, 97, 121]⟩, .string ⟨#[77, 111, 110, 100, 97, 121]⟩, .string ⟨#[84, 117, 101, 115, 100, 97, 121]⟩, .string ⟨#[87, 101, 100, 110, 101, 115, 100, 97, 121]⟩, .string ⟨#[84, 104, 117, 114, 115, 100, 97, 121]⟩, .string ⟨#[70, 114, 105, 100, 97, 121]⟩, .string ⟨#[83, 97, 116, 117, 114, 100, 97, 121]⟩] 9))
  have HB := Lib.hid ((Below.refl w.heap.size w).alloc (Nat.le_refl _) (.cells #[.string ⟨#[83, 117, 110, 100, 97, 121]⟩, .string ⟨#[77, 111, 110, 100, 97, 121]⟩, .string ⟨#[84, 117, 101, 115, 100, 97, 121]⟩, .string ⟨#[87, 101, 100, 110, 101, 115, 100, 97, 121]⟩, .string ⟨#[84, 104, 117, 114, 115, 100, 97, 121]⟩, .string ⟨#[70, 114, 105, 100, 97, 121]⟩, .string ⟨#[83, 97, 116, 117, 114, 100, 97, 121]⟩] 9))
  go_enter Tryz.func225, Tryz.ntmps225
  go_wp2_with fail
  go_ret
  exact ⟨w.heap.size, rfl, Nat.le_refl _, (Array.getElem?_eq_some_iff.1 HA.out).1, HA.out, HB.out⟩

set_option maxHeartbeats 1000000 in
theorem rmonthsL_any (w : World) :
    Calls Tryz.prog 226 #[] w (ListNPost mN w) := by
  have HA := Lib.hid (heap_alloc_last w (.cells #[.string ⟨#[74, 97, 110]⟩, .string ⟨#[70, 101, 98]⟩, .string ⟨#[77, 97, 114]⟩, .string ⟨#[65, 112, 114]⟩, .string ⟨#[77, 97, 121]⟩, .string ⟨#[74, 117, 110]⟩, .string ⟨#[74, 117, 108]⟩, .string ⟨#[65, 117, 103]⟩, .string ⟨#[83, 101, 112]⟩, .string ⟨#[79, 99, 116]⟩, .string ⟨#[78, 111, 118]⟩, .string ⟨#[68, 101, 99]⟩] 9))
  have HB := Lib.hid ((Below.refl w.heap.size w).alloc (Nat.le_refl _) (.cells #[.string ⟨#[74, 97, 110]⟩, .string ⟨#[70, 101, 98]⟩, .string ⟨#[77, 97, 114]⟩, .string ⟨#[65, 112, 114]⟩, .string ⟨#[77, 97, 121]⟩, .string ⟨#[74, 117, 110]⟩, .string ⟨#[74, 117, 108]⟩, .string ⟨#[65, 117, 103]⟩, .string ⟨#[83, 101, 112]⟩, .string ⟨#[79, 99, 116]⟩, .string ⟨#[78, 111, 118]⟩, .string ⟨#[68, 101, 99]⟩] 9))
  go_enter Tryz.func226, Tryz.ntmps226
  go_wp2_with fail
  go_ret
  exact ⟨w.heap.size, rfl, Nat.le_refl _, (Array.getElem?_eq_some_iff.1 HA.out).1, HA.out, HB.out⟩

set_option maxHeartbeats 1000000 in
set_option maxRecDepth 100000 in
theorem rtwo_any (n : Int) (w : World) (hn : 0 ≤ n ∧ n ≤ 99) :
    Calls Tryz.prog 227 #[.int .i64 n] w fun e w' => e = .returned (.string (mkS (two n))) ∧ Below w.heap.size w w' := by
  have h1 := hn
  have hg := heap_alloc_last w (.cells #[.int .u8 (48 + n / 10), .int .u8 (48 + n % 10)] 5)
  have hB := (Below.refl w.heap.size w).alloc (Nat.le_refl _) (.cells #[.int .u8 (48 + n / 10), .int .u8 (48 + n % 10)] 5)
  have hcv : (convert 102 9 (.slice (some ⟨w.heap.size, 0, none⟩) 2 2)).run Tryz.prog (w.alloc (.cells #[.int .u8 (48 + n / 10), .int .u8 (48 + n % 10)] 5)) = .ok (.string (mkS (two n))) (w.alloc (.cells #[.int .u8 (48 + n / 10), .int .u8 (48 + n % 10)] 5)) := by
    refine run_convert_bytes_back (P := Tryz.prog) _ 102 9 5 ⟨w.heap.size, 0, none⟩ 2 (two n) Tryz.underlying102 Tryz.underlying5 Tryz.underlying9 ?_
    intro j hj
    have q1 := d1_nat (n / 10) (by omega)
    have q2 := d1_nat (n % 10) (by omega)
    have hj2 : j = 0 ∨ j = 1 := by have : (two n).length = 2 := rfl; omega
    rcases hj2 with rfl | rfl
    · show World.cell? _ ⟨w.heap.size, 0, none⟩ = _
      rw [Lib.cell_of_heap hg]
      show some (Value.int .u8 (48 + n / 10)) = some (Value.int .u8 ((d1 (n / 10)).toNat : Int))
      rw [q1]; congr 2; omega
    · show World.cell? _ ⟨w.heap.size, 1, none⟩ = _
      rw [Lib.cell_of_heap hg]
      show some (Value.int .u8 (48 + n % 10)) = some (Value.int .u8 ((d1 (n % 10)).toNat : Int))
      rw [q2]; congr 2; omega
  have HB := Lib.hid hB
  clear hg hB hn
  generalize mkS (two n) = R at *
  go_enter Tryz.func227, Tryz.ntmps227
  go_wp2_with fail
  go_ret
  exact ⟨rfl, HB.out⟩
end Tk
end Go.Proofs.YtajmheblbnodjaaGreatDoor
namespace Go.Proofs.YtajmheblbnodjaaGreatDoor
open Go.RowKit
namespace Tk

set_option maxHeartbeats 8000000 in
set_option maxRecDepth 100000 in
theorem rclock_any (c : Cv) (w : World) (hr : Rg c) :
    Calls Tryz.prog 228 #[cvV c] w fun e w' => e = .returned (.string (mkS (clk c))) ∧ Below w.heap.size w w' := by
  obtain ⟨w1, hw1⟩ : ∃ w1, w1 = w.alloc (.cells (cvC c) 194) := ⟨_, rfl⟩
  have hB1 : Below w.heap.size w w1 := hw1 ▸ (Below.refl _ _).alloc (Nat.le_refl _) _
  have hg : w1.heap[w.heap.size]? = some (.cells (cvC c) 194 (0, 0)) := hw1 ▸ heap_alloc_last w _
  have h3 : w1.cell? ⟨w.heap.size, 3, none⟩ = some (.int .i64 c.h) := by rw [Lib.cell_of_heap hg]; rfl
  have h4 : w1.cell? ⟨w.heap.size, 4, none⟩ = some (.int .i64 c.n) := by rw [Lib.cell_of_heap hg]; rfl
  have h5 : w1.cell? ⟨w.heap.size, 5, none⟩ = some (.int .i64 c.s) := by rw [Lib.cell_of_heap hg]; rfl
  have hlt : w.heap.size < w1.heap.size := (Array.getElem?_eq_some_iff.1 hg).1
  have HK : ∀ n : Int, 0 ≤ n → n ≤ 99 → ∀ W : World, W.cell? ⟨w.heap.size, 3, none⟩ = some (.int .i64 c.h) ∧ W.cell? ⟨w.heap.size, 4, none⟩ = some (.int .i64 c.n) ∧ W.cell? ⟨w.heap.size, 5, none⟩ = some (.int .i64 c.s) ∧ Below w1.heap.size w1 W →
      Calls Tryz.prog 227 #[.int .i64 n] W fun e W' => e = .returned (.string (mkS (two n))) ∧ W'.cell? ⟨w.heap.size, 3, none⟩ = some (.int .i64 c.h) ∧ W'.cell? ⟨w.heap.size, 4, none⟩ = some (.int .i64 c.n) ∧ W'.cell? ⟨w.heap.size, 5, none⟩ = some (.int .i64 c.s) ∧ Below w1.heap.size w1 W' := by
    rintro n hn0 hn1 W ⟨a3, a4, a5, hb⟩
    refine (rtwo_any n W ⟨hn0, hn1⟩).mono ?_
    rintro e W' ⟨he, hb2⟩
    have hs := hb.size
    exact ⟨he, (hb2.cell (by show w.heap.size < _; omega)).trans a3, (hb2.cell (by show w.heap.size < _; omega)).trans a4, (hb2.cell (by show w.heap.size < _; omega)).trans a5, hb.trans (hb2.mono hs)⟩
  have r3 := hr.h; have r4 := hr.n; have r5 := hr.s
  have H := Lib.hid HK
  have b3 : 0 ≤ c.h := by omega
  have d3 : c.h ≤ 99 := by omega
  have b4 : 0 ≤ c.n := by omega
  have d4 : c.n ≤ 99 := by omega
  have b5 : 0 ≤ c.s := by omega
  have d5 : c.s ≤ 99 := by omega
  have HV := Lib.hid (clk_eq c)
  have z3 := two_size c.h
  have z4 := two_size c.n
  have z5 := two_size c.s
  have HB1 := Lib.hid hB1
  have HS0 := Lib.hid (Below.refl w1.heap.size w1)
  unfold cvV
  unfold cvC at hw1
  have HW1 := Lib.hid hw1
  clear hr HK hB1 hg hlt r3 r4 r5 hw1
  generalize mkS (clk c) = R at *
  generalize c.y = v0 at *
  generalize c.m = v1 at *
  generalize c.d = v2 at *
  generalize c.h = v3 at *
  generalize c.n = v4 at *
  generalize c.s = v5 at *
  generalize c.w = v6 at *
  go_enter Tryz.func228, Tryz.ntmps228
  go_upto_region 1 with (fail)
  rw [← HW1.out]
  have j3 : w1.drew.cell? ⟨w.heap.size, 3, none⟩ = some (.int .i64 v3) := h3
  have j4 : w1.drew.cell? ⟨w.heap.size, 4, none⟩ = some (.int .i64 v4) := h4
  have j5 : w1.drew.cell? ⟨w.heap.size, 5, none⟩ = some (.int .i64 v5) := h5
  have jb : Below w1.heap.size w1 w1.drew := (Below.refl _ _).drew
  go_region_held3 (fun w' => w'.cell? ⟨w.heap.size, 3, none⟩ = some (.int .i64 v3) ∧ w'.cell? ⟨w.heap.size, 4, none⟩ = some (.int .i64 v4) ∧ w'.cell? ⟨w.heap.size, 5, none⟩ = some (.int .i64 v5) ∧ Below w1.heap.size w1 w') (first | (refine ⟨?_, ?_, ?_, ?_⟩ <;> assumption)) (first
    | (go_at_call 227; refine (H.out _ (by assumption) (by assumption) _ ⟨by assumption, by assumption, by assumption, by assumption⟩).mono ?_; rintro e w' ⟨rfl, k3, k4, k5, kb⟩))
  all_goals
    go_wp2_with fail
    go_ret
    exact ⟨retS HV.out, HB1.out.trans (Below.mono (by assumption) HB1.out.size)⟩

/-- the digits at some places, or -1 -/
def rnum (s : Bs) (a b : Nat) : Int := if b ≤ s.length ∧ ((s.drop a).take (b - a)).all isDig = true then (valFrom 0 ((s.drop a).take (b - a)) : Int) else -1
theorem rnum_bad {s : Bs} {a b i : Nat} (h1 : a ≤ i) (h2 : i < b) (h : s.length ≤ i ∨ (i < s.length ∧ isDig (s.getD i 0) = false)) : rnum s a b = -1 := by
  unfold rnum
  rw [if_neg]
  rintro ⟨hb, hall⟩
  rcases h with h | ⟨h3, h4⟩
  · omega
  · have hm : s.getD i 0 ∈ (s.drop a).take (b - a) := by
      rw [List.mem_iff_getElem?]
      refine ⟨i - a, ?_⟩
      rw [List.getElem?_take, if_pos (by omega), List.getElem?_drop, show a + (i - a) = i by omega]
      simp [List.getD, h3]
    have := List.all_eq_true.1 hall _ hm
    rw [h4] at this; cases this
theorem rnum_go {s : Bs} {a b : Nat} (h : b ≤ s.length) (hd : ∀ i, a ≤ i → i < b → isDig (s.getD i 0) = true) : rnum s a b = (valFrom 0 ((s.drop a).take (b - a)) : Int) := by
  unfold rnum
  rw [if_pos]
  refine ⟨h, List.all_eq_true.2 fun x hx => ?_⟩
  obtain ⟨k, hk⟩ := List.mem_iff_getElem?.1 hx
  rw [List.getElem?_take] at hk
  split at hk
  · rw [List.getElem?_drop] at hk
    have hlt : a + k < s.length := by
      refine Nat.lt_of_not_le fun hle => ?_
      rw [List.getElem?_eq_none hle] at hk; cases hk
    have := hd (a + k) (by omega) (by omega)
    simpa [List.getD, hk] using this
  · cases hk
theorem slice_next {s : Bs} {a i : Nat} (h1 : a ≤ i) (h2 : i < s.length) : (s.drop a).take (i + 1 - a) = (s.drop a).take (i - a) ++ [s.getD i 0] := by
  rw [show i + 1 - a = (i - a) + 1 by omega, take_snoc _ _ (by rw [List.length_drop]; omega)]
  congr 2
  simp [List.getD, List.getElem?_drop, show a + (i - a) = i by omega]
end Tk
end Go.Proofs.YtajmheblbnodjaaGreatDoor
namespace Go.Proofs.YtajmheblbnodjaaGreatDoor
open Go.RowKit
namespace Tk

def cvA (s : Bs) : Cv := ⟨rnum s 12 16, monNo ((s.drop 8).take 3), rnum s 5 7, rnum s 17 19, rnum s 20 22, rnum s 23 25, 0⟩
def dyC (s : Bs) : Int := if 9 < s.length ∧ s.getD 8 0 = 32 then rnum s 9 10 else rnum s 8 10
def cvK (s : Bs) : Cv := ⟨rnum s 20 24, monNo ((s.drop 4).take 3), dyC s, rnum s 11 13, rnum s 14 16, rnum s 17 19, 0⟩
def cma (s : Bs) : Nat := (s.takeWhile (fun c => c != 44)).length
def cvM (s : Bs) (now : Int) : Cv := ⟨lateY (rnum s (cma s + 9) (cma s + 11)) now, monNo ((s.drop (cma s + 5)).take 3), rnum s (cma s + 2) (cma s + 4), rnum s (cma s + 12) (cma s + 14), rnum s (cma s + 15) (cma s + 17), rnum s (cma s + 18) (cma s + 20), 0⟩
/-- with its weekday -/
def wkd (c : Cv) : Cv := ⟨c.y, c.m, c.d, c.h, c.n, c.s, (dayN c.y c.m c.d + 4) % 7⟩
def rTry (c : Cv) (s : Bs) : Option Int := if okC (wkd c) = true ∧ (fA (wkd c) = s ∨ fB (wkd c) = s ∨ fC (wkd c) = s) then some (secC (wkd c)) else none
def rP (s : Bs) (now : Int) : Option Int := match rTry (cvA s) s with
  | some t => some t
  | none => match rTry (cvK s) s with
    | some t => some t
    | none => if 0 ≤ rnum s (cma s + 9) (cma s + 11) then rTry (cvM s now) s else none

theorem rTry_some {c : Cv} {s : Bs} {t : Int} (h : rTry c s = some t) : 0 ≤ t ∧ t ≤ maxT ∧ civ t = wkd c ∧ okC (wkd c) = true ∧ (fA (civ t) = s ∨ fB (civ t) = s ∨ fC (civ t) = s) := by
  unfold rTry at h
  split at h
  · rename_i hc
    obtain rfl := Option.some.inj h
    obtain ⟨h1, h2, h3⟩ := sec_ok _ hc.1
    rw [h3]
    exact ⟨h1, h2, rfl, hc.1, hc.2⟩
  · cases h
theorem rTry_bad {c : Cv} {s : Bs} (h : ¬ 1970 ≤ c.y) : rTry c s = none := by
  unfold rTry
  rw [if_neg]
  rintro ⟨h1, -⟩
  exact h (okC_rg h1).y.1
theorem wkd_civ {t : Int} (h0 : 0 ≤ t) (h1 : t ≤ maxT) : wkd (civ t) = civ t := by
  have hk := (civ_ok t h0 h1).1
  unfold okC at hk
  simp only [Bool.and_eq_true, decide_eq_true_eq] at hk
  unfold wkd
  rw [← hk.2]
theorem rTry_civ {c : Cv} {s : Bs} {t : Int} (h0 : 0 ≤ t) (h1 : t ≤ maxT) (hc : wkd c = civ t) (hs : fA (civ t) = s ∨ fB (civ t) = s ∨ fC (civ t) = s) : rTry c s = some t := by
  unfold rTry
  rw [hc, if_pos ⟨(civ_ok t h0 h1).1, hs⟩, (civ_ok t h0 h1).2]
theorem rnum_two {s : Bs} {a : Nat} {n : Int} (hn : 0 ≤ n ∧ n ≤ 99) (hl : a + 2 ≤ s.length) (h : (s.drop a).take 2 = two n) : rnum s a (a + 2) = n := by
  unfold rnum
  rw [show a + 2 - a = 2 by omega, h, if_pos ⟨hl, List.all_eq_true.2 (two_digs n hn)⟩, valFrom_two n hn]
theorem rnum_yr {s : Bs} {a : Nat} {n : Int} (hn : 0 ≤ n ∧ n ≤ 9999) (hl : a + 4 ≤ s.length) (h : (s.drop a).take 4 = yr4 n) : rnum s a (a + 4) = n := by
  unfold rnum
  rw [show a + 4 - a = 4 by omega, h, if_pos ⟨hl, List.all_eq_true.2 (yr4_digs n hn)⟩, valFrom_yr4 n hn]
theorem clk_at {s : Bs} {a : Nat} {c : Cv} (hr : Rg c) (hl : a + 8 ≤ s.length) (h : (s.drop a).take 8 = clk c) : rnum s a (a + 2) = c.h ∧ rnum s (a + 3) (a + 5) = c.n ∧ rnum s (a + 6) (a + 8) = c.s := by
  have b1 := hr.h; have b2 := hr.n; have b3 := hr.s
  have k : ∀ i j, i + j ≤ 8 → (s.drop (a + i)).take j = ((clk c).drop i).take j := by
    intro i j hij
    rw [← h, List.drop_take, List.take_take, List.drop_drop, Nat.min_eq_left (by omega)]
  refine ⟨rnum_two (by omega) (by omega) ?_, rnum_two (a := a + 3) (by omega) (by omega) ?_, rnum_two (a := a + 6) (by omega) (by omega) ?_⟩
  · exact (k 0 2 (by omega)).trans rfl
  · exact (k 3 2 (by omega)).trans rfl
  · exact (k 6 2 (by omega)).trans rfl
theorem cvA_fA {t : Int} (h0 : 0 ≤ t) (h1 : t ≤ maxT) : wkd (cvA (fA (civ t))) = civ t := by
  have hr := civ_rg h0 h1
  obtain ⟨l1, l2, l3, l4, l5⟩ := fA_parts hr
  have a1 := hr.y; have a2 := hr.d
  obtain ⟨c1, c2, c3⟩ := clk_at (a := 17) hr (by omega) l5
  have e := wkd_civ h0 h1
  unfold cvA
  rw [rnum_yr (a := 12) (by omega) (by omega) l2, l3, monNo_mnm _ hr.m, rnum_two (a := 5) (by omega) (by omega) l4, c1, c2, c3]
  exact e
theorem fC_day {c : Cv} (hr : Rg c) : dyC (fC c) = c.d := by
  obtain ⟨l1, -, -, l4, -⟩ := fC_parts hr
  have a2 := hr.d
  have e8 : ∀ x y, dC c.d = [x, y] → (fC c).getD 8 0 = x ∧ ((fC c).drop 9).take 1 = [y] := by
    intro x y h
    obtain ⟨a, b, e, hw, -⟩ := dnm_three c.w hr.w
    obtain ⟨p, q, r, hm, -⟩ := mnm_three c.m hr.m
    unfold fC; rw [hw, hm, h]; exact ⟨rfl, rfl⟩
  unfold dyC
  by_cases hd : c.d < 10
  · obtain ⟨q1, q2⟩ := e8 32 (d1 c.d) (by unfold dC; rw [if_pos hd])
    rw [if_pos ⟨by omega, q1⟩]
    unfold rnum
    rw [show 10 - 9 = 1 from rfl, q2, if_pos ⟨by omega, by simp [d1_dig c.d (by omega)]⟩]
    have hn := d1_nat c.d (by omega)
    show ((0 * 10 + ((d1 c.d).toNat - 48) : Nat) : Int) = c.d
    rw [hn]; omega
  · obtain ⟨q1, -⟩ := e8 (d1 (c.d / 10)) (d1 (c.d % 10)) (by unfold dC; rw [if_neg hd]; rfl)
    rw [if_neg (fun h => by rw [q1] at h; exact d1_ne (c.d / 10) (by omega) 32 (by decide) h.2)]
    exact rnum_two (a := 8) (by omega) (by omega) (by rw [l4]; unfold dC; rw [if_neg hd])
theorem cvK_fC {t : Int} (h0 : 0 ≤ t) (h1 : t ≤ maxT) : wkd (cvK (fC (civ t))) = civ t := by
  have hr := civ_rg h0 h1
  obtain ⟨l1, l2, l3, l4, l5⟩ := fC_parts hr
  have a1 := hr.y
  obtain ⟨c1, c2, c3⟩ := clk_at (a := 11) hr (by omega) l5
  have e := wkd_civ h0 h1
  have l2' : ((fC (civ t)).drop 20).take 4 = yr4 (civ t).y := by rw [l2]; rfl
  unfold cvK
  rw [rnum_yr (a := 20) (by omega) (by omega) l2', l3, monNo_mnm _ hr.m, fC_day hr, c1, c2, c3]
  exact e
theorem cvA_fC {c : Cv} (hr : Rg c) : ¬ 1970 ≤ (cvA (fC c)).y := by
  have h : rnum (fC c) 12 16 = -1 := by
    refine rnum_bad (i := 13) (by omega) (by omega) (.inr ⟨by rw [(fC_parts hr).1]; decide, ?_⟩)
    obtain ⟨a, b, e, hw, -⟩ := dnm_three c.w hr.w
    obtain ⟨p, q, r, hm, -⟩ := mnm_three c.m hr.m
    obtain ⟨x, y, hd⟩ := dC_two c.d
    have : (fC c).getD 13 0 = 58 := by unfold fC; rw [hw, hm, hd]; rfl
    rw [this]; decide
  show ¬ 1970 ≤ rnum (fC c) 12 16
  rw [h]; decide

theorem drop_shift (l m : Bs) (k : Nat) : (l ++ m).drop (l.length + k) = m.drop k := by
  rw [← List.drop_drop, List.drop_left' rfl]
theorem rnum_shift (l m : Bs) (a b : Nat) : rnum (l ++ m) (l.length + a) (l.length + b) = rnum m a b := by
  unfold rnum
  rw [drop_shift, show l.length + b - (l.length + a) = b - a by omega, List.length_append]
  by_cases h : b ≤ m.length
  · simp only [show l.length + b ≤ l.length + m.length by omega, h, true_and]
  · simp only [show ¬ l.length + b ≤ l.length + m.length by omega, h, false_and]
theorem getD_shift (l m : Bs) (k : Nat) : (l ++ m).getD (l.length + k) 0 = m.getD k 0 := by
  simp [List.getD, List.getElem?_append_right]
theorem hdB_len (w : Int) : (dnm w ++ [44, 32]).length = (dnm w).length + 2 := by simp
theorem cma_fB {c : Cv} (hr : Rg c) : cma (fB c) = (dnm c.w).length := by
  rw [fB_eq]
  generalize tlB c = r
  have hw := hr.w
  generalize c.w = w at *
  have : w = 0 ∨ w = 1 ∨ w = 2 ∨ w = 3 ∨ w = 4 ∨ w = 5 ∨ w = 6 := by omega
  rcases this with rfl | rfl | rfl | rfl | rfl | rfl | rfl <;> rfl
theorem tlB_at {c : Cv} (hr : Rg c) : (tlB c).getD 2 0 = 45 ∧ (tlB c).getD 6 0 = 45 ∧ (tlB c).getD 12 0 = 58 := by
  obtain ⟨p, q, r, hm, -⟩ := mnm_three c.m hr.m
  unfold tlB
  rw [hm]
  exact ⟨rfl, rfl, rfl⟩
theorem cvM_fB {c : Cv} (hr : Rg c) (now : Int) : rnum (fB c) (cma (fB c) + 9) (cma (fB c) + 11) = c.y % 100 ∧ cvM (fB c) now = ⟨lateY (c.y % 100) now, c.m, c.d, c.h, c.n, c.s, 0⟩ := by
  obtain ⟨t1, t2, t3, t4, t5⟩ := tlB_parts hr
  have a1 := hr.y; have a2 := hr.d
  have e := cma_fB hr
  have hl := hdB_len c.w
  obtain ⟨c1, c2, c3⟩ := clk_at (a := 10) hr (by omega) t5
  have sh : ∀ a b, rnum (fB c) (cma (fB c) + (2 + a)) (cma (fB c) + (2 + b)) = rnum (tlB c) a b := by
    intro a b
    have := rnum_shift (dnm c.w ++ [44, 32]) (tlB c) a b
    rw [hl] at this
    rw [e, fB_eq, ← Nat.add_assoc, ← Nat.add_assoc]
    exact this
  have sy := (sh 7 9).trans (rnum_two (a := 7) (n := c.y % 100) (by omega) (by omega) t2)
  have sd := (sh 0 2).trans (rnum_two (a := 0) (n := c.d) (by omega) (by omega) t4)
  have s1 := (sh 10 12).trans c1
  have s2 := (sh 13 15).trans c2
  have s3 := (sh 16 18).trans c3
  have sm : ((fB c).drop (cma (fB c) + 5)).take 3 = mnm c.m := by
    have := drop_shift (dnm c.w ++ [44, 32]) (tlB c) 3
    rw [hl] at this
    rw [e, fB_eq, show (dnm c.w).length + 5 = (dnm c.w).length + 2 + 3 by omega, this]
    exact t3
  refine ⟨sy, ?_⟩
  unfold cvM
  rw [show cma (fB c) + 9 = cma (fB c) + (2 + 7) from rfl, show cma (fB c) + 11 = cma (fB c) + (2 + 9) from rfl, sy, sm, monNo_mnm _ hr.m, show cma (fB c) + 2 = cma (fB c) + (2 + 0) from rfl, show cma (fB c) + 4 = cma (fB c) + (2 + 2) from rfl, sd, show cma (fB c) + 12 = cma (fB c) + (2 + 10) from rfl, show cma (fB c) + 14 = cma (fB c) + (2 + 12) from rfl, s1, show cma (fB c) + 15 = cma (fB c) + (2 + 13) from rfl, show cma (fB c) + 17 = cma (fB c) + (2 + 15) from rfl, s2, show cma (fB c) + 18 = cma (fB c) + (2 + 16) from rfl, show cma (fB c) + 20 = cma (fB c) + (2 + 18) from rfl, s3]
theorem fB_getD {c : Cv} (k : Nat) : (fB c).getD ((dnm c.w).length + 2 + k) 0 = (tlB c).getD k 0 := by
  have := getD_shift (dnm c.w ++ [44, 32]) (tlB c) k
  rw [hdB_len] at this
  rw [fB_eq]; exact this
theorem cvA_fB {c : Cv} (hr : Rg c) : ¬ 1970 ≤ (cvA (fB c)).y := by
  have hL := dnm_len c.w hr.w
  have hf := fB_len hr
  obtain ⟨q2, q6, -⟩ := tlB_at hr
  have h : rnum (fB c) 12 16 = -1 := by
    by_cases h8 : 8 ≤ (dnm c.w).length
    · exact rnum_bad (i := (dnm c.w).length + 2 + 2) (by omega) (by omega) (.inr ⟨by omega, by rw [fB_getD, q2]; decide⟩)
    · exact rnum_bad (i := (dnm c.w).length + 2 + 6) (by omega) (by omega) (.inr ⟨by omega, by rw [fB_getD, q6]; decide⟩)
  show ¬ 1970 ≤ rnum (fB c) 12 16
  rw [h]; decide
theorem cvK_fB {c : Cv} (hr : Rg c) : ¬ 1970 ≤ (cvK (fB c)).y := by
  have hL := dnm_len c.w hr.w
  have hf := fB_len hr
  obtain ⟨-, -, q12⟩ := tlB_at hr
  have h : rnum (fB c) 20 24 = -1 := rnum_bad (i := (dnm c.w).length + 2 + 12) (by omega) (by omega) (.inr ⟨by omega, by rw [fB_getD, q12]; decide⟩)
  show ¬ 1970 ≤ rnum (fB c) 20 24
  rw [h]; decide
theorem says_rP {s : Bs} {now t : Int} (h : Says s now t) : rP s now = some t := by
  obtain ⟨h0, h1, h2⟩ := h
  have hr := civ_rg h0 h1
  rcases h2 with rfl | rfl | ⟨rfl, hy⟩
  · unfold rP; rw [rTry_civ h0 h1 (cvA_fA h0 h1) (.inl rfl)]
  · unfold rP; rw [rTry_bad (cvA_fC hr), rTry_civ h0 h1 (cvK_fC h0 h1) (.inr (.inr rfl))]
  · obtain ⟨m1, m2⟩ := cvM_fB hr now
    have a1 := hr.y
    have hm : wkd (cvM (fB (civ t)) now) = civ t := by
      rw [m2, ← hy]; exact wkd_civ h0 h1
    unfold rP; rw [rTry_bad (cvA_fB hr), rTry_bad (cvK_fB hr)]
    show (if 0 ≤ rnum _ _ _ then _ else _) = _
    rw [m1, if_pos (by omega), rTry_civ h0 h1 hm (.inr (.inl rfl))]
theorem rP_says {s : Bs} {now t : Int} (h : rP s now = some t) : Says s now t := by
  have key : ∀ c : Cv, rTry c s = some t → (∀ c2, Rg c2 → s = fB c2 → ¬ 1970 ≤ c.y) → Says s now t := by
    intro c hc hb
    obtain ⟨h0, h1, h2, h3, h4⟩ := rTry_some hc
    have hr := civ_rg h0 h1
    rcases h4 with h4 | h4 | h4
    · exact ⟨h0, h1, .inl h4.symm⟩
    · exact absurd (okC_rg h3).y.1 (hb _ hr h4.symm)
    · exact ⟨h0, h1, .inr (.inl h4.symm)⟩
  unfold rP at h
  split at h
  · rename_i t' hA
    obtain rfl := Option.some.inj h
    exact key _ hA (fun c2 hr hs => hs ▸ cvA_fB hr)
  · split at h
    · rename_i t' hK
      obtain rfl := Option.some.inj h
      exact key _ hK (fun c2 hr hs => hs ▸ cvK_fB hr)
    · split at h
      · obtain ⟨h0, h1, h2, h3, h4⟩ := rTry_some h
        have hr := civ_rg h0 h1
        rcases h4 with h4 | h4 | h4
        · exact ⟨h0, h1, .inl h4.symm⟩
        · refine ⟨h0, h1, .inr (.inr ⟨h4.symm, ?_⟩)⟩
          have e := congrArg Cv.y h2
          have m2 := (cvM_fB hr now).2
          rw [h4] at m2
          rw [m2] at e
          exact e
        · exact ⟨h0, h1, .inr (.inl h4.symm)⟩
      · cases h
/-- the document's Parse answers as the program's -/
theorem rP_eq (s : Bs) (now : Int) : rP s now = pP s now := by
  cases h : rP s now with
  | some t => exact (says_pP (rP_says h)).symm
  | none =>
    cases h2 : pP s now with
    | none => rfl
    | some t =>
      have := says_rP (pP_says h2)
      rw [h] at this; cases this
end Tk
end Go.Proofs.YtajmheblbnodjaaGreatDoor
namespace Go.Proofs.YtajmheblbnodjaaGreatDoor
open Go.RowKit
namespace Tk

theorem day_first (y : Int) (m : Nat) (hy : 1970 ≤ y) (hm : 1 ≤ m ∧ m ≤ 12) : dayV y (m : Int) 1 = (if y ≤ 9999 then yS y + mC y (m - 1) else 0) ∧ dayE y (m : Int) 1 = (if y ≤ 9999 then 0 else 2) := by
  have := mD_28 y m
  have e : ((m : Int) - 1).toNat = m - 1 := by omega
  by_cases h : y ≤ 9999
  · have hk : okDay y (m : Int) 1 = true := (okDay_iff _ _ _).2 ⟨hy, h, by omega, by omega, by omega, by omega⟩
    unfold dayV dayE dayN
    rw [if_pos hk, if_pos hk, if_pos h, if_pos h, e]
    exact ⟨by omega, rfl⟩
  · have hk : okDay y (m : Int) 1 = false := by
      cases hq : okDay y (m : Int) 1
      · rfl
      · exact absurd ((okDay_iff _ _ _).1 hq).2.1 h
    unfold dayV dayE
    rw [if_neg h, if_neg h, hk]; exact ⟨rfl, rfl⟩
theorem pow_half (j : Nat) : ((2 ^ (j + 1) / 2 : Nat) : Int) = 2 ^ j := by
  rw [Nat.pow_succ, Nat.mul_div_cancel _ (by decide)]; simp
theorem pow_le (j : Nat) (h : j ≤ 14) : (2 : Int) ^ j ≤ 16384 ∧ 1 ≤ (2 : Int) ^ j := by
  have h1 : 2 ^ j ≤ 2 ^ 14 := Nat.pow_le_pow_right (by decide) h
  have h2 : 1 ≤ 2 ^ j := Nat.one_le_two_pow
  have e : (2 : Int) ^ j = ((2 ^ j : Nat) : Int) := by simp
  rw [e]; omega
theorem pow_next (j : Nat) : (2 : Int) ^ (j + 1) = 2 * 2 ^ j := by rw [Int.pow_succ]; omega

theorem pow_div2 (j : Nat) : (2 : Int) ^ j / 2 = ((2 ^ j / 2 : Nat) : Int) := by
  rw [Int.natCast_ediv]; simp
theorem days_at (y m : Int) (v e : Int) (W : World) (hv : dayV y m 1 = v) (he : dayE y m 1 = e) : Calls Tryz.prog 174 #[.int .i64 y, .int .i64 m, .int .i64 1] W fun x w' => x = .returned (.tuple #[.int .i64 v, .int .i64 e]) ∧ W = w' := by
  have h := rdays_any y m 1 W
  rw [hv, he] at h
  exact h

set_option maxHeartbeats 16000000 in
set_option maxRecDepth 100000 in
theorem rcivil_any (t : Int) (w : World) (ht : -9223372036854775808 ≤ t ∧ t ≤ 9223372036854775807) :
    Calls Tryz.prog 177 #[.int .i64 t] w (CivPost t w) := by
  have hT : okT t = (decide (0 ≤ t) && decide (t ≤ 253402300799)) := rfl
  unfold CivPost
  by_cases h0 : t < 0
  · have HX := Lib.hid (civX_bad (t := t) (by rw [hT, decide_eq_false (by omega)]; rfl))
    have e1 : decide (t < 0) = true := decide_eq_true h0
    clear hT ht
    go_enter Tryz.func177, Tryz.ntmps177
    go_wp2_with fail
    refine bodyPost_ret (v := .tuple #[.agg #[.int .i64 0, .int .i64 0, .int .i64 0, .int .i64 0, .int .i64 0, .int .i64 0, .int .i64 0], .int .i64 2]) ?_ rfl ⟨?_, (Below.refl _ _).alloc (Nat.le_refl _) _⟩
    · exact results_cv (g := w.heap.size) (t := 194) rfl _ _ _ (0, 0) _ _ rfl (heap_alloc_last w _) Tryz.underlying194 rfl (by kernel_rfl) rfl
    · exact civ_ret HX.out.1 HX.out.2
  have e1 : decide (t < 0) = false := decide_eq_false h0
  by_cases h1 : 253402300799 < t
  · have HX := Lib.hid (civX_bad (t := t) (by rw [hT, decide_eq_false (p := t ≤ 253402300799) (by omega)]; simp))
    have e2 : decide (253402300799 < t) = true := decide_eq_true h1
    clear hT ht
    go_enter Tryz.func177, Tryz.ntmps177
    go_wp2_with fail
    refine bodyPost_ret (v := .tuple #[.agg #[.int .i64 0, .int .i64 0, .int .i64 0, .int .i64 0, .int .i64 0, .int .i64 0, .int .i64 0], .int .i64 2]) ?_ rfl ⟨?_, (Below.refl _ _).alloc (Nat.le_refl _) _⟩
    · exact results_cv (g := w.heap.size) (t := 194) rfl _ _ _ (0, 0) _ _ rfl (heap_alloc_last w _) Tryz.underlying194 rfl (by kernel_rfl) rfl
    · exact civ_ret HX.out.1 HX.out.2
  have e2 : decide (253402300799 < t) = false := decide_eq_false h1
  have hD : 0 ≤ t / 86400 ∧ t / 86400 < 2932897 := by omega
  have hR : 0 ≤ t % 86400 ∧ t % 86400 < 86400 := by omega
  have hr := yOf_range _ hD.1 hD.2
  obtain ⟨s1, s2⟩ := yOf_spec _ hD.1
  have hx : okT t = true := (okT_iff t).2 ⟨by omega, by unfold maxT; omega⟩
  have HX := Lib.hid (civX_ok hx)
  have HC := Lib.hid (fun m : Nat => show mOf (yOf (t / 86400)) (t / 86400 - yS (yOf (t / 86400))) = m → civ t = ⟨yOf (t / 86400), m, t / 86400 - yS (yOf (t / 86400)) - mC (yOf (t / 86400)) (m - 1) + 1, t % 86400 / 3600, t % 86400 / 60 % 60, t % 60, (t / 86400 + 4) % 7⟩ from fun h => by
    unfold civ; rw [h]; congr 1 <;> omega)
  have hlp := lpY_01 (yOf (t / 86400))
  have s3 := s2
  rw [yS_next] at s3
  obtain ⟨n, hn⟩ : ∃ n, n = t / 86400 := ⟨_, rfl⟩
  obtain ⟨r, hrr⟩ : ∃ r, r = t % 86400 := ⟨_, rfl⟩
  rw [← hn] at HC hD s1 s2 s3 hr hlp
  rw [← hrr] at HC hR
  generalize yOf n = Y at *
  have HDy := Lib.hid (fun (y : Int) (m : Nat) (hy : 1970 ≤ y) (hm : 1 ≤ m ∧ m ≤ 12) => day_first y m hy hm)
  have HDd := Lib.hid (fun (y m : Int) (W : World) => rdays_any y m 1 W)
  have HLe := Lib.hid (fun (a b : Int) (h : a ≤ b) => yS_le h)
  have HP := Lib.hid pow_half
  have HPl := Lib.hid pow_le
  have HPn := Lib.hid pow_next
  have hys : 0 ≤ yS Y ∧ yS Y ≤ 4000000 := by unfold yS lpB; omega
  have HyS := Lib.hid (fun (y : Int) (h : 1970 ≤ y ∧ y ≤ 9999) => show 0 ≤ yS y ∧ yS y ≤ 4000000 by unfold yS lpB; omega)
  go_enter Tryz.func177, Tryz.ntmps177
  go_wp2_with fail
  rw [← hn, ← hrr]
  clear hn hrr hx hT
  generalize r / 3600 = hh at *
  generalize r / 60 % 60 = nn at *
  generalize t % 60 = ss at *
  generalize (n + 4) % 7 = wd at *
  have HPd := Lib.hid pow_div2
  have hD2 := hD
  go_loopw [7, 8, 9] (fun vk _ _ wr => ∃ (j : Nat) (y : Int), j ≤ 14 ∧ vk = .int .i64 ((2 ^ j / 2 : Nat) : Int) ∧ 1970 ≤ y ∧ y ≤ Y ∧ Y < y + 2 ^ j ∧ wr = (w.alloc (.cells #[.int .i64 0, .int .i64 0, .int .i64 0, .int .i64 0, .int .i64 0, .int .i64 0, .int .i64 0] 194)).alloc (.cells #[.int .i64 y, .int .i64 1, .int .i64 1, .int .i64 hh, .int .i64 nn, .int .i64 ss, .int .i64 wd] 194)) (fun vk _ _ _ => (RowKit.intOf vk).toNat)
  case atStart => exact ⟨14, 1970, by omega, rfl, by omega, hr.1, by have := hr.2; show Y < 1970 + 16384; omega, rfl⟩
  case round =>
    obtain ⟨j, y, hj, rfl, hy1, hy2, hy3, rfl⟩ := hrel
    cases j with
    | zero =>
      have hyY : y = Y := by simp at hy3; omega
      subst hyY
      simp only [Nat.pow_zero, Nat.reduceDiv, Int.cast_ofNat_Int]
      have HMi := Lib.hid (fun (a : Nat) (a0 : 1 ≤ a) (a1 : a ≤ 12) (a2 : mC y (a - 1) ≤ n - yS y) (a3 : n - yS y < mC y a) => mOf_is y (n - yS y) a0 a1 a2 a3)
      have HC12 : Hid (mC y 12 = 365 + lpY y) := rfl
      have HCk := Lib.hid (fun k (h : k ≤ 12) => show 0 ≤ mC y k ∧ mC y k ≤ 400 from by
        have a1 := mC_le y k 0 (by omega)
        have a2 := mC_le y (12 - k) k (by omega)
        rw [Nat.zero_add] at a1
        rw [show k + (12 - k) = 12 by omega, mC_12] at a2
        have a3 : mC y 0 = 0 := rfl
        omega)
      have HDm := Lib.hid (fun (m : Nat) (hm : 1 ≤ m ∧ m ≤ 12) (W : World) => days_at y m (yS y + mC y (m - 1)) 0 W (by rw [(HDy.out y m (by omega) hm).1, if_pos hr.2]) (by rw [(HDy.out y m (by omega) hm).2, if_pos hr.2]))
      have HG := Lib.hid (fun m : Int => heap_alloc_last (w.alloc (.cells #[.int .i64 0, .int .i64 0, .int .i64 0, .int .i64 0, .int .i64 0, .int .i64 0, .int .i64 0] 194)) (.cells #[.int .i64 y, .int .i64 m, .int .i64 1, .int .i64 hh, .int .i64 nn, .int .i64 ss, .int .i64 wd] 194))
      have hwz : Hid ((w.alloc (.cells #[.int .i64 0, .int .i64 0, .int .i64 0, .int .i64 0, .int .i64 0, .int .i64 0, .int .i64 0] 194)).heap.size = w.heap.size + 1) := Array.size_push _
      clear HDy HDd HLe HP HPl HPn HPd HyS hy3
      go_wp2_with fail
      go_loopw [10, 11] (fun _ _ wr => ∃ m : Nat, 1 ≤ m ∧ m ≤ 12 ∧ mC y (m - 1) ≤ n - yS y ∧ wr = (w.alloc (.cells #[.int .i64 0, .int .i64 0, .int .i64 0, .int .i64 0, .int .i64 0, .int .i64 0, .int .i64 0] 194)).alloc (.cells #[.int .i64 y, .int .i64 m, .int .i64 1, .int .i64 hh, .int .i64 nn, .int .i64 ss, .int .i64 wd] 194)) (fun _ _ wr => (12 - RowKit.intOf ((wr.cell? ⟨w.heap.size + 1, 1, none⟩).getD undef)).toNat)
      case atStart => exact ⟨1, by omega, by omega, by show (0 : Int) ≤ _; omega, rfl⟩
      case round =>
        obtain ⟨m, hm1, hm2, hm3, rfl⟩ := hrel
        have hmc := HCk.out m hm2
        have hcell : ((w.alloc (.cells #[.int .i64 0, .int .i64 0, .int .i64 0, .int .i64 0, .int .i64 0, .int .i64 0, .int .i64 0] 194)).alloc (.cells #[.int .i64 y, .int .i64 (m : Int), .int .i64 1, .int .i64 hh, .int .i64 nn, .int .i64 ss, .int .i64 wd] 194)).cell? ⟨w.heap.size + 1, 1, none⟩ = some (.int .i64 (m : Int)) := by
          have := HG.out (m : Int); rw [hwz.out] at this; rw [Lib.cell_of_heap this]; rfl
        have hcell2 : ((w.alloc (.cells #[.int .i64 0, .int .i64 0, .int .i64 0, .int .i64 0, .int .i64 0, .int .i64 0, .int .i64 0] 194)).alloc (.cells #[.int .i64 y, .int .i64 ((m : Int) + 1), .int .i64 1, .int .i64 hh, .int .i64 nn, .int .i64 ss, .int .i64 wd] 194)).cell? ⟨w.heap.size + 1, 1, none⟩ = some (.int .i64 ((m : Int) + 1)) := by
          have := HG.out ((m : Int) + 1); rw [hwz.out] at this; rw [Lib.cell_of_heap this]; rfl
        by_cases h12 : m < 12
        · have HDm1 := Lib.hid (fun W => HDm.out (m + 1) ⟨by omega, by omega⟩ W)
          rw [Nat.add_sub_cancel] at HDm1
          have hmi : (m : Int) < 12 := by omega
          by_cases hgt : n < yS y + mC y m
          · clear hcell hcell2
            go_wp2_with fail
            refine (HDm1.out _).mono ?_
            rintro e w' ⟨rfl, rfl⟩
            have hM := HMi.out m hm1 hm2 hm3 (by omega)
            have HE := Lib.hid (HC.out m hM)
            have HD1 := Lib.hid (HDm.out m ⟨hm1, hm2⟩)
            have hcm := HCk.out (m - 1) (by omega)
            obtain ⟨f1, f2, fb⟩ := two_alloc w #[.int .i64 y, .int .i64 (m : Int), .int .i64 (n - (yS y + mC y (m - 1)) + 1), .int .i64 hh, .int .i64 nn, .int .i64 ss, .int .i64 wd] #[.int .i64 y, .int .i64 (m : Int), .int .i64 (n - (yS y + mC y (m - 1)) + 1), .int .i64 hh, .int .i64 nn, .int .i64 ss, .int .i64 wd] 194 194
            have F1 := Lib.hid f1
            have FB := Lib.hid fb
            clear f1 f2 fb
            clear HMi HC12 HCk HDm HC hM HG
            go_wp2_with fail
            refine (HD1.out _).mono ?_
            rintro e w' ⟨rfl, rfl⟩
            go_wp2_with fail
            refine bodyPost_ret (v := .tuple #[.agg #[.int .i64 y, .int .i64 (m : Int), .int .i64 (n - (yS y + mC y (m - 1)) + 1), .int .i64 hh, .int .i64 nn, .int .i64 ss, .int .i64 wd], .int .i64 0]) ?_ rfl ⟨?_, FB.out⟩
            · exact results_cv (g := w.heap.size) (t := 194) rfl _ _ _ (0, 0) _ _ rfl F1.out Tryz.underlying194 rfl (by kernel_rfl) rfl
            · refine civ_ret ?_ HX.out.2
              rw [HX.out.1, HE.out, show n - yS y - mC y (m - 1) + 1 = n - (yS y + mC y (m - 1)) + 1 by omega]
          · have HC2 := Lib.hid hcell
            have HC3 := Lib.hid hcell2
            clear hcell hcell2 HMi HC12 HCk HDm HC HG
            go_wp2_with fail
            refine (HDm1.out _).mono ?_
            rintro e w' ⟨rfl, rfl⟩
            go_wp2_with fail
            refine ⟨⟨m + 1, by omega, by omega, by rw [Nat.add_sub_cancel]; omega, by rw [show ((m + 1 : Nat) : Int) = (m : Int) + 1 by omega]⟩, ?_⟩
            rw [HC2.out, HC3.out]
            simp only [Option.getD_some, RowKit.intOf]; omega
        · have hl12 : n - yS y < mC y m := by
            obtain rfl : m = 12 := by omega
            have h12c := HC12.out
            omega
          have hmi : ¬ (m : Int) < 12 := by omega
          clear hcell hcell2 h12
          have hM := HMi.out m hm1 hm2 hm3 hl12
          have HE := Lib.hid (HC.out m hM)
          have HD1 := Lib.hid (HDm.out m ⟨hm1, hm2⟩)
          have hcm := HCk.out (m - 1) (by omega)
          obtain ⟨f1, f2, fb⟩ := two_alloc w #[.int .i64 y, .int .i64 (m : Int), .int .i64 (n - (yS y + mC y (m - 1)) + 1), .int .i64 hh, .int .i64 nn, .int .i64 ss, .int .i64 wd] #[.int .i64 y, .int .i64 (m : Int), .int .i64 (n - (yS y + mC y (m - 1)) + 1), .int .i64 hh, .int .i64 nn, .int .i64 ss, .int .i64 wd] 194 194
          have F1 := Lib.hid f1
          have FB := Lib.hid fb
          clear f1 f2 fb
          clear HMi HC12 HCk HDm HC hM HG
          go_wp2_with fail
          refine (HD1.out _).mono ?_
          rintro e w' ⟨rfl, rfl⟩
          go_wp2_with fail
          refine bodyPost_ret (v := .tuple #[.agg #[.int .i64 y, .int .i64 (m : Int), .int .i64 (n - (yS y + mC y (m - 1)) + 1), .int .i64 hh, .int .i64 nn, .int .i64 ss, .int .i64 wd], .int .i64 0]) ?_ rfl ⟨?_, FB.out⟩
          · exact results_cv (g := w.heap.size) (t := 194) rfl _ _ _ (0, 0) _ _ rfl F1.out Tryz.underlying194 rfl (by kernel_rfl) rfl
          · refine civ_ret ?_ HX.out.2
            rw [HX.out.1, HE.out, show n - yS y - mC y (m - 1) + 1 = n - (yS y + mC y (m - 1)) + 1 by omega]
    | succ j =>
      have hp := HP.out j
      have hpl := HPl.out j (by omega)
      have hpn := HPn.out j
      have hpl2 := HPl.out (j + 1) hj
      have hpd := HPd.out j
      rw [hp]
      rw [hpn] at hy3 hpl2
      generalize hKe : (2 : Int) ^ j = K at *
      have HKe := Lib.hid hKe
      clear hKe
      have hK : K ≤ 8192 := by omega
      by_cases h9 : y + K ≤ 9999
      · have HDk := Lib.hid (fun W => days_at (y + K) 1 (yS (y + K)) 0 W (by have := (HDy.out (y + K) 1 (by omega) (by decide)).1; rw [if_pos h9] at this; exact this.trans (by show yS (y + K) + 0 = _; omega)) (by have := (HDy.out (y + K) 1 (by omega) (by decide)).2; rw [if_pos h9] at this; exact this))
        have hz := HyS.out (y + K) ⟨by omega, h9⟩
        by_cases hle : yS (y + K) ≤ n
        · have hYk : y + K ≤ Y := Int.not_lt.1 fun hlt => by
            have := HLe.out (Y + 1) (y + K) (by omega)
            omega
          clear HDy HDd HLe HP HPl HPn HPd HyS hp hpn
          generalize yS (y + K) = Sk at *
          go_wp2_with fail
          refine (HDk.out _).mono ?_
          rintro e w' ⟨rfl, rfl⟩
          go_wp2_with fail
          exact ⟨⟨j, y + K, by omega, by rw [← hpd], by omega, by omega, by rw [HKe.out]; omega, rfl⟩, by simp only [RowKit.intOf]; omega⟩
        · have hYk : Y < y + K := Int.not_le.1 fun hlt => by
            have := HLe.out (y + K) Y hlt
            omega
          clear HDy HDd HLe HP HPl HPn HPd HyS hp hpn
          generalize yS (y + K) = Sk at *
          go_wp2_with fail
          refine (HDk.out _).mono ?_
          rintro e w' ⟨rfl, rfl⟩
          go_wp2_with fail
          exact ⟨⟨j, y, by omega, by rw [← hpd], by omega, by omega, by rw [HKe.out]; omega, rfl⟩, by simp only [RowKit.intOf]; omega⟩
      · have HDk := Lib.hid (fun W => days_at (y + K) 1 0 2 W (by have := (HDy.out (y + K) 1 (by omega) (by decide)).1; rw [if_neg h9] at this; exact this) (by have := (HDy.out (y + K) 1 (by omega) (by decide)).2; rw [if_neg h9] at this; exact this))
        clear HDy HDd HLe HP HPl HPn HPd HyS hp hpn
        go_wp2_with fail
        refine (HDk.out _).mono ?_
        rintro e w' ⟨rfl, rfl⟩
        go_wp2_with fail
        exact ⟨⟨j, y, by omega, by rw [← hpd], by omega, by omega, by rw [HKe.out]; omega, rfl⟩, by simp only [RowKit.intOf]; omega⟩
end Tk
end Go.Proofs.YtajmheblbnodjaaGreatDoor
