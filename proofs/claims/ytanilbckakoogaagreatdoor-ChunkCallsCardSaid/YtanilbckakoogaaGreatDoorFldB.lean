/- field.chars, field.Check. -/
import Derived.Test.YtanilbckakoogaaGreatDoorFldA
import Derived.Test.YtanilbckakoogaaGreatDoorTrm
import Derived.Deep.RegionHeld3
import Derived.Deep.RegionWith
namespace Go.Proofs.YtanilbckakoogaaGreatDoor
open Go.RowKit
namespace Tk

set_option maxHeartbeats 1000000 in
set_option maxRecDepth 100000 in
theorem chars_any (s : ByteArray) (w : World) (hs : s.size ≤ 1099511627776) :
    Calls Tryz.prog 44 #[.string s] w fun e w' => e = .returned (.bool (allL 1 (bs s))) ∧ Below w.heap.size w w' := by
  go_enter Tryz.func44, Tryz.ntmps44
  go_wp2_with fail
  go_loopw [6, 3] (fun v _ wr => ∃ i : Nat, i ≤ s.size ∧ v = .int .i64 i ∧ Hid (Below w.heap.size w wr) ∧ Hid (allL 1 (bs s) = allL 1 ((bs s).drop i))) (fun v _ _ => s.size - (RowKit.intOf v).toNat)
  case atStart => exact ⟨0, Nat.zero_le _, rfl, Below.refl _ _, rfl⟩
  case round =>
    obtain ⟨i, hi, rfl, HB, hd⟩ := hrel
    rename World => W
    by_cases hlt : i < s.size
    · have D := Lib.hid (bs_drop s i hlt)
      have HC := char_any s[i] W
      cases hk : decide (1 ≤ kindOf s[i].toNat)
      · rw [hk] at HC
        have fin : allL 1 (bs s) = false := by rw [hd.out, D.out, allL_cons, hk]; rfl
        have HF := Lib.hid fin
        have HC2 := Lib.hid HC
        clear fin HC hk
        go_wp2_with fail
        refine HC2.out.mono ?_
        rintro e w' ⟨rfl, hb⟩
        have HB2 := Lib.hid (HB.out.trans (hb.mono HB.out.size))
        clear hb
        go_wp2_with fail
        go_ret
        exact ⟨by rw [HF.out]; rfl, HB2.out⟩
      · rw [hk] at HC
        have nx : allL 1 (bs s) = allL 1 ((bs s).drop (i + 1)) := by rw [hd.out, D.out, allL_cons, hk, Bool.true_and]
        have HX := Lib.hid nx
        have HC2 := Lib.hid HC
        clear nx HC hk
        go_wp2_with fail
        refine HC2.out.mono ?_
        rintro e w' ⟨rfl, hb⟩
        have HB2 := Lib.hid (HB.out.trans (hb.mono HB.out.size))
        clear hb
        go_wp2_with fail
        exact ⟨⟨i + 1, by omega, by go_num, HB2, HX⟩, by simp [RowKit.intOf]; omega⟩
    · have fin : allL 1 (bs s) = true := by rw [hd.out, List.drop_eq_nil_of_le (by rw [length_bs]; omega)]; rfl
      have HF := Lib.hid fin
      clear fin
      go_wp2_with fail
      go_ret
      exact ⟨by rw [HF.out]; rfl, HB.out⟩

def okE (n v : Bs) : Int := if okF n v then 0 else 4
theorem okE_ok (n v : Bs) (h : okF n v = true) : okE n v = 0 := by unfold okE; rw [h]; rfl
theorem okE_no (n v : Bs) (h : okF n v = false) : okE n v = 4 := by unfold okE; rw [h]; rfl
theorem beq_bs (a : Bs) (s : ByteArray) : ((mkS a).toList == s.toList) = decide (a = bs s) := by
  rw [toList_bs, toList_bs, bs_mkS]
  by_cases h : a = bs s <;> simp [h]

/-- what a call keeps: all below B, one cell, and that the cell's block is there -/
theorem keep_cell {P : Program} {f : FuncId} {args : Array Value} {W w0 : World} {r : Ending} {B : Nat} (h : Calls P f args W fun e w' => e = r ∧ Below W.heap.size W w') (p : Addr) (u : Value) (hB : Below B w0 W) (hs : B ≤ W.heap.size) (hc : W.cell? p = some u) (hp : p.block < W.heap.size) :
    Calls P f args W fun e w' => e = r ∧ Below B w0 w' ∧ B ≤ w'.heap.size ∧ w'.cell? p = some u ∧ p.block < w'.heap.size :=
  h.mono fun _ _ h => ⟨h.1, hB.trans (h.2.mono hs), Nat.le_trans hs h.2.size, (h.2.cell hp).trans hc, Nat.lt_of_lt_of_le hp h.2.size⟩

theorem cell_new (w : World) (a b : Value) (T : TypeId) : (w.alloc (.cells #[a, b] T)).cell? ⟨w.heap.size, 0, none⟩ = some a ∧ (w.alloc (.cells #[a, b] T)).cell? ⟨w.heap.size, 1, none⟩ = some b := by
  constructor <;> (rw [Lib.cell_of_heap (heap_alloc_last w _)]; rfl)

set_option maxHeartbeats 2000000 in
set_option maxRecDepth 100000 in
theorem check_any' (n v : ByteArray) (w : World) (hn : n.size ≤ 1099511627776) (hv : v.size ≤ 1099511627776) :
    Calls Tryz.prog 29 #[.agg #[.string n, .string v]] w fun e w' => e = .returned (.int .i64 (okE (bs n) (bs v))) ∧ Below w.heap.size w w' := by
  have HT := Lib.hid (fun W : World => token_any n W hn)
  have HC := Lib.hid (fun W : World => chars_any v W hv)
  have HR := Lib.hid (fun W : World => show Calls Tryz.prog 45 #[.string v] W (fun e w' => e = .returned (.string (mkS (trimL (bs v)))) ∧ Below W.heap.size W w') from trim_any v W hv)
  obtain ⟨hN0, hN1⟩ := cell_new w (.string n) (.string v) 40
  have hB0 : Below w.heap.size w (w.alloc (.cells #[.string n, .string v] 40)).drew := ((Below.refl _ _).alloc (Nat.le_refl _) _).drew
  have hg : w.heap.size < (w.alloc (.cells #[.string n, .string v] 40)).heap.size := by simp
  have hgl := Nat.le_of_lt hg
  cases ht : (!(bs n).isEmpty && allL 2 (bs n))
  · have fin : okE (bs n) (bs v) = 4 := okE_no _ _ (by unfold okF; rw [ht]; rfl)
    rw [ht] at HT
    have HF := Lib.hid fin
    clear fin ht
    go_enter Tryz.func29, Tryz.ntmps29
    go_wp2_with fail
    generalize w.alloc (.cells #[.string n, .string v] 40) = W0 at *
    generalize hgw : w.heap.size = g at *
    have HGW := Lib.hid hgw
    clear hgw
    first
    | go_region_with (first | (go_at_call 43; refine (keep_cell (HT.out _) ⟨g, 1, none⟩ _ (by assumption) (by assumption) (by assumption) (by assumption)).mono ?_; rintro e w' ⟨rfl, hb, hs, hc', hg'⟩))
    | fail
    all_goals
      go_wp2_with fail
      go_ret
      exact ⟨by rw [HF.out]; rfl, by rw [HGW.out]; assumption⟩
  · rw [ht] at HT
    cases hc : allL 1 (bs v)
    · have fin : okE (bs n) (bs v) = 4 := okE_no _ _ (by unfold okF; rw [ht, hc]; rfl)
      rw [hc] at HC
      have HF := Lib.hid fin
      clear fin ht hc
      go_enter Tryz.func29, Tryz.ntmps29
      go_wp2_with fail
      generalize w.alloc (.cells #[.string n, .string v] 40) = W0 at *
      generalize hgw : w.heap.size = g at *
      have HGW := Lib.hid hgw
      clear hgw
      first
      | go_region_with (first | (go_at_call 43; refine (keep_cell (HT.out _) ⟨g, 1, none⟩ _ (by assumption) (by assumption) (by assumption) (by assumption)).mono ?_; rintro e w' ⟨rfl, hb, hs, hc', hg'⟩) | (go_at_call 44; refine (keep_cell (HC.out _) ⟨g, 1, none⟩ _ (by assumption) (by assumption) (by assumption) (by assumption)).mono ?_; rintro e w' ⟨rfl, hb, hs, hc', hg'⟩))
      | fail
      all_goals
        go_wp2_with fail
        go_ret
        exact ⟨by rw [HF.out]; rfl, by rw [HGW.out]; assumption⟩
    · have hne := beq_bs (trimL (bs v)) v
      rw [hc] at HC
      cases htr : decide (trimL (bs v) = bs v)
      all_goals
        have hfin : okE (bs n) (bs v) = if decide (trimL (bs v) = bs v) then 0 else 4 := by unfold okE okF; rw [ht, hc]; simp
        rw [htr] at hne hfin
        have HF := Lib.hid hfin
        clear hfin ht hc htr
        generalize trimL (bs v) = t at *
        go_enter Tryz.func29, Tryz.ntmps29
        go_wp2_with fail
        generalize w.alloc (.cells #[.string n, .string v] 40) = W0 at *
        generalize hgw : w.heap.size = g at *
        have HGW := Lib.hid hgw
        clear hgw
        first
        | go_region_with (first | (go_at_call 43; refine (keep_cell (HT.out _) ⟨g, 1, none⟩ _ (by assumption) (by assumption) (by assumption) (by assumption)).mono ?_; rintro e w' ⟨rfl, hb, hs, hc', hg'⟩) | (go_at_call 44; refine (keep_cell (HC.out _) ⟨g, 1, none⟩ _ (by assumption) (by assumption) (by assumption) (by assumption)).mono ?_; rintro e w' ⟨rfl, hb, hs, hc', hg'⟩) | (go_at_call 45; refine (keep_cell (HR.out _) ⟨g, 1, none⟩ _ (by assumption) (by assumption) (by assumption) (by assumption)).mono ?_; rintro e w' ⟨rfl, hb, hs, hc', hg'⟩))
        | fail
        all_goals
          go_wp2_with fail
          go_ret
          exact ⟨by rw [HF.out]; rfl, by rw [HGW.out]; assumption⟩
end Tk
end Go.Proofs.YtanilbckakoogaaGreatDoor
