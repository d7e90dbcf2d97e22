/- The document's own Check of a field. -/
import Derived.Test.YtanilbckakoogaaGreatDoorFldB
import Derived.Test.YtanilbckakoogaaGreatDoorRefA
import Derived.Test.YtanilbckakoogaaGreatDoorRefTr
namespace Go.Proofs.YtanilbckakoogaaGreatDoor
open Go.RowKit
namespace Tk

set_option maxHeartbeats 2000000 in
set_option maxRecDepth 100000 in
theorem rcheck_any (n v : ByteArray) (w : World) (hn : n.size ≤ 1099511627776) (hv : v.size ≤ 1099511627776) :
    Calls Tryz.prog 32 #[.agg #[.string n, .string v]] w fun e w' => e = .returned (.int .i64 (okE (bs n) (bs v))) ∧ Below w.heap.size w w' := by
  have HT := Lib.hid (fun W : World => show Calls Tryz.prog 51 #[.string n] W (fun e w' => e = .returned (.bool (!(bs n).isEmpty && allL 2 (bs n))) ∧ Below W.heap.size W w') from (rToken_any n W hn).mono fun _ _ h => ⟨h.1, h.2 ▸ Below.refl _ _⟩)
  have HC := Lib.hid (fun W : World => show Calls Tryz.prog 25 #[.string v] W (fun e w' => e = .returned (.bool (allL 1 (bs v))) ∧ Below W.heap.size W w') from (rChars_any v W hv).mono fun _ _ h => ⟨h.1, h.2 ▸ Below.refl _ _⟩)
  have HR := Lib.hid (fun W : World => show Calls Tryz.prog 52 #[.string v] W (fun e w' => e = .returned (.string (mkS (trimL (bs v)))) ∧ Below W.heap.size W w') from (rTrim_any v W hv).mono fun _ _ h => ⟨h.1, h.2 ▸ Below.refl _ _⟩)
  obtain ⟨hN0, hN1⟩ := cell_new w (.string n) (.string v) 40
  have hB0 : Below w.heap.size w (w.alloc (.cells #[.string n, .string v] 40)).drew := ((Below.refl _ _).alloc (Nat.le_refl _) _).drew
  have hg : w.heap.size < (w.alloc (.cells #[.string n, .string v] 40)).heap.size := by simp
  have hgl := Nat.le_of_lt hg
  cases ht : (!(bs n).isEmpty && allL 2 (bs n))
  · have fin : okE (bs n) (bs v) = 4 := okE_no _ _ (by unfold okF; rw [ht]; rfl)
    rw [ht] at HT
    have HF := Lib.hid fin
    clear fin ht
    go_enter Tryz.func32, Tryz.ntmps32
    go_wp2_with fail
    generalize w.alloc (.cells #[.string n, .string v] 40) = W0 at *
    generalize hgw : w.heap.size = g at *
    have HGW := Lib.hid hgw
    clear hgw
    first
    | go_region_with (first | (go_at_call 51; refine (keep_cell (HT.out _) ⟨g, 1, none⟩ _ (by assumption) (by assumption) (by assumption) (by assumption)).mono ?_; rintro e w' ⟨rfl, hb, hs, hc', hg'⟩))
    | fail
    all_goals
      go_wp2_with fail
      go_ret
      exact ⟨by rw [HF.out]; rfl, by rw [HGW.out]; assumption⟩
  · rw [ht] at HT
    cases hc : allL 1 (bs v)
    · have fin : okE (bs n) (bs v) = 4 := okE_no _ _ (by unfold okF; rw [ht, hc]; rfl)
      rw [hc] at HC
      have HF := Lib.hid fin
      clear fin ht hc
      go_enter Tryz.func32, Tryz.ntmps32
      go_wp2_with fail
      generalize w.alloc (.cells #[.string n, .string v] 40) = W0 at *
      generalize hgw : w.heap.size = g at *
      have HGW := Lib.hid hgw
      clear hgw
      first
      | go_region_with (first | (go_at_call 51; refine (keep_cell (HT.out _) ⟨g, 1, none⟩ _ (by assumption) (by assumption) (by assumption) (by assumption)).mono ?_; rintro e w' ⟨rfl, hb, hs, hc', hg'⟩) | (go_at_call 25; refine (keep_cell (HC.out _) ⟨g, 1, none⟩ _ (by assumption) (by assumption) (by assumption) (by assumption)).mono ?_; rintro e w' ⟨rfl, hb, hs, hc', hg'⟩))
      | fail
      all_goals
        go_wp2_with fail
        go_ret
        exact ⟨by rw [HF.out]; rfl, by rw [HGW.out]; assumption⟩
    · have hne := beq_bs (trimL (bs v)) v
      rw [hc] at HC
      cases htr : decide (trimL (bs v) = bs v)
      all_goals
        have hfin : okE (bs n) (bs v) = if decide (trimL (bs v) = bs v) then 0 else 4 := by unfold okE okF; rw [ht, hc]; simp
        rw [htr] at hne hfin
        have HF := Lib.hid hfin
        clear hfin ht hc htr
        generalize trimL (bs v) = t at *
        go_enter Tryz.func32, Tryz.ntmps32
        go_wp2_with fail
        generalize w.alloc (.cells #[.string n, .string v] 40) = W0 at *
        generalize hgw : w.heap.size = g at *
        have HGW := Lib.hid hgw
        clear hgw
        first
        | go_region_with (first | (go_at_call 51; refine (keep_cell (HT.out _) ⟨g, 1, none⟩ _ (by assumption) (by assumption) (by assumption) (by assumption)).mono ?_; rintro e w' ⟨rfl, hb, hs, hc', hg'⟩) | (go_at_call 25; refine (keep_cell (HC.out _) ⟨g, 1, none⟩ _ (by assumption) (by assumption) (by assumption) (by assumption)).mono ?_; rintro e w' ⟨rfl, hb, hs, hc', hg'⟩) | (go_at_call 52; refine (keep_cell (HR.out _) ⟨g, 1, none⟩ _ (by assumption) (by assumption) (by assumption) (by assumption)).mono ?_; rintro e w' ⟨rfl, hb, hs, hc', hg'⟩))
        | fail
        all_goals
          go_wp2_with fail
          go_ret
          exact ⟨by rw [HF.out]; rfl, by rw [HGW.out]; assumption⟩
end Tk
end Go.Proofs.YtanilbckakoogaaGreatDoor
