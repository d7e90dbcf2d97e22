/- chunk.Size: what a size line without its line end names. -/
import Derived.Test.YtanilbckakoogaaGreatDoorChkS
import Derived.Test.YtanilbckakoogaaGreatDoorFldB
import Derived.Lib.IfaceEq
import Derived.Lib.OwnBridge
namespace Go.Proofs.YtanilbckakoogaaGreatDoor
open Go.RowKit
namespace Tk

/-- the variable that an error of this kind reads holds an error -/
def ErrV (B : Nat) (w : World) : Prop := 2 < B ∧ B ≤ w.heap.size ∧ ∃ te pe, w.cell? ⟨2, 0, none⟩ = some (.iface te pe)
theorem ErrV.later {B : Nat} {w w' : World} (h : ErrV B w) (hb : Below B w w') : ErrV B w' := by
  obtain ⟨h1, h2, te, pe, h3⟩ := h
  exact ⟨h1, Nat.le_trans h2 hb.size, te, pe, (hb.cell (p := ⟨2, 0, none⟩) h1).trans h3⟩
theorem below_drawsB (B : Nat) (w : World) (n : Nat) : Below B w (w.drewN n) := ⟨rfl, rfl, rfl, Nat.le_refl _, fun _ _ => rfl⟩

set_option maxHeartbeats 1000000 in
set_option maxRecDepth 100000 in
theorem cchars_any (s : ByteArray) (w : World) (hs : s.size ≤ 1099511627776) :
    Calls Tryz.prog 22 #[.string s] w fun e w' => e = .returned (.bool (allL 1 (bs s))) ∧ Below w.heap.size w w' := by
  go_enter Tryz.func22, Tryz.ntmps22
  go_wp2_with fail
  go_loopw [6, 3] (fun v _ wr => ∃ i : Nat, i ≤ s.size ∧ v = .int .i64 i ∧ Hid (Below w.heap.size w wr) ∧ Hid (allL 1 (bs s) = allL 1 ((bs s).drop i))) (fun v _ _ => s.size - (RowKit.intOf v).toNat)
  case atStart => exact ⟨0, Nat.zero_le _, rfl, Below.refl _ _, rfl⟩
  case round =>
    obtain ⟨i, hi, rfl, HB, hd⟩ := hrel
    rename World => W
    by_cases hlt : i < s.size
    · have D := Lib.hid (bs_drop s i hlt)
      have HC := char_any s[i] W
      cases hk : decide (1 ≤ kindOf s[i].toNat)
      · rw [hk] at HC
        have fin : allL 1 (bs s) = false := by rw [hd.out, D.out, allL_cons, hk]; rfl
        have HF := Lib.hid fin
        have HC2 := Lib.hid HC
        clear fin HC hk
        go_wp2_with fail
        refine HC2.out.mono ?_
        rintro e w' ⟨rfl, hb⟩
        have HB2 := Lib.hid (HB.out.trans (hb.mono HB.out.size))
        clear hb
        go_wp2_with fail
        go_ret
        exact ⟨by rw [HF.out]; rfl, HB2.out⟩
      · rw [hk] at HC
        have nx : allL 1 (bs s) = allL 1 ((bs s).drop (i + 1)) := by rw [hd.out, D.out, allL_cons, hk, Bool.true_and]
        have HX := Lib.hid nx
        have HC2 := Lib.hid HC
        clear nx HC hk
        go_wp2_with fail
        refine HC2.out.mono ?_
        rintro e w' ⟨rfl, hb⟩
        have HB2 := Lib.hid (HB.out.trans (hb.mono HB.out.size))
        clear hb
        go_wp2_with fail
        exact ⟨⟨i + 1, by omega, by go_num, HB2, HX⟩, by simp [RowKit.intOf]; omega⟩
    · have fin : allL 1 (bs s) = true := by rw [hd.out, List.drop_eq_nil_of_le (by rw [length_bs]; omega)]; rfl
      have HF := Lib.hid fin
      clear fin
      go_wp2_with fail
      go_ret
      exact ⟨by rw [HF.out]; rfl, HB.out⟩

set_option maxHeartbeats 2000000 in
set_option maxRecDepth 100000 in
theorem syntaxError_any (fn s : ByteArray) (B : Nat) (w : World) (hs : s.size ≤ 281474976710656) (hv : ErrV B w) :
    Calls Tryz.prog 57 #[.string fn, .string s] w fun e w' => ∃ N, e = .returned (.pointer (some ⟨N, 0, none⟩)) ∧ Below B w w' := by
  have HC := Lib.hid (fun W : World => Tryz.stringslite_Clone s W hs)
  obtain ⟨h1, h2, te, pe, h3⟩ := hv
  have hb0 : Below B w w.drew := ⟨rfl, rfl, rfl, Nat.le_refl _, fun _ _ => rfl⟩
  have hlt : (⟨2, 0, none⟩ : Addr).block < w.heap.size := Nat.lt_of_lt_of_le h1 h2
  go_enter Tryz.func57, Tryz.ntmps57
  go_wp2_with fail
  first
  | go_region_with (first | (go_at_call 77; refine (keep_cell (HC.out _) ⟨2, 0, none⟩ _ (by assumption) (by assumption) (by assumption) (by assumption)).mono ?_; rintro e w' ⟨rfl, hb, hs', hc', hg'⟩))
  | fail
  all_goals
    go_wp2_with fail
    go_ret
    exact ⟨_, rfl, by first | assumption | exact Below.alloc (by assumption) (by assumption) _⟩

set_option maxHeartbeats 2000000 in
set_option maxRecDepth 100000 in
theorem toError_any (fn s : ByteArray) (x y : Int) (B : Nat) (w : World) (hs : s.size ≤ 281474976710656) (hv : ErrV B w) :
    Calls Tryz.prog 36 #[.string fn, .string s, .int .i64 x, .int .i64 y, .iface 81 (.int .i64 2)] w fun e w' => ∃ N, e = .returned (.iface 83 (.pointer (some ⟨N, 0, none⟩))) ∧ Below B w w' := by
  have H := Lib.hid (syntaxError_any fn s B w hs hv)
  have heq : ∀ W, (binOp .eql 47 (.iface 81 (.int .i64 2)) (.iface 81 (.int .i64 2))).run Tryz.prog W = .ok (.bool true) W := fun W => Lib.run_eql_iface_int W 2 2 Tryz.underlying47 (by kernel_rfl) Tryz.underlying81
  clear hv
  go_enter Tryz.func36, Tryz.ntmps36
  go_wp2_with fail
  refine H.out.mono ?_
  rintro e w' ⟨N, rfl, hb⟩
  have HB := Lib.hid hb
  clear hb
  go_wp2_with fail
  go_ret
  exact ⟨N, rfl, HB.out⟩
end Tk
end Go.Proofs.YtanilbckakoogaaGreatDoor
