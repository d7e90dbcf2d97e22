/- The law TokenWeights: its walk. -/
import Derived.Test.YtogdmhgblceddaaDoorRefT
import Derived.Test.YtogdmhgblceddaaDoorLives
namespace Go.Proofs.YtogdmhgblceddaaDoor
open Go.RowKit
namespace Tk
open Ff Ieee Fl

theorem run_mbits (b : Nat) (w : World) : (callFunc 63 #[.float .f64 b]).run Tryd.prog w = .ok (.value (.int .u64 b)) w := by kernel_rfl

set_option maxHeartbeats 1000000 in
theorem float_any (x : Nat) (w : World) (hx : x < 9218868437227405312) :
    Calls Tryd.prog 16 #[.float .f64 x, .float .f64 x] w fun e w' => e = .returned (.bool true) ∧ w = w' := by
  have ho : (FloatKind.f64.format.order x x != some .eq) = false := by
    rw [show FloatKind.f64.format.order x x = some (compare x x) from order_pos x x hx hx, Nat.compare_eq_eq.2 rfl]; rfl
  have hb := run_mbits x
  go_enter Tryd.func16, Tryd.ntmps16
  go_wp2_with fail
  go_ret
  exact ⟨rfl, rfl⟩

theorem wF_lt (l : Bs) : wF (wgtL l) < 9218868437227405312 := by
  cases h : wgtL l with
  | none => show 0 < _; omega
  | some k =>
    have hk : k ≤ 1000 := by
      unfold wgtL at h
      split at h
      · rename_i hh
        injection h with h
        omega
      · cases h
    have := F_le1 k hk
    show F k < _
    omega

set_option maxRecDepth 100000 in
set_option maxHeartbeats 4000000 in
theorem weights_any (s : ByteArray) (q : Nat) (w : World) (hT : Tabs w) (hq64 : q < 18446744073709551616) :
    Calls Tryd.prog 3 #[.string s, .float .f64 q] w (Yes w) := by
  have HL := Lib.hid (lives_any w hT)
  have hbig := hT.pows.big
  have HT := Lib.hid hT
  clear hT
  by_cases hs : 200 < s.size
  · have hs' : (200 : Int) < (s.size : Int) := by omega
    go_enter Tryd.func3, Tryd.ntmps3
    go_wp2_with fail
    refine HL.out.mono ?_
    rintro e w1 ⟨rfl, hb⟩
    have HB := Lib.hid hb
    clear hb
    go_wp2_with fail
    go_ret
    exact ⟨rfl, HB.out⟩
  · have hs' : ¬ (200 : Int) < (s.size : Int) := by omega
    have h1 := fun W : World => weight_any s W (by omega)
    have h2 := fun W : World => refWeight_any s W
    unfold WgtPost at h1
    unfold RefWPost at h2
    have hF := fun W : World => float_any _ W (wF_lt (bs s))
    generalize wF (wgtL (bs s)) = x at *
    generalize wE (wgtL (bs s)) = y at *
    have H1 := Lib.hid h1
    have H2 := Lib.hid h2
    have HF := Lib.hid hF
    clear h1 h2 hF
    obtain ⟨t, ht1, ht2⟩ : ∃ t : Bs, (∀ W, Tabs W → Calls Tryd.prog 17 #[.float .f64 q] W (StrPost t W)) ∧ (∀ W, Calls Tryd.prog 18 #[.float .f64 q] W (StrPost t W)) := by
      by_cases hw : isW q
      · exact ⟨_, fun W hT => weightText_any q W hT hw, fun W => refText_yes q W hw⟩
      · have hno := tst_no q hq64 hw
        exact ⟨_, fun W _ => weightText_no q W hno, fun W => refText_no q W hno⟩
    have HT1 := Lib.hid ht1
    have HT2 := Lib.hid ht2
    clear ht1 ht2
    go_enter Tryd.func3, Tryd.ntmps3
    go_wp2_with fail
    refine HL.out.mono ?_
    rintro e w1 ⟨rfl, hb⟩
    have HB := Lib.hid hb
    clear hb
    go_wp2_with fail
    refine (H1.out _).mono ?_
    rintro e w2 ⟨rfl, hb⟩
    have HB2 := Lib.hid (HB.out.trans (hb.mono HB.out.size))
    clear hb
    go_wp2_with fail
    refine (H2.out _).mono ?_
    rintro e w3 ⟨rfl, rfl⟩
    go_wp2_with fail
    refine (HF.out _).mono ?_
    rintro e w4 ⟨rfl, rfl⟩
    have hT2 := HT.out.later HB2.out hbig
    have HT3 := Lib.hid (HT1.out _ hT2)
    clear hT2
    go_wp2_with fail
    refine HT3.out.mono ?_
    rintro e w5 ⟨rfl, hb⟩
    have HB3 := Lib.hid (HB2.out.trans (hb.mono HB2.out.size))
    clear hb
    go_wp2_with fail
    refine (HT2.out _).mono ?_
    rintro e w6 ⟨rfl, hb⟩
    have HB4 := Lib.hid (HB3.out.trans (hb.mono HB3.out.size))
    clear hb
    go_wp2_with fail
    go_ret
    exact ⟨rfl, HB4.out⟩
end Tk
end Go.Proofs.YtogdmhgblceddaaDoor
