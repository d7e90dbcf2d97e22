/- start.all, start.some: each byte of a text passes a test that is a function value. -/
import Derived.Test.YtliinjibnikfgaaDoorStaA
namespace Go.Proofs.YtliinjibnikfgaaDoor
open Go.RowKit
namespace Tk

theorem bdraws (w : World) (n : Nat) : Below w.heap.size w (w.drewN n) := ⟨rfl, rfl, rfl, Nat.le_refl _, fun _ _ => rfl⟩

/-- a function of a byte that answers p -/
def PredF (F : FuncId) (p : UInt8 → Bool) : Prop :=
  (∀ args w, (callFunc F args).run Tryd.prog w = .ok (.enter F args) w) ∧ ∀ (c : UInt8) (W : World), Calls Tryd.prog F #[.int .u8 (c.toNat : Int)] W fun e w' => e = .returned (.bool (p c)) ∧ Below W.heap.size W w'
theorem predF_same {F : FuncId} {p : UInt8 → Bool} (h1 : ∀ args w, (callFunc F args).run Tryd.prog w = .ok (.enter F args) w) (h2 : ∀ (c : UInt8) (W : World), Calls Tryd.prog F #[.int .u8 (c.toNat : Int)] W fun e w' => e = .returned (.bool (p c)) ∧ W = w') : PredF F p :=
  ⟨h1, fun c W => (h2 c W).mono fun _ _ ⟨a, b⟩ => ⟨a, b ▸ Below.refl _ _⟩⟩

theorem all_cons2 (p : UInt8 → Bool) (c : UInt8) (t : Bs) : (c :: t).all p = (p c && t.all p) := rfl

set_option maxHeartbeats 1000000 in
set_option maxRecDepth 100000 in
theorem sall_any (F : FuncId) (p : UInt8 → Bool) (hp : PredF F p) (s : ByteArray) (w : World) (hs : s.size ≤ 1099511627776) :
    Calls Tryd.prog 62 #[.string s, .func (.func F) #[] #[]] w fun e w' => e = .returned (.bool ((bs s).all p)) ∧ Below w.heap.size w w' := by
  obtain ⟨eg, hp⟩ := hp
  have HPp := Lib.hid hp
  clear hp
  go_enter Tryd.func62, Tryd.ntmps62
  go_wp2_with fail
  go_loopw [8, 5] (fun v _ wr => ∃ i : Nat, i ≤ s.size ∧ v = .int .i64 i ∧ Hid (Below w.heap.size w wr) ∧ Hid ((bs s).all p = ((bs s).drop i).all p)) (fun v _ _ => s.size - (RowKit.intOf v).toNat)
  case atStart => exact ⟨0, Nat.zero_le _, rfl, Below.refl _ _, rfl⟩
  case round =>
    obtain ⟨i, hi, rfl, HB, hd⟩ := hrel
    rename World => W
    by_cases hlt : i < s.size
    · have D := Lib.hid (bs_drop s i hlt)
      have HC := HPp.out s[i] W
      cases hk : p s[i]
      · rw [hk] at HC
        have fin : (bs s).all p = false := by rw [hd.out, D.out, all_cons2, hk]; rfl
        have HF := Lib.hid fin
        have HC2 := Lib.hid HC
        clear fin HC hk
        go_wp2_with fail
        refine HC2.out.mono ?_
        rintro e w' ⟨rfl, hb⟩
        have HB2 := Lib.hid (HB.out.trans (hb.mono HB.out.size))
        clear hb
        go_wp2_with fail
        go_ret
        exact ⟨by rw [HF.out]; rfl, HB2.out⟩
      · rw [hk] at HC
        have nx : (bs s).all p = ((bs s).drop (i + 1)).all p := by rw [hd.out, D.out, all_cons2, hk, Bool.true_and]
        have HX := Lib.hid nx
        have HC2 := Lib.hid HC
        clear nx HC hk
        go_wp2_with fail
        refine HC2.out.mono ?_
        rintro e w' ⟨rfl, hb⟩
        have HB2 := Lib.hid (HB.out.trans (hb.mono HB.out.size))
        clear hb
        go_wp2_with fail
        exact ⟨⟨i + 1, by omega, by go_num, HB2, HX⟩, by simp [RowKit.intOf]; omega⟩
    · have fin : (bs s).all p = true := by rw [hd.out, List.drop_eq_nil_of_le (by rw [length_bs]; omega)]; rfl
      have HF := Lib.hid fin
      clear fin
      go_wp2_with fail
      go_ret
      exact ⟨by rw [HF.out]; rfl, HB.out⟩

set_option maxHeartbeats 1000000 in
set_option maxRecDepth 100000 in
theorem ssome_any (F : FuncId) (p : UInt8 → Bool) (hp : PredF F p) (s : ByteArray) (w : World) (hs : s.size ≤ 1099511627776) :
    Calls Tryd.prog 66 #[.string s, .func (.func F) #[] #[]] w fun e w' => e = .returned (.bool (someL p (bs s))) ∧ Below w.heap.size w w' := by
  have H := Lib.hid (sall_any F p hp s w hs)
  clear hp
  have hV : someL p (bs s) = (!(bs s).isEmpty && (bs s).all p) := rfl
  cases hb : (bs s).isEmpty
  · have HV := Lib.hid (show someL p (bs s) = (bs s).all p by rw [hV, hb]; rfl)
    have he : s.toList.isEmpty = false := by rw [toList_bs]; exact hb
    clear hb hV
    go_enter Tryd.func66, Tryd.ntmps66
    go_wp2_with fail
    refine H.out.mono ?_
    rintro e w' ⟨rfl, hb⟩
    have HB := Lib.hid hb
    clear hb
    go_wp2_with fail
    go_ret
    exact ⟨retB (by rw [HV.out]), HB.out⟩
  · have HV := Lib.hid (show someL p (bs s) = false by rw [hV, hb]; rfl)
    have he : s.toList.isEmpty = true := by rw [toList_bs]; exact hb
    clear hb hV
    go_enter Tryd.func66, Tryd.ntmps66
    go_wp2_with fail
    go_ret
    exact ⟨retB (by rw [HV.out]), Below.refl _ _⟩

theorem predDigit : PredF 63 isDig := predF_same (enters_of Tryd.func63 (by kernel_rfl) rfl) sdigit_any
theorem predVis : PredF 75 vis := predF_same (enters_of Tryd.func75 (by kernel_rfl) rfl) visible_any
theorem predName : PredF 68 inName := predF_same (enters_of Tryd.func68 (by kernel_rfl) rfl) inName_any
theorem predAddr : PredF 67 inAddr := predF_same (enters_of Tryd.func67 (by kernel_rfl) rfl) inAddress_any

theorem allDigit_any (s : ByteArray) (w : World) (hs : s.size ≤ 1099511627776) :
    Calls Tryd.prog 62 #[.string s, .func (.func 63) #[] #[]] w fun e w' => e = .returned (.bool ((bs s).all isDig)) ∧ Below w.heap.size w w' := sall_any _ _ predDigit s w hs
theorem someName_any (s : ByteArray) (w : World) (hs : s.size ≤ 1099511627776) :
    Calls Tryd.prog 66 #[.string s, .func (.func 68) #[] #[]] w fun e w' => e = .returned (.bool (someL inName (bs s))) ∧ Below w.heap.size w w' := ssome_any _ _ predName s w hs
theorem someAddr_any (s : ByteArray) (w : World) (hs : s.size ≤ 1099511627776) :
    Calls Tryd.prog 66 #[.string s, .func (.func 67) #[] #[]] w fun e w' => e = .returned (.bool (someL inAddr (bs s))) ∧ Below w.heap.size w w' := ssome_any _ _ predAddr s w hs
theorem someVis_any (s : ByteArray) (w : World) (hs : s.size ≤ 1099511627776) :
    Calls Tryd.prog 66 #[.string s, .func (.func 75) #[] #[]] w fun e w' => e = .returned (.bool (someL vis (bs s))) ∧ Below w.heap.size w w' := ssome_any _ _ predVis s w hs
end Tk
end Go.Proofs.YtliinjibnikfgaaDoor
