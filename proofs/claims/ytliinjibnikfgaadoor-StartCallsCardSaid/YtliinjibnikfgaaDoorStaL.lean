/- lives of layer 3: the chapter's examples that each statement asks first. -/
import Derived.Test.YtliinjibnikfgaaDoorStaV
namespace Go.Proofs.YtliinjibnikfgaaDoor
open Go.RowKit
namespace Tk

def Yes3 (w : World) (r : Ending) (w' : World) : Prop := r = .returned (.bool true) ∧ Below w.heap.size w w'

theorem request_is (s : ByteArray) (m t : Bs) (n st : Nat) (hs : s.size ≤ 1099511627) (h : (reqM (bs s), reqT (bs s), reqN (bs s), rSt (bs s)) = (m, t, n, st)) (W : World) :
    Calls Tryd.prog 11 #[.string s] W fun e w' => e = .returned (.tuple #[.string (mkS m), .string (mkS t), .int .i64 (n : Int), .int .i64 (st : Int)]) ∧ Below W.heap.size W w' := by
  injection h with h1 h
  injection h with h2 h
  injection h with h3 h4
  subst h1 h2 h3 h4
  exact request_any s W hs
theorem target_is (m s : ByteArray) (x : Nat × Bs × Bs) (hm : m.size ≤ 1000000000) (hs : s.size ≤ 1000000000) (h : tgt (bs m) (bs s) = x) (W : World) :
    Calls Tryd.prog 19 #[.string m, .string s] W fun e w' => e = .returned (tgV x) ∧ Below W.heap.size W w' := by
  subst h
  exact target_any m s W hm hs

set_option maxHeartbeats 2000000 in
set_option maxRecDepth 100000 in
theorem lives03_any (w : World) : Calls Tryd.prog 9 #[] w (Yes3 w) := by
  have H1 := Lib.hid (request_is ⟨#[71, 69, 84, 32, 47, 32, 72, 84, 84, 80, 47, 49, 46, 49]⟩ [71, 69, 84] [47] 1 0 (by decide) (by decide +kernel))
  have H2 := Lib.hid (request_is ⟨#[71, 69, 84, 32, 47, 32, 72, 84, 84, 80, 47, 50, 46, 48]⟩ [] [] 0 505 (by decide) (by decide +kernel))
  have H3 := Lib.hid (request_is ⟨#[71, 69, 84, 32, 32, 47, 32, 72, 84, 84, 80, 47, 49, 46, 49]⟩ [] [] 0 400 (by decide) (by decide +kernel))
  have h4 := target_is ⟨#[71, 69, 84]⟩ ⟨#[104, 116, 116, 112, 58, 47, 47, 65, 63, 120]⟩ (2, [97], [47, 63, 120]) (by decide) (by decide) (by decide +kernel)
  have h4' : ∀ W : World, Calls Tryd.prog 19 #[.string ⟨#[71, 69, 84]⟩, .string ⟨#[104, 116, 116, 112, 58, 47, 47, 65, 63, 120]⟩] W fun e w' => e = .returned (.tuple #[.agg #[.int .i64 2, .string ⟨#[97]⟩, .string ⟨#[47, 63, 120]⟩], .int .i64 0]) ∧ Below W.heap.size W w' := h4
  have H4 := Lib.hid h4'
  have e1 : ((mkS [71, 69, 84]).toList == (⟨#[71, 69, 84]⟩ : ByteArray).toList) = true := by rw [toList_bs, toList_bs]; rfl
  have e2 : ((mkS [47]).toList == (⟨#[47]⟩ : ByteArray).toList) = true := by rw [toList_bs, toList_bs]; rfl
  have f1 : ((mkS [71, 69, 84]).toList == [71, 69, 84]) = true := by rw [toList_bs]; rfl
  have f2 : ((mkS [47]).toList == [47]) = true := by rw [toList_bs]; rfl
  clear h4 h4'
  generalize mkS [71, 69, 84] = G at *
  generalize mkS [47] = S at *
  go_enter Tryd.func9, Tryd.ntmps9
  go_wp2_with fail
  refine (H1.out _).mono ?_
  rintro e w1 ⟨rfl, hb⟩
  have HB1 := Lib.hid hb
  clear hb
  go_wp2_with fail
  refine (H2.out _).mono ?_
  rintro e w2 ⟨rfl, hb⟩
  have HB2 := Lib.hid (HB1.out.trans (hb.mono HB1.out.size))
  clear hb
  go_wp2_with fail
  refine (H3.out _).mono ?_
  rintro e w3 ⟨rfl, hb⟩
  have HB3 := Lib.hid (HB2.out.trans (hb.mono HB2.out.size))
  clear hb
  go_wp2_with fail
  refine (H4.out _).mono ?_
  rintro e w4 ⟨rfl, hb⟩
  have HB4 := Lib.hid (HB3.out.trans (hb.mono HB3.out.size))
  clear hb
  have hN := Thr.new w4 32 (.int .i64 2) (.string ⟨#[97]⟩) (.string ⟨#[47, 63, 120]⟩)
  have HB5 := Lib.hid (HB4.out.alloc HB4.out.size (Obj.cells #[.int .i64 2, .string ⟨#[97]⟩, .string ⟨#[47, 63, 120]⟩] 32))
  have q0 := hN.c0
  have q1 := hN.c1
  have q2 := hN.c2
  clear hN
  go_wp2_with fail
  go_ret
  exact ⟨rfl, HB5.out⟩
end Tk
end Go.Proofs.YtliinjibnikfgaaDoor
