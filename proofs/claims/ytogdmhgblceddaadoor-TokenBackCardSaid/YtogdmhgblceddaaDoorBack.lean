/- The law TokenBack: its walk. -/
import Derived.Test.YtogdmhgblceddaaDoorBack0
import Derived.Test.YtogdmhgblceddaaDoorWgt
import Derived.Test.YtogdmhgblceddaaDoorUnq
import Derived.Test.YtogdmhgblceddaaDoorLives
import Derived.Test.YtogdmhgblceddaaDoorJoin
namespace Go.Proofs.YtogdmhgblceddaaDoor
open Go.RowKit
namespace Tk
open Ff Ieee Fl

theorem isStrs_below {w w' : World} {v : Value} {l : List Bs} (h : IsStrs w v l) (hb : Below w.heap.size w w') : IsStrs w' v l := by
  obtain ⟨a, c, rfl, hc⟩ := h
  refine ⟨a, c, rfl, fun j t hj => ?_⟩
  obtain ⟨b, o, rfl, h2⟩ := hc j t hj
  refine ⟨b, o, rfl, (hb.cell (p := ⟨b, o + j, none⟩) ?_).trans h2⟩
  refine Nat.lt_of_not_le fun hle => ?_
  simp only [World.cell?, Array.getElem?_eq_none hle] at h2
  cases h2

set_option maxHeartbeats 1000000 in
set_option maxRecDepth 100000 in
theorem lightTexts_any (v : Value) (l : List Bs) (w : World) (hs : IsStrs w v l) (hz : ∀ x ∈ l, x.length ≤ 140737488351232) (hl : l.length ≤ 140737488351232) :
    Calls Tryd.prog 19 #[v, .int .i64 20, .int .i64 200] w fun e w' => e = .returned (.bool (lightT l)) ∧ w = w' := by
  obtain ⟨a, c, rfl, hc⟩ := hs
  have HC := Lib.hid hc
  have HZ := Lib.hid hz
  clear hc hz
  by_cases h20 : 20 < l.length
  · have fin : lightT l = false := by unfold lightT; rw [decide_eq_false (by omega)]; rfl
    have HF := Lib.hid fin
    have h' : (20 : Int) < (l.length : Int) := by omega
    clear fin
    go_enter Tryd.func19, Tryd.ntmps19
    go_wp2_with fail
    go_ret
    exact ⟨by rw [HF.out]; rfl, rfl⟩
  · have fin : lightT l = ltGo 200 0 l := by unfold lightT; rw [decide_eq_true (by omega)]; rfl
    have HF := Lib.hid fin
    have h' : ¬ (20 : Int) < (l.length : Int) := by omega
    clear fin
    go_enter Tryd.func19, Tryd.ntmps19
    go_wp2_with fail
    go_loop [7, 8] (fun vn vi => ∃ (i n : Nat), i ≤ l.length ∧ n ≤ 200 ∧ vi = .int .i64 i ∧ vn = .int .i64 n ∧ Hid (lightT l = ltGo 200 n (l.drop i))) (fun _ vi => l.length - (RowKit.intOf vi).toNat)
    case atStart => exact ⟨0, 0, by omega, by omega, rfl, rfl, HF.out⟩
    case round =>
      obtain ⟨i, n, hi, hn, rfl, rfl, hd⟩ := hrel
      by_cases hlt : i < l.length
      · obtain ⟨b, o, rfl, hcell⟩ := HC.out i (l.getD i []) (by simp [List.getD, hlt])
        have hxl := HZ.out (l.getD i []) (by simp [List.getD, hlt])
        have hdr : l.drop i = l.getD i [] :: l.drop (i + 1) := by rw [List.drop_eq_getElem_cons hlt]; simp [List.getD, hlt]
        have HD := Lib.hid hdr
        have hsz : (mkS (l.getD i [])).size = (l.getD i []).length := size_mkS _
        clear hdr
        generalize l.getD i [] = x at *
        have HS := Lib.hid hsz
        have hxz : (mkS x).size ≤ 140737488351232 := by omega
        clear hsz
        by_cases hb : 200 < n + (mkS x).size
        · have fin : lightT l = false := by
            rw [hd.out, HD.out, ltGo, if_pos (by rw [← HS.out]; exact hb)]
          have HF2 := Lib.hid fin
          have hb' : (200 : Int) < (n : Int) + ((mkS x).size : Int) := by omega
          clear fin
          generalize mkS x = s at *
          go_wp2_with fail
          go_ret
          exact ⟨by rw [HF2.out]; rfl, rfl⟩
        · have nx : lightT l = ltGo 200 (n + (mkS x).size) (l.drop (i + 1)) := by
            rw [hd.out, HD.out, ltGo, if_neg (by rw [← HS.out]; exact hb), HS.out]
          have HN := Lib.hid nx
          have hb' : ¬ (200 : Int) < (n : Int) + ((mkS x).size : Int) := by omega
          clear nx
          generalize mkS x = s at *
          go_wp2_with fail
          exact ⟨⟨i + 1, n + s.size, by omega, by omega, by go_num, by go_num, HN⟩, by simp [RowKit.intOf]; omega⟩
      · have fin : lightT l = true := by rw [hd.out, List.drop_eq_nil_of_le (by omega)]; rfl
        have HF2 := Lib.hid fin
        clear fin
        go_wp2_with fail
        go_ret
        exact ⟨by rw [HF2.out]; rfl, rfl⟩

set_option maxRecDepth 100000 in
set_option maxHeartbeats 2000000 in
theorem back_big (v : Value) (l : List Bs) (q : Nat) (w : World) (hT : Tabs w) (hs : IsStrs w v l) (hz : ∀ x ∈ l, x.length ≤ 140737488351232) (hl : l.length ≤ 140737488351232) (hb : lightT l = false) :
    Calls Tryd.prog 4 #[v, .float .f64 q] w (Yes w) := by
  have HL := Lib.hid (lives_any w hT)
  have HB := Lib.hid (fun (W : World) (h : Below w.heap.size w W) => lightTexts_any v l W (isStrs_below hs h) hz hl)
  rw [hb] at HB
  clear hT hb hs hz
  go_enter Tryd.func4, Tryd.ntmps4
  go_wp2_with fail
  refine HL.out.mono ?_
  rintro e w1 ⟨rfl, hb⟩
  have HB1 := Lib.hid hb
  clear hb
  go_wp2_with fail
  refine (HB.out _ HB1.out).mono ?_
  rintro e w2 ⟨rfl, rfl⟩
  go_wp2_with fail
  go_ret
  exact ⟨rfl, HB1.out⟩
end Tk
end Go.Proofs.YtogdmhgblceddaaDoor
