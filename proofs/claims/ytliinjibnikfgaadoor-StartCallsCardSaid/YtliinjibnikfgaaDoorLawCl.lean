/- The law StartCalls: its walk. -/
import Derived.Test.YtliinjibnikfgaaDoorRefJ
import Derived.Test.YtliinjibnikfgaaDoorRefV
import Derived.Test.YtliinjibnikfgaaDoorRefX
import Derived.Test.YtliinjibnikfgaaDoorStaL
import Derived.Deep.RegionHeld3
namespace Go.Proofs.YtliinjibnikfgaaDoor
open Go.RowKit
namespace Tk

set_option maxRecDepth 100000 in
set_option maxHeartbeats 4000000 in
theorem scalls_big (s m t r : ByteArray) (n k : Int) (w : World) (h : ¬ s.size ≤ 200 ∨ (s.size ≤ 200 ∧ ¬ m.size ≤ 200) ∨ (s.size ≤ 200 ∧ m.size ≤ 200 ∧ ¬ t.size ≤ 200) ∨ (s.size ≤ 200 ∧ m.size ≤ 200 ∧ t.size ≤ 200 ∧ ¬ r.size ≤ 200)) :
    Calls Tryd.prog 4 #[.string s, .string m, .string t, .string r, .int .i64 n, .int .i64 k] w (Yes3 w) := by
  have HL := Lib.hid (lives03_any w)
  rcases h with h | ⟨h0, h⟩ | ⟨h0, h1, h⟩ | ⟨h0, h1, h2, h⟩
  all_goals
    go_enter Tryd.func4, Tryd.ntmps4
    go_wp2_with fail
    refine HL.out.mono ?_
    rintro e w1 ⟨rfl, hb⟩
    have HB := Lib.hid hb
    clear hb
    go_wp2_with fail
    go_ret
    exact ⟨rfl, HB.out⟩

set_option maxRecDepth 100000 in
set_option maxHeartbeats 16000000 in
theorem scalls_main (s m t r : ByteArray) (n k : Int) (w : World) (hT : Tens w) (zs : s.size ≤ 200) (zm : m.size ≤ 200) (zt : t.size ≤ 200) (zr : r.size ≤ 200) :
    Calls Tryd.prog 4 #[.string s, .string m, .string t, .string r, .int .i64 n, .int .i64 k] w (Yes3 w) := by
  have HL := Lib.hid (lives03_any w)
  have HTT := Lib.hid hT
  have C1 := Lib.hid (fun W => request_any s W (by omega))
  have C2 := Lib.hid (fun W => rrequest_any s W (by omega))
  have C3 := Lib.hid (fun W => status_any s W (by omega))
  have C4 := Lib.hid (fun W => rstatus_any s W (by omega))
  have C5 := Lib.hid (fun W => target_any m t W (by omega) (by omega))
  have C6 := Lib.hid (fun W => rtarget_any m t W (by omega) (by omega))
  have C7 := Lib.hid (fun W => requestLine_any m t n W (by omega) (by omega))
  have C8 := Lib.hid (fun W => rrline_any m t n W (by omega) (by omega))
  have C9 := Lib.hid (fun (W : World) (h : Tens W) => statusLine_any n k r W h (by omega))
  have C10 := Lib.hid (fun W => rsline_any n k r W (by omega))
  have C11 := Lib.hid (fun W => host_any s W (by omega))
  have C12 := Lib.hid (fun W => rhost_any s W (by omega))
  unfold ReqPost at C1 C2
  unfold StaPost at C3 C4
  unfold TgPost tgV at C5 C6
  unfold RlPost at C7 C8
  unfold SlPost at C9 C10
  clear hT
  generalize mkS (reqM (bs s)) = a1 at *
  generalize mkS (reqT (bs s)) = a2 at *
  generalize ((reqN (bs s) : Nat) : Int) = a3 at *
  generalize ((rSt (bs s) : Nat) : Int) = a4 at *
  generalize ((staM (bs s) : Nat) : Int) = b1 at *
  generalize ((staN (bs s) : Nat) : Int) = b2 at *
  generalize mkS (staR (bs s)) = b3 at *
  generalize ((staE (bs s) : Nat) : Int) = b4 at *
  generalize tgSt (tgt (bs m) (bs t)) = c4 at *
  generalize ((((tgt (bs m) (bs t)).1 : Nat)) : Int) = c1 at *
  generalize mkS (tgt (bs m) (bs t)).2.1 = c2 at *
  generalize mkS (tgt (bs m) (bs t)).2.2 = c3 at *
  generalize mkS (rlS (bs m) (bs t) n) = d1 at *
  generalize rlE (bs m) (bs t) n = d2 at *
  generalize mkS (slS n k (bs r)) = f1 at *
  generalize slE n k (bs r) = f2 at *
  generalize hostL (bs s) = hb at *
  go_enter Tryd.func4, Tryd.ntmps4
  go_wp2_with fail
  refine HL.out.mono ?_
  rintro e w1 ⟨rfl, hb⟩
  have HB1 := Lib.hid hb
  clear hb
  go_wp2_with fail
  refine (C1.out _).mono ?_
  rintro e w2 ⟨rfl, hb⟩
  have HB2 := Lib.hid (HB1.out.trans (hb.mono HB1.out.size))
  clear hb
  go_wp2_with fail
  refine (C2.out _).mono ?_
  rintro e w3 ⟨rfl, hb⟩
  have HB3 := Lib.hid (HB2.out.trans (hb.mono HB2.out.size))
  clear hb
  go_wp2_with fail
  refine (C3.out _).mono ?_
  rintro e w4 ⟨rfl, hb⟩
  have HB4 := Lib.hid (HB3.out.trans (hb.mono HB3.out.size))
  clear hb
  go_wp2_with fail
  refine (C4.out _).mono ?_
  rintro e w5 ⟨rfl, hb⟩
  have HB5 := Lib.hid (HB4.out.trans (hb.mono HB4.out.size))
  clear hb
  go_wp2_with fail
  refine (C5.out _).mono ?_
  rintro e w6 ⟨rfl, hb⟩
  have HB6 := Lib.hid (HB5.out.trans (hb.mono HB5.out.size))
  clear hb
  have HN1 := Lib.hid (Thr.new w6 32 (.int .i64 c1) (.string c2) (.string c3))
  have HB7 := Lib.hid (HB6.out.alloc HB6.out.size (Obj.cells #[.int .i64 c1, .string c2, .string c3] 32))
  go_wp2_with fail
  generalize w6.alloc (Obj.cells #[.int .i64 c1, .string c2, .string c3] 32) = w7 at *
  generalize w6.heap.size = g1 at *
  refine (C6.out _).mono ?_
  rintro e w8 ⟨rfl, hb⟩
  have HB8 := Lib.hid (HB7.out.trans (hb.mono HB7.out.size))
  have HN2 := Lib.hid (HN1.out.later hb)
  clear hb
  have HM1 := Lib.hid (Thr.new w8 32 (.int .i64 c1) (.string c2) (.string c3))
  have hb9 : Below w8.heap.size w8 (w8.alloc (Obj.cells #[.int .i64 c1, .string c2, .string c3] 32)) := (Below.refl _ _).alloc (Nat.le_refl _) _
  have HB9 := Lib.hid (HB8.out.trans (hb9.mono HB8.out.size))
  have HN3 := Lib.hid (HN2.out.later hb9)
  clear hb9
  go_wp2_with fail
  generalize w8.alloc (Obj.cells #[.int .i64 c1, .string c2, .string c3] 32) = w9 at *
  generalize w8.heap.size = g2 at *
  refine (C7.out _).mono ?_
  rintro e w10 ⟨rfl, hb⟩
  have HB10 := Lib.hid (HB9.out.trans (hb.mono HB9.out.size))
  have HN4 := Lib.hid (HN3.out.later hb)
  have HM2 := Lib.hid (HM1.out.later hb)
  clear hb
  go_wp2_with fail
  refine (C8.out _).mono ?_
  rintro e w11 ⟨rfl, hb⟩
  have HB11 := Lib.hid (HB10.out.trans (hb.mono HB10.out.size))
  have HN5 := Lib.hid (HN4.out.later hb)
  have HM3 := Lib.hid (HM2.out.later hb)
  clear hb
  go_wp2_with fail
  refine (C9.out _ (HTT.out.later HB11.out)).mono ?_
  rintro e w12 ⟨rfl, hb⟩
  have HB12 := Lib.hid (HB11.out.trans (hb.mono HB11.out.size))
  have HN6 := Lib.hid (HN5.out.later hb)
  have HM4 := Lib.hid (HM3.out.later hb)
  clear hb
  go_wp2_with fail
  refine (C10.out _).mono ?_
  rintro e w13 ⟨rfl, hb⟩
  have HB13 := Lib.hid (HB12.out.trans (hb.mono HB12.out.size))
  have HN7 := HN6.out.later hb
  have HM5 := HM4.out.later hb
  have q0 := HN7.c0
  have q1 := HN7.c1
  have q2 := HN7.c2
  have p0 := HM5.c0
  have p1 := HM5.c1
  have p2 := HM5.c2
  have hl1 := HN7.lt
  have hl2 := HM5.lt
  clear hb HN7 HM5
  go_wp2_with fail
  refine (C11.out _).mono ?_
  rintro e w14 ⟨rfl, hb⟩
  have HB14 := Lib.hid (HB13.out.trans (hb.mono HB13.out.size))
  clear hb
  go_wp2_with fail
  refine (C12.out _).mono ?_
  rintro e w' ⟨rfl, rfl⟩
  go_wp2_with fail
  go_ret
  exact ⟨rfl, HB14.out⟩

theorem scalls_any (s m t r : ByteArray) (n k : Int) (w : World) (hT : Tens w) :
    Calls Tryd.prog 4 #[.string s, .string m, .string t, .string r, .int .i64 n, .int .i64 k] w (Yes3 w) := by
  by_cases zs : s.size ≤ 200
  · by_cases zm : m.size ≤ 200
    · by_cases zt : t.size ≤ 200
      · by_cases zr : r.size ≤ 200
        · exact scalls_main s m t r n k w hT zs zm zt zr
        · exact scalls_big s m t r n k w (.inr (.inr (.inr ⟨zs, zm, zt, zr⟩)))
      · exact scalls_big s m t r n k w (.inr (.inr (.inl ⟨zs, zm, zt⟩)))
    · exact scalls_big s m t r n k w (.inr (.inl ⟨zs, zm⟩))
  · exact scalls_big s m t r n k w (.inl zs)
end Tk
end Go.Proofs.YtliinjibnikfgaaDoor
