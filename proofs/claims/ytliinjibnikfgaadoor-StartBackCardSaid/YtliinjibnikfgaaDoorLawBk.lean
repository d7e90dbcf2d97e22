/- The law StartBack: its walk. -/
import Derived.Test.YtliinjibnikfgaaDoorStaL
import Derived.Test.YtliinjibnikfgaaDoorStaG
namespace Go.Proofs.YtliinjibnikfgaaDoor
open Go.RowKit
namespace Tk

set_option maxRecDepth 100000 in
set_option maxHeartbeats 4000000 in
theorem sback_big (m t r : ByteArray) (n k : Int) (s : ByteArray) (w : World) (h : ¬ s.size ≤ 200 ∨ (s.size ≤ 200 ∧ ¬ m.size ≤ 200) ∨ (s.size ≤ 200 ∧ m.size ≤ 200 ∧ ¬ t.size ≤ 200) ∨ (s.size ≤ 200 ∧ m.size ≤ 200 ∧ t.size ≤ 200 ∧ ¬ r.size ≤ 200)) :
    Calls Tryd.prog 5 #[.string m, .string t, .string r, .int .i64 n, .int .i64 k, .string s] w (Yes3 w) := by
  have HL := Lib.hid (lives03_any w)
  rcases h with h | ⟨h0, h⟩ | ⟨h0, h1, h⟩ | ⟨h0, h1, h2, h⟩
  all_goals
    go_enter Tryd.func5, Tryd.ntmps5
    go_wp2_with fail
    refine HL.out.mono ?_
    rintro e w1 ⟨rfl, hb⟩
    have HB := Lib.hid hb
    clear hb
    go_wp2_with fail
    go_ret
    exact ⟨rfl, HB.out⟩

def IsRL (m t : ByteArray) (n : Int) (l : ByteArray) (e : Int) : Prop := ∀ W : World, Calls Tryd.prog 12 #[.string m, .string t, .int .i64 n] W fun r w' => r = .returned (.tuple #[.string l, .int .i64 e]) ∧ Below W.heap.size W w'
def IsSL (m n : Int) (r : ByteArray) (l : ByteArray) (e : Int) : Prop := ∀ W : World, Tens W → Calls Tryd.prog 13 #[.int .i64 m, .int .i64 n, .string r] W fun r w' => r = .returned (.tuple #[.string l, .int .i64 e]) ∧ Below W.heap.size W w'
def IsRq (s m t : ByteArray) (n st : Int) : Prop := ∀ W : World, Calls Tryd.prog 11 #[.string s] W fun r w' => r = .returned (.tuple #[.string m, .string t, .int .i64 n, .int .i64 st]) ∧ Below W.heap.size W w'
def IsSt (s : ByteArray) (m n : Int) (r : ByteArray) (e : Int) : Prop := ∀ W : World, Calls Tryd.prog 10 #[.string s] W fun x w' => x = .returned (.tuple #[.int .i64 m, .int .i64 n, .string r, .int .i64 e]) ∧ Below W.heap.size W w'

set_option maxRecDepth 100000 in
set_option maxHeartbeats 4000000 in
theorem sback_nn0 (m t r : ByteArray) (n k : Int) (s l y : ByteArray) (a b j y2 : ByteArray) (c h i f : Int) (w : World) (hT : Tens w) (zm : m.size ≤ 200) (zt : t.size ≤ 200) (zr : r.size ≤ 200) (zs : s.size ≤ 200)
    (hrl : IsRL m t n l 4) (hsl : IsSL n k r y 4) (hq : IsRq s a b c 0) (hx : IsRL a b c s 0) (hs : IsSt s h i j 4) (hy : IsSL h i j y2 f) :
    Calls Tryd.prog 5 #[.string m, .string t, .string r, .int .i64 n, .int .i64 k, .string s] w (Yes3 w) := by
  have HL := Lib.hid (lives03_any w)
  have HTT := Lib.hid hT
  have HRL := Lib.hid hrl
  have HSL := Lib.hid hsl
  have HQ := Lib.hid hq
  have HX := Lib.hid hx
  have HS := Lib.hid hs
  have HY := Lib.hid hy
  unfold IsRL at HRL HX
  unfold IsSL at HSL HY
  unfold IsRq at HQ
  unfold IsSt at HS
  clear hT hrl hsl hq hx hs hy
  go_enter Tryd.func5, Tryd.ntmps5
  go_wp2_with fail
  refine HL.out.mono ?_
  rintro e w1 ⟨rfl, hb⟩
  have HB1 := Lib.hid hb
  clear hb
  go_wp2_with fail
  refine (HRL.out _).mono ?_
  rintro e w2 ⟨rfl, hb⟩
  have HB2 := Lib.hid (HB1.out.trans (hb.mono HB1.out.size))
  clear hb
  go_wp2_with fail
  refine (HSL.out _ (HTT.out.later HB2.out)).mono ?_
  rintro e w3 ⟨rfl, hb⟩
  have HB3 := Lib.hid (HB2.out.trans (hb.mono HB2.out.size))
  clear hb
  go_wp2_with fail
  refine (HQ.out _).mono ?_
  rintro e w4 ⟨rfl, hb⟩
  have HB4 := Lib.hid (HB3.out.trans (hb.mono HB3.out.size))
  clear hb
  go_wp2_with fail
  refine (HX.out _).mono ?_
  rintro e w5 ⟨rfl, hb⟩
  have HB5 := Lib.hid (HB4.out.trans (hb.mono HB4.out.size))
  clear hb
  go_wp2_with fail
  refine (HS.out _).mono ?_
  rintro e w6 ⟨rfl, hb⟩
  have HB6 := Lib.hid (HB5.out.trans (hb.mono HB5.out.size))
  clear hb
  go_wp2_with fail
  refine (HY.out _ (HTT.out.later HB6.out)).mono ?_
  rintro e w7 ⟨rfl, hb⟩
  have HB7 := Lib.hid (HB6.out.trans (hb.mono HB6.out.size))
  clear hb
  go_wp2_with fail
  go_ret
  exact ⟨rfl, HB7.out⟩

set_option maxRecDepth 100000 in
set_option maxHeartbeats 4000000 in
theorem sback_nn1 (m t r : ByteArray) (n k : Int) (s l y : ByteArray) (x j : ByteArray) (c d g h i : Int) (w : World) (hT : Tens w) (zm : m.size ≤ 200) (zt : t.size ≤ 200) (zr : r.size ≤ 200) (zs : s.size ≤ 200)
    (hrl : IsRL m t n l 4) (hsl : IsSL n k r y 4) (hq : IsRq s ⟨#[]⟩ ⟨#[]⟩ c d) (hd : (d != 0) = true) (hx : IsRL ⟨#[]⟩ ⟨#[]⟩ c x g) (hs : IsSt s h i j 0) (hy : IsSL h i j s 0) :
    Calls Tryd.prog 5 #[.string m, .string t, .string r, .int .i64 n, .int .i64 k, .string s] w (Yes3 w) := by
  have HL := Lib.hid (lives03_any w)
  have HTT := Lib.hid hT
  have HRL := Lib.hid hrl
  have HSL := Lib.hid hsl
  have HQ := Lib.hid hq
  have HX := Lib.hid hx
  have HS := Lib.hid hs
  have HY := Lib.hid hy
  have hd2 : (d == 0) = false := by rw [beq_eq_false_iff_ne]; rw [bne_iff_ne] at hd; exact hd
  unfold IsRL at HRL HX
  unfold IsSL at HSL HY
  unfold IsRq at HQ
  unfold IsSt at HS
  clear hT hrl hsl hq hx hs hy
  go_enter Tryd.func5, Tryd.ntmps5
  go_wp2_with fail
  refine HL.out.mono ?_
  rintro e w1 ⟨rfl, hb⟩
  have HB1 := Lib.hid hb
  clear hb
  go_wp2_with fail
  refine (HRL.out _).mono ?_
  rintro e w2 ⟨rfl, hb⟩
  have HB2 := Lib.hid (HB1.out.trans (hb.mono HB1.out.size))
  clear hb
  go_wp2_with fail
  refine (HSL.out _ (HTT.out.later HB2.out)).mono ?_
  rintro e w3 ⟨rfl, hb⟩
  have HB3 := Lib.hid (HB2.out.trans (hb.mono HB2.out.size))
  clear hb
  go_wp2_with fail
  refine (HQ.out _).mono ?_
  rintro e w4 ⟨rfl, hb⟩
  have HB4 := Lib.hid (HB3.out.trans (hb.mono HB3.out.size))
  clear hb
  go_wp2_with fail
  refine (HX.out _).mono ?_
  rintro e w5 ⟨rfl, hb⟩
  have HB5 := Lib.hid (HB4.out.trans (hb.mono HB4.out.size))
  clear hb
  go_wp2_with fail
  refine (HS.out _).mono ?_
  rintro e w6 ⟨rfl, hb⟩
  have HB6 := Lib.hid (HB5.out.trans (hb.mono HB5.out.size))
  clear hb
  go_wp2_with fail
  refine (HY.out _ (HTT.out.later HB6.out)).mono ?_
  rintro e w7 ⟨rfl, hb⟩
  have HB7 := Lib.hid (HB6.out.trans (hb.mono HB6.out.size))
  clear hb
  go_wp2_with fail
  go_ret
  exact ⟨rfl, HB7.out⟩

set_option maxRecDepth 100000 in
set_option maxHeartbeats 4000000 in
theorem sback_nn2 (m t r : ByteArray) (n k : Int) (s l y : ByteArray) (x j y2 : ByteArray) (c d g h i f : Int) (w : World) (hT : Tens w) (zm : m.size ≤ 200) (zt : t.size ≤ 200) (zr : r.size ≤ 200) (zs : s.size ≤ 200)
    (hrl : IsRL m t n l 4) (hsl : IsSL n k r y 4) (hq : IsRq s ⟨#[]⟩ ⟨#[]⟩ c d) (hd : (d != 0) = true) (hx : IsRL ⟨#[]⟩ ⟨#[]⟩ c x g) (hs : IsSt s h i j 4) (hy : IsSL h i j y2 f) :
    Calls Tryd.prog 5 #[.string m, .string t, .string r, .int .i64 n, .int .i64 k, .string s] w (Yes3 w) := by
  have HL := Lib.hid (lives03_any w)
  have HTT := Lib.hid hT
  have HRL := Lib.hid hrl
  have HSL := Lib.hid hsl
  have HQ := Lib.hid hq
  have HX := Lib.hid hx
  have HS := Lib.hid hs
  have HY := Lib.hid hy
  have hd2 : (d == 0) = false := by rw [beq_eq_false_iff_ne]; rw [bne_iff_ne] at hd; exact hd
  unfold IsRL at HRL HX
  unfold IsSL at HSL HY
  unfold IsRq at HQ
  unfold IsSt at HS
  clear hT hrl hsl hq hx hs hy
  go_enter Tryd.func5, Tryd.ntmps5
  go_wp2_with fail
  refine HL.out.mono ?_
  rintro e w1 ⟨rfl, hb⟩
  have HB1 := Lib.hid hb
  clear hb
  go_wp2_with fail
  refine (HRL.out _).mono ?_
  rintro e w2 ⟨rfl, hb⟩
  have HB2 := Lib.hid (HB1.out.trans (hb.mono HB1.out.size))
  clear hb
  go_wp2_with fail
  refine (HSL.out _ (HTT.out.later HB2.out)).mono ?_
  rintro e w3 ⟨rfl, hb⟩
  have HB3 := Lib.hid (HB2.out.trans (hb.mono HB2.out.size))
  clear hb
  go_wp2_with fail
  refine (HQ.out _).mono ?_
  rintro e w4 ⟨rfl, hb⟩
  have HB4 := Lib.hid (HB3.out.trans (hb.mono HB3.out.size))
  clear hb
  go_wp2_with fail
  refine (HX.out _).mono ?_
  rintro e w5 ⟨rfl, hb⟩
  have HB5 := Lib.hid (HB4.out.trans (hb.mono HB4.out.size))
  clear hb
  go_wp2_with fail
  refine (HS.out _).mono ?_
  rintro e w6 ⟨rfl, hb⟩
  have HB6 := Lib.hid (HB5.out.trans (hb.mono HB5.out.size))
  clear hb
  go_wp2_with fail
  refine (HY.out _ (HTT.out.later HB6.out)).mono ?_
  rintro e w7 ⟨rfl, hb⟩
  have HB7 := Lib.hid (HB6.out.trans (hb.mono HB6.out.size))
  clear hb
  go_wp2_with fail
  go_ret
  exact ⟨rfl, HB7.out⟩

set_option maxRecDepth 100000 in
set_option maxHeartbeats 4000000 in
theorem sback_ny0 (m t r : ByteArray) (n k : Int) (s l y : ByteArray) (a b j y2 : ByteArray) (c h i f : Int) (w : World) (hT : Tens w) (zm : m.size ≤ 200) (zt : t.size ≤ 200) (zr : r.size ≤ 200) (zs : s.size ≤ 200)
    (hrl : IsRL m t n l 4) (hsl : IsSL n k r y 0) (hs1 : IsSt y n k r 0) (hq : IsRq s a b c 0) (hx : IsRL a b c s 0) (hs : IsSt s h i j 4) (hy : IsSL h i j y2 f) :
    Calls Tryd.prog 5 #[.string m, .string t, .string r, .int .i64 n, .int .i64 k, .string s] w (Yes3 w) := by
  have HL := Lib.hid (lives03_any w)
  have HTT := Lib.hid hT
  have HRL := Lib.hid hrl
  have HSL := Lib.hid hsl
  have HQ := Lib.hid hq
  have HX := Lib.hid hx
  have HS := Lib.hid hs
  have HY := Lib.hid hy
  have HS1 := Lib.hid hs1
  unfold IsRL at HRL HX
  unfold IsSL at HSL HY
  unfold IsRq at HQ
  unfold IsSt at HS HS1
  clear hT hrl hsl hq hx hs hy hs1
  go_enter Tryd.func5, Tryd.ntmps5
  go_wp2_with fail
  refine HL.out.mono ?_
  rintro e w1 ⟨rfl, hb⟩
  have HB1 := Lib.hid hb
  clear hb
  go_wp2_with fail
  refine (HRL.out _).mono ?_
  rintro e w2 ⟨rfl, hb⟩
  have HB2 := Lib.hid (HB1.out.trans (hb.mono HB1.out.size))
  clear hb
  go_wp2_with fail
  refine (HSL.out _ (HTT.out.later HB2.out)).mono ?_
  rintro e w3 ⟨rfl, hb⟩
  have HB3 := Lib.hid (HB2.out.trans (hb.mono HB2.out.size))
  clear hb
  go_wp2_with fail
  refine (HS1.out _).mono ?_
  rintro e w4 ⟨rfl, hb⟩
  have HB4 := Lib.hid (HB3.out.trans (hb.mono HB3.out.size))
  clear hb
  go_wp2_with fail
  refine (HQ.out _).mono ?_
  rintro e w5 ⟨rfl, hb⟩
  have HB5 := Lib.hid (HB4.out.trans (hb.mono HB4.out.size))
  clear hb
  go_wp2_with fail
  refine (HX.out _).mono ?_
  rintro e w6 ⟨rfl, hb⟩
  have HB6 := Lib.hid (HB5.out.trans (hb.mono HB5.out.size))
  clear hb
  go_wp2_with fail
  refine (HS.out _).mono ?_
  rintro e w7 ⟨rfl, hb⟩
  have HB7 := Lib.hid (HB6.out.trans (hb.mono HB6.out.size))
  clear hb
  go_wp2_with fail
  refine (HY.out _ (HTT.out.later HB7.out)).mono ?_
  rintro e w8 ⟨rfl, hb⟩
  have HB8 := Lib.hid (HB7.out.trans (hb.mono HB7.out.size))
  clear hb
  go_wp2_with fail
  go_ret
  exact ⟨rfl, HB8.out⟩

set_option maxRecDepth 100000 in
set_option maxHeartbeats 4000000 in
theorem sback_ny1 (m t r : ByteArray) (n k : Int) (s l y : ByteArray) (x j : ByteArray) (c d g h i : Int) (w : World) (hT : Tens w) (zm : m.size ≤ 200) (zt : t.size ≤ 200) (zr : r.size ≤ 200) (zs : s.size ≤ 200)
    (hrl : IsRL m t n l 4) (hsl : IsSL n k r y 0) (hs1 : IsSt y n k r 0) (hq : IsRq s ⟨#[]⟩ ⟨#[]⟩ c d) (hd : (d != 0) = true) (hx : IsRL ⟨#[]⟩ ⟨#[]⟩ c x g) (hs : IsSt s h i j 0) (hy : IsSL h i j s 0) :
    Calls Tryd.prog 5 #[.string m, .string t, .string r, .int .i64 n, .int .i64 k, .string s] w (Yes3 w) := by
  have HL := Lib.hid (lives03_any w)
  have HTT := Lib.hid hT
  have HRL := Lib.hid hrl
  have HSL := Lib.hid hsl
  have HQ := Lib.hid hq
  have HX := Lib.hid hx
  have HS := Lib.hid hs
  have HY := Lib.hid hy
  have HS1 := Lib.hid hs1
  have hd2 : (d == 0) = false := by rw [beq_eq_false_iff_ne]; rw [bne_iff_ne] at hd; exact hd
  unfold IsRL at HRL HX
  unfold IsSL at HSL HY
  unfold IsRq at HQ
  unfold IsSt at HS HS1
  clear hT hrl hsl hq hx hs hy hs1
  go_enter Tryd.func5, Tryd.ntmps5
  go_wp2_with fail
  refine HL.out.mono ?_
  rintro e w1 ⟨rfl, hb⟩
  have HB1 := Lib.hid hb
  clear hb
  go_wp2_with fail
  refine (HRL.out _).mono ?_
  rintro e w2 ⟨rfl, hb⟩
  have HB2 := Lib.hid (HB1.out.trans (hb.mono HB1.out.size))
  clear hb
  go_wp2_with fail
  refine (HSL.out _ (HTT.out.later HB2.out)).mono ?_
  rintro e w3 ⟨rfl, hb⟩
  have HB3 := Lib.hid (HB2.out.trans (hb.mono HB2.out.size))
  clear hb
  go_wp2_with fail
  refine (HS1.out _).mono ?_
  rintro e w4 ⟨rfl, hb⟩
  have HB4 := Lib.hid (HB3.out.trans (hb.mono HB3.out.size))
  clear hb
  go_wp2_with fail
  refine (HQ.out _).mono ?_
  rintro e w5 ⟨rfl, hb⟩
  have HB5 := Lib.hid (HB4.out.trans (hb.mono HB4.out.size))
  clear hb
  go_wp2_with fail
  refine (HX.out _).mono ?_
  rintro e w6 ⟨rfl, hb⟩
  have HB6 := Lib.hid (HB5.out.trans (hb.mono HB5.out.size))
  clear hb
  go_wp2_with fail
  refine (HS.out _).mono ?_
  rintro e w7 ⟨rfl, hb⟩
  have HB7 := Lib.hid (HB6.out.trans (hb.mono HB6.out.size))
  clear hb
  go_wp2_with fail
  refine (HY.out _ (HTT.out.later HB7.out)).mono ?_
  rintro e w8 ⟨rfl, hb⟩
  have HB8 := Lib.hid (HB7.out.trans (hb.mono HB7.out.size))
  clear hb
  go_wp2_with fail
  go_ret
  exact ⟨rfl, HB8.out⟩

set_option maxRecDepth 100000 in
set_option maxHeartbeats 4000000 in
theorem sback_ny2 (m t r : ByteArray) (n k : Int) (s l y : ByteArray) (x j y2 : ByteArray) (c d g h i f : Int) (w : World) (hT : Tens w) (zm : m.size ≤ 200) (zt : t.size ≤ 200) (zr : r.size ≤ 200) (zs : s.size ≤ 200)
    (hrl : IsRL m t n l 4) (hsl : IsSL n k r y 0) (hs1 : IsSt y n k r 0) (hq : IsRq s ⟨#[]⟩ ⟨#[]⟩ c d) (hd : (d != 0) = true) (hx : IsRL ⟨#[]⟩ ⟨#[]⟩ c x g) (hs : IsSt s h i j 4) (hy : IsSL h i j y2 f) :
    Calls Tryd.prog 5 #[.string m, .string t, .string r, .int .i64 n, .int .i64 k, .string s] w (Yes3 w) := by
  have HL := Lib.hid (lives03_any w)
  have HTT := Lib.hid hT
  have HRL := Lib.hid hrl
  have HSL := Lib.hid hsl
  have HQ := Lib.hid hq
  have HX := Lib.hid hx
  have HS := Lib.hid hs
  have HY := Lib.hid hy
  have HS1 := Lib.hid hs1
  have hd2 : (d == 0) = false := by rw [beq_eq_false_iff_ne]; rw [bne_iff_ne] at hd; exact hd
  unfold IsRL at HRL HX
  unfold IsSL at HSL HY
  unfold IsRq at HQ
  unfold IsSt at HS HS1
  clear hT hrl hsl hq hx hs hy hs1
  go_enter Tryd.func5, Tryd.ntmps5
  go_wp2_with fail
  refine HL.out.mono ?_
  rintro e w1 ⟨rfl, hb⟩
  have HB1 := Lib.hid hb
  clear hb
  go_wp2_with fail
  refine (HRL.out _).mono ?_
  rintro e w2 ⟨rfl, hb⟩
  have HB2 := Lib.hid (HB1.out.trans (hb.mono HB1.out.size))
  clear hb
  go_wp2_with fail
  refine (HSL.out _ (HTT.out.later HB2.out)).mono ?_
  rintro e w3 ⟨rfl, hb⟩
  have HB3 := Lib.hid (HB2.out.trans (hb.mono HB2.out.size))
  clear hb
  go_wp2_with fail
  refine (HS1.out _).mono ?_
  rintro e w4 ⟨rfl, hb⟩
  have HB4 := Lib.hid (HB3.out.trans (hb.mono HB3.out.size))
  clear hb
  go_wp2_with fail
  refine (HQ.out _).mono ?_
  rintro e w5 ⟨rfl, hb⟩
  have HB5 := Lib.hid (HB4.out.trans (hb.mono HB4.out.size))
  clear hb
  go_wp2_with fail
  refine (HX.out _).mono ?_
  rintro e w6 ⟨rfl, hb⟩
  have HB6 := Lib.hid (HB5.out.trans (hb.mono HB5.out.size))
  clear hb
  go_wp2_with fail
  refine (HS.out _).mono ?_
  rintro e w7 ⟨rfl, hb⟩
  have HB7 := Lib.hid (HB6.out.trans (hb.mono HB6.out.size))
  clear hb
  go_wp2_with fail
  refine (HY.out _ (HTT.out.later HB7.out)).mono ?_
  rintro e w8 ⟨rfl, hb⟩
  have HB8 := Lib.hid (HB7.out.trans (hb.mono HB7.out.size))
  clear hb
  go_wp2_with fail
  go_ret
  exact ⟨rfl, HB8.out⟩

set_option maxRecDepth 100000 in
set_option maxHeartbeats 4000000 in
theorem sback_yn0 (m t r : ByteArray) (n k : Int) (s l y : ByteArray) (a b j y2 : ByteArray) (c h i f : Int) (w : World) (hT : Tens w) (zm : m.size ≤ 200) (zt : t.size ≤ 200) (zr : r.size ≤ 200) (zs : s.size ≤ 200)
    (hrl : IsRL m t n l 0) (hr1 : IsRq l m t n 0) (hsl : IsSL n k r y 4) (hq : IsRq s a b c 0) (hx : IsRL a b c s 0) (hs : IsSt s h i j 4) (hy : IsSL h i j y2 f) :
    Calls Tryd.prog 5 #[.string m, .string t, .string r, .int .i64 n, .int .i64 k, .string s] w (Yes3 w) := by
  have HL := Lib.hid (lives03_any w)
  have HTT := Lib.hid hT
  have HRL := Lib.hid hrl
  have HSL := Lib.hid hsl
  have HQ := Lib.hid hq
  have HX := Lib.hid hx
  have HS := Lib.hid hs
  have HY := Lib.hid hy
  have HR1 := Lib.hid hr1
  unfold IsRL at HRL HX
  unfold IsSL at HSL HY
  unfold IsRq at HQ HR1
  unfold IsSt at HS
  clear hT hrl hsl hq hx hs hy hr1
  go_enter Tryd.func5, Tryd.ntmps5
  go_wp2_with fail
  refine HL.out.mono ?_
  rintro e w1 ⟨rfl, hb⟩
  have HB1 := Lib.hid hb
  clear hb
  go_wp2_with fail
  refine (HRL.out _).mono ?_
  rintro e w2 ⟨rfl, hb⟩
  have HB2 := Lib.hid (HB1.out.trans (hb.mono HB1.out.size))
  clear hb
  go_wp2_with fail
  refine (HR1.out _).mono ?_
  rintro e w3 ⟨rfl, hb⟩
  have HB3 := Lib.hid (HB2.out.trans (hb.mono HB2.out.size))
  clear hb
  go_wp2_with fail
  refine (HSL.out _ (HTT.out.later HB3.out)).mono ?_
  rintro e w4 ⟨rfl, hb⟩
  have HB4 := Lib.hid (HB3.out.trans (hb.mono HB3.out.size))
  clear hb
  go_wp2_with fail
  refine (HQ.out _).mono ?_
  rintro e w5 ⟨rfl, hb⟩
  have HB5 := Lib.hid (HB4.out.trans (hb.mono HB4.out.size))
  clear hb
  go_wp2_with fail
  refine (HX.out _).mono ?_
  rintro e w6 ⟨rfl, hb⟩
  have HB6 := Lib.hid (HB5.out.trans (hb.mono HB5.out.size))
  clear hb
  go_wp2_with fail
  refine (HS.out _).mono ?_
  rintro e w7 ⟨rfl, hb⟩
  have HB7 := Lib.hid (HB6.out.trans (hb.mono HB6.out.size))
  clear hb
  go_wp2_with fail
  refine (HY.out _ (HTT.out.later HB7.out)).mono ?_
  rintro e w8 ⟨rfl, hb⟩
  have HB8 := Lib.hid (HB7.out.trans (hb.mono HB7.out.size))
  clear hb
  go_wp2_with fail
  go_ret
  exact ⟨rfl, HB8.out⟩

set_option maxRecDepth 100000 in
set_option maxHeartbeats 4000000 in
theorem sback_yn1 (m t r : ByteArray) (n k : Int) (s l y : ByteArray) (x j : ByteArray) (c d g h i : Int) (w : World) (hT : Tens w) (zm : m.size ≤ 200) (zt : t.size ≤ 200) (zr : r.size ≤ 200) (zs : s.size ≤ 200)
    (hrl : IsRL m t n l 0) (hr1 : IsRq l m t n 0) (hsl : IsSL n k r y 4) (hq : IsRq s ⟨#[]⟩ ⟨#[]⟩ c d) (hd : (d != 0) = true) (hx : IsRL ⟨#[]⟩ ⟨#[]⟩ c x g) (hs : IsSt s h i j 0) (hy : IsSL h i j s 0) :
    Calls Tryd.prog 5 #[.string m, .string t, .string r, .int .i64 n, .int .i64 k, .string s] w (Yes3 w) := by
  have HL := Lib.hid (lives03_any w)
  have HTT := Lib.hid hT
  have HRL := Lib.hid hrl
  have HSL := Lib.hid hsl
  have HQ := Lib.hid hq
  have HX := Lib.hid hx
  have HS := Lib.hid hs
  have HY := Lib.hid hy
  have HR1 := Lib.hid hr1
  have hd2 : (d == 0) = false := by rw [beq_eq_false_iff_ne]; rw [bne_iff_ne] at hd; exact hd
  unfold IsRL at HRL HX
  unfold IsSL at HSL HY
  unfold IsRq at HQ HR1
  unfold IsSt at HS
  clear hT hrl hsl hq hx hs hy hr1
  go_enter Tryd.func5, Tryd.ntmps5
  go_wp2_with fail
  refine HL.out.mono ?_
  rintro e w1 ⟨rfl, hb⟩
  have HB1 := Lib.hid hb
  clear hb
  go_wp2_with fail
  refine (HRL.out _).mono ?_
  rintro e w2 ⟨rfl, hb⟩
  have HB2 := Lib.hid (HB1.out.trans (hb.mono HB1.out.size))
  clear hb
  go_wp2_with fail
  refine (HR1.out _).mono ?_
  rintro e w3 ⟨rfl, hb⟩
  have HB3 := Lib.hid (HB2.out.trans (hb.mono HB2.out.size))
  clear hb
  go_wp2_with fail
  refine (HSL.out _ (HTT.out.later HB3.out)).mono ?_
  rintro e w4 ⟨rfl, hb⟩
  have HB4 := Lib.hid (HB3.out.trans (hb.mono HB3.out.size))
  clear hb
  go_wp2_with fail
  refine (HQ.out _).mono ?_
  rintro e w5 ⟨rfl, hb⟩
  have HB5 := Lib.hid (HB4.out.trans (hb.mono HB4.out.size))
  clear hb
  go_wp2_with fail
  refine (HX.out _).mono ?_
  rintro e w6 ⟨rfl, hb⟩
  have HB6 := Lib.hid (HB5.out.trans (hb.mono HB5.out.size))
  clear hb
  go_wp2_with fail
  refine (HS.out _).mono ?_
  rintro e w7 ⟨rfl, hb⟩
  have HB7 := Lib.hid (HB6.out.trans (hb.mono HB6.out.size))
  clear hb
  go_wp2_with fail
  refine (HY.out _ (HTT.out.later HB7.out)).mono ?_
  rintro e w8 ⟨rfl, hb⟩
  have HB8 := Lib.hid (HB7.out.trans (hb.mono HB7.out.size))
  clear hb
  go_wp2_with fail
  go_ret
  exact ⟨rfl, HB8.out⟩

set_option maxRecDepth 100000 in
set_option maxHeartbeats 4000000 in
theorem sback_yn2 (m t r : ByteArray) (n k : Int) (s l y : ByteArray) (x j y2 : ByteArray) (c d g h i f : Int) (w : World) (hT : Tens w) (zm : m.size ≤ 200) (zt : t.size ≤ 200) (zr : r.size ≤ 200) (zs : s.size ≤ 200)
    (hrl : IsRL m t n l 0) (hr1 : IsRq l m t n 0) (hsl : IsSL n k r y 4) (hq : IsRq s ⟨#[]⟩ ⟨#[]⟩ c d) (hd : (d != 0) = true) (hx : IsRL ⟨#[]⟩ ⟨#[]⟩ c x g) (hs : IsSt s h i j 4) (hy : IsSL h i j y2 f) :
    Calls Tryd.prog 5 #[.string m, .string t, .string r, .int .i64 n, .int .i64 k, .string s] w (Yes3 w) := by
  have HL := Lib.hid (lives03_any w)
  have HTT := Lib.hid hT
  have HRL := Lib.hid hrl
  have HSL := Lib.hid hsl
  have HQ := Lib.hid hq
  have HX := Lib.hid hx
  have HS := Lib.hid hs
  have HY := Lib.hid hy
  have HR1 := Lib.hid hr1
  have hd2 : (d == 0) = false := by rw [beq_eq_false_iff_ne]; rw [bne_iff_ne] at hd; exact hd
  unfold IsRL at HRL HX
  unfold IsSL at HSL HY
  unfold IsRq at HQ HR1
  unfold IsSt at HS
  clear hT hrl hsl hq hx hs hy hr1
  go_enter Tryd.func5, Tryd.ntmps5
  go_wp2_with fail
  refine HL.out.mono ?_
  rintro e w1 ⟨rfl, hb⟩
  have HB1 := Lib.hid hb
  clear hb
  go_wp2_with fail
  refine (HRL.out _).mono ?_
  rintro e w2 ⟨rfl, hb⟩
  have HB2 := Lib.hid (HB1.out.trans (hb.mono HB1.out.size))
  clear hb
  go_wp2_with fail
  refine (HR1.out _).mono ?_
  rintro e w3 ⟨rfl, hb⟩
  have HB3 := Lib.hid (HB2.out.trans (hb.mono HB2.out.size))
  clear hb
  go_wp2_with fail
  refine (HSL.out _ (HTT.out.later HB3.out)).mono ?_
  rintro e w4 ⟨rfl, hb⟩
  have HB4 := Lib.hid (HB3.out.trans (hb.mono HB3.out.size))
  clear hb
  go_wp2_with fail
  refine (HQ.out _).mono ?_
  rintro e w5 ⟨rfl, hb⟩
  have HB5 := Lib.hid (HB4.out.trans (hb.mono HB4.out.size))
  clear hb
  go_wp2_with fail
  refine (HX.out _).mono ?_
  rintro e w6 ⟨rfl, hb⟩
  have HB6 := Lib.hid (HB5.out.trans (hb.mono HB5.out.size))
  clear hb
  go_wp2_with fail
  refine (HS.out _).mono ?_
  rintro e w7 ⟨rfl, hb⟩
  have HB7 := Lib.hid (HB6.out.trans (hb.mono HB6.out.size))
  clear hb
  go_wp2_with fail
  refine (HY.out _ (HTT.out.later HB7.out)).mono ?_
  rintro e w8 ⟨rfl, hb⟩
  have HB8 := Lib.hid (HB7.out.trans (hb.mono HB7.out.size))
  clear hb
  go_wp2_with fail
  go_ret
  exact ⟨rfl, HB8.out⟩

set_option maxRecDepth 100000 in
set_option maxHeartbeats 4000000 in
theorem sback_yy0 (m t r : ByteArray) (n k : Int) (s l y : ByteArray) (a b j y2 : ByteArray) (c h i f : Int) (w : World) (hT : Tens w) (zm : m.size ≤ 200) (zt : t.size ≤ 200) (zr : r.size ≤ 200) (zs : s.size ≤ 200)
    (hrl : IsRL m t n l 0) (hr1 : IsRq l m t n 0) (hsl : IsSL n k r y 0) (hs1 : IsSt y n k r 0) (hq : IsRq s a b c 0) (hx : IsRL a b c s 0) (hs : IsSt s h i j 4) (hy : IsSL h i j y2 f) :
    Calls Tryd.prog 5 #[.string m, .string t, .string r, .int .i64 n, .int .i64 k, .string s] w (Yes3 w) := by
  have HL := Lib.hid (lives03_any w)
  have HTT := Lib.hid hT
  have HRL := Lib.hid hrl
  have HSL := Lib.hid hsl
  have HQ := Lib.hid hq
  have HX := Lib.hid hx
  have HS := Lib.hid hs
  have HY := Lib.hid hy
  have HR1 := Lib.hid hr1
  have HS1 := Lib.hid hs1
  unfold IsRL at HRL HX
  unfold IsSL at HSL HY
  unfold IsRq at HQ HR1
  unfold IsSt at HS HS1
  clear hT hrl hsl hq hx hs hy hr1 hs1
  go_enter Tryd.func5, Tryd.ntmps5
  go_wp2_with fail
  refine HL.out.mono ?_
  rintro e w1 ⟨rfl, hb⟩
  have HB1 := Lib.hid hb
  clear hb
  go_wp2_with fail
  refine (HRL.out _).mono ?_
  rintro e w2 ⟨rfl, hb⟩
  have HB2 := Lib.hid (HB1.out.trans (hb.mono HB1.out.size))
  clear hb
  go_wp2_with fail
  refine (HR1.out _).mono ?_
  rintro e w3 ⟨rfl, hb⟩
  have HB3 := Lib.hid (HB2.out.trans (hb.mono HB2.out.size))
  clear hb
  go_wp2_with fail
  refine (HSL.out _ (HTT.out.later HB3.out)).mono ?_
  rintro e w4 ⟨rfl, hb⟩
  have HB4 := Lib.hid (HB3.out.trans (hb.mono HB3.out.size))
  clear hb
  go_wp2_with fail
  refine (HS1.out _).mono ?_
  rintro e w5 ⟨rfl, hb⟩
  have HB5 := Lib.hid (HB4.out.trans (hb.mono HB4.out.size))
  clear hb
  go_wp2_with fail
  refine (HQ.out _).mono ?_
  rintro e w6 ⟨rfl, hb⟩
  have HB6 := Lib.hid (HB5.out.trans (hb.mono HB5.out.size))
  clear hb
  go_wp2_with fail
  refine (HX.out _).mono ?_
  rintro e w7 ⟨rfl, hb⟩
  have HB7 := Lib.hid (HB6.out.trans (hb.mono HB6.out.size))
  clear hb
  go_wp2_with fail
  refine (HS.out _).mono ?_
  rintro e w8 ⟨rfl, hb⟩
  have HB8 := Lib.hid (HB7.out.trans (hb.mono HB7.out.size))
  clear hb
  go_wp2_with fail
  refine (HY.out _ (HTT.out.later HB8.out)).mono ?_
  rintro e w9 ⟨rfl, hb⟩
  have HB9 := Lib.hid (HB8.out.trans (hb.mono HB8.out.size))
  clear hb
  go_wp2_with fail
  go_ret
  exact ⟨rfl, HB9.out⟩

set_option maxRecDepth 100000 in
set_option maxHeartbeats 4000000 in
theorem sback_yy1 (m t r : ByteArray) (n k : Int) (s l y : ByteArray) (x j : ByteArray) (c d g h i : Int) (w : World) (hT : Tens w) (zm : m.size ≤ 200) (zt : t.size ≤ 200) (zr : r.size ≤ 200) (zs : s.size ≤ 200)
    (hrl : IsRL m t n l 0) (hr1 : IsRq l m t n 0) (hsl : IsSL n k r y 0) (hs1 : IsSt y n k r 0) (hq : IsRq s ⟨#[]⟩ ⟨#[]⟩ c d) (hd : (d != 0) = true) (hx : IsRL ⟨#[]⟩ ⟨#[]⟩ c x g) (hs : IsSt s h i j 0) (hy : IsSL h i j s 0) :
    Calls Tryd.prog 5 #[.string m, .string t, .string r, .int .i64 n, .int .i64 k, .string s] w (Yes3 w) := by
  have HL := Lib.hid (lives03_any w)
  have HTT := Lib.hid hT
  have HRL := Lib.hid hrl
  have HSL := Lib.hid hsl
  have HQ := Lib.hid hq
  have HX := Lib.hid hx
  have HS := Lib.hid hs
  have HY := Lib.hid hy
  have HR1 := Lib.hid hr1
  have HS1 := Lib.hid hs1
  have hd2 : (d == 0) = false := by rw [beq_eq_false_iff_ne]; rw [bne_iff_ne] at hd; exact hd
  unfold IsRL at HRL HX
  unfold IsSL at HSL HY
  unfold IsRq at HQ HR1
  unfold IsSt at HS HS1
  clear hT hrl hsl hq hx hs hy hr1 hs1
  go_enter Tryd.func5, Tryd.ntmps5
  go_wp2_with fail
  refine HL.out.mono ?_
  rintro e w1 ⟨rfl, hb⟩
  have HB1 := Lib.hid hb
  clear hb
  go_wp2_with fail
  refine (HRL.out _).mono ?_
  rintro e w2 ⟨rfl, hb⟩
  have HB2 := Lib.hid (HB1.out.trans (hb.mono HB1.out.size))
  clear hb
  go_wp2_with fail
  refine (HR1.out _).mono ?_
  rintro e w3 ⟨rfl, hb⟩
  have HB3 := Lib.hid (HB2.out.trans (hb.mono HB2.out.size))
  clear hb
  go_wp2_with fail
  refine (HSL.out _ (HTT.out.later HB3.out)).mono ?_
  rintro e w4 ⟨rfl, hb⟩
  have HB4 := Lib.hid (HB3.out.trans (hb.mono HB3.out.size))
  clear hb
  go_wp2_with fail
  refine (HS1.out _).mono ?_
  rintro e w5 ⟨rfl, hb⟩
  have HB5 := Lib.hid (HB4.out.trans (hb.mono HB4.out.size))
  clear hb
  go_wp2_with fail
  refine (HQ.out _).mono ?_
  rintro e w6 ⟨rfl, hb⟩
  have HB6 := Lib.hid (HB5.out.trans (hb.mono HB5.out.size))
  clear hb
  go_wp2_with fail
  refine (HX.out _).mono ?_
  rintro e w7 ⟨rfl, hb⟩
  have HB7 := Lib.hid (HB6.out.trans (hb.mono HB6.out.size))
  clear hb
  go_wp2_with fail
  refine (HS.out _).mono ?_
  rintro e w8 ⟨rfl, hb⟩
  have HB8 := Lib.hid (HB7.out.trans (hb.mono HB7.out.size))
  clear hb
  go_wp2_with fail
  refine (HY.out _ (HTT.out.later HB8.out)).mono ?_
  rintro e w9 ⟨rfl, hb⟩
  have HB9 := Lib.hid (HB8.out.trans (hb.mono HB8.out.size))
  clear hb
  go_wp2_with fail
  go_ret
  exact ⟨rfl, HB9.out⟩

set_option maxRecDepth 100000 in
set_option maxHeartbeats 4000000 in
theorem sback_yy2 (m t r : ByteArray) (n k : Int) (s l y : ByteArray) (x j y2 : ByteArray) (c d g h i f : Int) (w : World) (hT : Tens w) (zm : m.size ≤ 200) (zt : t.size ≤ 200) (zr : r.size ≤ 200) (zs : s.size ≤ 200)
    (hrl : IsRL m t n l 0) (hr1 : IsRq l m t n 0) (hsl : IsSL n k r y 0) (hs1 : IsSt y n k r 0) (hq : IsRq s ⟨#[]⟩ ⟨#[]⟩ c d) (hd : (d != 0) = true) (hx : IsRL ⟨#[]⟩ ⟨#[]⟩ c x g) (hs : IsSt s h i j 4) (hy : IsSL h i j y2 f) :
    Calls Tryd.prog 5 #[.string m, .string t, .string r, .int .i64 n, .int .i64 k, .string s] w (Yes3 w) := by
  have HL := Lib.hid (lives03_any w)
  have HTT := Lib.hid hT
  have HRL := Lib.hid hrl
  have HSL := Lib.hid hsl
  have HQ := Lib.hid hq
  have HX := Lib.hid hx
  have HS := Lib.hid hs
  have HY := Lib.hid hy
  have HR1 := Lib.hid hr1
  have HS1 := Lib.hid hs1
  have hd2 : (d == 0) = false := by rw [beq_eq_false_iff_ne]; rw [bne_iff_ne] at hd; exact hd
  unfold IsRL at HRL HX
  unfold IsSL at HSL HY
  unfold IsRq at HQ HR1
  unfold IsSt at HS HS1
  clear hT hrl hsl hq hx hs hy hr1 hs1
  go_enter Tryd.func5, Tryd.ntmps5
  go_wp2_with fail
  refine HL.out.mono ?_
  rintro e w1 ⟨rfl, hb⟩
  have HB1 := Lib.hid hb
  clear hb
  go_wp2_with fail
  refine (HRL.out _).mono ?_
  rintro e w2 ⟨rfl, hb⟩
  have HB2 := Lib.hid (HB1.out.trans (hb.mono HB1.out.size))
  clear hb
  go_wp2_with fail
  refine (HR1.out _).mono ?_
  rintro e w3 ⟨rfl, hb⟩
  have HB3 := Lib.hid (HB2.out.trans (hb.mono HB2.out.size))
  clear hb
  go_wp2_with fail
  refine (HSL.out _ (HTT.out.later HB3.out)).mono ?_
  rintro e w4 ⟨rfl, hb⟩
  have HB4 := Lib.hid (HB3.out.trans (hb.mono HB3.out.size))
  clear hb
  go_wp2_with fail
  refine (HS1.out _).mono ?_
  rintro e w5 ⟨rfl, hb⟩
  have HB5 := Lib.hid (HB4.out.trans (hb.mono HB4.out.size))
  clear hb
  go_wp2_with fail
  refine (HQ.out _).mono ?_
  rintro e w6 ⟨rfl, hb⟩
  have HB6 := Lib.hid (HB5.out.trans (hb.mono HB5.out.size))
  clear hb
  go_wp2_with fail
  refine (HX.out _).mono ?_
  rintro e w7 ⟨rfl, hb⟩
  have HB7 := Lib.hid (HB6.out.trans (hb.mono HB6.out.size))
  clear hb
  go_wp2_with fail
  refine (HS.out _).mono ?_
  rintro e w8 ⟨rfl, hb⟩
  have HB8 := Lib.hid (HB7.out.trans (hb.mono HB7.out.size))
  clear hb
  go_wp2_with fail
  refine (HY.out _ (HTT.out.later HB8.out)).mono ?_
  rintro e w9 ⟨rfl, hb⟩
  have HB9 := Lib.hid (HB8.out.trans (hb.mono HB8.out.size))
  clear hb
  go_wp2_with fail
  go_ret
  exact ⟨rfl, HB9.out⟩

theorem isRL (m t : ByteArray) (n : Int) (hm : m.size ≤ 1000) (ht : t.size ≤ 1000) : IsRL m t n (mkS (rlS (bs m) (bs t) n)) (rlE (bs m) (bs t) n) := fun W => requestLine_any m t n W (by omega) (by omega)
theorem isSL (m n : Int) (r : ByteArray) (hr : r.size ≤ 1000) : IsSL m n r (mkS (slS m n (bs r))) (slE m n (bs r)) := fun W h => statusLine_any m n r W h (by omega)
theorem isRq (s : ByteArray) (hs : s.size ≤ 1000) : IsRq s (mkS (reqM (bs s))) (mkS (reqT (bs s))) (reqN (bs s)) (rSt (bs s)) := fun W => request_any s W (by omega)
theorem isSt (s : ByteArray) (hs : s.size ≤ 1000) : IsSt s (staM (bs s)) (staN (bs s)) (mkS (staR (bs s))) (staE (bs s)) := fun W => status_any s W (by omega)

theorem rIn_parts {m t : Bs} (h : rIn m t = true) : tokL m = true ∧ someL vis t = true := by unfold rIn at h; rw [Bool.and_eq_true] at h; exact h

/-- the first part: a request line that is written is read -/
theorem back1 (m t : ByteArray) (n : Int) (hm : m.size ≤ 200) (ht : t.size ≤ 200) : ∃ l, IsRL m t n l 4 ∨ (IsRL m t n l 0 ∧ IsRq l m t n 0) := by
  have h := isRL m t n (by omega) (by omega)
  cases hb : rlB (bs m) (bs t) n
  · rw [(rl_no hb).2] at h
    exact ⟨_, .inl h⟩
  · obtain ⟨e1, e2⟩ := rl_yes hb
    rw [e1, e2] at h
    refine ⟨_, .inr ⟨h, ?_⟩⟩
    have hb' := hb
    unfold rlB at hb'
    rw [Bool.and_eq_true] at hb'
    obtain ⟨v, rfl, hv⟩ := okMinor_of hb'.2
    obtain ⟨hm2, ht2⟩ := rIn_parts hb'.1
    obtain ⟨q1, q2, q3, q4⟩ := req_line (bs m) (bs t) v hm2 ht2 hv
    have hz : (mkS (reqLine (bs m) (bs t) v)).size ≤ 1000 := by
      rw [size_mkS]; unfold reqLine vText
      simp only [List.length_append, List.length_cons, List.length_nil, length_bs]; omega
    have hr := isRq (mkS (reqLine (bs m) (bs t) v)) hz
    rw [bs_mkS, q1, q2, q3, q4, mkS_bs, mkS_bs] at hr
    exact hr
/-- the second part: a status line that is written is read -/
theorem back2 (n k : Int) (r : ByteArray) (hr : r.size ≤ 200) : ∃ y, IsSL n k r y 4 ∨ (IsSL n k r y 0 ∧ IsSt y n k r 0) := by
  have h := isSL n k r (by omega)
  cases hb : slB n k (bs r)
  · rw [(sl_no hb).2] at h
    exact ⟨_, .inl h⟩
  · obtain ⟨e1, e2⟩ := sl_yes hb
    rw [e1, e2] at h
    refine ⟨_, .inr ⟨h, ?_⟩⟩
    have hb' := hb
    unfold slB at hb'
    rw [Bool.and_eq_true] at hb'
    obtain ⟨v, rfl, hv⟩ := okMinor_of hb'.1
    have hk : 100 ≤ k ∧ k ≤ 599 := by
      have := hb'.2
      unfold sInI at this
      simp only [Bool.and_eq_true, decide_eq_true_eq] at this
      exact this.1
    obtain ⟨d, rfl⟩ : ∃ d : Nat, k = d := ⟨k.toNat, by omega⟩
    have hin := hb'.2
    rw [sInI_nat] at hin
    obtain ⟨-, q1, q2, q3, q4⟩ := sta_line v d (bs r) hv hin
    have hz : (mkS (staLine v d (bs r))).size ≤ 1000 := by
      rw [size_mkS]; unfold staLine vText
      rw [digL_three d (by omega) (by omega)]
      simp only [List.length_append, List.length_cons, List.length_nil, length_bs]; omega
    have hr := isSt (mkS (staLine v d (bs r))) hz
    rw [bs_mkS, q1, q2, q3, q4, mkS_bs] at hr
    exact hr
theorem mkS_len (l : Bs) (s : ByteArray) (h : l.length ≤ s.size) (hs : s.size ≤ 200) : (mkS l).size ≤ 1000 := by rw [size_mkS]; omega
theorem reqM_len (l : Bs) : (reqM l).length ≤ l.length := by
  unfold reqM; split
  · exact cutl1 32 l
  · simp
theorem reqT_len (l : Bs) : (reqT l).length ≤ l.length := by
  unfold reqT; split
  · exact Nat.le_trans (cutl1 32 _) (cutl2 32 l)
  · simp
theorem staR_len (l : Bs) : (staR l).length ≤ l.length := by
  unfold staR; split
  · exact Nat.le_trans (cutl2 32 _) (cutl2 32 l)
  · simp
theorem mkS_nil : mkS [] = ⟨#[]⟩ := rfl

theorem sback_any (m t r : ByteArray) (n k : Int) (s : ByteArray) (w : World) (hT : Tens w) :
    Calls Tryd.prog 5 #[.string m, .string t, .string r, .int .i64 n, .int .i64 k, .string s] w (Yes3 w) := by
  by_cases zs : s.size ≤ 200
  · by_cases zm : m.size ≤ 200
    · by_cases zt : t.size ≤ 200
      · by_cases zr : r.size ≤ 200
        · obtain ⟨l, p1⟩ := back1 m t n zm zt
          obtain ⟨y, p2⟩ := back2 n k r zr
          have hq := isRq s (by omega)
          have hx := isRL (mkS (reqM (bs s))) (mkS (reqT (bs s))) (reqN (bs s)) (mkS_len _ s (by rw [← length_bs]; exact reqM_len _) zs) (mkS_len _ s (by rw [← length_bs]; exact reqT_len _) zs)
          have hs := isSt s (by omega)
          have hy := isSL (staM (bs s)) (staN (bs s)) (mkS (staR (bs s))) (mkS_len _ s (by rw [← length_bs]; exact staR_len _) zs)
          rw [bs_mkS, bs_mkS] at hx
          rw [bs_mkS] at hy
          by_cases h0 : rSt (bs s) = 0
          · obtain ⟨el, tm, tt, tn⟩ := req_is (bs s) h0
            have hb : rlB (reqM (bs s)) (reqT (bs s)) (reqN (bs s)) = true := by
              unfold rlB rIn okMinor
              rw [tm, tt]
              have : decide (((reqN (bs s) : Nat) : Int) = 0 ∨ ((reqN (bs s) : Nat) : Int) = 1) = true := by
                rw [decide_eq_true_eq]; omega
              rw [this]; rfl
            obtain ⟨e1, e2⟩ := rl_yes hb
            rw [e1, e2, Int.toNat_natCast, ← el, mkS_bs] at hx
            have hno := not_both (bs s) h0
            obtain ⟨-, -, -, e3⟩ := sta_no (bs s) hno
            rw [h0] at hq
            rw [e3] at hs
            rcases p1 with p1 | ⟨p1, p1'⟩ <;> rcases p2 with p2 | ⟨p2, p2'⟩
            · exact sback_nn0 m t r n k s l y _ _ _ _ _ _ _ _ w hT zm zt zr zs p1 p2 hq hx hs hy
            · exact sback_ny0 m t r n k s l y _ _ _ _ _ _ _ _ w hT zm zt zr zs p1 p2 p2' hq hx hs hy
            · exact sback_yn0 m t r n k s l y _ _ _ _ _ _ _ _ w hT zm zt zr zs p1 p1' p2 hq hx hs hy
            · exact sback_yy0 m t r n k s l y _ _ _ _ _ _ _ _ w hT zm zt zr zs p1 p1' p2 p2' hq hx hs hy
          · obtain ⟨b1, b2, b3⟩ := req_bad (bs s) _ rfl h0
            have hd : (((rSt (bs s) : Nat) : Int) != 0) = true := by rw [bne_iff_ne]; omega
            rw [b1, b2, mkS_nil] at hq
            rw [b1, b2, mkS_nil] at hx
            cases hso : sOk (bs s)
            · obtain ⟨-, -, -, e3⟩ := sta_no (bs s) hso
              rw [e3] at hs
              rcases p1 with p1 | ⟨p1, p1'⟩ <;> rcases p2 with p2 | ⟨p2, p2'⟩
              · exact sback_nn2 m t r n k s l y _ _ _ _ _ _ _ _ _ w hT zm zt zr zs p1 p2 hq hd hx hs hy
              · exact sback_ny2 m t r n k s l y _ _ _ _ _ _ _ _ _ w hT zm zt zr zs p1 p2 p2' hq hd hx hs hy
              · exact sback_yn2 m t r n k s l y _ _ _ _ _ _ _ _ _ w hT zm zt zr zs p1 p1' p2 hq hd hx hs hy
              · exact sback_yy2 m t r n k s l y _ _ _ _ _ _ _ _ _ w hT zm zt zr zs p1 p1' p2 p2' hq hd hx hs hy
            · obtain ⟨-, -, -, e3⟩ := sta_yes (bs s) hso
              obtain ⟨el, hm, hin⟩ := sta_is (bs s) hso
              have hb : slB (staM (bs s)) (staN (bs s)) (staR (bs s)) = true := by
                unfold slB okMinor
                rw [sInI_nat, hin]
                have : decide (((staM (bs s) : Nat) : Int) = 0 ∨ ((staM (bs s) : Nat) : Int) = 1) = true := by
                  rw [decide_eq_true_eq]; omega
                rw [this]; rfl
              obtain ⟨e1, e2⟩ := sl_yes hb
              rw [e1, e2, Int.toNat_natCast, Int.toNat_natCast, ← el, mkS_bs] at hy
              rw [e3] at hs
              rcases p1 with p1 | ⟨p1, p1'⟩ <;> rcases p2 with p2 | ⟨p2, p2'⟩
              · exact sback_nn1 m t r n k s l y _ _ _ _ _ _ _ w hT zm zt zr zs p1 p2 hq hd hx hs hy
              · exact sback_ny1 m t r n k s l y _ _ _ _ _ _ _ w hT zm zt zr zs p1 p2 p2' hq hd hx hs hy
              · exact sback_yn1 m t r n k s l y _ _ _ _ _ _ _ w hT zm zt zr zs p1 p1' p2 hq hd hx hs hy
              · exact sback_yy1 m t r n k s l y _ _ _ _ _ _ _ w hT zm zt zr zs p1 p1' p2 p2' hq hd hx hs hy
        · exact sback_big m t r n k s w (.inr (.inr (.inr ⟨zs, zm, zt, zr⟩)))
      · exact sback_big m t r n k s w (.inr (.inr (.inl ⟨zs, zm, zt⟩)))
    · exact sback_big m t r n k s w (.inr (.inl ⟨zs, zm⟩))
  · exact sback_big m t r n k s w (.inl zs)
end Tk
end Go.Proofs.YtliinjibnikfgaaDoor
