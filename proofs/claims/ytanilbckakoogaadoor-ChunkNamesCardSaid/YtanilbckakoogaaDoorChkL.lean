/- chunk: Feed, whole; of a nil decoder; the chapter's example; the roomy limits. -/
import Derived.Test.YtanilbckakoogaaDoorChkJ
import Derived.Test.YtanilbckakoogaaDoorFldN
namespace Go.Proofs.YtanilbckakoogaaDoor
open Go.RowKit
namespace Tk

def FeedPost (B b : Nat) (s : Dc) (l : Bs) (vl vb vt : Value) (w : World) (e : Ending) (w' : World) : Prop :=
  e = .returned (.tuple #[.int .i64 (feedD s l).1, .int .i64 (feedD s l).2.bad]) ∧ DecTo B b (feedD s l).2 vl vb vt w w'
theorem feed_any {B b : Nat} {s : Dc} {vl vb vt : Value} (t : ByteArray) {w : World} (h : Dec B b s vl vb vt w) (n : Nat) (hf : s.Fit n) (hn : n + t.size ≤ 1048575) (hl : Lim s) (hv : ErrV B w) :
    Calls Tryd.prog 38 #[ptr b, .string t] w (FeedPost B b s (bs t) vl vb vt w) := by
  by_cases hb : s.bad = 0
  · exact feed_go t h n hf hn hl hv hb
  · refine (feed_flaw t h hb).mono ?_
    rintro e w' ⟨rfl, hw⟩
    unfold FeedPost
    rw [feed_bad s (bs t) hb]
    exact ⟨rfl, _, _, _, h.below hw, Turn.of hw⟩

set_option maxHeartbeats 2000000 in
set_option maxRecDepth 100000 in
theorem feed_nil (t : ByteArray) (w : World) :
    Calls Tryd.prog 38 #[.pointer none, .string t] w fun e w' => e = .returned (.tuple #[.int .i64 0, .int .i64 400]) ∧ Below w.heap.size w w' := by
  go_enter_defers Tryd.func38, Tryd.ntmps38
  go_wp2_with fail
  refine (made_nil _).mono ?_
  rintro e w' ⟨rfl, rfl⟩
  go_wp2_with fail
  simp [bodyPostD, Leaves, results, Tryd.results38, go_sem]
  exact (((Below.refl _ _).alloc (Nat.le_refl _) _).alloc (by simp) _)

set_option maxHeartbeats 1000000 in
set_option maxRecDepth 100000 in
theorem roomy_any (w : World) :
    Calls Tryd.prog 37 #[] w fun e w' => e = .returned (.agg #[.int .i64 200, .int .i64 1000, .int .i64 30, .int .i64 1000]) ∧ Below w.heap.size w w' := by
  go_enter Tryd.func37, Tryd.ntmps37
  go_wp2
  refine bodyPost_ret (v := .agg #[.int .i64 200, .int .i64 1000, .int .i64 30, .int .i64 1000]) ?_ rfl ⟨rfl, ?_⟩
  · simp [results, Tryd.results37, go_sem]
  · first | exact Below.refl _ _ | exact (Below.refl _ _).alloc (Nat.le_refl _) _

theorem DecTo.below {B b : Nat} {s s' : Dc} {vl vb vt : Value} {w w' : World} (hd : Dec B b s vl vb vt w) (h : DecTo B b s' vl vb vt w w') : Below B w w' := by
  obtain ⟨_, _, _, _, ht⟩ := h
  exact ht.toBelow hd

def livesB : Bs := [51, 13, 10, 97, 98, 99, 13, 10, 48, 13, 10, 13, 10, 120]
set_option maxRecDepth 100000 in
theorem lives_feed : (feedD roomD livesB).1 = 13 ∧ (feedD roomD livesB).2.bad = 0 ∧ (feedD roomD livesB).2.mode = 5 ∧ (feedD roomD livesB).2.body = [97, 98, 99] := by decide +kernel
theorem room_lim : Lim roomD := by unfold Lim; decide

set_option maxHeartbeats 4000000 in
set_option maxRecDepth 100000 in
theorem lives05_any (w : World) (hv : ErrV w.heap.size w) :
    Calls Tryd.prog 34 #[] w (Yes2 w) := by
  have HV := Lib.hid hv
  obtain ⟨q1, q2, q3, q4⟩ := lives_feed
  clear hv
  go_enter Tryd.func34, Tryd.ntmps34
  go_wp2_with fail
  refine (roomy_any _).mono ?_
  rintro e w1 ⟨rfl, hb1⟩
  have HB1 := Lib.hid hb1
  clear hb1
  go_wp2_with fail
  refine (new_any 200 1000 30 1000 200 1000 30 1000 w.heap.size w1 HB1.out.size rfl rfl rfl rfl).mono ?_
  rintro e w2 ⟨b, rfl, hb, hd, hbel⟩
  have HB2 := Lib.hid (HB1.out.trans (hbel.mono HB1.out.size))
  have HD2 := Lib.hid (show Dec w.heap.size b roomD (.slice none 0 0) (.slice none 0 0) (.slice none 0 0) w2 from hd)
  clear hd hb hbel
  unfold ptr
  go_wp2_with fail
  refine (feed_any ⟨#[51, 13, 10, 97, 98, 99, 13, 10, 48, 13, 10, 13, 10, 120]⟩ HD2.out 0 (newD_fit 200 1000 30 1000) (by decide) room_lim (HV.out.later HB2.out)).mono ?_
  unfold FeedPost
  rw [show bs ⟨#[51, 13, 10, 97, 98, 99, 13, 10, 48, 13, 10, 13, 10, 120]⟩ = livesB from rfl, q1, q2]
  rintro e w3 ⟨rfl, hd3⟩
  have HB3 := Lib.hid (HB2.out.trans (DecTo.below HD2.out hd3))
  obtain ⟨v1, v2, v3, hd, -⟩ := hd3
  have HD3 := Lib.hid hd
  have D := Lib.hid (done_yes hd q3)
  have HBd := Lib.hid (body_any hd)
  rw [q4] at HBd
  have hbq : ((mkS [97, 98, 99]).toList == ([97, 98, 99] : List UInt8)) = true := by decide +kernel
  clear hd q1 q2 q3 q4
  go_wp2_with fail
  refine D.out.mono ?_
  rintro e w4 ⟨rfl, rfl⟩
  go_wp2_with fail
  refine HBd.out.mono ?_
  rintro e w5 ⟨rfl, rfl⟩
  go_wp2_with fail
  go_ret
  exact ⟨rfl, HB3.out⟩
end Tk
end Go.Proofs.YtanilbckakoogaaDoor
