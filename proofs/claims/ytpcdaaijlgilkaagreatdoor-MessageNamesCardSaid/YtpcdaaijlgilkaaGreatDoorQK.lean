/- TnP RmK MsgTR StaG MsgXp, put together. -/
import Derived.Test.YtpcdaaijlgilkaaGreatDoorQJ
import Derived.Test.YtpcdaaijlgilkaaGreatDoorQI
import Derived.WalkSmall
import Derived.Lib.AppendIntMem
import Derived.Lib.ItoaMem
import Derived.Deep.RegionHeld3
namespace Go.Proofs.YtpcdaaijlgilkaaGreatDoor
namespace Tk

def q0 (a : List Bs) : Pr := { newP 200 1000 30 1000 true with asked := a }
def metB (h : Bool) : Bs := if h then [72, 69, 65, 68] else [71, 69, 84]
def earB : Bs := [72, 84, 84, 80, 47, 49, 46, 49, 32, 49, 48, 51, 32, 69, 97, 114, 108, 121, 13, 10, 13, 10]
def clB : Bs := [13, 10, 67, 111, 110, 116, 101, 110, 116, 45, 76, 101, 110, 103, 116, 104, 58, 32, 50, 13, 10, 13, 10]
def xyB (h : Bool) : Bs := if h then [] else [120, 121]
def stB : Bs := [72, 84, 84, 80, 47, 49, 46, 49, 32, 50, 48, 48, 32]
def finB (i : Nat) (h : Bool) : Bs := stB ++ digN i ++ clB ++ xyB h
def earO (e : Bool) : Bs := if e then earB else []
/-- all from the i-th on -/
def turnB : Nat → List (Bool × Bool) → Bs
  | _, [] => []
  | i, (h, e) :: t => earO e ++ (finB i h ++ turnB (i + 1) t)

theorem feed_whole {s : Pr} {a : Bs} (b : Bs) (h1 : (feedP s a).1 = a.length) (h2 : (feedP s a).2.mode = 7) : feedP s (a ++ b) = (a.length, (feedP s a).2) := by
  rw [feedP_append, h1, feedP_stop _ b (by unfold stopP; simp [h2])]
  rfl
set_option maxRecDepth 100000 in
theorem ear_of (h : Bool) (tl : List Bs) : (feedP (q0 (metB h :: tl)) earB).1 = earB.length ∧ (feedP (q0 (metB h :: tl)) earB).2.mode = 7 ∧ (feedP (q0 (metB h :: tl)) earB).2.bad = 0 ∧ (feedP (q0 (metB h :: tl)) earB).2.msg.st = 103 := by
  cases h <;> (refine ⟨?_, ?_, ?_, ?_⟩ <;> kernel_rfl)
set_option maxRecDepth 100000 in
theorem fin_of (i : Nat) (hi : i < 8) (h : Bool) (tl : List Bs) : (feedP (q0 (metB h :: tl)) (finB i h)).1 = (finB i h).length ∧ (feedP (q0 (metB h :: tl)) (finB i h)).2.mode = 7 ∧ (feedP (q0 (metB h :: tl)) (finB i h)).2.bad = 0 ∧ (feedP (q0 (metB h :: tl)) (finB i h)).2.msg.st = 200 ∧ (feedP (q0 (metB h :: tl)) (finB i h)).2.msg.r = digN i ∧ (feedP (q0 (metB h :: tl)) (finB i h)).2.msg.body = xyB h := by
  rcases (show i = 0 ∨ i = 1 ∨ i = 2 ∨ i = 3 ∨ i = 4 ∨ i = 5 ∨ i = 6 ∨ i = 7 by omega) with rfl | rfl | rfl | rfl | rfl | rfl | rfl | rfl
  all_goals
    cases h
    all_goals refine ⟨?_, ?_, ?_, ?_, ?_, ?_⟩ <;> kernel_rfl
theorem q0_ok (a : List Bs) : (q0 a).Ok 0 := by
  have h := new_ok 200 1000 30 1000 true (by unfold LimP; decide)
  obtain ⟨o1, o2, o3, o4, o5, o6⟩ := h.ord
  exact ⟨{ h.fit with rsp := fun _ _ => trivial }, ⟨o1, o2, o3, o4, o5, o6⟩, h.lim⟩
theorem fresh_ear {s : Pr} (x : Bs) (tl : List Bs) (l : Bs) (h : s = (feedP (q0 (x :: tl)) l).2) (h2 : s.msg.st < 200) : s.fresh = q0 (x :: tl) := by
  obtain ⟨a1, a2, a3, a4, a5, a6⟩ := feedP_lim l (q0 (x :: tl))
  rw [← h] at a1 a2 a3 a4 a5 a6
  unfold Pr.fresh
  rw [a1, a2, a3, a4, a5, a6, decide_eq_false (by omega)]; rfl
theorem fresh_fin {s : Pr} (x : Bs) (tl : List Bs) (l : Bs) (h : s = (feedP (q0 (x :: tl)) l).2) (h2 : 200 ≤ s.msg.st) : s.fresh = q0 tl := by
  obtain ⟨a1, a2, a3, a4, a5, a6⟩ := feedP_lim l (q0 (x :: tl))
  rw [← h] at a1 a2 a3 a4 a5 a6
  unfold Pr.fresh
  rw [a1, a2, a3, a4, a5, a6, decide_eq_true (by omega)]; rfl
theorem earO_len (e : Bool) : (earO e).length ≤ 22 := by cases e <;> decide
theorem finB_len (i : Nat) (h : Bool) : (finB i h).length ≤ 40 := by
  unfold finB digN
  cases h <;> (split <;> simp [stB, clB, xyB])
theorem turnB_len : ∀ (t : List (Bool × Bool)) (i : Nat), (turnB i t).length ≤ 62 * t.length
  | [], _ => by simp [turnB]
  | (h, e) :: t, i => by
    have h1 := turnB_len t (i + 1)
    have h2 := earO_len e
    have h3 := finB_len i h
    unfold turnB
    simp only [List.length_append, List.length_cons]
    omega
theorem turnB_snoc : ∀ (t : List (Bool × Bool)) (i : Nat) (h e : Bool), turnB i (t ++ [(h, e)]) = turnB i t ++ (earO e ++ finB (i + t.length) h)
  | [], i, h, e => by simp [turnB]
  | (h1, e1) :: t, i, h, e => by
    have := turnB_snoc t (i + 1) h e
    simp only [List.cons_append, turnB, this, List.length_cons, List.append_assoc]
    rw [show i + 1 + t.length = i + (t.length + 1) by omega]
end Tk
end Go.Proofs.YtpcdaaijlgilkaaGreatDoor
namespace Go.Proofs.YtpcdaaijlgilkaaGreatDoor
open Go.RowKit
namespace Tk

set_option maxRecDepth 100000 in
set_option maxHeartbeats 2000000 in
theorem times_rep (s : Bs) (N : Nat) (w : World) (hN : N ≤ 60) (hs : s.length ≤ 6) :
    Calls Tryz.prog 25 #[.string (mkS s), .int .i64 N] w fun r w' => r = .returned (.string (mkS (rep N s))) ∧ w = w' := by
  have e0 : Hid (mkS s = mkS (rep 1 s)) := Lib.hid (by simp [rep])
  rw [e0.out]
  clear e0
  go_enter Tryz.func25, Tryz.ntmps25
  go_wp2_with fail
  go_loop [0, 1, 5] (fun vs vn vo => ∃ (p n a : Nat), p ≤ 2 * N + 1 ∧ Hid (a + p * n = N) ∧ n ≤ N ∧ a ≤ N ∧ vs = .string (mkS (rep p s)) ∧ vn = .int .i64 n ∧ vo = .string (mkS (rep a s))) (fun _ vn _ => (RowKit.intOf vn).toNat)
  case atStart => exact ⟨1, N, 0, by omega, by show _ = _; omega, by omega, by omega, rfl, rfl, rfl⟩
  case round =>
    obtain ⟨p, n, a, hp, hsum, hn, ha, rfl, rfl, rfl⟩ := hrel
    have b1 : p * s.length ≤ 121 * 6 := Nat.mul_le_mul (by omega) hs
    have b2 : a * s.length ≤ 60 * 6 := Nat.mul_le_mul (by omega) hs
    have z1 : (mkS (rep p s)).size = p * s.length := by rw [size_mkS, rep_len]
    have z2 : (mkS (rep a s)).size = a * s.length := by rw [size_mkS, rep_len]
    have hz : (mkS (rep p s)).size + (mkS (rep p s)).size ≤ 9223372036854775807 := by rw [z1]; omega
    have hz2 : (mkS (rep a s)).size + (mkS (rep p s)).size ≤ 9223372036854775807 := by rw [z1, z2]; omega
    have a1 : mkS (rep p s) ++ mkS (rep p s) = mkS (rep (2 * p) s) := by rw [mkS_append, ← rep_add, Nat.two_mul]
    have a2 : mkS (rep a s) ++ mkS (rep p s) = mkS (rep (a + p) s) := by rw [mkS_append, ← rep_add]
    have A1 := Lib.hid a1
    have A2 := Lib.hid a2
    clear a1 a2 z1 z2 b1 b2
    by_cases h0 : n = 0
    · subst h0
      have e : a = N := by have := hsum.out; omega
      subst e
      go_wp2_with fail
      go_ret
      exact ⟨rfl, rfl⟩
    · have hpn : p * n ≤ N := by have := hsum.out; omega
      have hp2 : p ≤ N := Nat.le_trans (Nat.le_mul_of_pos_right p (by omega)) hpn
      by_cases hodd : n % 2 = 1
      · have t : ((n : Int) % 2 == 1) = true := by rw [beq_iff_eq]; omega
        have e : a + p + 2 * p * (n / 2) = N := by
          have h1 := hsum.out
          have h2 : n = 2 * (n / 2) + 1 := by omega
          generalize n / 2 = h at *
          subst h2
          rw [Nat.mul_add, Nat.mul_one] at h1
          rw [Nat.mul_comm 2 p, Nat.mul_assoc]
          omega
        have E := Lib.hid e
        have hap : a + p ≤ N := by omega
        clear e hodd hpn
        go_wp2_with fail
        go_round
        case rel => exact ⟨2 * p, n / 2, a + p, by omega, E, by omega, hap, congrArg Value.string A1.out, by go_num, congrArg Value.string A2.out⟩
        case measure => simp [RowKit.intOf]; omega
      · have t : ((n : Int) % 2 == 1) = false := by rw [beq_eq_false_iff_ne]; omega
        have e : a + 2 * p * (n / 2) = N := by
          have h1 := hsum.out
          have h2 : n = 2 * (n / 2) := by omega
          generalize n / 2 = h at *
          subst h2
          rw [Nat.mul_comm 2 p, Nat.mul_assoc]
          exact h1
        have E := Lib.hid e
        clear e hodd hpn
        go_wp2_with fail
        go_round
        case rel => exact ⟨2 * p, n / 2, a, by omega, E, by omega, ha, congrArg Value.string A1.out, by go_num, rfl⟩
        case measure => simp [RowKit.intOf]; omega

theorem dig_at : ∀ n, n < 10 → (⟨#[48, 49, 50, 51, 52, 53, 54, 55, 56, 57]⟩ : ByteArray).extract n (n + 1) = mkS (digN n) := by
  intro n hn
  rcases (show n = 0 ∨ n = 1 ∨ n = 2 ∨ n = 3 ∨ n = 4 ∨ n = 5 ∨ n = 6 ∨ n = 7 ∨ n = 8 ∨ n = 9 by omega) with rfl | rfl | rfl | rfl | rfl | rfl | rfl | rfl | rfl | rfl
  all_goals kernel_rfl
theorem digN_two (n : Nat) (h : 10 ≤ n) (h2 : n < 100) : digN n = digN (n / 10) ++ digN (n % 10) := by
  unfold digN
  rw [if_neg (by omega), if_pos (by omega), if_pos (by omega)]
  rfl
theorem digN_le (n : Nat) : (digN n).length ≤ 2 := by unfold digN; split <;> simp
set_option maxRecDepth 100000 in
set_option maxHeartbeats 2000000 in
theorem digit1_any (n : Nat) (w : World) (h : n < 10) :
    Calls Tryz.prog 26 #[.int .i64 n] w fun r w' => r = .returned (.string (mkS (digN n))) ∧ w = w' := by
  have hd := dig_at n h
  have HD := Lib.hid hd
  have i0 : (n : Int) < 10 := by omega
  have i1 : max 0 (n : Int) = (n : Int) := by omega
  have i2 : (0 : Int) ≤ (n : Int) := by omega
  have i3 : (n : Int) + 1 ≤ 10 := by omega
  clear hd
  go_enter Tryz.func26, Tryz.ntmps26
  go_wp2_with fail
  go_ret
  exact ⟨by rw [← HD.out]; rfl, rfl⟩
set_option maxRecDepth 100000 in
set_option maxHeartbeats 2000000 in
theorem digits_any (n : Nat) (w : World) (h : n < 100) :
    Calls Tryz.prog 26 #[.int .i64 n] w fun r w' => r = .returned (.string (mkS (digN n))) ∧ w = w' := by
  by_cases h10 : n < 10
  · exact digit1_any n w h10
  · have H1 := Lib.hid (fun W : World => digit1_any (n / 10) W (by omega))
    have H2 := Lib.hid (fun W : World => digit1_any (n % 10) W (by omega))
    have he := digN_two n (by omega) h
    have hz : (mkS (digN (n / 10))).size + (mkS (digN (n % 10))).size ≤ 9223372036854775807 := by
      rw [size_mkS, size_mkS]; have := digN_le (n / 10); have := digN_le (n % 10); omega
    have HE := Lib.hid (show mkS (digN (n / 10)) ++ mkS (digN (n % 10)) = mkS (digN n) by rw [mkS_append, he])
    have i0 : ¬ (n : Int) < 10 := by omega
    have e1 : (n : Int) / 10 = ((n / 10 : Nat) : Int) := by omega
    have e2 : (n : Int) % 10 = ((n % 10 : Nat) : Int) := by omega
    have i4 : (10 : Int) ≤ (n : Int) := by omega
    have i5 : (n : Int) < 100 := by omega
    clear he
    obtain ⟨a, ha⟩ : ∃ a, a = n / 10 := ⟨_, rfl⟩
    obtain ⟨b, hb⟩ : ∃ b, b = n % 10 := ⟨_, rfl⟩
    rw [← ha] at H1 HE hz e1
    rw [← hb] at H2 HE hz e2
    obtain ⟨da, hda⟩ : ∃ d, d = mkS (digN a) := ⟨_, rfl⟩
    obtain ⟨db, hdb⟩ : ∃ d, d = mkS (digN b) := ⟨_, rfl⟩
    rw [← hda] at H1 HE hz
    rw [← hdb] at H2 HE hz
    clear ha hb hda hdb h h10
    go_enter Tryz.func26, Tryz.ntmps26
    go_wp2_with fail
    refine (H1.out _).mono ?_
    rintro e w1 ⟨rfl, rfl⟩
    go_wp2_with fail
    refine (H2.out _).mono ?_
    rintro e w1 ⟨rfl, rfl⟩
    go_wp2_with fail
    go_ret
    exact ⟨by rw [← HE.out]; rfl, rfl⟩
end Tk
end Go.Proofs.YtpcdaaijlgilkaaGreatDoor
namespace Go.Proofs.YtpcdaaijlgilkaaGreatDoor
open Go.RowKit
namespace Tk

variable {B b : Nat} {s : Pr} {q z lf : Nat} {V : PV} {w : World}
set_option maxHeartbeats 4000000 in
set_option maxRecDepth 100000 in
theorem pparserS_any (L H C M : Int) (l h c m : Nat) (B : Nat) (w : World) (hB : B ≤ w.heap.size) (hl : max L 0 = l) (hh : max H 0 = h) (hc : max C 0 = c) (hm : max M 0 = m) :
    Calls Tryz.prog 27 #[.agg #[.int .i64 L, .int .i64 H, .int .i64 C, .int .i64 M], .bool true] w fun e w' => ∃ b V, e = .returned (ptr b) ∧ w.heap.size ≤ b ∧ Sync B b (newP l h c m true) V w' ∧ V.m = .slice none 0 0 ∧ Below w.heap.size w w' := by
  have hbegin : ∀ W, Par B (w.heap.size + 1) { L := l, H := h, C := c, M := m, rsp := true, mode := 7 } 7 0 0 (pvNil (.slice none 0 0)) W → Calls Tryz.prog 34 #[.pointer (some ⟨w.heap.size + 1, 0, none⟩)] W fun e w' => e = .returned (.tuple #[]) ∧ Par B (w.heap.size + 1) (newP l h c m true) 2 0 0 (pvNil (.slice none 0 0)) w' ∧ PTn (w.heap.size + 1) (pvNil (.slice none 0 0)) (pvNil (.slice none 0 0)) (fun _ => False) W w' := fun W hp => pbegin_any hp
  have HBg := Lib.hid hbegin
  clear hbegin
  go_enter Tryz.func27, Tryz.ntmps27
  go_wp2_with fail
  refine (HBg.out _ ?_).mono ?_
  · have hblk := heap_alloc_last (w.alloc (.cells #[.int .i64 L, .int .i64 H, .int .i64 C, .int .i64 M] 24)) (.cells (pcells (w.heap.size + 1) { L := l, H := h, C := c, M := m, rsp := true, mode := 7 } 7 0 0 (pvNil (.slice none 0 0))) 72)
    rw [show (w.alloc (.cells #[.int .i64 L, .int .i64 H, .int .i64 C, .int .i64 M] 24)).heap.size = w.heap.size + 1 by simp] at hblk
    exact ⟨by omega, hblk, Meth.nil _ _, World.ownsRow_nil _ _ _ _, World.ownsRow_nil _ _ _ _, World.ownsRow_nil _ _ _ _, World.ownsRow_nil _ _ _ _, (fun k hk => by cases hk), (fun k hk => by cases hk), (fun hm => by cases hm), (by rintro k ⟨bd, hd, -⟩; cases hd), (by rintro k ⟨bd, hd, -⟩; cases hd)⟩
  rintro e w2 ⟨rfl, hp, ht⟩
  go_wp2_with fail
  go_ret
  refine ⟨w.heap.size + 1, pvNil (.slice none 0 0), rfl, by omega, ⟨2, by omega, fun _ => rfl, hp⟩, rfl, ?_⟩
  refine (((Below.refl _ _).alloc (Nat.le_refl _) _).alloc (by simp) _).trans ⟨ht.os, ht.tape, ht.output, ht.size, fun k hk => ht.block k (by simp at hk ⊢; omega) ?_ (fun e => e)⟩
  rintro ((e | e | e | e | e | e) | ⟨bd, hd, -⟩)
  · omega
  all_goals first | (cases e; done) | (cases hd; done)
set_option maxHeartbeats 1000000 in
set_option maxRecDepth 100000 in
theorem presponses_any (L H C M : Int) (l h c m : Nat) (B : Nat) (w : World) (hB : B ≤ w.heap.size) (hl : max L 0 = l) (hh : max H 0 = h) (hc : max C 0 = c) (hm : max M 0 = m) :
    Calls Tryz.prog 14 #[.agg #[.int .i64 L, .int .i64 H, .int .i64 C, .int .i64 M]] w fun e w' => ∃ b V, e = .returned (ptr b) ∧ w.heap.size ≤ b ∧ Sync B b (newP l h c m true) V w' ∧ V.m = .slice none 0 0 ∧ Below w.heap.size w w' := by
  have hb0 : Below w.heap.size w (w.alloc (.cells #[.int .i64 L, .int .i64 H, .int .i64 C, .int .i64 M] 24)) := (Below.refl _ _).alloc (Nat.le_refl _) _
  have HP := Lib.hid (pparserS_any L H C M l h c m B (w.alloc (.cells #[.int .i64 L, .int .i64 H, .int .i64 C, .int .i64 M] 24)) (Nat.le_trans hB hb0.size) hl hh hc hm)
  have HB0 := Lib.hid hb0
  clear hb0 hB hl hh hc hm
  go_enter Tryz.func14, Tryz.ntmps14
  go_wp2_with fail
  refine HP.out.mono ?_
  rintro e w2 ⟨b, V, rfl, h1, h2, h4, h3⟩
  unfold ptr
  go_wp2
  go_ret
  exact ⟨b, V, rfl, Nat.le_trans HB0.out.size h1, h2, h4, HB0.out.trans (h3.mono HB0.out.size)⟩

set_option maxHeartbeats 4000000 in
set_option maxRecDepth 100000 in
/-- a parser of responses begins anew, and nothing but its block is turned -/
theorem pbeginS_any (h : Par B b s q z lf V w) (hr : s.rsp = true) :
    Calls Tryz.prog 34 #[ptr b] w fun e w' => e = .returned (.tuple #[]) ∧ Par B b (zeroP s) 2 z 0 (pvNil V.m) w' ∧ PTn b V (pvNil V.m) (fun _ => False) w w' ∧ (∀ k, k ≠ b → w'.heap[k]? = w.heap[k]?) := by
  have hblk := h.blk
  have ht := there_of_blk hblk 8 16 (by show 24 ≤ 24; omega)
  have hB2 := setCells_blk b 72 (zeroL 0) 8 w _ hblk (by show 24 ≤ 24; omega)
  have c5 : (w.setCells b 8 (zeroL 0)).cell? ⟨b, 5, none⟩ = some (.bool s.rsp) := by rw [Lib.cell_of_heap hB2]; rfl
  have c8 : (w.setCells b 8 (zeroL 0)).cell? ⟨b, 8, none⟩ = some (pstV 0) := by rw [Lib.cell_of_heap hB2]; rfl
  have f8 : (w.setCells b 8 (zeroL 0)).frozen? ⟨b, 8, none⟩ = false := Lib.frozen_of_heap hB2 8
  have hq := setCells_rest b (zeroL 0) 8 w
  have hoth := setCells_other b (zeroL 0) 8 w
  have HQ := Lib.hid hq
  have HO := Lib.hid hoth
  have HB2 := Lib.hid hB2
  have H := Lib.hid h
  have HT := Lib.hid ht
  clear h hq hoth hB2 hblk ht
  generalize hW : w.setCells b 8 (zeroL 0) = W1 at *
  have HW := Lib.hid hW
  unfold ptr
  unfold pstV at c8
  clear hW
  rw [hr] at c5
  have HR := Lib.hid hr
  clear hr
  go_enter Tryz.func34, Tryz.ntmps34
  go_wp2_with (refine wpList_store_to rfl 70 _ _ rfl b 8 (zeroL 0).toArray rfl rfl HT.out (by kernel_rfl) (all_oneCell_toArray (List.all_eq_true.1 (show (zeroL 0).all (·.oneCell') = true from rfl))) HW.out ?_)
  refine bodyPost_end (v := .tuple #[]) ?_ rfl ?_
  · simp [results, Tryz.results34, go_sem]
  · show _ ∧ _
    have hp := fun h1 h2 h3 h4 => H.out.renew (X := fun _ => False) (w' := W1.setCell ⟨b, 8, none⟩ (.func (.func 41) #[] #[])) h1 h2 h3 h4
    rw [HR.out] at hp
    simp only [if_true] at hp
    have hk : ∀ k, k ≠ b → (W1.setCell ⟨b, 8, none⟩ (.func (.func 41) #[] #[])).heap[k]? = w.heap[k]? := fun k hk => (Below.heap_setCell _ _ _ _ hk).trans (HO.out k hk)
    have hp2 := hp hk (by simp; exact HQ.out.1) HQ.out.2 ((heap_setCell_same _ b 8 _ _ _ HB2.out).trans (by unfold pcells zeroP pvNil; rw [HR.out]; rfl))
    exact ⟨rfl, hp2.1, hp2.2, hk⟩

theorem NxPost.ofS {Vm : Value} {s2 : Pr} {wB wC : World} (h : Par B b s 7 0 s.left V w) (hz : zeroP s2 = s.fresh) (hr2 : s2.rsp = true) (hmb : Vm.ownBlock = V.m.ownBlock) (h1 : Par B b (zeroP s2) 2 0 0 (pvNil Vm) wB) (h2 : PTn b V (pvNil Vm) (fun _ => False) w wB) (h3 : ∀ k, k < w.heap.size → k ≠ b → wB.heap[k]? = w.heap[k]?) (hC : Below w.heap.size wB wC) : NxPost B b s V w wC := by
  obtain ⟨n1, n2, n3, n4, n5⟩ := h.neB
  have hmine : ∀ k, PMine b (pvNil Vm) k → k = b ∨ V.m.ownBlock = some k := by
    rintro k ((e | e | e | e | e | e) | ⟨bd, hd, -⟩)
    · exact .inl e
    · exact .inr (hmb ▸ e)
    all_goals first | (cases e; done) | (cases hd; done)
  have hml : ∀ k, PMine b (pvNil Vm) k → k < w.heap.size := fun k hk => by
    rcases hmine k hk with rfl | hk
    · exact h.lt
    · exact (h.meth.lt k hk).2
  refine ⟨pvNil Vm, ⟨2, by omega, fun _ => ?_, ?_⟩, ⟨hC.os.trans h2.os, hC.tape.trans h2.tape, hC.output.trans h2.output, Nat.le_trans h2.size hC.size, fun k hk hm hx => (hC.block k hk).trans (h2.block k hk hm hx), h2.new⟩, fun k hk => ⟨fun hm => ?_, ?_⟩⟩
  · rw [← hz]; unfold zeroP; rw [hr2]; rfl
  · have e1 : s.fresh.bad = 0 := rfl
    have e2 : s.fresh.left = 0 := rfl
    rw [e1, e2, ← hz]
    exact h1.same hC.size fun k hk => hC.block k (hml k hk)
  · rcases hmine k hm with rfl | e
    · rcases hk with hk | hk
      · exact n3 hk
      · exact n4 hk
    · rcases hk with hk | hk
      · exact Meth.ne2 h.flds h.meth (by decide) k e hk
      · exact Meth.ne2 h.trl h.meth (by decide) k e hk
  · have hkl : k < w.heap.size := by rcases hk with hk | hk; exact (h.flds.lt k hk).2; exact (h.trl.lt k hk).2
    refine (hC.block k hkl).trans (h3 k hkl ?_)
    rintro rfl; rcases hk with hk | hk
    · exact n3 hk
    · exact n4 hk
/-- the first method is dropped -/
theorem Par.popMeth {X : Nat → Prop} (h : Par B b s q z lf V w) {x : Bs} {t : List Bs} (_ha : s.asked = x :: t) {v' : Value} (hb : v'.ownBlock = V.m.ownBlock) (hm : Meth w B v' t) :
    Par B b { s with asked := t } q z lf { V with m := v' } (w.setCell ⟨b, 6, none⟩ v') ∧ PTn b V { V with m := v' } X w (w.setCell ⟨b, 6, none⟩ v') := by
  obtain ⟨n1, n2, n3, n4, n5⟩ := h.neB
  have hne : ∀ k, k ≠ b → (w.setCell ⟨b, 6, none⟩ v').heap[k]? = w.heap[k]? := fun k hk => Below.heap_setCell _ _ _ _ hk
  have hOwn : ∀ k, OwnP b { V with m := v' } k → OwnP b V k := by
    rintro k (e | e | e | e | e | e)
    · exact .inl e
    · exact .inr (.inl (hb ▸ e))
    · exact .inr (.inr (.inl e))
    · exact .inr (.inr (.inr (.inl e)))
    · exact .inr (.inr (.inr (.inr (.inl e))))
    · exact .inr (.inr (.inr (.inr (.inr e))))
  refine ⟨⟨h.hB, ?_, Meth.heap hm fun k e => hne k (fun e2 => n1 (by rw [← hb, ← e2]; exact e)), own_heap h.line fun k e => hne k (fun e2 => n2 (e2 ▸ e)), own_heap h.flds fun k e => hne k (fun e2 => n3 (e2 ▸ e)), own_heap h.trl fun k e => hne k (fun e2 => n4 (e2 ▸ e)), own_heap h.body fun k e => hne k (fun e2 => n5 (e2 ▸ e)), h.lb, h.ft, ?_, fun k e => ⟨(h.dlt k e).1, by have := (h.dlt k e).2; simpa using this⟩, fun k e ho => h.apd k e (hOwn k ho)⟩, ⟨rfl, rfl, rfl, by simp, fun k _ hmi _ => hne k (fun e => hmi (.inl (.inl e))), fun k hk => ?_⟩⟩
  · rw [heap_setCell_same w b 6 _ _ _ h.blk]; rfl
  · intro hm6
    obtain ⟨bd, d1, d2, d3⟩ := h.dec hm6
    exact ⟨bd, d1, d2, d3.same fun k e => hne k (fun e2 => h.apd k ⟨bd, d2, e⟩ (.inl e2))⟩
  · rcases hk with hk | hk
    · exact .inl (.inl (hOwn k hk))
    · exact .inl (.inr hk)
set_option maxHeartbeats 4000000 in
set_option maxRecDepth 100000 in
theorem pnextE_any (h : Sync B b s V w) (hr : s.rsp = true) (hst : s.msg.st < 200) (hw : waitP s = true) :
    Calls Tryz.prog 17 #[ptr b] w fun e w' => e = .returned (.tuple #[.agg (msgL s.msg V.f V.t).toArray, .bool true]) ∧ NxPost B b s V w w' := by
  obtain ⟨q, hq, hqm, h⟩ := h
  have hb0 : s.bad = 0 := by unfold waitP at hw; simp at hw; exact hw.2
  have hm7 : s.mode = 7 := by unfold waitP at hw; simp at hw; exact hw.1
  have hq7 : q = 7 := (hqm hb0).trans hm7
  subst hq7
  rw [hb0] at h
  obtain ⟨Z, hZ⟩ : ∃ Z, Z = w.alloc (.cells nxZ.toArray 32) := ⟨_, rfl⟩
  have hZb : Below w.heap.size w Z := by rw [hZ]; exact (Below.refl _ _).alloc (Nat.le_refl _) _
  have HM := Lib.hid (pmade_any (h.below hZb))
  have HW := Lib.hid (pwaits_any (h.below hZb) (Nat.le_refl 7))
  have HZ := Lib.hid hZ
  have HZb := Lib.hid hZb
  have HBg := Lib.hid (fun (W : World) (hb : Below w.heap.size w W) => pbeginS_any (h.below hb) hr)
  have H := Lib.hid h
  replace h := h.below hZb
  have hlt := h.lt
  have hlt1 : b ≠ Z.heap.size := by omega
  have hlt2 : Z.heap.size ≠ b := by omega
  have c5 : Z.cell? ⟨b, 5, none⟩ = some (.bool s.rsp) := h.cell 5 _ rfl
  rw [hr] at c5
  have c12 : Z.cell? ⟨b, 12, none⟩ = some (.string (mkS s.msg.m)) := h.cell 12 _ rfl
  have c13 : Z.cell? ⟨b, 13, none⟩ = some (.string (mkS s.msg.t)) := h.cell 13 _ rfl
  have c14 : Z.cell? ⟨b, 14, none⟩ = some (.int .i64 s.msg.st) := h.cell 14 _ rfl
  have c15 : Z.cell? ⟨b, 15, none⟩ = some (.string (mkS s.msg.r)) := h.cell 15 _ rfl
  have c16 : Z.cell? ⟨b, 16, none⟩ = some (.int .i64 s.msg.mi) := h.cell 16 _ rfl
  have c17 : Z.cell? ⟨b, 17, none⟩ = some V.f := h.cell 17 _ rfl
  have c18 : Z.cell? ⟨b, 18, none⟩ = some (.string (mkS s.msg.body)) := h.cell 18 _ rfl
  have c19 : Z.cell? ⟨b, 19, none⟩ = some V.t := h.cell 19 _ rfl
  obtain ⟨a1, k1, hvf⟩ : ∃ a c, V.f = .slice a s.msg.f.length c := by obtain ⟨a, c, hv, -⟩ := isFlds_own h.flds; exact ⟨a, c, hv⟩
  obtain ⟨a2, k2, hvt⟩ : ∃ a c, V.t = .slice a s.msg.tr.length c := by obtain ⟨a, c, hv, -⟩ := isFlds_own h.trl; exact ⟨a, c, hv⟩
  have HVf := Lib.hid hvf
  have HVt := Lib.hid hvt
  rw [hvf] at c17
  rw [hvt] at c19
  have HR := Lib.hid (⟨hr, hb0, hm7, hst⟩ : _ ∧ _ ∧ _ ∧ _)
  have i200 : ¬ (200 : Int) ≤ (s.msg.st : Int) := by omega
  have HE : Hid (msgL s.msg V.f V.t = [.string (mkS s.msg.m), .string (mkS s.msg.t), .int .i64 s.msg.st, .string (mkS s.msg.r), .int .i64 s.msg.mi, .slice a1 s.msg.f.length k1, .string (mkS s.msg.body), .slice a2 s.msg.tr.length k2]) := Lib.hid (by unfold msgL; rw [hvf, hvt])
  clear h hr hst hb0 hm7 hw hqm hq hvf hvt hZb
  rw [HE.out]
  clear HE
  generalize mkS s.msg.m = x0 at *
  generalize mkS s.msg.t = x1 at *
  generalize mkS s.msg.r = x3 at *
  generalize mkS s.msg.body = x6 at *
  generalize s.msg.f.length = n1 at *
  generalize s.msg.tr.length = n2 at *
  unfold ptr at *
  go_enter Tryz.func17, Tryz.ntmps17
  go_wp2_with fail
  rw [show w.alloc (.cells #[.string ⟨#[]⟩, .string ⟨#[]⟩, .int .i64 0, .string ⟨#[]⟩, .int .i64 0, .slice none 0 0, .string ⟨#[]⟩, .slice none 0 0] 32) = Z from hZ.symm]
  clear hZ
  refine HM.out.mono ?_
  rintro e w' ⟨rfl, rfl⟩
  go_wp2_with fail
  refine HW.out.mono ?_
  rintro e w' ⟨rfl, rfl⟩
  go_wp2_with fail
  have hA : Below w.heap.size w (w'.alloc (.cells #[.string x0, .string x1, .int .i64 s.msg.st, .string x3, .int .i64 s.msg.mi, .slice a1 n1 k1, .string x6, .slice a2 n2 k2] 32)) := HZb.out.alloc HZb.out.size _
  refine (HBg.out _ hA).mono ?_
  rintro e w2 ⟨rfl, hp, ht, hk⟩
  have hblk := (hk w'.heap.size hlt2).trans (heap_alloc_last w' _)
  have d0 : w2.cell? ⟨w'.heap.size, 0, none⟩ = some (.string x0) := by rw [Lib.cell_of_heap hblk]; rfl
  have d1 : w2.cell? ⟨w'.heap.size, 1, none⟩ = some (.string x1) := by rw [Lib.cell_of_heap hblk]; rfl
  have d2 : w2.cell? ⟨w'.heap.size, 2, none⟩ = some (.int .i64 s.msg.st) := by rw [Lib.cell_of_heap hblk]; rfl
  have d3 : w2.cell? ⟨w'.heap.size, 3, none⟩ = some (.string x3) := by rw [Lib.cell_of_heap hblk]; rfl
  have d4 : w2.cell? ⟨w'.heap.size, 4, none⟩ = some (.int .i64 s.msg.mi) := by rw [Lib.cell_of_heap hblk]; rfl
  have d5 : w2.cell? ⟨w'.heap.size, 5, none⟩ = some (.slice a1 n1 k1) := by rw [Lib.cell_of_heap hblk]; rfl
  have d6 : w2.cell? ⟨w'.heap.size, 6, none⟩ = some (.string x6) := by rw [Lib.cell_of_heap hblk]; rfl
  have d7 : w2.cell? ⟨w'.heap.size, 7, none⟩ = some (.slice a2 n2 k2) := by rw [Lib.cell_of_heap hblk]; rfl
  have hwb : w.heap.size ≠ b := fun e => by have := H.out.lt; omega
  have hzs : w.heap.size ≠ w'.heap.size := fun e => by rw [HZ.out] at e; simp at e
  have hblk0 : w2.heap[w.heap.size]? = some (.cells nxZ.toArray 32 (0, 0)) := by
    have h0 : w'.heap[w.heap.size]? = some (.cells nxZ.toArray 32 (0, 0)) := by rw [HZ.out]; exact heap_alloc_last w _
    exact (hk _ hwb).trans ((Below.heap_alloc _ _ _ (Array.getElem?_eq_some_iff.1 h0).1).trans h0)
  have g0 : w2.cell? ⟨w.heap.size, 0, none⟩ = some (.string ⟨#[]⟩) := by rw [Lib.cell_of_heap hblk0]; rfl
  have g1 : w2.cell? ⟨w.heap.size, 1, none⟩ = some (.string ⟨#[]⟩) := by rw [Lib.cell_of_heap hblk0]; rfl
  have g2 : w2.cell? ⟨w.heap.size, 2, none⟩ = some (.int .i64 0) := by rw [Lib.cell_of_heap hblk0]; rfl
  have g3 : w2.cell? ⟨w.heap.size, 3, none⟩ = some (.string ⟨#[]⟩) := by rw [Lib.cell_of_heap hblk0]; rfl
  have g4 : w2.cell? ⟨w.heap.size, 4, none⟩ = some (.int .i64 0) := by rw [Lib.cell_of_heap hblk0]; rfl
  have g5 : w2.cell? ⟨w.heap.size, 5, none⟩ = some (.slice none 0 0) := by rw [Lib.cell_of_heap hblk0]; rfl
  have g6 : w2.cell? ⟨w.heap.size, 6, none⟩ = some (.string ⟨#[]⟩) := by rw [Lib.cell_of_heap hblk0]; rfl
  have g7 : w2.cell? ⟨w.heap.size, 7, none⟩ = some (.slice none 0 0) := by rw [Lib.cell_of_heap hblk0]; rfl
  have z0 := Lib.frozen_of_heap hblk0 0
  have z1 := Lib.frozen_of_heap hblk0 1
  have z2 := Lib.frozen_of_heap hblk0 2
  have z3 := Lib.frozen_of_heap hblk0 3
  have z4 := Lib.frozen_of_heap hblk0 4
  have z5 := Lib.frozen_of_heap hblk0 5
  have z6 := Lib.frozen_of_heap hblk0 6
  have z7 := Lib.frozen_of_heap hblk0 7
  have hBl : Below w.heap.size w2 (w2.setCells w.heap.size 0 [.string x0, .string x1, .int .i64 s.msg.st, .string x3, .int .i64 s.msg.mi, .slice a1 n1 k1, .string x6, .slice a2 n2 k2]) := by
    obtain ⟨r1, r2, r3, r4⟩ := setCells_rest w.heap.size [.string x0, .string x1, .int .i64 s.msg.st, .string x3, .int .i64 s.msg.mi, .slice a1 n1 k1, .string x6, .slice a2 n2 k2] 0 w2
    exact ⟨r2, r3, r4, Nat.le_of_eq r1.symm, fun k hk => setCells_other _ _ 0 w2 k (by omega)⟩
  have hzf : zeroP s = s.fresh := by unfold zeroP Pr.fresh; rw [HR.out.1, HR.out.2.1, decide_eq_false (by have := HR.out.2.2.2; omega)]; rfl
  have HN := Lib.hid (NxPost.ofS H.out hzf HR.out.1 rfl hp ((PTn.of (b := b) (V := V) (X := fun _ => False) hA).trans ht) (fun k hk1 hk2 => (hk k hk2).trans (hA.block k hk1)) hBl)
  have hPut := setCells_blk w.heap.size 32 [.string x0, .string x1, .int .i64 s.msg.st, .string x3, .int .i64 s.msg.mi, .slice a1 n1 k1, .string x6, .slice a2 n2 k2] 0 w2 _ hblk0 (by show 8 ≤ 8; omega)
  have y0 : (w2.setCells w.heap.size 0 [.string x0, .string x1, .int .i64 s.msg.st, .string x3, .int .i64 s.msg.mi, .slice a1 n1 k1, .string x6, .slice a2 n2 k2]).cell? ⟨w.heap.size, 0, none⟩ = some (.string x0) := by rw [Lib.cell_of_heap hPut]; rfl
  have y1 : (w2.setCells w.heap.size 0 [.string x0, .string x1, .int .i64 s.msg.st, .string x3, .int .i64 s.msg.mi, .slice a1 n1 k1, .string x6, .slice a2 n2 k2]).cell? ⟨w.heap.size, 1, none⟩ = some (.string x1) := by rw [Lib.cell_of_heap hPut]; rfl
  have y2 : (w2.setCells w.heap.size 0 [.string x0, .string x1, .int .i64 s.msg.st, .string x3, .int .i64 s.msg.mi, .slice a1 n1 k1, .string x6, .slice a2 n2 k2]).cell? ⟨w.heap.size, 2, none⟩ = some (.int .i64 s.msg.st) := by rw [Lib.cell_of_heap hPut]; rfl
  have y3 : (w2.setCells w.heap.size 0 [.string x0, .string x1, .int .i64 s.msg.st, .string x3, .int .i64 s.msg.mi, .slice a1 n1 k1, .string x6, .slice a2 n2 k2]).cell? ⟨w.heap.size, 3, none⟩ = some (.string x3) := by rw [Lib.cell_of_heap hPut]; rfl
  have y4 : (w2.setCells w.heap.size 0 [.string x0, .string x1, .int .i64 s.msg.st, .string x3, .int .i64 s.msg.mi, .slice a1 n1 k1, .string x6, .slice a2 n2 k2]).cell? ⟨w.heap.size, 4, none⟩ = some (.int .i64 s.msg.mi) := by rw [Lib.cell_of_heap hPut]; rfl
  have y5 : (w2.setCells w.heap.size 0 [.string x0, .string x1, .int .i64 s.msg.st, .string x3, .int .i64 s.msg.mi, .slice a1 n1 k1, .string x6, .slice a2 n2 k2]).cell? ⟨w.heap.size, 5, none⟩ = some (.slice a1 n1 k1) := by rw [Lib.cell_of_heap hPut]; rfl
  have y6 : (w2.setCells w.heap.size 0 [.string x0, .string x1, .int .i64 s.msg.st, .string x3, .int .i64 s.msg.mi, .slice a1 n1 k1, .string x6, .slice a2 n2 k2]).cell? ⟨w.heap.size, 6, none⟩ = some (.string x6) := by rw [Lib.cell_of_heap hPut]; rfl
  have y7 : (w2.setCells w.heap.size 0 [.string x0, .string x1, .int .i64 s.msg.st, .string x3, .int .i64 s.msg.mi, .slice a1 n1 k1, .string x6, .slice a2 n2 k2]).cell? ⟨w.heap.size, 7, none⟩ = some (.slice a2 n2 k2) := by rw [Lib.cell_of_heap hPut]; rfl
  have HW9 := Lib.hid (rfl : w2.setCells w.heap.size 0 [.string x0, .string x1, .int .i64 s.msg.st, .string x3, .int .i64 s.msg.mi, .slice a1 n1 k1, .string x6, .slice a2 n2 k2] = w2.setCells w.heap.size 0 [.string x0, .string x1, .int .i64 s.msg.st, .string x3, .int .i64 s.msg.mi, .slice a1 n1 k1, .string x6, .slice a2 n2 k2])
  clear hA hp ht hk hblk hblk0 hBl hPut c5 c12 c13 c14 c15 c16 c17 c18 c19
  generalize hW9 : w2.setCells w.heap.size 0 [.string x0, .string x1, .int .i64 s.msg.st, .string x3, .int .i64 s.msg.mi, .slice a1 n1 k1, .string x6, .slice a2 n2 k2] = W9 at y0 y1 y2 y3 y4 y5 y6 y7 HN
  have HW8 := Lib.hid hW9
  clear hW9 HW9
  go_wp2_with fail
  refine bodyPost_at (W := W9) HW8.out ?_
  refine bodyPost_ret (v := .tuple #[.agg #[.string x0, .string x1, .int .i64 s.msg.st, .string x3, .int .i64 s.msg.mi, .slice a1 n1 k1, .string x6, .slice a2 n2 k2], .bool true]) ?_ rfl ⟨rfl, HN.out⟩
  simp [results, Tryz.results17, go_sem, y0, y1, y2, y3, y4, y5, y6, y7]
set_option maxHeartbeats 4000000 in
set_option maxRecDepth 100000 in
theorem pnextL_any (h : Sync B b s V w) (hr : s.rsp = true) {x : Bs} {tl : List Bs} (ha : s.asked = x :: tl) (hst : 200 ≤ s.msg.st) (hw : waitP s = true) :
    Calls Tryz.prog 17 #[ptr b] w fun e w' => e = .returned (.tuple #[.agg (msgL s.msg V.f V.t).toArray, .bool true]) ∧ NxPost B b s V w w' := by
  obtain ⟨q, hq, hqm, h⟩ := h
  have hb0 : s.bad = 0 := by unfold waitP at hw; simp at hw; exact hw.2
  have hm7 : s.mode = 7 := by unfold waitP at hw; simp at hw; exact hw.1
  have hq7 : q = 7 := (hqm hb0).trans hm7
  subst hq7
  rw [hb0] at h
  obtain ⟨Z, hZ⟩ : ∃ Z, Z = w.alloc (.cells nxZ.toArray 32) := ⟨_, rfl⟩
  have hZb : Below w.heap.size w Z := by rw [hZ]; exact (Below.refl _ _).alloc (Nat.le_refl _) _
  have HM := Lib.hid (pmade_any (h.below hZb))
  have HW := Lib.hid (pwaits_any (h.below hZb) (Nat.le_refl 7))
  have HZ := Lib.hid hZ
  have HZb := Lib.hid hZb
  have HBg := Lib.hid (fun (W : World) (V2 : PV) (h2 : Par B b { s with asked := tl } 7 0 s.left V2 W) => pbeginS_any h2 hr)
  have H := Lib.hid h
  replace h := h.below hZb
  have hlt := h.lt
  have hlt1 : b ≠ Z.heap.size := by omega
  have hlt2 : Z.heap.size ≠ b := by omega
  have c5 : Z.cell? ⟨b, 5, none⟩ = some (.bool s.rsp) := h.cell 5 _ rfl
  rw [hr] at c5
  have c12 : Z.cell? ⟨b, 12, none⟩ = some (.string (mkS s.msg.m)) := h.cell 12 _ rfl
  have c13 : Z.cell? ⟨b, 13, none⟩ = some (.string (mkS s.msg.t)) := h.cell 13 _ rfl
  have c14 : Z.cell? ⟨b, 14, none⟩ = some (.int .i64 s.msg.st) := h.cell 14 _ rfl
  have c15 : Z.cell? ⟨b, 15, none⟩ = some (.string (mkS s.msg.r)) := h.cell 15 _ rfl
  have c16 : Z.cell? ⟨b, 16, none⟩ = some (.int .i64 s.msg.mi) := h.cell 16 _ rfl
  have c17 : Z.cell? ⟨b, 17, none⟩ = some V.f := h.cell 17 _ rfl
  have c18 : Z.cell? ⟨b, 18, none⟩ = some (.string (mkS s.msg.body)) := h.cell 18 _ rfl
  have c19 : Z.cell? ⟨b, 19, none⟩ = some V.t := h.cell 19 _ rfl
  obtain ⟨a1, k1, hvf⟩ : ∃ a c, V.f = .slice a s.msg.f.length c := by obtain ⟨a, c, hv, -⟩ := isFlds_own h.flds; exact ⟨a, c, hv⟩
  obtain ⟨a2, k2, hvt⟩ : ∃ a c, V.t = .slice a s.msg.tr.length c := by obtain ⟨a, c, hv, -⟩ := isFlds_own h.trl; exact ⟨a, c, hv⟩
  have HVf := Lib.hid hvf
  have HVt := Lib.hid hvt
  rw [hvf] at c17
  rw [hvt] at c19
  have HR := Lib.hid (⟨hr, hb0, hm7, hst, ha⟩ : _ ∧ _ ∧ _ ∧ _ ∧ _)
  have i200 : (200 : Int) ≤ (s.msg.st : Int) := by omega
  have hme := h.meth
  rw [ha] at hme
  obtain ⟨mg, mo, mc, hmv, hmc, -, hmt⟩ := hme.cons
  have c6 : Z.cell? ⟨b, 6, none⟩ = some (.slice (some ⟨mg, mo, none⟩) (tl.length + 1) mc) := by rw [← hmv]; exact h.cell 6 _ rfl
  have f6 := h.frz 6
  have HMv := Lib.hid (⟨hmv, hmc, hmt⟩ : _ ∧ _ ∧ _)
  have HE : Hid (msgL s.msg V.f V.t = [.string (mkS s.msg.m), .string (mkS s.msg.t), .int .i64 s.msg.st, .string (mkS s.msg.r), .int .i64 s.msg.mi, .slice a1 s.msg.f.length k1, .string (mkS s.msg.body), .slice a2 s.msg.tr.length k2]) := Lib.hid (by unfold msgL; rw [hvf, hvt])
  clear h hr ha hst hme hmv hmc hmt hb0 hm7 hw hqm hq hvf hvt hZb
  rw [HE.out]
  clear HE
  generalize mkS s.msg.m = x0 at *
  generalize mkS s.msg.t = x1 at *
  generalize mkS s.msg.r = x3 at *
  generalize mkS s.msg.body = x6 at *
  generalize s.msg.f.length = n1 at *
  generalize s.msg.tr.length = n2 at *
  unfold ptr at *
  go_enter Tryz.func17, Tryz.ntmps17
  go_wp2_with fail
  rw [show w.alloc (.cells #[.string ⟨#[]⟩, .string ⟨#[]⟩, .int .i64 0, .string ⟨#[]⟩, .int .i64 0, .slice none 0 0, .string ⟨#[]⟩, .slice none 0 0] 32) = Z from hZ.symm]
  clear hZ
  refine HM.out.mono ?_
  rintro e w' ⟨rfl, rfl⟩
  go_wp2_with fail
  refine HW.out.mono ?_
  rintro e w' ⟨rfl, rfl⟩
  have HFa := Lib.hid (show ∀ (o2 c2 : Nat), c2 = mc - 1 → (mc - 1 ≠ 0 → o2 = mo + 1) → Par B b { s with asked := tl } 7 0 s.left { V with m := .slice (some ⟨mg, o2, none⟩) tl.length c2 } (w'.setCell ⟨b, 6, none⟩ (.slice (some ⟨mg, o2, none⟩) tl.length c2)) ∧ PTn b V { V with m := .slice (some ⟨mg, o2, none⟩) tl.length c2 } (fun _ => False) w' (w'.setCell ⟨b, 6, none⟩ (.slice (some ⟨mg, o2, none⟩) tl.length c2)) ∧ (Value.slice (some ⟨mg, o2, none⟩) tl.length c2).ownBlock = V.m.ownBlock from fun o2 c2 hc2 ho2 => by
    have hbo : (Value.slice (some ⟨mg, o2, none⟩) tl.length c2).ownBlock = V.m.ownBlock := by rw [HMv.out.1]; rfl
    have hm := HMv.out.2.2 o2 ho2
    rw [← hc2] at hm
    have hpop := (H.out.below HZb.out).popMeth (X := fun _ => False) HR.out.2.2.2.2 hbo hm
    exact ⟨hpop.1, hpop.2, hbo⟩)
  have HSz := Lib.hid (show ∀ v : Value, (w'.setCell ⟨b, 6, none⟩ v).heap.size = w'.heap.size ∧ ∀ k, k ≠ b → (w'.setCell ⟨b, 6, none⟩ v).heap[k]? = w'.heap[k]? from fun v => ⟨by simp, fun k hk => Below.heap_setCell _ _ _ _ hk⟩)
  have hi1 : (1 : Int) ≤ ((tl.length : Int) + 1) := by omega
  by_cases hc0 : mc = 1
  · go_wp2_with fail
    obtain ⟨hpo, hto, hbo⟩ := HFa.out mo 0 (by omega) (fun h => absurd (show mc - 1 = 0 by omega) h)
    obtain ⟨hz1, hz2⟩ := HSz.out (.slice (some ⟨mg, mo, none⟩) tl.length 0)
    generalize w'.setCell ⟨b, 6, none⟩ (.slice (some ⟨mg, mo, none⟩) tl.length 0) = Wp at *
    generalize (Value.slice (some ⟨mg, mo, none⟩) tl.length 0) = vm at *
    have hAl : Below Wp.heap.size Wp (Wp.alloc (.cells #[.string x0, .string x1, .int .i64 s.msg.st, .string x3, .int .i64 s.msg.mi, .slice a1 n1 k1, .string x6, .slice a2 n2 k2] 32)) := (Below.refl _ _).alloc (Nat.le_refl _) _
    refine (HBg.out _ _ (hpo.below hAl)).mono ?_
    rintro e w2 ⟨rfl, hp, ht, hk⟩
    have hblk : w2.heap[w'.heap.size]? = some (.cells #[.string x0, .string x1, .int .i64 s.msg.st, .string x3, .int .i64 s.msg.mi, .slice a1 n1 k1, .string x6, .slice a2 n2 k2] 32 (0, 0)) := (hk w'.heap.size hlt2).trans (by rw [← hz1]; exact heap_alloc_last Wp _)
    have d0 : w2.cell? ⟨w'.heap.size, 0, none⟩ = some (.string x0) := by rw [Lib.cell_of_heap hblk]; rfl
    have d1 : w2.cell? ⟨w'.heap.size, 1, none⟩ = some (.string x1) := by rw [Lib.cell_of_heap hblk]; rfl
    have d2 : w2.cell? ⟨w'.heap.size, 2, none⟩ = some (.int .i64 s.msg.st) := by rw [Lib.cell_of_heap hblk]; rfl
    have d3 : w2.cell? ⟨w'.heap.size, 3, none⟩ = some (.string x3) := by rw [Lib.cell_of_heap hblk]; rfl
    have d4 : w2.cell? ⟨w'.heap.size, 4, none⟩ = some (.int .i64 s.msg.mi) := by rw [Lib.cell_of_heap hblk]; rfl
    have d5 : w2.cell? ⟨w'.heap.size, 5, none⟩ = some (.slice a1 n1 k1) := by rw [Lib.cell_of_heap hblk]; rfl
    have d6 : w2.cell? ⟨w'.heap.size, 6, none⟩ = some (.string x6) := by rw [Lib.cell_of_heap hblk]; rfl
    have d7 : w2.cell? ⟨w'.heap.size, 7, none⟩ = some (.slice a2 n2 k2) := by rw [Lib.cell_of_heap hblk]; rfl
    have hwb : w.heap.size ≠ b := fun e => by have := H.out.lt; omega
    have hzs : w.heap.size ≠ w'.heap.size := fun e => by rw [HZ.out] at e; simp at e
    have hblk0 : w2.heap[w.heap.size]? = some (.cells nxZ.toArray 32 (0, 0)) := by
      have h0 : w'.heap[w.heap.size]? = some (.cells nxZ.toArray 32 (0, 0)) := by rw [HZ.out]; exact heap_alloc_last w _
      exact (hk _ hwb).trans ((Below.heap_alloc _ _ _ (by rw [hz1]; exact (Array.getElem?_eq_some_iff.1 h0).1)).trans ((hz2 _ hwb).trans h0))
    have g0 : w2.cell? ⟨w.heap.size, 0, none⟩ = some (.string ⟨#[]⟩) := by rw [Lib.cell_of_heap hblk0]; rfl
    have g1 : w2.cell? ⟨w.heap.size, 1, none⟩ = some (.string ⟨#[]⟩) := by rw [Lib.cell_of_heap hblk0]; rfl
    have g2 : w2.cell? ⟨w.heap.size, 2, none⟩ = some (.int .i64 0) := by rw [Lib.cell_of_heap hblk0]; rfl
    have g3 : w2.cell? ⟨w.heap.size, 3, none⟩ = some (.string ⟨#[]⟩) := by rw [Lib.cell_of_heap hblk0]; rfl
    have g4 : w2.cell? ⟨w.heap.size, 4, none⟩ = some (.int .i64 0) := by rw [Lib.cell_of_heap hblk0]; rfl
    have g5 : w2.cell? ⟨w.heap.size, 5, none⟩ = some (.slice none 0 0) := by rw [Lib.cell_of_heap hblk0]; rfl
    have g6 : w2.cell? ⟨w.heap.size, 6, none⟩ = some (.string ⟨#[]⟩) := by rw [Lib.cell_of_heap hblk0]; rfl
    have g7 : w2.cell? ⟨w.heap.size, 7, none⟩ = some (.slice none 0 0) := by rw [Lib.cell_of_heap hblk0]; rfl
    have z0 := Lib.frozen_of_heap hblk0 0
    have z1 := Lib.frozen_of_heap hblk0 1
    have z2 := Lib.frozen_of_heap hblk0 2
    have z3 := Lib.frozen_of_heap hblk0 3
    have z4 := Lib.frozen_of_heap hblk0 4
    have z5 := Lib.frozen_of_heap hblk0 5
    have z6 := Lib.frozen_of_heap hblk0 6
    have z7 := Lib.frozen_of_heap hblk0 7
    have hBl : Below w.heap.size w2 (w2.setCells w.heap.size 0 [.string x0, .string x1, .int .i64 s.msg.st, .string x3, .int .i64 s.msg.mi, .slice a1 n1 k1, .string x6, .slice a2 n2 k2]) := by
      obtain ⟨r1, r2, r3, r4⟩ := setCells_rest w.heap.size [.string x0, .string x1, .int .i64 s.msg.st, .string x3, .int .i64 s.msg.mi, .slice a1 n1 k1, .string x6, .slice a2 n2 k2] 0 w2
      exact ⟨r2, r3, r4, Nat.le_of_eq r1.symm, fun k hk => setCells_other _ _ 0 w2 k (by omega)⟩
    have hzf : zeroP { s with asked := tl } = s.fresh := by unfold zeroP Pr.fresh; rw [HR.out.1, HR.out.2.1, HR.out.2.2.2.2, decide_eq_true (by have := HR.out.2.2.2.1; omega)]; rfl
    have HN := Lib.hid (NxPost.ofS H.out hzf HR.out.1 hbo hp ((((PTn.of (b := b) (V := V) (X := fun _ => False) HZb.out).trans hto).trans (PTn.of hAl)).trans ht) (fun k hk1 hk2 => ((hk k hk2).trans (hAl.block k (by rw [hz1]; exact Nat.lt_of_lt_of_le hk1 HZb.out.size))).trans ((hz2 k hk2).trans (HZb.out.block k hk1))) hBl)
    have hPut := setCells_blk w.heap.size 32 [.string x0, .string x1, .int .i64 s.msg.st, .string x3, .int .i64 s.msg.mi, .slice a1 n1 k1, .string x6, .slice a2 n2 k2] 0 w2 _ hblk0 (by show 8 ≤ 8; omega)
    have y0 : (w2.setCells w.heap.size 0 [.string x0, .string x1, .int .i64 s.msg.st, .string x3, .int .i64 s.msg.mi, .slice a1 n1 k1, .string x6, .slice a2 n2 k2]).cell? ⟨w.heap.size, 0, none⟩ = some (.string x0) := by rw [Lib.cell_of_heap hPut]; rfl
    have y1 : (w2.setCells w.heap.size 0 [.string x0, .string x1, .int .i64 s.msg.st, .string x3, .int .i64 s.msg.mi, .slice a1 n1 k1, .string x6, .slice a2 n2 k2]).cell? ⟨w.heap.size, 1, none⟩ = some (.string x1) := by rw [Lib.cell_of_heap hPut]; rfl
    have y2 : (w2.setCells w.heap.size 0 [.string x0, .string x1, .int .i64 s.msg.st, .string x3, .int .i64 s.msg.mi, .slice a1 n1 k1, .string x6, .slice a2 n2 k2]).cell? ⟨w.heap.size, 2, none⟩ = some (.int .i64 s.msg.st) := by rw [Lib.cell_of_heap hPut]; rfl
    have y3 : (w2.setCells w.heap.size 0 [.string x0, .string x1, .int .i64 s.msg.st, .string x3, .int .i64 s.msg.mi, .slice a1 n1 k1, .string x6, .slice a2 n2 k2]).cell? ⟨w.heap.size, 3, none⟩ = some (.string x3) := by rw [Lib.cell_of_heap hPut]; rfl
    have y4 : (w2.setCells w.heap.size 0 [.string x0, .string x1, .int .i64 s.msg.st, .string x3, .int .i64 s.msg.mi, .slice a1 n1 k1, .string x6, .slice a2 n2 k2]).cell? ⟨w.heap.size, 4, none⟩ = some (.int .i64 s.msg.mi) := by rw [Lib.cell_of_heap hPut]; rfl
    have y5 : (w2.setCells w.heap.size 0 [.string x0, .string x1, .int .i64 s.msg.st, .string x3, .int .i64 s.msg.mi, .slice a1 n1 k1, .string x6, .slice a2 n2 k2]).cell? ⟨w.heap.size, 5, none⟩ = some (.slice a1 n1 k1) := by rw [Lib.cell_of_heap hPut]; rfl
    have y6 : (w2.setCells w.heap.size 0 [.string x0, .string x1, .int .i64 s.msg.st, .string x3, .int .i64 s.msg.mi, .slice a1 n1 k1, .string x6, .slice a2 n2 k2]).cell? ⟨w.heap.size, 6, none⟩ = some (.string x6) := by rw [Lib.cell_of_heap hPut]; rfl
    have y7 : (w2.setCells w.heap.size 0 [.string x0, .string x1, .int .i64 s.msg.st, .string x3, .int .i64 s.msg.mi, .slice a1 n1 k1, .string x6, .slice a2 n2 k2]).cell? ⟨w.heap.size, 7, none⟩ = some (.slice a2 n2 k2) := by rw [Lib.cell_of_heap hPut]; rfl
    have HW9 := Lib.hid (rfl : w2.setCells w.heap.size 0 [.string x0, .string x1, .int .i64 s.msg.st, .string x3, .int .i64 s.msg.mi, .slice a1 n1 k1, .string x6, .slice a2 n2 k2] = w2.setCells w.heap.size 0 [.string x0, .string x1, .int .i64 s.msg.st, .string x3, .int .i64 s.msg.mi, .slice a1 n1 k1, .string x6, .slice a2 n2 k2])
    clear hAl hpo hto hbo hz1 hz2 hzf hp ht hk hblk hblk0 hBl hPut c5 c6 f6 c12 c13 c14 c15 c16 c17 c18 c19
    generalize hW9 : w2.setCells w.heap.size 0 [.string x0, .string x1, .int .i64 s.msg.st, .string x3, .int .i64 s.msg.mi, .slice a1 n1 k1, .string x6, .slice a2 n2 k2] = W9 at y0 y1 y2 y3 y4 y5 y6 y7 HN
    have HW8 := Lib.hid hW9
    clear hW9 HW9
    go_wp2_with fail
    refine bodyPost_at (W := W9) HW8.out ?_
    refine bodyPost_ret (v := .tuple #[.agg #[.string x0, .string x1, .int .i64 s.msg.st, .string x3, .int .i64 s.msg.mi, .slice a1 n1 k1, .string x6, .slice a2 n2 k2], .bool true]) ?_ rfl ⟨rfl, HN.out⟩
    simp [results, Tryz.results17, go_sem, y0, y1, y2, y3, y4, y5, y6, y7]
  · go_wp2_with fail
    obtain ⟨hpo, hto, hbo⟩ := HFa.out (mo + 1) (mc - 1) rfl (fun _ => rfl)
    obtain ⟨hz1, hz2⟩ := HSz.out (.slice (some ⟨mg, mo + 1, none⟩) tl.length (mc - 1))
    generalize w'.setCell ⟨b, 6, none⟩ (.slice (some ⟨mg, mo + 1, none⟩) tl.length (mc - 1)) = Wp at *
    generalize (Value.slice (some ⟨mg, mo + 1, none⟩) tl.length (mc - 1)) = vm at *
    have hAl : Below Wp.heap.size Wp (Wp.alloc (.cells #[.string x0, .string x1, .int .i64 s.msg.st, .string x3, .int .i64 s.msg.mi, .slice a1 n1 k1, .string x6, .slice a2 n2 k2] 32)) := (Below.refl _ _).alloc (Nat.le_refl _) _
    refine (HBg.out _ _ (hpo.below hAl)).mono ?_
    rintro e w2 ⟨rfl, hp, ht, hk⟩
    have hblk : w2.heap[w'.heap.size]? = some (.cells #[.string x0, .string x1, .int .i64 s.msg.st, .string x3, .int .i64 s.msg.mi, .slice a1 n1 k1, .string x6, .slice a2 n2 k2] 32 (0, 0)) := (hk w'.heap.size hlt2).trans (by rw [← hz1]; exact heap_alloc_last Wp _)
    have d0 : w2.cell? ⟨w'.heap.size, 0, none⟩ = some (.string x0) := by rw [Lib.cell_of_heap hblk]; rfl
    have d1 : w2.cell? ⟨w'.heap.size, 1, none⟩ = some (.string x1) := by rw [Lib.cell_of_heap hblk]; rfl
    have d2 : w2.cell? ⟨w'.heap.size, 2, none⟩ = some (.int .i64 s.msg.st) := by rw [Lib.cell_of_heap hblk]; rfl
    have d3 : w2.cell? ⟨w'.heap.size, 3, none⟩ = some (.string x3) := by rw [Lib.cell_of_heap hblk]; rfl
    have d4 : w2.cell? ⟨w'.heap.size, 4, none⟩ = some (.int .i64 s.msg.mi) := by rw [Lib.cell_of_heap hblk]; rfl
    have d5 : w2.cell? ⟨w'.heap.size, 5, none⟩ = some (.slice a1 n1 k1) := by rw [Lib.cell_of_heap hblk]; rfl
    have d6 : w2.cell? ⟨w'.heap.size, 6, none⟩ = some (.string x6) := by rw [Lib.cell_of_heap hblk]; rfl
    have d7 : w2.cell? ⟨w'.heap.size, 7, none⟩ = some (.slice a2 n2 k2) := by rw [Lib.cell_of_heap hblk]; rfl
    have hwb : w.heap.size ≠ b := fun e => by have := H.out.lt; omega
    have hzs : w.heap.size ≠ w'.heap.size := fun e => by rw [HZ.out] at e; simp at e
    have hblk0 : w2.heap[w.heap.size]? = some (.cells nxZ.toArray 32 (0, 0)) := by
      have h0 : w'.heap[w.heap.size]? = some (.cells nxZ.toArray 32 (0, 0)) := by rw [HZ.out]; exact heap_alloc_last w _
      exact (hk _ hwb).trans ((Below.heap_alloc _ _ _ (by rw [hz1]; exact (Array.getElem?_eq_some_iff.1 h0).1)).trans ((hz2 _ hwb).trans h0))
    have g0 : w2.cell? ⟨w.heap.size, 0, none⟩ = some (.string ⟨#[]⟩) := by rw [Lib.cell_of_heap hblk0]; rfl
    have g1 : w2.cell? ⟨w.heap.size, 1, none⟩ = some (.string ⟨#[]⟩) := by rw [Lib.cell_of_heap hblk0]; rfl
    have g2 : w2.cell? ⟨w.heap.size, 2, none⟩ = some (.int .i64 0) := by rw [Lib.cell_of_heap hblk0]; rfl
    have g3 : w2.cell? ⟨w.heap.size, 3, none⟩ = some (.string ⟨#[]⟩) := by rw [Lib.cell_of_heap hblk0]; rfl
    have g4 : w2.cell? ⟨w.heap.size, 4, none⟩ = some (.int .i64 0) := by rw [Lib.cell_of_heap hblk0]; rfl
    have g5 : w2.cell? ⟨w.heap.size, 5, none⟩ = some (.slice none 0 0) := by rw [Lib.cell_of_heap hblk0]; rfl
    have g6 : w2.cell? ⟨w.heap.size, 6, none⟩ = some (.string ⟨#[]⟩) := by rw [Lib.cell_of_heap hblk0]; rfl
    have g7 : w2.cell? ⟨w.heap.size, 7, none⟩ = some (.slice none 0 0) := by rw [Lib.cell_of_heap hblk0]; rfl
    have z0 := Lib.frozen_of_heap hblk0 0
    have z1 := Lib.frozen_of_heap hblk0 1
    have z2 := Lib.frozen_of_heap hblk0 2
    have z3 := Lib.frozen_of_heap hblk0 3
    have z4 := Lib.frozen_of_heap hblk0 4
    have z5 := Lib.frozen_of_heap hblk0 5
    have z6 := Lib.frozen_of_heap hblk0 6
    have z7 := Lib.frozen_of_heap hblk0 7
    have hBl : Below w.heap.size w2 (w2.setCells w.heap.size 0 [.string x0, .string x1, .int .i64 s.msg.st, .string x3, .int .i64 s.msg.mi, .slice a1 n1 k1, .string x6, .slice a2 n2 k2]) := by
      obtain ⟨r1, r2, r3, r4⟩ := setCells_rest w.heap.size [.string x0, .string x1, .int .i64 s.msg.st, .string x3, .int .i64 s.msg.mi, .slice a1 n1 k1, .string x6, .slice a2 n2 k2] 0 w2
      exact ⟨r2, r3, r4, Nat.le_of_eq r1.symm, fun k hk => setCells_other _ _ 0 w2 k (by omega)⟩
    have hzf : zeroP { s with asked := tl } = s.fresh := by unfold zeroP Pr.fresh; rw [HR.out.1, HR.out.2.1, HR.out.2.2.2.2, decide_eq_true (by have := HR.out.2.2.2.1; omega)]; rfl
    have HN := Lib.hid (NxPost.ofS H.out hzf HR.out.1 hbo hp ((((PTn.of (b := b) (V := V) (X := fun _ => False) HZb.out).trans hto).trans (PTn.of hAl)).trans ht) (fun k hk1 hk2 => ((hk k hk2).trans (hAl.block k (by rw [hz1]; exact Nat.lt_of_lt_of_le hk1 HZb.out.size))).trans ((hz2 k hk2).trans (HZb.out.block k hk1))) hBl)
    have hPut := setCells_blk w.heap.size 32 [.string x0, .string x1, .int .i64 s.msg.st, .string x3, .int .i64 s.msg.mi, .slice a1 n1 k1, .string x6, .slice a2 n2 k2] 0 w2 _ hblk0 (by show 8 ≤ 8; omega)
    have y0 : (w2.setCells w.heap.size 0 [.string x0, .string x1, .int .i64 s.msg.st, .string x3, .int .i64 s.msg.mi, .slice a1 n1 k1, .string x6, .slice a2 n2 k2]).cell? ⟨w.heap.size, 0, none⟩ = some (.string x0) := by rw [Lib.cell_of_heap hPut]; rfl
    have y1 : (w2.setCells w.heap.size 0 [.string x0, .string x1, .int .i64 s.msg.st, .string x3, .int .i64 s.msg.mi, .slice a1 n1 k1, .string x6, .slice a2 n2 k2]).cell? ⟨w.heap.size, 1, none⟩ = some (.string x1) := by rw [Lib.cell_of_heap hPut]; rfl
    have y2 : (w2.setCells w.heap.size 0 [.string x0, .string x1, .int .i64 s.msg.st, .string x3, .int .i64 s.msg.mi, .slice a1 n1 k1, .string x6, .slice a2 n2 k2]).cell? ⟨w.heap.size, 2, none⟩ = some (.int .i64 s.msg.st) := by rw [Lib.cell_of_heap hPut]; rfl
    have y3 : (w2.setCells w.heap.size 0 [.string x0, .string x1, .int .i64 s.msg.st, .string x3, .int .i64 s.msg.mi, .slice a1 n1 k1, .string x6, .slice a2 n2 k2]).cell? ⟨w.heap.size, 3, none⟩ = some (.string x3) := by rw [Lib.cell_of_heap hPut]; rfl
    have y4 : (w2.setCells w.heap.size 0 [.string x0, .string x1, .int .i64 s.msg.st, .string x3, .int .i64 s.msg.mi, .slice a1 n1 k1, .string x6, .slice a2 n2 k2]).cell? ⟨w.heap.size, 4, none⟩ = some (.int .i64 s.msg.mi) := by rw [Lib.cell_of_heap hPut]; rfl
    have y5 : (w2.setCells w.heap.size 0 [.string x0, .string x1, .int .i64 s.msg.st, .string x3, .int .i64 s.msg.mi, .slice a1 n1 k1, .string x6, .slice a2 n2 k2]).cell? ⟨w.heap.size, 5, none⟩ = some (.slice a1 n1 k1) := by rw [Lib.cell_of_heap hPut]; rfl
    have y6 : (w2.setCells w.heap.size 0 [.string x0, .string x1, .int .i64 s.msg.st, .string x3, .int .i64 s.msg.mi, .slice a1 n1 k1, .string x6, .slice a2 n2 k2]).cell? ⟨w.heap.size, 6, none⟩ = some (.string x6) := by rw [Lib.cell_of_heap hPut]; rfl
    have y7 : (w2.setCells w.heap.size 0 [.string x0, .string x1, .int .i64 s.msg.st, .string x3, .int .i64 s.msg.mi, .slice a1 n1 k1, .string x6, .slice a2 n2 k2]).cell? ⟨w.heap.size, 7, none⟩ = some (.slice a2 n2 k2) := by rw [Lib.cell_of_heap hPut]; rfl
    have HW9 := Lib.hid (rfl : w2.setCells w.heap.size 0 [.string x0, .string x1, .int .i64 s.msg.st, .string x3, .int .i64 s.msg.mi, .slice a1 n1 k1, .string x6, .slice a2 n2 k2] = w2.setCells w.heap.size 0 [.string x0, .string x1, .int .i64 s.msg.st, .string x3, .int .i64 s.msg.mi, .slice a1 n1 k1, .string x6, .slice a2 n2 k2])
    clear hAl hpo hto hbo hz1 hz2 hzf hp ht hk hblk hblk0 hBl hPut c5 c6 f6 c12 c13 c14 c15 c16 c17 c18 c19
    generalize hW9 : w2.setCells w.heap.size 0 [.string x0, .string x1, .int .i64 s.msg.st, .string x3, .int .i64 s.msg.mi, .slice a1 n1 k1, .string x6, .slice a2 n2 k2] = W9 at y0 y1 y2 y3 y4 y5 y6 y7 HN
    have HW8 := Lib.hid hW9
    clear hW9 HW9
    go_wp2_with fail
    refine bodyPost_at (W := W9) HW8.out ?_
    refine bodyPost_ret (v := .tuple #[.agg #[.string x0, .string x1, .int .i64 s.msg.st, .string x3, .int .i64 s.msg.mi, .slice a1 n1 k1, .string x6, .slice a2 n2 k2], .bool true]) ?_ rfl ⟨rfl, HN.out⟩
    simp [results, Tryz.results17, go_sem, y0, y1, y2, y3, y4, y5, y6, y7]
end Tk
end Go.Proofs.YtpcdaaijlgilkaaGreatDoor
namespace Go.Proofs.YtpcdaaijlgilkaaGreatDoor
open Go.RowKit
namespace Tk

theorem dec_dig : ∀ (k u : Nat), u ≤ k → Lib.decDigits u = digL u
  | 0, u, h => by
    rw [Lib.decDigits, digL, dif_pos (by omega), dif_pos (by omega)]
  | k + 1, u, h => by
    by_cases hu : u < 10
    · rw [Lib.decDigits, digL, dif_pos hu, dif_pos hu]
    · rw [Lib.decDigits, digL, dif_neg hu, dif_neg hu, dec_dig k (u / 10) (by omega)]

/-- the table of powers of ten lies as its initialiser lays it -/
structure Tens (w : World) : Prop where
  big : 1 < w.heap.size
  tab : Lib.TabIs Tryz.prog w "internal/strconv.uint64pow10" .u64 Lib.pow10Tab
theorem gTen : Tryz.prog.globalNamed "internal/strconv.uint64pow10" = some 1 := by kernel_rfl
theorem Tens.later {w w' : World} (h : Tens w) (hb : Below w.heap.size w w') : Tens w' :=
  ⟨Nat.lt_of_lt_of_le h.big hb.size, var?_below hb gTen h.big h.tab⟩

theorem itoa_any (n : Nat) (w : World) (hT : Tens w) (hn : n ≤ 9223372036854775807) :
    Calls Tryz.prog 58 #[.int .i64 (n : Int)] w fun e w' => e = .returned (.string (mkS (digL n))) ∧ Below w.heap.size w w' :=
  (Tryz.strconv_Itoa (n : Int) (by omega) (by omega) w hT.tab).mono fun _ _ ⟨h1, k, os, h2⟩ => ⟨by rw [h1, Lib.itoa_nonneg, dec_dig n n (Nat.le_refl _)]; rfl, h2 ▸ Lib.below_grow _ _ (Nat.le_refl _) _ _⟩

theorem vText_eq (m : Nat) (h : m = 0 ∨ m = 1) : (⟨#[72, 84, 84, 80, 47, 49, 46]⟩ : ByteArray) ++ mkS (digL m) = mkS (vText m) := by
  rw [show (⟨#[72, 84, 84, 80, 47, 49, 46]⟩ : ByteArray) = mkS [72, 84, 84, 80, 47, 49, 46] from rfl, mkS_append, digL_small m (by omega)]
  rfl

set_option maxHeartbeats 1000000 in
theorem versionText_any (m : Nat) (w : World) (h : m = 0 ∨ m = 1) :
    Calls Tryz.prog 48 #[.int .i64 (m : Int)] w fun e w' => e = .returned (.string (mkS (vText m))) ∧ w = w' := by
  have hI := Tryz.strconv_Itoa_small m (by omega) w
  rw [dec_dig m m (Nat.le_refl _)] at hI
  have hI2 : Calls Tryz.prog 58 #[.int .i64 (m : Int)] w fun e w' => e = .returned (.string (mkS (digL m))) ∧ w' = w := hI
  have HE := Lib.hid (vText_eq m h)
  have hz : (mkS (digL m)).size ≤ 10 := by
    rw [size_mkS, digL_small m (by omega)]; simp
  have HI := Lib.hid hI2
  clear hI hI2 h
  generalize mkS (digL m) = D at *
  go_enter Tryz.func48, Tryz.ntmps48
  go_wp2_with fail
  refine HI.out.mono ?_
  rintro e w' ⟨rfl, rfl⟩
  go_wp2_with fail
  go_ret
  exact ⟨by rw [← HE.out]; rfl, rfl⟩

def okMinor (n : Int) : Bool := decide (n = 0 ∨ n = 1)
theorem okMinor_of {n : Int} (h : okMinor n = true) : ∃ m : Nat, n = m ∧ (m = 0 ∨ m = 1) := by
  unfold okMinor at h
  rcases of_decide_eq_true h with rfl | rfl
  · exact ⟨0, rfl, .inl rfl⟩
  · exact ⟨1, rfl, .inr rfl⟩

def rlB (m t : Bs) (n : Int) : Bool := rIn m t && okMinor n
def rlS (m t : Bs) (n : Int) : Bs := if rlB m t n then reqLine m t n.toNat else []
def rlE (m t : Bs) (n : Int) : Int := if rlB m t n then 0 else 4
theorem rl_no {m t : Bs} {n : Int} (h : rlB m t n = false) : rlS m t n = [] ∧ rlE m t n = 4 := by unfold rlS rlE; rw [h]; exact ⟨rfl, rfl⟩
theorem rl_yes {m t : Bs} {n : Int} (h : rlB m t n = true) : rlS m t n = reqLine m t n.toNat ∧ rlE m t n = 0 := by unfold rlS rlE; rw [h]; exact ⟨rfl, rfl⟩
def RlPost (m t : Bs) (n : Int) (w : World) (e : Ending) (w' : World) : Prop := e = .returned (.tuple #[.string (mkS (rlS m t n)), .int .i64 (rlE m t n)]) ∧ Below w.heap.size w w'

theorem reqLine_eq (m t : ByteArray) (v : Nat) : m ++ ⟨#[32]⟩ ++ t ++ ⟨#[32]⟩ ++ mkS (vText v) = mkS (reqLine (bs m) (bs t) v) := by
  have h1 : m = mkS (bs m) := (mkS_bs m).symm
  have h2 : t = mkS (bs t) := (mkS_bs t).symm
  have h3 : (⟨#[32]⟩ : ByteArray) = mkS [32] := rfl
  conv => lhs; rw [h1, h2, h3]
  rw [mkS_append, mkS_append, mkS_append, mkS_append]
  unfold reqLine
  simp

set_option maxHeartbeats 2000000 in
set_option maxRecDepth 100000 in
theorem requestLine_any (m t : ByteArray) (n : Int) (w : World) (hm : m.size ≤ 1099511627) (ht : t.size ≤ 1099511627) :
    Calls Tryz.prog 38 #[.string m, .string t, .int .i64 n] w (RlPost (bs m) (bs t) n w) := by
  have hq := inRequest_any m t w (by omega) (by omega)
  have hs := fun W => supported_any n W
  have hb : rlB (bs m) (bs t) n = (rIn (bs m) (bs t) && okMinor n) := rfl
  cases h1 : rIn (bs m) (bs t)
  · rw [h1] at hq hb
    obtain ⟨r1, r2⟩ := rl_no (show rlB (bs m) (bs t) n = false by rw [hb]; rfl)
    have R1 := Lib.hid r1
    have R2 := Lib.hid r2
    have HQ := Lib.hid hq
    clear r1 r2 hq hs hb h1
    go_enter Tryz.func38, Tryz.ntmps38
    go_wp2_with fail
    refine HQ.out.mono ?_
    rintro e w1 ⟨rfl, hb⟩
    have HB := Lib.hid hb
    clear hb
    go_wp2_with fail
    go_ret2
    exact ⟨by rw [R1.out, R2.out]; rfl, HB.out⟩
  · cases h2 : okMinor n
    · rw [h1, h2] at hb
      rw [h1] at hq
      have h2' : decide (n = 0 ∨ n = 1) = false := h2
      rw [h2'] at hs
      obtain ⟨r1, r2⟩ := rl_no (show rlB (bs m) (bs t) n = false by rw [hb]; rfl)
      have R1 := Lib.hid r1
      have R2 := Lib.hid r2
      have HQ := Lib.hid hq
      have HS := Lib.hid hs
      clear r1 r2 hq hs hb h1 h2 h2'
      go_enter Tryz.func38, Tryz.ntmps38
      go_wp2_with fail
      refine HQ.out.mono ?_
      rintro e w1 ⟨rfl, hb⟩
      have HB := Lib.hid hb
      clear hb
      go_wp2_with fail
      refine (HS.out _).mono ?_
      rintro e w2 ⟨rfl, rfl⟩
      go_wp2_with fail
      go_ret2
      exact ⟨by rw [R1.out, R2.out]; rfl, HB.out⟩
    · rw [h1, h2] at hb
      rw [h1] at hq
      have h2' : decide (n = 0 ∨ n = 1) = true := h2
      rw [h2'] at hs
      obtain ⟨r1, r2⟩ := rl_yes (show rlB (bs m) (bs t) n = true by rw [hb]; rfl)
      obtain ⟨v, rfl, hv⟩ := okMinor_of h2
      have hvt := fun W => versionText_any v W hv
      have he := reqLine_eq m t v
      have hz : (mkS (vText v)).size = 8 := by rw [size_mkS]; rfl
      have R1 := Lib.hid r1
      have R2 := Lib.hid r2
      have HQ := Lib.hid hq
      have HS := Lib.hid hs
      have HVT := Lib.hid hvt
      have HE := Lib.hid he
      clear r1 r2 hq hs hb h1 h2 h2' hvt he
      generalize mkS (vText v) = V at *
      have hz1 : (m ++ ⟨#[32]⟩ : ByteArray).size = m.size + 1 := by rw [ByteArray.size_append]; rfl
      have hz2 : (m ++ ⟨#[32]⟩ ++ t : ByteArray).size = m.size + 1 + t.size := by rw [ByteArray.size_append, hz1]
      have hz3 : (m ++ ⟨#[32]⟩ ++ t ++ ⟨#[32]⟩ : ByteArray).size = m.size + 1 + t.size + 1 := by rw [ByteArray.size_append, hz2]; rfl
      have g1 : (m ++ ⟨#[32]⟩ : ByteArray).size ≤ 9223372036854775807 := by omega
      have g2 : (m ++ ⟨#[32]⟩ ++ t : ByteArray).size ≤ 9223372036854775807 := by omega
      have g3 : (m ++ ⟨#[32]⟩ ++ t ++ ⟨#[32]⟩ : ByteArray).size ≤ 9223372036854775807 := by omega
      clear hz1 hz2 hz3
      go_enter Tryz.func38, Tryz.ntmps38
      go_wp2_with fail
      refine HQ.out.mono ?_
      rintro e w1 ⟨rfl, hb⟩
      have HB := Lib.hid hb
      clear hb
      go_wp2_with fail
      refine (HS.out _).mono ?_
      rintro e w2 ⟨rfl, rfl⟩
      go_wp2_with fail
      refine (HVT.out _).mono ?_
      rintro e w3 ⟨rfl, rfl⟩
      go_wp2_with fail
      go_ret2
      exact ⟨by rw [R1.out, R2.out, Int.toNat_natCast, ← HE.out]; rfl, HB.out⟩

def slB (m n : Int) (r : Bs) : Bool := okMinor m && sInI n r
def slS (m n : Int) (r : Bs) : Bs := if slB m n r then staLine m.toNat n.toNat r else []
def slE (m n : Int) (r : Bs) : Int := if slB m n r then 0 else 4
theorem sl_no {m n : Int} {r : Bs} (h : slB m n r = false) : slS m n r = [] ∧ slE m n r = 4 := by unfold slS slE; rw [h]; exact ⟨rfl, rfl⟩
theorem sl_yes {m n : Int} {r : Bs} (h : slB m n r = true) : slS m n r = staLine m.toNat n.toNat r ∧ slE m n r = 0 := by unfold slS slE; rw [h]; exact ⟨rfl, rfl⟩
def SlPost (m n : Int) (r : Bs) (w : World) (e : Ending) (w' : World) : Prop := e = .returned (.tuple #[.string (mkS (slS m n r)), .int .i64 (slE m n r)]) ∧ Below w.heap.size w w'

theorem staLine_eq (v d : Nat) (r : ByteArray) : mkS (vText v) ++ ⟨#[32]⟩ ++ mkS (digL d) ++ ⟨#[32]⟩ ++ r = mkS (staLine v d (bs r)) := by
  have h1 : r = mkS (bs r) := (mkS_bs r).symm
  have h3 : (⟨#[32]⟩ : ByteArray) = mkS [32] := rfl
  conv => lhs; rw [h1, h3]
  rw [mkS_append, mkS_append, mkS_append, mkS_append]
  unfold staLine
  simp

end Tk
end Go.Proofs.YtpcdaaijlgilkaaGreatDoor
namespace Go.Proofs.YtpcdaaijlgilkaaGreatDoor
open Go.RowKit
namespace Tk

variable {B b : Nat} {s : Pr} {q z lf : Nat} {V : PV} {X : Nat → Prop} {w w2 : World}
/-- the methods have a row that is longer -/
theorem Par.putMeth (h : Par B b s q z lf V w) (hm : w.ownsRow B 9 1 V.m s.asked.length (strs s.asked)) (p : Bs) {v' : Value} (ho : w2.ownsRow B 9 1 v' (s.asked.length + 1) (strs s.asked ++ [.string (mkS p)])) (hg : w.grownBy w2 V.m.ownBlock) (hst : ∀ k, v'.ownBlock = some k → V.m.ownBlock = some k ∨ w.heap.size ≤ k) :
    Par B b { s with asked := s.asked ++ [p] } q z lf { V with m := v' } (w2.setCell ⟨b, 6, none⟩ v') ∧ PTn b V { V with m := v' } X w (w2.setCell ⟨b, 6, none⟩ v') ∧ (w2.setCell ⟨b, 6, none⟩ v').ownsRow B 9 1 v' (s.asked ++ [p]).length (strs (s.asked ++ [p])) := by
  obtain ⟨n1, n2, n3, n4, n5⟩ := h.neB
  have hk2 : w2.heap[b]? = some (.cells (pcells b s q z lf V) 72 (0, 0)) := (hg.block b h.lt (fun e => n1 e.symm)).trans h.blk
  have hl2 : w2.ownsRow B 5 1 V.l s.line.length (Lib.byteCells s.line) := own_heap h.line fun k e => hg.block k (h.line.lt k e).2 (fun e2 => own_ne2 hm h.line (by decide) k e e2.symm)
  have hf2 : w2.ownsRow B 84 2 V.f s.msg.f.length (fcells s.msg.f) := own_heap h.flds fun k e => hg.block k (h.flds.lt k e).2 (fun e2 => own_ne2 hm h.flds (by decide) k e e2.symm)
  have ht2 : w2.ownsRow B 84 2 V.t s.msg.tr.length (fcells s.msg.tr) := own_heap h.trl fun k e => hg.block k (h.trl.lt k e).2 (fun e2 => own_ne2 hm h.trl (by decide) k e e2.symm)
  have hy2 : w2.ownsRow B 5 1 V.y s.body.length (Lib.byteCells s.body) := own_heap h.body fun k e => hg.block k (h.body.lt k e).2 (fun e2 => own_ne2 hm h.body (by decide) k e e2.symm)
  have hne : ∀ k, k ≠ b → (w2.setCell ⟨b, 6, none⟩ v').heap[k]? = w2.heap[k]? := fun k hk => Below.heap_setCell _ _ _ _ hk
  have ho2 : w2.ownsRow B 9 1 v' (s.asked ++ [p]).length (strs (s.asked ++ [p])) := by
    rw [List.length_append, strs_append]
    exact ho
  have ho3 := own_heap ho2 (w' := w2.setCell ⟨b, 6, none⟩ v') fun k e => hne k (fun e2 => own_ne ho2 hk2 (by decide) (e2 ▸ e))
  refine ⟨⟨h.hB, ?_, Meth.of ho3, own_heap hl2 fun k e => hne k (fun e2 => n2 (e2 ▸ e)), own_heap hf2 fun k e => hne k (fun e2 => n3 (e2 ▸ e)), own_heap ht2 fun k e => hne k (fun e2 => n4 (e2 ▸ e)), own_heap hy2 fun k e => hne k (fun e2 => n5 (e2 ▸ e)), h.lb, h.ft, ?_, fun k e => ⟨(h.dlt k e).1, by have := (h.dlt k e).2; have := hg.size; simp; omega⟩, ?_⟩, ⟨hg.os, hg.tape, hg.output, by simpa using hg.size, ?_, ?_⟩, ho3⟩
  · rw [heap_setCell_same w2 b 6 _ _ v' hk2]; rfl
  · intro hmm
    obtain ⟨bd, d1, d2, d3⟩ := h.dec hmm
    refine ⟨bd, d1, d2, d3.same fun k e => (hne k (fun e2 => h.apd k ⟨bd, d2, e⟩ (.inl e2))).trans (hg.block k (h.dlt k ⟨bd, d2, e⟩).2 fun e2 => h.apd k ⟨bd, d2, e⟩ (.inr (.inl e2.symm)))⟩
  · intro k e ho
    rcases ho with e2 | e2 | e2 | e2 | e2 | e2
    · exact h.apd k e (.inl e2)
    · rcases hst k e2 with h1 | h1
      · exact h.apd k e (.inr (.inl h1))
      · have := (h.dlt k e).2; omega
    · exact h.apd k e (.inr (.inr (.inl e2)))
    · exact h.apd k e (.inr (.inr (.inr (.inl e2))))
    · exact h.apd k e (.inr (.inr (.inr (.inr (.inl e2)))))
    · exact h.apd k e (.inr (.inr (.inr (.inr (.inr e2)))))
  · intro k hk hmi _
    rw [hne k (fun e => hmi (.inl (.inl e)))]
    exact hg.block k hk fun e => hmi (.inl (.inr (.inl e.symm)))
  · intro k hk
    rcases hk with (e2 | e2 | e2 | e2 | e2 | e2) | e2
    · exact .inl (.inl (.inl e2))
    · rcases hst k e2 with h1 | h1
      · exact .inl (.inl (.inr (.inl h1)))
      · exact .inr h1
    · exact .inl (.inl (.inr (.inr (.inl e2))))
    · exact .inl (.inl (.inr (.inr (.inr (.inl e2)))))
    · exact .inl (.inl (.inr (.inr (.inr (.inr (.inl e2))))))
    · exact .inl (.inl (.inr (.inr (.inr (.inr (.inr e2))))))
    · exact .inl (.inr e2)

theorem Par.grewMeth {v' : Value} (h : Par B b s q z lf V w) (p : Bs) (n : Nat) (hn : n = s.asked.length) (a : Option Addr) (cap0 : Nat) (hv : V.m = .slice a n cap0) (hm : w.ownsRow B 9 1 (.slice a n cap0) n (strs s.asked)) (ho : w2.ownsRow B 9 1 v' (n + 1) (strs s.asked ++ [.string (mkS p)])) (hg : w.grownBy w2 (Value.slice a n cap0).ownBlock) (hst : Stay w (.slice a n cap0) v') :
    ∃ g cap, v' = .slice (some ⟨g, 0, none⟩) (n + 1) cap ∧ w2.cell? ⟨b, 6, none⟩ = some (.slice a n cap0) ∧ w2.frozen? ⟨b, 6, none⟩ = false ∧ Par B b { s with asked := s.asked ++ [p] } q z lf { V with m := v' } (w2.setCell ⟨b, 6, none⟩ v') ∧ (w2.setCell ⟨b, 6, none⟩ v').ownsRow B 9 1 v' (s.asked ++ [p]).length (strs (s.asked ++ [p])) ∧ Below B w (w2.setCell ⟨b, 6, none⟩ v') := by
  obtain ⟨g, cap, hv'⟩ : ∃ g cap, v' = .slice (some ⟨g, 0, none⟩) (n + 1) cap := by
    rcases ho.2 with ⟨_, h0⟩ | ⟨g, cap, cur, hv, _⟩
    · omega
    · exact ⟨g, cap, hv⟩
  have hk2 := (hg.block b h.lt (fun e => h.neB.1 (by rw [hv]; exact e.symm))).trans h.blk
  obtain ⟨hd, ht, ho3⟩ := h.putMeth (X := fun _ => False) (by rw [hv, ← hn]; exact hm) p (hn ▸ ho) (by rw [hv]; exact hg) (by rw [hv]; exact hst)
  exact ⟨g, cap, hv', by rw [Lib.cell_of_heap hk2, ← hv]; rfl, Lib.frozen_of_heap hk2 6, hd, ho3, ht.toBelow h (fun _ e => e.elim)⟩

set_option maxHeartbeats 4000000 in
set_option maxRecDepth 100000 in
theorem isMethod_any (t : ByteArray) (w : World) (ht : t.size ≤ 1000000) :
    Calls Tryz.prog 31 #[.string t] w fun e w' => e = .returned (.bool (rlB (bs t) [47] 1)) ∧ Below w.heap.size w w' := by
  have h := requestLine_any t ⟨#[47]⟩ 1 w (by omega) (by decide)
  unfold RlPost at h
  have H := Lib.hid h
  clear h
  cases hb : rlB (bs t) (bs ⟨#[47]⟩) 1
  · obtain ⟨r1, r2⟩ := rl_no hb
    rw [r1, r2] at H
    have hb2 : rlB (bs t) [47] 1 = false := hb
    rw [hb2]
    clear hb hb2 r1 r2
    go_enter Tryz.func31, Tryz.ntmps31
    go_wp2_with fail
    refine H.out.mono ?_
    rintro e w1 ⟨rfl, hb⟩
    have HB := Lib.hid hb
    clear hb
    go_wp2_with fail
    go_ret
    exact ⟨rfl, HB.out⟩
  · obtain ⟨r1, r2⟩ := rl_yes hb
    rw [r1, r2] at H
    have hb2 : rlB (bs t) [47] 1 = true := hb
    rw [hb2]
    clear hb hb2 r1 r2
    generalize mkS (reqLine (bs t) (bs ⟨#[47]⟩) (1 : Int).toNat) = R at *
    go_enter Tryz.func31, Tryz.ntmps31
    go_wp2_with fail
    refine H.out.mono ?_
    rintro e w1 ⟨rfl, hb⟩
    have HB := Lib.hid hb
    clear hb
    go_wp2_with fail
    go_ret
    exact ⟨rfl, HB.out⟩

/-- a method is told that is none, or to a parser of requests -/
theorem pexpect_bad (t : ByteArray) (h : Par B b s q z lf V w) (ht : t.size ≤ 1000000) (hc : s.rsp = false ∨ (s.rsp = true ∧ rlB (bs t) [47] 1 = false)) :
    Calls Tryz.prog 16 #[ptr b, .string t] w fun e w' => e = .returned (.int .i64 4) ∧ Below w.heap.size w w' := by
  have HM := Lib.hid (pmade_any h)
  have HI := Lib.hid (isMethod_any t w ht)
  have c5 : w.cell? ⟨b, 5, none⟩ = some (.bool s.rsp) := h.cell 5 _ rfl
  clear h ht
  unfold ptr at *
  rcases hc with hr | ⟨hr, hb⟩
  · rw [hr] at c5
    clear hr HI
    go_enter Tryz.func16, Tryz.ntmps16
    go_wp2_with fail
    refine HM.out.mono ?_
    rintro e w' ⟨rfl, rfl⟩
    go_wp2_with fail
    go_ret
    exact ⟨rfl, Below.refl _ _⟩
  · rw [hr] at c5
    rw [hb] at HI
    clear hr hb
    go_enter Tryz.func16, Tryz.ntmps16
    go_wp2_with fail
    refine HM.out.mono ?_
    rintro e w' ⟨rfl, rfl⟩
    go_wp2_with fail
    refine HI.out.mono ?_
    rintro e w1 ⟨rfl, hb⟩
    have HB := Lib.hid hb
    clear hb
    go_wp2_with fail
    go_ret
    exact ⟨rfl, HB.out⟩

set_option maxHeartbeats 8000000 in
set_option maxRecDepth 100000 in
theorem pexpect_any (t : ByteArray) (h : Par B b s q z lf V w) (hm : w.ownsRow B 9 1 V.m s.asked.length (strs s.asked)) (hr : s.rsp = true) (hn : s.asked.length ≤ 1000) (ht : t.size ≤ 1000000) (hb : rlB (bs t) [47] 1 = true) :
    Calls Tryz.prog 16 #[ptr b, .string t] w fun e w' => e = .returned (.int .i64 0) ∧ ∃ v', Par B b { s with asked := s.asked ++ [bs t] } q z lf { V with m := v' } w' ∧ w'.ownsRow B 9 1 v' (s.asked ++ [bs t]).length (strs (s.asked ++ [bs t])) ∧ Below B w w' := by
  obtain ⟨i0, hif, hz0, hz1, hz2⟩ := info_parts strInfo
  have hi := isMethod_any t w ht
  rw [hb] at hi
  have HM := Lib.hid (pmade_any h)
  have HI := Lib.hid hi
  have c5 : w.cell? ⟨b, 5, none⟩ = some (.bool true) := by rw [← hr]; exact h.cell 5 _ rfl
  obtain ⟨a, cap, hva⟩ := h.meth.val
  have HVa := Lib.hid hva
  have HP := Lib.hid h
  have HO := Lib.hid hm
  have HBb := Lib.hid (show B ≤ w.heap.size by have := h.hB; have := h.lt; omega)
  have HCl := Lib.hid (fun W : World => clone_any t W (by omega))
  unfold StrPost at HCl
  have HTs := Lib.hid (mkS_bs t)
  obtain ⟨n, hn2⟩ : ∃ n, n = s.asked.length := ⟨_, rfl⟩
  have HN := Lib.hid hn2
  have hn3 : n ≤ 1000 := by omega
  have HN3 := Lib.hid hn3
  clear h hm hr hn ht hb hi hva hn2 hn3
  unfold ptr at *
  go_enter Tryz.func16, Tryz.ntmps16
  go_wp2_with fail
  refine HM.out.mono ?_
  rintro e wq ⟨rfl, hwq⟩
  rw [hwq]
  clear hwq
  go_wp2_with fail
  refine HI.out.mono ?_
  rintro e w1 ⟨rfl, hb1⟩
  have HP1 := Lib.hid (HP.out.below hb1)
  have HO1 := Lib.hid (own_keep HO.out hb1)
  have HB1 := Lib.hid (hb1.mono HBb.out)
  clear hb1 HI HM HP HO c5
  have HCa : Hid (Calls Tryz.prog 32 #[.string t] w1.drew fun e w' => e = .returned (.string t) ∧ w'.cell? ⟨b, 6, none⟩ = some (.slice a n cap) ∧ (w'.alloc (.cells #[.string t] 9)).cell? ⟨b, 6, none⟩ = some (.slice a n cap) ∧ Hid (Par B b s q z lf V (w'.alloc (.cells #[.string t] 9))) ∧ Hid ((w'.alloc (.cells #[.string t] 9)).ownsRow B 9 1 (.slice a n cap) n (strs s.asked)) ∧ Hid (∀ j u, [Value.string t][j]? = some u → (w'.alloc (.cells #[.string t] 9)).cell? ((⟨w'.heap.size, 0, none⟩ : Addr).add j) = some u) ∧ Hid (B ≤ (w'.alloc (.cells #[.string t] 9)).heap.size) ∧ Hid (Below B w (w'.alloc (.cells #[.string t] 9)))) := by
    refine Lib.hid ((HCl.out w1.drew).mono ?_)
    rintro e w' ⟨rfl, hb⟩
    have hb0 : Below w1.heap.size w1 w' := (show Below w1.heap.size w1 w1.drew from ⟨rfl, rfl, rfl, Nat.le_refl _, fun _ _ => rfl⟩).trans hb
    have hb2 : Below w1.heap.size w1 (w'.alloc (.cells #[.string t] 9)) := hb0.alloc hb0.size _
    have hp2 := HP1.out.below hb2
    have hp1 := HP1.out.below hb0
    have hB : B ≤ w1.heap.size := by have := HP1.out.hB; have := HP1.out.lt; omega
    refine ⟨by rw [HTs.out], by rw [HN.out, ← HVa.out]; exact hp1.cell 6 _ rfl, by rw [HN.out, ← HVa.out]; exact hp2.cell 6 _ rfl, Lib.hid hp2, Lib.hid ?_, Lib.hid ?_, Lib.hid (Nat.le_trans hB hb2.size), Lib.hid (HB1.out.trans (hb2.mono hB))⟩
    · have := own_keep HO1.out hb2
      rw [HVa.out, ← HN.out] at this
      exact this
    · exact cell_one_new _ _ _
  have HC2 := Lib.hid (show ∀ u ∈ [Value.string t], u.oneCell' = true by intro u hu; simp at hu; subst hu; rfl)
  have HC3 := Lib.hid (show n + 1 ≤ maxLen by have := HN3.out; unfold maxLen; omega)
  have HC4 := Lib.hid (show (n + 1) * 16 ≤ 140737488355328 by have := HN3.out; omega)
  have HTt := Lib.hid (show Value.string t = Value.string (mkS (bs t)) by rw [HTs.out])
  have c6 : w1.drew.cell? ⟨b, 6, none⟩ = some (.slice a n cap) := by
    have := (HP1.out.draws 1).cell 6 _ rfl
    rw [HN.out, ← HVa.out]; exact this
  have c6b : w1.cell? ⟨b, 6, none⟩ = some (.slice a n cap) := c6
  clear HCl HN3
  go_wp2_with fail
  go_region_law (first
    | (refine step_stay (by rfl) _ _ 49 (by rfl) B 9 i0 (.string .empty) 1 16 Tryz.underlying49 hif hz0 hz1 hz2 (by rfl) (by decide) _ _ _ (by rfl) HO2.out ⟨w2.heap.size, 0, none⟩ 1 1 [.string t] (by rfl) (by rfl) HD1.out HC2.out HC3.out HC4.out HBs.out ?_; intro v' w3 ho hgr hst; rw [HTt.out] at ho; obtain ⟨g2, cap2, rfl, k6, f6, hd, ho3, hbl⟩ := HP2.out.grewMeth (bs t) n HN.out a cap (HVa.out.trans (by rw [HN.out])) HO2.out ho hgr hst; have HR := Lib.hid (show ∃ v', Par B b { s with asked := s.asked ++ [bs t] } q z lf { V with m := v' } (w3.setCell ⟨b, 6, none⟩ (.slice (some ⟨g2, 0, none⟩) (n + 1) cap2)) ∧ (w3.setCell ⟨b, 6, none⟩ (.slice (some ⟨g2, 0, none⟩) (n + 1) cap2)).ownsRow B 9 1 v' (s.asked ++ [bs t]).length (strs (s.asked ++ [bs t])) ∧ Below B w (w3.setCell ⟨b, 6, none⟩ (.slice (some ⟨g2, 0, none⟩) (n + 1) cap2)) from ⟨_, hd, ho3, HBe.out.trans hbl⟩); clear hd ho3 hbl ho hgr hst)
    | (go_simp; go_at_call 32; refine HCa.out.mono ?_; rintro e w2 ⟨rfl, j6, l6, HP2, HO2, HD1, HBs, HBe⟩))
  all_goals
    go_wp2_with fail
    go_ret
    exact ⟨rfl, HR.out⟩
end Tk
end Go.Proofs.YtpcdaaijlgilkaaGreatDoor
