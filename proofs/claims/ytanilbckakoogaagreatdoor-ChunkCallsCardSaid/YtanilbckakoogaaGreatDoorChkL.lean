/- ChkI ChkJ ChkL, put together. -/
import Derived.Test.YtanilbckakoogaaGreatDoorChkF
import Derived.Test.YtanilbckakoogaaGreatDoorChkG
import Derived.Test.YtanilbckakoogaaGreatDoorChkR
import Derived.Test.YtanilbckakoogaaGreatDoorChkH
import Derived.Deep.RegionHeld3
import Derived.Test.YtanilbckakoogaaGreatDoorFldN
namespace Go.Proofs.YtanilbckakoogaaGreatDoor
open Go.RowKit
namespace Tk

theorem DecTo.refl {B b : Nat} {s : Dc} {vl vb vt : Value} {w : World} (h : Dec B b s vl vb vt w) : DecTo B b s vl vb vt w w := ⟨_, _, _, h, Turn.refl⟩

theorem state_any {B b : Nat} {s : Dc} {vl vb vt : Value} (c : UInt8) {w : World} (h : Dec B b s vl vb vt w) (hm : s.mode < 5) (hb0 : s.bad = 0) (n : Nat) (hf : s.Fit n) (hn : n + 1 ≤ 1048576) (hl : Lim s) (hv : ErrV B w) :
    ∃ F, stV b s.mode = .func (.func F) #[.pointer (some ⟨b, 0, none⟩)] #[] ∧ (∀ args w, (callFunc F args).run Tryz.prog w = .ok (.enter F args) w) ∧ Calls Tryz.prog F #[.pointer (some ⟨b, 0, none⟩), .int .u8 c.toNat] w (StepPost B b s c vl vb vt w) := by
  obtain ⟨l1, l2, l3, l4⟩ := hl
  have f1 := hf.line
  have f2 := hf.head
  have f3 := hf.body
  have f4 := hf.trl
  have f5 := hf.room
  have hcase : s.mode = 0 ∨ s.mode = 1 ∨ s.mode = 2 ∨ s.mode = 3 ∨ s.mode = 4 := by omega
  rcases hcase with e | e | e | e | e
  · refine ⟨_, by rw [e]; rfl, enters_of Tryz.func26 (by kernel_rfl) rfl, ?_⟩
    exact sizeLine_any c h e hb0 (by omega) l1 l4 (by omega) hv
  · refine ⟨_, by rw [e]; rfl, enters_of Tryz.func42 (by kernel_rfl) rfl, ?_⟩
    refine (data_any c h e (hf.one e) hf.few (by omega)).mono ?_
    rintro x w' ⟨rfl, hd⟩
    have hs : stepM s c = { s with body := s.body ++ [c], left := s.left - 1 } := by unfold stepM; rw [stepD_1 s c e]; split <;> rfl
    refine ⟨?_, by rw [hs]; exact hd⟩
    unfold stepE
    rw [stepD_1 s c e]
    by_cases h1 : 1 < s.left
    · simp only [if_pos h1, hb0, if_true, e]
    · simp only [if_neg h1, hb0, if_true]
  · refine ⟨_, by rw [e]; rfl, enters_of Tryz.func62 (by kernel_rfl) rfl, ?_⟩
    refine (dataCR_any b c w).mono ?_
    rintro x w' ⟨rfl, rfl⟩
    have hs : stepM s c = s := by unfold stepM; rw [stepD_2 s c e]; split <;> rfl
    refine ⟨?_, by rw [hs]; exact .refl h⟩
    unfold stepE
    rw [stepD_2 s c e]
    by_cases hc : c = 13
    · simp only [if_pos hc, hb0, if_true]
    · simp only [if_neg hc]; rfl
  · refine ⟨_, by rw [e]; rfl, enters_of Tryz.func80 (by kernel_rfl) rfl, ?_⟩
    refine (dataLF_any b c w).mono ?_
    rintro x w' ⟨rfl, rfl⟩
    have hs : stepM s c = s := by unfold stepM; rw [stepD_3 s c e]; split <;> rfl
    refine ⟨?_, by rw [hs]; exact .refl h⟩
    unfold stepE
    rw [stepD_3 s c e]
    by_cases hc : c = 10
    · simp only [if_pos hc, hb0, if_true]
    · simp only [if_neg hc]; rfl
  · refine ⟨_, by rw [e]; rfl, enters_of Tryz.func41 (by kernel_rfl) rfl, ?_⟩
    exact trailer_any c h e hb0 (by omega) l1 (by omega) (by omega)
end Tk
end Go.Proofs.YtanilbckakoogaaGreatDoor
namespace Go.Proofs.YtanilbckakoogaaGreatDoor
open Go.RowKit
namespace Tk

theorem stV_store (b m : Nat) (a : Addr) (md : Mode) (w : World) : (store a (stV b m) md).run Tryz.prog w = stored Tryz.prog w a (stV b m) md :=
  run_store _ _ _ _ _ (by unfold stV; split <;> rfl)

set_option maxHeartbeats 2000000 in
set_option maxRecDepth 100000 in
theorem feed_flaw {B b : Nat} {s : Dc} {vl vb vt : Value} (t : ByteArray) {w : World} (h : Dec B b s vl vb vt w) (hb : s.bad ≠ 0) :
    Calls Tryz.prog 12 #[ptr b, .string t] w fun e w' => e = .returned (.tuple #[.int .i64 0, .int .i64 s.bad]) ∧ Below w.heap.size w w' := by
  have h1 : Below w.heap.size w ((w.alloc (.cells #[.pointer (some ⟨b, 0, none⟩)] 31)).alloc (.cells #[.int .i64 0] 3)) := ((Below.refl _ _).alloc (Nat.le_refl _) _).alloc (by simp) _
  have hd := h.below h1
  have k6 : ((w.alloc (.cells #[.pointer (some ⟨b, 0, none⟩)] 31)).alloc (.cells #[.int .i64 0] 3)).cell? ⟨b, 6, none⟩ = some (.int .i64 s.bad) := hd.cell 6 _ rfl
  have kd : ((w.alloc (.cells #[.pointer (some ⟨b, 0, none⟩)] 31)).alloc (.cells #[.int .i64 0] 3)).cell? ⟨w.heap.size, 0, none⟩ = some (.pointer (some ⟨b, 0, none⟩)) := by simp [go_sem]
  have HD := Lib.hid hd
  have HB := Lib.hid h1
  have hn : ((s.bad : Int) != 0) = true := by simp [hb]
  have hne : b ≠ w.heap.size + 1 := by have := h.lt; omega
  clear h hd h1 hb
  unfold ptr
  go_enter_defers Tryz.func12, Tryz.ntmps12
  go_wp2_with fail
  refine (made_any HD.out).mono ?_
  rintro e w' ⟨rfl, rfl⟩
  go_wp2_with fail
  go_region
  all_goals
    go_wp2_with fail
    simp [bodyPostD, Leaves, results, Tryz.results12, go_sem]
    exact (((Below.refl _ _).alloc (Nat.le_refl _) _).alloc (by simp) _).drew

theorem errv_draws {B : Nat} {w : World} (h : ErrV B w) (n : Nat) : ErrV B (w.drewN n) := h.later ⟨rfl, rfl, rfl, Nat.le_refl _, fun _ _ => rfl⟩
/-- the boxes of Feed, behind what a decoder turned -/
theorem Turn.box {b : Nat} {vl vb vt v1 v2 v3 : Value} {w w' : World} (h : Turn b vl vb vt v1 v2 v3 w w') {k : Nat} (hk : k < w.heap.size ∧ ¬ Mine b vl vb vt k) (o : Nat) :
    w'.cell? ⟨k, o, none⟩ = w.cell? ⟨k, o, none⟩ ∧ w'.frozen? ⟨k, o, none⟩ = w.frozen? ⟨k, o, none⟩ :=
  ⟨World.cell?_of_block (w := w) (h.block k hk.1 hk.2), World.frozen?_of_block (w := w) (h.block k hk.1 hk.2)⟩

theorem leaves_tmps {P : Program} {fn : Func} {R : Ending → World → Prop} {T T' : Array Value} (h : results fn T = results fn T') : ∀ (ds : List Deferred) (u : FrameMode) (w : World), Leaves P fn T R ds u w → Leaves P fn T' R ds u w
  | [], .returning, w, hl => by
    obtain ⟨v, h1, h2⟩ := hl
    exact ⟨v, by rw [← h]; exact h1, h2⟩
  | [], .panicking chain, w, hl => hl
  | [], .run, w, hl => hl
  | d :: ds, u, w, hl => by
    obtain ⟨hu, fv, cap, f, args, ht, hi, hc⟩ := hl
    refine ⟨hu, fv, cap, f, args, ht, hi, hc.mono fun e u' w' he => ?_⟩
    cases e with
    | returned v => exact leaves_tmps h ds _ _ he
    | panicked chain => exact leaves_tmps h ds _ _ he
    | outgrown => exact he
theorem res_feed (T : Array Value) (k : Nat) (v : Value) (h4 : k ≠ 4) (h5 : k ≠ 5) : results Tryz.f12 (T.setIfInBounds k v) = results Tryz.f12 T := by
  unfold results
  rw [Tryz.results12]
  simp [Array.getElem?_setIfInBounds_ne h4, Array.getElem?_setIfInBounds_ne h5]
theorem post_put {R : Ending → World → Prop} (k : Nat) (h4 : k ≠ 4) (h5 : k ≠ 5) (c : List PanicEntry) (a : Act) (v : Value) (w : World) (h : bodyPostD Tryz.prog Tryz.f12 R (.panic c) (a.put (some k) v) w) : bodyPostD Tryz.prog Tryz.f12 R (.panic c) a w :=
  leaves_tmps (res_feed a.tmps k v h4 h5) a.defers (.panicking c) w h

theorem stV_form (b m : Nat) : stV b m = .nilFunc ∨ ∃ F, stV b m = .func (.func F) #[ptr b] #[] := by
  unfold stV; split <;> first | exact .inl rfl | exact .inr ⟨_, rfl⟩
theorem Turn.aside {b : Nat} {vl vb vt v1 v2 v3 : Value} {w w' : World} (h : Turn b vl vb vt v1 v2 v3 w w') {k : Nat} (hk : w.heap.size ≤ k) (o : Nat) (u : Value) : Turn b vl vb vt v1 v2 v3 w (w'.setCell ⟨k, o, none⟩ u) :=
  ⟨h.os, h.tape, h.output, by simpa using h.size, fun j hj hm => (Below.heap_setCell _ _ _ _ (by show j ≠ k; omega)).trans (h.block j hj hm), h.new⟩
theorem Dec.aside {B b : Nat} {s : Dc} {vl vb vt : Value} {w : World} (h : Dec B b s vl vb vt w) {k : Nat} (hk : ¬ Mine b vl vb vt k) (o : Nat) (u : Value) : Dec B b s vl vb vt (w.setCell ⟨k, o, none⟩ u) :=
  h.same fun j hj => Below.heap_setCell _ _ _ _ (by show j ≠ k; rintro rfl; exact hk hj)
/-- a block that was not there when the call began, and none of its own then, is none of its own now -/
theorem Turn.not_mine {b : Nat} {vl vb vt v1 v2 v3 : Value} {w w' : World} (h : Turn b vl vb vt v1 v2 v3 w w') {k : Nat} (hk : k < w.heap.size ∧ ¬ Mine b vl vb vt k) : ¬ Mine b v1 v2 v3 k := fun hm => by
  rcases h.new k hm with h1 | h1
  · exact hk.2 h1
  · omega

set_option maxHeartbeats 8000000 in
set_option maxRecDepth 100000 in
theorem feed_go {B b : Nat} {s : Dc} {vl vb vt : Value} (t : ByteArray) {w : World} (h : Dec B b s vl vb vt w) (n : Nat) (hf : s.Fit n) (hn : n + t.size ≤ 1048575) (hl : Lim s) (hv : ErrV B w) (hb0 : s.bad = 0) :
    Calls Tryz.prog 12 #[ptr b, .string t] w fun e w' => e = .returned (.tuple #[.int .i64 (feedD s (bs t)).1, .int .i64 (feedD s (bs t)).2.bad]) ∧ DecTo B b (feedD s (bs t)).2 vl vb vt w w' := by
  have hmf : ∀ (fn : Fn) (first cap : Array Value) (w : World), (Instr.makeFunc fn first cap).run Tryz.prog w = .ok (.func fn first cap) w := fun _ _ _ _ => rfl
  have h1 : Below w.heap.size w ((w.alloc (.cells #[.pointer (some ⟨b, 0, none⟩)] 31)).alloc (.cells #[.int .i64 0] 3)) := ((Below.refl _ _).alloc (Nat.le_refl _) _).alloc (by simp) _
  have hd := h.below h1
  have hm : ∀ k, w.heap.size ≤ k → ¬ Mine b vl vb vt k := fun k hk hm => by have := (h.mineLt k hm).2; omega
  have k6 : ((w.alloc (.cells #[.pointer (some ⟨b, 0, none⟩)] 31)).alloc (.cells #[.int .i64 0] 3)).cell? ⟨b, 6, none⟩ = some (.int .i64 0) := hd.cell 6 _ (by show some (Value.int .i64 (s.bad : Int)) = _; rw [hb0]; rfl)
  have kd : ((w.alloc (.cells #[.pointer (some ⟨b, 0, none⟩)] 31)).alloc (.cells #[.int .i64 0] 3)).cell? ⟨w.heap.size, 0, none⟩ = some (.pointer (some ⟨b, 0, none⟩)) := by simp [go_sem]
  have ks : ((w.alloc (.cells #[.pointer (some ⟨b, 0, none⟩)] 31)).alloc (.cells #[.int .i64 0] 3)).cell? ⟨w.heap.size + 1, 0, none⟩ = some (.int .i64 0) := by simp [go_sem]
  have fs : ((w.alloc (.cells #[.pointer (some ⟨b, 0, none⟩)] 31)).alloc (.cells #[.int .i64 0] 3)).frozen? ⟨w.heap.size + 1, 0, none⟩ = false := by simp [go_sem]
  have HG := Lib.hid (show w.heap.size < ((w.alloc (.cells #[.pointer (some ⟨b, 0, none⟩)] 31)).alloc (.cells #[.int .i64 0] 3)).heap.size ∧ ¬ Mine b vl vb vt w.heap.size from ⟨by simp; omega, hm _ (Nat.le_refl _)⟩)
  have HS := Lib.hid (show w.heap.size + 1 < ((w.alloc (.cells #[.pointer (some ⟨b, 0, none⟩)] 31)).alloc (.cells #[.int .i64 0] 3)).heap.size ∧ ¬ Mine b vl vb vt (w.heap.size + 1) from ⟨by simp, hm _ (Nat.le_succ _)⟩)
  have HD0 := Lib.hid hd
  have HT0 := Lib.hid (Turn.of (b := b) (vl := vl) (vb := vb) (vt := vt) h1)
  have HV0 := Lib.hid (hv.later (h1.mono hv.2.1))
  have HF := Lib.hid hf
  have HL := Lib.hid hl
  have HN := Lib.hid hn
  have hts : t.size ≤ 1048575 := by omega
  have hne : b ≠ w.heap.size + 1 := by have := h.lt; omega
  have HB0 := Lib.hid hb0
  have HLen := Lib.hid (length_bs t)
  clear h hd h1 hm hf hl hv hn hb0
  unfold ptr
  go_enter_defers Tryz.func12, Tryz.ntmps12
  go_wp2_with fail
  generalize (w.alloc (.cells #[.pointer (some ⟨b, 0, none⟩)] 31)).alloc (.cells #[.int .i64 0] 3) = W2 at *
  generalize hgs : w.heap.size + 1 = gs at *
  have HGs := Lib.hid (show w.heap.size ≤ gs by omega)
  clear hgs
  generalize w.heap.size = g at HG kd ⊢
  refine (made_any HD0.out).mono ?_
  rintro e w' ⟨rfl, rfl⟩
  have KD := Lib.hid kd
  have KS := Lib.hid ks
  have FS := Lib.hid fs
  go_wp2_with fail
  clear kd ks fs k6
  go_loopw [4] (fun vn wr => ∃ (i : Nat) (si : Dc) (u1 u2 u3 : Value), i ≤ t.size ∧ vn = .int .i64 i ∧ Hid (Eats s ((bs t).take i) si ∧ si.bad = 0) ∧ Hid (Dec B b si u1 u2 u3 wr) ∧ Hid (Turn b vl vb vt u1 u2 u3 w' wr)) (fun vn _ => t.size - (RowKit.intOf vn).toNat)
  case atStart => exact ⟨0, s, vl, vb, vt, Nat.zero_le _, rfl, Lib.hid ⟨Eats.nil s, HB0.out⟩, HD0, Lib.hid Turn.refl⟩
  case round =>
    obtain ⟨i, si, u1, u2, u3, hi, rfl, HE, HD, HT⟩ := hrel
    rename World => W
    have kd : W.cell? ⟨g, 0, none⟩ = some (.pointer (some ⟨b, 0, none⟩)) := (HT.out.box HG.out 0).1.trans KD.out
    have ks : W.cell? ⟨gs, 0, none⟩ = some (.int .i64 0) := (HT.out.box HS.out 0).1.trans KS.out
    have fs : W.frozen? ⟨gs, 0, none⟩ = false := (HT.out.box HS.out 0).2.trans FS.out
    have k5 : W.cell? ⟨b, 5, none⟩ = some (stV b si.mode) := HD.out.cell 5 _ rfl
    have hfit := eats_fit HF.out (by rw [HLen.out]; exact hi) HE.out.1
    have hmode := hfit.mode
    have HFit := Lib.hid hfit
    clear hfit
    by_cases hend : i < t.size ∧ si.mode < 5
    · obtain ⟨hlt, hm5⟩ := hend
      have hgd : (bs t).getD i 0 = t[i] := by
        have := bs_drop t i hlt
        have h2 : (bs t).drop i = (bs t).getD i 0 :: (bs t).drop (i + 1) := drop_cons (bs t) i (by rw [HLen.out]; exact hlt)
        rw [h2] at this
        injection this
      have hE1 := eats_next (by rw [HLen.out]; exact hlt) HE.out.1 ((stop_false si).2 ⟨by omega, HE.out.2⟩)
      rw [hgd] at hE1
      have HE1 := Lib.hid hE1
      have hv : ErrV B W := HV0.out.later (HT.out.toBelow HD0.out)
      obtain ⟨F, hF, hent, hc⟩ := state_any t[i] (show Dec B b si u1 u2 u3 W.drew from HD.out.draws 1) hm5 HE.out.2 (n + i) HFit.out (by have := HN.out; omega) (HL.out.eats HE.out.1) (errv_draws hv 1)
      rw [hF] at k5
      have HF1 := Lib.hid hF
      have hq := state_neq_func
      have hst := stV_store b
      have HM5 := Lib.hid hm5
      have hi63 : (i : Int) + 1 ≤ 1048575 := by omega
      clear hgd hE1 hv hF hmode
      unfold StepPost at hc
      have HC := Lib.hid hc
      have hwi : IntKind.i64.wrap (i : Int) = (i : Int) := IntWalk.i64_in _ (by omega)
      have hwl : (i : Int) < (t.size : Int) := by omega
      have hwg : (0 : Int) ≤ (i : Int) := by omega
      clear hc hm5
      go_wp2_with fail
      refine wp_region_held_drew (S := fun w' => w'.cell? ⟨g, 0, none⟩ = some (.pointer (some ⟨b, 0, none⟩))) (by kernel_rfl) kd (fun hHeld => ?_)
      refine wpAnyH_take (i := 0) (v := ?_) rfl (by kernel_rfl) (by kernel_rfl) (by kernel_rfl) (fun c a w h => post_put 34 (by decide) (by decide) c a _ w h) (Or.inl ⟨by rfl, ?_⟩) (by assumption) ?_
      case refine_2 => (intro w hSw; (try dsimp only at hSw); go_simp; try with_reducible rfl)
      refine wpAnyH_take (i := 1) (v := ?_) rfl (by kernel_rfl) (by kernel_rfl) (by kernel_rfl) (fun c a w h => post_put 35 (by decide) (by decide) c a _ w h) (Or.inl ⟨by rfl, ?_⟩) (by assumption) ?_
      case refine_2 => (intro w hSw; (try dsimp only at hSw); go_simp; try with_reducible rfl)
      refine wpAnyH_take (i := 2) (v := ?_) rfl (by kernel_rfl) (by kernel_rfl) (by kernel_rfl) (fun c a w h => post_put 36 (by decide) (by decide) c a _ w h) (Or.inl ⟨by rfl, ?_⟩) (by assumption) ?_
      case refine_2 => (intro w hSw; (try dsimp only at hSw); go_simp; try with_reducible rfl)
      refine wpAnyH_take (i := 3) (v := ?_) rfl (by kernel_rfl) (by kernel_rfl) (by kernel_rfl) (fun c a w h => post_put 37 (by decide) (by decide) c a _ w h) (Or.inl ⟨by rfl, ?_⟩) (by assumption) ?_
      case refine_2 => (intro w hSw; (try dsimp only at hSw); go_simp; try with_reducible rfl)
      refine wpAnyH_take (i := 5) (v := ?_) rfl (by kernel_rfl) (by kernel_rfl) (by kernel_rfl) (fun c a w h => post_put 39 (by decide) (by decide) c a _ w h) (Or.inl ⟨by rfl, ?_⟩) (by assumption) ?_
      case refine_2 => (intro w hSw; (try dsimp only at hSw); go_simp; try with_reducible rfl)
      refine wpAnyH_take (i := 6) (v := ?_) rfl (by kernel_rfl) (by kernel_rfl) (by kernel_rfl) (fun c a w h => post_put 40 (by decide) (by decide) c a _ w h) (Or.inl ⟨by rfl, ?_⟩) (by assumption) ?_
      case refine_2 => (intro w hSw; (try dsimp only at hSw); go_simp; try with_reducible rfl)
      refine wpAnyH_take (i := 7) (v := ?_) rfl (by kernel_rfl) (by kernel_rfl) (by kernel_rfl) (fun c a w h => post_put 41 (by decide) (by decide) c a _ w h) (Or.inl ⟨by rfl, ?_⟩) (by assumption) ?_
      case refine_2 => (intro w hSw; (try dsimp only at hSw); go_simp; try with_reducible rfl)
      refine wpAnyH_take (i := 8) (v := ?_) rfl (by kernel_rfl) (by kernel_rfl) (by kernel_rfl) (fun c a w h => post_put 42 (by decide) (by decide) c a _ w h) (Or.inl ⟨by rfl, ?_⟩) (by assumption) ?_
      case refine_2 => (intro w hSw; (try dsimp only at hSw); go_simp; try with_reducible rfl)
      refine wpAnyH_ready (rs := [4]) (by kernel_rfl) (by simp) ?_
      refine AllReadyH.cons rfl (fun K hK => ?_) AllReadyH.nil
      go_simp
      refine hK.out _ _ (by assumption) (fun hHeld2 => ?_)
      clear hK K hHeld
      refine wpAnyH_ready (rs := [9]) (by kernel_rfl) (by simp) ?_
      refine AllReadyH.cons rfl (fun K hK => ?_) AllReadyH.nil
      go_simp
      refine HC.out.mono ?_
      rintro e w2 ⟨rfl, hd⟩
      have HD2 := Lib.hid hd
      obtain ⟨v1, v2, v3, hd1, ht1⟩ := hd
      have HT1 := Lib.hid (HT.out.trans ((Turn.draws _ _ _ _ _ 1).trans ht1))
      have kd2 : w2.cell? ⟨g, 0, none⟩ = some (.pointer (some ⟨b, 0, none⟩)) := (HT1.out.box HG.out 0).1.trans KD.out
      have ks2 : w2.cell? ⟨gs, 0, none⟩ = some (.int .i64 0) := (HT1.out.box HS.out 0).1.trans KS.out
      have fs2 : w2.frozen? ⟨gs, 0, none⟩ = false := (HT1.out.box HS.out 0).2.trans FS.out
      have hmb : (stepM si t[i]).mode = si.mode := rfl
      have hbb : (stepM si t[i]).bad = 0 := HE.out.2
      by_cases hbad : (stepD si t[i]).bad = 0
      · have hE : stepE b si t[i] = .returned (stV b (stepD si t[i]).mode) := by unfold stepE; rw [if_pos hbad]
        rw [hE]
        have hd5 := hd1.set 5 (stV b (stepD si t[i]).mode) (stepD si t[i]) (by unfold dcells stepM; rw [hbad]; simp only [HE.out.2]; rfl) rfl rfl rfl
        have j5 : w2.cell? ⟨b, 5, none⟩ = some (.func (.func F) #[.pointer (some ⟨b, 0, none⟩)] #[]) := hd1.cell 5 _ (by show some (stV b si.mode) = _; rw [HF1.out])
        have f5 : w2.frozen? ⟨b, 5, none⟩ = false := hd1.frz 5
        have HX := Lib.hid (show Hid (Eats s ((bs t).take (i + 1)) (stepD si t[i]) ∧ (stepD si t[i]).bad = 0) ∧ Hid (Dec B b (stepD si t[i]) v1 v2 v3 (w2.setCell ⟨b, 5, none⟩ (stV b (stepD si t[i]).mode))) ∧ Hid (Turn b vl vb vt v1 v2 v3 w' (w2.setCell ⟨b, 5, none⟩ (stV b (stepD si t[i]).mode))) from ⟨⟨HE1.out, hbad⟩, hd5, HT1.out.trans (Turn.set 5 _)⟩)
        have kd3 : (w2.setCell ⟨b, 5, none⟩ (stV b (stepD si t[i]).mode)).cell? ⟨g, 0, none⟩ = some (.pointer (some ⟨b, 0, none⟩)) := (((HT1.out.trans (Turn.set 5 (stV b (stepD si t[i]).mode)))).box HG.out 0).1.trans KD.out
        clear hd1 ht1 hd5 hmb hbb
        show K _ _
        refine hK.out _ _ (by assumption) (fun hHeld3 => ?_)
        clear hK K hHeld2
        generalize (stepD si t[i]) = sn at *
        have hV := stV_form b sn.mode
        generalize stV b sn.mode = V at *
        rcases hV with rfl | ⟨F2, rfl⟩
        all_goals
          refine wpAnyH_take (i := 10) (v := ?_) rfl (by kernel_rfl) (by kernel_rfl) (by kernel_rfl) (fun c a w h => post_put 44 (by decide) (by decide) c a _ w h) (Or.inl ⟨by rfl, ?_⟩) (by assumption) ?_
          case refine_2 => (intro w hSw; (try dsimp only at hSw); go_simp; try with_reducible rfl)
          refine wpAnyH_take (i := 11) (v := ?_) rfl (by kernel_rfl) (by kernel_rfl) (by kernel_rfl) (fun c a w h => post_put 45 (by decide) (by decide) c a _ w h) (Or.inl ⟨by rfl, ?_⟩) (by assumption) ?_
          case refine_2 => (intro w hSw; (try dsimp only at hSw); go_simp; try with_reducible rfl)
          refine wpAnyH_ready (rs := [12]) (by kernel_rfl) (by simp) ?_
          refine AllReadyH.cons rfl (fun K hK => ?_) AllReadyH.nil
          go_simp
          refine hK.out _ _ (by assumption) (fun hHeld4 => ?_)
          clear hK K
          refine wpAnyH_done (by kernel_rfl) ?_ _
          go_wp2_with fail
          exact ⟨⟨i + 1, sn, v1, v2, v3, by omega, by go_num, HX.out.1, HX.out.2.1, HX.out.2.2⟩, by simp [RowKit.intOf]; omega⟩
      · have hE : stepE b si t[i] = .panicked (flawP (stepD si t[i]).bad) := by unfold stepE; rw [if_neg hbad]
        rw [hE]
        have hfin := eats_end (by rw [HLen.out]; omega) HE1.out (.inl ((stop_iff _).2 (.inr hbad)))
        have hmd := stepD_bad si t[i] HE.out.2 hbad
        have k6 : w2.cell? ⟨b, 6, none⟩ = some (.int .i64 ((stepM si t[i]).bad : Int)) := hd1.cell 6 _ rfl
        have f6 : w2.frozen? ⟨b, 6, none⟩ = false := hd1.frz 6
        have hd6 := hd1.set 6 (.int .i64 ((stepD si t[i]).bad : Int)) (stepD si t[i]) (by unfold dcells stepM; rw [hmd]; rfl) rfl rfl rfl
        have ht6 := HT1.out.trans (Turn.set (b := b) (vl := v1) (vb := v2) (vt := v3) (w := w2) 6 (.int .i64 ((stepD si t[i]).bad : Int)))
        have hr : DecTo B b (feedD s (bs t)).2 vl vb vt w ((w2.setCell ⟨b, 6, none⟩ (.int .i64 ((stepD si t[i]).bad : Int))).setCell ⟨gs, 0, none⟩ (.int .i64 ((stepD si t[i]).bad : Int))) := by
          rw [hfin]
          exact ⟨v1, v2, v3, hd6.aside (ht6.not_mine HS.out) 0 _, (HT0.out.trans ht6).aside HGs.out 0 _⟩
        have HR := Lib.hid hr
        have hcells : ((w2.setCell ⟨b, 6, none⟩ (.int .i64 ((stepD si t[i]).bad : Int))).setCell ⟨gs, 0, none⟩ (.int .i64 ((stepD si t[i]).bad : Int))).cell? ⟨gs, 0, none⟩ = some (.int .i64 ((stepD si t[i]).bad : Int)) := by
          have := (ht6.box HS.out 0).1.trans KS.out
          exact World.cell?_setCell_same _ _ _ this
        rw [hfin] at HR
        show Leaves _ _ _ _ _ _ _
        rw [hfin]
        refine leaves_cons (f := 28) (args := #[.pointer (some ⟨g, 0, none⟩), .pointer (some ⟨gs, 0, none⟩)]) (by simp) (by simp [go_sem]) ?_
        refine (catch_flaw b g gs _ _ _ [] w2 kd2 k6 f6 ks2 fs2).mono ?_
        rintro e u' w'' ⟨rfl, rfl, rfl⟩
        simp [Leaves, settle, results, Tryz.results12, go_sem, hcells]
        exact HR.out
    · have hend2 : stopD si = true ∨ i = (bs t).length := by
        rw [HLen.out]
        by_cases h5 : si.mode = 5
        · exact .inl ((stop_iff si).2 (.inl h5))
        · right; omega
      have hfin := eats_end (by rw [HLen.out]; exact hi) HE.out.1 hend2
      have hr : DecTo B b (feedD s (bs t)).2 vl vb vt w (W.setCell ⟨gs, 0, none⟩ (.int .i64 0)) := by
        rw [hfin]
        exact ⟨u1, u2, u3, HD.out.aside (HT.out.not_mine HS.out) 0 _, (HT0.out.trans HT.out).aside HGs.out 0 _⟩
      have hcells : (W.setCell ⟨gs, 0, none⟩ (.int .i64 0)).cell? ⟨gs, 0, none⟩ = some (.int .i64 0) := World.cell?_setCell_same _ _ _ ks
      have HR := Lib.hid hr
      have HBad := Lib.hid HE.out.2
      have HFin := Lib.hid hfin
      clear hr hfin hend2
      by_cases hlt : i < t.size
      · have hm5 : si.mode = 5 := by omega
        rw [hm5] at k5
        have hq := state_neq_nil
        have k5' : W.cell? ⟨b, 5, none⟩ = some .nilFunc := k5
        clear hend hm5 k5 hmode
        go_wp2_with fail
        rw [HFin.out]
        refine leaves_cons (f := 28) (args := #[.pointer (some ⟨g, 0, none⟩), .pointer (some ⟨gs, 0, none⟩)]) (by simp) (by simp [go_sem]) ?_
        refine (catch_idle g gs _).mono ?_
        rintro e u' w'' ⟨rfl, rfl, rfl⟩
        simp [Leaves, settle, results, Tryz.results12, go_sem, hcells]
        exact ⟨by rw [HBad.out]; rfl, by have := HR.out; rw [HFin.out] at this; exact this⟩
      · clear hend hmode
        go_wp2_with fail
        rw [HFin.out]
        refine leaves_cons (f := 28) (args := #[.pointer (some ⟨g, 0, none⟩), .pointer (some ⟨gs, 0, none⟩)]) (by simp) (by simp [go_sem]) ?_
        refine (catch_idle g gs _).mono ?_
        rintro e u' w'' ⟨rfl, rfl, rfl⟩
        simp [Leaves, settle, results, Tryz.results12, go_sem, hcells]
        exact ⟨by rw [HBad.out]; rfl, by have := HR.out; rw [HFin.out] at this; exact this⟩
end Tk
end Go.Proofs.YtanilbckakoogaaGreatDoor
namespace Go.Proofs.YtanilbckakoogaaGreatDoor
open Go.RowKit
namespace Tk

def FeedPost (B b : Nat) (s : Dc) (l : Bs) (vl vb vt : Value) (w : World) (e : Ending) (w' : World) : Prop :=
  e = .returned (.tuple #[.int .i64 (feedD s l).1, .int .i64 (feedD s l).2.bad]) ∧ DecTo B b (feedD s l).2 vl vb vt w w'
theorem feed_any {B b : Nat} {s : Dc} {vl vb vt : Value} (t : ByteArray) {w : World} (h : Dec B b s vl vb vt w) (n : Nat) (hf : s.Fit n) (hn : n + t.size ≤ 1048575) (hl : Lim s) (hv : ErrV B w) :
    Calls Tryz.prog 12 #[ptr b, .string t] w (FeedPost B b s (bs t) vl vb vt w) := by
  by_cases hb : s.bad = 0
  · exact feed_go t h n hf hn hl hv hb
  · refine (feed_flaw t h hb).mono ?_
    rintro e w' ⟨rfl, hw⟩
    unfold FeedPost
    rw [feed_bad s (bs t) hb]
    exact ⟨rfl, _, _, _, h.below hw, Turn.of hw⟩

set_option maxHeartbeats 2000000 in
set_option maxRecDepth 100000 in
theorem feed_nil (t : ByteArray) (w : World) :
    Calls Tryz.prog 12 #[.pointer none, .string t] w fun e w' => e = .returned (.tuple #[.int .i64 0, .int .i64 400]) ∧ Below w.heap.size w w' := by
  go_enter_defers Tryz.func12, Tryz.ntmps12
  go_wp2_with fail
  refine (made_nil _).mono ?_
  rintro e w' ⟨rfl, rfl⟩
  go_wp2_with fail
  simp [bodyPostD, Leaves, results, Tryz.results12, go_sem]
  exact (((Below.refl _ _).alloc (Nat.le_refl _) _).alloc (by simp) _)

set_option maxHeartbeats 1000000 in
set_option maxRecDepth 100000 in
theorem roomy_any (w : World) :
    Calls Tryz.prog 11 #[] w fun e w' => e = .returned (.agg #[.int .i64 200, .int .i64 1000, .int .i64 30, .int .i64 1000]) ∧ Below w.heap.size w w' := by
  go_enter Tryz.func11, Tryz.ntmps11
  go_wp2
  refine bodyPost_ret (v := .agg #[.int .i64 200, .int .i64 1000, .int .i64 30, .int .i64 1000]) ?_ rfl ⟨rfl, ?_⟩
  · simp [results, Tryz.results11, go_sem]
  · first | exact Below.refl _ _ | exact (Below.refl _ _).alloc (Nat.le_refl _) _

theorem DecTo.below {B b : Nat} {s s' : Dc} {vl vb vt : Value} {w w' : World} (hd : Dec B b s vl vb vt w) (h : DecTo B b s' vl vb vt w w') : Below B w w' := by
  obtain ⟨_, _, _, _, ht⟩ := h
  exact ht.toBelow hd

def livesB : Bs := [51, 13, 10, 97, 98, 99, 13, 10, 48, 13, 10, 13, 10, 120]
set_option maxRecDepth 100000 in
theorem lives_feed : (feedD roomD livesB).1 = 13 ∧ (feedD roomD livesB).2.bad = 0 ∧ (feedD roomD livesB).2.mode = 5 ∧ (feedD roomD livesB).2.body = [97, 98, 99] := by decide +kernel
theorem room_lim : Lim roomD := by unfold Lim; decide

set_option maxHeartbeats 4000000 in
set_option maxRecDepth 100000 in
theorem lives05_any (w : World) (hv : ErrV w.heap.size w) :
    Calls Tryz.prog 4 #[] w (Yes2 w) := by
  have HV := Lib.hid hv
  obtain ⟨q1, q2, q3, q4⟩ := lives_feed
  clear hv
  go_enter Tryz.func4, Tryz.ntmps4
  go_wp2_with fail
  refine (roomy_any _).mono ?_
  rintro e w1 ⟨rfl, hb1⟩
  have HB1 := Lib.hid hb1
  clear hb1
  go_wp2_with fail
  refine (new_any 200 1000 30 1000 200 1000 30 1000 w.heap.size w1 HB1.out.size rfl rfl rfl rfl).mono ?_
  rintro e w2 ⟨b, rfl, hb, hd, hbel⟩
  have HB2 := Lib.hid (HB1.out.trans (hbel.mono HB1.out.size))
  have HD2 := Lib.hid (show Dec w.heap.size b roomD (.slice none 0 0) (.slice none 0 0) (.slice none 0 0) w2 from hd)
  clear hd hb hbel
  unfold ptr
  go_wp2_with fail
  refine (feed_any ⟨#[51, 13, 10, 97, 98, 99, 13, 10, 48, 13, 10, 13, 10, 120]⟩ HD2.out 0 (newD_fit 200 1000 30 1000) (by decide) room_lim (HV.out.later HB2.out)).mono ?_
  unfold FeedPost
  rw [show bs ⟨#[51, 13, 10, 97, 98, 99, 13, 10, 48, 13, 10, 13, 10, 120]⟩ = livesB from rfl, q1, q2]
  rintro e w3 ⟨rfl, hd3⟩
  have HB3 := Lib.hid (HB2.out.trans (DecTo.below HD2.out hd3))
  obtain ⟨v1, v2, v3, hd, -⟩ := hd3
  have HD3 := Lib.hid hd
  have D := Lib.hid (done_yes hd q3)
  have HBd := Lib.hid (body_any hd)
  rw [q4] at HBd
  have hbq : ((mkS [97, 98, 99]).toList == ([97, 98, 99] : List UInt8)) = true := by decide +kernel
  clear hd q1 q2 q3 q4
  go_wp2_with fail
  refine D.out.mono ?_
  rintro e w4 ⟨rfl, rfl⟩
  go_wp2_with fail
  refine HBd.out.mono ?_
  rintro e w5 ⟨rfl, rfl⟩
  go_wp2_with fail
  go_ret
  exact ⟨rfl, HB3.out⟩
end Tk
end Go.Proofs.YtanilbckakoogaaGreatDoor
