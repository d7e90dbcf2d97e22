/- ChkJ FldN ChkL TokA TokB TokC Same Join FldV FldW Num0 FrmP Sta0, put together. -/
import Derived.Test.YtpcdaaijlgilkaaGreatDoorQC
import Derived.Deep.RegionHeld3
import Derived.Test.YtpcdaaijlgilkaaGreatDoorQA
import Derived.Laws.StructEq
import Derived.IntWalk
import Derived.Deep.QuietTactic
import Derived.BigQuiet
import Derived.Laws.AppendOwnNone
import Derived.BigFrame
import Derived.Deep.Onto
import Derived.Lib.Join
namespace Go.Proofs.YtpcdaaijlgilkaaGreatDoor
open Go.RowKit
namespace Tk

theorem stV_store (b m : Nat) (a : Addr) (md : Mode) (w : World) : (store a (stV b m) md).run Tryz.prog w = stored Tryz.prog w a (stV b m) md :=
  run_store _ _ _ _ _ (by unfold stV; split <;> rfl)

set_option maxHeartbeats 2000000 in
set_option maxRecDepth 100000 in
theorem feed_flaw {B b : Nat} {s : Dc} {vl vb vt : Value} (t : ByteArray) {w : World} (h : Dec B b s vl vb vt w) (hb : s.bad ≠ 0) :
    Calls Tryz.prog 93 #[ptr b, .string t] w fun e w' => e = .returned (.tuple #[.int .i64 0, .int .i64 s.bad]) ∧ Below w.heap.size w w' := by
  have h1 : Below w.heap.size w ((w.alloc (.cells #[.pointer (some ⟨b, 0, none⟩)] 68)).alloc (.cells #[.int .i64 0] 3)) := ((Below.refl _ _).alloc (Nat.le_refl _) _).alloc (by simp) _
  have hd := h.below h1
  have k6 : ((w.alloc (.cells #[.pointer (some ⟨b, 0, none⟩)] 68)).alloc (.cells #[.int .i64 0] 3)).cell? ⟨b, 6, none⟩ = some (.int .i64 s.bad) := hd.cell 6 _ rfl
  have kd : ((w.alloc (.cells #[.pointer (some ⟨b, 0, none⟩)] 68)).alloc (.cells #[.int .i64 0] 3)).cell? ⟨w.heap.size, 0, none⟩ = some (.pointer (some ⟨b, 0, none⟩)) := by simp [go_sem]
  have HD := Lib.hid hd
  have HB := Lib.hid h1
  have hn : ((s.bad : Int) != 0) = true := by simp [hb]
  have hne : b ≠ w.heap.size + 1 := by have := h.lt; omega
  clear h hd h1 hb
  unfold ptr
  go_enter_defers Tryz.func93, Tryz.ntmps93
  go_wp2_with fail
  refine (made_any HD.out).mono ?_
  rintro e w' ⟨rfl, rfl⟩
  go_wp2_with fail
  go_region
  all_goals
    go_wp2_with fail
    simp [bodyPostD, Leaves, results, Tryz.results93, go_sem]
    exact (((Below.refl _ _).alloc (Nat.le_refl _) _).alloc (by simp) _).drew

theorem errv_draws {B : Nat} {w : World} (h : ErrV B w) (n : Nat) : ErrV B (w.drewN n) := h.later ⟨rfl, rfl, rfl, Nat.le_refl _, fun _ _ => rfl⟩
/-- the boxes of Feed, behind what a decoder turned -/
theorem Turn.box {b : Nat} {vl vb vt v1 v2 v3 : Value} {w w' : World} (h : Turn b vl vb vt v1 v2 v3 w w') {k : Nat} (hk : k < w.heap.size ∧ ¬ Mine b vl vb vt k) (o : Nat) :
    w'.cell? ⟨k, o, none⟩ = w.cell? ⟨k, o, none⟩ ∧ w'.frozen? ⟨k, o, none⟩ = w.frozen? ⟨k, o, none⟩ :=
  ⟨World.cell?_of_block (w := w) (h.block k hk.1 hk.2), World.frozen?_of_block (w := w) (h.block k hk.1 hk.2)⟩

theorem leaves_tmps {P : Program} {fn : Func} {R : Ending → World → Prop} {T T' : Array Value} (h : results fn T = results fn T') : ∀ (ds : List Deferred) (u : FrameMode) (w : World), Leaves P fn T R ds u w → Leaves P fn T' R ds u w
  | [], .returning, w, hl => by
    obtain ⟨v, h1, h2⟩ := hl
    exact ⟨v, by rw [← h]; exact h1, h2⟩
  | [], .panicking chain, w, hl => hl
  | [], .run, w, hl => hl
  | d :: ds, u, w, hl => by
    obtain ⟨hu, fv, cap, f, args, ht, hi, hc⟩ := hl
    refine ⟨hu, fv, cap, f, args, ht, hi, hc.mono fun e u' w' he => ?_⟩
    cases e with
    | returned v => exact leaves_tmps h ds _ _ he
    | panicked chain => exact leaves_tmps h ds _ _ he
    | outgrown => exact he
theorem res_feed (T : Array Value) (k : Nat) (v : Value) (h4 : k ≠ 4) (h5 : k ≠ 5) : results Tryz.f93 (T.setIfInBounds k v) = results Tryz.f93 T := by
  unfold results
  rw [Tryz.results93]
  simp [Array.getElem?_setIfInBounds_ne h4, Array.getElem?_setIfInBounds_ne h5]
theorem post_put {R : Ending → World → Prop} (k : Nat) (h4 : k ≠ 4) (h5 : k ≠ 5) (c : List PanicEntry) (a : Act) (v : Value) (w : World) (h : bodyPostD Tryz.prog Tryz.f93 R (.panic c) (a.put (some k) v) w) : bodyPostD Tryz.prog Tryz.f93 R (.panic c) a w :=
  leaves_tmps (res_feed a.tmps k v h4 h5) a.defers (.panicking c) w h

theorem stV_form (b m : Nat) : stV b m = .nilFunc ∨ ∃ F, stV b m = .func (.func F) #[ptr b] #[] := by
  unfold stV; split <;> first | exact .inl rfl | exact .inr ⟨_, rfl⟩
theorem Turn.aside {b : Nat} {vl vb vt v1 v2 v3 : Value} {w w' : World} (h : Turn b vl vb vt v1 v2 v3 w w') {k : Nat} (hk : w.heap.size ≤ k) (o : Nat) (u : Value) : Turn b vl vb vt v1 v2 v3 w (w'.setCell ⟨k, o, none⟩ u) :=
  ⟨h.os, h.tape, h.output, by simpa using h.size, fun j hj hm => (Below.heap_setCell _ _ _ _ (by show j ≠ k; omega)).trans (h.block j hj hm), h.new⟩
theorem Dec.aside {B b : Nat} {s : Dc} {vl vb vt : Value} {w : World} (h : Dec B b s vl vb vt w) {k : Nat} (hk : ¬ Mine b vl vb vt k) (o : Nat) (u : Value) : Dec B b s vl vb vt (w.setCell ⟨k, o, none⟩ u) :=
  h.same fun j hj => Below.heap_setCell _ _ _ _ (by show j ≠ k; rintro rfl; exact hk hj)
/-- a block that was not there when the call began, and none of its own then, is none of its own now -/
theorem Turn.not_mine {b : Nat} {vl vb vt v1 v2 v3 : Value} {w w' : World} (h : Turn b vl vb vt v1 v2 v3 w w') {k : Nat} (hk : k < w.heap.size ∧ ¬ Mine b vl vb vt k) : ¬ Mine b v1 v2 v3 k := fun hm => by
  rcases h.new k hm with h1 | h1
  · exact hk.2 h1
  · omega

set_option maxHeartbeats 8000000 in
set_option maxRecDepth 100000 in
theorem feed_go {B b : Nat} {s : Dc} {vl vb vt : Value} (t : ByteArray) {w : World} (h : Dec B b s vl vb vt w) (n : Nat) (hf : s.Fit n) (hn : n + t.size ≤ 1048575) (hl : Lim s) (hv : ErrV B w) (hb0 : s.bad = 0) :
    Calls Tryz.prog 93 #[ptr b, .string t] w fun e w' => e = .returned (.tuple #[.int .i64 (feedD s (bs t)).1, .int .i64 (feedD s (bs t)).2.bad]) ∧ DecTo B b (feedD s (bs t)).2 vl vb vt w w' := by
  have hmf : ∀ (fn : Fn) (first cap : Array Value) (w : World), (Instr.makeFunc fn first cap).run Tryz.prog w = .ok (.func fn first cap) w := fun _ _ _ _ => rfl
  have h1 : Below w.heap.size w ((w.alloc (.cells #[.pointer (some ⟨b, 0, none⟩)] 68)).alloc (.cells #[.int .i64 0] 3)) := ((Below.refl _ _).alloc (Nat.le_refl _) _).alloc (by simp) _
  have hd := h.below h1
  have hm : ∀ k, w.heap.size ≤ k → ¬ Mine b vl vb vt k := fun k hk hm => by have := (h.mineLt k hm).2; omega
  have k6 : ((w.alloc (.cells #[.pointer (some ⟨b, 0, none⟩)] 68)).alloc (.cells #[.int .i64 0] 3)).cell? ⟨b, 6, none⟩ = some (.int .i64 0) := hd.cell 6 _ (by show some (Value.int .i64 (s.bad : Int)) = _; rw [hb0]; rfl)
  have kd : ((w.alloc (.cells #[.pointer (some ⟨b, 0, none⟩)] 68)).alloc (.cells #[.int .i64 0] 3)).cell? ⟨w.heap.size, 0, none⟩ = some (.pointer (some ⟨b, 0, none⟩)) := by simp [go_sem]
  have ks : ((w.alloc (.cells #[.pointer (some ⟨b, 0, none⟩)] 68)).alloc (.cells #[.int .i64 0] 3)).cell? ⟨w.heap.size + 1, 0, none⟩ = some (.int .i64 0) := by simp [go_sem]
  have fs : ((w.alloc (.cells #[.pointer (some ⟨b, 0, none⟩)] 68)).alloc (.cells #[.int .i64 0] 3)).frozen? ⟨w.heap.size + 1, 0, none⟩ = false := by simp [go_sem]
  have HG := Lib.hid (show w.heap.size < ((w.alloc (.cells #[.pointer (some ⟨b, 0, none⟩)] 68)).alloc (.cells #[.int .i64 0] 3)).heap.size ∧ ¬ Mine b vl vb vt w.heap.size from ⟨by simp; omega, hm _ (Nat.le_refl _)⟩)
  have HS := Lib.hid (show w.heap.size + 1 < ((w.alloc (.cells #[.pointer (some ⟨b, 0, none⟩)] 68)).alloc (.cells #[.int .i64 0] 3)).heap.size ∧ ¬ Mine b vl vb vt (w.heap.size + 1) from ⟨by simp, hm _ (Nat.le_succ _)⟩)
  have HD0 := Lib.hid hd
  have HT0 := Lib.hid (Turn.of (b := b) (vl := vl) (vb := vb) (vt := vt) h1)
  have HV0 := Lib.hid (hv.later (h1.mono hv.2.1))
  have HF := Lib.hid hf
  have HL := Lib.hid hl
  have HN := Lib.hid hn
  have hts : t.size ≤ 1048575 := by omega
  have hne : b ≠ w.heap.size + 1 := by have := h.lt; omega
  have HB0 := Lib.hid hb0
  have HLen := Lib.hid (length_bs t)
  clear h hd h1 hm hf hl hv hn hb0
  unfold ptr
  go_enter_defers Tryz.func93, Tryz.ntmps93
  go_wp2_with fail
  generalize (w.alloc (.cells #[.pointer (some ⟨b, 0, none⟩)] 68)).alloc (.cells #[.int .i64 0] 3) = W2 at *
  generalize hgs : w.heap.size + 1 = gs at *
  have HGs := Lib.hid (show w.heap.size ≤ gs by omega)
  clear hgs
  generalize w.heap.size = g at HG kd ⊢
  refine (made_any HD0.out).mono ?_
  rintro e w' ⟨rfl, rfl⟩
  have KD := Lib.hid kd
  have KS := Lib.hid ks
  have FS := Lib.hid fs
  go_wp2_with fail
  clear kd ks fs k6
  go_loopw [4] (fun vn wr => ∃ (i : Nat) (si : Dc) (u1 u2 u3 : Value), i ≤ t.size ∧ vn = .int .i64 i ∧ Hid (Eats s ((bs t).take i) si ∧ si.bad = 0) ∧ Hid (Dec B b si u1 u2 u3 wr) ∧ Hid (Turn b vl vb vt u1 u2 u3 w' wr)) (fun vn _ => t.size - (RowKit.intOf vn).toNat)
  case atStart => exact ⟨0, s, vl, vb, vt, Nat.zero_le _, rfl, Lib.hid ⟨Eats.nil s, HB0.out⟩, HD0, Lib.hid Turn.refl⟩
  case round =>
    obtain ⟨i, si, u1, u2, u3, hi, rfl, HE, HD, HT⟩ := hrel
    rename World => W
    have kd : W.cell? ⟨g, 0, none⟩ = some (.pointer (some ⟨b, 0, none⟩)) := (HT.out.box HG.out 0).1.trans KD.out
    have ks : W.cell? ⟨gs, 0, none⟩ = some (.int .i64 0) := (HT.out.box HS.out 0).1.trans KS.out
    have fs : W.frozen? ⟨gs, 0, none⟩ = false := (HT.out.box HS.out 0).2.trans FS.out
    have k5 : W.cell? ⟨b, 5, none⟩ = some (stV b si.mode) := HD.out.cell 5 _ rfl
    have hfit := eats_fit HF.out (by rw [HLen.out]; exact hi) HE.out.1
    have hmode := hfit.mode
    have HFit := Lib.hid hfit
    clear hfit
    by_cases hend : i < t.size ∧ si.mode < 5
    · obtain ⟨hlt, hm5⟩ := hend
      have hgd : (bs t).getD i 0 = t[i] := by
        have := bs_drop t i hlt
        have h2 : (bs t).drop i = (bs t).getD i 0 :: (bs t).drop (i + 1) := drop_cons (bs t) i (by rw [HLen.out]; exact hlt)
        rw [h2] at this
        injection this
      have hE1 := eats_next (by rw [HLen.out]; exact hlt) HE.out.1 ((stop_false si).2 ⟨by omega, HE.out.2⟩)
      rw [hgd] at hE1
      have HE1 := Lib.hid hE1
      have hv : ErrV B W := HV0.out.later (HT.out.toBelow HD0.out)
      obtain ⟨F, hF, hent, hc⟩ := state_any t[i] (show Dec B b si u1 u2 u3 W.drew from HD.out.draws 1) hm5 HE.out.2 (n + i) HFit.out (by have := HN.out; omega) (HL.out.eats HE.out.1) (errv_draws hv 1)
      rw [hF] at k5
      have HF1 := Lib.hid hF
      have hq := state_neq_func
      have hst := stV_store b
      have HM5 := Lib.hid hm5
      have hi63 : (i : Int) + 1 ≤ 1048575 := by omega
      clear hgd hE1 hv hF hmode
      unfold StepPost at hc
      have HC := Lib.hid hc
      have hwi : IntKind.i64.wrap (i : Int) = (i : Int) := IntWalk.i64_in _ (by omega)
      have hwl : (i : Int) < (t.size : Int) := by omega
      have hwg : (0 : Int) ≤ (i : Int) := by omega
      clear hc hm5
      go_wp2_with fail
      refine wp_region_held_drew (S := fun w' => w'.cell? ⟨g, 0, none⟩ = some (.pointer (some ⟨b, 0, none⟩))) (by kernel_rfl) kd (fun hHeld => ?_)
      refine wpAnyH_take (i := 0) (v := ?_) rfl (by kernel_rfl) (by kernel_rfl) (by kernel_rfl) (fun c a w h => post_put 34 (by decide) (by decide) c a _ w h) (Or.inl ⟨by rfl, ?_⟩) (by assumption) ?_
      case refine_2 => (intro w hSw; (try dsimp only at hSw); go_simp; try with_reducible rfl)
      refine wpAnyH_take (i := 1) (v := ?_) rfl (by kernel_rfl) (by kernel_rfl) (by kernel_rfl) (fun c a w h => post_put 35 (by decide) (by decide) c a _ w h) (Or.inl ⟨by rfl, ?_⟩) (by assumption) ?_
      case refine_2 => (intro w hSw; (try dsimp only at hSw); go_simp; try with_reducible rfl)
      refine wpAnyH_take (i := 2) (v := ?_) rfl (by kernel_rfl) (by kernel_rfl) (by kernel_rfl) (fun c a w h => post_put 36 (by decide) (by decide) c a _ w h) (Or.inl ⟨by rfl, ?_⟩) (by assumption) ?_
      case refine_2 => (intro w hSw; (try dsimp only at hSw); go_simp; try with_reducible rfl)
      refine wpAnyH_take (i := 3) (v := ?_) rfl (by kernel_rfl) (by kernel_rfl) (by kernel_rfl) (fun c a w h => post_put 37 (by decide) (by decide) c a _ w h) (Or.inl ⟨by rfl, ?_⟩) (by assumption) ?_
      case refine_2 => (intro w hSw; (try dsimp only at hSw); go_simp; try with_reducible rfl)
      refine wpAnyH_take (i := 5) (v := ?_) rfl (by kernel_rfl) (by kernel_rfl) (by kernel_rfl) (fun c a w h => post_put 39 (by decide) (by decide) c a _ w h) (Or.inl ⟨by rfl, ?_⟩) (by assumption) ?_
      case refine_2 => (intro w hSw; (try dsimp only at hSw); go_simp; try with_reducible rfl)
      refine wpAnyH_take (i := 6) (v := ?_) rfl (by kernel_rfl) (by kernel_rfl) (by kernel_rfl) (fun c a w h => post_put 40 (by decide) (by decide) c a _ w h) (Or.inl ⟨by rfl, ?_⟩) (by assumption) ?_
      case refine_2 => (intro w hSw; (try dsimp only at hSw); go_simp; try with_reducible rfl)
      refine wpAnyH_take (i := 7) (v := ?_) rfl (by kernel_rfl) (by kernel_rfl) (by kernel_rfl) (fun c a w h => post_put 41 (by decide) (by decide) c a _ w h) (Or.inl ⟨by rfl, ?_⟩) (by assumption) ?_
      case refine_2 => (intro w hSw; (try dsimp only at hSw); go_simp; try with_reducible rfl)
      refine wpAnyH_take (i := 8) (v := ?_) rfl (by kernel_rfl) (by kernel_rfl) (by kernel_rfl) (fun c a w h => post_put 42 (by decide) (by decide) c a _ w h) (Or.inl ⟨by rfl, ?_⟩) (by assumption) ?_
      case refine_2 => (intro w hSw; (try dsimp only at hSw); go_simp; try with_reducible rfl)
      refine wpAnyH_ready (rs := [4]) (by kernel_rfl) (by simp) ?_
      refine AllReadyH.cons rfl (fun K hK => ?_) AllReadyH.nil
      go_simp
      refine hK.out _ _ (by assumption) (fun hHeld2 => ?_)
      clear hK K hHeld
      refine wpAnyH_ready (rs := [9]) (by kernel_rfl) (by simp) ?_
      refine AllReadyH.cons rfl (fun K hK => ?_) AllReadyH.nil
      go_simp
      refine HC.out.mono ?_
      rintro e w2 ⟨rfl, hd⟩
      have HD2 := Lib.hid hd
      obtain ⟨v1, v2, v3, hd1, ht1⟩ := hd
      have HT1 := Lib.hid (HT.out.trans ((Turn.draws _ _ _ _ _ 1).trans ht1))
      have kd2 : w2.cell? ⟨g, 0, none⟩ = some (.pointer (some ⟨b, 0, none⟩)) := (HT1.out.box HG.out 0).1.trans KD.out
      have ks2 : w2.cell? ⟨gs, 0, none⟩ = some (.int .i64 0) := (HT1.out.box HS.out 0).1.trans KS.out
      have fs2 : w2.frozen? ⟨gs, 0, none⟩ = false := (HT1.out.box HS.out 0).2.trans FS.out
      have hmb : (stepM si t[i]).mode = si.mode := rfl
      have hbb : (stepM si t[i]).bad = 0 := HE.out.2
      by_cases hbad : (stepD si t[i]).bad = 0
      · have hE : stepE b si t[i] = .returned (stV b (stepD si t[i]).mode) := by unfold stepE; rw [if_pos hbad]
        rw [hE]
        have hd5 := hd1.set 5 (stV b (stepD si t[i]).mode) (stepD si t[i]) (by unfold dcells stepM; rw [hbad]; simp only [HE.out.2]; rfl) rfl rfl rfl
        have j5 : w2.cell? ⟨b, 5, none⟩ = some (.func (.func F) #[.pointer (some ⟨b, 0, none⟩)] #[]) := hd1.cell 5 _ (by show some (stV b si.mode) = _; rw [HF1.out])
        have f5 : w2.frozen? ⟨b, 5, none⟩ = false := hd1.frz 5
        have HX := Lib.hid (show Hid (Eats s ((bs t).take (i + 1)) (stepD si t[i]) ∧ (stepD si t[i]).bad = 0) ∧ Hid (Dec B b (stepD si t[i]) v1 v2 v3 (w2.setCell ⟨b, 5, none⟩ (stV b (stepD si t[i]).mode))) ∧ Hid (Turn b vl vb vt v1 v2 v3 w' (w2.setCell ⟨b, 5, none⟩ (stV b (stepD si t[i]).mode))) from ⟨⟨HE1.out, hbad⟩, hd5, HT1.out.trans (Turn.set 5 _)⟩)
        have kd3 : (w2.setCell ⟨b, 5, none⟩ (stV b (stepD si t[i]).mode)).cell? ⟨g, 0, none⟩ = some (.pointer (some ⟨b, 0, none⟩)) := (((HT1.out.trans (Turn.set 5 (stV b (stepD si t[i]).mode)))).box HG.out 0).1.trans KD.out
        clear hd1 ht1 hd5 hmb hbb
        show K _ _
        refine hK.out _ _ (by assumption) (fun hHeld3 => ?_)
        clear hK K hHeld2
        generalize (stepD si t[i]) = sn at *
        have hV := stV_form b sn.mode
        generalize stV b sn.mode = V at *
        rcases hV with rfl | ⟨F2, rfl⟩
        all_goals
          refine wpAnyH_take (i := 10) (v := ?_) rfl (by kernel_rfl) (by kernel_rfl) (by kernel_rfl) (fun c a w h => post_put 44 (by decide) (by decide) c a _ w h) (Or.inl ⟨by rfl, ?_⟩) (by assumption) ?_
          case refine_2 => (intro w hSw; (try dsimp only at hSw); go_simp; try with_reducible rfl)
          refine wpAnyH_take (i := 11) (v := ?_) rfl (by kernel_rfl) (by kernel_rfl) (by kernel_rfl) (fun c a w h => post_put 45 (by decide) (by decide) c a _ w h) (Or.inl ⟨by rfl, ?_⟩) (by assumption) ?_
          case refine_2 => (intro w hSw; (try dsimp only at hSw); go_simp; try with_reducible rfl)
          refine wpAnyH_ready (rs := [12]) (by kernel_rfl) (by simp) ?_
          refine AllReadyH.cons rfl (fun K hK => ?_) AllReadyH.nil
          go_simp
          refine hK.out _ _ (by assumption) (fun hHeld4 => ?_)
          clear hK K
          refine wpAnyH_done (by kernel_rfl) ?_ _
          go_wp2_with fail
          exact ⟨⟨i + 1, sn, v1, v2, v3, by omega, by go_num, HX.out.1, HX.out.2.1, HX.out.2.2⟩, by simp [RowKit.intOf]; omega⟩
      · have hE : stepE b si t[i] = .panicked (flawP (stepD si t[i]).bad) := by unfold stepE; rw [if_neg hbad]
        rw [hE]
        have hfin := eats_end (by rw [HLen.out]; omega) HE1.out (.inl ((stop_iff _).2 (.inr hbad)))
        have hmd := stepD_bad si t[i] HE.out.2 hbad
        have k6 : w2.cell? ⟨b, 6, none⟩ = some (.int .i64 ((stepM si t[i]).bad : Int)) := hd1.cell 6 _ rfl
        have f6 : w2.frozen? ⟨b, 6, none⟩ = false := hd1.frz 6
        have hd6 := hd1.set 6 (.int .i64 ((stepD si t[i]).bad : Int)) (stepD si t[i]) (by unfold dcells stepM; rw [hmd]; rfl) rfl rfl rfl
        have ht6 := HT1.out.trans (Turn.set (b := b) (vl := v1) (vb := v2) (vt := v3) (w := w2) 6 (.int .i64 ((stepD si t[i]).bad : Int)))
        have hr : DecTo B b (feedD s (bs t)).2 vl vb vt w ((w2.setCell ⟨b, 6, none⟩ (.int .i64 ((stepD si t[i]).bad : Int))).setCell ⟨gs, 0, none⟩ (.int .i64 ((stepD si t[i]).bad : Int))) := by
          rw [hfin]
          exact ⟨v1, v2, v3, hd6.aside (ht6.not_mine HS.out) 0 _, (HT0.out.trans ht6).aside HGs.out 0 _⟩
        have HR := Lib.hid hr
        have hcells : ((w2.setCell ⟨b, 6, none⟩ (.int .i64 ((stepD si t[i]).bad : Int))).setCell ⟨gs, 0, none⟩ (.int .i64 ((stepD si t[i]).bad : Int))).cell? ⟨gs, 0, none⟩ = some (.int .i64 ((stepD si t[i]).bad : Int)) := by
          have := (ht6.box HS.out 0).1.trans KS.out
          exact World.cell?_setCell_same _ _ _ this
        rw [hfin] at HR
        show Leaves _ _ _ _ _ _ _
        rw [hfin]
        refine leaves_cons (f := 120) (args := #[.pointer (some ⟨g, 0, none⟩), .pointer (some ⟨gs, 0, none⟩)]) (by simp) (by simp [go_sem]) ?_
        refine (catch_flaw b g gs _ _ _ [] w2 kd2 k6 f6 ks2 fs2).mono ?_
        rintro e u' w'' ⟨rfl, rfl, rfl⟩
        simp [Leaves, settle, results, Tryz.results93, go_sem, hcells]
        exact HR.out
    · have hend2 : stopD si = true ∨ i = (bs t).length := by
        rw [HLen.out]
        by_cases h5 : si.mode = 5
        · exact .inl ((stop_iff si).2 (.inl h5))
        · right; omega
      have hfin := eats_end (by rw [HLen.out]; exact hi) HE.out.1 hend2
      have hr : DecTo B b (feedD s (bs t)).2 vl vb vt w (W.setCell ⟨gs, 0, none⟩ (.int .i64 0)) := by
        rw [hfin]
        exact ⟨u1, u2, u3, HD.out.aside (HT.out.not_mine HS.out) 0 _, (HT0.out.trans HT.out).aside HGs.out 0 _⟩
      have hcells : (W.setCell ⟨gs, 0, none⟩ (.int .i64 0)).cell? ⟨gs, 0, none⟩ = some (.int .i64 0) := World.cell?_setCell_same _ _ _ ks
      have HR := Lib.hid hr
      have HBad := Lib.hid HE.out.2
      have HFin := Lib.hid hfin
      clear hr hfin hend2
      by_cases hlt : i < t.size
      · have hm5 : si.mode = 5 := by omega
        rw [hm5] at k5
        have hq := state_neq_nil
        have k5' : W.cell? ⟨b, 5, none⟩ = some .nilFunc := k5
        clear hend hm5 k5 hmode
        go_wp2_with fail
        rw [HFin.out]
        refine leaves_cons (f := 120) (args := #[.pointer (some ⟨g, 0, none⟩), .pointer (some ⟨gs, 0, none⟩)]) (by simp) (by simp [go_sem]) ?_
        refine (catch_idle g gs _).mono ?_
        rintro e u' w'' ⟨rfl, rfl, rfl⟩
        simp [Leaves, settle, results, Tryz.results93, go_sem, hcells]
        exact ⟨by rw [HBad.out]; rfl, by have := HR.out; rw [HFin.out] at this; exact this⟩
      · clear hend hmode
        go_wp2_with fail
        rw [HFin.out]
        refine leaves_cons (f := 120) (args := #[.pointer (some ⟨g, 0, none⟩), .pointer (some ⟨gs, 0, none⟩)]) (by simp) (by simp [go_sem]) ?_
        refine (catch_idle g gs _).mono ?_
        rintro e u' w'' ⟨rfl, rfl, rfl⟩
        simp [Leaves, settle, results, Tryz.results93, go_sem, hcells]
        exact ⟨by rw [HBad.out]; rfl, by have := HR.out; rw [HFin.out] at this; exact this⟩
end Tk
end Go.Proofs.YtpcdaaijlgilkaaGreatDoor
namespace Go.Proofs.YtpcdaaijlgilkaaGreatDoor
open Go.RowKit
namespace Tk

theorem noStand : Tryz.prog.stoodInHeld 84 = false := by kernel_rfl
theorem field_eql (W : World) (a b c d : ByteArray) : (binOp .eql 84 (.agg #[.string a, .string b]) (.agg #[.string c, .string d])).run Tryz.prog W = .ok (.bool (a.toList == c.toList && b.toList == d.toList)) W := by
  rw [run_eql_struct, run_equalIn_agg _ _ _ _ _ (by simp [Program.fieldsOf, Tryz.underlying84]) noStand]
  simp [Program.fieldsOf, Tryz.underlying84, Op.eqFields, go_sem]
  by_cases h1 : a.toList = c.toList <;> by_cases h2 : b.toList = d.toList <;> simp [h1, h2]

/-- may the fields be gone through: so many bytes together -/
def lfGo (b : Nat) : Nat → List (Bs × Bs) → Bool
  | _, [] => true
  | n, f :: t => if b < n + f.1.length + f.2.length then false else lfGo b (n + f.1.length + f.2.length) t
def lightF (l : List (Bs × Bs)) : Bool := decide (l.length ≤ 30) && lfGo 600 0 l
theorem lfGo_sum (b : Nat) : ∀ (l : List (Bs × Bs)) (n : Nat), n ≤ b → lfGo b n l = true → n + sumF l ≤ b + 4 * l.length
  | [], n, hn, _ => by simp [sumF]; exact hn
  | f :: t, n, hn, h => by
    unfold lfGo at h
    split at h
    · cases h
    · have := lfGo_sum b t (n + f.1.length + f.2.length) (by omega) h
      unfold sumF; simp only [List.length_cons]; omega
theorem lightF_parts (l : List (Bs × Bs)) (h : lightF l = true) : l.length ≤ 30 ∧ sumF l ≤ 720 := by
  unfold lightF at h
  rw [Bool.and_eq_true, decide_eq_true_eq] at h
  have := lfGo_sum 600 l 0 (by omega) h.2
  exact ⟨h.1, by omega⟩

theorem ex_line1 : lnN [65, 58, 32, 32, 98, 32] = [65] ∧ lnV [65, 58, 32, 32, 98, 32] = [98] ∧ lnE [65, 58, 32, 32, 98, 32] = 0 := by decide +kernel
theorem ex_line2 : lnN [65, 32, 58, 32, 98] = [] ∧ lnV [65, 32, 58, 32, 98] = [] ∧ lnE [65, 32, 58, 32, 98] = 4 := by decide +kernel
def Yes2 (w : World) (r : Ending) (w' : World) : Prop := r = .returned (.bool true) ∧ Below w.heap.size w w'

end Tk
end Go.Proofs.YtpcdaaijlgilkaaGreatDoor
namespace Go.Proofs.YtpcdaaijlgilkaaGreatDoor
open Go.RowKit
namespace Tk

def FeedPost (B b : Nat) (s : Dc) (l : Bs) (vl vb vt : Value) (w : World) (e : Ending) (w' : World) : Prop :=
  e = .returned (.tuple #[.int .i64 (feedD s l).1, .int .i64 (feedD s l).2.bad]) ∧ DecTo B b (feedD s l).2 vl vb vt w w'
theorem feed_any {B b : Nat} {s : Dc} {vl vb vt : Value} (t : ByteArray) {w : World} (h : Dec B b s vl vb vt w) (n : Nat) (hf : s.Fit n) (hn : n + t.size ≤ 1048575) (hl : Lim s) (hv : ErrV B w) :
    Calls Tryz.prog 93 #[ptr b, .string t] w (FeedPost B b s (bs t) vl vb vt w) := by
  by_cases hb : s.bad = 0
  · exact feed_go t h n hf hn hl hv hb
  · refine (feed_flaw t h hb).mono ?_
    rintro e w' ⟨rfl, hw⟩
    unfold FeedPost
    rw [feed_bad s (bs t) hb]
    exact ⟨rfl, _, _, _, h.below hw, Turn.of hw⟩

set_option maxHeartbeats 2000000 in
set_option maxRecDepth 100000 in
theorem feed_nil (t : ByteArray) (w : World) :
    Calls Tryz.prog 93 #[.pointer none, .string t] w fun e w' => e = .returned (.tuple #[.int .i64 0, .int .i64 400]) ∧ Below w.heap.size w w' := by
  go_enter_defers Tryz.func93, Tryz.ntmps93
  go_wp2_with fail
  refine (made_nil _).mono ?_
  rintro e w' ⟨rfl, rfl⟩
  go_wp2_with fail
  simp [bodyPostD, Leaves, results, Tryz.results93, go_sem]
  exact (((Below.refl _ _).alloc (Nat.le_refl _) _).alloc (by simp) _)

set_option maxHeartbeats 1000000 in
set_option maxRecDepth 100000 in
theorem roomy_any (w : World) :
    Calls Tryz.prog 10 #[] w fun e w' => e = .returned (.agg #[.int .i64 200, .int .i64 1000, .int .i64 30, .int .i64 1000]) ∧ Below w.heap.size w w' := by
  go_enter Tryz.func10, Tryz.ntmps10
  go_wp2
  refine bodyPost_ret (v := .agg #[.int .i64 200, .int .i64 1000, .int .i64 30, .int .i64 1000]) ?_ rfl ⟨rfl, ?_⟩
  · simp [results, Tryz.results10, go_sem]
  · first | exact Below.refl _ _ | exact (Below.refl _ _).alloc (Nat.le_refl _) _

theorem DecTo.below {B b : Nat} {s s' : Dc} {vl vb vt : Value} {w w' : World} (hd : Dec B b s vl vb vt w) (h : DecTo B b s' vl vb vt w w') : Below B w w' := by
  obtain ⟨_, _, _, _, ht⟩ := h
  exact ht.toBelow hd

def livesB : Bs := [51, 13, 10, 97, 98, 99, 13, 10, 48, 13, 10, 13, 10, 120]
set_option maxRecDepth 100000 in
theorem lives_feed : (feedD roomD livesB).1 = 13 ∧ (feedD roomD livesB).2.bad = 0 ∧ (feedD roomD livesB).2.mode = 5 ∧ (feedD roomD livesB).2.body = [97, 98, 99] := by decide +kernel
theorem room_lim : Lim roomD := by unfold Lim; decide

end Tk
end Go.Proofs.YtpcdaaijlgilkaaGreatDoor
namespace Go.Proofs.YtpcdaaijlgilkaaGreatDoor
open Go.RowKit
namespace Tk

set_option maxHeartbeats 400000 in
theorem closing_any (s : ByteArray) (i : Nat) (w : World) (h : s.size ≤ 1099511627776) (hi : i < s.size) :
    Calls Tryz.prog 169 #[.string s, .int .i64 i] w fun r w' => r = .returned (.int .i64 (closing (bs s) i)) ∧ w = w' := by
  have hlen := length_bs s
  have HL := Lib.hid hlen
  clear hlen
  go_enter Tryz.func169, Tryz.ntmps169
  go_wp2_with fail
  go_step3
  go_wp2_with fail
  go_step3
  go_wp2_with fail
  go_loop [5] (fun v => ∃ k : Nat, k ≤ s.size + 1 ∧ v = .int .i64 k ∧ Hid (closing (bs s) i = k + closeLen ((bs s).drop k))) (fun v => (s.size + 2 - (RowKit.intOf v).toNat))
  case atStart => exact ⟨i + 1, by omega, by go_num, rfl⟩
  case round =>
    obtain ⟨k, hk, rfl, hR⟩ := hrel
    by_cases hlt : k < s.size
    · have hdr := drop_cons (bs s) k (by rw [HL.out]; exact hlt)
      rw [getD_bs s k hlt] at hdr
      have HD := Lib.hid hdr
      clear hdr
      go_wp2_with fail
      · have h92 : ((s[k].toNat : Int) == 92) = true := by assumption
        have e := u8_is s[k] 92 (by omega) h92
        refine ⟨⟨k + 2, by omega, by go_num, ?_⟩, by simp [RowKit.intOf]; omega⟩
        show _ = _
        rw [hR.out, closeLen_bs _ (by rw [HD.out, e]; rfl), List.drop_drop]
        omega
      · have h34 : ((s[k].toNat : Int) == 34) = true := by assumption
        have e := u8_is s[k] 34 (by omega) h34
        have fin : closing (bs s) i = k := by
          rw [hR.out, HD.out, e]
          exact (congrArg (k + ·) (closeLen_q _))
        go_ret
        exact ⟨by rw [fin]; rfl, rfl⟩
      · have h92 : ((s[k].toNat : Int) == 92) = false := by assumption
        have h34 : ((s[k].toNat : Int) == 34) = false := by assumption
        refine ⟨⟨k + 1, by omega, by go_num, ?_⟩, by simp [RowKit.intOf]; omega⟩
        show _ = _
        rw [hR.out, HD.out, closeLen_o _ _ (u8_not _ 92 h92 (by omega)) (u8_not _ 34 h34 (by omega))]
        omega
    · have hdr : (bs s).drop k = [] := List.drop_eq_nil_of_le (by rw [HL.out]; omega)
      have fin : closing (bs s) i = k := by rw [hR.out, hdr]; rfl
      have HF := Lib.hid fin
      clear fin hdr
      go_wp2_with fail
      go_ret
      exact ⟨by rw [HF.out]; rfl, rfl⟩
end Tk
end Go.Proofs.YtpcdaaijlgilkaaGreatDoor
namespace Go.Proofs.YtpcdaaijlgilkaaGreatDoor
open Go.RowKit
namespace Tk

set_option maxHeartbeats 400000 in
theorem appendPart_any (base : Nat) (v : Value) (P : List Bs) (s : ByteArray) (w : World) (hown : w.ownsRow base 9 1 v P.length (strs P)) (hB : base ≤ w.heap.size) (hs : s.size ≤ 1099511627776) (hP : P.length ≤ 4398046511104) :
    Calls Tryz.prog 170 #[v, .string s] w (ListPost base (P ++ addP (trimL (bs s))) w) := by
  obtain ⟨i0, hi, hz0, hz1, hz2⟩ := info_parts strInfo
  have HT := Lib.hid (trim_any s w hs)
  have HO := Lib.hid hown
  have hl := trim_sublist (bs s)
  rw [length_bs] at hl
  clear hown
  generalize trimL (bs s) = t at *
  by_cases he : t = []
  · subst he
    have hne : (mkS []).toList.isEmpty = true := by rw [toList_bs]; rfl
    go_enter Tryz.func170, Tryz.ntmps170
    go_wp2_with fail
    refine HT.out.mono ?_
    rintro e w' ⟨rfl, hb⟩
    have HB := Lib.hid hb
    clear hb
    go_wp2_with fail
    go_ret
    refine ⟨v, rfl, ?_, HB.out.mono hB⟩
    have e : P ++ addP [] = P := by simp [addP]
    rw [e]
    exact World.ownsRow.kept HO.out (row := none) ⟨HB.out.os, HB.out.tape, HB.out.output, HB.out.size, fun k hk _ => HB.out.block k hk⟩ (by cases h : v.ownBlock <;> simp)
  · have hne : (mkS t).toList.isEmpty = false := by rw [toList_bs, bs_mkS]; simpa using he
    have hadd : addP t = [t] := by unfold addP; rw [if_neg he]
    go_enter Tryz.func170, Tryz.ntmps170
    go_wp2_with fail
    refine HT.out.mono ?_
    rintro e w' ⟨rfl, hb⟩
    have hown' : w'.ownsRow base 9 1 v P.length (strs P) := World.ownsRow.kept HO.out (row := none) ⟨hb.os, hb.tape, hb.output, hb.size, fun k hk _ => hb.block k hk⟩ (by cases h : v.ownBlock <;> simp)
    have hB' : base ≤ w'.heap.size := Nat.le_trans hB hb.size
    have HB := Lib.hid (hb.mono hB)
    clear hb
    go_wp2_with (at_builtin; refine wpList_append_own _ rfl _ _ 49 rfl base 9 i0 (.string .empty) 1 16 Tryz.underlying49 hi hz0 hz1 hz2 rfl (by decide) _ _ _ rfl (hown'.alloc _) ⟨w'.heap.size, 0, none⟩ 1 1 [.string (mkS t)] rfl rfl ?c1 ?c2 ?c3 ?c4 ?c5 ?_)
    case c1 => exact cell_one_new _ _ _
    case c2 => simp [Value.oneCell']
    case c3 => unfold maxLen; omega
    case c4 => omega
    case c5 => simp; omega
    intro v' w1 hown1 hg1 _
    have hb1 : Below base w w1 := HB.out.trans (((Below.refl base w').alloc hB' _).trans (below_of_grown hg1 (hown'.alloc _) (by simp; omega)))
    have HB1 := Lib.hid hb1
    have HO1 := Lib.hid hown1
    clear hb1 hown1 hg1
    go_wp2_with fail
    go_ret
    refine ⟨v', rfl, ?_, HB1.out⟩
    rw [hadd, List.length_append, strs_append]
    exact HO1.out
end Tk
end Go.Proofs.YtpcdaaijlgilkaaGreatDoor
namespace Go.Proofs.YtpcdaaijlgilkaaGreatDoor
open Go.RowKit
namespace Tk

set_option maxHeartbeats 1000000 in
theorem split_any (s : ByteArray) (w : World) (hs : s.size ≤ 1099511627776) :
    Calls Tryz.prog 160 #[.string s] w (ListPost w.heap.size (splitL (bs s)) w) := by
  have HL := Lib.hid (length_bs s)
  go_enter Tryz.func160, Tryz.ntmps160
  go_wp2_with fail
  go_loopw [3, 4, 5] (fun v vb vi wr => ∃ (i b : Nat) (P : List Bs), i ≤ s.size + 2 ∧ b ≤ s.size ∧ b ≤ i ∧ P.length ≤ i ∧ vi = .int .i64 i ∧ vb = .int .i64 b ∧ Hid (wr.ownsRow w.heap.size 9 1 v P.length (strs P)) ∧ Hid (Below w.heap.size w wr) ∧ Hid (splitL (bs s) = P ++ splAt (bs s) b i)) (fun _ _ vi _ => s.size + 2 - (RowKit.intOf vi).toNat)
  case atStart => exact ⟨0, 0, [], by omega, by omega, by omega, by simp, rfl, rfl, World.ownsRow_nil _ _ _ _, Below.refl _ _, splAt_start _⟩
  case round =>
    obtain ⟨i, b, P, hi, hb, hbi, hP, rfl, rfl, HO, HB, HS⟩ := hrel
    rename World => W
    rename Value => v
    by_cases hlt : i < s.size
    · have hgd := getD_bs s i hlt
      have HG := Lib.hid hgd
      clear hgd
      have hll : i < (bs s).length := by rw [HL.out]; exact hlt
      have HLL := Lib.hid hll
      clear hll
      go_wp2_with fail
      · have h34 : ((s[i].toNat : Int) == 34) = true := by assumption
        have e := HG.out.trans (u8_is s[i] 34 (by omega) h34)
        have hcl := closeLen_le ((bs s).drop (i + 1))
        rw [List.length_drop, HL.out] at hcl
        have H2 : Hid (splitL (bs s) = P ++ splAt (bs s) b (closing (bs s) i + 1)) := by
          show _ = _
          rw [HS.out, splAt_quote (bs s) b i HLL.out hbi e]; rfl
        have hc0 : i + 1 ≤ closing (bs s) i := by unfold closing; omega
        have hc1 : closing (bs s) i ≤ s.size + 1 := by unfold closing; omega
        clear hcl
        refine (closing_any s i _ hs hlt).mono ?_
        rintro e w' ⟨rfl, rfl⟩
        generalize closing (bs s) i = j at *
        go_wp2_with fail
        go_roundw
        case rel => exact ⟨j + 1, b, P, by omega, by omega, by omega, by omega, by go_num, rfl, HO, HB, H2⟩
        case measure => simp [RowKit.intOf]; omega
      · have h44 : ((s[i].toNat : Int) == 44) = true := by assumption
        have e := HG.out.trans (u8_is s[i] 44 (by omega) h44)
        refine (appendPart_any w.heap.size _ P (s.extract b i) _ HO.out HB.out.size (by rw [← length_bs, bs_extract, List.length_take]; omega) (by omega)).mono ?_
        rintro e w' ⟨v', rfl, ho', hb'⟩
        have H2 : Hid (splitL (bs s) = (P ++ addP (trimL (bs (s.extract b i)))) ++ splAt (bs s) (i + 1) (i + 1)) := by
          show _ = _
          rw [HS.out, splAt_comma (bs s) b i HLL.out e, bs_extract, List.append_assoc]
        have HB2 := Lib.hid (HB.out.trans hb')
        have HO2 := Lib.hid ho'
        clear hb' ho'
        have hlen : (P ++ addP (trimL (bs (s.extract b i)))).length ≤ i + 1 := by
          rw [List.length_append]; unfold addP; split <;> simp <;> omega
        generalize P ++ addP (trimL (bs (s.extract b i))) = P2 at *
        go_wp2_with fail
        go_roundw
        case rel => exact ⟨i + 1, i + 1, P2, by omega, by omega, by omega, by omega, by go_num, by go_num, HO2, HB2, H2⟩
        case measure => simp [RowKit.intOf]; omega
      · have h34 : ((s[i].toNat : Int) == 34) = false := by assumption
        have h44 : ((s[i].toNat : Int) == 44) = false := by assumption
        have n34 : (bs s).getD i 0 ≠ 34 := fun h => u8_not s[i] 34 h34 (by omega) (HG.out.symm.trans h)
        have n44 : (bs s).getD i 0 ≠ 44 := fun h => u8_not s[i] 44 h44 (by omega) (HG.out.symm.trans h)
        refine ⟨⟨i + 1, b, P, by omega, by omega, by omega, by omega, by go_num, rfl, HO, HB, ?_⟩, by simp [RowKit.intOf]; omega⟩
        show _ = _
        rw [HS.out, splAt_other (bs s) b i HLL.out hbi n44 n34]
    · go_wp2_with fail
      refine (appendPart_any w.heap.size _ P (s.extract b s.size) _ HO.out HB.out.size (by rw [← length_bs, bs_extract, List.length_take]; omega) (by omega)).mono ?_
      rintro e w' ⟨v', rfl, ho', hb'⟩
      have H2 : Hid (splitL (bs s) = P ++ addP (trimL (bs (s.extract b s.size)))) := by
        show _ = _
        rw [HS.out, splAt_end (bs s) b i (by rw [HL.out]; omega), bs_extract, List.take_of_length_le (by rw [List.length_drop, HL.out]; exact Nat.le_refl _)]
      have HB2 := Lib.hid (HB.out.trans hb')
      have HO2 := Lib.hid ho'
      clear hb' ho'
      go_wp2_with fail
      go_ret
      refine ⟨v', rfl, ?_, HB2.out⟩
      rw [H2.out]
      exact HO2.out
end Tk
end Go.Proofs.YtpcdaaijlgilkaaGreatDoor
namespace Go.Proofs.YtpcdaaijlgilkaaGreatDoor
open Go.RowKit
namespace Tk

/-- a slice that holds these texts -/
def IsStrs (w : World) (v : Value) (l : List Bs) : Prop :=
  ∃ (a : Option Addr) (c : Nat), v = .slice a l.length c ∧ ∀ j t, l[j]? = some t → ∃ b o, a = some ⟨b, o, none⟩ ∧ w.cell? ⟨b, o + j, none⟩ = some (.string (mkS t))

theorem isStrs_own {w : World} {base : Nat} {v : Value} {l : List Bs} (h : w.ownsRow base 9 1 v l.length (strs l)) : IsStrs w v l := by
  rcases h.2 with ⟨hv, hn⟩ | ⟨g, cap, cur, hv, hb, hg, -⟩
  · exact ⟨none, 0, by rw [hv, hn], fun j t hj => by simp [List.eq_nil_of_length_eq_zero hn] at hj⟩
  · refine ⟨some ⟨g, 0, none⟩, cap, hv, fun j t hj => ⟨g, 0, rfl, ?_⟩⟩
    have := h.cells (g := g) (by rw [hv]; rfl) j (.string (mkS t)) (by simp [strs, hj])
    rw [Nat.zero_add]
    by_cases hj0 : j = 0
    · subst hj0; simpa [Addr.add] using this
    · simpa [Addr.add, hj0] using this

theorem isStrs_later {w w' : World} {v : Value} {l : List Bs} {B : Nat} (h : IsStrs w v l) (hb : Below B w w') (hv : ∀ k, v.ownBlock = some k → k < B) : IsStrs w' v l := by
  obtain ⟨a, c, rfl, hc⟩ := h
  refine ⟨a, c, rfl, fun j t hj => ?_⟩
  obtain ⟨b, o, rfl, h2⟩ := hc j t hj
  exact ⟨b, o, rfl, (hb.cell (p := ⟨b, o + j, none⟩) (hv b rfl)).trans h2⟩

theorem isStrs_lit (w : World) (l : List Bs) (cs : Array Value) (t : TypeId) (c : Nat) (h : cs = (strs l).toArray) : IsStrs (w.alloc (.cells cs t)) (.slice (some ⟨w.heap.size, 0, none⟩) l.length c) l := by
  refine ⟨_, c, rfl, fun j x hj => ⟨w.heap.size, 0, rfl, ?_⟩⟩
  rw [Nat.zero_add, World.cell?_alloc_new, h]
  simp [strs, hj]

theorem isStrs_alloc {w : World} {base : Nat} {v : Value} {l : List Bs} (h : w.ownsRow base 9 1 v l.length (strs l)) (o : Obj) : IsStrs (w.alloc o) v l :=
  isStrs_own (h.alloc o)

end Tk
end Go.Proofs.YtpcdaaijlgilkaaGreatDoor
namespace Go.Proofs.YtpcdaaijlgilkaaGreatDoor
open Go.RowKit
namespace Tk

/-- an owned row in a later world -/
theorem own_later {w w' : World} {B : Nat} {v : Value} {n : Nat} {xs : List Value} {e : TypeId} (h : w.ownsRow B e 1 v n xs) (hb : Below w.heap.size w w') : w'.ownsRow B e 1 v n xs :=
  World.ownsRow.kept h (row := none) ⟨hb.os, hb.tape, hb.output, hb.size, fun k hk _ => hb.block k hk⟩ (by cases h : v.ownBlock <;> simp)

theorem join_run (w : World) (o : Oper) (a : Act) (K : Act → World → Prop) (Q : Exit → Act → World → Prop) (s x : Operand)
    (ho : o.op = .call { callee := .builtin .append, args := #[s, x], argTypes := #[49, 49] })
    (base base2 : Nat) (v v2 : Value) (P R : List Bs) (hs : a.eval s = v) (hx : a.eval x = v2) (h1 : w.ownsRow base 9 1 v P.length (strs P)) (h2 : w.ownsRow base2 9 1 v2 R.length (strs R))
    (hB : base ≤ w.heap.size) (hP : P.length ≤ 1048576) (hR : R.length ≤ 1048576)
    (h : ∀ v' w', w'.ownsRow base 9 1 v' (P ++ R).length (strs (P ++ R)) → Below base w w' → K (a.put o.dst v') w') : o.wp Tryz.prog a w K Q := by
  obtain ⟨i0, hi, hz0, hz1, hz2⟩ := info_parts strInfo
  rcases h2.2 with ⟨hv, hn⟩ | ⟨g, cap, cur, hv, hb, hg, hc⟩
  · have hrun := run_append_owned_none (P := Tryz.prog) (w := w) base 49 o.type 9 i0 1 Tryz.underlying49 hi v P.length (strs P) h1
    have hR0 : R = [] := List.eq_nil_of_length_eq_zero hn
    subst hR0
    unfold Oper.wp
    simp [execOp, ho, resolve, invoke, builtin, hs, hx, hv, hrun, Result.andThen]
    exact h v w (by simpa using h1) (Below.refl _ _)
  · refine wp_append_own (P := Tryz.prog) w s x 49 ho base 9 i0 (.string .empty) 1 16 Tryz.underlying49 hi hz0 hz1 hz2 rfl (by decide) v P.length (strs P) hs h1 ⟨g, 0, none⟩ R.length cap (strs R) (by rw [hx, hv]) (by simp [strs])
      (h2.cells (g := g) (by rw [hv]; rfl)) (fun u hu => by
        simp only [strs, List.mem_map] at hu
        obtain ⟨t, -, rfl⟩ := hu
        rfl) (by unfold maxLen; omega) (by omega) hB ?_
    intro v' w' ho' hg' _
    refine h v' w' ?_ (below_of_grown hg' h1 hB)
    rw [List.length_append, strs_append]
    exact ho'

theorem join_guarded {ops : Array Oper} {rest : List Oper} {w : World} {o : Oper} {a : Act} {Q : Exit → Act → World → Prop} (hw : Region.wanted o (yielded ops a.tmps) = true) (s x : Operand)
    (ho : o.op = .call { callee := .builtin .append, args := #[s, x], argTypes := #[49, 49] })
    (base base2 : Nat) (v v2 : Value) (P R : List Bs) (hs : a.eval s = v) (hx : a.eval x = v2) (h1 : w.ownsRow base 9 1 v P.length (strs P)) (h2 : w.ownsRow base2 9 1 v2 R.length (strs R))
    (hB : base ≤ w.heap.size) (hP : P.length ≤ 1048576) (hR : R.length ≤ 1048576)
    (h : ∀ v' w', w'.ownsRow base 9 1 v' (P ++ R).length (strs (P ++ R)) → Below base w w' → wpList Tryz.prog ops Q rest (a.put o.dst v') w') : wpList Tryz.prog ops Q (o :: rest) a w :=
  BigFrame.wpList_want hw fun K hK => join_run w o a K Q s x ho base base2 v v2 P R hs hx h1 h2 hB hP hR fun v' w' a b => hK _ _ (h v' w' a b)
end Tk
end Go.Proofs.YtpcdaaijlgilkaaGreatDoor
namespace Go.Proofs.YtpcdaaijlgilkaaGreatDoor
open Go.RowKit
namespace Tk

def joinB (P : List Bs) : Bs := Lib.join P [44, 32]
theorem joinB_nil : joinB [] = [] := rfl
theorem map_mkS : ∀ (P : List Bs), (P.map mkS).map (·.data.toList) = P
  | [] => rfl
  | x :: t => by rw [List.map_cons, List.map_cons, map_mkS t]; rfl
theorem sum_all (name : Bs) : ∀ l : List (Bs × Bs), Lib.lens (allF l name) + 2 * (allF l name).length ≤ sumF l
  | [] => by simp [allF, Lib.lens, sumF]
  | f :: t => by
    have ih := sum_all name t
    have e : allF (f :: t) name = (if isN name f then [f.2] else []) ++ allF t name := by unfold allF; cases h : isN name f <;> simp [h]
    rw [e]
    unfold sumF
    cases isN name f
    · simp; omega
    · simp [Lib.lens] at *; omega
theorem joinB_le (name : Bs) (l : List (Bs × Bs)) : (joinB (allF l name)).length ≤ sumF l := by
  have h := sum_all name l
  unfold joinB
  cases hh : allF l name with
  | nil => simp [Lib.join_nil]
  | cons x r => rw [Lib.join_length]; rw [hh] at h; simp only [List.length_cons, List.length_nil] at *; omega
/-- what List tells -/
def listF (l : List (Bs × Bs)) (name : Bs) : List Bs := (allF l name).flatMap splitL
theorem flat_len : ∀ P : List Bs, (P.flatMap splitL).length ≤ Lib.lens P + P.length
  | [] => by simp
  | x :: t => by
    have := flat_len t
    have h2 := split_len x
    simp [Lib.lens] at *; omega
theorem listF_len (name : Bs) (l : List (Bs × Bs)) : (listF l name).length ≤ sumF l := by
  have := flat_len (allF l name)
  have h := sum_all name l
  unfold listF; omega
theorem flat_piece : ∀ (P : List Bs) (p : Bs), p ∈ P.flatMap splitL → p.length ≤ Lib.lens P
  | [], p, h => by simp at h
  | x :: t, p, h => by
    rw [List.flatMap_cons, List.mem_append] at h
    rcases h with h | h
    · have := split_piece x p h; simp [Lib.lens] at *; omega
    · have := flat_piece t p h; simp [Lib.lens] at *; omega
theorem listF_piece (name : Bs) (l : List (Bs × Bs)) (p : Bs) (h : p ∈ listF l name) : p.length ≤ sumF l := by
  have := flat_piece _ p h
  have h := sum_all name l
  omega
theorem all_piece (name : Bs) (l : List (Bs × Bs)) (p : Bs) (h : p ∈ allF l name) : p.length ≤ sumF l := by
  have h2 := sum_all name l
  have : ∀ (P : List Bs), p ∈ P → p.length ≤ Lib.lens P := by
    intro P
    induction P with
    | nil => intro h; simp at h
    | cons x t ih =>
      intro h
      rcases List.mem_cons.1 h with rfl | h
      · simp [Lib.lens]
      · have := ih h; simp [Lib.lens] at *; omega
  have := this _ h
  omega
theorem take_flat (P : List Bs) (i : Nat) (h : i < P.length) : (P.take (i + 1)).flatMap splitL = (P.take i).flatMap splitL ++ splitL (P.getD i []) := by
  rw [List.take_succ_eq_append_getElem h, List.flatMap_append]; simp [List.getD, h]
theorem flat_sub (P : List Bs) (i : Nat) : ((P.take i).flatMap splitL).length ≤ (P.flatMap splitL).length := by
  have e : P.flatMap splitL = (P.take i).flatMap splitL ++ (P.drop i).flatMap splitL := by rw [← List.flatMap_append, List.take_append_drop]
  rw [e, List.length_append]; omega

theorem sum_each (l : List (Bs × Bs)) (hz : sumF l ≤ 1099511627) : ∀ f ∈ l, f.1.length ≤ 1099511627776 ∧ f.2.length ≤ 1099511627776 := fun f hf => by
  have := sumF_mem l f hf; omega

set_option maxHeartbeats 4000000 in
set_option maxRecDepth 100000 in
theorem jnone_any (c : Nat) (a : Option Addr) (w : World) :
    Calls Tryz.prog 168 #[.slice a 0 c, .string ⟨#[44, 32]⟩] w fun e w' => e = .returned (.string ⟨#[]⟩) ∧ Below w.heap.size w w' := by
  go_enter Tryz.func168, Tryz.ntmps168
  go_wp2_with fail
  go_ret
  exact ⟨rfl, Below.refl _ _⟩
theorem joinP_any (v : Value) (P : List Bs) (base : Nat) (w : World) (ho : w.ownsRow base 9 1 v P.length (strs P)) (hP : P.length ≤ 1048576) (hj : (joinB P).length ≤ 1099511627776) :
    Calls Tryz.prog 168 #[v, .string ⟨#[44, 32]⟩] w fun e w' => e = .returned (.string (mkS (joinB P))) ∧ Below w.heap.size w w' := by
  rcases ho.2 with ⟨hv, hn⟩ | ⟨g, cap, cur, hv, hb, hg, hcap, -⟩
  · have hP0 : P = [] := List.eq_nil_of_length_eq_zero hn
    subst hP0
    rw [hv]
    exact jnone_any 0 none w
  · have hcells : ∀ (j : Nat) (x : ByteArray), (P.map mkS)[j]? = some x → w.cell? ⟨g, 0 + j, none⟩ = some (.string x) := by
      intro j x hx
      rw [List.getElem?_map] at hx
      obtain ⟨t, ht, rfl⟩ := Option.map_eq_some_iff.1 hx
      obtain ⟨a, c, e, hc⟩ := isStrs_own ho
      rw [hv] at e
      injection e with e1 _ _
      obtain ⟨b, o, e3, hc⟩ := hc j t ht
      rw [← e1] at e3
      injection e3 with e3
      injection e3 with e4 e5
      subst e4 e5
      exact hc
    have hlt := (ho.lt g (by rw [hv]; rfl)).2
    have h := Tryz.strings_Join g 0 cap (P.map mkS) ⟨#[44, 32]⟩ w hcells hlt (by rw [List.length_map]; omega) (by rw [List.length_map]; exact hcap) (by rw [map_mkS]; exact Nat.le_trans hj (by omega))
    rw [map_mkS, List.length_map] at h
    rw [hv]
    exact h

set_option maxHeartbeats 4000000 in
set_option maxRecDepth 100000 in
theorem fget_any (v : Value) (l : List (Bs × Bs)) (name : Bs) (w : World) (hs : IsFlds w v l) (hz : sumF l ≤ 1099511627) (hn : name.length ≤ 1099511627776) (hl : l.length ≤ 1048576) :
    Calls Tryz.prog 159 #[v, .string (mkS name)] w fun e w' => e = .returned (.tuple #[.string (mkS (joinB (allF l name))), .bool (decide (0 < (allF l name).length))]) ∧ Below w.heap.size w w' := by
  have HA := Lib.hid (fall_any v l name w hs (sum_each l hz) hn hl)
  unfold ListPost at HA
  obtain ⟨a, cap, rfl⟩ : ∃ a cap, v = .slice a l.length cap := by obtain ⟨a, c, h, -⟩ := hs; exact ⟨a, c, h⟩
  have hjl := joinB_le name l
  have hal := allF_len l name
  have hj : (joinB (allF l name)).length ≤ 1099511627776 := by omega
  have hP : (allF l name).length ≤ 1048576 := by omega
  clear hs hz hjl hal
  generalize allF l name = P at *
  go_enter Tryz.func159, Tryz.ntmps159
  go_wp2_with fail
  refine HA.out.mono ?_
  rintro e w1 ⟨v1, rfl, ho, hb⟩
  have HB := Lib.hid hb
  have HJ := Lib.hid (joinP_any v1 P _ w1 ho hP hj)
  obtain ⟨a1, c1, rfl⟩ : ∃ a c, v1 = .slice a P.length c := by obtain ⟨a, c, h, -⟩ := isStrs_own ho; exact ⟨a, c, h⟩
  clear ho hb hj
  by_cases hp : 0 < P.length
  all_goals
    go_wp2_with fail
    refine HJ.out.mono ?_
    rintro e w2 ⟨rfl, hb⟩
    have HB2 := Lib.hid (HB.out.trans (hb.mono HB.out.size))
    clear hb
    go_wp2_with fail
    go_ret2
    exact ⟨by first | (rw [decide_eq_true hp]; done) | (rw [decide_eq_false hp]; done) | (simp [hp]; done) | rfl, HB2.out⟩

end Tk
end Go.Proofs.YtpcdaaijlgilkaaGreatDoor
namespace Go.Proofs.YtpcdaaijlgilkaaGreatDoor
open Go.RowKit
namespace Tk

set_option maxHeartbeats 8000000 in
set_option maxRecDepth 100000 in
theorem flist_any (v : Value) (l : List (Bs × Bs)) (name : Bs) (w : World) (hs : IsFlds w v l) (hz : sumF l ≤ 1000000) (hn : name.length ≤ 1099511627776) (hl : l.length ≤ 1048576) :
    Calls Tryz.prog 152 #[v, .string (mkS name)] w (ListPost w.heap.size (listF l name) w) := by
  have HA := Lib.hid (fall_any v l name w hs (sum_each l (by omega)) hn hl)
  unfold ListPost at HA
  have hlist : listF l name = (allF l name).flatMap splitL := rfl
  have HLI := Lib.hid hlist
  have hpc := Lib.hid (fun p hp => Nat.le_trans (all_piece name l p hp) hz)
  have hfl := Lib.hid (fun i => flat_sub (allF l name) i)
  have hal := allF_len l name
  have hPl : (allF l name).length ≤ 1048576 := by omega
  have hln := listF_len name l
  rw [hlist] at hln
  have hln2 : ((allF l name).flatMap splitL).length ≤ 1000000 := by omega
  obtain ⟨a, cap, rfl⟩ : ∃ a cap, v = .slice a l.length cap := by obtain ⟨a, c, h, -⟩ := hs; exact ⟨a, c, h⟩
  clear hs hz hlist hln hal
  generalize listF l name = Q at *
  generalize allF l name = P at *
  go_enter Tryz.func152, Tryz.ntmps152
  go_wp2_with fail
  refine HA.out.mono ?_
  rintro e w1 ⟨v1, rfl, ho, hb⟩
  have HB1 := Lib.hid hb
  have HS := Lib.hid (isStrs_own ho)
  have HLt := Lib.hid (fun k e => (ho.lt k e).2)
  obtain ⟨a1, c1, rfl⟩ : ∃ a c, v1 = .slice a P.length c := by obtain ⟨a, c, h, -⟩ := isStrs_own ho; exact ⟨a, c, h⟩
  clear ho hb
  go_wp2_with fail
  go_loopw [5, 12] (fun v5 vi wr => ∃ i : Nat, i ≤ P.length ∧ vi = .int .i64 i ∧ Hid (wr.ownsRow w1.heap.size 9 1 v5 ((P.take i).flatMap splitL).length (strs ((P.take i).flatMap splitL))) ∧ Hid (Below w1.heap.size w1 wr)) (fun _ vi _ => P.length - (RowKit.intOf vi).toNat)
  case atStart => exact ⟨0, Nat.zero_le _, rfl, World.ownsRow_nil _ _ _ _, Below.refl _ _⟩
  case round =>
    obtain ⟨i, hi, rfl, HO, HB⟩ := hrel
    rename World => W
    by_cases hlt : i < P.length
    · obtain ⟨a', c', e', hc⟩ := isStrs_later HS.out HB.out HLt.out
      injection e' with e1 _ e2
      subst e1 e2
      obtain ⟨b, o, rfl, hc⟩ := hc i (P.getD i []) (by simp [List.getD, hlt])
      have hm := hpc.out (P.getD i []) (by simp [List.getD, hlt])
      have htk := take_flat P i hlt
      have HTK := Lib.hid htk
      have hf1 := hfl.out i
      have hsl := split_len (P.getD i [])
      clear htk
      generalize P.getD i [] = x at *
      have hxz := size_mkS x
      have hsp := fun W : World => split_any (mkS x) W (by omega)
      rw [bs_mkS] at hsp
      have HSP := Lib.hid hsp
      have g0 : (0 : Int) ≤ (i : Int) := by omega
      have g1 : (i : Int) < (P.length : Int) := by omega
      clear hsp hxz
      have hk1 : ((P.take i).flatMap splitL).length ≤ 1048576 := by omega
      have hk2 : (splitL x).length ≤ 1048576 := by omega
      generalize (P.take i).flatMap splitL = R at *
      generalize splitL x = S at *
      go_wp2_with fail
      refine (HSP.out _).mono ?_
      rintro e w3 ⟨v3, rfl, ho3, hb3⟩
      have HO3 := Lib.hid (own_keep HO.out hb3)
      have HB3 := Lib.hid (HB.out.trans (hb3.mono HB.out.size))
      have HS3 := Lib.hid ho3
      clear ho3 hb3
      go_wp2_with (at_builtin; refine join_guarded (by rfl) _ _ rfl w1.heap.size _ _ _ R S rfl rfl HO3.out HS3.out HB3.out.size hk1 hk2 ?_)
      intro v4 w4 ho4 hb4
      have HB4 := Lib.hid (HB3.out.trans hb4)
      have HO4 : Hid (w4.ownsRow w1.heap.size 9 1 v4 ((P.take (i + 1)).flatMap splitL).length (strs ((P.take (i + 1)).flatMap splitL))) := by
        show World.ownsRow _ _ _ _ _ _ _
        rw [HTK.out, List.length_append]; exact ho4
      clear ho4 hb4
      go_wp2_with fail
      exact ⟨⟨i + 1, hlt, by go_num, HO4, HB4⟩, by simp [RowKit.intOf]; omega⟩
    · have hil : P.take i = P := List.take_of_length_le (by omega)
      rw [hil, ← HLI.out] at HO
      have HBF := Lib.hid (HB1.out.trans (HB.out.mono HB1.out.size))
      have HOF := Lib.hid (World.ownsRow.mono HO.out HB1.out.size)
      go_wp2_with fail
      go_ret
      exact ⟨_, rfl, HOF.out, HBF.out⟩
end Tk
end Go.Proofs.YtpcdaaijlgilkaaGreatDoor
namespace Go.Proofs.YtpcdaaijlgilkaaGreatDoor
namespace Tk

def maxN : Nat := 9007199254740991
def isDig (c : UInt8) : Bool := decide (48 ≤ c.toNat) && decide (c.toNat ≤ 57)
def numGo : Nat → Bs → Nat × Nat
  | n, [] => if maxN < n then (0, 3) else (n, 0)
  | n, c :: t => if isDig c = true then numGo (if n ≤ maxN then n * 10 + (c.toNat - 48) else n) t else (0, 4)
def numL (l : Bs) : Nat × Nat := if l = [] then (0, 4) else numGo 0 l

def digL (n : Nat) : Bs := if h : n < 10 then [UInt8.ofNat (48 + n)] else digL (n / 10) ++ [UInt8.ofNat (48 + n % 10)]
def valFrom (a : Nat) (l : Bs) : Nat := l.foldl (fun a c => a * 10 + (c.toNat - 48)) a

theorem valFrom_ge : ∀ (l : Bs) (a : Nat), a ≤ valFrom a l
  | [], a => Nat.le_refl _
  | c :: t, a => by
    have := valFrom_ge t (a * 10 + (c.toNat - 48))
    show a ≤ valFrom (a * 10 + (c.toNat - 48)) t
    omega
theorem numGo_val : ∀ (l : Bs) (n : Nat), (∀ c ∈ l, isDig c = true) → numGo n l = if maxN < valFrom n l then (0, 3) else (valFrom n l, 0)
  | [], n, _ => rfl
  | c :: t, n, h => by
    have hc : isDig c = true := h c (by simp)
    have ht : ∀ x ∈ t, isDig x = true := fun x hx => h x (by simp [hx])
    rw [numGo, if_pos hc]
    by_cases hn : n ≤ maxN
    · rw [if_pos hn, numGo_val t _ ht]; rfl
    · rw [if_neg hn, numGo_val t n ht]
      have h1 := valFrom_ge t n
      have h2 : n ≤ valFrom n (c :: t) := valFrom_ge (c :: t) n
      rw [if_pos (by omega), if_pos (by omega)]
theorem numGo_bad : ∀ (l : Bs) (n : Nat), (∃ c ∈ l, isDig c = false) → numGo n l = (0, 4)
  | [], n, h => by simp at h
  | c :: t, n, h => by
    by_cases hc : isDig c = true
    · rw [numGo, if_pos hc]
      refine numGo_bad t _ ?_
      obtain ⟨x, hx, hb⟩ := h
      rcases List.mem_cons.1 hx with rfl | hx
      · rw [hc] at hb; cases hb
      · exact ⟨x, hx, hb⟩
    · rw [numGo, if_neg hc]

theorem dig_toNat (d : Nat) (h : d < 10) : (UInt8.ofNat (48 + d)).toNat = 48 + d := by rw [UInt8.toNat_ofNat']; omega
theorem isDig_ofNat (d : Nat) (h : d < 10) : isDig (UInt8.ofNat (48 + d)) = true := by
  unfold isDig; rw [dig_toNat d h]; simp; omega
theorem digL_small (n : Nat) (h : n < 10) : digL n = [UInt8.ofNat (48 + n)] := by rw [digL, dif_pos h]
theorem digL_big (n : Nat) (h : ¬ n < 10) : digL n = digL (n / 10) ++ digL (n % 10) := by
  rw [digL, dif_neg h, digL_small (n % 10) (by omega)]
theorem digL_digits : ∀ (k n : Nat), n ≤ k → ∀ c ∈ digL n, isDig c = true
  | 0, n, h => by
    rw [digL_small n (by omega)]
    intro c hc
    rw [List.mem_singleton] at hc
    subst hc
    exact isDig_ofNat n (by omega)
  | k + 1, n, h => by
    by_cases hn : n < 10
    · rw [digL_small n hn]
      intro c hc
      rw [List.mem_singleton] at hc
      subst hc
      exact isDig_ofNat n hn
    · rw [digL_big n hn]
      intro c hc
      rcases List.mem_append.1 hc with hc | hc
      · exact digL_digits k (n / 10) (by omega) c hc
      · exact digL_digits k (n % 10) (by omega) c hc
theorem valFrom_append (a : Nat) (l m : Bs) : valFrom a (l ++ m) = valFrom (valFrom a l) m := by simp [valFrom]
theorem valFrom_dig : ∀ (k n : Nat), n ≤ k → valFrom 0 (digL n) = n
  | 0, n, h => by
    rw [digL_small n (by omega)]
    show 0 * 10 + ((UInt8.ofNat (48 + n)).toNat - 48) = n
    rw [dig_toNat n (by omega)]; omega
  | k + 1, n, h => by
    by_cases hn : n < 10
    · rw [digL_small n hn]
      show 0 * 10 + ((UInt8.ofNat (48 + n)).toNat - 48) = n
      rw [dig_toNat n hn]; omega
    · rw [digL_big n hn, valFrom_append, valFrom_dig k (n / 10) (by omega), digL_small (n % 10) (by omega)]
      show n / 10 * 10 + ((UInt8.ofNat (48 + n % 10)).toNat - 48) = n
      rw [dig_toNat (n % 10) (by omega)]; omega
theorem valFrom_zeros : ∀ k, valFrom 0 (List.replicate k 48) = 0
  | 0 => rfl
  | k + 1 => by
    rw [List.replicate_succ]
    show valFrom 0 (List.replicate k 48) = 0
    exact valFrom_zeros k
theorem digL_ne (n : Nat) : digL n ≠ [] := by
  rw [digL]; split <;> simp

/-- the first half of the law -/
theorem num_zeros (k n : Nat) : numL (List.replicate k 48 ++ digL n) = if maxN < n then (0, 3) else (n, 0) := by
  unfold numL
  rw [if_neg (by simp [digL_ne]), numGo_val _ _ ?_, valFrom_append, valFrom_zeros, valFrom_dig n n (Nat.le_refl _)]
  intro c hc
  rcases List.mem_append.1 hc with hc | hc
  · rw [List.mem_replicate] at hc; rw [hc.2]; rfl
  · exact digL_digits n n (Nat.le_refl _) c hc
/-- the second half -/
theorem num_bad (l m : Bs) (c : UInt8) (h : isDig c = false) : numL (l ++ [c] ++ m) = (0, 4) := by
  unfold numL
  rw [if_neg (by simp), numGo_bad _ _ ⟨c, by simp, h⟩]
theorem digL_len : ∀ (k n : Nat), n < 10 ^ (k + 1) → (digL n).length ≤ k + 1
  | 0, n, h => by rw [digL_small n (by omega)]; simp
  | k + 1, n, h => by
    by_cases hn : n < 10
    · rw [digL_small n hn]; simp
    · rw [digL_big n hn, List.length_append, digL_small (n % 10) (by omega)]
      have := digL_len k (n / 10) (by rw [Nat.pow_succ] at h; omega)
      simp; omega
end Tk
end Go.Proofs.YtpcdaaijlgilkaaGreatDoor
namespace Go.Proofs.YtpcdaaijlgilkaaGreatDoor
namespace Tk

def nmCL : Bs := [67, 111, 110, 116, 101, 110, 116, 45, 76, 101, 110, 103, 116, 104]
def nmTE : Bs := [84, 114, 97, 110, 115, 102, 101, 114, 45, 69, 110, 99, 111, 100, 105, 110, 103]
def chkB : Bs := [99, 104, 117, 110, 107, 101, 100]

def hasF (l : List (Bs × Bs)) (name : Bs) : Bool := decide (0 < (allF l name).length)
theorem list_has (l : List (Bs × Bs)) (name : Bs) (h : listF l name ≠ []) : hasF l name = true := by
  unfold hasF
  rw [decide_eq_true_eq]
  refine Nat.pos_of_ne_zero fun e => h ?_
  unfold listF
  rw [List.eq_nil_of_length_eq_zero e]; rfl
/-- a text that is a number: this one -/
def isNum (k : Nat) (p : Bs) : Bool := decide ((numL p).2 = 0) && decide ((numL p).1 = k)
def firstN (P : List Bs) : Nat := (numL (P.headD [])).1
def lensOk (P : List Bs) : Bool := !P.isEmpty && P.all (isNum (firstN P))
/-- the length, if it is one -/
def lenOkF (l : List (Bs × Bs)) : Bool := lensOk (listF l nmCL)
def lenN (l : List (Bs × Bs)) : Nat := if lenOkF l then firstN (listF l nmCL) else 0
def lenS (l : List (Bs × Bs)) : Nat := if hasF l nmCL && !lenOkF l then 400 else 0
def codOk (P : List Bs) : Bool := decide (P.length = 1) && decide (lowL (P.headD []) = lowL chkB)
def codS (l : List (Bs × Bs)) : Nat := if hasF l nmTE && !codOk (listF l nmTE) then 501 else 0

theorem codS_two (l : List (Bs × Bs)) : codS l = 0 ∨ codS l = 501 := by unfold codS; split <;> simp
theorem lenS_two (l : List (Bs × Bs)) : lenS l = 0 ∨ lenS l = 400 := by unfold lenS; split <;> simp
theorem lenS_none (l : List (Bs × Bs)) (h : hasF l nmCL = false) : lenS l = 0 ∧ lenN l = 0 := by
  have : lenOkF l = false := by
    unfold lenOkF
    cases hl : listF l nmCL with
    | nil => rfl
    | cons p t =>
      have := list_has l nmCL (by rw [hl]; simp)
      rw [h] at this; cases this
  unfold lenS lenN
  rw [h, this]; exact ⟨rfl, rfl⟩

/-- the frame: its status, its kind, its length -/
def frS (m : Int) (l : List (Bs × Bs)) : Nat := if hasF l nmTE then (if decide (m = 0) || hasF l nmCL then 400 else codS l) else lenS l
def frK (m : Int) (l : List (Bs × Bs)) (neither : Nat) : Nat :=
  if frS m l = 0 then (if hasF l nmTE then 3 else if hasF l nmCL then (if lenN l = 0 then 1 else 2) else neither) else 0
def frN (m : Int) (l : List (Bs × Bs)) : Nat := if frS m l = 0 then (if hasF l nmTE then 0 else lenN l) else 0

def bareB (method : Bs) (s : Int) : Bool := decide (method = [72, 69, 65, 68]) || (decide (100 ≤ s) && decide (s ≤ 199)) || decide (s = 204) || decide (s = 304) || (decide (method = [67, 79, 78, 78, 69, 67, 84]) && decide (200 ≤ s) && decide (s ≤ 299))
def rsK (method : Bs) (s m : Int) (l : List (Bs × Bs)) : Nat := if bareB method s then 1 else frK m l 4
def rsN (method : Bs) (s m : Int) (l : List (Bs × Bs)) : Nat := if bareB method s then 0 else frN m l
def rsS (method : Bs) (s m : Int) (l : List (Bs × Bs)) : Nat := if bareB method s then 0 else frS m l

-- by cases, as the walk meets them
theorem fr_400 (m : Int) (l : List (Bs × Bs)) (n : Nat) (h : hasF l nmTE = true) (h2 : (decide (m = 0) || hasF l nmCL) = true) : frS m l = 400 ∧ frK m l n = 0 ∧ frN m l = 0 := by
  have : frS m l = 400 := by unfold frS; rw [h, h2]; rfl
  unfold frK frN
  rw [this]; exact ⟨rfl, rfl, rfl⟩
theorem fr_501 (m : Int) (l : List (Bs × Bs)) (n : Nat) (h : hasF l nmTE = true) (h2 : (decide (m = 0) || hasF l nmCL) = false) (h3 : codS l ≠ 0) : frS m l = codS l ∧ frK m l n = 0 ∧ frN m l = 0 := by
  have : frS m l = codS l := by unfold frS; rw [h, h2]; rfl
  unfold frK frN
  rw [this, if_neg h3, if_neg h3]; exact ⟨rfl, rfl, rfl⟩
theorem fr_chunks (m : Int) (l : List (Bs × Bs)) (n : Nat) (h : hasF l nmTE = true) (h2 : (decide (m = 0) || hasF l nmCL) = false) (h3 : codS l = 0) : frS m l = 0 ∧ frK m l n = 3 ∧ frN m l = 0 := by
  have : frS m l = 0 := by unfold frS; rw [h, h2]; exact h3
  unfold frK frN
  rw [this, h]; exact ⟨rfl, rfl, rfl⟩
theorem fr_bad (m : Int) (l : List (Bs × Bs)) (n : Nat) (h : hasF l nmTE = false) (h2 : lenS l ≠ 0) : frS m l = lenS l ∧ frK m l n = 0 ∧ frN m l = 0 := by
  have : frS m l = lenS l := by unfold frS; rw [h]; rfl
  unfold frK frN
  rw [this, if_neg h2, if_neg h2]; exact ⟨rfl, rfl, rfl⟩
theorem fr_neither (m : Int) (l : List (Bs × Bs)) (n : Nat) (h : hasF l nmTE = false) (h2 : hasF l nmCL = false) : frS m l = 0 ∧ frK m l n = n ∧ frN m l = 0 := by
  obtain ⟨h3, h4⟩ := lenS_none l h2
  have : frS m l = 0 := by unfold frS; rw [h]; exact h3
  unfold frK frN
  rw [this, h, h2, h4]; exact ⟨rfl, rfl, rfl⟩
theorem fr_nought (m : Int) (l : List (Bs × Bs)) (n : Nat) (h : hasF l nmTE = false) (h2 : hasF l nmCL = true) (h3 : lenS l = 0) (h4 : lenN l = 0) : frS m l = 0 ∧ frK m l n = 1 ∧ frN m l = 0 := by
  have : frS m l = 0 := by unfold frS; rw [h]; exact h3
  unfold frK frN
  rw [this, h, h2, h4]; exact ⟨rfl, rfl, rfl⟩
theorem fr_len (m : Int) (l : List (Bs × Bs)) (n : Nat) (h : hasF l nmTE = false) (h2 : hasF l nmCL = true) (h3 : lenS l = 0) (h4 : lenN l ≠ 0) : frS m l = 0 ∧ frK m l n = 2 ∧ frN m l = lenN l := by
  have : frS m l = 0 := by unfold frS; rw [h]; exact h3
  unfold frK frN
  rw [this, h, h2]
  refine ⟨rfl, ?_, rfl⟩
  show (if lenN l = 0 then 1 else 2) = 2
  rw [if_neg h4]

-- the loop of Length, part for part
theorem isNum_head (p : Bs) (t : List Bs) (h : (numL p).2 = 0) : isNum (firstN (p :: t)) p = true := by
  unfold isNum firstN; simp [h]
theorem lensOk_no (P : List Bs) (p : Bs) (hp : p ∈ P) (h : isNum (firstN P) p = false) : lensOk P = false := by
  unfold lensOk
  cases hq : P.all (isNum (firstN P))
  · simp
  · rw [List.all_eq_true] at hq
    rw [hq p hp] at h; cases h
theorem lensOk_yes (P : List Bs) (hp : P ≠ []) (h : ∀ p ∈ P, isNum (firstN P) p = true) : lensOk P = true := by
  unfold lensOk
  rw [List.all_eq_true.2 h]
  cases P with
  | nil => exact absurd rfl hp
  | cons a t => rfl
theorem len_bad (l : List (Bs × Bs)) (p : Bs) (hp : p ∈ listF l nmCL) (h : isNum (firstN (listF l nmCL)) p = false) : lenN l = 0 ∧ hasF l nmCL = true ∧ lenS l = 400 := by
  have h1 := lensOk_no _ p hp h
  have h2 := list_has l nmCL (fun e => by rw [e] at hp; simp at hp)
  unfold lenN lenS lenOkF
  rw [h1, h2]; exact ⟨rfl, rfl, rfl⟩
theorem len_good (l : List (Bs × Bs)) (hp : listF l nmCL ≠ []) (h : ∀ p ∈ listF l nmCL, isNum (firstN (listF l nmCL)) p = true) : lenN l = firstN (listF l nmCL) ∧ hasF l nmCL = true ∧ lenS l = 0 := by
  have h1 := lensOk_yes _ hp h
  have h2 := list_has l nmCL hp
  unfold lenN lenS lenOkF
  rw [h1, h2]; exact ⟨rfl, rfl, rfl⟩
theorem len_empty (l : List (Bs × Bs)) (hp : listF l nmCL = []) (h : hasF l nmCL = true) : lenN l = 0 ∧ lenS l = 400 := by
  unfold lenN lenS lenOkF
  rw [hp, h]; exact ⟨rfl, rfl⟩
theorem numGo_le : ∀ (l : Bs) (n : Nat), (numGo n l).1 ≤ maxN
  | [], n => by rw [numGo]; split <;> simp; omega
  | c :: t, n => by
    rw [numGo]
    split
    · exact numGo_le t _
    · exact Nat.zero_le _
theorem numL_le (l : Bs) : (numL l).1 ≤ maxN := by
  unfold numL
  split
  · exact Nat.zero_le _
  · exact numGo_le l 0
theorem lenN_le (l : List (Bs × Bs)) : lenN l ≤ maxN := by
  unfold lenN
  split
  · exact numL_le _
  · exact Nat.zero_le _

-- fields of other names change nothing
theorem allF_app' (a b : List (Bs × Bs)) (name : Bs) : allF (a ++ b) name = allF a name ++ allF b name := by unfold allF; simp
theorem allF_none' (l : List (Bs × Bs)) (name : Bs) (h : ∀ f ∈ l, isN name f = false) : allF l name = [] := by
  unfold allF
  rw [List.filter_eq_nil_iff.2 (fun f hf => by rw [h f hf]; simp)]; rfl
theorem fr_more (m : Int) (l r : List (Bs × Bs)) (n : Nat) (h : ∀ f ∈ r, isN nmCL f = false ∧ isN nmTE f = false) : frS m (l ++ r) = frS m l ∧ frK m (l ++ r) n = frK m l n ∧ frN m (l ++ r) = frN m l := by
  have h1 : allF (l ++ r) nmCL = allF l nmCL := by rw [allF_app', allF_none' r nmCL fun f hf => (h f hf).1, List.append_nil]
  have h2 : allF (l ++ r) nmTE = allF l nmTE := by rw [allF_app', allF_none' r nmTE fun f hf => (h f hf).2, List.append_nil]
  unfold frK frN frS codS lenS lenN lenOkF hasF listF
  rw [h1, h2]; exact ⟨rfl, rfl, rfl⟩
end Tk
end Go.Proofs.YtpcdaaijlgilkaaGreatDoor
namespace Go.Proofs.YtpcdaaijlgilkaaGreatDoor
namespace Tk

def vis (c : UInt8) : Bool := decide (33 ≤ c.toNat) && decide (c.toNat ≤ 126)
def someL (p : UInt8 → Bool) (l : Bs) : Bool := !l.isEmpty && l.all p
def tokL (l : Bs) : Bool := !l.isEmpty && allL 2 l
def oneDig (l : Bs) : Bool := decide (l.length = 1) && l.all isDig
def httpL : Bs := [72, 84, 84, 80, 47]

def vN (l : Bs) : Bs := if httpL.isPrefixOf l then l.drop 5 else l
def vA (l : Bs) : Bs := (cutL 46 (vN l)).1
def vB (l : Bs) : Bs := (cutL 46 (vN l)).2.1
def vForm (l : Bs) : Bool := httpL.isPrefixOf l && (oneDig (vA l) && oneDig (vB l))
def vKnown (l : Bs) : Bool := decide (vA l = [49]) && (decide (vB l = [48]) || decide (vB l = [49]))
def vSt (l : Bs) : Nat := if vForm l then (if vKnown l then 0 else 505) else 400
def vMi (l : Bs) : Nat := if vSt l = 0 then ((vB l).getD 0 0).toNat - 48 else 0

theorem mem_takeWhile_of (p : UInt8 → Bool) : ∀ (l : Bs) (x : UInt8), x ∈ l.takeWhile p → p x = true
  | [], x, h => by simp at h
  | a :: t, x, h => by
    rw [List.takeWhile_cons] at h
    split at h
    · next ha =>
      rcases List.mem_cons.1 h with rfl | h
      · exact ha
      · exact mem_takeWhile_of p t x h
    · simp at h
theorem dropWhile_ne (c : UInt8) : ∀ l : Bs, c ∈ l → l.dropWhile (· != c) = c :: (l.dropWhile (· != c)).drop 1
  | [], h => by simp at h
  | a :: t, h => by
    by_cases e : a = c
    · subst e; rw [List.dropWhile_cons]; simp
    · have e' : (a != c) = true := by simpa using e
      rw [List.dropWhile_cons, if_pos e']
      rcases List.mem_cons.1 h with rfl | h
      · exact absurd rfl e
      · exact dropWhile_ne c t h
theorem cut_split (c : UInt8) (l : Bs) : l = (cutL c l).1 ++ (if (cutL c l).2.2 then c :: (cutL c l).2.1 else []) := by
  unfold cutL
  by_cases h : l.contains c
  · rw [if_pos h]
    simp only [if_true]
    have hd := dropWhile_ne c l (by simpa using h)
    have := List.takeWhile_append_dropWhile (p := (· != c)) (l := l)
    rw [hd] at this
    exact this.symm
  · rw [if_neg h]; simp
theorem cut_first (c : UInt8) (l : Bs) : ∀ x ∈ (cutL c l).1, x ≠ c := by
  unfold cutL
  by_cases h : l.contains c
  · rw [if_pos h]
    intro x hx
    have := mem_takeWhile_of _ _ _ hx
    simpa using this
  · rw [if_neg h]
    intro x hx e
    subst e
    exact h (by simpa using hx)
theorem cut_none (c : UInt8) (l : Bs) (h : ∀ x ∈ l, x ≠ c) : cutL c l = (l, [], false) := by
  unfold cutL
  rw [if_neg]
  intro hc
  exact h c (by simpa using hc) rfl
theorem cutL_at (c : UInt8) (a b : Bs) (h : ∀ x ∈ a, x ≠ c) : cutL c (a ++ c :: b) = (a, b, true) := by
  have hn : ∀ x ∈ a, (x != c) = true := fun x hx => by simpa using h x hx
  unfold cutL
  rw [if_pos (by simp)]
  rw [List.takeWhile_append_of_pos hn, List.dropWhile_append_of_pos hn, List.takeWhile_cons, List.dropWhile_cons]
  simp
theorem cut_empty (c : UInt8) : cutL c [] = ([], [], false) := rfl

theorem oneDig_of (l : Bs) (h : oneDig l = true) : ∃ c, l = [c] ∧ isDig c = true := by
  unfold oneDig at h
  match l, h with
  | [c], h => exact ⟨c, rfl, by simpa using h⟩
theorem oneDig_one (c : UInt8) (h : isDig c = true) : oneDig [c] = true := by unfold oneDig; simp [h]
theorem dig_bd (c : UInt8) (h : isDig c = true) : 48 ≤ c.toNat ∧ c.toNat ≤ 57 := by
  unfold isDig at h; simpa using h

/-- a version that is well formed: its eight bytes -/
theorem vForm_of (l : Bs) (h : vForm l = true) : ∃ a b, isDig a = true ∧ isDig b = true ∧ l = httpL ++ [a, 46, b] ∧ vA l = [a] ∧ vB l = [b] := by
  unfold vForm at h
  simp only [Bool.and_eq_true] at h
  obtain ⟨hp, ha, hb⟩ := h
  obtain ⟨a, ea, da⟩ := oneDig_of _ ha
  obtain ⟨b, eb, db⟩ := oneDig_of _ hb
  refine ⟨a, b, da, db, ?_, ea, eb⟩
  obtain ⟨t, ht⟩ := List.isPrefixOf_iff_prefix.1 hp
  have hn : vN l = t := by
    unfold vN; rw [if_pos hp, ← ht]; rfl
  have hs := cut_split 46 t
  unfold vA at ea
  unfold vB at eb
  rw [hn] at ea eb
  rw [ea, eb] at hs
  by_cases hf : (cutL 46 t).2.2
  · rw [if_pos hf] at hs
    rw [← ht, hs]; rfl
  · have : (cutL 46 t).2.1 = [] := by
      unfold cutL at hf ⊢
      by_cases hc : t.contains 46
      · rw [if_pos hc] at hf; exact absurd rfl hf
      · rw [if_neg hc]
    rw [this] at eb; cases eb
theorem vN_http (t : Bs) : vN (httpL ++ t) = t := by
  unfold vN
  rw [if_pos (List.isPrefixOf_iff_prefix.2 ⟨t, rfl⟩)]; rfl
theorem v_digits (a b : UInt8) (ha : isDig a = true) (hb : isDig b = true) : vForm (httpL ++ [a, 46, b]) = true ∧ vA (httpL ++ [a, 46, b]) = [a] ∧ vB (httpL ++ [a, 46, b]) = [b] := by
  have hne : ∀ x ∈ [a], x ≠ (46 : UInt8) := fun x hx e => by
    rw [List.mem_singleton] at hx
    subst hx; subst e
    exact absurd ha (by decide)
  have hc : cutL 46 (vN (httpL ++ [a, 46, b])) = ([a], [b], true) := by
    rw [vN_http]; exact cutL_at 46 [a] [b] hne
  have h1 : vA (httpL ++ [a, 46, b]) = [a] := by unfold vA; rw [hc]
  have h2 : vB (httpL ++ [a, 46, b]) = [b] := by unfold vB; rw [hc]
  refine ⟨?_, h1, h2⟩
  unfold vForm
  rw [h1, h2, oneDig_one a ha, oneDig_one b hb, List.isPrefixOf_iff_prefix.2 ⟨_, rfl⟩]; rfl

/-- the text of a version that is supported -/
def vText (m : Nat) : Bs := [72, 84, 84, 80, 47, 49, 46, UInt8.ofNat (48 + m)]
theorem vText_ok (m : Nat) (h : m = 0 ∨ m = 1) : vSt (vText m) = 0 ∧ vMi (vText m) = m := by
  rcases h with rfl | rfl <;> decide
theorem vSt_zero (l : Bs) (h : vSt l = 0) : (vMi l = 0 ∨ vMi l = 1) ∧ l = vText (vMi l) := by
  have hm : vMi l = ((vB l).getD 0 0).toNat - 48 := by unfold vMi; rw [if_pos h]
  unfold vSt at h
  split at h
  · next hf =>
    split at h
    · next hk =>
      obtain ⟨a, b, da, db, el, ea, eb⟩ := vForm_of l hf
      unfold vKnown at hk
      rw [ea, eb] at hk
      rw [eb] at hm
      simp at hk
      obtain ⟨rfl, hk⟩ := hk
      rcases hk with rfl | rfl
      · have : vMi l = 0 := hm
        rw [this]; exact ⟨.inl rfl, el⟩
      · have : vMi l = 1 := hm
        rw [this]; exact ⟨.inr rfl, el⟩
    · cases h
  · cases h
theorem vSt_three (l : Bs) : vSt l = 0 ∨ vSt l = 400 ∨ vSt l = 505 := by
  unfold vSt; split
  · split <;> simp
  · simp

/-- the parts of a request line, or why it is none -/
def rM (l : Bs) : Bs := (cutL 32 l).1
def rT (l : Bs) : Bs := (cutL 32 (cutL 32 l).2.1).1
def rV (l : Bs) : Bs := (cutL 32 (cutL 32 l).2.1).2.1
def rIn (m t : Bs) : Bool := tokL m && someL vis t
def rSt (l : Bs) : Nat := if rIn (rM l) (rT l) then vSt (rV l) else 400
def reqM (l : Bs) : Bs := if rSt l = 0 then rM l else []
def reqT (l : Bs) : Bs := if rSt l = 0 then rT l else []
def reqN (l : Bs) : Nat := if rSt l = 0 then vMi (rV l) else 0

theorem all_ne (p : UInt8 → Bool) (l : Bs) (h : l.all p = true) (c : UInt8) (hc : p c = false) : ∀ x ∈ l, x ≠ c := by
  intro x hx e
  subst e
  rw [List.all_eq_true] at h
  rw [h x hx] at hc
  cases hc
theorem tok_ne (l : Bs) (h : tokL l = true) (c : UInt8) (hc : kindOf c.toNat < 2) : ∀ x ∈ l, x ≠ c := by
  unfold tokL at h
  rw [Bool.and_eq_true] at h
  intro x hx e
  subst e
  have := allL_mem 2 l h.2 x hx
  omega

def reqLine (m t : Bs) (n : Nat) : Bs := m ++ 32 :: (t ++ 32 :: vText n)
theorem req_cuts (m t v : Bs) (hm : tokL m = true) (ht : someL vis t = true) : rM (m ++ 32 :: (t ++ 32 :: v)) = m ∧ rT (m ++ 32 :: (t ++ 32 :: v)) = t ∧ rV (m ++ 32 :: (t ++ 32 :: v)) = v := by
  have h1 : cutL 32 (m ++ 32 :: (t ++ 32 :: v)) = (m, t ++ 32 :: v, true) := cutL_at 32 m _ (tok_ne m hm 32 (by decide))
  unfold someL at ht
  rw [Bool.and_eq_true] at ht
  have h2 : cutL 32 (t ++ 32 :: v) = (t, v, true) := cutL_at 32 t v (all_ne vis t ht.2 32 (by decide))
  unfold rM rT rV
  rw [h1]
  simp only [h2, and_self]
theorem req_line (m t : Bs) (n : Nat) (hm : tokL m = true) (ht : someL vis t = true) (hn : n = 0 ∨ n = 1) :
    rSt (reqLine m t n) = 0 ∧ reqM (reqLine m t n) = m ∧ reqT (reqLine m t n) = t ∧ reqN (reqLine m t n) = n := by
  obtain ⟨h1, h2, h3⟩ := req_cuts m t (vText n) hm ht
  obtain ⟨v1, v2⟩ := vText_ok n hn
  have hs : rSt (reqLine m t n) = 0 := by
    unfold rSt reqLine rIn
    rw [h1, h2, h3, hm, ht]
    exact v1
  refine ⟨hs, ?_, ?_, ?_⟩
  · unfold reqM; rw [if_pos hs]; exact h1
  · unfold reqT; rw [if_pos hs]; exact h2
  · unfold reqN; rw [if_pos hs]; unfold reqLine; rw [h3]; exact v2
theorem cut_nil_of (c : UInt8) (l : Bs) (h : (cutL c l).2.2 = false) : (cutL c l).2.1 = [] := by
  unfold cutL at h ⊢
  by_cases hc : l.contains c
  · rw [if_pos hc] at h; cases h
  · rw [if_neg hc]
/-- a line that is a request line is the one that says its parts -/
theorem req_is (l : Bs) (h : rSt l = 0) : l = reqLine (reqM l) (reqT l) (reqN l) ∧ tokL (reqM l) = true ∧ someL vis (reqT l) = true ∧ (reqN l = 0 ∨ reqN l = 1) := by
  have e1 : reqM l = rM l := by unfold reqM; rw [if_pos h]
  have e2 : reqT l = rT l := by unfold reqT; rw [if_pos h]
  have e3 : reqN l = vMi (rV l) := by unfold reqN; rw [if_pos h]
  rw [e1, e2, e3]
  unfold rSt at h
  split at h
  · next hin =>
    unfold rIn at hin
    rw [Bool.and_eq_true] at hin
    obtain ⟨hm, ht⟩ := hin
    obtain ⟨hv, hvt⟩ := vSt_zero _ h
    refine ⟨?_, hm, ht, hv⟩
    have s1 := cut_split 32 l
    have s2 := cut_split 32 (cutL 32 l).2.1
    have f1 : (cutL 32 l).2.2 = true := by
      cases hf : (cutL 32 l).2.2 with
      | true => rfl
      | false =>
        have := cut_nil_of 32 l hf
        unfold rT at ht
        rw [this, cut_empty] at ht
        cases ht
    have f2 : (cutL 32 (cutL 32 l).2.1).2.2 = true := by
      cases hf : (cutL 32 (cutL 32 l).2.1).2.2 with
      | true => rfl
      | false =>
        have := cut_nil_of 32 _ hf
        have hr : rV l = [] := this
        rw [hr] at h
        exact absurd h (by decide)
    rw [if_pos f1] at s1
    rw [if_pos f2] at s2
    rw [s2] at s1
    have hvt' : (cutL 32 (cutL 32 l).2.1).2.1 = vText (vMi (rV l)) := hvt
    rw [hvt'] at s1
    exact s1
  · cases h
theorem rSt_three (l : Bs) : rSt l = 0 ∨ rSt l = 400 ∨ rSt l = 505 := by
  unfold rSt; split
  · exact vSt_three _
  · simp

/-- the parts of a status line, or that it is none -/
def sV (l : Bs) : Bs := (cutL 32 l).1
def sD (l : Bs) : Bs := (cutL 32 (cutL 32 l).2.1).1
def sR (l : Bs) : Bs := (cutL 32 (cutL 32 l).2.1).2.1
def sB (l : Bs) : Bool := (cutL 32 (cutL 32 l).2.1).2.2
def sIn (n : Nat) (r : Bs) : Bool := decide (100 ≤ n) && decide (n ≤ 599) && r.all fun c => decide (1 ≤ kindOf c.toNat)
def sOk (l : Bs) : Bool := decide (vSt (sV l) = 0) && decide ((numL (sD l)).2 = 0) && decide ((sD l).length = 3) && sB l && sIn (numL (sD l)).1 (sR l)
def staM (l : Bs) : Nat := if sOk l then vMi (sV l) else 0
def staN (l : Bs) : Nat := if sOk l then (numL (sD l)).1 else 0
def staR (l : Bs) : Bs := if sOk l then sR l else []
def staE (l : Bs) : Nat := if sOk l then 0 else 4

def staLine (m n : Nat) (r : Bs) : Bs := vText m ++ 32 :: (digL n ++ 32 :: r)

theorem digL_three (n : Nat) (h0 : 100 ≤ n) (h1 : n ≤ 599) : digL n = [UInt8.ofNat (48 + n / 100), UInt8.ofNat (48 + n / 10 % 10), UInt8.ofNat (48 + n % 10)] := by
  rw [digL, dif_neg (by omega), digL, dif_neg (by omega), digL, dif_pos (by omega), Nat.div_div_eq_div_mul]; rfl
theorem digs_all (n : Nat) : (digL n).all isDig = true := by
  rw [List.all_eq_true]; exact digL_digits n n (Nat.le_refl _)
theorem num_digL (n : Nat) (h : n ≤ maxN) : numL (digL n) = (n, 0) := by
  have := num_zeros 0 n
  rw [List.replicate_zero, List.nil_append] at this
  rw [this, if_neg (by omega)]
theorem num_three_dig (l : Bs) (hl : l.length = 3) (h : (numL l).2 = 0) (h0 : 100 ≤ (numL l).1) (h1 : (numL l).1 ≤ 599) : l = digL (numL l).1 := by
  match l, hl with
  | [a, b, c], _ =>
    have hd : ∀ x ∈ [a, b, c], isDig x = true := by
      intro x hx
      cases hx' : isDig x with
      | true => rfl
      | false =>
        have : numL [a, b, c] = (0, 4) := by
          unfold numL
          rw [if_neg (by simp), numGo_bad _ _ ⟨x, hx, hx'⟩]
        rw [this] at h; cases h
    have da := dig_bd a (hd a (by simp))
    have db := dig_bd b (hd b (by simp))
    have dc := dig_bd c (hd c (by simp))
    have hv : (numL [a, b, c]).1 = (a.toNat - 48) * 100 + (b.toNat - 48) * 10 + (c.toNat - 48) := by
      unfold numL
      rw [if_neg (by simp), numGo_val _ _ hd]
      have e : valFrom 0 [a, b, c] = ((0 * 10 + (a.toNat - 48)) * 10 + (b.toNat - 48)) * 10 + (c.toNat - 48) := rfl
      rw [e, if_neg (by unfold maxN; omega)]
      show _ = _
      omega
    rw [hv] at h0 h1 ⊢
    rw [digL_three _ h0 h1]
    have e1 : ((a.toNat - 48) * 100 + (b.toNat - 48) * 10 + (c.toNat - 48)) / 100 = a.toNat - 48 := by omega
    have e2 : ((a.toNat - 48) * 100 + (b.toNat - 48) * 10 + (c.toNat - 48)) / 10 % 10 = b.toNat - 48 := by omega
    have e3 : ((a.toNat - 48) * 100 + (b.toNat - 48) * 10 + (c.toNat - 48)) % 10 = c.toNat - 48 := by omega
    rw [e1, e2, e3]
    have f : ∀ x : UInt8, 48 ≤ x.toNat → UInt8.ofNat (48 + (x.toNat - 48)) = x := fun x hx => by
      rw [show 48 + (x.toNat - 48) = x.toNat by omega]; exact UInt8.ofNat_toNat
    rw [f a da.1, f b db.1, f c dc.1]
theorem dig_ne (l : Bs) (h : l.all isDig = true) (c : UInt8) (hc : isDig c = false) : ∀ x ∈ l, x ≠ c := all_ne isDig l h c hc

theorem vText_ne (m : Nat) (h : m = 0 ∨ m = 1) : ∀ x ∈ vText m, x ≠ (32 : UInt8) := by
  rcases h with rfl | rfl <;> decide
theorem sta_line (m n : Nat) (r : Bs) (hm : m = 0 ∨ m = 1) (hr : sIn n r = true) :
    sOk (staLine m n r) = true ∧ staM (staLine m n r) = m ∧ staN (staLine m n r) = n ∧ staR (staLine m n r) = r ∧ staE (staLine m n r) = 0 := by
  have hr' := hr
  unfold sIn at hr'
  simp only [Bool.and_eq_true, decide_eq_true_eq] at hr'
  obtain ⟨⟨h0, h1⟩, hr2⟩ := hr'
  have c1 : cutL 32 (staLine m n r) = (vText m, digL n ++ 32 :: r, true) := cutL_at 32 _ _ (vText_ne m hm)
  have c2 : cutL 32 (digL n ++ 32 :: r) = (digL n, r, true) := cutL_at 32 _ _ (dig_ne _ (digs_all n) 32 (by decide))
  obtain ⟨v1, v2⟩ := vText_ok m hm
  have hnum := num_digL n (by unfold maxN; omega)
  have hlen : (digL n).length = 3 := by rw [digL_three n h0 h1]; rfl
  have e1 : sV (staLine m n r) = vText m := by unfold sV; rw [c1]
  have e2 : sD (staLine m n r) = digL n := by unfold sD; rw [c1]; simp only [c2]
  have e3 : sR (staLine m n r) = r := by unfold sR; rw [c1]; simp only [c2]
  have e4 : sB (staLine m n r) = true := by unfold sB; rw [c1]; simp only [c2]
  have hs : sOk (staLine m n r) = true := by
    unfold sOk
    rw [e1, e2, e3, e4, v1, hnum, hlen, hr]; rfl
  refine ⟨hs, ?_, ?_, ?_, ?_⟩
  · unfold staM; rw [if_pos hs, e1]; exact v2
  · unfold staN; rw [if_pos hs, e2, hnum]
  · unfold staR; rw [if_pos hs]; exact e3
  · unfold staE; rw [if_pos hs]
theorem sta_is (l : Bs) (h : sOk l = true) : l = staLine (staM l) (staN l) (staR l) ∧ (staM l = 0 ∨ staM l = 1) ∧ sIn (staN l) (staR l) = true := by
  have e1 : staM l = vMi (sV l) := by unfold staM; rw [if_pos h]
  have e2 : staN l = (numL (sD l)).1 := by unfold staN; rw [if_pos h]
  have e3 : staR l = sR l := by unfold staR; rw [if_pos h]
  rw [e1, e2, e3]
  have h' := h
  unfold sOk at h'
  simp only [Bool.and_eq_true, decide_eq_true_eq] at h'
  obtain ⟨⟨⟨⟨hv, hn⟩, hl⟩, hb⟩, hin⟩ := h'
  obtain ⟨hm, hvt⟩ := vSt_zero _ hv
  refine ⟨?_, hm, hin⟩
  have hin' := hin
  unfold sIn at hin'
  simp only [Bool.and_eq_true, decide_eq_true_eq] at hin'
  have hd := num_three_dig (sD l) hl hn hin'.1.1 hin'.1.2
  have s1 := cut_split 32 l
  have s2 := cut_split 32 (cutL 32 l).2.1
  have f1 : (cutL 32 l).2.2 = true := by
    cases hf : (cutL 32 l).2.2 with
    | true => rfl
    | false =>
      have := cut_nil_of 32 l hf
      unfold sB at hb
      rw [this, cut_empty] at hb
      cases hb
  unfold sB at hb
  rw [if_pos f1] at s1
  rw [if_pos hb] at s2
  rw [s2] at s1
  have hd' : (cutL 32 (cutL 32 l).2.1).1 = digL (numL (sD l)).1 := hd
  have hv' : (cutL 32 l).1 = vText (vMi (sV l)) := hvt
  rw [hd', hv'] at s1
  exact s1
/-- no text is both -/
theorem not_both (l : Bs) (h : rSt l = 0) : sOk l = false := by
  cases hs : sOk l with
  | false => rfl
  | true =>
    obtain ⟨e, hm, -⟩ := sta_is l hs
    have c1 : cutL 32 l = (vText (staM l), digL (staN l) ++ 32 :: staR l, true) := by
      conv => lhs; rw [e]
      exact cutL_at 32 _ _ (vText_ne _ hm)
    obtain ⟨-, ht, -, -⟩ := req_is l h
    unfold reqM at ht
    rw [if_pos h] at ht
    unfold rM at ht
    rw [c1] at ht
    have ht' : tokL (vText (staM l)) = true := ht
    rcases hm with hm | hm <;> rw [hm] at ht' <;> exact absurd ht' (by decide)
end Tk
end Go.Proofs.YtpcdaaijlgilkaaGreatDoor
