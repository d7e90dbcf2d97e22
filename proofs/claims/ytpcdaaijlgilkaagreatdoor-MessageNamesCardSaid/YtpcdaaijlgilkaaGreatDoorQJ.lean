/- MsgO MsgT MsgU MsgV MsgW MsgX RmP, put together. -/
import Derived.Test.YtpcdaaijlgilkaaGreatDoorQI
import Derived.Defers
import Derived.Deep.RegionHeld3
import Derived.Test.YtpcdaaijlgilkaaGreatDoorQD
namespace Go.Proofs.YtpcdaaijlgilkaaGreatDoor
open Go.RowKit
namespace Tk

variable {B b : Nat} {s : Pr} {V : PV} {w : World}
theorem left_ite (p : Prop) [Decidable p] (a b : Pr) (x : Nat) (h1 : a.left = x) (h2 : b.left = x) : (if p then a else b).left = x := by split <;> assumption
theorem lineP_left (s : Pr) (t : Bs) : (lineP s t).left = s.left := by
  unfold lineP reqP staP fldP headEndP
  repeat' (first | apply left_ite | rfl)
theorem stepP_left (s : Pr) (c : UInt8) : (stepP s c).left = s.left + 1 := by
  have e : ∀ x : Pr, (x.ate 1).left = x.left + 1 := fun _ => rfl
  unfold stepP
  rw [e]
  congr 1
  unfold stepQ countP chunkP
  repeat' (first | apply left_ite | rfl | exact (lineP_left _ _).trans rfl)
theorem feedP_left : ∀ (l : Bs) (s : Pr), (feedP s l).2.left = s.left + (feedP s l).1
  | [], s => rfl
  | c :: t, s => by
    cases hs : stopP s
    · rw [feedP_cons s c t hs]
      have := feedP_left t (stepP s c)
      rw [stepP_left] at this
      show (feedP (stepP s c) t).2.left = s.left + ((feedP (stepP s c) t).1 + 1)
      omega
    · rw [feedP_stop s _ hs]; rfl
/-- a parser whose fields hold what it is -/
def Sync (B b : Nat) (s : Pr) (V : PV) (w : World) : Prop := ∃ q, q ≤ 7 ∧ (s.bad = 0 → q = s.mode) ∧ Par B b s q s.bad s.left V w
def SyncTo (B b : Nat) (s' : Pr) (V : PV) (w w' : World) : Prop := ∃ V', Sync B b s' V' w' ∧ PTn b V V' (fun _ => False) w w'
theorem masserted (v : Value) (xT : TypeId) (w : World) : (Instr.typeAssert (.iface 76 v) xT 76 true).run Tryz.prog w = .ok (.tuple #[v, .bool true]) w := by
  simp [Instr.typeAssert, run_underlying Tryz.underlying76]
theorem masserted_nil (xT : TypeId) (w : World) : (Instr.typeAssert .nilIface xT 76 true).run Tryz.prog w = .ok (.tuple #[.int .i64 0, .bool false]) w := by
  simp [Instr.typeAssert, run_underlying Tryz.underlying76]
theorem pstV_store (m : Nat) (a : Addr) (md : Mode) (w : World) : (store a (pstV m) md).run Tryz.prog w = stored Tryz.prog w a (pstV m) md :=
  run_store _ _ _ _ _ (by unfold pstV; split <;> rfl)
theorem res_pfeed (T : Array Value) (k : Nat) (v : Value) (h4 : k ≠ 4) (h5 : k ≠ 5) : results Tryz.f15 (T.setIfInBounds k v) = results Tryz.f15 T := by
  unfold results
  rw [Tryz.results15]
  simp [Array.getElem?_setIfInBounds_ne h4, Array.getElem?_setIfInBounds_ne h5]
theorem ppost_put {R : Ending → World → Prop} (k : Nat) (h4 : k ≠ 4) (h5 : k ≠ 5) (c : List PanicEntry) (a : Act) (v : Value) (w : World) (h : bodyPostD Tryz.prog Tryz.f15 R (.panic c) (a.put (some k) v) w) : bodyPostD Tryz.prog Tryz.f15 R (.panic c) a w :=
  leaves_tmps (res_pfeed a.tmps k v h4 h5) a.defers (.panicking c) w h
theorem pstV_form (m : Nat) : pstV m = .nilFunc ∨ ∃ F, pstV m = .func (.func F) #[] #[] := by
  unfold pstV; split <;> first | exact .inl rfl | exact .inr ⟨_, rfl⟩

theorem Boxed.turn {gp gb gi gn gs g : Nat} {t : ByteArray} {rest rest' : Bs} {V V' : PV} {w w' : World} (h : Boxed b gp gb gi gn gs g t rest w) (ht : PTn b V V' (· = g) w w') (hm : ∀ k, k = gp ∨ k = gb ∨ k = gi ∨ k = gn ∨ k = gs → ¬ PMine b V k ∧ k ≠ g) (hin : Inp g rest' w') : Boxed b gp gb gi gn gs g t rest' w' := by
  obtain ⟨c1, c2, c3, c4, c5, f5, c6, f6, h1, h2, h3, h4, h5⟩ := h
  have hk : ∀ (k : Nat) (v : Value), (¬ PMine b V k ∧ k ≠ g) → w.cell? ⟨k, 0, none⟩ = some v → w'.cell? ⟨k, 0, none⟩ = some v := fun k v hq hc => (ht.box ⟨cell_lt hc, hq.1⟩ hq.2 0).1.trans hc
  have hf : ∀ (k : Nat) (v : Value), (¬ PMine b V k ∧ k ≠ g) → w.cell? ⟨k, 0, none⟩ = some v → w.frozen? ⟨k, 0, none⟩ = false → w'.frozen? ⟨k, 0, none⟩ = false := fun k v hq hc hf => (ht.box ⟨cell_lt hc, hq.1⟩ hq.2 0).2.trans hf
  exact ⟨hk _ _ (hm _ (by simp)) c1, hk _ _ (hm _ (by simp)) c2, hk _ _ (hm _ (by simp)) c3, hin.cell, hk _ _ (hm _ (by simp)) c5, hf _ _ (hm _ (by simp)) c5 f5, hk _ _ (hm _ (by simp)) c6, hf _ _ (hm _ (by simp)) c6 f6, h1, h2, h3, h4, h5⟩
def feedW (b : Nat) (t : ByteArray) (w : World) : World := (((((w.alloc (.cells #[.pointer (some ⟨b, 0, none⟩)] 35)).alloc (.cells #[.string t] 9)).alloc (.cells #[.int .i64 0] 3)).alloc (.cells #[.int .i64 0] 3)).alloc (.cells #[.string t] 60)).alloc (.cells #[.pointer (some ⟨w.heap.size + 1 + 1 + 1 + 1, 0, none⟩)] 58)
theorem feedW_below (b : Nat) (t : ByteArray) (w : World) : Below w.heap.size w (feedW b t w) ∧ (feedW b t w).heap.size = w.heap.size + 6 :=
  ⟨((((((Below.refl _ _).alloc (Nat.le_refl _) _).alloc (by simp) _).alloc (by simp; omega) _).alloc (by simp; omega) _).alloc (by simp; omega) _).alloc (by simp; omega) _, by simp [feedW]⟩
theorem feedW_boxed (b : Nat) (t : ByteArray) (w : World) (hb : b < w.heap.size) : Boxed b w.heap.size (w.heap.size + 1) (w.heap.size + 1 + 1 + 1 + 1 + 1) (w.heap.size + 1 + 1) (w.heap.size + 1 + 1 + 1) (w.heap.size + 1 + 1 + 1 + 1) t (bs t) (feedW b t w) ∧ Inp (w.heap.size + 1 + 1 + 1 + 1) (bs t) (feedW b t w) := by
  refine ⟨⟨?_, ?_, ?_, ?_, ?_, ?_, ?_, ?_, by omega, by omega, by omega, by omega, by omega⟩, ?_⟩
  all_goals first
    | (unfold feedW; simp [go_sem]; done)
    | (unfold feedW; rw [mkS_bs]; simp [go_sem]; done)
    | skip
  unfold Inp feedW
  rw [mkS_bs]
  have h5 := heap_alloc_last ((((w.alloc (.cells #[.pointer (some ⟨b, 0, none⟩)] 35)).alloc (.cells #[.string t] 9)).alloc (.cells #[.int .i64 0] 3)).alloc (.cells #[.int .i64 0] 3)) (.cells #[.string t] 60)
  rw [show ((((w.alloc (.cells #[.pointer (some ⟨b, 0, none⟩)] 35)).alloc (.cells #[.string t] 9)).alloc (.cells #[.int .i64 0] 3)).alloc (.cells #[.int .i64 0] 3)).heap.size = w.heap.size + 1 + 1 + 1 + 1 by simp] at h5
  exact (Below.heap_alloc _ _ _ (by simp)).trans h5
theorem stepP_400 {s : Pr} (c : UInt8) (h : s.bad = 0) (h1 : (stepP s c).bad ≠ 0) (h2 : (stepP s c).mode ≠ 7) : (stepP s c).bad = 400 := by
  have hl : ∀ (x : Pr) (t : Bs), x.bad = 0 → (lineP x t).bad = 0 ∨ (lineP x t).mode = 7 := by
    intro x t hx
    unfold lineP reqP staP fldP
    repeat' split
    all_goals first | exact .inl hx | exact .inr rfl | exact headEnd_end x hx
  revert h1 h2
  unfold stepP
  show (stepQ s c).bad ≠ 0 → (stepQ s c).mode ≠ 7 → (stepQ s c).bad = 400
  unfold stepQ
  split
  · split
    · exact fun h1 => absurd h h1
    · split
      · intro h1 h2
        rcases hl { s with line := [], head := s.head + 1 } s.line.dropLast h with h3 | h3
        · exact absurd h3 h1
        · exact absurd h3 h2
      · split
        · exact fun _ h2 => absurd rfl h2
        · exact fun _ _ => rfl
  · split
    · unfold countP; split
      · exact fun h1 => absurd h h1
      · exact fun h1 => absurd h h1
    · split
      · split
        · exact fun _ h2 => absurd rfl h2
        · exact fun h1 => absurd h h1
      · split
        · unfold chunkP; split
          · exact fun _ h2 => absurd rfl h2
          · split
            · exact fun h1 => absurd h h1
            · exact fun h1 => absurd h h1
        · exact fun h1 => absurd h h1
theorem feedP_400 : ∀ (l : Bs) (s : Pr), s.bad = 0 → (feedP s l).2.bad ≠ 0 → (feedP s l).2.mode ≠ 7 → (feedP s l).2.bad = 400
  | [], s, h, h1, _ => absurd h h1
  | c :: t, s, h, h1, h2 => by
    cases hs : stopP s
    · rw [feedP_cons s c t hs] at h1 h2 ⊢
      by_cases hb : (stepP s c).bad = 0
      · exact feedP_400 t _ hb h1 h2
      · have hst : stopP (stepP s c) = true := by unfold stopP; simp [hb]
        rw [feedP_stop _ _ hst] at h1 h2 ⊢
        exact stepP_400 c h h1 h2
    · rw [feedP_stop s _ hs] at h1; exact absurd h h1
theorem consP_rq {s : Pr} {q : Nat} (hr : s.rsp = false) (hq : s.bad = 0 → q = s.mode) : consP s q s.bad = !stopP s := by
  unfold consP stopP
  rw [hr]
  by_cases hb : s.bad = 0
  · rw [hq hb]; simp [hb]
  · simp [hb]

theorem consP_gen {s : Pr} {q : Nat} (hq : s.bad = 0 → q = s.mode) : consP s q s.bad = !stopP s := by
  unfold consP stopP
  by_cases hb : s.bad = 0
  · rw [hq hb]
    cases s.rsp <;> cases s.asked <;> simp [hb]
  · simp [hb]

set_option maxHeartbeats 16000000 in
set_option maxRecDepth 100000 in
theorem pfeedG_any (t : ByteArray) (h : Sync B b s V w) (ho : s.Ok s.left) (hn : s.left + t.size ≤ 100000) (hv : ErrV B w) :
    Calls Tryz.prog 15 #[ptr b, .string t] w fun e w' => e = .returned (.tuple #[.int .i64 (feedP s (bs t)).1, .int .i64 (feedP s (bs t)).2.bad]) ∧ SyncTo B b (feedP s (bs t)).2 V w w' := by
  have hmf : ∀ (fn : Fn) (first cap : Array Value) (w : World), (Instr.makeFunc fn first cap).run Tryz.prog w = .ok (.func fn first cap) w := fun _ _ _ _ => rfl
  have hb4 : Below w.heap.size w ((((w.alloc (.cells #[.pointer (some ⟨b, 0, none⟩)] 35)).alloc (.cells #[.string t] 9)).alloc (.cells #[.int .i64 0] 3)).alloc (.cells #[.int .i64 0] 3)) := ((((Below.refl _ _).alloc (Nat.le_refl _) _).alloc (by simp) _).alloc (by simp; omega) _).alloc (by simp; omega) _
  obtain ⟨q0, hq07, hq0, h⟩ := h
  have HQ0 := Lib.hid (⟨hq07, hq0⟩ : _ ∧ _)
  have HP := Lib.hid h
  have HMade := Lib.hid (pmade_any (h.below hb4))
  have HOk := Lib.hid (⟨ho, trivial, hn, hv⟩ : _ ∧ True ∧ _ ∧ _)
  clear h ho hn hv hb4 hq07 hq0
  unfold ptr at *
  go_enter_defers Tryz.func15, Tryz.ntmps15
  go_wp2_with fail
  refine HMade.out.mono ?_
  rintro e w' ⟨rfl, rfl⟩
  go_wp2_with fail
  clear HMade
  rw [show (((((w.alloc (.cells #[.pointer (some ⟨b, 0, none⟩)] 35)).alloc (.cells #[.string t] 9)).alloc (.cells #[.int .i64 0] 3)).alloc (.cells #[.int .i64 0] 3)).alloc (.cells #[.string t] 60)).alloc (.cells #[.pointer (some ⟨w.heap.size + 1 + 1 + 1 + 1, 0, none⟩)] 58) = feedW b t w from rfl]
  have HBx := Lib.hid (feedW_boxed b t w HP.out.lt)
  have HBw := Lib.hid (feedW_below b t w)
  have HNew := Lib.hid (show ∀ k, w.heap.size ≤ k → ¬ PMine b V k from fun k hk hm => by have := (HP.out.mineLt k hm).2; omega)
  have HP6 := Lib.hid (HP.out.below HBw.out.1)
  have HGe := Lib.hid (show ∀ k, (k = w.heap.size ∨ k = w.heap.size + 1 ∨ k = w.heap.size + 1 + 1 + 1 + 1 + 1 ∨ k = w.heap.size + 1 + 1 ∨ k = w.heap.size + 1 + 1 + 1) → ¬ PMine b V k ∧ k ≠ w.heap.size + 1 + 1 + 1 + 1 from fun k hk => ⟨HNew.out k (by omega), by omega⟩)
  have HGg := Lib.hid (show w.heap.size + 1 + 1 + 1 + 1 < (feedW b t w).heap.size ∧ ¬ PMine b V (w.heap.size + 1 + 1 + 1 + 1) from ⟨by rw [HBw.out.2]; omega, HNew.out _ (by omega)⟩)
  have HLe := Lib.hid (show ∀ k, (k = w.heap.size + 1 + 1 + 1 + 1 ∨ k = w.heap.size + 1 + 1 ∨ k = w.heap.size + 1 + 1 + 1) → w.heap.size ≤ k from fun k hk => by omega)
  generalize feedW b t w = W6 at *
  generalize w.heap.size + 1 + 1 + 1 + 1 + 1 = gi at *
  generalize w.heap.size + 1 + 1 + 1 + 1 = g at *
  generalize w.heap.size + 1 + 1 + 1 = gs at *
  generalize w.heap.size + 1 + 1 = gn at *
  generalize w.heap.size + 1 = gb at *
  generalize hgp : w.heap.size = gp at HBx HGe ⊢
  have HGp := Lib.hid hgp
  clear hgp
  have HLen := Lib.hid (length_bs t)
  go_loopw [7] (fun _ wr => ∃ (i : Nat) (si : Pr) (Vi : PV), i ≤ t.size ∧ Hid (EatsP s ((bs t).take i) si) ∧ (∃ q, Hid (q ≤ 7 ∧ (si.bad = 0 → q = si.mode)) ∧ Hid (Par B b si q si.bad s.left Vi wr)) ∧ Hid (PTn b V Vi (· = g) W6 wr) ∧ Hid (Inp g ((bs t).drop i) wr)) (fun _ wr => restLen g wr)
  case atStart => exact ⟨0, s, V, Nat.zero_le _, EatsP.nil s, ⟨q0, HQ0, HP6⟩, PTn.refl, HBx.out.2⟩
  case round =>
    obtain ⟨i, si, Vi, hi, HE, ⟨q, HQ, HD⟩, HT, HIn⟩ := hrel
    rename World => W
    have HBw2 := Lib.hid (HBx.out.1.turn HT.out HGe.out HIn.out)
    have hok := HE.out.ok HOk.out.1
    have HOki := Lib.hid hok
    have HC := Lib.hid (pconsumes_any HD.out HQ.out.1)
    rw [consP_gen HQ.out.2] at HC
    have hkp := HBw2.out.cp
    have hki := HBw2.out.ci
    have hkr := HBw2.out.cr
    unfold ptr at HC
    clear hok
    by_cases hgo : i < t.size ∧ stopP si = false
    · obtain ⟨hlt, hst⟩ := hgo
      have hb0 := (not_stop hst).2.1
      have hqm := HQ.out.2 hb0
      have hEl : si.left = s.left + i := by
        have h1 := feedP_left ((bs t).take i) s
        have h2 := HE.out
        unfold EatsP at h2
        rw [h2] at h1
        simp only [List.length_take, HLen.out] at h1
        omega
      have hdl : ((bs t).drop i).length = t.size - i := by rw [List.length_drop, HLen.out]
      have hroom : Room si ((bs t).drop i) := ⟨by have := HOk.out.2.2.1; omega, by rw [hEl]; exact HOki.out.mono (by simp; omega), hst⟩
      have hne0 : (bs t).drop i ≠ [] := by intro e; rw [e] at hdl; simp at hdl; omega
      have hD0 : Par B b si si.mode 0 s.left Vi W := by have := HD.out; rw [hqm, hb0] at this; exact this
      have hBel : Below B w W := (HBw.out.1.mono (by have := HP.out.hB; have := HP.out.lt; omega)).trans (HT.out.toBelow HP6.out (fun k e => by have h1 := HLe.out k (.inl e); have := HP.out.hB; have := HP.out.lt; omega))
      have hvW : ErrV B W := HOk.out.2.2.2.later hBel
      have hgm := HT.out.not_mine HGg.out
      obtain ⟨F, hF, hent, hc⟩ := pstate_any g ((bs t).drop i) (hD0.draws 1) (show Inp g ((bs t).drop i) (W.drewN 1) from HIn.out) hgm hroom hne0 (errv_draws hvW 1)
      have k8 : W.cell? ⟨b, 8, none⟩ = some (.func (.func F) #[] #[]) := by rw [← hF]; exact hD0.cell 8 _ rfl
      have HCall := Lib.hid (show Calls Tryz.prog F #[.pointer (some ⟨b, 0, none⟩), .pointer (some ⟨g, 0, none⟩)] W.drew (StPost B b si si.mode s.left Vi g ((bs t).drop i) W.drew) from hc)
      have HRest := Lib.hid (restLen_of HIn.out)
      have HKk := Lib.hid (⟨hlt, hst, hb0, hdl⟩ : _ ∧ _ ∧ _ ∧ _)
      have hne : ((mkS ((bs t).drop i)).toList == ([] : List UInt8)) = false := by
        rw [toList_bs, bs_mkS]
        cases hd : (bs t).drop i with
        | nil => exact absurd hd hne0
        | cons a r => rfl
      rw [hst] at HC
      have HGm := Lib.hid hgm
      have HTW := Lib.hid (show PTn b V Vi (· = g) W6 W.drew from HT.out.trans (PTn.draws 1))
      clear hlt hst hb0 hqm hEl hdl hroom hne0 hD0 hBel hvW hc hF hi hgm
      obtain ⟨tx, htx⟩ : ∃ tx, tx = mkS ((bs t).drop i) := ⟨_, rfl⟩
      rw [← htx] at hne hkr
      clear htx
      go_wp2_with fail
      refine HC.out.mono ?_
      rintro e w2 ⟨rfl, rfl⟩
      go_wp2_with fail
      refine wp_region_held_drew (S := fun w' => w'.cell? ⟨gp, 0, none⟩ = some (.pointer (some ⟨b, 0, none⟩)) ∧ w'.cell? ⟨gi, 0, none⟩ = some (.pointer (some ⟨g, 0, none⟩))) (by kernel_rfl) ⟨hkp, hki⟩ (fun hHeld => ?_)
      refine wpAnyH_take (i := 0) (v := ?_) rfl (by kernel_rfl) (by kernel_rfl) (by kernel_rfl) (fun c a w h => ppost_put 28 (by decide) (by decide) c a _ w h) (Or.inl ⟨by rfl, ?_⟩) (by assumption) ?_
      case refine_2 => (intro w hSw; (try dsimp only at hSw); obtain ⟨hS1, hS2⟩ := hSw; go_simp; try with_reducible rfl)
      refine wpAnyH_take (i := 1) (v := ?_) rfl (by kernel_rfl) (by kernel_rfl) (by kernel_rfl) (fun c a w h => ppost_put 29 (by decide) (by decide) c a _ w h) (Or.inl ⟨by rfl, ?_⟩) (by assumption) ?_
      case refine_2 => (intro w hSw; (try dsimp only at hSw); obtain ⟨hS1, hS2⟩ := hSw; go_simp; try with_reducible rfl)
      refine wpAnyH_take (i := 2) (v := ?_) rfl (by kernel_rfl) (by kernel_rfl) (by kernel_rfl) (fun c a w h => ppost_put 30 (by decide) (by decide) c a _ w h) (Or.inl ⟨by rfl, ?_⟩) (by assumption) ?_
      case refine_2 => (intro w hSw; (try dsimp only at hSw); obtain ⟨hS1, hS2⟩ := hSw; go_simp; try with_reducible rfl)
      refine wpAnyH_take (i := 3) (v := ?_) rfl (by kernel_rfl) (by kernel_rfl) (by kernel_rfl) (fun c a w h => ppost_put 31 (by decide) (by decide) c a _ w h) (Or.inl ⟨by rfl, ?_⟩) (by assumption) ?_
      case refine_2 => (intro w hSw; (try dsimp only at hSw); obtain ⟨hS1, hS2⟩ := hSw; go_simp; try with_reducible rfl)
      refine wpAnyH_take (i := 5) (v := ?_) rfl (by kernel_rfl) (by kernel_rfl) (by kernel_rfl) (fun c a w h => ppost_put 33 (by decide) (by decide) c a _ w h) (Or.inl ⟨by rfl, ?_⟩) (by assumption) ?_
      case refine_2 => (intro w hSw; (try dsimp only at hSw); obtain ⟨hS1, hS2⟩ := hSw; go_simp; try with_reducible rfl)
      refine wpAnyH_take (i := 6) (v := ?_) rfl (by kernel_rfl) (by kernel_rfl) (by kernel_rfl) (fun c a w h => ppost_put 34 (by decide) (by decide) c a _ w h) (Or.inl ⟨by rfl, ?_⟩) (by assumption) ?_
      case refine_2 => (intro w hSw; (try dsimp only at hSw); obtain ⟨hS1, hS2⟩ := hSw; go_simp; try with_reducible rfl)
      refine wpAnyH_ready (rs := [4]) (by kernel_rfl) (by simp) ?_
      refine AllReadyH.cons rfl (fun K hK => ?_) AllReadyH.nil
      go_simp
      refine hK.out _ _ (by assumption) (fun hHeld2 => ?_)
      clear hK K hHeld
      refine wpAnyH_ready (rs := [7]) (by kernel_rfl) (by simp) ?_
      refine AllReadyH.cons rfl (fun K hK => ?_) AllReadyH.nil
      go_simp
      refine HCall.out.mono ?_
      rintro e w3 ⟨k, s2, hk1, hkl, hea, rfl, ⟨V2, hp2, ht2⟩, hin2⟩
      have HT2 := Lib.hid (HTW.out.trans ht2)
      have HE2 := Lib.hid (show EatsP s ((bs t).take (i + k)) s2 from by rw [List.take_add]; exact HE.out.append hea)
      have hbx := HBx.out.1.turn HT2.out HGe.out hin2
      have kp2 := hbx.cp
      have ki2 := hbx.ci
      have HBx2 := Lib.hid hbx
      have hdk : ((bs t).drop i).drop k = (bs t).drop (i + k) := by rw [List.drop_drop]
      have hik : i + k ≤ t.size := by have := HKk.out.2.2.2; omega
      have HIn2 := Lib.hid (show Inp g ((bs t).drop (i + k)) w3 by rw [← hdk]; exact hin2)
      have HP2 := Lib.hid hp2
      have HK1 := Lib.hid (⟨hk1, hik⟩ : _ ∧ _)
      have hS3 : (fun w' : World => w'.cell? ⟨gp, 0, none⟩ = some (.pointer (some ⟨b, 0, none⟩)) ∧ w'.cell? ⟨gi, 0, none⟩ = some (.pointer (some ⟨g, 0, none⟩))) w3 := ⟨kp2, ki2⟩
      dsimp only at hS3
      have j7 : w3.cell? ⟨b, 7, none⟩ = some (.int .i64 0) := HP2.out.cell 7 _ rfl
      have g7 := HP2.out.frz 7
      have j8 : w3.cell? ⟨b, 8, none⟩ = some (pstV si.mode) := HP2.out.cell 8 _ rfl
      have g8 := HP2.out.frz 8
      obtain ⟨u8, hu8⟩ : ∃ u, w3.cell? ⟨b, 8, none⟩ = some u := ⟨_, j8⟩
      have HB4 := Lib.hid (show s2.bad ≠ 0 → s2.mode ≠ 7 → s2.bad = 400 from fun h1 h2 => by
        have h3 := feedP_400 (((bs t).drop i).take k) si HKk.out.2.2.1
        unfold EatsP at hea
        rw [hea] at h3
        exact h3 h1 h2)
      rw [hdk] at HBx2
      clear j8 hp2 ht2 hin2 hea hdk hbx hk1 hkl hik
      have hgpb : gp ≠ b := HBx2.out.np.2.2
      have hgpb2 : b ≠ gp := fun e => hgpb e.symm
      by_cases hbad : s2.bad = 0
      · have hE : stE s2 = .returned (.tuple #[pstV s2.mode, .nilIface]) := by unfold stE; rw [if_pos hbad]
        rw [hE]
        have hst := pstV_store
        have hta := masserted_nil
        have HX := Lib.hid (show Hid (Par B b s2 s2.mode s2.bad s.left V2 (w3.setCell ⟨b, 8, none⟩ (pstV s2.mode))) ∧ Hid (PTn b V V2 (· = g) W6 (w3.setCell ⟨b, 8, none⟩ (pstV s2.mode))) ∧ Hid (Inp g ((bs t).drop (i + k)) (w3.setCell ⟨b, 8, none⟩ (pstV s2.mode))) from by
          refine ⟨?_, HT2.out.trans (PTn.set 8 _), ?_⟩
          · rw [hbad]; exact HP2.out.set 8 (pstV s2.mode) s2 s2.mode 0 s.left rfl rfl rfl rfl rfl rfl (fun e => ⟨e, rfl⟩)
          · have := HBx2.out.nr.2.2
            exact (show (w3.setCell ⟨b, 8, none⟩ (pstV s2.mode)).heap[g]? = _ from (Below.heap_setCell _ _ _ _ this).trans HIn2.out))
        have HM7 := Lib.hid (show s2.mode ≤ 7 from (HE2.out.ok HOk.out.1).fit.mode)
        clear hE hbad
        show K _ _
        refine hK.out _ _ (by assumption) (fun hHeld3 => ?_)
        clear hK K hHeld2
        generalize hmd : s2.mode = md at *
        have HMd := Lib.hid hmd
        clear hmd
        have hV := pstV_form md
        generalize hPV : pstV md = PVv at *
        have HPV := Lib.hid hPV
        clear hPV
        rcases hV with rfl | ⟨F2, rfl⟩
        all_goals
          refine wpAnyH_take (i := 8) (v := ?_) rfl (by kernel_rfl) (by kernel_rfl) (by kernel_rfl) (fun c a w h => ppost_put 27 (by decide) (by decide) c a _ w h) (Or.inl ⟨by rfl, ?_⟩) (by assumption) ?_
          case refine_2 => (intro w hSw; (try dsimp only at hSw); go_simp; try with_reducible rfl)
          refine wpAnyH_take (i := 9) (v := ?_) rfl (by kernel_rfl) (by kernel_rfl) (by kernel_rfl) (fun c a w h => ppost_put 36 (by decide) (by decide) c a _ w h) (Or.inl ⟨by rfl, ?_⟩) (by assumption) ?_
          case refine_2 => (intro w hSw; (try dsimp only at hSw); go_simp; try with_reducible rfl)
          refine wpAnyH_take (i := 10) (v := ?_) rfl (by kernel_rfl) (by kernel_rfl) (by kernel_rfl) (fun c a w h => ppost_put 37 (by decide) (by decide) c a _ w h) (Or.inl ⟨by rfl, ?_⟩) (by assumption) ?_
          case refine_2 => (intro w hSw; (try dsimp only at hSw); go_simp; try with_reducible rfl)
          refine wpAnyH_ready (rs := [11]) (by kernel_rfl) (by simp) ?_
          refine AllReadyH.cons rfl (fun K hK => ?_) AllReadyH.nil
          go_simp
          refine hK.out _ _ (by assumption) (fun hHeld4 => ?_)
          clear hK K
          refine wpAnyH_ready (rs := [12]) (by kernel_rfl) (by simp) ?_
          refine AllReadyH.cons rfl (fun K hK => ?_) AllReadyH.nil
          go_simp
          refine hK.out _ _ (by assumption) (fun hHeld5 => ?_)
          clear hK K
          refine wpAnyH_done (by kernel_rfl) ?_ _
          go_wp2_with fail
          exact ⟨⟨i + k, s2, V2, HK1.out.2, HE2, ⟨md, Lib.hid ⟨HM7.out, fun _ => HMd.out.symm⟩, HX.out.1⟩, HX.out.2.1, HX.out.2.2⟩, by rw [HRest.out, restLen_of HX.out.2.2.out]; have h1 := HKk.out.2.2.2; have h2 := HK1.out; simp only [List.length_drop, HLen.out] at *; omega⟩
      · by_cases hm7 : s2.mode = 7
        · have hE : stE s2 = .returned (.tuple #[.nilFunc, flV s2.bad]) := by unfold stE; rw [if_neg hbad, if_pos hm7]
          rw [hE]
          have hta := masserted
          have HX := Lib.hid (show Hid (Par B b s2 7 s2.bad s.left V2 ((w3.setCell ⟨b, 7, none⟩ (.int .i64 s2.bad)).setCell ⟨b, 8, none⟩ .nilFunc)) ∧ Hid (PTn b V V2 (· = g) W6 ((w3.setCell ⟨b, 7, none⟩ (.int .i64 s2.bad)).setCell ⟨b, 8, none⟩ .nilFunc)) ∧ Hid (Inp g ((bs t).drop (i + k)) ((w3.setCell ⟨b, 7, none⟩ (.int .i64 s2.bad)).setCell ⟨b, 8, none⟩ .nilFunc)) from by
            refine ⟨(HP2.out.set 7 (.int .i64 s2.bad) s2 si.mode s2.bad s.left rfl rfl rfl rfl rfl rfl (fun e => ⟨e, rfl⟩)).set 8 .nilFunc s2 7 s2.bad s.left rfl rfl rfl rfl rfl rfl (fun e => ⟨e, rfl⟩), (HT2.out.trans (PTn.set 7 _)).trans (PTn.set 8 _), ?_⟩
            have := HBx2.out.nr.2.2
            exact (Below.heap_setCell _ _ _ _ this).trans ((Below.heap_setCell _ _ _ _ this).trans HIn2.out))
          have HBad := Lib.hid hbad
          clear hE hbad hm7
          generalize hbd : s2.bad = bd at *
          have HBd := Lib.hid hbd
          clear hbd
          show K _ _
          refine hK.out _ _ (by assumption) (fun hHeld3 => ?_)
          clear hK K hHeld2
          unfold flV at *
          refine wpAnyH_take (i := 8) (v := ?_) rfl (by kernel_rfl) (by kernel_rfl) (by kernel_rfl) (fun c a w h => ppost_put 27 (by decide) (by decide) c a _ w h) (Or.inl ⟨by rfl, ?_⟩) (by assumption) ?_
          case refine_2 => (intro w hSw; (try dsimp only at hSw); go_simp; try with_reducible rfl)
          refine wpAnyH_take (i := 9) (v := ?_) rfl (by kernel_rfl) (by kernel_rfl) (by kernel_rfl) (fun c a w h => ppost_put 36 (by decide) (by decide) c a _ w h) (Or.inl ⟨by rfl, ?_⟩) (by assumption) ?_
          case refine_2 => (intro w hSw; (try dsimp only at hSw); go_simp; try with_reducible rfl)
          refine wpAnyH_take (i := 10) (v := ?_) rfl (by kernel_rfl) (by kernel_rfl) (by kernel_rfl) (fun c a w h => ppost_put 37 (by decide) (by decide) c a _ w h) (Or.inl ⟨by rfl, ?_⟩) (by assumption) ?_
          case refine_2 => (intro w hSw; (try dsimp only at hSw); go_simp; try with_reducible rfl)
          refine wpAnyH_ready (rs := [11]) (by kernel_rfl) (by simp) ?_
          refine AllReadyH.cons rfl (fun K hK => ?_) AllReadyH.nil
          go_simp
          refine hK.out _ _ (by assumption) (fun hHeld4 => ?_)
          clear hK K
          refine wpAnyH_ready (rs := [12]) (by kernel_rfl) (by simp) ?_
          refine AllReadyH.cons rfl (fun K hK => ?_) AllReadyH.nil
          go_simp
          refine hK.out _ _ (by assumption) (fun hHeld5 => ?_)
          clear hK K
          refine wpAnyH_done (by kernel_rfl) ?_ _
          go_wp2_with fail
          exact ⟨⟨i + k, s2, V2, HK1.out.2, HE2, ⟨7, Lib.hid ⟨Nat.le_refl _, fun e => absurd (HBd.out.symm.trans e) HBad.out⟩, by rw [HBd.out]; exact HX.out.1⟩, HX.out.2.1, HX.out.2.2⟩, by rw [HRest.out, restLen_of HX.out.2.2.out]; have h1 := HKk.out.2.2.2; have h2 := HK1.out; simp only [List.length_drop, HLen.out] at *; omega⟩
        · have hE : stE s2 = .panicked malP := by unfold stE; rw [if_neg hbad, if_neg hm7]
          rw [hE]
          have h400 := HB4.out hbad hm7
          have hs2 : ({ s2 with bad := 400 } : Pr) = s2 := by rw [← h400]
          have hstop : stopP s2 = true := by unfold stopP; simp [hbad]
          have hfin : feedP s (bs t) = (i + k, s2) := by
            have := HE2.out.feed (k := i + k) (by rw [HLen.out]; exact HK1.out.2)
            rw [feedP_stop s2 _ hstop] at this
            simpa using this
          have hlen : t.size = i + k + ((bs t).drop (i + k)).length := by rw [List.length_drop, HLen.out]; have := HK1.out.2; omega
          have hnm2 : ¬ PMine b V2 gn ∧ ¬ PMine b V2 gs := ⟨HT2.out.not_mine ⟨cell_lt HBx.out.1.cn, (HGe.out gn (by simp)).1⟩, HT2.out.not_mine ⟨cell_lt HBx.out.1.cs, (HGe.out gs (by simp)).1⟩⟩
          have hEnd := feedEnd_mal gp gb gi gn gs g t ((bs t).drop (i + k)) (i + k) HBx2.out HP2.out hlen (by have := HOk.out.2.2.1; omega) hnm2
          rw [hs2] at hEnd
          have hqb : si.mode ≤ 7 := HOki.out.fit.mode
          have HDone := Lib.hid (show ∀ w2, FdPost B b s2 si.mode 400 s.left V2 gn gs (i + k) w3 w2 → SyncTo B b s2 V w w2 from fun w2 hf => by
            obtain ⟨f1, f2, f3, f4⟩ := hf
            have hl := feedP_left (bs t) s
            rw [hfin] at hl
            refine ⟨V2, ⟨si.mode, hqb, fun e => absurd e hbad, by show Par B b s2 si.mode s2.bad s2.left V2 w2; rw [hl, h400]; exact f1⟩, ?_⟩
            have h1 : PTn b V V (fun k => k = g ∨ k = gn ∨ k = gs) w W6 := PTn.of (by rw [HGp.out]; rw [HGp.out] at HBw; exact HBw.out.1)
            have h2 := HT2.out.mono (Y := fun k => k = g ∨ k = gn ∨ k = gs) (fun k _ e => .inl e)
            have h3 := f2.mono (Y := fun k => k = g ∨ k = gn ∨ k = gs) (fun k _ e => .inr e)
            exact ((h1.trans h2).trans h3).mono (fun k hk e => by have := HLe.out k e; omega))
          show Leaves _ _ _ _ _ _ _
          rw [hfin]
          refine leaves_cons (f := 29) (args := #[.pointer (some ⟨gp, 0, none⟩), .pointer (some ⟨gb, 0, none⟩), .pointer (some ⟨gi, 0, none⟩), .pointer (some ⟨gn, 0, none⟩), .pointer (some ⟨gs, 0, none⟩)]) (by simp) (by simp [go_sem]) ?_
          refine hEnd.mono ?_
          rintro e u' w4 ⟨rfl, rfl, hFd⟩
          have k1 := hFd.2.2.1
          have k2 := hFd.2.2.2
          have hD := HDone.out _ hFd
          simp [Leaves, settle, results, Tryz.results15, go_sem, k1, k2, h400]
          exact hD
    · -- the end
      have hend : stopP si = true ∨ i = (bs t).length := by
        rw [HLen.out]
        by_cases h1 : i < t.size
        · left; cases hs : stopP si
          · exact absurd ⟨h1, hs⟩ hgo
          · rfl
        · right; omega
      have hfin : feedP s (bs t) = (i, si) := by
        rcases hend with hs | hs
        · have := HE.out.feed (k := i) (by rw [HLen.out]; exact hi)
          rw [feedP_stop si _ hs] at this
          simpa using this
        · have := HE.out
          unfold EatsP at this
          rw [hs, List.take_length] at this
          rw [this, hs]
      have HFin := Lib.hid hfin
      have hlen : t.size = i + ((bs t).drop i).length := by rw [List.length_drop, HLen.out]; omega
      have hnm2 : ¬ PMine b Vi gn ∧ ¬ PMine b Vi gs := ⟨HT.out.not_mine ⟨cell_lt HBx.out.1.cn, (HGe.out gn (by simp)).1⟩, HT.out.not_mine ⟨cell_lt HBx.out.1.cs, (HGe.out gs (by simp)).1⟩⟩
      have HEnd := Lib.hid (feedEnd_idle gp gb gi gn gs g t ((bs t).drop i) i HBw2.out HD.out hlen (by have := HOk.out.2.2.1; omega) hnm2)
      have HDone := Lib.hid (show ∀ w2, FdPost B b si q si.bad s.left Vi gn gs i W w2 → SyncTo B b (feedP s (bs t)).2 V w w2 from fun w2 hf => by
        obtain ⟨f1, f2, f3, f4⟩ := hf
        have hl := feedP_left (bs t) s
        rw [HFin.out] at hl ⊢
        refine ⟨Vi, ⟨q, HQ.out.1, HQ.out.2, by show Par B b si q si.bad si.left Vi w2; rw [hl]; exact f1⟩, ?_⟩
        have h1 : PTn b V V (fun k => k = g ∨ k = gn ∨ k = gs) w W6 := PTn.of (by rw [HGp.out]; rw [HGp.out] at HBw; exact HBw.out.1)
        have h2 := HT.out.mono (Y := fun k => k = g ∨ k = gn ∨ k = gs) (fun k _ e => .inl e)
        have h3 := f2.mono (Y := fun k => k = g ∨ k = gn ∨ k = gs) (fun k _ e => .inr e)
        exact ((h1.trans h2).trans h3).mono (fun k hk e => by have := HLe.out k e; omega))
      rw [HFin.out] at HDone
      by_cases hlt : i < t.size
      · have hst : stopP si = true := by rcases hend with h1 | h1; exact h1; rw [HLen.out] at h1; omega
        rw [hst] at HC
        have hne : ((mkS ((bs t).drop i)).toList == ([] : List UInt8)) = false := by
          rw [toList_bs, bs_mkS]
          cases hd : (bs t).drop i with
          | nil => have := congrArg List.length hd; rw [List.length_drop, HLen.out] at this; simp at this; omega
          | cons a r => rfl
        clear hend hfin hlen hnm2 hst hgo hlt hi
        generalize mkS ((bs t).drop i) = tx at *
        go_wp2_with fail
        refine HC.out.mono ?_
        rintro e w2 ⟨rfl, rfl⟩
        go_wp2_with fail
        rw [HFin.out]
        refine leaves_cons (f := 29) (args := #[.pointer (some ⟨gp, 0, none⟩), .pointer (some ⟨gb, 0, none⟩), .pointer (some ⟨gi, 0, none⟩), .pointer (some ⟨gn, 0, none⟩), .pointer (some ⟨gs, 0, none⟩)]) (by simp) (by simp [go_sem]) ?_
        refine HEnd.out.mono ?_
        rintro e u' w3 ⟨rfl, rfl, hF⟩
        have k1 := hF.2.2.1
        have k2 := hF.2.2.2
        simp [Leaves, settle, results, Tryz.results15, go_sem, k1, k2]
        exact HDone.out _ hF
      · have hit : i = t.size := by omega
        have hdr : (bs t).drop i = [] := by rw [hit, ← HLen.out]; exact List.drop_length
        have hkr2 : W.cell? ⟨g, 0, none⟩ = some (.string ⟨#[]⟩) := by rw [hkr, hdr]; rfl
        clear hend hfin hlen hnm2 hgo hlt hi hit hdr hkr
        go_wp2_with fail
        rw [HFin.out]
        refine leaves_cons (f := 29) (args := #[.pointer (some ⟨gp, 0, none⟩), .pointer (some ⟨gb, 0, none⟩), .pointer (some ⟨gi, 0, none⟩), .pointer (some ⟨gn, 0, none⟩), .pointer (some ⟨gs, 0, none⟩)]) (by simp) (by simp [go_sem]) ?_
        refine HEnd.out.mono ?_
        rintro e u' w3 ⟨rfl, rfl, hF⟩
        have k1 := hF.2.2.1
        have k2 := hF.2.2.2
        simp [Leaves, settle, results, Tryz.results15, go_sem, k1, k2]
        exact HDone.out _ hF
theorem pfeed_any (t : ByteArray) (h : Sync B b s V w) (ho : s.Ok s.left) (_hq : Rq s) (hn : s.left + t.size ≤ 100000) (hv : ErrV B w) :
    Calls Tryz.prog 15 #[ptr b, .string t] w fun e w' => e = .returned (.tuple #[.int .i64 (feedP s (bs t)).1, .int .i64 (feedP s (bs t)).2.bad]) ∧ SyncTo B b (feedP s (bs t)).2 V w w' := pfeedG_any t h ho hn hv
end Tk
end Go.Proofs.YtpcdaaijlgilkaaGreatDoor
namespace Go.Proofs.YtpcdaaijlgilkaaGreatDoor
open Go.RowKit
namespace Tk

variable {B b : Nat} {s : Pr} {q z lf : Nat} {V : PV} {w : World}
set_option maxHeartbeats 4000000 in
set_option maxRecDepth 100000 in
theorem pparser_any (L H C M : Int) (l h c m : Nat) (B : Nat) (w : World) (hB : B ≤ w.heap.size) (hl : max L 0 = l) (hh : max H 0 = h) (hc : max C 0 = c) (hm : max M 0 = m) :
    Calls Tryz.prog 27 #[.agg #[.int .i64 L, .int .i64 H, .int .i64 C, .int .i64 M], .bool false] w fun e w' => ∃ b V, e = .returned (ptr b) ∧ w.heap.size ≤ b ∧ Sync B b (newP l h c m false) V w' ∧ Below w.heap.size w w' := by
  have hbegin : ∀ W, Par B (w.heap.size + 1) { L := l, H := h, C := c, M := m, mode := 7 } 7 0 0 (pvNil (.slice none 0 0)) W → Calls Tryz.prog 34 #[.pointer (some ⟨w.heap.size + 1, 0, none⟩)] W fun e w' => e = .returned (.tuple #[]) ∧ Par B (w.heap.size + 1) (newP l h c m false) 0 0 0 (pvNil (.slice none 0 0)) w' ∧ PTn (w.heap.size + 1) (pvNil (.slice none 0 0)) (pvNil (.slice none 0 0)) (fun _ => False) W w' := fun W hp => pbegin_any hp
  have HBg := Lib.hid hbegin
  clear hbegin
  go_enter Tryz.func27, Tryz.ntmps27
  go_wp2_with fail
  refine (HBg.out _ ?_).mono ?_
  · have hblk := heap_alloc_last (w.alloc (.cells #[.int .i64 L, .int .i64 H, .int .i64 C, .int .i64 M] 24)) (.cells (pcells (w.heap.size + 1) { L := l, H := h, C := c, M := m, mode := 7 } 7 0 0 (pvNil (.slice none 0 0))) 72)
    rw [show (w.alloc (.cells #[.int .i64 L, .int .i64 H, .int .i64 C, .int .i64 M] 24)).heap.size = w.heap.size + 1 by simp] at hblk
    exact ⟨by omega, hblk, Meth.nil _ _, World.ownsRow_nil _ _ _ _, World.ownsRow_nil _ _ _ _, World.ownsRow_nil _ _ _ _, World.ownsRow_nil _ _ _ _, (fun k hk => by cases hk), (fun k hk => by cases hk), (fun hm => by cases hm), (by rintro k ⟨bd, hd, -⟩; cases hd), (by rintro k ⟨bd, hd, -⟩; cases hd)⟩
  rintro e w2 ⟨rfl, hp, ht⟩
  go_wp2_with fail
  go_ret
  refine ⟨w.heap.size + 1, pvNil (.slice none 0 0), rfl, by omega, ⟨0, by omega, fun _ => rfl, hp⟩, ?_⟩
  refine (((Below.refl _ _).alloc (Nat.le_refl _) _).alloc (by simp) _).trans ⟨ht.os, ht.tape, ht.output, ht.size, fun k hk => ht.block k (by simp at hk ⊢; omega) ?_ (fun e => e)⟩
  rintro ((e | e | e | e | e | e) | ⟨bd, hd, -⟩)
  · omega
  all_goals first | (cases e; done) | (cases hd; done)
set_option maxHeartbeats 1000000 in
set_option maxRecDepth 100000 in
theorem prequests_any (L H C M : Int) (l h c m : Nat) (B : Nat) (w : World) (hB : B ≤ w.heap.size) (hl : max L 0 = l) (hh : max H 0 = h) (hc : max C 0 = c) (hm : max M 0 = m) :
    Calls Tryz.prog 19 #[.agg #[.int .i64 L, .int .i64 H, .int .i64 C, .int .i64 M]] w fun e w' => ∃ b V, e = .returned (ptr b) ∧ w.heap.size ≤ b ∧ Sync B b (newP l h c m false) V w' ∧ Below w.heap.size w w' := by
  have hb0 : Below w.heap.size w (w.alloc (.cells #[.int .i64 L, .int .i64 H, .int .i64 C, .int .i64 M] 24)) := (Below.refl _ _).alloc (Nat.le_refl _) _
  have HP := Lib.hid (pparser_any L H C M l h c m B (w.alloc (.cells #[.int .i64 L, .int .i64 H, .int .i64 C, .int .i64 M] 24)) (Nat.le_trans hB hb0.size) hl hh hc hm)
  have HB0 := Lib.hid hb0
  clear hb0 hB hl hh hc hm
  go_enter Tryz.func19, Tryz.ntmps19
  go_wp2_with fail
  refine HP.out.mono ?_
  rintro e w2 ⟨b, V, rfl, h1, h2, h3⟩
  unfold ptr
  go_wp2
  go_ret
  exact ⟨b, V, rfl, Nat.le_trans HB0.out.size h1, h2, HB0.out.trans (h3.mono HB0.out.size)⟩

set_option maxHeartbeats 4000000 in
set_option maxRecDepth 100000 in
/-- a parser of requests begins anew, and nothing but its block is turned -/
theorem pbeginR_any (h : Par B b s q z lf V w) (hr : s.rsp = false) :
    Calls Tryz.prog 34 #[ptr b] w fun e w' => e = .returned (.tuple #[]) ∧ Par B b (zeroP s) 0 z 0 (pvNil V.m) w' ∧ PTn b V (pvNil V.m) (fun _ => False) w w' ∧ (∀ k, k ≠ b → w'.heap[k]? = w.heap[k]?) := by
  have hblk := h.blk
  have ht := there_of_blk hblk 8 16 (by show 24 ≤ 24; omega)
  have hB2 := setCells_blk b 72 (zeroL 0) 8 w _ hblk (by show 24 ≤ 24; omega)
  have c5 : (w.setCells b 8 (zeroL 0)).cell? ⟨b, 5, none⟩ = some (.bool s.rsp) := by rw [Lib.cell_of_heap hB2]; rfl
  have hq := setCells_rest b (zeroL 0) 8 w
  have hoth := setCells_other b (zeroL 0) 8 w
  have HQ := Lib.hid hq
  have HO := Lib.hid hoth
  have HB2 := Lib.hid hB2
  have H := Lib.hid h
  have HT := Lib.hid ht
  clear h hq hoth hB2 hblk ht
  generalize hW : w.setCells b 8 (zeroL 0) = W1 at *
  have HW := Lib.hid hW
  unfold ptr
  clear hW
  rw [hr] at c5
  have HR := Lib.hid hr
  clear hr
  go_enter Tryz.func34, Tryz.ntmps34
  go_wp2_with (refine wpList_store_to rfl 70 _ _ rfl b 8 (zeroL 0).toArray rfl rfl HT.out (by kernel_rfl) (all_oneCell_toArray (List.all_eq_true.1 (show (zeroL 0).all (·.oneCell') = true from rfl))) HW.out ?_)
  refine bodyPost_end (v := .tuple #[]) ?_ rfl ?_
  · simp [results, Tryz.results34, go_sem]
  · show _ ∧ _
    have hp := fun h4 => H.out.renew (X := fun _ => False) (w' := W1) HO.out HQ.out.1 HQ.out.2 h4
    rw [HR.out] at hp
    simp only [Bool.false_eq_true, if_false] at hp
    have hp2 := hp (HB2.out.trans (by unfold pcells zeroP pvNil; rw [HR.out]; rfl))
    exact ⟨rfl, hp2.1, hp2.2, HO.out⟩

theorem bodyPost_at {P : Program} {fn : Func} {R : Ending → World → Prop} {a : Act} {x : Exit} {w W : World} (hW : w = W) (h : bodyPost P fn R x a W) : bodyPost P fn R x a w := hW ▸ h
def nxZ : List Value := [.string ⟨#[]⟩, .string ⟨#[]⟩, .int .i64 0, .string ⟨#[]⟩, .int .i64 0, .slice none 0 0, .string ⟨#[]⟩, .slice none 0 0]
/-- what Next leaves: a message whose rows are its own -/
def NxPost (B b : Nat) (s : Pr) (V : PV) (w w' : World) : Prop := ∃ V', Sync B b s.fresh V' w' ∧ PTn b V V' (fun _ => False) w w' ∧ (∀ k, V.f.ownBlock = some k ∨ V.t.ownBlock = some k → ¬ PMine b V' k ∧ w'.heap[k]? = w.heap[k]?)
theorem NxPost.of {wA wB wC : World} (h : Par B b s 7 0 s.left V w) (hr : s.rsp = false) (hb0 : s.bad = 0) (hA : Below w.heap.size w wA) (h1 : Par B b (zeroP s) 0 0 0 (pvNil V.m) wB) (h2 : PTn b V (pvNil V.m) (fun _ => False) wA wB) (h3 : ∀ k, k ≠ b → wB.heap[k]? = wA.heap[k]?) (hC : Below w.heap.size wB wC) : NxPost B b s V w wC := by
  have hz : zeroP s = s.fresh := by unfold zeroP Pr.fresh; rw [hr, hb0]; rfl
  obtain ⟨n1, n2, n3, n4, n5⟩ := h.neB
  have hmine : ∀ k, PMine b (pvNil V.m) k → k = b ∨ V.m.ownBlock = some k := by
    rintro k ((e | e | e | e | e | e) | ⟨bd, hd, -⟩)
    · exact .inl e
    · exact .inr e
    all_goals first | (cases e; done) | (cases hd; done)
  have hml : ∀ k, PMine b (pvNil V.m) k → k < w.heap.size := fun k hk => by
    rcases hmine k hk with rfl | hk
    · exact h.lt
    · exact (h.meth.lt k hk).2
  have hP := (PTn.of (b := b) (V := V) (X := fun _ => False) hA).trans h2
  refine ⟨pvNil V.m, ⟨0, by omega, fun _ => ?_, ?_⟩, ⟨hC.os.trans hP.os, hC.tape.trans hP.tape, hC.output.trans hP.output, Nat.le_trans hP.size hC.size, fun k hk hm hx => (hC.block k hk).trans (hP.block k hk hm hx), hP.new⟩, fun k hk => ⟨fun hm => ?_, ?_⟩⟩
  · unfold Pr.fresh; rw [hr]; rfl
  · have e1 : s.fresh.bad = 0 := rfl
    have e2 : s.fresh.left = 0 := rfl
    rw [e1, e2, ← hz]
    exact h1.same hC.size fun k hk => hC.block k (hml k hk)
  · rcases hmine k hm with rfl | e
    · rcases hk with hk | hk
      · exact n3 hk
      · exact n4 hk
    · rcases hk with hk | hk
      · exact Meth.ne2 h.flds h.meth (by decide) k e hk
      · exact Meth.ne2 h.trl h.meth (by decide) k e hk
  · have hkl : k < w.heap.size := by rcases hk with hk | hk; exact (h.flds.lt k hk).2; exact (h.trl.lt k hk).2
    refine (hC.block k hkl).trans ((h3 k ?_).trans (hA.block k hkl))
    rintro rfl; rcases hk with hk | hk
    · exact n3 hk
    · exact n4 hk
set_option maxHeartbeats 4000000 in
set_option maxRecDepth 100000 in
theorem pnext_any (h : Sync B b s V w) (hr : s.rsp = false) (hw : waitP s = true) :
    Calls Tryz.prog 17 #[ptr b] w fun e w' => e = .returned (.tuple #[.agg (msgL s.msg V.f V.t).toArray, .bool true]) ∧ NxPost B b s V w w' := by
  obtain ⟨q, hq, hqm, h⟩ := h
  have hb0 : s.bad = 0 := by unfold waitP at hw; simp at hw; exact hw.2
  have hm7 : s.mode = 7 := by unfold waitP at hw; simp at hw; exact hw.1
  have hq7 : q = 7 := (hqm hb0).trans hm7
  subst hq7
  rw [hb0] at h
  obtain ⟨Z, hZ⟩ : ∃ Z, Z = w.alloc (.cells nxZ.toArray 32) := ⟨_, rfl⟩
  have hZb : Below w.heap.size w Z := by rw [hZ]; exact (Below.refl _ _).alloc (Nat.le_refl _) _
  have HM := Lib.hid (pmade_any (h.below hZb))
  have HW := Lib.hid (pwaits_any (h.below hZb) (Nat.le_refl 7))
  have HZ := Lib.hid hZ
  have HZb := Lib.hid hZb
  have HBg := Lib.hid (fun (W : World) (hb : Below w.heap.size w W) => pbeginR_any (h.below hb) hr)
  have H := Lib.hid h
  replace h := h.below hZb
  have hlt := h.lt
  have hlt1 : b ≠ Z.heap.size := by omega
  have hlt2 : Z.heap.size ≠ b := by omega
  have c5 : Z.cell? ⟨b, 5, none⟩ = some (.bool s.rsp) := h.cell 5 _ rfl
  rw [hr] at c5
  have c12 : Z.cell? ⟨b, 12, none⟩ = some (.string (mkS s.msg.m)) := h.cell 12 _ rfl
  have c13 : Z.cell? ⟨b, 13, none⟩ = some (.string (mkS s.msg.t)) := h.cell 13 _ rfl
  have c14 : Z.cell? ⟨b, 14, none⟩ = some (.int .i64 s.msg.st) := h.cell 14 _ rfl
  have c15 : Z.cell? ⟨b, 15, none⟩ = some (.string (mkS s.msg.r)) := h.cell 15 _ rfl
  have c16 : Z.cell? ⟨b, 16, none⟩ = some (.int .i64 s.msg.mi) := h.cell 16 _ rfl
  have c17 : Z.cell? ⟨b, 17, none⟩ = some V.f := h.cell 17 _ rfl
  have c18 : Z.cell? ⟨b, 18, none⟩ = some (.string (mkS s.msg.body)) := h.cell 18 _ rfl
  have c19 : Z.cell? ⟨b, 19, none⟩ = some V.t := h.cell 19 _ rfl
  obtain ⟨a1, k1, hvf⟩ : ∃ a c, V.f = .slice a s.msg.f.length c := by obtain ⟨a, c, hv, -⟩ := isFlds_own h.flds; exact ⟨a, c, hv⟩
  obtain ⟨a2, k2, hvt⟩ : ∃ a c, V.t = .slice a s.msg.tr.length c := by obtain ⟨a, c, hv, -⟩ := isFlds_own h.trl; exact ⟨a, c, hv⟩
  have HVf := Lib.hid hvf
  have HVt := Lib.hid hvt
  rw [hvf] at c17
  rw [hvt] at c19
  have HR := Lib.hid (⟨hr, hb0, hm7⟩ : _ ∧ _ ∧ _)
  have HE : Hid (msgL s.msg V.f V.t = [.string (mkS s.msg.m), .string (mkS s.msg.t), .int .i64 s.msg.st, .string (mkS s.msg.r), .int .i64 s.msg.mi, .slice a1 s.msg.f.length k1, .string (mkS s.msg.body), .slice a2 s.msg.tr.length k2]) := Lib.hid (by unfold msgL; rw [hvf, hvt])
  clear h hr hb0 hm7 hw hqm hq hvf hvt hZb
  rw [HE.out]
  clear HE
  generalize mkS s.msg.m = x0 at *
  generalize mkS s.msg.t = x1 at *
  generalize mkS s.msg.r = x3 at *
  generalize mkS s.msg.body = x6 at *
  generalize s.msg.f.length = n1 at *
  generalize s.msg.tr.length = n2 at *
  unfold ptr at *
  go_enter Tryz.func17, Tryz.ntmps17
  go_wp2_with fail
  rw [show w.alloc (.cells #[.string ⟨#[]⟩, .string ⟨#[]⟩, .int .i64 0, .string ⟨#[]⟩, .int .i64 0, .slice none 0 0, .string ⟨#[]⟩, .slice none 0 0] 32) = Z from hZ.symm]
  clear hZ
  refine HM.out.mono ?_
  rintro e w' ⟨rfl, rfl⟩
  go_wp2_with fail
  refine HW.out.mono ?_
  rintro e w' ⟨rfl, rfl⟩
  go_wp2_with fail
  have hA : Below w.heap.size w (w'.alloc (.cells #[.string x0, .string x1, .int .i64 s.msg.st, .string x3, .int .i64 s.msg.mi, .slice a1 n1 k1, .string x6, .slice a2 n2 k2] 32)) := HZb.out.alloc HZb.out.size _
  refine (HBg.out _ hA).mono ?_
  rintro e w2 ⟨rfl, hp, ht, hk⟩
  have hblk := (hk w'.heap.size hlt2).trans (heap_alloc_last w' _)
  have d0 : w2.cell? ⟨w'.heap.size, 0, none⟩ = some (.string x0) := by rw [Lib.cell_of_heap hblk]; rfl
  have d1 : w2.cell? ⟨w'.heap.size, 1, none⟩ = some (.string x1) := by rw [Lib.cell_of_heap hblk]; rfl
  have d2 : w2.cell? ⟨w'.heap.size, 2, none⟩ = some (.int .i64 s.msg.st) := by rw [Lib.cell_of_heap hblk]; rfl
  have d3 : w2.cell? ⟨w'.heap.size, 3, none⟩ = some (.string x3) := by rw [Lib.cell_of_heap hblk]; rfl
  have d4 : w2.cell? ⟨w'.heap.size, 4, none⟩ = some (.int .i64 s.msg.mi) := by rw [Lib.cell_of_heap hblk]; rfl
  have d5 : w2.cell? ⟨w'.heap.size, 5, none⟩ = some (.slice a1 n1 k1) := by rw [Lib.cell_of_heap hblk]; rfl
  have d6 : w2.cell? ⟨w'.heap.size, 6, none⟩ = some (.string x6) := by rw [Lib.cell_of_heap hblk]; rfl
  have d7 : w2.cell? ⟨w'.heap.size, 7, none⟩ = some (.slice a2 n2 k2) := by rw [Lib.cell_of_heap hblk]; rfl
  have hwb : w.heap.size ≠ b := fun e => by have := H.out.lt; omega
  have hzs : w.heap.size ≠ w'.heap.size := fun e => by rw [HZ.out] at e; simp at e
  have hblk0 : w2.heap[w.heap.size]? = some (.cells nxZ.toArray 32 (0, 0)) := by
    have h0 : w'.heap[w.heap.size]? = some (.cells nxZ.toArray 32 (0, 0)) := by rw [HZ.out]; exact heap_alloc_last w _
    exact (hk _ hwb).trans ((Below.heap_alloc _ _ _ (Array.getElem?_eq_some_iff.1 h0).1).trans h0)
  have g0 : w2.cell? ⟨w.heap.size, 0, none⟩ = some (.string ⟨#[]⟩) := by rw [Lib.cell_of_heap hblk0]; rfl
  have g1 : w2.cell? ⟨w.heap.size, 1, none⟩ = some (.string ⟨#[]⟩) := by rw [Lib.cell_of_heap hblk0]; rfl
  have g2 : w2.cell? ⟨w.heap.size, 2, none⟩ = some (.int .i64 0) := by rw [Lib.cell_of_heap hblk0]; rfl
  have g3 : w2.cell? ⟨w.heap.size, 3, none⟩ = some (.string ⟨#[]⟩) := by rw [Lib.cell_of_heap hblk0]; rfl
  have g4 : w2.cell? ⟨w.heap.size, 4, none⟩ = some (.int .i64 0) := by rw [Lib.cell_of_heap hblk0]; rfl
  have g5 : w2.cell? ⟨w.heap.size, 5, none⟩ = some (.slice none 0 0) := by rw [Lib.cell_of_heap hblk0]; rfl
  have g6 : w2.cell? ⟨w.heap.size, 6, none⟩ = some (.string ⟨#[]⟩) := by rw [Lib.cell_of_heap hblk0]; rfl
  have g7 : w2.cell? ⟨w.heap.size, 7, none⟩ = some (.slice none 0 0) := by rw [Lib.cell_of_heap hblk0]; rfl
  have z0 := Lib.frozen_of_heap hblk0 0
  have z1 := Lib.frozen_of_heap hblk0 1
  have z2 := Lib.frozen_of_heap hblk0 2
  have z3 := Lib.frozen_of_heap hblk0 3
  have z4 := Lib.frozen_of_heap hblk0 4
  have z5 := Lib.frozen_of_heap hblk0 5
  have z6 := Lib.frozen_of_heap hblk0 6
  have z7 := Lib.frozen_of_heap hblk0 7
  have hBl : Below w.heap.size w2 (w2.setCells w.heap.size 0 [.string x0, .string x1, .int .i64 s.msg.st, .string x3, .int .i64 s.msg.mi, .slice a1 n1 k1, .string x6, .slice a2 n2 k2]) := by
    obtain ⟨r1, r2, r3, r4⟩ := setCells_rest w.heap.size [.string x0, .string x1, .int .i64 s.msg.st, .string x3, .int .i64 s.msg.mi, .slice a1 n1 k1, .string x6, .slice a2 n2 k2] 0 w2
    exact ⟨r2, r3, r4, Nat.le_of_eq r1.symm, fun k hk => setCells_other _ _ 0 w2 k (by omega)⟩
  have HN := Lib.hid (NxPost.of H.out HR.out.1 HR.out.2.1 hA hp ht hk hBl)
  have hPut := setCells_blk w.heap.size 32 [.string x0, .string x1, .int .i64 s.msg.st, .string x3, .int .i64 s.msg.mi, .slice a1 n1 k1, .string x6, .slice a2 n2 k2] 0 w2 _ hblk0 (by show 8 ≤ 8; omega)
  have y0 : (w2.setCells w.heap.size 0 [.string x0, .string x1, .int .i64 s.msg.st, .string x3, .int .i64 s.msg.mi, .slice a1 n1 k1, .string x6, .slice a2 n2 k2]).cell? ⟨w.heap.size, 0, none⟩ = some (.string x0) := by rw [Lib.cell_of_heap hPut]; rfl
  have y1 : (w2.setCells w.heap.size 0 [.string x0, .string x1, .int .i64 s.msg.st, .string x3, .int .i64 s.msg.mi, .slice a1 n1 k1, .string x6, .slice a2 n2 k2]).cell? ⟨w.heap.size, 1, none⟩ = some (.string x1) := by rw [Lib.cell_of_heap hPut]; rfl
  have y2 : (w2.setCells w.heap.size 0 [.string x0, .string x1, .int .i64 s.msg.st, .string x3, .int .i64 s.msg.mi, .slice a1 n1 k1, .string x6, .slice a2 n2 k2]).cell? ⟨w.heap.size, 2, none⟩ = some (.int .i64 s.msg.st) := by rw [Lib.cell_of_heap hPut]; rfl
  have y3 : (w2.setCells w.heap.size 0 [.string x0, .string x1, .int .i64 s.msg.st, .string x3, .int .i64 s.msg.mi, .slice a1 n1 k1, .string x6, .slice a2 n2 k2]).cell? ⟨w.heap.size, 3, none⟩ = some (.string x3) := by rw [Lib.cell_of_heap hPut]; rfl
  have y4 : (w2.setCells w.heap.size 0 [.string x0, .string x1, .int .i64 s.msg.st, .string x3, .int .i64 s.msg.mi, .slice a1 n1 k1, .string x6, .slice a2 n2 k2]).cell? ⟨w.heap.size, 4, none⟩ = some (.int .i64 s.msg.mi) := by rw [Lib.cell_of_heap hPut]; rfl
  have y5 : (w2.setCells w.heap.size 0 [.string x0, .string x1, .int .i64 s.msg.st, .string x3, .int .i64 s.msg.mi, .slice a1 n1 k1, .string x6, .slice a2 n2 k2]).cell? ⟨w.heap.size, 5, none⟩ = some (.slice a1 n1 k1) := by rw [Lib.cell_of_heap hPut]; rfl
  have y6 : (w2.setCells w.heap.size 0 [.string x0, .string x1, .int .i64 s.msg.st, .string x3, .int .i64 s.msg.mi, .slice a1 n1 k1, .string x6, .slice a2 n2 k2]).cell? ⟨w.heap.size, 6, none⟩ = some (.string x6) := by rw [Lib.cell_of_heap hPut]; rfl
  have y7 : (w2.setCells w.heap.size 0 [.string x0, .string x1, .int .i64 s.msg.st, .string x3, .int .i64 s.msg.mi, .slice a1 n1 k1, .string x6, .slice a2 n2 k2]).cell? ⟨w.heap.size, 7, none⟩ = some (.slice a2 n2 k2) := by rw [Lib.cell_of_heap hPut]; rfl
  have HW9 := Lib.hid (rfl : w2.setCells w.heap.size 0 [.string x0, .string x1, .int .i64 s.msg.st, .string x3, .int .i64 s.msg.mi, .slice a1 n1 k1, .string x6, .slice a2 n2 k2] = w2.setCells w.heap.size 0 [.string x0, .string x1, .int .i64 s.msg.st, .string x3, .int .i64 s.msg.mi, .slice a1 n1 k1, .string x6, .slice a2 n2 k2])
  clear hA hp ht hk hblk hblk0 hBl hPut c5 c12 c13 c14 c15 c16 c17 c18 c19
  generalize hW9 : w2.setCells w.heap.size 0 [.string x0, .string x1, .int .i64 s.msg.st, .string x3, .int .i64 s.msg.mi, .slice a1 n1 k1, .string x6, .slice a2 n2 k2] = W9 at y0 y1 y2 y3 y4 y5 y6 y7 HN
  have HW8 := Lib.hid hW9
  clear hW9 HW9
  go_wp2_with fail
  refine bodyPost_at (W := W9) HW8.out ?_
  refine bodyPost_ret (v := .tuple #[.agg #[.string x0, .string x1, .int .i64 s.msg.st, .string x3, .int .i64 s.msg.mi, .slice a1 n1 k1, .string x6, .slice a2 n2 k2], .bool true]) ?_ rfl ⟨rfl, HN.out⟩
  simp [results, Tryz.results17, go_sem, y0, y1, y2, y3, y4, y5, y6, y7]
end Tk
end Go.Proofs.YtpcdaaijlgilkaaGreatDoor
namespace Go.Proofs.YtpcdaaijlgilkaaGreatDoor
open Go.RowKit
namespace Tk

variable {B b : Nat} {s : Pr} {q z lf : Nat} {V : PV} {w : World}
theorem wait_eq {s : Pr} {q : Nat} (hq : s.bad = 0 → q = s.mode) : (decide (q = 7) && decide (s.bad = 0)) = waitP s := by
  unfold waitP
  by_cases hb : s.bad = 0
  · rw [hq hb]
  · simp [hb]

set_option maxHeartbeats 2000000 in
set_option maxRecDepth 100000 in
theorem pnext_no (h : Sync B b s V w) (hw : waitP s = false) :
    Calls Tryz.prog 17 #[ptr b] w fun e w' => e = .returned (.tuple #[.agg nxZ.toArray, .bool false]) ∧ Below w.heap.size w w' := by
  obtain ⟨q, hq, hqm, h⟩ := h
  obtain ⟨Z, hZ⟩ : ∃ Z, Z = w.alloc (.cells nxZ.toArray 32) := ⟨_, rfl⟩
  have hZb : Below w.heap.size w Z := by rw [hZ]; exact (Below.refl _ _).alloc (Nat.le_refl _) _
  have HM := Lib.hid (pmade_any (h.below hZb))
  have HW := Lib.hid (pwaits_any (h.below hZb) hq)
  rw [wait_eq hqm, hw] at HW
  have HZb := Lib.hid hZb
  have hblk0 : Z.heap[w.heap.size]? = some (.cells nxZ.toArray 32 (0, 0)) := by rw [hZ]; exact heap_alloc_last w _
  have g0 : Z.cell? ⟨w.heap.size, 0, none⟩ = some (.string ⟨#[]⟩) := by rw [Lib.cell_of_heap hblk0]; rfl
  have g1 : Z.cell? ⟨w.heap.size, 1, none⟩ = some (.string ⟨#[]⟩) := by rw [Lib.cell_of_heap hblk0]; rfl
  have g2 : Z.cell? ⟨w.heap.size, 2, none⟩ = some (.int .i64 0) := by rw [Lib.cell_of_heap hblk0]; rfl
  have g3 : Z.cell? ⟨w.heap.size, 3, none⟩ = some (.string ⟨#[]⟩) := by rw [Lib.cell_of_heap hblk0]; rfl
  have g4 : Z.cell? ⟨w.heap.size, 4, none⟩ = some (.int .i64 0) := by rw [Lib.cell_of_heap hblk0]; rfl
  have g5 : Z.cell? ⟨w.heap.size, 5, none⟩ = some (.slice none 0 0) := by rw [Lib.cell_of_heap hblk0]; rfl
  have g6 : Z.cell? ⟨w.heap.size, 6, none⟩ = some (.string ⟨#[]⟩) := by rw [Lib.cell_of_heap hblk0]; rfl
  have g7 : Z.cell? ⟨w.heap.size, 7, none⟩ = some (.slice none 0 0) := by rw [Lib.cell_of_heap hblk0]; rfl
  have z0 := Lib.frozen_of_heap hblk0 0
  have z1 := Lib.frozen_of_heap hblk0 1
  have z2 := Lib.frozen_of_heap hblk0 2
  have z3 := Lib.frozen_of_heap hblk0 3
  have z4 := Lib.frozen_of_heap hblk0 4
  have z5 := Lib.frozen_of_heap hblk0 5
  have z6 := Lib.frozen_of_heap hblk0 6
  have z7 := Lib.frozen_of_heap hblk0 7
  have HBl := Lib.hid (show ∀ W : World, Below w.heap.size w W → Below w.heap.size w (W.setCells w.heap.size 0 nxZ) from fun W hb => by
    obtain ⟨r1, r2, r3, r4⟩ := setCells_rest w.heap.size nxZ 0 W
    exact hb.trans ⟨r2, r3, r4, Nat.le_of_eq r1.symm, fun k hk => setCells_other _ _ 0 W k (by omega)⟩)
  have HZk := Lib.hid hblk0
  clear h hw hqm hq hZb hblk0
  unfold ptr at *
  go_enter Tryz.func17, Tryz.ntmps17
  go_wp2_with fail
  rw [show w.alloc (.cells #[.string ⟨#[]⟩, .string ⟨#[]⟩, .int .i64 0, .string ⟨#[]⟩, .int .i64 0, .slice none 0 0, .string ⟨#[]⟩, .slice none 0 0] 32) = Z from hZ.symm]
  clear hZ
  refine HM.out.mono ?_
  rintro e w' ⟨rfl, rfl⟩
  go_wp2_with fail
  refine HW.out.mono ?_
  rintro e w' ⟨rfl, rfl⟩
  have hPut := setCells_blk w.heap.size 32 nxZ 0 w' _ HZk.out (by show 8 ≤ 8; omega)
  have y0 : (w'.setCells w.heap.size 0 nxZ).cell? ⟨w.heap.size, 0, none⟩ = some (.string ⟨#[]⟩) := by rw [Lib.cell_of_heap hPut]; rfl
  have y1 : (w'.setCells w.heap.size 0 nxZ).cell? ⟨w.heap.size, 1, none⟩ = some (.string ⟨#[]⟩) := by rw [Lib.cell_of_heap hPut]; rfl
  have y2 : (w'.setCells w.heap.size 0 nxZ).cell? ⟨w.heap.size, 2, none⟩ = some (.int .i64 0) := by rw [Lib.cell_of_heap hPut]; rfl
  have y3 : (w'.setCells w.heap.size 0 nxZ).cell? ⟨w.heap.size, 3, none⟩ = some (.string ⟨#[]⟩) := by rw [Lib.cell_of_heap hPut]; rfl
  have y4 : (w'.setCells w.heap.size 0 nxZ).cell? ⟨w.heap.size, 4, none⟩ = some (.int .i64 0) := by rw [Lib.cell_of_heap hPut]; rfl
  have y5 : (w'.setCells w.heap.size 0 nxZ).cell? ⟨w.heap.size, 5, none⟩ = some (.slice none 0 0) := by rw [Lib.cell_of_heap hPut]; rfl
  have y6 : (w'.setCells w.heap.size 0 nxZ).cell? ⟨w.heap.size, 6, none⟩ = some (.string ⟨#[]⟩) := by rw [Lib.cell_of_heap hPut]; rfl
  have y7 : (w'.setCells w.heap.size 0 nxZ).cell? ⟨w.heap.size, 7, none⟩ = some (.slice none 0 0) := by rw [Lib.cell_of_heap hPut]; rfl
  have HN := Lib.hid (HBl.out _ HZb.out)
  generalize hW9 : w'.setCells w.heap.size 0 nxZ = W9 at y0 y1 y2 y3 y4 y5 y6 y7 HN
  have HW8 := Lib.hid hW9
  clear hW9 hPut
  go_wp2_with fail
  refine bodyPost_at (W := W9) HW8.out ?_
  refine bodyPost_ret (v := .tuple #[.agg #[.string ⟨#[]⟩, .string ⟨#[]⟩, .int .i64 0, .string ⟨#[]⟩, .int .i64 0, .slice none 0 0, .string ⟨#[]⟩, .slice none 0 0], .bool false]) ?_ rfl ⟨rfl, HN.out⟩
  simp [results, Tryz.results17, go_sem, y0, y1, y2, y3, y4, y5, y6, y7]

theorem end_idle {s : Pr} (h1 : conP s = false ∨ s.kind ≠ 4) (h2 : leftP s = 0 ∨ s.bad ≠ 0) : endP s = s := by
  unfold endP
  rw [if_neg, if_neg]
  · rcases h2 with h2 | h2 <;> simp [h2]
  · rcases h1 with h1 | h1 <;> simp [h1]
theorem end_400 {s : Pr} (h1 : conP s = false ∨ s.kind ≠ 4) (h2 : 0 < leftP s) (h3 : s.bad = 0) : endP s = { s with bad := 400 } := by
  unfold endP
  rw [if_neg, if_pos]
  · simp [h2, h3]
  · rcases h1 with h1 | h1 <;> simp [h1]
theorem con_stop (s : Pr) : conP s = !stopP s := by
  unfold conP stopP
  by_cases h7 : s.mode = 7
  · simp [h7]
  · by_cases hb : s.bad = 0
    · cases s.rsp <;> simp [h7, hb]
    · simp [hb]

set_option maxHeartbeats 4000000 in
set_option maxRecDepth 100000 in
theorem pendG_any (h : Sync B b s V w) (hkk : stopP s = false → s.kind ≠ 4) :
    Calls Tryz.prog 18 #[ptr b] w fun e w' => e = .returned (.int .i64 (endP s).bad) ∧ SyncTo B b (endP s) V w w' := by
  obtain ⟨q, hq, hqm, h⟩ := h
  have HM := Lib.hid (pmade_any h)
  have HC := Lib.hid (pconsumes_any h hq)
  rw [consP_gen hqm] at HC
  have HL := Lib.hid (pleft_any h hq)
  have hlf : (if q = 7 ∧ s.bad = 0 then 0 else s.left) = leftP s := by
    unfold leftP
    rw [← wait_eq hqm]
    by_cases h1 : q = 7 <;> by_cases h2 : s.bad = 0 <;> simp [h1, h2]
  rw [hlf] at HL
  have c7 : w.cell? ⟨b, 7, none⟩ = some (.int .i64 s.bad) := h.cell 7 _ rfl
  have c20 : w.cell? ⟨b, 20, none⟩ = some (.int .i64 s.kind) := h.cell 20 _ rfl
  have f7 := h.frz 7
  have hk4 : conP s = false ∨ s.kind ≠ 4 := by
    cases hs : stopP s
    · exact .inr (hkk hs)
    · left; rw [con_stop, hs]; rfl
  have hk4i : stopP s = false → ((s.kind : Int) == 4) = false := fun hs => by
    have := hkk hs
    simp; omega
  have HS0 := Lib.hid (show SyncTo B b s V w w from ⟨V, ⟨q, hq, hqm, h⟩, PTn.refl⟩)
  have HS4 := Lib.hid (show SyncTo B b { s with bad := 400 } V w (w.setCell ⟨b, 7, none⟩ (.int .i64 400)) from ⟨V, ⟨q, hq, fun e => absurd (show (400 : Nat) = 0 from e) (by omega), h.set 7 (.int .i64 400) { s with bad := 400 } q 400 s.left rfl rfl rfl rfl rfl rfl (fun e => ⟨e, rfl⟩)⟩, PTn.set 7 _⟩)
  have HK := Lib.hid hk4
  clear h hkk hq hqm hlf hk4
  unfold ptr at *
  by_cases hl0 : leftP s = 0
  · have he := end_idle HK.out (.inl hl0)
    rw [he]
    rw [hl0] at HL
    clear he hl0 HS4 f7
    cases hs : stopP s
    · have hki := hk4i hs
      rw [hs] at HC
      clear hk4i hs
      go_enter Tryz.func18, Tryz.ntmps18
      go_wp2_with fail
      refine HM.out.mono ?_
      rintro e w' ⟨rfl, rfl⟩
      go_wp2_with fail
      refine HC.out.mono ?_
      rintro e w' ⟨rfl, rfl⟩
      go_wp2_with fail
      refine HL.out.mono ?_
      rintro e w' ⟨rfl, rfl⟩
      go_wp2_with fail
      go_ret
      exact ⟨rfl, HS0.out⟩
    · rw [hs] at HC
      clear hk4i hs
      go_enter Tryz.func18, Tryz.ntmps18
      go_wp2_with fail
      refine HM.out.mono ?_
      rintro e w' ⟨rfl, rfl⟩
      go_wp2_with fail
      refine HC.out.mono ?_
      rintro e w' ⟨rfl, rfl⟩
      go_wp2_with fail
      refine HL.out.mono ?_
      rintro e w' ⟨rfl, rfl⟩
      go_wp2_with fail
      go_ret
      exact ⟨rfl, HS0.out⟩
  · have hlp : (0 : Int) < ((leftP s : Nat) : Int) := by omega
    by_cases hb : s.bad = 0
    · have he := end_400 HK.out (by omega) hb
      rw [he]
      have hst : stopP s = false ∨ stopP s = true := by cases stopP s <;> simp
      have hbz : ((s.bad : Int) == 0) = true := by simp [hb]
      clear he hl0 HS0 hb
      show Calls _ _ _ _ fun e w' => e = .returned (.int .i64 ((400 : Nat) : Int)) ∧ SyncTo B b { s with bad := 400 } V w w'
      generalize leftP s = lp at *
      generalize s.bad = bd at *
      rcases hst with hs | hs
      · have hki := hk4i hs
        rw [hs] at HC
        clear hk4i hs
        go_enter Tryz.func18, Tryz.ntmps18
        go_wp2_with fail
        refine HM.out.mono ?_
        rintro e w' ⟨rfl, rfl⟩
        go_wp2_with fail
        refine HC.out.mono ?_
        rintro e w' ⟨rfl, rfl⟩
        go_wp2_with fail
        refine HL.out.mono ?_
        rintro e w' ⟨rfl, rfl⟩
        go_wp2_with fail
        go_ret
        exact ⟨rfl, HS4.out⟩
      · rw [hs] at HC
        clear hk4i hs
        go_enter Tryz.func18, Tryz.ntmps18
        go_wp2_with fail
        refine HM.out.mono ?_
        rintro e w' ⟨rfl, rfl⟩
        go_wp2_with fail
        refine HC.out.mono ?_
        rintro e w' ⟨rfl, rfl⟩
        go_wp2_with fail
        refine HL.out.mono ?_
        rintro e w' ⟨rfl, rfl⟩
        go_wp2_with fail
        go_ret
        exact ⟨rfl, HS4.out⟩
    · have he := end_idle HK.out (.inr hb)
      rw [he]
      have hbz : ((s.bad : Int) == 0) = false := by simp [hb]
      have hs : stopP s = true := by unfold stopP; simp [hb]
      rw [hs] at HC
      clear he hl0 HS4 f7 hb hk4i hs
      generalize leftP s = lp at *
      go_enter Tryz.func18, Tryz.ntmps18
      go_wp2_with fail
      refine HM.out.mono ?_
      rintro e w' ⟨rfl, rfl⟩
      go_wp2_with fail
      refine HC.out.mono ?_
      rintro e w' ⟨rfl, rfl⟩
      go_wp2_with fail
      refine HL.out.mono ?_
      rintro e w' ⟨rfl, rfl⟩
      go_wp2_with fail
      go_ret
      exact ⟨rfl, HS0.out⟩

theorem pend_any {n : Nat} (h : Sync B b s V w) (ho : s.Ok n) (hr : Rq s) :
    Calls Tryz.prog 18 #[ptr b] w fun e w' => e = .returned (.int .i64 (endP s).bad) ∧ SyncTo B b (endP s) V w w' := pendG_any h fun hs => ho.ord.kind hr.m5 (not_stop hs).1

theorem sameFs_self : ∀ l : List (Bs × Bs), sameFs l l = true
  | [] => rfl
  | f :: t => by simp [sameFs, eqF, sameFs_self t]
set_option maxHeartbeats 4000000 in
set_option maxRecDepth 100000 in
/-- messages that are equal -/
theorem msame_self (m : Msg) (v1 v2 u1 u2 : Value) (w : World) (h1 : IsFlds w v1 m.f) (h2 : IsFlds w u1 m.f) (h3 : IsFlds w v2 m.tr) (h4 : IsFlds w u2 m.tr)
    (hz : ∀ f ∈ m.f, f.1.length ≤ 1099511627776) (hl : m.f.length ≤ 1099511627) (hz2 : ∀ f ∈ m.tr, f.1.length ≤ 1099511627776) (hl2 : m.tr.length ≤ 1099511627) :
    Calls Tryz.prog 22 #[.agg (msgL m v1 v2).toArray, .agg (msgL m u1 u2).toArray] w fun e w' => e = .returned (.bool true) ∧ Below w.heap.size w w' := by
  have HF := Lib.hid (fun (W : World) (hb : Below w.heap.size w W) => fsame_any v1 u1 m.f m.f W (isFlds_below h1 hb) (isFlds_below h2 hb) (fun f hf => hz f (by rcases hf with h | h <;> exact h)) hl hl)
  have HG := Lib.hid (fun (W : World) (hb : Below w.heap.size w W) => fsame_any v2 u2 m.tr m.tr W (isFlds_below h3 hb) (isFlds_below h4 hb) (fun f hf => hz2 f (by rcases hf with h | h <;> exact h)) hl2 hl2)
  rw [sameFs_self] at HF HG
  obtain ⟨a1, k1, rfl⟩ : ∃ a c, v1 = .slice a m.f.length c := by obtain ⟨a, c, h, -⟩ := h1; exact ⟨a, c, h⟩
  obtain ⟨a2, k2, rfl⟩ : ∃ a c, u1 = .slice a m.f.length c := by obtain ⟨a, c, h, -⟩ := h2; exact ⟨a, c, h⟩
  obtain ⟨a3, k3, rfl⟩ : ∃ a c, v2 = .slice a m.tr.length c := by obtain ⟨a, c, h, -⟩ := h3; exact ⟨a, c, h⟩
  obtain ⟨a4, k4, rfl⟩ : ∃ a c, u2 = .slice a m.tr.length c := by obtain ⟨a, c, h, -⟩ := h4; exact ⟨a, c, h⟩
  clear h1 h2 h3 h4 hz hl hz2 hl2
  have e1 : ((mkS m.m).toList == (mkS m.m).toList) = true := by simp
  have e2 : ((mkS m.t).toList == (mkS m.t).toList) = true := by simp
  have e3 : ((mkS m.r).toList == (mkS m.r).toList) = true := by simp
  have e4 : ((mkS m.body).toList == (mkS m.body).toList) = true := by simp
  have e5 : ((m.st : Int) == (m.st : Int)) = true := by simp
  have e6 : ((m.mi : Int) == (m.mi : Int)) = true := by simp
  show Calls _ _ #[.agg #[.string (mkS m.m), .string (mkS m.t), .int .i64 m.st, .string (mkS m.r), .int .i64 m.mi, .slice a1 m.f.length k1, .string (mkS m.body), .slice a3 m.tr.length k3], .agg #[.string (mkS m.m), .string (mkS m.t), .int .i64 m.st, .string (mkS m.r), .int .i64 m.mi, .slice a2 m.f.length k2, .string (mkS m.body), .slice a4 m.tr.length k4]] _ _
  generalize mkS m.m = x1 at *
  generalize mkS m.t = x2 at *
  generalize mkS m.r = x3 at *
  generalize mkS m.body = x4 at *
  generalize (m.st : Int) = y1 at *
  generalize (m.mi : Int) = y2 at *
  generalize m.f.length = n1 at *
  generalize m.tr.length = n2 at *
  go_enter Tryz.func22, Tryz.ntmps22
  have hB : Below w.heap.size w ((w.alloc (.cells #[.string x1, .string x2, .int .i64 y1, .string x3, .int .i64 y2, .slice a1 n1 k1, .string x4, .slice a3 n2 k3] 32)).alloc (.cells #[.string x1, .string x2, .int .i64 y1, .string x3, .int .i64 y2, .slice a2 n1 k2, .string x4, .slice a4 n2 k4] 32)) := ((Below.refl _ _).alloc (Nat.le_refl _) _).alloc (by simp) _
  have HB := Lib.hid hB
  have hw0 : (w.alloc (.cells #[.string x1, .string x2, .int .i64 y1, .string x3, .int .i64 y2, .slice a1 n1 k1, .string x4, .slice a3 n2 k3] 32)).heap.size = w.heap.size + 1 := by simp
  have u7 : ((w.alloc (.cells #[.string x1, .string x2, .int .i64 y1, .string x3, .int .i64 y2, .slice a1 n1 k1, .string x4, .slice a3 n2 k3] 32)).alloc (.cells #[.string x1, .string x2, .int .i64 y1, .string x3, .int .i64 y2, .slice a2 n1 k2, .string x4, .slice a4 n2 k4] 32)).cell? ⟨w.heap.size, 7, none⟩ = some (.slice a3 n2 k3) := by rw [(Below.refl (w.alloc (.cells #[.string x1, .string x2, .int .i64 y1, .string x3, .int .i64 y2, .slice a1 n1 k1, .string x4, .slice a3 n2 k3] 32)).heap.size (w.alloc (.cells #[.string x1, .string x2, .int .i64 y1, .string x3, .int .i64 y2, .slice a1 n1 k1, .string x4, .slice a3 n2 k3] 32)) |>.alloc (Nat.le_refl _) _).cell (p := ⟨w.heap.size, 7, none⟩) (by show w.heap.size < _; omega), Lib.cell_of_heap (heap_alloc_last w _)]; rfl
  have v7 : ((w.alloc (.cells #[.string x1, .string x2, .int .i64 y1, .string x3, .int .i64 y2, .slice a1 n1 k1, .string x4, .slice a3 n2 k3] 32)).alloc (.cells #[.string x1, .string x2, .int .i64 y1, .string x3, .int .i64 y2, .slice a2 n1 k2, .string x4, .slice a4 n2 k4] 32)).cell? ⟨w.heap.size + 1, 7, none⟩ = some (.slice a4 n2 k4) := by rw [← hw0, Lib.cell_of_heap (heap_alloc_last (w.alloc (.cells #[.string x1, .string x2, .int .i64 y1, .string x3, .int .i64 y2, .slice a1 n1 k1, .string x4, .slice a3 n2 k3] 32)) _)]; rfl
  clear hB hw0
  go_wp2_with fail
  refine (HF.out _ HB.out).mono ?_
  rintro e w2 ⟨rfl, hb2⟩
  have u8 := (hb2.cell (cell_lt u7)).trans u7
  have v8 := (hb2.cell (cell_lt v7)).trans v7
  have HB2 := Lib.hid (HB.out.trans (hb2.mono HB.out.size))
  clear hb2 u7 v7
  go_wp2_with fail
  refine (HG.out _ HB2.out).mono ?_
  rintro e w3 ⟨rfl, hb3⟩
  have HB3 := Lib.hid (HB2.out.trans (hb3.mono HB2.out.size))
  clear hb3
  go_wp2_with fail
  go_ret
  exact ⟨rfl, HB3.out⟩
end Tk
end Go.Proofs.YtpcdaaijlgilkaaGreatDoor
namespace Go.Proofs.YtpcdaaijlgilkaaGreatDoor
open Go.RowKit
namespace Tk

/-- a message and the rows of its fields and trailers -/
abbrev MV := Msg × Value × Value
def mcells (Vs : List MV) : List Value := Vs.flatMap fun x => msgL x.1 x.2.1 x.2.2
theorem msgL_len (m : Msg) (v u : Value) : (msgL m v u).length = 8 := rfl
theorem mcells_len : ∀ Vs : List MV, (mcells Vs).length = Vs.length * 8
  | [] => rfl
  | x :: t => by
    have := mcells_len t
    unfold mcells at *
    rw [List.flatMap_cons, List.length_append, this, msgL_len, List.length_cons]; omega
theorem mcells_snoc (Vs : List MV) (x : MV) : mcells (Vs ++ [x]) = mcells Vs ++ msgL x.1 x.2.1 x.2.2 := by unfold mcells; simp
theorem msgInfo : (Tryz.prog.info? 32).map (fun i => (i.zero, i.size, i.bytes)) = some (some (.agg #[.string .empty, .string .empty, .int .i64 0, .string .empty, .int .i64 0, .slice none 0 0, .string .empty, .slice none 0 0]), 8, 128) := by kernel_rfl

structure MsgR (B : Nat) (w : World) (x : MV) : Prop where
  f : w.ownsRow B 84 2 x.2.1 x.1.f.length (fcells x.1.f)
  t : w.ownsRow B 84 2 x.2.2 x.1.tr.length (fcells x.1.tr)
/-- a list of messages -/
structure Msgs (B : Nat) (w : World) (v : Value) (Vs : List MV) : Prop where
  own : w.ownsRow B 32 8 v Vs.length (mcells Vs)
  each : ∀ x ∈ Vs, MsgR B w x
def MBlk (v : Value) (Vs : List MV) (k : Nat) : Prop := v.ownBlock = some k ∨ ∃ x ∈ Vs, x.2.1.ownBlock = some k ∨ x.2.2.ownBlock = some k
/-- it shares nothing with a parser -/
def MAp (b : Nat) (V : PV) (v : Value) (Vs : List MV) : Prop := ∀ k, MBlk v Vs k → ¬ PMine b V k

variable {B b : Nat} {s : Pr} {q z lf : Nat} {V V' : PV} {w w' w2 : World} {v v' : Value} {Vs : List MV}
theorem MsgR.same {x : MV} (h : MsgR B w x) (hk : ∀ k, x.2.1.ownBlock = some k ∨ x.2.2.ownBlock = some k → w'.heap[k]? = w.heap[k]?) : MsgR B w' x :=
  ⟨own_heap h.f fun k e => hk k (.inl e), own_heap h.t fun k e => hk k (.inr e)⟩
theorem Msgs.same (h : Msgs B w v Vs) (hk : ∀ k, MBlk v Vs k → w'.heap[k]? = w.heap[k]?) : Msgs B w' v Vs :=
  ⟨own_heap h.own fun k e => hk k (.inl e), fun x hx => (h.each x hx).same fun k e => hk k (.inr ⟨x, hx, e⟩)⟩
theorem Msgs.lt (h : Msgs B w v Vs) (k : Nat) (hk : MBlk v Vs k) : B ≤ k ∧ k < w.heap.size := by
  rcases hk with hk | ⟨x, hx, hk | hk⟩
  · exact h.own.lt k hk
  · exact (h.each x hx).f.lt k hk
  · exact (h.each x hx).t.lt k hk
theorem Msgs.below (h : Msgs B w v Vs) (hb : Below w.heap.size w w') : Msgs B w' v Vs := h.same fun k hk => hb.block k (h.lt k hk).2
theorem Msgs.draws (h : Msgs B w v Vs) (n : Nat) : Msgs B (w.drewN n) v Vs := h.below ⟨rfl, rfl, rfl, Nat.le_refl _, fun _ _ => rfl⟩
theorem Msgs.nil (B : Nat) (w : World) : Msgs B w (.slice none 0 0) [] := ⟨World.ownsRow_nil _ _ _ _, fun x hx => by cases hx⟩
theorem MAp.nil (b : Nat) (V : PV) : MAp b V (.slice none 0 0) [] := fun k hk => by
  rcases hk with hk | ⟨x, hx, _⟩
  · cases hk
  · cases hx
theorem Msgs.turn (h : Msgs B w v Vs) (hap : MAp b V v Vs) (ht : PTn b V V' (fun _ => False) w w') : Msgs B w' v Vs ∧ MAp b V' v Vs := by
  refine ⟨h.same fun k hk => ht.block k (h.lt k hk).2 (hap k hk) (fun e => e), fun k hk hm => ?_⟩
  rcases ht.new k hm with h1 | h1
  · exact hap k hk h1
  · have := (h.lt k hk).2; omega
theorem Msgs.next (h : Msgs B w v Vs) (hap : MAp b V v Vs) (hp : Par B b s q z lf V w) (hn : NxPost B b s V w w') :
    ∃ V', Sync B b s.fresh V' w' ∧ PTn b V V' (fun _ => False) w w' ∧ Msgs B w' v Vs ∧ MAp b V' v Vs ∧ MsgR B w' (s.msg, V.f, V.t) ∧ ∀ k, V.f.ownBlock = some k ∨ V.t.ownBlock = some k → ¬ PMine b V' k := by
  obtain ⟨V', h1, h2, h3⟩ := hn
  obtain ⟨a1, a2⟩ := h.turn hap h2
  exact ⟨V', h1, h2, a1, a2, (show MsgR B w (s.msg, V.f, V.t) from ⟨hp.flds, hp.trl⟩).same fun k e => (h3 k e).2, fun k e => (h3 k e).1⟩
theorem Msgs.snoc (h : Msgs B w v Vs) (x : MV) (hx : MsgR B w x) (ho : w2.ownsRow B 32 8 v' (Vs.length + 1) (mcells Vs ++ msgL x.1 x.2.1 x.2.2)) (hg : w.grownBy w2 v.ownBlock) : Msgs B w2 v' (Vs ++ [x]) := by
  have hr : ∀ y, MsgR B w y → MsgR B w2 y := fun y hy => hy.same fun k e => hg.block k (by rcases e with e | e; exact (hy.f.lt k e).2; exact (hy.t.lt k e).2) (fun e2 => by
    rcases e with e | e
    · exact own_ne2 hy.f h.own (by decide) k e2.symm e
    · exact own_ne2 hy.t h.own (by decide) k e2.symm e)
  refine ⟨by rw [mcells_snoc, List.length_append]; exact ho, fun y hy => ?_⟩
  rcases List.mem_append.1 hy with hy | hy
  · exact hr y (h.each y hy)
  · simp at hy; subst hy; exact hr _ hx
theorem MAp.snoc (hap : MAp b V v Vs) (hp : Par B b s q z lf V w) (x : MV) (hx : ∀ k, x.2.1.ownBlock = some k ∨ x.2.2.ownBlock = some k → ¬ PMine b V k) (hst : Stay w v v') : MAp b V v' (Vs ++ [x]) := by
  rintro k (hk | ⟨y, hy, hk⟩) hm
  · rcases hst k hk with h1 | h1
    · exact hap k (.inl h1) hm
    · have := (hp.mineLt k hm).2; omega
  · rcases List.mem_append.1 hy with hy | hy
    · exact hap k (.inr ⟨y, hy, hk⟩) hm
    · simp at hy; subst hy; exact hx k hk hm
theorem Par.grownBy (h : Par B b s q z lf V w) (hap : MAp b V v Vs) (hg : w.grownBy w2 v.ownBlock) : Par B b s q z lf V w2 :=
  h.same hg.size fun k hk => hg.block k (h.mineLt k hk).2 fun e => hap k (.inl e.symm) hk
theorem Sync.grownBy (h : Sync B b s V w) (hap : MAp b V v Vs) (hg : w.grownBy w2 v.ownBlock) : Sync B b s V w2 := by
  obtain ⟨q, h1, h2, h3⟩ := h
  exact ⟨q, h1, h2, h3.grownBy hap hg⟩
theorem Sync.below (h : Sync B b s V w) (hb : Below w.heap.size w w') : Sync B b s V w' := by
  obtain ⟨q, h1, h2, h3⟩ := h
  exact ⟨q, h1, h2, h3.below hb⟩
theorem Sync.par (h : Sync B b s V w) : ∃ q, Par B b s q s.bad s.left V w := by obtain ⟨q, _, _, h⟩ := h; exact ⟨q, h⟩
theorem Sync.toBelow (h : Sync B b s V w) (ht : PTn b V V' (fun _ => False) w w') : Below B w w' := by
  obtain ⟨q, _, _, h⟩ := h
  exact ht.toBelow h fun k e => e.elim
/-- a message of a list -/
theorem Msgs.get (h : Msgs B w v Vs) (i : Nat) (x : MV) (hi : Vs[i]? = some x) :
    ∃ g cap, v = .slice (some ⟨g, 0, none⟩) Vs.length cap ∧ Vs.length ≤ cap ∧ (∀ j u, (msgL x.1 x.2.1 x.2.2)[j]? = some u → w.cell? ⟨g, i * 8 + j, none⟩ = some u) ∧ IsFlds w x.2.1 x.1.f ∧ IsFlds w x.2.2 x.1.tr := by
  have hil := (List.getElem?_eq_some_iff.1 hi).1
  have hr := h.each x (List.mem_of_getElem? hi)
  rcases h.own.2 with ⟨_, h0⟩ | ⟨g, cap, cur, hv, hb, hg, hnc, hcm, hcs, ht⟩
  · omega
  · refine ⟨g, cap, hv, hnc, fun j u hu => ?_, isFlds_own hr.f, isFlds_own hr.t⟩
    have hj : j < 8 := (List.getElem?_eq_some_iff.1 hu).1
    have hm : (mcells Vs)[i * 8 + j]? = some u := by
      have hs : Vs = Vs.take i ++ x :: Vs.drop (i + 1) := by
        have e := List.getElem_of_getElem? hi
        rw [← (List.getElem?_eq_some_iff.1 hi).2, List.getElem_cons_drop, List.take_append_drop]
      have hl := mcells_len (Vs.take i)
      rw [List.length_take, Nat.min_eq_left (by omega)] at hl
      rw [hs]
      unfold mcells at hl ⊢
      rw [List.flatMap_append, List.flatMap_cons, List.getElem?_append_right (by omega), hl, show i * 8 + j - i * 8 = j by omega, List.getElem?_append_left (by rw [msgL_len]; exact hj)]
      exact hu
    rw [← ht, List.getElem?_take] at hm
    split at hm
    · rw [Lib.cell_of_heap hg, ← Array.getElem?_toList]
      exact hm
    · cases hm

theorem Msgs.val {B : Nat} {w : World} {v : Value} {Vs : List MV} (h : Msgs B w v Vs) : ∃ a cap, v = .slice a Vs.length cap := by
  rcases h.own.2 with ⟨hv, h0⟩ | ⟨g, cap, cur, hv, _⟩
  · exact ⟨none, 0, by rw [hv, h0]⟩
  · exact ⟨_, _, hv⟩

theorem go_rq : ∀ (l : Bs) (s : Pr), Rq s → Rq (goP s l).2
  | [], s, h => h
  | c :: t, s, h => by
    cases hs : stopP s
    · rw [goP_cons s c t hs]
      have h1 : Rq (stepP s c) := ⟨(stepP_lim s c).2.2.2.2.1.trans h.rq, stepP_m2 c h.m2, stepP_m5 c h.rq h.m5⟩
      split
      · exact go_rq t _ (fresh_rq h1.rq)
      · exact go_rq t _ h1
    · rw [goP_stop s _ hs]; exact h
theorem Pr.Ok.self {s : Pr} {n : Nat} (h : s.Ok n) : s.Ok s.left := ⟨{ h.fit with left := Nat.le_refl _ }, h.ord, h.lim⟩
/-- all that was not fed yet is fed -/
theorem all_step {s0 sp : Pr} {ms : List Msg} {b : Bs} {i : Nat} (h : goP s0 (b.take i) = (ms, sp)) (hr : Run sp) (hi : i ≤ b.length) :
    i + (feedP sp (b.drop i)).1 ≤ b.length ∧
    (waitP (feedP sp (b.drop i)).2 = true → 1 ≤ (feedP sp (b.drop i)).1 ∧ goP s0 (b.take (i + (feedP sp (b.drop i)).1)) = (ms ++ [(feedP sp (b.drop i)).2.msg], (feedP sp (b.drop i)).2.fresh)) ∧
    (waitP (feedP sp (b.drop i)).2 = false → allM s0 b = ms ∧ allS s0 b = (endP (feedP sp (b.drop i)).2).bad) := by
  have hle := feedP_le (b.drop i) sp
  rw [List.length_drop] at hle
  have e1 : (b.drop i).take (b.length - i) = b.drop i := List.take_of_length_le (by simp)
  by_cases hgo : stopP sp = false ∧ i < b.length
  · obtain ⟨h1, h2, h3⟩ := go_part h hgo.1 hgo.2 (Nat.le_refl _)
    rw [e1] at h1 h2 h3
    refine ⟨h3, fun hw => ⟨h2, ?_⟩, fun hw => ?_⟩
    · rw [h1]; unfold takeP; rw [if_pos hw]
    · have h4 : takeP (feedP sp (b.drop i)).2 = ([], (feedP sp (b.drop i)).2) := by unfold takeP; rw [if_neg (by simp [hw])]
      rw [h4, List.append_nil] at h1
      refine all_of h1 ?_
      cases hs : stopP (feedP sp (b.drop i)).2
      · right
        have := feedP_all _ _ hs
        rw [List.length_drop] at this
        omega
      · exact .inl rfl
  · have h0 : feedP sp (b.drop i) = (0, sp) := by
      cases hs : stopP sp
      · have hil : b.length ≤ i := by
          refine Nat.le_of_not_lt fun h => hgo ⟨hs, h⟩
        rw [List.drop_of_length_le hil]; rfl
      · exact feedP_stop _ _ hs
    rw [h0]
    refine ⟨by simpa using hi, fun hw => ?_, fun _ => all_of h ?_⟩
    · unfold Run at hr; rw [hr] at hw; cases hw
    · cases hs : stopP sp
      · right; exact Nat.le_of_not_lt fun h => hgo ⟨hs, h⟩
      · exact .inl rfl
end Tk
end Go.Proofs.YtpcdaaijlgilkaaGreatDoor
namespace Go.Proofs.YtpcdaaijlgilkaaGreatDoor
open Go.RowKit
namespace Tk

variable {B b : Nat} {s : Pr} {q z lf : Nat} {V V' : PV} {w w' w2 : World} {v v' : Value} {Vs : List MV}
/-- what All leaves -/
def AllPost (s0 : Pr) (b : Bs) (w : World) (e : Ending) (w' : World) : Prop := ∃ v Vs, e = .returned (.tuple #[v, .int .i64 (allS s0 b)]) ∧ Vs.map (·.1) = allM s0 b ∧ Msgs w.heap.size w' v Vs ∧ Below w.heap.size w w'

set_option maxHeartbeats 8000000 in
set_option maxRecDepth 100000 in
theorem pall_any (L H C M : Int) (l h c m : Nat) (t : ByteArray) (w : World) (hl : max L 0 = l) (hh : max H 0 = h) (hc : max C 0 = c) (hm : max M 0 = m) (hlim : LimP (newP l h c m false)) (ht : t.size ≤ 100000) (hv : ErrV w.heap.size w) :
    Calls Tryz.prog 11 #[.agg #[.int .i64 L, .int .i64 H, .int .i64 C, .int .i64 M], .string t] w (AllPost (newP l h c m false) (bs t) w) := by
  obtain ⟨i0, hi, hz0, hz1, hz2⟩ := info_parts msgInfo
  have HLen := Lib.hid (length_bs t)
  have hb0 : Below w.heap.size w (w.alloc (.cells #[.int .i64 L, .int .i64 H, .int .i64 C, .int .i64 M] 24)) := (Below.refl _ _).alloc (Nat.le_refl _) _
  have HB0 := Lib.hid hb0
  have HRq := Lib.hid (prequests_any L H C M l h c m w.heap.size (w.alloc (.cells #[.int .i64 L, .int .i64 H, .int .i64 C, .int .i64 M] 24)) hb0.size hl hh hc hm)
  have HOk0 := Lib.hid (new_ok l h c m false hlim)
  have HR0 := Lib.hid (new_rq l h c m)
  have HRun0 := Lib.hid (run_new l h c m false)
  obtain ⟨s0, hs0⟩ : ∃ s0, s0 = newP l h c m false := ⟨_, rfl⟩
  rw [← hs0] at HRq HOk0 HR0 HRun0 ⊢
  have HV := Lib.hid hv
  have HT := Lib.hid ht
  clear hl hh hc hm hlim hv hb0 hs0 ht
  go_enter Tryz.func11, Tryz.ntmps11
  go_wp2_with fail
  refine HRq.out.mono ?_
  rintro e w1 ⟨b, V, rfl, hbw, hsy, hbe⟩
  have HSy := Lib.hid hsy
  have HB1 := Lib.hid (HB0.out.trans (hbe.mono HB0.out.size))
  have HBb := Lib.hid (show w.heap.size ≤ b from Nat.le_trans HB0.out.size hbw)
  clear hsy hbe hbw HB0 HRq
  unfold ptr
  go_wp2_with fail
  go_loopw [1, 7] (fun v1 v7 wr => ∃ (i : Nat) (sp : Pr) (Vp : PV) (Vs : List MV) (tx : ByteArray), i ≤ t.size ∧ v1 = .string tx ∧ Hid (bs tx = (bs t).drop i) ∧ Hid (goP s0 ((bs t).take i) = (Vs.map (·.1), sp)) ∧ Hid (Run sp) ∧ Hid (Sync w.heap.size b sp Vp wr) ∧ Hid (Msgs w.heap.size wr v7 Vs) ∧ Hid (MAp b Vp v7 Vs) ∧ Hid (Below w.heap.size w wr)) (fun v1 _ _ => (match v1 with | .string x => x.size | _ => 0))
  case atStart => exact ⟨0, s0, V, [], t, Nat.zero_le _, rfl, Lib.hid rfl, Lib.hid rfl, HRun0, HSy, Lib.hid (Msgs.nil _ _), Lib.hid (MAp.nil _ _), HB1⟩
  case round =>
    obtain ⟨i, sp, Vp, Vs, tx, hi1, rfl, HTx, HGo, HRun, HSp, HMs, HAp, HB⟩ := hrel
    rename World => W
    obtain ⟨av, cv, rfl⟩ := HMs.out.val
    have hli : ((bs t).take i).length = i := by rw [List.length_take, HLen.out]; omega
    have hokp : sp.Ok i := by
      have h1 := go_ok ((bs t).take i) s0 0 HOk0.out
      rw [HGo.out, hli, Nat.zero_add] at h1
      exact h1
    have hrqp : Rq sp := by
      have h1 := go_rq ((bs t).take i) s0 HR0.out
      rw [HGo.out] at h1
      exact h1
    have hst := all_step HGo.out HRun.out (by rw [HLen.out]; exact hi1)
    have hlx : tx.size = t.size - i := by rw [← length_bs tx, HTx.out, List.length_drop, HLen.out]
    have hfd := pfeed_any tx HSp.out hokp.self hrqp (by have := hokp.fit.left; have := HT.out; omega) (HV.out.later HB.out)
    have hok2 := feedP_ok ((bs t).drop i) sp i hokp
    have hrq2 := feedP_rq ((bs t).drop i) sp hrqp
    rw [HTx.out] at hfd
    have hn := hst.1
    rw [HLen.out] at hn
    generalize hnn : (feedP sp ((bs t).drop i)).1 = n at *
    generalize hss : (feedP sp ((bs t).drop i)).2 = s2 at *
    have HFd := Lib.hid hfd
    have HSt := Lib.hid hst.2
    have HOk2 := Lib.hid hok2
    have HRq2 := Lib.hid hrq2
    have HN := Lib.hid hn
    have r0 : (0 : Int) ≤ (n : Int) := by omega
    have r1 : (n : Int) ≤ (tx.size : Int) := by omega
    have HTs := Lib.hid hlx
    clear hokp hli hrqp hst hlx hfd hok2 hrq2 hn hnn hss hi1
    unfold ptr at HFd
    go_wp2_with fail
    refine HFd.out.mono ?_
    rintro e w2 ⟨rfl, V2, hs2, ht2⟩
    obtain ⟨hm2, ha2⟩ := HMs.out.turn HAp.out ht2
    have HM2 := Lib.hid hm2
    have HA2 := Lib.hid ha2
    have HS2 := Lib.hid hs2
    have HB2 := Lib.hid (HB.out.trans (HSp.out.toBelow ht2))
    clear hm2 ha2 hs2 ht2 HMs HAp HSp HFd HB
    go_wp2_with fail
    cases hw : waitP s2
    · have hno := HSt.out.2 hw
      have HNo := Lib.hid hno
      have HNx := Lib.hid (pnext_no HS2.out hw)
      unfold ptr nxZ at HNx
      clear hw hno HSt
      refine HNx.out.mono ?_
      rintro e w3 ⟨rfl, hb30⟩
      have hb3 : Below w2.heap.size w2 (w3.alloc (.cells #[.string ⟨#[]⟩, .string ⟨#[]⟩, .int .i64 0, .string ⟨#[]⟩, .int .i64 0, .slice none 0 0, .string ⟨#[]⟩, .slice none 0 0] 32)) := hb30.alloc hb30.size _
      have HM3 := Lib.hid (HM2.out.below hb3)
      have HB3 := Lib.hid (HB2.out.trans (hb3.mono HB2.out.size))
      have HS3 := Lib.hid (HS2.out.below hb3)
      clear hb30 hb3 HM2 HB2 HS2 HNx
      go_wp2_with fail
      generalize w3.alloc (.cells #[.string ⟨#[]⟩, .string ⟨#[]⟩, .int .i64 0, .string ⟨#[]⟩, .int .i64 0, .slice none 0 0, .string ⟨#[]⟩, .slice none 0 0] 32) = w4 at *
      refine (pend_any HS3.out HOk2.out HRq2.out).mono ?_
      rintro e w5 ⟨rfl, V4, hs4, ht4⟩
      obtain ⟨hm4, -⟩ := HM3.out.turn HA2.out ht4
      have HM4 := Lib.hid hm4
      have HB4 := Lib.hid (HB3.out.trans (HS3.out.toBelow ht4))
      have HNo2 := Lib.hid (⟨HNo.out.1, HNo.out.2⟩ : _ ∧ _)
      clear hm4 hs4 ht4 HM3 HB3 HS3 HNo
      go_wp2_with fail
      go_ret2
      exact ⟨.slice av Vs.length cv, Vs, by rw [HNo2.out.2]; rfl, HNo2.out.1.symm, HM4.out, HB4.out⟩
    · have hyes := HSt.out.1 hw
      have HYes := Lib.hid hyes
      have HNx := Lib.hid (pnext_any HS2.out HRq2.out.rq hw)
      obtain ⟨a1, k1, hvf⟩ : ∃ a c, V2.f = .slice a s2.msg.f.length c := by obtain ⟨q, h⟩ := HS2.out.par; obtain ⟨a, c, hv, -⟩ := isFlds_own h.flds; exact ⟨a, c, hv⟩
      obtain ⟨a2, k2, hvt⟩ : ∃ a c, V2.t = .slice a s2.msg.tr.length c := by obtain ⟨q, h⟩ := HS2.out.par; obtain ⟨a, c, hv, -⟩ := isFlds_own h.trl; exact ⟨a, c, hv⟩
      have hmsg : (msgL s2.msg V2.f V2.t).toArray = #[.string (mkS s2.msg.m), .string (mkS s2.msg.t), .int .i64 s2.msg.st, .string (mkS s2.msg.r), .int .i64 s2.msg.mi, .slice a1 s2.msg.f.length k1, .string (mkS s2.msg.body), .slice a2 s2.msg.tr.length k2] := by unfold msgL; rw [hvf, hvt]
      rw [hmsg] at HNx
      have HMsg := Lib.hid hmsg
      unfold ptr at HNx
      clear hw hyes HSt hvf hvt hmsg
      refine HNx.out.mono ?_
      rintro e w3 ⟨rfl, hn3⟩
      obtain ⟨q2, hpar⟩ := HS2.out.par
      obtain ⟨V3, hs3, ht3, hm3, ha3, hr3, hd3⟩ := HM2.out.next HA2.out hpar hn3
      have hb5 : Below w3.heap.size w3 ((w3.alloc (.cells #[.string (mkS s2.msg.m), .string (mkS s2.msg.t), .int .i64 s2.msg.st, .string (mkS s2.msg.r), .int .i64 s2.msg.mi, .slice a1 s2.msg.f.length k1, .string (mkS s2.msg.body), .slice a2 s2.msg.tr.length k2] 32)).alloc (.cells #[.string (mkS s2.msg.m), .string (mkS s2.msg.t), .int .i64 s2.msg.st, .string (mkS s2.msg.r), .int .i64 s2.msg.mi, .slice a1 s2.msg.f.length k1, .string (mkS s2.msg.body), .slice a2 s2.msg.tr.length k2] 32)) := ((Below.refl _ _).alloc (Nat.le_refl _) _).alloc (by simp) _
      obtain ⟨x, hx⟩ : ∃ x : MV, x = (s2.msg, V2.f, V2.t) := ⟨_, rfl⟩
      have hcells : msgL x.1 x.2.1 x.2.2 = [.string (mkS s2.msg.m), .string (mkS s2.msg.t), .int .i64 s2.msg.st, .string (mkS s2.msg.r), .int .i64 s2.msg.mi, .slice a1 s2.msg.f.length k1, .string (mkS s2.msg.body), .slice a2 s2.msg.tr.length k2] := by rw [hx]; exact congrArg Array.toList HMsg.out
      rw [← hx] at hr3
      have HX := Lib.hid (show x.1 = s2.msg from by rw [hx])
      have hd4 : ∀ k, x.2.1.ownBlock = some k ∨ x.2.2.ownBlock = some k → ¬ PMine b V3 k := by rw [hx]; exact hd3
      have HS3 := Lib.hid (hs3.below hb5)
      have HM3 := Lib.hid (hm3.below hb5)
      have HA3 := Lib.hid ha3
      have HR3 := Lib.hid (hr3.same fun k e => hb5.block k (by rcases e with e | e; exact (hr3.f.lt k e).2; exact (hr3.t.lt k e).2))
      have HD3 := Lib.hid hd4
      have HB3 := Lib.hid ((HB2.out.trans (HS2.out.toBelow ht3)).trans (hb5.mono (HB2.out.trans (HS2.out.toBelow ht3)).size))
      have HC := Lib.hid hcells
      have hw4 : (w3.alloc (.cells #[.string (mkS s2.msg.m), .string (mkS s2.msg.t), .int .i64 s2.msg.st, .string (mkS s2.msg.r), .int .i64 s2.msg.mi, .slice a1 s2.msg.f.length k1, .string (mkS s2.msg.body), .slice a2 s2.msg.tr.length k2] 32)).heap.size = w3.heap.size + 1 := by simp
      have hc1 : ∀ j u, ([.string (mkS s2.msg.m), .string (mkS s2.msg.t), .int .i64 s2.msg.st, .string (mkS s2.msg.r), .int .i64 s2.msg.mi, .slice a1 s2.msg.f.length k1, .string (mkS s2.msg.body), .slice a2 s2.msg.tr.length k2] : List Value)[j]? = some u → ((w3.alloc (.cells #[.string (mkS s2.msg.m), .string (mkS s2.msg.t), .int .i64 s2.msg.st, .string (mkS s2.msg.r), .int .i64 s2.msg.mi, .slice a1 s2.msg.f.length k1, .string (mkS s2.msg.body), .slice a2 s2.msg.tr.length k2] 32)).alloc (.cells #[.string (mkS s2.msg.m), .string (mkS s2.msg.t), .int .i64 s2.msg.st, .string (mkS s2.msg.r), .int .i64 s2.msg.mi, .slice a1 s2.msg.f.length k1, .string (mkS s2.msg.body), .slice a2 s2.msg.tr.length k2] 32)).cell? ((⟨w3.heap.size + 1, 0, none⟩ : Addr).add j) = some u := by
        intro j u hj
        have h1 := heap_alloc_last (w3.alloc (.cells #[.string (mkS s2.msg.m), .string (mkS s2.msg.t), .int .i64 s2.msg.st, .string (mkS s2.msg.r), .int .i64 s2.msg.mi, .slice a1 s2.msg.f.length k1, .string (mkS s2.msg.body), .slice a2 s2.msg.tr.length k2] 32)) (Obj.cells #[.string (mkS s2.msg.m), .string (mkS s2.msg.t), .int .i64 s2.msg.st, .string (mkS s2.msg.r), .int .i64 s2.msg.mi, .slice a1 s2.msg.f.length k1, .string (mkS s2.msg.body), .slice a2 s2.msg.tr.length k2] 32)
        rw [hw4] at h1
        rw [show (⟨w3.heap.size + 1, 0, none⟩ : Addr).add j = ⟨w3.heap.size + 1, j, none⟩ by by_cases h0 : j = 0 <;> simp [Addr.add, h0]]
        rw [Lib.cell_of_heap h1, ← Array.getElem?_toList]
        exact hj
      have hc2 : ∀ u ∈ ([.string (mkS s2.msg.m), .string (mkS s2.msg.t), .int .i64 s2.msg.st, .string (mkS s2.msg.r), .int .i64 s2.msg.mi, .slice a1 s2.msg.f.length k1, .string (mkS s2.msg.body), .slice a2 s2.msg.tr.length k2] : List Value), u.oneCell' = true := by intro u hu; simp at hu; rcases hu with rfl | rfl | rfl | rfl | rfl | rfl | rfl | rfl <;> rfl
      have HC1 := Lib.hid hc1
      have HC2 := Lib.hid hc2
      have hvl : Vs.length ≤ 100000 := by
        have h1 := go_few ((bs t).take i) s0
        rw [HGo.out] at h1
        have h1 : Vs.length ≤ ((bs t).take i).length := by simpa only [List.length_map] using h1
        have h2 : ((bs t).take i).length ≤ t.size := by rw [List.length_take, HLen.out]; omega
        have := HT.out
        omega
      have HBs := Lib.hid (show w.heap.size ≤ ((w3.alloc (.cells #[.string (mkS s2.msg.m), .string (mkS s2.msg.t), .int .i64 s2.msg.st, .string (mkS s2.msg.r), .int .i64 s2.msg.mi, .slice a1 s2.msg.f.length k1, .string (mkS s2.msg.body), .slice a2 s2.msg.tr.length k2] 32)).alloc (.cells #[.string (mkS s2.msg.m), .string (mkS s2.msg.t), .int .i64 s2.msg.st, .string (mkS s2.msg.r), .int .i64 s2.msg.mi, .slice a1 s2.msg.f.length k1, .string (mkS s2.msg.body), .slice a2 s2.msg.tr.length k2] 32)).heap.size from HB3.out.size)
      clear hs3 ht3 hm3 ha3 hr3 hd3 hd4 hpar hn3 HNx HM2 HA2 HB2 HS2 hb5 hcells hc1 hc2 hw4 hx
      go_wp2_with (at_builtin; refine append_stay (by rfl) _ _ 26 rfl w.heap.size 32 i0 (.agg #[.string .empty, .string .empty, .int .i64 0, .string .empty, .int .i64 0, .slice none 0 0, .string .empty, .slice none 0 0]) 8 128 Tryz.underlying26 hi hz0 hz1 hz2 rfl (by decide) _ _ _ rfl HM3.out.own ⟨w3.heap.size + 1, 0, none⟩ 1 1 [.string (mkS s2.msg.m), .string (mkS s2.msg.t), .int .i64 s2.msg.st, .string (mkS s2.msg.r), .int .i64 s2.msg.mi, .slice a1 s2.msg.f.length k1, .string (mkS s2.msg.body), .slice a2 s2.msg.tr.length k2] rfl rfl HC1.out HC2.out ?c3 ?c4 HBs.out ?_)
      case c3 => unfold maxLen; omega
      case c4 => omega
      intro v' w6 ho hg hst
      have HM6 := Lib.hid (HM3.out.snoc x HR3.out (by rw [HC.out]; exact ho) hg)
      obtain ⟨qz, hpz⟩ := HS3.out.par
      have HA6 := Lib.hid (HA3.out.snoc hpz x HD3.out hst)
      have HS6 := Lib.hid (HS3.out.grownBy HA3.out hg)
      have HB6 := Lib.hid (HB3.out.trans (show Below w.heap.size _ w6 from ⟨hg.os, hg.tape, hg.output, hg.size, fun k hk => hg.block k (Nat.lt_of_lt_of_le hk HBs.out) (fun e => by have := (HM3.out.own.lt k e.symm).1; omega)⟩))
      obtain ⟨av', cv', rfl⟩ := HM6.out.val
      clear hpz ho hg hst HM3 HA3 HS3 HB3
      go_wp2_with fail
      refine ⟨⟨i + n, s2.fresh, V3, Vs ++ [x], tx.extract n tx.size, HN.out, rfl, Lib.hid ?_, Lib.hid ?_, Lib.hid (run_fresh s2), HS6, HM6, HA6, HB6⟩, ?_⟩
      · rw [bs_extract, HTx.out, List.drop_drop, List.take_of_length_le (by rw [List.length_drop, HLen.out]; have := HTs.out; omega)]
      · rw [List.map_append, List.map_cons, List.map_nil, HX.out]; exact HYes.out.2
      · have h1 := HYes.out.1
        have h2 := HN.out
        have h3 := HTs.out
        simp only [ByteArray.size_extract]
        omega
end Tk
end Go.Proofs.YtpcdaaijlgilkaaGreatDoor
namespace Go.Proofs.YtpcdaaijlgilkaaGreatDoor
open Go.RowKit
namespace Tk

def getB : Bs := [71, 69, 84, 32, 47, 32, 72, 84, 84, 80, 47, 49, 46, 49, 13, 10, 72, 111, 115, 116, 58, 32, 97, 13, 10, 13, 10]
def badB : Bs := [71, 69, 84, 32, 47, 32, 72, 84, 84, 80, 47, 49, 46, 49, 13, 10, 13, 10]
def roomP : Pr := newP 200 1000 30 1000 false
set_option maxRecDepth 100000 in
theorem lives_get : allS roomP getB = 0 ∧ (allM roomP getB).map (fun m => (m.m, m.t, m.mi, m.f.length)) = [([71, 69, 84], [47], 1, 1)] := by decide +kernel
set_option maxRecDepth 100000 in
theorem lives_bad : allS roomP badB = 400 ∧ (allM roomP badB).length = 0 := by decide +kernel
theorem room_limP : LimP (newP 200 1000 30 1000 false) := by unfold LimP; decide
theorem lim_cell {g : Nat} {L X C M : Int} {w : World} (h : w.heap[g]? = some (.cells #[.int .i64 L, .int .i64 X, .int .i64 C, .int .i64 M] 24 (0, 0))) (i : Nat) (v : Value) (hv : (#[.int .i64 L, .int .i64 X, .int .i64 C, .int .i64 M] : Array Value)[i]? = some v) : w.cell? ⟨g, i, none⟩ = some v := by rw [Lib.cell_of_heap h]; exact hv
set_option maxHeartbeats 4000000 in
set_option maxRecDepth 100000 in
theorem lives06_any (w : World) (hv : ErrV w.heap.size w) :
    Calls Tryz.prog 9 #[] w (Yes2 w) := by
  have HV := Lib.hid hv
  obtain ⟨q1, q2⟩ := lives_get
  obtain ⟨q3, q4⟩ := lives_bad
  have Q2 := Lib.hid q2
  have Q4 := Lib.hid q4
  clear hv q2 q4
  unfold Yes2
  go_enter Tryz.func9, Tryz.ntmps9
  go_wp2_with fail
  refine (roomy_any _).mono ?_
  rintro e w1 ⟨rfl, hb1⟩
  have HB1 := Lib.hid hb1
  clear hb1
  go_wp2_with fail
  refine (pall_any 200 1000 30 1000 200 1000 30 1000 ⟨#[71, 69, 84, 32, 47, 32, 72, 84, 84, 80, 47, 49, 46, 49, 13, 10, 72, 111, 115, 116, 58, 32, 97, 13, 10, 13, 10]⟩ w1 rfl rfl rfl rfl room_limP (by decide) (HV.out.later HB1.out).top).mono ?_
  unfold AllPost
  rw [show bs ⟨#[71, 69, 84, 32, 47, 32, 72, 84, 84, 80, 47, 49, 46, 49, 13, 10, 72, 111, 115, 116, 58, 32, 97, 13, 10, 13, 10]⟩ = getB from rfl, show newP 200 1000 30 1000 false = roomP from rfl, q1]
  rintro e w2 ⟨v, Vs, rfl, hmap, hms, hbe⟩
  have HB2 := Lib.hid (HB1.out.trans (hbe.mono HB1.out.size))
  have HMs := Lib.hid hms
  have hl1 : (allM roomP getB).length = 1 := by simpa using congrArg List.length Q2.out
  rw [← hmap, List.length_map] at hl1
  obtain ⟨x, rfl⟩ := List.length_eq_one_iff.1 hl1
  have hx := Q2.out
  rw [← hmap] at hx
  simp only [List.map_cons, List.map_nil, List.cons.injEq, and_true, Prod.mk.injEq] at hx
  have HX := Lib.hid hx
  clear hmap hms hbe hl1 hx q1 Q2
  go_wp2_with fail
  refine (roomy_any _).mono ?_
  rintro e w3 ⟨rfl, hb3⟩
  have HM3 := Lib.hid (HMs.out.below hb3)
  have HB3 := Lib.hid (HB2.out.trans (hb3.mono HB2.out.size))
  clear hb3 HMs HB2
  go_wp2_with fail
  refine (pall_any 200 1000 30 1000 200 1000 30 1000 ⟨#[71, 69, 84, 32, 47, 32, 72, 84, 84, 80, 47, 49, 46, 49, 13, 10, 13, 10]⟩ w3 rfl rfl rfl rfl room_limP (by decide) (HV.out.later HB3.out).top).mono ?_
  unfold AllPost
  rw [show bs ⟨#[71, 69, 84, 32, 47, 32, 72, 84, 84, 80, 47, 49, 46, 49, 13, 10, 13, 10]⟩ = badB from rfl, show newP 200 1000 30 1000 false = roomP from rfl, q3]
  rintro e w4 ⟨v2, Vs2, rfl, hmap, hms, hbe⟩
  have HB4 := Lib.hid (HB3.out.trans (hbe.mono HB3.out.size))
  have hl2 := Q4.out
  rw [← hmap, List.length_map] at hl2
  obtain ⟨a2, c2, hv2⟩ := hms.val
  rw [hl2] at hv2
  subst hv2
  obtain ⟨g, cap, hv1, hcap, hc, hf, ht⟩ := (HM3.out.below hbe).get 0 x rfl
  subst hv1
  obtain ⟨x1, x2, x3, x4⟩ := HX.out
  have k0 : w4.cell? ⟨g, 0, none⟩ = some (.string ⟨#[71, 69, 84]⟩) := by have := hc 0 _ rfl; rw [x1] at this; exact this
  have k1 : w4.cell? ⟨g, 1, none⟩ = some (.string ⟨#[47]⟩) := by have := hc 1 _ rfl; rw [x2] at this; exact this
  have k4 : w4.cell? ⟨g, 4, none⟩ = some (.int .i64 1) := by have := hc 4 _ rfl; rw [x3] at this; exact this
  obtain ⟨af, cf, hvf, -⟩ := hf
  rw [x4] at hvf
  have k5 : w4.cell? ⟨g, 5, none⟩ = some (.slice af 1 cf) := by have := hc 5 _ rfl; rw [hvf] at this; exact this
  clear hmap hms hbe hl2 hc ht hvf x1 x2 x3 x4 HM3 HX Q4 q3
  go_wp2_with fail
  go_ret
  exact ⟨rfl, HB4.out⟩
end Tk
end Go.Proofs.YtpcdaaijlgilkaaGreatDoor
namespace Go.Proofs.YtpcdaaijlgilkaaGreatDoor
namespace Tk

/-- l, so often -/
def rep : Nat → Bs → Bs
  | 0, _ => []
  | n + 1, l => l ++ rep n l
theorem rep_add (l : Bs) : ∀ a b, rep (a + b) l = rep a l ++ rep b l
  | 0, b => by simp [rep]
  | a + 1, b => by rw [show a + 1 + b = (a + b) + 1 by omega]; show l ++ rep (a + b) l = (l ++ rep a l) ++ rep b l; rw [rep_add l a b, List.append_assoc]
theorem rep_snoc (l : Bs) (a : Nat) : rep (a + 1) l = rep a l ++ l := by rw [rep_add l a 1]; simp [rep]
theorem rep_len (l : Bs) : ∀ a, (rep a l).length = a * l.length
  | 0 => by simp [rep]
  | a + 1 => by show (l ++ rep a l).length = _; rw [List.length_append, rep_len l a, Nat.succ_mul]; omega
theorem rep_one (c : UInt8) : ∀ a, rep a [c] = List.replicate a c
  | 0 => rfl
  | a + 1 => by show [c] ++ rep a [c] = _; rw [rep_one c a]; rfl
def putB : Bs := [80, 85, 84, 32, 47, 32, 72, 84, 84, 80, 47, 49, 46, 49, 13, 10, 72, 111, 115, 116, 58, 32, 97, 13, 10]
def fldB : Bs := [65, 58, 32, 49, 13, 10]
def chB : Bs := [49, 13, 10, 120, 13, 10]
def rmHead (j : Nat) : Bs := putB ++ rep j fldB
def digN (n : Nat) : Bs := if n < 10 then [(48 + n).toUInt8] else [(48 + n / 10).toUInt8, (48 + n % 10).toUInt8]
def rmCLh (n : Nat) : Bs := [67, 111, 110, 116, 101, 110, 116, 45, 76, 101, 110, 103, 116, 104, 58, 32] ++ digN n ++ [13, 10, 13, 10]
def rmTE : Bs := [84, 114, 97, 110, 115, 102, 101, 114, 45, 69, 110, 99, 111, 100, 105, 110, 103, 58, 32, 99, 104, 117, 110, 107, 101, 100, 13, 10, 13, 10]
open Go.RowKit
/-- behind the head's lines -/
def hdS (C n j : Nat) : Pr := { L := 100, H := 400, C := C, M := n, mode := 3, left := 25 + 6 * j, head := 25 + 6 * j, msg := { m := [80, 85, 84], t := [47], mi := 1, f := ([72, 111, 115, 116], [97]) :: List.replicate j ([65], [49]) } }
theorem head_put (C n : Nat) (hC : 1 ≤ C) : goP (newP 100 400 C n false) putB = ([], hdS C n 0) := by
  obtain ⟨c, rfl⟩ : ∃ c, C = c + 1 := ⟨C - 1, by omega⟩
  kernel_rfl
theorem head_fld (C n : Nat) : ∀ j, j < 11 → j + 2 ≤ C → goP (hdS C n j) fldB = ([], hdS C n (j + 1)) := by
  intro j hj hC
  obtain ⟨c, rfl⟩ : ∃ c, C = c + (j + 2) := ⟨C - (j + 2), by omega⟩
  rcases (show j = 0 ∨ j = 1 ∨ j = 2 ∨ j = 3 ∨ j = 4 ∨ j = 5 ∨ j = 6 ∨ j = 7 ∨ j = 8 ∨ j = 9 ∨ j = 10 by omega) with rfl | rfl | rfl | rfl | rfl | rfl | rfl | rfl | rfl | rfl | rfl
  all_goals kernel_rfl
/-- behind the line of the coding -/
def teS (C n j : Nat) : Pr := { hdS C n j with mode := 6, kind := 3, left := 25 + 6 * j + 30, head := 25 + 6 * j + 30, dc := newD 100 400 C n, msg := { m := [80, 85, 84], t := [47], mi := 1, f := ([72, 111, 115, 116], [97]) :: List.replicate j ([65], [49]) ++ [([84, 114, 97, 110, 115, 102, 101, 114, 45, 69, 110, 99, 111, 100, 105, 110, 103], [99, 104, 117, 110, 107, 101, 100])] } }
theorem head_te (C n : Nat) : ∀ j, j < 12 → j + 2 ≤ C → goP (hdS C n j) rmTE = ([], teS C n j) := by
  intro j hj hC
  obtain ⟨c, rfl⟩ : ∃ c, C = c + (j + 2) := ⟨C - (j + 2), by omega⟩
  rcases (show j = 0 ∨ j = 1 ∨ j = 2 ∨ j = 3 ∨ j = 4 ∨ j = 5 ∨ j = 6 ∨ j = 7 ∨ j = 8 ∨ j = 9 ∨ j = 10 ∨ j = 11 by omega) with rfl | rfl | rfl | rfl | rfl | rfl | rfl | rfl | rfl | rfl | rfl | rfl
  all_goals kernel_rfl
theorem head_all (C n : Nat) : ∀ j, j < 12 → j + 1 ≤ C → goP (newP 100 400 C n false) (rmHead j) = ([], hdS C n j)
  | 0, _, hC => by unfold rmHead; rw [show rep 0 fldB = [] from rfl, List.append_nil]; exact head_put C n hC
  | j + 1, hj, hC => by
    have ih := head_all C n j (by omega) (by omega)
    unfold rmHead at *
    rw [rep_snoc, ← List.append_assoc, goP_append, ih]
    simp only [head_fld C n j (by omega) (by omega), List.append_nil]
-- the line of a length
def c1 (j n : Nat) : Bool :=
  let r := goP (hdS (j + 2) n j) (rmCLh n)
  r.1.isEmpty && decide (r.2.mode = 4) && decide (r.2.bad = 0) && decide (r.2.len = n) && decide (r.2.body = []) && !r.2.rsp
def c3 (j n : Nat) : Bool := let r := goP (hdS (j + 2) (n - 1) j) (rmCLh n); r.1.isEmpty && decide (r.2.bad = 413)
def c4 (j n : Nat) : Bool := let r := goP (hdS (j + 1) n j) (rmCLh n); r.1.isEmpty && decide (r.2.bad = 431)
set_option maxRecDepth 100000 in
theorem c1_all : ∀ j < 12, ∀ n < 60, c1 j (n + 1) = true := by decide +kernel
set_option maxRecDepth 100000 in
theorem c3_all : ∀ j < 12, ∀ n < 60, c3 j (n + 1) = true := by decide +kernel
set_option maxRecDepth 100000 in
theorem c4_all : ∀ j < 12, ∀ n < 60, c4 j (n + 1) = true := by decide +kernel
end Tk
end Go.Proofs.YtpcdaaijlgilkaaGreatDoor
