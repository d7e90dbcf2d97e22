/- message: Feed of a parser that consumes nothing; End behind content to the end; Left; Same of two methods. -/
import Derived.Test.YtpcdaaijlgilkaaGreatDoorQK
namespace Go.Proofs.YtpcdaaijlgilkaaGreatDoor
open Go.RowKit
namespace Tk

variable {B b : Nat} {s : Pr} {q z lf : Nat} {V : PV} {w : World}
set_option maxHeartbeats 16000000 in
set_option maxRecDepth 100000 in
theorem pfeedI_any (t : ByteArray) (h : Sync B b s V w) (hs0 : stopP s = true) (hn : s.left + t.size ≤ 100000) :
    Calls Tryz.prog 15 #[ptr b, .string t] w fun e w' => e = .returned (.tuple #[.int .i64 (0 : Nat), .int .i64 s.bad]) ∧ Sync B b s V w' ∧ Below B w w' := by
  have hmf : ∀ (fn : Fn) (first cap : Array Value) (w : World), (Instr.makeFunc fn first cap).run Tryz.prog w = .ok (.func fn first cap) w := fun _ _ _ _ => rfl
  have hb4 : Below w.heap.size w ((((w.alloc (.cells #[.pointer (some ⟨b, 0, none⟩)] 35)).alloc (.cells #[.string t] 9)).alloc (.cells #[.int .i64 0] 3)).alloc (.cells #[.int .i64 0] 3)) := ((((Below.refl _ _).alloc (Nat.le_refl _) _).alloc (by simp) _).alloc (by simp; omega) _).alloc (by simp; omega) _
  obtain ⟨q0, hq07, hq0, h⟩ := h
  have HQ0 := Lib.hid (⟨hq07, hq0⟩ : _ ∧ _)
  have HP := Lib.hid h
  have HMade := Lib.hid (pmade_any (h.below hb4))
  have HOk := Lib.hid (⟨hs0, hn⟩ : _ ∧ _)
  clear h hs0 hn hb4 hq07 hq0
  unfold ptr at *
  go_enter_defers Tryz.func15, Tryz.ntmps15
  go_wp2_with fail
  refine HMade.out.mono ?_
  rintro e w' ⟨rfl, rfl⟩
  go_wp2_with fail
  clear HMade
  rw [show (((((w.alloc (.cells #[.pointer (some ⟨b, 0, none⟩)] 35)).alloc (.cells #[.string t] 9)).alloc (.cells #[.int .i64 0] 3)).alloc (.cells #[.int .i64 0] 3)).alloc (.cells #[.string t] 60)).alloc (.cells #[.pointer (some ⟨w.heap.size + 1 + 1 + 1 + 1, 0, none⟩)] 58) = feedW b t w from rfl]
  have HBx := Lib.hid (feedW_boxed b t w HP.out.lt)
  have HBw := Lib.hid (feedW_below b t w)
  have HNew := Lib.hid (show ∀ k, w.heap.size ≤ k → ¬ PMine b V k from fun k hk hm => by have := (HP.out.mineLt k hm).2; omega)
  have HP6 := Lib.hid (HP.out.below HBw.out.1)
  have HGe := Lib.hid (show ∀ k, (k = w.heap.size ∨ k = w.heap.size + 1 ∨ k = w.heap.size + 1 + 1 + 1 + 1 + 1 ∨ k = w.heap.size + 1 + 1 ∨ k = w.heap.size + 1 + 1 + 1) → ¬ PMine b V k ∧ k ≠ w.heap.size + 1 + 1 + 1 + 1 from fun k hk => ⟨HNew.out k (by omega), by omega⟩)
  have HGg := Lib.hid (show w.heap.size + 1 + 1 + 1 + 1 < (feedW b t w).heap.size ∧ ¬ PMine b V (w.heap.size + 1 + 1 + 1 + 1) from ⟨by rw [HBw.out.2]; omega, HNew.out _ (by omega)⟩)
  have HLe := Lib.hid (show ∀ k, (k = w.heap.size + 1 + 1 + 1 + 1 ∨ k = w.heap.size + 1 + 1 ∨ k = w.heap.size + 1 + 1 + 1) → w.heap.size ≤ k from fun k hk => by omega)
  generalize feedW b t w = W6 at *
  generalize w.heap.size + 1 + 1 + 1 + 1 + 1 = gi at *
  generalize w.heap.size + 1 + 1 + 1 + 1 = g at *
  generalize w.heap.size + 1 + 1 + 1 = gs at *
  generalize w.heap.size + 1 + 1 = gn at *
  generalize w.heap.size + 1 = gb at *
  generalize hgp : w.heap.size = gp at HBx HGe ⊢
  have HGp := Lib.hid hgp
  clear hgp
  have HLen := Lib.hid (length_bs t)
  go_loopw [7] (fun _ wr => (∃ q, Hid (q ≤ 7 ∧ (s.bad = 0 → q = s.mode)) ∧ Hid (Par B b s q s.bad s.left V wr)) ∧ Hid (PTn b V V (· = g) W6 wr) ∧ Hid (Inp g (bs t) wr)) (fun _ _ => 0)
  case atStart => exact ⟨⟨q0, HQ0, HP6⟩, PTn.refl, HBx.out.2⟩
  case round =>
    obtain ⟨⟨q, HQ, HD⟩, HT, HIn⟩ := hrel
    rename World => W
    have HBw2 := Lib.hid (HBx.out.1.turn HT.out HGe.out HIn.out)
    have HC := Lib.hid (pconsumes_any HD.out HQ.out.1)
    rw [consP_gen HQ.out.2, HOk.out.1] at HC
    have hkp := HBw2.out.cp
    have hki := HBw2.out.ci
    have hkr := HBw2.out.cr
    unfold ptr at HC
    have hlen : t.size = 0 + (bs t).length := by rw [HLen.out]; omega
    have hnm2 : ¬ PMine b V gn ∧ ¬ PMine b V gs := ⟨HT.out.not_mine ⟨cell_lt HBx.out.1.cn, (HGe.out gn (by simp)).1⟩, HT.out.not_mine ⟨cell_lt HBx.out.1.cs, (HGe.out gs (by simp)).1⟩⟩
    have HEnd := Lib.hid (feedEnd_idle gp gb gi gn gs g t (bs t) 0 HBw2.out HD.out hlen (by have := HOk.out.2; omega) hnm2)
    have HDone := Lib.hid (show ∀ w2, FdPost B b s q s.bad s.left V gn gs 0 W w2 → Sync B b s V w2 ∧ Below B w w2 from fun w2 hf => by
      obtain ⟨f1, f2, f3, f4⟩ := hf
      refine ⟨⟨q, HQ.out.1, HQ.out.2, f1⟩, ?_⟩
      have h1 : PTn b V V (fun k => k = g ∨ k = gn ∨ k = gs) w W6 := PTn.of (by rw [HGp.out]; rw [HGp.out] at HBw; exact HBw.out.1)
      have h2 := HT.out.mono (Y := fun k => k = g ∨ k = gn ∨ k = gs) (fun k _ e => .inl e)
      have h3 := f2.mono (Y := fun k => k = g ∨ k = gn ∨ k = gs) (fun k _ e => .inr e)
      exact (((h1.trans h2).trans h3).mono (Y := fun _ => False) (fun k hk e => by have := HLe.out k e; omega)).toBelow HP.out (fun _ e => e.elim))
    by_cases hlt : t.size = 0
    · have hdr : bs t = [] := List.eq_nil_of_length_eq_zero (by rw [HLen.out]; exact hlt)
      have hkr2 : W.cell? ⟨g, 0, none⟩ = some (.string ⟨#[]⟩) := by rw [hkr, hdr]; rfl
      clear hlen hnm2 hlt hkr hdr
      go_wp2_with fail
      refine leaves_cons (f := 29) (args := #[.pointer (some ⟨gp, 0, none⟩), .pointer (some ⟨gb, 0, none⟩), .pointer (some ⟨gi, 0, none⟩), .pointer (some ⟨gn, 0, none⟩), .pointer (some ⟨gs, 0, none⟩)]) (by simp) (by simp [go_sem]) ?_
      refine HEnd.out.mono ?_
      rintro e u' w3 ⟨rfl, rfl, hF⟩
      have k1 := hF.2.2.1
      have k2 := hF.2.2.2
      simp [Leaves, settle, results, Tryz.results15, go_sem, k1, k2]
      exact HDone.out _ hF
    · have hne : ((mkS (bs t)).toList == ([] : List UInt8)) = false := by
        rw [toList_bs, bs_mkS]
        cases hd : bs t with
        | nil => exact absurd (by rw [← HLen.out, hd]; rfl) hlt
        | cons a r => rfl
      clear hlen hnm2 hlt
      generalize mkS (bs t) = tx at *
      go_wp2_with fail
      refine HC.out.mono ?_
      rintro e w2 ⟨rfl, rfl⟩
      go_wp2_with fail
      refine leaves_cons (f := 29) (args := #[.pointer (some ⟨gp, 0, none⟩), .pointer (some ⟨gb, 0, none⟩), .pointer (some ⟨gi, 0, none⟩), .pointer (some ⟨gn, 0, none⟩), .pointer (some ⟨gs, 0, none⟩)]) (by simp) (by simp [go_sem]) ?_
      refine HEnd.out.mono ?_
      rintro e u' w3 ⟨rfl, rfl, hF⟩
      have k1 := hF.2.2.1
      have k2 := hF.2.2.2
      simp [Leaves, settle, results, Tryz.results15, go_sem, k1, k2]
      exact HDone.out _ hF

theorem pleftS_any (h : Sync B b s V w) :
    Calls Tryz.prog 20 #[ptr b] w fun e w' => e = .returned (.int .i64 (leftP s : Nat)) ∧ w' = w := by
  obtain ⟨q, hq, hqm, h⟩ := h
  have hl := pleft_any h hq
  have hlf : (if q = 7 ∧ s.bad = 0 then 0 else s.left) = leftP s := by
    unfold leftP
    rw [← wait_eq hqm]
    by_cases h1 : q = 7 <;> by_cases h2 : s.bad = 0 <;> simp [h1, h2]
  rw [hlf] at hl
  exact hl
set_option maxHeartbeats 4000000 in
set_option maxRecDepth 100000 in
/-- the content that extends to the end is whole -/
theorem pendC_any (h : Sync B b s V w) (hs : stopP s = false) (hk : s.kind = 4) (hm : s.mode ≠ 6) :
    Calls Tryz.prog 18 #[ptr b] w fun e w' => e = .returned (.int .i64 0) ∧ SyncTo B b (endP s) V w w' := by
  obtain ⟨q, hq, hqm, h⟩ := h
  have hb0 := (not_stop hs).2.1
  have he : endP s = { s with mode := 7, msg := { s.msg with body := s.body } } := by
    unfold endP; rw [con_stop, hs, hk]; rfl
  have HM := Lib.hid (pmade_any h)
  have HC := Lib.hid (pconsumes_any h hq)
  rw [consP_gen hqm, hs] at HC
  have c20 : w.cell? ⟨b, 20, none⟩ = some (.int .i64 (4 : Nat)) := by rw [← hk]; exact h.cell 20 _ rfl
  have HCo := Lib.hid (complete_any (X := fun _ => False) h hm)
  rw [he]
  have HB0 := Lib.hid hb0
  clear h hs hk hm hq hqm he hb0
  unfold ptr at *
  go_enter Tryz.func18, Tryz.ntmps18
  go_wp2_with fail
  refine HM.out.mono ?_
  rintro e wq ⟨rfl, hwq⟩
  rw [hwq]
  clear hwq
  go_wp2_with fail
  refine HC.out.mono ?_
  rintro e wq ⟨rfl, hwq⟩
  rw [hwq]
  clear hwq
  go_wp2_with fail
  refine HCo.out.mono ?_
  rintro e w2 ⟨rfl, V2, hp2, ht2⟩
  have k8 : w2.cell? ⟨b, 8, none⟩ = some (pstV q) := hp2.cell 8 _ rfl
  have f8 := hp2.frz 8
  have hp3 := hp2.set 8 .nilFunc { s with mode := 7, msg := { s.msg with body := s.body } } 7 s.bad s.left rfl rfl rfl rfl rfl rfl (fun e => ⟨e, rfl⟩)
  have k7 : (w2.setCell ⟨b, 8, none⟩ .nilFunc).cell? ⟨b, 7, none⟩ = some (.int .i64 (0 : Nat)) := by have := hp3.cell 7 _ rfl; rw [← HB0.out]; exact this
  have HS := Lib.hid (show SyncTo B b { s with mode := 7, msg := { s.msg with body := s.body } } V w (w2.setCell ⟨b, 8, none⟩ .nilFunc) from ⟨V2, ⟨7, by omega, fun _ => rfl, hp3⟩, ht2.trans (PTn.set 8 _)⟩)
  obtain ⟨u8, hu8⟩ : ∃ u, w2.cell? ⟨b, 8, none⟩ = some u := ⟨_, k8⟩
  clear hp2 ht2 hp3 k8
  go_wp2_with fail
  go_ret
  exact ⟨rfl, HS.out⟩

set_option maxHeartbeats 4000000 in
set_option maxRecDepth 100000 in
/-- messages of two methods -/
theorem msame_no (x y : ByteArray) (hxy : (x.toList == y.toList) = false) (x2 x3 x4 y2 y3 y4 : ByteArray) (n1 n2 m1 m2 : Int) (a1 a2 a3 a4 : Option Addr) (l1 l2 l3 l4 k1 k2 k3 k4 : Nat) (w : World) :
    Calls Tryz.prog 22 #[.agg #[.string x, .string x2, .int .i64 n1, .string x3, .int .i64 n2, .slice a1 l1 k1, .string x4, .slice a2 l2 k2], .agg #[.string y, .string y2, .int .i64 m1, .string y3, .int .i64 m2, .slice a3 l3 k3, .string y4, .slice a4 l4 k4]] w fun e w' => e = .returned (.bool false) ∧ Below w.heap.size w w' := by
  go_enter Tryz.func22, Tryz.ntmps22
  have HB := Lib.hid (show Below w.heap.size w ((w.alloc (.cells #[.string x, .string x2, .int .i64 n1, .string x3, .int .i64 n2, .slice a1 l1 k1, .string x4, .slice a2 l2 k2] 32)).alloc (.cells #[.string y, .string y2, .int .i64 m1, .string y3, .int .i64 m2, .slice a3 l3 k3, .string y4, .slice a4 l4 k4] 32)) from ((Below.refl _ _).alloc (Nat.le_refl _) _).alloc (by simp) _)
  go_wp2_with fail
  go_ret
  exact ⟨rfl, HB.out⟩
end Tk
end Go.Proofs.YtpcdaaijlgilkaaGreatDoor
