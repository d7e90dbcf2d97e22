/- chunk: a byte is added to the line; the line that has ended. -/
import Derived.Test.YtanilbckakoogaaGreatDoorChkA
import Derived.Test.YtanilbckakoogaaGreatDoorChkQ
import Derived.BigQuiet
namespace Go.Proofs.YtanilbckakoogaaGreatDoor
open Go.RowKit
namespace Tk

/-- how add ends -/
def addE (s : Dc) (c : UInt8) : Ending := if addK s c = 0 then .returned (.bool false) else if addK s c = 1 then .returned (.bool true) else .panicked (flawP 400)

theorem Dec.draws {B b : Nat} {s : Dc} {vl vb vt : Value} {w : World} (h : Dec B b s vl vb vt w) (n : Nat) : Dec B b s vl vb vt (w.drewN n) := h.below ⟨rfl, rfl, rfl, Nat.le_refl _, fun _ _ => rfl⟩
theorem Turn.draws (b : Nat) (vl vb vt : Value) (w : World) (n : Nat) : Turn b vl vb vt vl vb vt w (w.drewN n) := Turn.of ⟨rfl, rfl, rfl, Nat.le_refl _, fun _ _ => rfl⟩

theorem u8_dec (c : UInt8) (n : Nat) (hn : n < 256) : ((c.toNat : Int) == (n : Int)) = decide (c = UInt8.ofNat n) := by
  cases h : ((c.toNat : Int) == (n : Int))
  · rw [decide_eq_false (u8_not c n h hn)]
  · rw [decide_eq_true (u8_is c n hn h)]
theorem byte_at (l : Bs) (x : UInt8) : (Lib.byteCells (l ++ [x]))[l.length]? = some (.int .u8 x.toNat) := by simp [Lib.byteCells]

set_option maxHeartbeats 8000000 in
set_option maxRecDepth 100000 in
theorem add_any {B b : Nat} {s : Dc} {vl vb vt : Value} (c : UInt8) {w : World} (h : Dec B b s vl vb vt w) (hz : s.line.length + 1 ≤ 1099511627776) (hL : s.L ≤ 9223372036854775807) :
    Calls Tryz.prog 39 #[ptr b, .int .u8 c.toNat] w fun e w' => e = addE s c ∧ DecTo B b (addD s c) vl vb vt w w' := by
  obtain ⟨i0, hi, hz0, hz1, hz2⟩ := info_parts byteInf
  obtain ⟨a, cap, rfl⟩ : ∃ a cap, vl = .slice a s.line.length cap := by
    rcases h.line.2 with ⟨hv, h0⟩ | ⟨g, cap, cur, hv, _⟩
    · exact ⟨none, 0, by rw [hv, h0]⟩
    · exact ⟨_, _, hv⟩
  obtain ⟨N, hN⟩ : ∃ N, N = s.line.length := ⟨_, rfl⟩
  rw [← hN] at h hz ⊢
  have HN := Lib.hid hN
  have c7 : w.cell? ⟨b, 7, none⟩ = some (.slice a N cap) := h.cell 7 _ rfl
  have H := Lib.hid h
  have e0 : ∀ r : Bool, cr s.line = r → ∀ t : Bool, decide (c = 10) = t → addE s c = if r = t then (if r then .returned (.bool true) else if s.L ≤ N + 1 then .panicked (flawP 400) else .returned (.bool false)) else .panicked (flawP 400) := by
    intro r hr t ht
    unfold addE addK
    rw [hr, ht, ← hN]
    by_cases hl : s.L ≤ N + 1 <;> cases r <;> cases t <;> simp [hl]
  have E0 := Lib.hid e0
  have hsh : (N = 0 ∧ cr s.line = false) ∨ ∃ (x : UInt8) (g : Nat), 0 < N ∧ a = some ⟨g, 0, none⟩ ∧ w.cell? ⟨g, N - 1, none⟩ = some (.int .u8 x.toNat) ∧ cr s.line = decide (x = 13) := by
    rcases List.eq_nil_or_concat s.line with e | ⟨p, x, e⟩
    · exact .inl ⟨by rw [hN, e]; rfl, by rw [e]; rfl⟩
    · right
      rw [List.concat_eq_append] at e
      rcases h.line.2 with ⟨hv, h0⟩ | ⟨g, cap', cur, hv, _⟩
      · rw [e] at h0; simp at h0
      · injection hv with e1 e2 e3
        refine ⟨x, g, by rw [hN, e]; simp, e1, ?_, by rw [e, cr_snoc]⟩
        have := h.line.cells (g := g) (by rw [e1]; rfl) p.length (.int .u8 x.toNat) (by rw [e]; exact byte_at p x)
        rw [Go.WideShapes.add_plain, Nat.zero_add] at this
        rw [show N - 1 = p.length by rw [hN, e]; simp]
        exact this
  clear h e0 hN
  have hct := u8_dec c 10 (by decide)
  rcases hsh with ⟨rfl, hr⟩ | ⟨x, g, hn, rfl, hx, hr⟩
  · have hd0 : decide ((0 : Int) < ((0 : Nat) : Int)) = false := by decide
    have hd1 : ¬ (0 : Int) < ((0 : Nat) : Int) := by decide
    cases hc10 : ((c.toNat : Int) == 10)
    · have HE := Lib.hid (E0.out _ hr _ (hct.symm.trans hc10))
      clear hr E0 hct
      unfold ptr
      go_enter Tryz.func39, Tryz.ntmps39
      go_wp2_with fail
      go_quiet (fail)
      have H1 := Lib.hid (H.out.draws nq)
      have T1 := Lib.hid (Turn.draws b (.slice a 0 cap) vb vt w nq)
      have hw0 : Below (w.drewN nq).heap.size (w.drewN nq) ((w.drewN nq).alloc (.cells #[.int .u8 c.toNat] 5)) := (Below.refl _ _).alloc (Nat.le_refl _) _
      have H0 := Lib.hid (H1.out.below hw0)
      have T0 := Lib.hid (T1.out.trans (Turn.of hw0))
      have hBs : B ≤ ((w.drewN nq).alloc (.cells #[.int .u8 c.toNat] 5)).heap.size := by have := H0.out.hB; have := H0.out.lt; omega
      have hnew : ((w.drewN nq).alloc (.cells #[.int .u8 c.toNat] 5)).cell? ⟨(w.drewN nq).heap.size, 0, none⟩ = some (.int .u8 c.toNat) := by rw [Lib.cell_of_heap (heap_alloc_last _ _)]; rfl
      have d7 := H1.out.cell 7 _ rfl
      clear c7 hw0 hd0 hd1
      generalize w.drewN nq = w1 at *
      have HO := Lib.hid (show (w1.alloc (.cells #[.int .u8 c.toNat] 5)).ownsRow B 5 1 (.slice a 0 cap) 0 (Lib.byteCells s.line) by rw [show 0 = s.line.length from HN.out]; have := H0.out.line; rw [show 0 = s.line.length from HN.out] at this; exact this)
      go_wp2_with (at_builtin; refine append_stay (by rfl) _ _ 43 rfl B 5 i0 (.int .u8 0) 1 1 Tryz.underlying43 hi hz0 hz1 hz2 rfl (by decide) _ _ _ rfl HO.out ⟨w1.heap.size, 0, none⟩ 1 1 [.int .u8 c.toNat] rfl rfl ?c1 ?c2 ?c3 ?c4 hBs ?_)
      case c1 =>
        intro j u hj
        match j, hj with
        | 0, hj => simp at hj; subst hj; exact hnew
      case c2 => intro u hu; simp at hu; subst hu; rfl
      case c3 => unfold maxLen; omega
      case c4 => omega
      intro v' w2 ho hg hst
      obtain ⟨g2, cap2, rfl⟩ : ∃ g cap, v' = .slice (some ⟨g, 0, none⟩) (0 + 1) cap := by
        rcases ho.2 with ⟨_, h0⟩ | ⟨g, cap, cur, hv, _⟩
        · omega
        · exact ⟨g, cap, hv⟩
      obtain ⟨hd, ht⟩ := H0.out.putLine c (show w2.ownsRow B 5 1 (.slice (some ⟨g2, 0, none⟩) (0 + 1) cap2) (s.line.length + 1) (Lib.byteCells s.line ++ [.int .u8 c.toNat]) by rw [← show 0 = s.line.length from HN.out]; exact ho) hg hst
      have hk2 : w2.heap[b]? = some (.cells (dcells b s (.slice a 0 cap) vb vt) 64 (0, 0)) := (hg.block b H0.out.lt (fun e => own_ne H0.out.line H0.out.blk (by decide) e.symm)).trans H0.out.blk
      have k7 : w2.cell? ⟨b, 7, none⟩ = some (.slice a 0 cap) := by rw [Lib.cell_of_heap hk2]; rfl
      have f7 : w2.frozen? ⟨b, 7, none⟩ = false := Lib.frozen_of_heap hk2 7
      have z7 : (w2.setCell ⟨b, 7, none⟩ (.slice (some ⟨g2, 0, none⟩) (0 + 1) cap2)).cell? ⟨b, 7, none⟩ = some (.slice (some ⟨g2, 0, none⟩) (0 + 1) cap2) := hd.cell 7 _ rfl
      have z1 : (w2.setCell ⟨b, 7, none⟩ (.slice (some ⟨g2, 0, none⟩) (0 + 1) cap2)).cell? ⟨b, 1, none⟩ = some (.int .i64 s.L) := hd.cell 1 _ rfl
      have k1 : w2.cell? ⟨b, 1, none⟩ = some (.int .i64 s.L) := by rw [Lib.cell_of_heap hk2]; rfl
      have HR := Lib.hid (show DecTo B b (addD s c) (.slice a 0 cap) vb vt w _ from ⟨_, _, _, hd, T0.out.trans ht⟩)
      clear hd ht ho hg hst hk2 hnew d7 T1 T0 H0 H1
      have hnr : decide ((!false) = true) = true := rfl
      have EL : addE s c = if s.L ≤ 0 + 1 then Ending.panicked (flawP 400) else Ending.returned (.bool false) := HE.out
      by_cases hl : s.L ≤ 0 + 1
      · rw [if_pos hl] at EL
        have HE2 := Lib.hid EL
        have hl2 : (s.L : Int) ≤ (0 : Nat) + 1 := by omega
        clear EL hl
        go_wp2_with fail
        go_quiet (fail)
        go_wp2_with fail
        obtain ⟨v1, v2, v3, hd, ht⟩ := HR.out
        exact ⟨rfl, by rw [HE2.out]; rfl, v1, v2, v3, hd.draws _, ht.trans (Turn.draws _ _ _ _ _ _)⟩
      · rw [if_neg hl] at EL
        have HE2 := Lib.hid EL
        have hl2 : ¬ (s.L : Int) ≤ (0 : Nat) + 1 := by omega
        clear EL hl
        go_wp2_with fail
        go_quiet (fail)
        go_wp2_with fail
        go_ret
        obtain ⟨v1, v2, v3, hd, ht⟩ := HR.out
        exact ⟨by rw [HE2.out]; rfl, v1, v2, v3, hd.draws _, ht.trans (Turn.draws _ _ _ _ _ _)⟩
    · have HE := Lib.hid (E0.out _ hr _ (hct.symm.trans hc10))
      clear hr E0 hct
      unfold ptr
      go_enter Tryz.func39, Tryz.ntmps39
      go_wp2_with fail
      go_quiet (fail)
      have H1 := Lib.hid (H.out.draws nq)
      have T1 := Lib.hid (Turn.draws b (.slice a 0 cap) vb vt w nq)
      have hw0 : Below (w.drewN nq).heap.size (w.drewN nq) ((w.drewN nq).alloc (.cells #[.int .u8 c.toNat] 5)) := (Below.refl _ _).alloc (Nat.le_refl _) _
      have H0 := Lib.hid (H1.out.below hw0)
      have T0 := Lib.hid (T1.out.trans (Turn.of hw0))
      have hBs : B ≤ ((w.drewN nq).alloc (.cells #[.int .u8 c.toNat] 5)).heap.size := by have := H0.out.hB; have := H0.out.lt; omega
      have hnew : ((w.drewN nq).alloc (.cells #[.int .u8 c.toNat] 5)).cell? ⟨(w.drewN nq).heap.size, 0, none⟩ = some (.int .u8 c.toNat) := by rw [Lib.cell_of_heap (heap_alloc_last _ _)]; rfl
      have d7 := H1.out.cell 7 _ rfl
      clear c7 hw0 hd0 hd1
      generalize w.drewN nq = w1 at *
      have HO := Lib.hid (show (w1.alloc (.cells #[.int .u8 c.toNat] 5)).ownsRow B 5 1 (.slice a 0 cap) 0 (Lib.byteCells s.line) by rw [show 0 = s.line.length from HN.out]; have := H0.out.line; rw [show 0 = s.line.length from HN.out] at this; exact this)
      go_wp2_with (at_builtin; refine append_stay (by rfl) _ _ 43 rfl B 5 i0 (.int .u8 0) 1 1 Tryz.underlying43 hi hz0 hz1 hz2 rfl (by decide) _ _ _ rfl HO.out ⟨w1.heap.size, 0, none⟩ 1 1 [.int .u8 c.toNat] rfl rfl ?c1 ?c2 ?c3 ?c4 hBs ?_)
      case c1 =>
        intro j u hj
        match j, hj with
        | 0, hj => simp at hj; subst hj; exact hnew
      case c2 => intro u hu; simp at hu; subst hu; rfl
      case c3 => unfold maxLen; omega
      case c4 => omega
      intro v' w2 ho hg hst
      obtain ⟨g2, cap2, rfl⟩ : ∃ g cap, v' = .slice (some ⟨g, 0, none⟩) (0 + 1) cap := by
        rcases ho.2 with ⟨_, h0⟩ | ⟨g, cap, cur, hv, _⟩
        · omega
        · exact ⟨g, cap, hv⟩
      obtain ⟨hd, ht⟩ := H0.out.putLine c (show w2.ownsRow B 5 1 (.slice (some ⟨g2, 0, none⟩) (0 + 1) cap2) (s.line.length + 1) (Lib.byteCells s.line ++ [.int .u8 c.toNat]) by rw [← show 0 = s.line.length from HN.out]; exact ho) hg hst
      have hk2 : w2.heap[b]? = some (.cells (dcells b s (.slice a 0 cap) vb vt) 64 (0, 0)) := (hg.block b H0.out.lt (fun e => own_ne H0.out.line H0.out.blk (by decide) e.symm)).trans H0.out.blk
      have k7 : w2.cell? ⟨b, 7, none⟩ = some (.slice a 0 cap) := by rw [Lib.cell_of_heap hk2]; rfl
      have f7 : w2.frozen? ⟨b, 7, none⟩ = false := Lib.frozen_of_heap hk2 7
      have z7 : (w2.setCell ⟨b, 7, none⟩ (.slice (some ⟨g2, 0, none⟩) (0 + 1) cap2)).cell? ⟨b, 7, none⟩ = some (.slice (some ⟨g2, 0, none⟩) (0 + 1) cap2) := hd.cell 7 _ rfl
      have z1 : (w2.setCell ⟨b, 7, none⟩ (.slice (some ⟨g2, 0, none⟩) (0 + 1) cap2)).cell? ⟨b, 1, none⟩ = some (.int .i64 s.L) := hd.cell 1 _ rfl
      have k1 : w2.cell? ⟨b, 1, none⟩ = some (.int .i64 s.L) := by rw [Lib.cell_of_heap hk2]; rfl
      have HR := Lib.hid (show DecTo B b (addD s c) (.slice a 0 cap) vb vt w _ from ⟨_, _, _, hd, T0.out.trans ht⟩)
      clear hd ht ho hg hst hk2 hnew d7 T1 T0 H0 H1
      go_wp2_with fail
      exact ⟨rfl, by rw [HE.out]; rfl, HR.out⟩
  · obtain ⟨n, rfl⟩ : ∃ n, N = n + 1 := ⟨N - 1, by omega⟩
    have hx : w.cell? ⟨g, n, none⟩ = some (.int .u8 x.toNat) := hx
    have hd0 : decide ((0 : Int) < (n : Int) + 1) = true := decide_eq_true (by omega)
    have hd1 : (0 : Int) < (n : Int) + 1 := by omega
    have hb1 : (0 : Int) ≤ (n : Int) ∧ (n : Int) < (n : Int) + 1 := by omega
    have hb2 : (0 : Int) ≤ (n : Int) := by omega
    have hxt := u8_dec x 13 (by decide)
    cases hc10 : ((c.toNat : Int) == 10)
    · cases h13 : ((x.toNat : Int) == 13)
      · have HE := Lib.hid (E0.out _ (hr.trans (hxt.symm.trans h13)) _ (hct.symm.trans hc10))
        clear hr E0 hct hxt hn
        unfold ptr
        go_enter Tryz.func39, Tryz.ntmps39
        go_wp2_with fail
        go_quiet (fail)
        have H1 := Lib.hid (H.out.draws nq)
        have T1 := Lib.hid (Turn.draws b (.slice (some ⟨g, 0, none⟩) (n + 1) cap) vb vt w nq)
        have hw0 : Below (w.drewN nq).heap.size (w.drewN nq) ((w.drewN nq).alloc (.cells #[.int .u8 c.toNat] 5)) := (Below.refl _ _).alloc (Nat.le_refl _) _
        have H0 := Lib.hid (H1.out.below hw0)
        have T0 := Lib.hid (T1.out.trans (Turn.of hw0))
        have hBs : B ≤ ((w.drewN nq).alloc (.cells #[.int .u8 c.toNat] 5)).heap.size := by have := H0.out.hB; have := H0.out.lt; omega
        have hnew : ((w.drewN nq).alloc (.cells #[.int .u8 c.toNat] 5)).cell? ⟨(w.drewN nq).heap.size, 0, none⟩ = some (.int .u8 c.toNat) := by rw [Lib.cell_of_heap (heap_alloc_last _ _)]; rfl
        have d7 := H1.out.cell 7 _ rfl
        clear c7 hw0 hd0 hd1 hb1 hb2 hx
        generalize w.drewN nq = w1 at *
        have HO := Lib.hid (show (w1.alloc (.cells #[.int .u8 c.toNat] 5)).ownsRow B 5 1 (.slice (some ⟨g, 0, none⟩) (n + 1) cap) (n + 1) (Lib.byteCells s.line) by rw [show (n + 1) = s.line.length from HN.out]; have := H0.out.line; rw [show (n + 1) = s.line.length from HN.out] at this; exact this)
        go_wp2_with (at_builtin; refine append_stay (by rfl) _ _ 43 rfl B 5 i0 (.int .u8 0) 1 1 Tryz.underlying43 hi hz0 hz1 hz2 rfl (by decide) _ _ _ rfl HO.out ⟨w1.heap.size, 0, none⟩ 1 1 [.int .u8 c.toNat] rfl rfl ?c1 ?c2 ?c3 ?c4 hBs ?_)
        case c1 =>
          intro j u hj
          match j, hj with
          | 0, hj => simp at hj; subst hj; exact hnew
        case c2 => intro u hu; simp at hu; subst hu; rfl
        case c3 => unfold maxLen; omega
        case c4 => omega
        intro v' w2 ho hg hst
        obtain ⟨g2, cap2, rfl⟩ : ∃ g cap, v' = .slice (some ⟨g, 0, none⟩) ((n + 1) + 1) cap := by
          rcases ho.2 with ⟨_, h0⟩ | ⟨g, cap, cur, hv, _⟩
          · omega
          · exact ⟨g, cap, hv⟩
        obtain ⟨hd, ht⟩ := H0.out.putLine c (show w2.ownsRow B 5 1 (.slice (some ⟨g2, 0, none⟩) ((n + 1) + 1) cap2) (s.line.length + 1) (Lib.byteCells s.line ++ [.int .u8 c.toNat]) by rw [← show (n + 1) = s.line.length from HN.out]; exact ho) hg hst
        have hk2 : w2.heap[b]? = some (.cells (dcells b s (.slice (some ⟨g, 0, none⟩) (n + 1) cap) vb vt) 64 (0, 0)) := (hg.block b H0.out.lt (fun e => own_ne H0.out.line H0.out.blk (by decide) e.symm)).trans H0.out.blk
        have k7 : w2.cell? ⟨b, 7, none⟩ = some (.slice (some ⟨g, 0, none⟩) (n + 1) cap) := by rw [Lib.cell_of_heap hk2]; rfl
        have f7 : w2.frozen? ⟨b, 7, none⟩ = false := Lib.frozen_of_heap hk2 7
        have z7 : (w2.setCell ⟨b, 7, none⟩ (.slice (some ⟨g2, 0, none⟩) ((n + 1) + 1) cap2)).cell? ⟨b, 7, none⟩ = some (.slice (some ⟨g2, 0, none⟩) ((n + 1) + 1) cap2) := hd.cell 7 _ rfl
        have z1 : (w2.setCell ⟨b, 7, none⟩ (.slice (some ⟨g2, 0, none⟩) ((n + 1) + 1) cap2)).cell? ⟨b, 1, none⟩ = some (.int .i64 s.L) := hd.cell 1 _ rfl
        have k1 : w2.cell? ⟨b, 1, none⟩ = some (.int .i64 s.L) := by rw [Lib.cell_of_heap hk2]; rfl
        have HR := Lib.hid (show DecTo B b (addD s c) (.slice (some ⟨g, 0, none⟩) (n + 1) cap) vb vt w _ from ⟨_, _, _, hd, T0.out.trans ht⟩)
        clear hd ht ho hg hst hk2 hnew d7 T1 T0 H0 H1
        have hnr : decide ((!false) = true) = true := rfl
        have EL : addE s c = if s.L ≤ (n + 1) + 1 then Ending.panicked (flawP 400) else Ending.returned (.bool false) := HE.out
        by_cases hl : s.L ≤ (n + 1) + 1
        · rw [if_pos hl] at EL
          have HE2 := Lib.hid EL
          have hl2 : (s.L : Int) ≤ ((n + 1) : Nat) + 1 := by omega
          clear EL hl
          go_wp2_with fail
          go_quiet (fail)
          go_wp2_with fail
          obtain ⟨v1, v2, v3, hd, ht⟩ := HR.out
          exact ⟨rfl, by rw [HE2.out]; rfl, v1, v2, v3, hd.draws _, ht.trans (Turn.draws _ _ _ _ _ _)⟩
        · rw [if_neg hl] at EL
          have HE2 := Lib.hid EL
          have hl2 : ¬ (s.L : Int) ≤ ((n + 1) : Nat) + 1 := by omega
          clear EL hl
          go_wp2_with fail
          go_quiet (fail)
          go_wp2_with fail
          go_ret
          obtain ⟨v1, v2, v3, hd, ht⟩ := HR.out
          exact ⟨by rw [HE2.out]; rfl, v1, v2, v3, hd.draws _, ht.trans (Turn.draws _ _ _ _ _ _)⟩
      · have HE := Lib.hid (E0.out _ (hr.trans (hxt.symm.trans h13)) _ (hct.symm.trans hc10))
        clear hr E0 hct hxt hn
        unfold ptr
        go_enter Tryz.func39, Tryz.ntmps39
        go_wp2_with fail
        go_quiet (fail)
        have H1 := Lib.hid (H.out.draws nq)
        have T1 := Lib.hid (Turn.draws b (.slice (some ⟨g, 0, none⟩) (n + 1) cap) vb vt w nq)
        have hw0 : Below (w.drewN nq).heap.size (w.drewN nq) ((w.drewN nq).alloc (.cells #[.int .u8 c.toNat] 5)) := (Below.refl _ _).alloc (Nat.le_refl _) _
        have H0 := Lib.hid (H1.out.below hw0)
        have T0 := Lib.hid (T1.out.trans (Turn.of hw0))
        have hBs : B ≤ ((w.drewN nq).alloc (.cells #[.int .u8 c.toNat] 5)).heap.size := by have := H0.out.hB; have := H0.out.lt; omega
        have hnew : ((w.drewN nq).alloc (.cells #[.int .u8 c.toNat] 5)).cell? ⟨(w.drewN nq).heap.size, 0, none⟩ = some (.int .u8 c.toNat) := by rw [Lib.cell_of_heap (heap_alloc_last _ _)]; rfl
        have d7 := H1.out.cell 7 _ rfl
        clear c7 hw0 hd0 hd1 hb1 hb2 hx
        generalize w.drewN nq = w1 at *
        have HO := Lib.hid (show (w1.alloc (.cells #[.int .u8 c.toNat] 5)).ownsRow B 5 1 (.slice (some ⟨g, 0, none⟩) (n + 1) cap) (n + 1) (Lib.byteCells s.line) by rw [show (n + 1) = s.line.length from HN.out]; have := H0.out.line; rw [show (n + 1) = s.line.length from HN.out] at this; exact this)
        go_wp2_with (at_builtin; refine append_stay (by rfl) _ _ 43 rfl B 5 i0 (.int .u8 0) 1 1 Tryz.underlying43 hi hz0 hz1 hz2 rfl (by decide) _ _ _ rfl HO.out ⟨w1.heap.size, 0, none⟩ 1 1 [.int .u8 c.toNat] rfl rfl ?c1 ?c2 ?c3 ?c4 hBs ?_)
        case c1 =>
          intro j u hj
          match j, hj with
          | 0, hj => simp at hj; subst hj; exact hnew
        case c2 => intro u hu; simp at hu; subst hu; rfl
        case c3 => unfold maxLen; omega
        case c4 => omega
        intro v' w2 ho hg hst
        obtain ⟨g2, cap2, rfl⟩ : ∃ g cap, v' = .slice (some ⟨g, 0, none⟩) ((n + 1) + 1) cap := by
          rcases ho.2 with ⟨_, h0⟩ | ⟨g, cap, cur, hv, _⟩
          · omega
          · exact ⟨g, cap, hv⟩
        obtain ⟨hd, ht⟩ := H0.out.putLine c (show w2.ownsRow B 5 1 (.slice (some ⟨g2, 0, none⟩) ((n + 1) + 1) cap2) (s.line.length + 1) (Lib.byteCells s.line ++ [.int .u8 c.toNat]) by rw [← show (n + 1) = s.line.length from HN.out]; exact ho) hg hst
        have hk2 : w2.heap[b]? = some (.cells (dcells b s (.slice (some ⟨g, 0, none⟩) (n + 1) cap) vb vt) 64 (0, 0)) := (hg.block b H0.out.lt (fun e => own_ne H0.out.line H0.out.blk (by decide) e.symm)).trans H0.out.blk
        have k7 : w2.cell? ⟨b, 7, none⟩ = some (.slice (some ⟨g, 0, none⟩) (n + 1) cap) := by rw [Lib.cell_of_heap hk2]; rfl
        have f7 : w2.frozen? ⟨b, 7, none⟩ = false := Lib.frozen_of_heap hk2 7
        have z7 : (w2.setCell ⟨b, 7, none⟩ (.slice (some ⟨g2, 0, none⟩) ((n + 1) + 1) cap2)).cell? ⟨b, 7, none⟩ = some (.slice (some ⟨g2, 0, none⟩) ((n + 1) + 1) cap2) := hd.cell 7 _ rfl
        have z1 : (w2.setCell ⟨b, 7, none⟩ (.slice (some ⟨g2, 0, none⟩) ((n + 1) + 1) cap2)).cell? ⟨b, 1, none⟩ = some (.int .i64 s.L) := hd.cell 1 _ rfl
        have k1 : w2.cell? ⟨b, 1, none⟩ = some (.int .i64 s.L) := by rw [Lib.cell_of_heap hk2]; rfl
        have HR := Lib.hid (show DecTo B b (addD s c) (.slice (some ⟨g, 0, none⟩) (n + 1) cap) vb vt w _ from ⟨_, _, _, hd, T0.out.trans ht⟩)
        clear hd ht ho hg hst hk2 hnew d7 T1 T0 H0 H1
        go_wp2_with fail
        exact ⟨rfl, by rw [HE.out]; rfl, HR.out⟩
    · cases h13 : ((x.toNat : Int) == 13)
      · have HE := Lib.hid (E0.out _ (hr.trans (hxt.symm.trans h13)) _ (hct.symm.trans hc10))
        clear hr E0 hct hxt hn
        unfold ptr
        go_enter Tryz.func39, Tryz.ntmps39
        go_wp2_with fail
        go_quiet (fail)
        have H1 := Lib.hid (H.out.draws nq)
        have T1 := Lib.hid (Turn.draws b (.slice (some ⟨g, 0, none⟩) (n + 1) cap) vb vt w nq)
        have hw0 : Below (w.drewN nq).heap.size (w.drewN nq) ((w.drewN nq).alloc (.cells #[.int .u8 c.toNat] 5)) := (Below.refl _ _).alloc (Nat.le_refl _) _
        have H0 := Lib.hid (H1.out.below hw0)
        have T0 := Lib.hid (T1.out.trans (Turn.of hw0))
        have hBs : B ≤ ((w.drewN nq).alloc (.cells #[.int .u8 c.toNat] 5)).heap.size := by have := H0.out.hB; have := H0.out.lt; omega
        have hnew : ((w.drewN nq).alloc (.cells #[.int .u8 c.toNat] 5)).cell? ⟨(w.drewN nq).heap.size, 0, none⟩ = some (.int .u8 c.toNat) := by rw [Lib.cell_of_heap (heap_alloc_last _ _)]; rfl
        have d7 := H1.out.cell 7 _ rfl
        clear c7 hw0 hd0 hd1 hb1 hb2 hx
        generalize w.drewN nq = w1 at *
        have HO := Lib.hid (show (w1.alloc (.cells #[.int .u8 c.toNat] 5)).ownsRow B 5 1 (.slice (some ⟨g, 0, none⟩) (n + 1) cap) (n + 1) (Lib.byteCells s.line) by rw [show (n + 1) = s.line.length from HN.out]; have := H0.out.line; rw [show (n + 1) = s.line.length from HN.out] at this; exact this)
        go_wp2_with (at_builtin; refine append_stay (by rfl) _ _ 43 rfl B 5 i0 (.int .u8 0) 1 1 Tryz.underlying43 hi hz0 hz1 hz2 rfl (by decide) _ _ _ rfl HO.out ⟨w1.heap.size, 0, none⟩ 1 1 [.int .u8 c.toNat] rfl rfl ?c1 ?c2 ?c3 ?c4 hBs ?_)
        case c1 =>
          intro j u hj
          match j, hj with
          | 0, hj => simp at hj; subst hj; exact hnew
        case c2 => intro u hu; simp at hu; subst hu; rfl
        case c3 => unfold maxLen; omega
        case c4 => omega
        intro v' w2 ho hg hst
        obtain ⟨g2, cap2, rfl⟩ : ∃ g cap, v' = .slice (some ⟨g, 0, none⟩) ((n + 1) + 1) cap := by
          rcases ho.2 with ⟨_, h0⟩ | ⟨g, cap, cur, hv, _⟩
          · omega
          · exact ⟨g, cap, hv⟩
        obtain ⟨hd, ht⟩ := H0.out.putLine c (show w2.ownsRow B 5 1 (.slice (some ⟨g2, 0, none⟩) ((n + 1) + 1) cap2) (s.line.length + 1) (Lib.byteCells s.line ++ [.int .u8 c.toNat]) by rw [← show (n + 1) = s.line.length from HN.out]; exact ho) hg hst
        have hk2 : w2.heap[b]? = some (.cells (dcells b s (.slice (some ⟨g, 0, none⟩) (n + 1) cap) vb vt) 64 (0, 0)) := (hg.block b H0.out.lt (fun e => own_ne H0.out.line H0.out.blk (by decide) e.symm)).trans H0.out.blk
        have k7 : w2.cell? ⟨b, 7, none⟩ = some (.slice (some ⟨g, 0, none⟩) (n + 1) cap) := by rw [Lib.cell_of_heap hk2]; rfl
        have f7 : w2.frozen? ⟨b, 7, none⟩ = false := Lib.frozen_of_heap hk2 7
        have z7 : (w2.setCell ⟨b, 7, none⟩ (.slice (some ⟨g2, 0, none⟩) ((n + 1) + 1) cap2)).cell? ⟨b, 7, none⟩ = some (.slice (some ⟨g2, 0, none⟩) ((n + 1) + 1) cap2) := hd.cell 7 _ rfl
        have z1 : (w2.setCell ⟨b, 7, none⟩ (.slice (some ⟨g2, 0, none⟩) ((n + 1) + 1) cap2)).cell? ⟨b, 1, none⟩ = some (.int .i64 s.L) := hd.cell 1 _ rfl
        have k1 : w2.cell? ⟨b, 1, none⟩ = some (.int .i64 s.L) := by rw [Lib.cell_of_heap hk2]; rfl
        have HR := Lib.hid (show DecTo B b (addD s c) (.slice (some ⟨g, 0, none⟩) (n + 1) cap) vb vt w _ from ⟨_, _, _, hd, T0.out.trans ht⟩)
        clear hd ht ho hg hst hk2 hnew d7 T1 T0 H0 H1
        go_wp2_with fail
        exact ⟨rfl, by rw [HE.out]; rfl, HR.out⟩
      · have HE := Lib.hid (E0.out _ (hr.trans (hxt.symm.trans h13)) _ (hct.symm.trans hc10))
        clear hr E0 hct hxt hn
        unfold ptr
        go_enter Tryz.func39, Tryz.ntmps39
        go_wp2_with fail
        go_quiet (fail)
        have H1 := Lib.hid (H.out.draws nq)
        have T1 := Lib.hid (Turn.draws b (.slice (some ⟨g, 0, none⟩) (n + 1) cap) vb vt w nq)
        have hw0 : Below (w.drewN nq).heap.size (w.drewN nq) ((w.drewN nq).alloc (.cells #[.int .u8 c.toNat] 5)) := (Below.refl _ _).alloc (Nat.le_refl _) _
        have H0 := Lib.hid (H1.out.below hw0)
        have T0 := Lib.hid (T1.out.trans (Turn.of hw0))
        have hBs : B ≤ ((w.drewN nq).alloc (.cells #[.int .u8 c.toNat] 5)).heap.size := by have := H0.out.hB; have := H0.out.lt; omega
        have hnew : ((w.drewN nq).alloc (.cells #[.int .u8 c.toNat] 5)).cell? ⟨(w.drewN nq).heap.size, 0, none⟩ = some (.int .u8 c.toNat) := by rw [Lib.cell_of_heap (heap_alloc_last _ _)]; rfl
        have d7 := H1.out.cell 7 _ rfl
        clear c7 hw0 hd0 hd1 hb1 hb2 hx
        generalize w.drewN nq = w1 at *
        have HO := Lib.hid (show (w1.alloc (.cells #[.int .u8 c.toNat] 5)).ownsRow B 5 1 (.slice (some ⟨g, 0, none⟩) (n + 1) cap) (n + 1) (Lib.byteCells s.line) by rw [show (n + 1) = s.line.length from HN.out]; have := H0.out.line; rw [show (n + 1) = s.line.length from HN.out] at this; exact this)
        go_wp2_with (at_builtin; refine append_stay (by rfl) _ _ 43 rfl B 5 i0 (.int .u8 0) 1 1 Tryz.underlying43 hi hz0 hz1 hz2 rfl (by decide) _ _ _ rfl HO.out ⟨w1.heap.size, 0, none⟩ 1 1 [.int .u8 c.toNat] rfl rfl ?c1 ?c2 ?c3 ?c4 hBs ?_)
        case c1 =>
          intro j u hj
          match j, hj with
          | 0, hj => simp at hj; subst hj; exact hnew
        case c2 => intro u hu; simp at hu; subst hu; rfl
        case c3 => unfold maxLen; omega
        case c4 => omega
        intro v' w2 ho hg hst
        obtain ⟨g2, cap2, rfl⟩ : ∃ g cap, v' = .slice (some ⟨g, 0, none⟩) ((n + 1) + 1) cap := by
          rcases ho.2 with ⟨_, h0⟩ | ⟨g, cap, cur, hv, _⟩
          · omega
          · exact ⟨g, cap, hv⟩
        obtain ⟨hd, ht⟩ := H0.out.putLine c (show w2.ownsRow B 5 1 (.slice (some ⟨g2, 0, none⟩) ((n + 1) + 1) cap2) (s.line.length + 1) (Lib.byteCells s.line ++ [.int .u8 c.toNat]) by rw [← show (n + 1) = s.line.length from HN.out]; exact ho) hg hst
        have hk2 : w2.heap[b]? = some (.cells (dcells b s (.slice (some ⟨g, 0, none⟩) (n + 1) cap) vb vt) 64 (0, 0)) := (hg.block b H0.out.lt (fun e => own_ne H0.out.line H0.out.blk (by decide) e.symm)).trans H0.out.blk
        have k7 : w2.cell? ⟨b, 7, none⟩ = some (.slice (some ⟨g, 0, none⟩) (n + 1) cap) := by rw [Lib.cell_of_heap hk2]; rfl
        have f7 : w2.frozen? ⟨b, 7, none⟩ = false := Lib.frozen_of_heap hk2 7
        have z7 : (w2.setCell ⟨b, 7, none⟩ (.slice (some ⟨g2, 0, none⟩) ((n + 1) + 1) cap2)).cell? ⟨b, 7, none⟩ = some (.slice (some ⟨g2, 0, none⟩) ((n + 1) + 1) cap2) := hd.cell 7 _ rfl
        have z1 : (w2.setCell ⟨b, 7, none⟩ (.slice (some ⟨g2, 0, none⟩) ((n + 1) + 1) cap2)).cell? ⟨b, 1, none⟩ = some (.int .i64 s.L) := hd.cell 1 _ rfl
        have k1 : w2.cell? ⟨b, 1, none⟩ = some (.int .i64 s.L) := by rw [Lib.cell_of_heap hk2]; rfl
        have HR := Lib.hid (show DecTo B b (addD s c) (.slice (some ⟨g, 0, none⟩) (n + 1) cap) vb vt w _ from ⟨_, _, _, hd, T0.out.trans ht⟩)
        clear hd ht ho hg hst hk2 hnew d7 T1 T0 H0 H1
        have hnr : decide ((!true) = true) = false := rfl
        go_wp2_with fail
        go_quiet (fail)
        go_wp2_with fail
        go_ret
        obtain ⟨v1, v2, v3, hd, ht⟩ := HR.out
        exact ⟨by rw [HE.out]; rfl, v1, v2, v3, hd.draws _, ht.trans (Turn.draws _ _ _ _ _ _)⟩
end Tk
end Go.Proofs.YtanilbckakoogaaGreatDoor
