/- chunk: made, Done; the states behind a size line. -/
import Derived.Test.YtanilbckakoogaaGreatDoorChkD
import Derived.WalkSmall
import Derived.LaidEqlPtr
namespace Go.Proofs.YtanilbckakoogaaGreatDoor
open Go.RowKit
namespace Tk

theorem decInfo : (Tryz.prog.info? 64).map (·.size) = some 12 := by kernel_rfl
def flawP (n : Nat) : List PanicEntry := [{ v := .iface 62 (.int .i64 n), recovered := false }]

set_option maxHeartbeats 1000000 in
set_option maxRecDepth 100000 in
theorem dataCR_any (b : Nat) (c : UInt8) (w : World) :
    Calls Tryz.prog 62 #[ptr b, .int .u8 c.toNat] w fun e w' => e = (if c = 13 then .returned (stV b 3) else .panicked (flawP 400)) ∧ w' = w := by
  have hmf : ∀ (fn : Fn) (first cap : Array Value) (w : World), (Instr.makeFunc fn first cap).run Tryz.prog w = .ok (.func fn first cap) w := fun _ _ _ _ => rfl
  unfold ptr
  cases hc : ((c.toNat : Int) == 13)
  · have hn := u8_not c 13 hc (by decide)
    have HN := Lib.hid hn
    have hc2 : ((c.toNat : Int) != 13) = true := by simp [bne, hc]
    clear hn
    go_enter Tryz.func62, Tryz.ntmps62
    go_wp2
    exact ⟨rfl, rfl, rfl⟩
  · have hn := u8_is c 13 (by decide) hc
    have HN := Lib.hid hn
    have hc2 : ((c.toNat : Int) != 13) = false := by simp [bne, hc]
    clear hn
    go_enter Tryz.func62, Tryz.ntmps62
    go_wp2
    go_ret
    exact ⟨rfl, rfl⟩
set_option maxHeartbeats 1000000 in
set_option maxRecDepth 100000 in
theorem dataLF_any (b : Nat) (c : UInt8) (w : World) :
    Calls Tryz.prog 80 #[ptr b, .int .u8 c.toNat] w fun e w' => e = (if c = 10 then .returned (stV b 0) else .panicked (flawP 400)) ∧ w' = w := by
  have hmf : ∀ (fn : Fn) (first cap : Array Value) (w : World), (Instr.makeFunc fn first cap).run Tryz.prog w = .ok (.func fn first cap) w := fun _ _ _ _ => rfl
  unfold ptr
  cases hc : ((c.toNat : Int) == 10)
  · have hn := u8_not c 10 hc (by decide)
    have HN := Lib.hid hn
    have hc2 : ((c.toNat : Int) != 10) = true := by simp [bne, hc]
    clear hn
    go_enter Tryz.func80, Tryz.ntmps80
    go_wp2
    exact ⟨rfl, rfl, rfl⟩
  · have hn := u8_is c 10 (by decide) hc
    have HN := Lib.hid hn
    have hc2 : ((c.toNat : Int) != 10) = false := by simp [bne, hc]
    clear hn
    go_enter Tryz.func80, Tryz.ntmps80
    go_wp2
    go_ret
    exact ⟨rfl, rfl⟩

set_option maxHeartbeats 1000000 in
set_option maxRecDepth 100000 in
theorem made_any {B b : Nat} {s : Dc} {vl vb vt : Value} {w : World} (h : Dec B b s vl vb vt w) :
    Calls Tryz.prog 27 #[ptr b] w fun e w' => e = .returned (.bool true) ∧ w' = w := by
  obtain ⟨j, hj, _⟩ := Option.map_eq_some_iff.1 decInfo
  have c0 : w.cell? ⟨b, 0, none⟩ = some (.pointer (some ⟨b, 0, none⟩)) := h.cell 0 _ rfl
  have hq := run_eql_ptr_same (P := Tryz.prog) w ⟨b, 0, none⟩ Tryz.underlying31 hj
  clear h
  unfold ptr
  go_enter Tryz.func27, Tryz.ntmps27
  go_wp2
  go_ret
  exact ⟨rfl, rfl⟩
set_option maxHeartbeats 1000000 in
set_option maxRecDepth 100000 in
theorem made_nil (w : World) :
    Calls Tryz.prog 27 #[.pointer none] w fun e w' => e = .returned (.bool false) ∧ w' = w := by
  go_enter Tryz.func27, Tryz.ntmps27
  go_wp2
  go_ret
  exact ⟨rfl, rfl⟩

set_option maxHeartbeats 2000000 in
set_option maxRecDepth 100000 in
theorem data_any {B b : Nat} {s : Dc} {vl vb vt : Value} (c : UInt8) {w : World} (h : Dec B b s vl vb vt w) (hm : s.mode = 1) (hl : 1 ≤ s.left) (hf : s.left ≤ 9007199254740991) (hz : s.body.length + 1 ≤ 1099511627776) :
    Calls Tryz.prog 42 #[ptr b, .int .u8 c.toNat] w fun e w' => e = .returned (stV b (if 1 < s.left then 1 else 2)) ∧ DecTo B b { s with body := s.body ++ [c], left := s.left - 1 } vl vb vt w w' := by
  have hmf : ∀ (fn : Fn) (first cap : Array Value) (w : World), (Instr.makeFunc fn first cap).run Tryz.prog w = .ok (.func fn first cap) w := fun _ _ _ _ => rfl
  obtain ⟨i0, hi, hz0, hz1, hz2⟩ := info_parts byteInf
  have c10 : w.cell? ⟨b, 10, none⟩ = some vb := h.cell 10 _ rfl
  have hw0 : Below w.heap.size w (w.alloc (.cells #[.int .u8 c.toNat] 5)) := (Below.refl _ _).alloc (Nat.le_refl _) _
  have h0 := h.below hw0
  have T0 : Turn b vl vb vt vl vb vt w (w.alloc (.cells #[.int .u8 c.toNat] 5)) := Turn.of hw0
  have hBs : B ≤ (w.alloc (.cells #[.int .u8 c.toNat] 5)).heap.size := by have := h.hB; have := h.lt; simp; omega
  have hnew : (w.alloc (.cells #[.int .u8 c.toNat] 5)).cell? ⟨w.heap.size, 0, none⟩ = some (.int .u8 c.toNat) := by rw [Lib.cell_of_heap (heap_alloc_last w _)]; rfl
  have HT0 := Lib.hid T0
  have H0 := Lib.hid h0
  have HM := Lib.hid hm
  clear h hw0 T0 h0 hm
  unfold ptr
  go_enter Tryz.func42, Tryz.ntmps42
  go_wp2_with (at_builtin; refine append_stay (by rfl) _ _ 43 rfl B 5 i0 (.int .u8 0) 1 1 Tryz.underlying43 hi hz0 hz1 hz2 rfl (by decide) _ _ _ rfl H0.out.body ⟨w.heap.size, 0, none⟩ 1 1 [.int .u8 c.toNat] rfl rfl ?c1 ?c2 ?c3 ?c4 hBs ?_)
  case c1 =>
    intro j u hj
    match j, hj with
    | 0, hj => simp at hj; subst hj; exact hnew
  case c2 => intro u hu; simp at hu; subst hu; rfl
  case c3 => unfold maxLen; omega
  case c4 => omega
  intro v' w2 ho hg hst
  obtain ⟨g, cap, rfl⟩ : ∃ g cap, v' = .slice (some ⟨g, 0, none⟩) (s.body.length + 1) cap := by
    rcases ho.2 with ⟨_, h0⟩ | ⟨g, cap, cur, hv, _⟩
    · omega
    · exact ⟨g, cap, hv⟩
  obtain ⟨hd, ht⟩ := H0.out.putBody c ho hg hst
  have hk2 : w2.heap[b]? = some (.cells (dcells b s vl vb vt) 64 (0, 0)) := (hg.block b H0.out.lt (fun e => own_ne H0.out.body H0.out.blk (by decide) e.symm)).trans H0.out.blk
  have k10 : w2.cell? ⟨b, 10, none⟩ = some vb := by rw [Lib.cell_of_heap hk2]; rfl
  have f10 : w2.frozen? ⟨b, 10, none⟩ = false := Lib.frozen_of_heap hk2 10
  have k8 : w2.cell? ⟨b, 8, none⟩ = some (.int .i64 s.left) := by rw [Lib.cell_of_heap hk2]; rfl
  have f8 : w2.frozen? ⟨b, 8, none⟩ = false := Lib.frozen_of_heap hk2 8
  have k5 : w2.cell? ⟨b, 5, none⟩ = some (stV b 1) := by rw [Lib.cell_of_heap hk2, ← HM.out]; rfl
  have hd3 := hd.set 8 (.int .i64 ((s.left : Int) - 1)) { s with body := s.body ++ [c], left := s.left - 1 } (by show _ = dcells _ _ _ _ _; rw [show (s.left : Int) - 1 = ((s.left - 1 : Nat) : Int) by omega]; rfl) rfl rfl rfl
  have ht3 := (HT0.out.trans ht).trans (Turn.set 8 (.int .i64 ((s.left : Int) - 1)))
  have HR := Lib.hid (show DecTo B b { s with body := s.body ++ [c], left := s.left - 1 } vl vb vt w _ from ⟨_, _, _, hd3, ht3⟩)
  clear hd ht hd3 ht3 ho hg hst hk2 hnew c10
  unfold stV at k5
  by_cases h1 : 1 < s.left
  · have e1 : (0 : Int) < (s.left : Int) - 1 := by omega
    go_wp2
    go_ret
    first | exact ⟨rfl, HR.out⟩ | exact ⟨by rw [if_pos h1]; rfl, HR.out⟩
  · have e1 : ¬ (0 : Int) < (s.left : Int) - 1 := by omega
    go_wp2
    go_ret
    first | exact ⟨rfl, HR.out⟩ | exact ⟨by rw [if_neg h1]; rfl, HR.out⟩
end Tk
end Go.Proofs.YtanilbckakoogaaGreatDoor
