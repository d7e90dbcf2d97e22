/- internal/strconv.ftoa64 at a float above 0 and at most 1, the letter f, the least number of digits. -/
import Derived.Test.YtapnlopeipdjmaaGreatDoorFfE
import Derived.StillTailTactics
import Derived.WalkSmall
import Derived.Lib.OwnBridge
namespace Go.Proofs.YtapnlopeipdjmaaGreatDoor
open Go.RowKit Go.Sort Go.Lib
namespace Ff

theorem grown_of_below {a b : World} {r : Option Nat} (h : Below a.heap.size a b) : a.grownBy b r := ⟨h.os, h.tape, h.output, h.size, fun k hk _ => h.block k hk⟩

/-- What the text of a float wants of the library's tables. -/
structure Tabs (w : World) : Prop where
  pows : Pows w
  tens : Lib.TabIs Tryz.prog w "internal/strconv.uint64pow10" .u64 Lib.pow10Tab

theorem gTens : Tryz.prog.globalNamed "internal/strconv.uint64pow10" = some 3 := by kernel_rfl

theorem Pows.later {w w' : World} {B : Nat} (h : Pows w) (hb : Below B w w') (hB : 5 < B) : Pows w' := by
  have c : ∀ o v, w.cell? ⟨5, o, none⟩ = some v → w'.cell? ⟨5, o, none⟩ = some v := fun o v hv => (hb.cell (p := ⟨5, o, none⟩) (by show 5 < B; omega)).trans hv
  exact ⟨Nat.lt_of_lt_of_le h.big hb.size, c _ _ h.h16, c _ _ h.l16, c _ _ h.h17, c _ _ h.l17, c _ _ h.h18, c _ _ h.l18, c _ _ h.h19, c _ _ h.l19⟩
theorem Tabs.later {w w' : World} {B : Nat} (h : Tabs w) (hb : Below B w w') (hB : 5 < B) : Tabs w' :=
  ⟨h.pows.later hb hB, var?_below hb gTens (by omega) h.tens⟩

theorem bcellB {W w1 : World} (hb : Below W.heap.size W w1) : (∀ b o, b < W.heap.size → w1.cell? ⟨b, o, none⟩ = W.cell? ⟨b, o, none⟩) ∧ (∀ b o, b < W.heap.size → w1.frozen? ⟨b, o, none⟩ = W.frozen? ⟨b, o, none⟩) :=
  ⟨fun b o h => hb.cell (p := ⟨b, o, none⟩) h, fun b o h => hb.frozen (p := ⟨b, o, none⟩) h⟩
theorem run_f64bits (b : Nat) (w : World) : (callFunc 63 #[.float .f64 b]).run Tryz.prog w = .ok (.value (.int .u64 b)) w := by kernel_rfl

set_option maxRecDepth 100000 in
set_option maxHeartbeats 1000000 in
theorem ftoa_pos (g base cap q E M0 M d n : Nat) (p : Int) (w : World) (hT : Tabs w) (hg : 5 < g) (hgw : g < w.heap.size)
    (hq : q < 9223372036854775808) (hE : bits BinOp.and IntKind.i64 ((q : Int) / 4503599627370496) 2047 = E) (hM0 : bits BinOp.and IntKind.u64 (q : Int) 4503599627370495 = M0) (hM : bits BinOp.or IntKind.u64 (M0 : Int) 4503599627370496 = M)
    (hE1 : 1 ≤ E) (hE2 : E ≤ 1023) (hM1 : 4503599627370496 ≤ M) (hM2 : M < 9007199254740992)
    (hL : Lib.bitLen M = 53) (m : Nat) (hm : (M : Int) * 2048 = m)
    (hsf : ∀ W, Pows W → Calls Tryz.prog 76 #[.int .u64 m, .int .i64 ((E : Int) - 1086)] W fun r w' => r = .returned (.tuple #[.int .u64 d, .int .i64 p]) ∧ Below W.heap.size W w')
    (hd1 : 1 ≤ d) (hd2 : d < 18446744073709551616) (hn : Lib.nDigits d = n) (hn1 : 1 ≤ n) (hn2 : n ≤ 20) (hp0 : -100 ≤ p) (hp1 : p ≤ 100)
    (nd : Nat) (hnd : nz d n n = nd) (PR : Int) (hPR : max ((nd : Int) - (n + p)) 0 = PR) (text : List UInt8)
    (hfmt : ∀ (b : Nat) (W : World), b ≠ g → b < W.heap.size → (∀ t, t < n → W.cell? ⟨b, t, none⟩ = some (.int .u8 ((dg d (n - 1 - t)).toNat : Int))) → W.ownsRow base 5 1 (.slice (some ⟨g, 0, none⟩) 0 cap) 0 (byteCells []) →
      Calls Tryz.prog 66 #[.slice (some ⟨g, 0, none⟩) 0 cap, .bool false, .slice (some ⟨b, 0, none⟩) 32 32, .int .i64 (n + p), .int .i64 nd, .int .i64 PR, .int .u8 102, .bool true] W (TextPost g base cap text W))
    (hown : w.ownsRow base 5 1 (.slice (some ⟨g, 0, none⟩) 0 cap) 0 (byteCells [])) :
    Calls Tryz.prog 58 #[.slice (some ⟨g, 0, none⟩) 0 cap, .float .f64 q, .int .u8 102, .int .i64 (-1)] w (TextPost g base cap text w) := by
  have n0 : ((q : Int) / 9223372036854775808 != 0) = false := by rw [bne_eq_false_iff_eq]; omega
  have x0 : ((E : Int) == 2047) = false := by rw [beq_eq_false_iff_ne]; omega
  have x1 : ((E : Int) == 0) = false := by rw [beq_eq_false_iff_ne]; omega
  have x2 : ((M : Int) == 0) = false := by rw [beq_eq_false_iff_ne]; omega
  have hf := run_f64bits q
  have HL := Lib.hid hL; have HSF := Lib.hid hsf; have HN := Lib.hid hn; have HT := Lib.hid hT; have HO := Lib.hid hown
  have HND := Lib.hid hnd; have HF := Lib.hid hfmt; have ndle : nd ≤ n := by rw [← hnd]; exact nz_le d n n
  clear hL hsf hn hT hown hnd hfmt
  go_enter Tryz.func58, Tryz.ntmps58
  go_wp2_with fail
  go_quiet (fail)
  go_wp2_with fail
  refine (Tryz.bits_Len64 _ _ (by omega) (by omega)).mono ?_
  rintro e w' ⟨rfl, rfl⟩
  rw [Int.toNat_natCast, HL.out]
  go_wp2_with fail
  rw [show (E : Int) + -1023 - 11 - 52 = (E : Int) - 1086 by omega]
  refine (HSF.out _ (HT.out.pows.later (B := g) ((below_drewN (Below.refl _ _) _).alloc (by have := hgw; simp; omega) _) (by omega))).mono ?_
  rintro e w2 ⟨rfl, hb2⟩
  have B2 := Lib.hid hb2
  obtain ⟨bcell, bfrozen⟩ := bcellB hb2
  have hX : w.heap.size < w2.heap.size := by have := hb2.size; simp at this; omega
  have hT2 : Tabs w2 := (HT.out.later (B := g) (((below_drewN (Below.refl _ _) nq).alloc (by have := hgw; simp; omega) _).trans (hb2.mono (by have := hgw; simp; omega))) (by omega))
  have HT2 := Lib.hid hT2
  have hB2 : Below w.heap.size w w2 := ((below_drewN (Below.refl _ _) nq).alloc (by simp) _).trans (hb2.mono (by simp))
  have HB2 := Lib.hid hB2
  have hcell : ∀ t, t < 32 → w2.cell? ⟨w.heap.size, t, none⟩ = some (.int .u8 0) := fun t ht => by
    rw [bcell _ _ (by simp), show w.heap.size = (w.drewN nq).heap.size from rfl, World.cell?_alloc_new]
    match t, ht with
    | 0, _ | 1, _ | 2, _ | 3, _ | 4, _ | 5, _ | 6, _ | 7, _ | 8, _ | 9, _ | 10, _ | 11, _ | 12, _ | 13, _ | 14, _ | 15, _ | 16, _ | 17, _ | 18, _ | 19, _ | 20, _ | 21, _ | 22, _ | 23, _ | 24, _ | 25, _ | 26, _ | 27, _ | 28, _ | 29, _ | 30, _ | 31, _ => rfl
    | t + 32, h => omega
  have hfroz : ∀ t, w2.frozen? ⟨w.heap.size, t, none⟩ = false := fun t => by
    rw [bfrozen _ _ (by simp)]; exact World.frozen?_alloc_at (w := w.drewN nq) _ _ _ _ rfl
  have HH : Hid (Holds encB w2.drew w.heap.size 0 (Array.replicate n 0)) := by
    intro j hj
    simp only [Array.size_replicate] at hj
    have h1 := hcell j (by omega)
    have e : (Array.replicate n (0 : UInt8))[j]! = 0 := by simp [hj]
    rw [e, Nat.zero_add]
    exact ⟨h1, hfroz j⟩
  have e73 : Calls Tryz.prog 70 #[.int .u64 d] w2.drew fun e w' => e = .returned (.int .i64 n) ∧ w2.drew = w' := by
    have := Tryz.internal_strconv_numDigits d hd1 hd2 w2.drew hT2.tens
    rw [HN.out] at this
    exact this.mono fun _ _ h => ⟨h.1, h.2.symm⟩
  have e72 := setDigits_any w.heap.size d n p (Array.replicate n 0) w2.drew (by simp) HH.out hn1 (by omega) (by rw [← HN.out]; exact Lib.lt_pow_nDigits d) hd2 (by omega) (by omega)
  have H73 := Lib.hid e73
  have H72 := Lib.hid e72
  clear e73 e72 hfroz
  clear hb2 bcell bfrozen hcell hT2 hB2 B2
  generalize hXe : w.heap.size = X at *
  have HXe := Lib.hid hXe
  clear hXe
  go_wp2_with fail
  go_region_with (first | (go_at_call 70; refine H73.out.mono ?_; rintro e w' ⟨rfl, rfl⟩) | (go_at_call 69; refine H72.out.mono ?_; rintro e w' ⟨rfl, hpost⟩))
  have HP := Lib.hid hpost
  clear hpost
  rw [HND.out]
  rename World => W3
  go_wp2_with fail
  obtain ⟨qd, dk, rfl, hs, hdk⟩ := HP.out
  have hB3 : Below X w ((putRow encB w2.drew X 0 dk).drewN qd) := below_putRow (q := qd) (w := w2.drew) (HB2.out.drew) (Nat.le_refl _)
  have hHold := holds_putRow encB w2.drew X 0 (Array.replicate n 0) dk HH.out (by simp [hs])
  have hne : X ≠ g := by omega
  refine (HF.out X _ hne (by show X < (putRow encB w2.drew X 0 dk).heap.size; rw [size_putRow]; exact hX) ?_ ?_).mono ?_
  · intro t ht
    have h1 := (hHold t (by omega)).1
    rw [hdk t ht, Nat.zero_add] at h1
    exact h1
  · refine World.ownsRow.kept HO.out (row := some X) ⟨hB3.os, hB3.tape, hB3.output, hB3.size, fun k hk _ => hB3.block k (by rw [← HXe.out]; exact hk)⟩ (.inr ?_)
    · simp [Value.ownBlock]; omega
  · rintro e w' ⟨rfl, ho, hg'⟩
    go_wp2_with fail
    go_ret
    exact ⟨rfl, ho, grown_trans (grown_of_below (by rw [HXe.out]; exact hB3)) hg'⟩

def Fok (q : Nat) (text : List UInt8) : Prop := ∀ (g base cap : Nat) (w : World), Tabs w → 5 < g → g < w.heap.size → 20 ≤ cap → w.ownsRow base 5 1 (.slice (some ⟨g, 0, none⟩) 0 cap) 0 (byteCells []) →
  Calls Tryz.prog 58 #[.slice (some ⟨g, 0, none⟩) 0 cap, .float .f64 q, .int .u8 102, .int .i64 (-1)] w (TextPost g base cap text w)

set_option maxRecDepth 100000 in
set_option maxHeartbeats 1000000 in
theorem ftoa_zero : Fok 0 [48] := by
  intro g base cap w hT hg hgw hcap hown
  have hf := run_f64bits 0
  have HO := Lib.hid hown
  clear hown hT
  go_enter Tryz.func58, Tryz.ntmps58
  go_wp2_with fail
  go_quiet (fail)
  go_wp2_with fail
  refine (fmt_zero g base cap _ (by omega) (by exact HO.out)).mono ?_
  rintro e w' ⟨rfl, ho, hg'⟩
  go_wp2_with fail
  go_ret
  exact ⟨rfl, ho, grown_trans (grown_of_below (below_drewN (Below.refl _ _) _)) hg'⟩

def StrPost (text : List UInt8) (w : World) (r : Ending) (w' : World) : Prop := r = .returned (.string ⟨text.toArray⟩) ∧ Below w.heap.size w w'

end Ff
end Go.Proofs.YtapnlopeipdjmaaGreatDoor
