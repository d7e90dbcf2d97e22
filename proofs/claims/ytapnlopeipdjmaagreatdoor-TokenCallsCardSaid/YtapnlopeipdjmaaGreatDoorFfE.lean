/- internal/strconv.fmtEFG at the letter f: the text of a number of at most 1. -/
import Derived.Test.YtapnlopeipdjmaaGreatDoorFfD
import Derived.OwnWalk
import Derived.Handy
namespace Go.Proofs.YtapnlopeipdjmaaGreatDoor
open Go.RowKit Go.Sort Go.Lib
namespace Ff

theorem grown_refl (w : World) (r : Option Nat) : w.grownBy w r := ⟨rfl, rfl, rfl, Nat.le_refl _, fun _ _ _ => rfl⟩
theorem grown_trans {a b c : World} {r : Option Nat} (h : a.grownBy b r) (k : b.grownBy c r) : a.grownBy c r :=
  ⟨k.os.trans h.os, k.tape.trans h.tape, k.output.trans h.output, Nat.le_trans h.size k.size, fun i hi hr => (k.block i (Nat.lt_of_lt_of_le hi h.size) hr).trans (h.block i hi hr)⟩
theorem grown_alloc {a b : World} {r : Option Nat} (h : a.grownBy b r) (o : Obj) : a.grownBy (b.alloc o) r := grown_trans h (World.grownBy_alloc b o r)
theorem grown_below {a b : World} {g : Nat} (h : a.grownBy b (some g)) (hg : g ≤ a.heap.size) : Below g a b :=
  ⟨h.os, h.tape, h.output, h.size, fun k hk => h.block k (by omega) (by simp; omega)⟩

theorem byteInfo : (Tryz.prog.info? 5).map (fun i => (i.zero, i.size, i.bytes)) = some (some (.int .u8 0), 1, 1) := by kernel_rfl

/-- one byte appended to a row of the call's own, within its room -/
theorem append1 {ops : Array Oper} {rest : List Oper} {o : Oper} {a : Act} {Q : Exit → Act → World → Prop} {w : World}
    (hgd : o.guard = none) (s x : Operand) (hop : o.op = Op.call { callee := Callee.builtin Builtin.append, args := #[s, x], argTypes := #[41, 41] })
    (base g k cap : Nat) (l : List UInt8) (c : UInt8) (hs : a.eval s = .slice (some ⟨g, 0, none⟩) k cap) (hown : w.ownsRow base 5 1 (.slice (some ⟨g, 0, none⟩) k cap) k (byteCells l))
    (ad : Addr) (hx : a.eval x = .slice (some ad) 1 1) (hc : w.cell? ad = some (.int .u8 (c.toNat : Int))) (b1 : k + 1 ≤ cap)
    (hK : ∀ w', w'.ownsRow base 5 1 (.slice (some ⟨g, 0, none⟩) (k + 1) cap) (k + 1) (byteCells (l ++ [c])) → w.grownBy w' (some g) → wpList Tryz.prog ops Q rest (a.put o.dst (.slice (some ⟨g, 0, none⟩) (k + 1) cap)) w') :
    wpList Tryz.prog ops Q (o :: rest) a w := by
  obtain ⟨i0, hi, hz0, hz1, hz2⟩ := info_parts byteInfo
  refine wpList_append_fits (P := Tryz.prog) w hgd s x 41 hop base 5 i0 1 Tryz.underlying41 hi hz1 g k cap (byteCells l) hs hown ad 1 1 [.int .u8 (c.toNat : Int)] hx rfl ?_ (by simp [Value.oneCell']) b1 ?_
  · intro j u hj
    cases j with
    | zero => simp at hj; subst hj; simpa [Addr.add] using hc
    | succ j => simp at hj
  · intro w' h1 h2
    exact hK w' (by simpa [byteCells] using h1) h2

/-- the same, of the byte that the text names (it lies in a new block of one cell) -/
theorem append1c {ops : Array Oper} {rest : List Oper} {o : Oper} {a : Act} {Q : Exit → Act → World → Prop} {w : World} (w0 : World)
    (hgd : o.guard = none) (s x : Operand) (hop : o.op = Op.call { callee := Callee.builtin Builtin.append, args := #[s, x], argTypes := #[41, 41] })
    (base g k cap : Nat) (l : List UInt8) (n : Int) (hs : a.eval s = .slice (some ⟨g, 0, none⟩) k cap)
    (hx : a.eval x = .slice (some ⟨w.heap.size, 0, none⟩) 1 1) (hown : w.ownsRow base 5 1 (.slice (some ⟨g, 0, none⟩) k cap) k (byteCells l)) (hg : w0.grownBy w (some g)) (h0 : 0 ≤ n) (h1 : n < 256) (b1 : k + 1 ≤ cap)
    (hK : ∀ w', w'.ownsRow base 5 1 (.slice (some ⟨g, 0, none⟩) (k + 1) cap) (k + 1) (byteCells (l ++ [UInt8.ofNat n.toNat])) → w0.grownBy w' (some g) → wpList Tryz.prog ops Q rest (a.put o.dst (.slice (some ⟨g, 0, none⟩) (k + 1) cap)) w') :
    wpList Tryz.prog ops Q (o :: rest) a (w.alloc (.cells #[.int .u8 n] 5)) :=
  append1 hgd s x hop base g k cap l (UInt8.ofNat n.toNat) hs (hown.alloc _) ⟨w.heap.size, 0, none⟩ hx (by
    have : ((UInt8.ofNat n.toNat).toNat : Int) = n := by rw [UInt8.toNat_ofNat']; omega
    rw [this]; simp) b1 fun w' a b => hK w' a (grown_trans hg (grown_trans (World.grownBy_alloc w _ _) b))

theorem take_succ_getD (l : List UInt8) (j : Nat) (h : j < l.length) : l.take (j + 1) = l.take j ++ [l.getD j 0] := by
  rw [List.take_succ_eq_append_getElem h]; simp [List.getD, h]
def TextPost (g : Nat) (base : Nat) (cap : Nat) (l : List UInt8) (w : World) (r : Ending) (w' : World) : Prop :=
  r = .returned (.slice (some ⟨g, 0, none⟩) l.length cap) ∧ w'.ownsRow base 5 1 (.slice (some ⟨g, 0, none⟩) l.length cap) l.length (byteCells l) ∧ w.grownBy w' (some g)

set_option maxRecDepth 100000 in
set_option maxHeartbeats 1000000 in
theorem fmt_zero (g base cap : Nat) (w : World) (hcap : 20 ≤ cap) (hown : w.ownsRow base 5 1 (.slice (some ⟨g, 0, none⟩) 0 cap) 0 (byteCells [])) :
    Calls Tryz.prog 66 #[.slice (some ⟨g, 0, none⟩) 0 cap, .bool false, .slice none 0 0, .int .i64 0, .int .i64 0, .int .i64 (-1), .int .u8 102, .bool true] w (TextPost g base cap [48] w) := by
  go_enter Tryz.func66, Tryz.ntmps66
  have hg0 := grown_refl w (some g)
  go_wp2_with (at_builtin; refine append1c w rfl _ _ rfl base g _ cap _ _ rfl rfl (by assumption) (by assumption) (by omega) (by omega) (by omega) ?_; intro w1 hown1 hg1)
  go_ret
  exact ⟨rfl, hown1, hg1⟩

set_option maxRecDepth 100000 in
set_option maxHeartbeats 1000000 in
theorem fmt_frac (g base cap b z nd : Nat) (l : List UInt8) (w : World) (hcap : 2 + z + nd ≤ cap) (hz : z ≤ 10) (hn1 : 1 ≤ nd) (hn : nd ≤ 32) (hl : l.length = nd) (hbg : b ≠ g) (_hbw : b < w.heap.size)
    (hs : ∀ t, t < nd → w.cell? ⟨b, t, none⟩ = some (.int .u8 ((l.getD t 0).toNat : Int)))
    (hown : w.ownsRow base 5 1 (.slice (some ⟨g, 0, none⟩) 0 cap) 0 (byteCells [])) :
    Calls Tryz.prog 66 #[.slice (some ⟨g, 0, none⟩) 0 cap, .bool false, .slice (some ⟨b, 0, none⟩) 32 32, .int .i64 (-(z : Int)), .int .i64 nd, .int .i64 ((nd : Int) + z), .int .u8 102, .bool true] w (TextPost g base cap (48 :: 46 :: (List.replicate z 48 ++ l)) w) := by
  have AS := Lib.hid hs
  have AL := Lib.hid hl
  have AB := Lib.hid hbg
  clear hs hl hbg
  have e1 : min ((nd : Int) + z) z = z := by omega
  have e2 : -(z : Int) + z = 0 := by omega
  have e3 : (nd : Int) + z - z = nd := by omega
  have e4 : max 0 (nd : Int) = nd := by omega
  have d0 : decide ((z : Int) < 0) = false := by simp
  have hg0 := grown_refl w (some g)
  go_enter Tryz.func66, Tryz.ntmps66
  go_wp2_with (at_builtin; refine append1c w rfl _ _ rfl base g _ cap _ _ rfl rfl (by assumption) (by assumption) (by omega) (by omega) (by omega) ?_; intro w1 hown1 hg1)
  have G2 := Lib.hid hg1
  have OW := Lib.hid hown1
  clear hg1 hown1 hown hg0
  obtain ⟨W2, rfl⟩ : ∃ W : World, W = w1 := ⟨_, rfl⟩
  go_loopw [0, 240] (fun v c wr => ∃ k : Nat, k ≤ z ∧ c = .int .i64 k ∧ v = .slice (some ⟨g, 0, none⟩) (2 + k) cap ∧ Hid (wr.ownsRow base 5 1 (.slice (some ⟨g, 0, none⟩) (2 + k) cap) (2 + k) (byteCells ([48, 46] ++ List.replicate k 48))) ∧ Hid (w.grownBy wr (some g))) (fun _ c _ => z - (RowKit.intOf c).toNat)
  case atStart => exact ⟨0, Nat.zero_le _, rfl, rfl, OW.out, G2.out⟩
  case round =>
    obtain ⟨k, hk, rfl, rfl, H1, H2⟩ := hrel
    rename World => W3
    by_cases hlt : k < z
    · have hown := H1.out
      have hg0 := H2.out
      go_wp2_with (at_builtin; refine append1c w rfl _ _ rfl base g _ cap _ _ rfl rfl (by assumption) (by assumption) (by omega) (by omega) (by omega) ?_; intro w1 hown1 hg1)
      go_roundw
      case rel => exact ⟨k + 1, by omega, by go_num, rfl, by rw [List.replicate_succ']; rw [← List.append_assoc]; exact hown1, hg1⟩
      case measure => simp [RowKit.intOf]; omega
    · obtain rfl : k = z := by omega
      go_wp2_with fail
      clear hk hlt
      go_loopw [0, 247, 30] (fun v c _ wr => ∃ j : Nat, j ≤ nd ∧ c = .int .i64 j ∧ v = .slice (some ⟨g, 0, none⟩) (2 + k + j) cap ∧ Hid (wr.ownsRow base 5 1 (.slice (some ⟨g, 0, none⟩) (2 + k + j) cap) (2 + k + j) (byteCells ([48, 46] ++ List.replicate k 48 ++ l.take j))) ∧ Hid (w.grownBy wr (some g))) (fun _ c _ _ => nd - (RowKit.intOf c).toNat)
      case atStart => exact ⟨0, Nat.zero_le _, rfl, rfl, by show World.ownsRow _ _ _ _ _ _ _; simpa using H1.out, H2.out⟩
      case round =>
        clear H1 H2
        obtain ⟨j, hj, rfl, rfl, H1, H2⟩ := hrel
        rename World => W4
        by_cases hlt : j < nd
        · have hown := H1.out
          have hg0 := H2.out
          have hc : W4.cell? ⟨b, j, none⟩ = some (.int .u8 ((l.getD j 0).toNat : Int)) := hg0.cell (AS.out j hlt) (by simpa using AB.out)
          have hx0 : ((l.getD j 0).toNat : Int) < 256 := by have := (l.getD j 0).toNat_lt; omega
          have hx1 : 0 ≤ ((l.getD j 0).toNat : Int) := by omega
          have hx2 : Hid (UInt8.ofNat (((l.getD j 0).toNat : Int)).toNat = l.getD j 0) := by show _ = _; simp
          generalize ((l.getD j 0).toNat : Int) = X at *
          go_wp2_with (at_builtin; refine append1c w rfl _ _ rfl base g _ cap _ _ rfl rfl (by assumption) (by assumption) (by omega) (by omega) (by omega) ?_; intro w1 hown1 hg1)
          rw [hx2.out] at hown1
          go_roundw
          case rel => exact ⟨j + 1, by omega, by go_num, rfl, by rw [take_succ_getD l j (by rw [AL.out]; exact hlt), ← List.append_assoc]; exact hown1, hg1⟩
          case measure => simp [RowKit.intOf]; omega
        · obtain rfl : j = nd := by omega
          go_wp2_with fail
          clear hj hlt
          go_loop [0, 261] (fun v c => c = .int .i64 0 ∧ v = .slice (some ⟨g, 0, none⟩) (2 + k + j) cap) (fun _ _ => 0)
          case atStart => exact ⟨rfl, rfl⟩
          case round =>
            obtain ⟨rfl, rfl⟩ := hrel
            go_wp2_with fail
            go_ret
            have hlen : (48 :: 46 :: (List.replicate k 48 ++ l) : List UInt8).length = 2 + k + j := by simp [AL.out]; omega
            have hown := H1.out
            rw [List.take_of_length_le (by rw [AL.out]; exact Nat.le_refl _)] at hown
            exact ⟨by rw [hlen]; rfl, by rw [hlen]; exact hown, H2.out⟩

set_option maxRecDepth 100000 in
set_option maxHeartbeats 1000000 in
theorem fmt_one (g base cap b : Nat) (w : World) (hcap : 1 ≤ cap) (hbg : b ≠ g)
    (hs : w.cell? ⟨b, 0, none⟩ = some (.int .u8 49))
    (hown : w.ownsRow base 5 1 (.slice (some ⟨g, 0, none⟩) 0 cap) 0 (byteCells [])) :
    Calls Tryz.prog 66 #[.slice (some ⟨g, 0, none⟩) 0 cap, .bool false, .slice (some ⟨b, 0, none⟩) 32 32, .int .i64 1, .int .i64 1, .int .i64 0, .int .u8 102, .bool true] w (TextPost g base cap [49] w) := by
  have AB := Lib.hid hbg
  have OW := Lib.hid hown
  have AS := Lib.hid hs
  clear hbg hown hs
  have G0 := Lib.hid (grown_refl w (some g))
  go_enter Tryz.func66, Tryz.ntmps66
  go_wp2_with fail
  go_loopw [0, 191, 25] (fun v c _ wr => ∃ j : Nat, j ≤ 1 ∧ c = .int .i64 j ∧ v = .slice (some ⟨g, 0, none⟩) j cap ∧ Hid (wr.ownsRow base 5 1 (.slice (some ⟨g, 0, none⟩) j cap) j (byteCells (List.replicate j 49))) ∧ Hid (w.grownBy wr (some g))) (fun _ c _ _ => 1 - (RowKit.intOf c).toNat)
  case atStart => exact ⟨0, Nat.zero_le _, rfl, rfl, OW.out, G0.out⟩
  case round =>
    obtain ⟨j, hj, rfl, rfl, H1, H2⟩ := hrel
    rename World => W4
    have h01 : j = 0 ∨ j = 1 := by omega
    rcases h01 with rfl | rfl
    · have hown := H1.out
      have hg0 := H2.out
      have hc : W4.cell? ⟨b, 0, none⟩ = some (.int .u8 49) := hg0.cell AS.out (by simpa using AB.out)
      go_wp2_with (at_builtin; refine append1c w rfl _ _ rfl base g _ cap _ _ rfl rfl (by assumption) (by assumption) (by omega) (by omega) (by omega) ?_; intro w1 hown1 hg1)
      go_roundw
      case rel => exact ⟨1, by omega, rfl, rfl, hown1, hg1⟩
      case measure => simp [RowKit.intOf]
    · go_wp2_with fail
      go_loop [0, 203] (fun v c => c = .int .i64 0 ∧ v = .slice (some ⟨g, 0, none⟩) 1 cap) (fun _ _ => 0)
      case atStart => exact ⟨rfl, rfl⟩
      case round =>
        obtain ⟨rfl, rfl⟩ := hrel
        go_wp2_with fail
        go_ret
        exact ⟨rfl, H1.out, H2.out⟩
end Ff
end Go.Proofs.YtapnlopeipdjmaaGreatDoor
