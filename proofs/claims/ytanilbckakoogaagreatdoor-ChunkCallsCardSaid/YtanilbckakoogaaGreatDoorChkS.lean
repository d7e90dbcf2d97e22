/- chunk.Size: a number by sixteen is parsed; value characters. -/
import Derived.Test.YtanilbckakoogaaGreatDoorChkP
import Derived.Test.YtanilbckakoogaaGreatDoorFldA
import Derived.Lib.ConvBytes
import Derived.Lib.AtoiErrMem
import Derived.Laws.Strings3
namespace Go.Proofs.YtanilbckakoogaaGreatDoor
open Go.RowKit
namespace Tk

theorem low_cases : ∀ n, n < 256 → (48 ≤ n ∧ n ≤ 57) ∨ (¬ (48 ≤ n ∧ n ≤ 57) ∧ ((97 ≤ n ∧ n ≤ 102 ∧ n ||| 32 = n) ∨ (¬ (97 ≤ n ∧ n ≤ 102) ∧ 65 ≤ n ∧ n ≤ 70 ∧ n ||| 32 = n + 32) ∨
    (¬ (97 ≤ n ∧ n ≤ 102) ∧ ¬ (65 ≤ n ∧ n ≤ 70) ∧ ((103 ≤ n ||| 32 ∧ n ||| 32 ≤ 122) ∨ n ||| 32 < 97 ∨ 122 < n ||| 32)))) := by decide +kernel
theorem bits_low : ∀ n : Nat, n < 256 → bits .or .u8 (n : Int) 32 = ((n ||| 32 : Nat) : Int) := by decide +kernel
theorem low_lt : ∀ n : Nat, n < 256 → n ||| 32 < 256 := by decide +kernel

def pu16 (l : Bs) : Value := match hexN l with
  | some n => .tuple #[.int .u64 n, .nilIface]
  | none => .tuple #[.int .u64 0, .iface 81 (.int .i64 2)]

set_option maxHeartbeats 4000000 in
set_option maxRecDepth 100000 in
theorem pu16_any (t : ByteArray) (w : World) (hz : t.size ≤ 16) :
    Calls Tryz.prog 35 #[.string t, .int .i64 16, .int .i64 64] w fun e w' => e = .returned (pu16 (bs t)) ∧ Below w.heap.size w w' := by
  by_cases h0 : t.size = 0
  · have hb : bs t = [] := List.eq_nil_of_length_eq_zero (by rw [length_bs]; exact h0)
    have he : t.toList.isEmpty = true := empty_of t h0
    have HP := Lib.hid (show pu16 (bs t) = .tuple #[.int .u64 0, .iface 81 (.int .i64 2)] by rw [hb]; rfl)
    clear hb h0
    go_enter Tryz.func35, Tryz.ntmps35
    go_wp2
    go_ret2
    exact ⟨by rw [HP.out]; rfl, Below.refl _ _⟩
  · have he : t.toList.isEmpty = false := not_empty_of t (by omega)
    have hN : hexN (bs t) = hexGo 0 (bs t) := by
      unfold hexN
      rw [if_neg (fun e => h0 (by rw [← length_bs, e]; rfl))]
    have hcv := Lib.run_convert_string_bytes (P := Tryz.prog) w 9 43 5 t (u := .string) Tryz.underlying9 Tryz.underlying43 Tryz.underlying5
    have hB : ∀ j, j < t.size → (Lib.bytesWorld w 5 t).cell? ⟨w.heap.size, j, none⟩ = some (.int .u8 (t.data.toList.getD j 0).toNat) := fun j hj => Lib.bytesWorld_cell w 5 t j hj
    have HB := Lib.hid (Lib.bytesWorld_below w 5 t)
    obtain ⟨W1, hW1⟩ : ∃ W1, W1 = Lib.bytesWorld w 5 t := ⟨_, rfl⟩
    rw [← hW1] at hcv hB HB
    clear hW1
    have HN := Lib.hid hN
    have HL := Lib.hid (length_bs t)
    have HC := Lib.hid (show ∀ j, j < t.size → W1.cell? ⟨w.heap.size, j, none⟩ = some (.int .u8 (((bs t).getD j 0).toNat : Int)) from hB)
    have hmv : IntKind.u64.wrap (IntKind.u64.wrap 18446744073709551616 - 1) = 18446744073709551615 := by
      rw [IntKind.wrap_u64, IntKind.wrap_u64]; decide
    clear hN hB h0
    generalize bs t = l at *
    go_enter Tryz.func35, Tryz.ntmps35
    go_wp2
    go_loop [12, 13, 101] (fun vu vn vi => ∃ (k acc : Nat) (a : Int), vu = .bool false ∧ vn = .int .u64 a ∧ vi = .int .i64 k ∧ k ≤ t.size ∧ Hid (a = (acc : Int) ∧ acc < 16 ^ k ∧ hexN l = hexGo acc (l.drop k)))
      (fun _ _ vi => t.size - (RowKit.intOf vi).toNat)
    case atStart => exact ⟨0, 0, 0, rfl, rfl, rfl, by omega, rfl, by decide, HN.out⟩
    case round =>
      obtain ⟨k, acc, a, rfl, rfl, rfl, hk, hh⟩ := hrel
      obtain ⟨ha, hacc, hd⟩ := hh.out
      clear hh
      by_cases hkn : k < t.size
      · have hc := HC.out k hkn
        have hdr := drop_cons l k (by rw [HL.out]; exact hkn)
        rw [hdr] at hd
        generalize l.getD k 0 = c at hc hd
        have hc256 : c.toNat < 256 := c.toNat_lt
        have hpow : (16 : Nat) ^ k ≤ 16 ^ 15 := Nat.pow_le_pow_right (by decide) (by omega)
        have hps : (16 : Nat) ^ (k + 1) = 16 ^ k * 16 := Nat.pow_succ ..
        have h15 : (16 : Nat) ^ 15 = 1152921504606846976 := by decide
        have a0 : 0 ≤ a := by omega
        have a1 : a < 1152921504606846976 := by omega
        have hlb := bits_low c.toNat hc256
        have hlt := low_lt c.toNat hc256
        clear hdr
        have hD : hexD c = if 48 ≤ c.toNat ∧ c.toNat ≤ 57 then some (c.toNat - 48) else if 97 ≤ c.toNat ∧ c.toNat ≤ 102 then some (c.toNat - 87) else if 65 ≤ c.toNat ∧ c.toNat ≤ 70 then some (c.toNat - 55) else none := rfl
        have step : ∀ d : Nat, d < 16 → hexD c = some d → Hid (a * 16 + (d : Int) = ((acc * 16 + d : Nat) : Int) ∧ acc * 16 + d < 16 ^ (k + 1) ∧ hexN l = hexGo (acc * 16 + d) (l.drop (k + 1))) := fun d hd1 hd2 => Lib.hid ⟨by omega, by omega, by rw [hd]; simp only [hexGo, hd2]⟩
        have stop : hexD c = none → Hid (pu16 l = .tuple #[.int .u64 0, .iface 81 (.int .i64 2)]) := fun hn => Lib.hid (by
          unfold pu16; rw [hd]; simp only [hexGo, hn])
        rcases low_cases c.toNat hc256 with ⟨d0, d1⟩ | ⟨hnd, ⟨d0, d1, hor⟩ | ⟨hn1, d0, d1, hor⟩ | ⟨hn1, hn2, hx⟩⟩
        · have HS := step (c.toNat - 48) (by omega) (by rw [hD, if_pos ⟨d0, d1⟩])
          have e1 : ((c.toNat - 48 : Nat) : Int) = (c.toNat : Int) - 48 := by omega
          rw [e1] at HS
          have i0 : (48 : Int) ≤ c.toNat := by omega
          have i1 : (c.toNat : Int) ≤ 57 := by omega
          clear hacc ha hd step stop hD hlb hlt d0 d1 hpow hps h15 e1
          go_wp2
          exact ⟨⟨k + 1, acc * 16 + (c.toNat - 48), a * 16 + ((c.toNat : Int) - 48), rfl, rfl, by go_num, by omega, HS⟩, by simp [RowKit.intOf]; omega⟩
        · have HS := step (c.toNat - 87) (by omega) (by rw [hD, if_neg hnd, if_pos ⟨d0, d1⟩])
          have e1 : ((c.toNat - 87 : Nat) : Int) = (c.toNat : Int) - 97 + 10 := by omega
          rw [e1] at HS
          rw [hor] at hlb
          have i0 : (97 : Int) ≤ c.toNat := by omega
          have i1 : (c.toNat : Int) ≤ 102 := by omega
          clear hacc ha hd step stop hD hlt d0 d1 hpow hps h15 e1 hor hnd
          go_wp2_with (go_at_call 55; refine (Tryz.internal_strconv_lower _ _).mono ?_; rintro e w' ⟨rfl, rfl⟩; rw [hlb])
          exact ⟨⟨k + 1, acc * 16 + (c.toNat - 87), a * 16 + ((c.toNat : Int) - 97 + 10), rfl, rfl, by go_num, by omega, HS⟩, by simp [RowKit.intOf]; omega⟩
        · have HS := step (c.toNat - 55) (by omega) (by rw [hD, if_neg hnd, if_neg hn1, if_pos ⟨d0, d1⟩])
          have e1 : ((c.toNat - 55 : Nat) : Int) = ((c.toNat + 32 : Nat) : Int) - 97 + 10 := by omega
          rw [e1] at HS
          rw [hor] at hlb
          have hm : ∃ m : Nat, m = c.toNat + 32 ∧ 97 ≤ m ∧ m ≤ 102 ∧ ¬ (48 ≤ c.toNat ∧ c.toNat ≤ 57) := ⟨_, rfl, by omega, by omega, hnd⟩
          obtain ⟨m, hm, m0, m1, -⟩ := hm
          rw [← hm] at hlb HS
          have i0 : (57 : Int) < c.toNat := by omega
          have q95 : ((c.toNat : Int) == 95) = false := by rw [beq_eq_false_iff_ne]; omega
          clear hacc ha hd step stop hD hlt hm d0 d1 hpow hps h15 e1 hor hnd hn1
          go_wp2_with (go_at_call 55; refine (Tryz.internal_strconv_lower _ _).mono ?_; rintro e w' ⟨rfl, rfl⟩; rw [hlb])
          exact ⟨⟨k + 1, acc * 16 + (c.toNat - 55), a * 16 + ((m : Int) - 97 + 10), rfl, rfl, by go_num, by omega, HS⟩, by simp [RowKit.intOf]; omega⟩
        · have HS := stop (by rw [hD, if_neg hnd, if_neg hn1, if_neg hn2])
          obtain ⟨m, hm⟩ : ∃ m : Nat, m = c.toNat ||| 32 := ⟨_, rfl⟩
          rw [← hm] at hlb hlt hx
          have hq : ((c.toNat : Int) < 48) ∨ (57 : Int) < c.toNat := by omega
          by_cases h95 : c.toNat = 95
          · rw [h95] at hc
            have hlb9 : bits .or .u8 (95 : Int) 32 = 127 := bits_low 95 (by decide)
            clear hlb
            clear hacc ha hd step stop hD hm hpow hps h15 hnd hn1 hn2 hx hq hlt hc256 h95
            go_wp2_with (go_at_call 55; refine (Tryz.internal_strconv_lower _ _).mono ?_; rintro e w' ⟨rfl, rfl⟩; rw [hlb9])
            go_ret2
            exact ⟨by rw [HS.out]; rfl, HB.out⟩
          have q95 : ((c.toNat : Int) == 95) = false := by rw [beq_eq_false_iff_ne]; omega
          clear hacc ha hd step stop hD hm hpow hps h15 hnd hn1 hn2 h95
          rcases hx with ⟨x0, x1⟩ | x0 | x0 <;> rcases hq with q0 | q0
          all_goals
            go_wp2_with (go_at_call 55; refine (Tryz.internal_strconv_lower _ _).mono ?_; rintro e w' ⟨rfl, rfl⟩; rw [hlb])
            go_ret2
            exact ⟨by rw [HS.out]; rfl, HB.out⟩
      · have hnil : l.drop k = [] := List.drop_eq_nil_of_le (by rw [HL.out]; omega)
        have HP : Hid (pu16 l = .tuple #[.int .u64 (acc : Int), .nilIface]) := Lib.hid (by unfold pu16; rw [hd, hnil]; rfl)
        subst ha
        clear hacc hd hnil
        go_wp2
        go_ret2
        exact ⟨by rw [HP.out]; rfl, HB.out⟩
end Tk
end Go.Proofs.YtanilbckakoogaaGreatDoor
