/- strconv.FormatFloat at each thousandth from 0 to 1. -/
import Derived.Test.YtapnlopeipdjmaaGreatDoorFfH
namespace Go.Proofs.YtapnlopeipdjmaaGreatDoor
open Go.RowKit Go.Sort Go.Lib
namespace Ff

theorem bitLen_53 (M : Nat) (h0 : 4503599627370496 ≤ M) (h1 : M < 9007199254740992) : Lib.bitLen M = 53 := by
  rw [Lib.bitLen_shift 52 M (by simpa using h0) (by omega)]
  have : M / 2 ^ 52 = 1 := by
    rw [Nat.div_eq_iff (by decide)]; omega
  rw [this]; decide

theorem shape_row (d n nd : Nat) (t : Nat) (h : t < nd) : (((List.range nd).map fun t => dg d (n - 1 - t)).getD t 0) = dg d (n - 1 - t) := by
  simp [List.getD, h]

set_option maxHeartbeats 1000000 in
theorem fok_core (q E M0 M m S T X0 X1 d n z : Nat) (e P O A0 A1 A2 p : Int) (R : Int × Int) (text text' : List UInt8)
    (c0 : q < 9223372036854775808) (c1 : bits BinOp.and IntKind.i64 ((q : Int) / 4503599627370496) 2047 = E) (c2 : bits BinOp.and IntKind.u64 (q : Int) 4503599627370495 = M0)
    (c3 : bits BinOp.or IntKind.u64 (M0 : Int) 4503599627370496 = M) (hM0 : M0 < 4503599627370496) (hM : M = M0 + 4503599627370496) (hm : m = M * 2048) (he : e = (E : Int) - 1086)
    (c4 : 1 ≤ E) (c5 : E ≤ 1023) (c6 : 986 ≤ E) (hP : P = 16 ∨ P = 17 ∨ P = 18 ∨ P = 19) (hPs : P = sfP m e) (c8 : 0 ≤ -(e + log2Pow10 P + 3)) (hS : S = (-(e + log2Pow10 P + 3)).toNat) (c9 : S < 64) (hT : T = thi P)
    (hX0 : X0 = sfMin m) (hX1 : X1 = m + 1024) (a0 : A0 = uscale X0 T S) (a1 : A1 = uscale X1 T S) (a2 : A2 = uscale m T S)
    (c10 : 4 ≤ A0 ∧ A0 ≤ 4611686018427387904) (c11 : 4 ≤ A1 ∧ A1 ≤ 4611686018427387904) (c12 : 4 ≤ A2 ∧ A2 ≤ 4611686018427387904)
    (hO : O = sfOdd m) (c13 : bits BinOp.and IntKind.i64 ((m : Int) / 2048) 1 = O) (hR : R = sfR A0 A1 A2 O P) (hd : d = R.1.toNat) (hp : p = R.2)
    (c14 : 0 < R.1) (c15 : R.1 < 18446744073709551616) (c16 : -100 ≤ p) (c17 : p ≤ 100) (c18 : 1 ≤ n) (c19 : n ≤ 20) (c20 : 10 ^ (n - 1) ≤ d) (c21 : d < 10 ^ n) (hz : z = nz d n n) (c22 : 1 ≤ z)
    (c23 : if (n : Int) + p = 1 then z = 1 ∧ dg d (n - 1) = 49 else 0 ≤ -((n : Int) + p) ∧ 2 + (-((n : Int) + p)).toNat + z ≤ 12)
    (ht : text' = if (n : Int) + p = 1 then [49] else 48 :: 46 :: (List.replicate (-((n : Int) + p)).toNat 48 ++ (List.range z).map fun t => dg d (n - 1 - t))) (c24 : text' = text) : Fok q text := by
  intro g base cap w hTb hg hgw hcap hown
  have hM1 : 4503599627370496 ≤ M := by omega
  have hM2 : M < 9007199254740992 := by omega
  have hm' : (M : Int) * 2048 = m := by omega
  have hm1 : 9223372036854775808 ≤ m := by omega
  have hm2 : m ≤ 18446744073709549568 := by omega
  have hd' : (d : Int) = R.1 := by omega
  have hn : Lib.nDigits d = n := by
    have := Lib.nDigits_unique (n - 1) d c20 (by rw [show n - 1 + 1 = n by omega]; exact c21)
    omega
  have ho0 : 0 ≤ O := by rw [hO]; unfold sfOdd; omega
  have ho1 : O ≤ 1 := by rw [hO]; unfold sfOdd; omega
  have hSi : -(e + log2Pow10 P + 3) = S := by omega
  have hTl : T < 18446744073709551616 := by rw [hT]; exact thi_lt P
  have hsf : ∀ W, Pows W → Calls Tryz.prog 76 #[.int .u64 m, .int .i64 ((E : Int) - 1086)] W fun r w' => r = .returned (.tuple #[.int .u64 d, .int .i64 p]) ∧ Below W.heap.size W w' := by
    intro W hW
    rw [← he]
    have hpost : Calls Tryz.prog 76 #[.int .u64 m, .int .i64 e] W (SfPost A0 A1 A2 O P W) := by
      by_cases hmm : m = 9223372036854775808
      · have hx : (m : Int) - 512 = X0 := by rw [hX0]; unfold sfMin; rw [if_pos hmm]; omega
        have hq : -(skewed (e + 11)) = P := by rw [hPs]; unfold sfP; rw [if_pos hmm]
        exact sf_A m X0 X1 S T e P O A0 A1 A2 W hW (by rw [beq_iff_eq]; omega) hm1 hm2 (by omega) (by omega) hx (by omega) c13 ho0 ho1 hP
          (fun W' => (skewed_any _ W' (by omega) (by omega)).mono fun _ _ h => ⟨by rw [h.1, ← hq, Int.neg_neg], h.2⟩) hSi c9 hT.symm hTl a0.symm a1.symm a2.symm c10 c11 c12
      · have hx : (m : Int) - 1024 = X0 := by rw [hX0]; unfold sfMin; rw [if_neg hmm]; omega
        have hq : -(log10Pow2 (e + 11)) = P := by rw [hPs]; unfold sfP; rw [if_neg hmm]
        exact sf_B m X0 X1 S T e P O A0 A1 A2 W hW (by rw [beq_eq_false_iff_ne]; omega) hm1 hm2 (by omega) (by omega) hx (by omega) c13 ho0 ho1 hP
          (fun W' => (log10Pow2_any _ W' (by omega) (by omega)).mono fun _ _ h => ⟨by rw [h.1, ← hq, Int.neg_neg], h.2⟩) hSi c9 hT.symm hTl a0.symm a1.symm a2.symm c10 c11 c12
    exact hpost.mono fun _ _ h => ⟨by rw [h.1, hd', hp, hR], h.2⟩
  have key : ∀ (PR : Int), max ((z : Int) - ((n : Int) + p)) 0 = PR → ∀ (b : Nat) (W : World), b ≠ g → b < W.heap.size → (∀ t, t < n → W.cell? ⟨b, t, none⟩ = some (.int .u8 ((dg d (n - 1 - t)).toNat : Int))) → W.ownsRow base 5 1 (.slice (some ⟨g, 0, none⟩) 0 cap) 0 (byteCells []) →
      Calls Tryz.prog 66 #[.slice (some ⟨g, 0, none⟩) 0 cap, .bool false, .slice (some ⟨b, 0, none⟩) 32 32, .int .i64 ((n : Int) + p), .int .i64 z, .int .i64 PR, .int .u8 102, .bool true] W (TextPost g base cap text W) := by
    intro PR hPR b W hb hbW hcell ho
    rw [← c24, ht]
    by_cases h1 : (n : Int) + p = 1
    · rw [if_pos h1]
      rw [if_pos h1] at c23
      obtain ⟨z1, e49⟩ := c23
      subst z1
      rw [h1] at hPR ⊢
      have : PR = 0 := by omega
      subst this
      refine fmt_one g base cap b W (by omega) hb ?_ ho
      have := hcell 0 (by omega)
      rw [Nat.sub_zero, e49] at this
      exact this
    · rw [if_neg h1]
      rw [if_neg h1] at c23
      obtain ⟨e0, e1⟩ := c23
      have hnz : z ≤ n := by rw [hz]; exact nz_le _ _ _
      generalize hzz : (-((n : Int) + p)).toNat = y at *
      have hy : (n : Int) + p = -(y : Int) := by omega
      have hPR' : PR = (z : Int) + y := by omega
      rw [hPR', hy]
      refine fmt_frac g base cap b y z _ W (by omega) (by omega) c22 (by omega) (by simp) hb hbW ?_ ho
      intro t ht'
      rw [shape_row _ _ _ t ht']
      exact hcell t (by omega)
  exact ftoa_pos g base cap q E M0 M d n p w hTb hg hgw c0 c1 c2 c3 c4 c5 hM1 hM2 (bitLen_53 _ hM1 hM2) m hm' hsf (by omega) (by omega) hn c18 c19 c16 c17 z hz.symm _ rfl text (key _ rfl) hown

theorem fok (k : Nat) (h1 : 1 ≤ k) (h2 : k ≤ 1000) : Fok (F k) (ktext k) := by
  have hck := ck_at k h1 h2
  unfold ck at hck
  simp only [Bool.and_eq_true, decide_eq_true_eq, inU, beq_iff_eq, Bool.or_eq_true] at hck
  obtain ⟨⟨⟨⟨⟨⟨⟨⟨⟨⟨⟨⟨⟨⟨⟨⟨⟨⟨⟨⟨⟨⟨⟨⟨c0, c1⟩, c2⟩, c3⟩, c4⟩, c5⟩, c6⟩, c7⟩, c8⟩, c9⟩, c10⟩, c11⟩, c12⟩, c13⟩, c14⟩, c15⟩, c16⟩, c17⟩, c18⟩, c19⟩, c20⟩, c21⟩, c22⟩, c23⟩, c24⟩ := hck
  refine fok_core (F k) (ckE k) (F k % 4503599627370496) (ckM k) (ckm k) (ckS k) (thi (ckP k)) (sfMin (ckm k)) (ckm k + 1024) (ckd k) (ckn k) (ckz k) (cke k) (ckP k) (sfOdd (ckm k)) _ _ _ (ckR k).2 (ckR k) (ktext k) (cktext k)
    c0 c1 c2 c3 (Nat.mod_lt _ (by decide)) rfl rfl rfl c4 c5 c6 ?_ rfl c8 rfl c9 rfl rfl rfl rfl rfl rfl c10 c11 c12 rfl c13 rfl rfl rfl c14 c15 c16 c17 c18 c19 c20 c21 rfl c22 ?_ rfl c24
  · rcases c7 with ((h | h) | h) | h
    · exact .inl h
    · exact .inr (.inl h)
    · exact .inr (.inr (.inl h))
    · exact .inr (.inr (.inr h))
  · split at c23
    · rename_i h; rw [if_pos h]; simpa using c23
    · rename_i h; rw [if_neg h]; simpa using c23

theorem F_zero : F 0 = 0 := by decide +kernel
theorem ktext_zero : ktext 0 = [48] := by decide +kernel
theorem fok_zero : Fok (F 0) (ktext 0) := by rw [F_zero, ktext_zero]; exact ftoa_zero
theorem fok_all (k : Nat) (h : k ≤ 1000) : Fok (F k) (ktext k) := by
  by_cases h0 : k = 0
  · subst h0; exact fok_zero
  · exact fok k (by omega) h
end Ff
end Go.Proofs.YtapnlopeipdjmaaGreatDoor
