/- Plain facts on guesses: rounding to the nearest float as a function of what is rounded; it does not decrease, and it keeps what is exact. -/
import Derived.Test.YtjhakmobbncbgaaFloat2
namespace Go.Proofs.Ytjhakmobbncbgaa
namespace Fl
open Ieee

/-- 'a / b' to the nearest whole number; between two, the even one -/
def rr (a b : Nat) : Nat := a / b + if b < 2 * (a % b) ∨ (b = 2 * (a % b) ∧ a / b % 2 = 1) then 1 else 0

theorem rr_scale (a b k : Nat) (hk : 0 < k) : rr (a * k) (b * k) = rr a b := by
  unfold rr
  rw [Nat.mul_div_mul_right _ _ hk, Nat.mul_mod_mul_right, ← Nat.mul_assoc]
  have h1 : b * k < 2 * (a % b) * k ↔ b < 2 * (a % b) := Nat.mul_lt_mul_right hk
  have h2 : b * k = 2 * (a % b) * k ↔ b = 2 * (a % b) := Nat.mul_left_inj (Nat.ne_of_gt hk)
  simp only [h1, h2]

theorem rr_low (a b : Nat) : a / b ≤ rr a b := Nat.le_add_right _ _
theorem rr_up (a b : Nat) : rr a b ≤ a / b + 1 := by unfold rr; split <;> omega

theorem rr_mono (a a' b : Nat) (h : a ≤ a') : rr a b ≤ rr a' b := by
  have h1 : a / b ≤ a' / b := Nat.div_le_div_right h
  rcases Nat.lt_or_eq_of_le h1 with h2 | h2
  · have := rr_up a b; have := rr_low a' b; omega
  · have e1 := Nat.div_add_mod a b
    have e2 := Nat.div_add_mod a' b
    have h3 : a % b ≤ a' % b := by rw [h2] at e1; omega
    unfold rr
    rw [h2]
    refine Nat.add_le_add_left ?_ _
    by_cases c1 : b < 2 * (a % b) ∨ (b = 2 * (a % b) ∧ a' / b % 2 = 1)
    · rw [if_pos c1, if_pos (by omega)]; exact Nat.le_refl _
    · rw [if_neg c1]; exact Nat.zero_le _

theorem rr_exact (a b : Nat) (hb : 0 < b) : rr (a * b) b = a := by
  unfold rr
  rw [Nat.mul_mod_left, Nat.mul_div_cancel _ hb, if_neg (by omega), Nat.add_zero]

theorem cut_rr (n drop : Nat) (neg : Bool) : Toward.even.cut neg n drop = rr n (2 ^ drop) := by
  have key : ∀ (g l r : Nat), l + (decide (g < 2 * r) || (g == 2 * r && l % 2 == 1)).toNat = l + if g < 2 * r ∨ (g = 2 * r ∧ l % 2 = 1) then 1 else 0 := by
    intro g l r
    by_cases h1 : g < 2 * r
    · simp [h1]
    · by_cases h2 : g = 2 * r
      · subst h2
        by_cases h3 : l % 2 = 1 <;> simp [h3]
      · simp [h1, h2]
  unfold Toward.cut rr
  simp only []
  rw [key]
  rw [Nat.shiftLeft_eq, Nat.one_mul]
  by_cases h : drop ≤ n.log2 + 2
  · rw [Nat.min_eq_left h]
  · rw [Nat.min_eq_right (by omega)]
    have h1 : n < 2 ^ (n.log2 + 1) := Nat.lt_log2_self
    have h2 : (2 : Nat) ^ (n.log2 + 2) = 2 * 2 ^ (n.log2 + 1) := by rw [Nat.pow_succ 2 (n.log2 + 1), Nat.mul_comm]
    have h3 : 2 ^ (n.log2 + 2) ≤ 2 ^ drop := Nat.pow_le_pow_right (by omega) (by omega)
    rw [Nat.div_eq_of_lt (show n < 2 ^ (n.log2 + 2) by omega), Nat.div_eq_of_lt (show n < 2 ^ drop by omega), Nat.mod_eq_of_lt (show n < 2 ^ (n.log2 + 2) by omega), Nat.mod_eq_of_lt (show n < 2 ^ drop by omega), if_neg (by omega), if_neg (by omega)]

theorem log2_scale (m c : Nat) (h : m ≠ 0) : (m * 2 ^ c).log2 = m.log2 + c := by
  have hne : m * 2 ^ c ≠ 0 := Nat.mul_ne_zero h (Nat.ne_of_gt (Nat.two_pow_pos c))
  refine (Nat.log2_eq_iff hne).2 ⟨?_, ?_⟩
  · rw [Nat.pow_add]; exact Nat.mul_le_mul_right _ (Nat.log2_self_le h)
  · rw [show m.log2 + c + 1 = (m.log2 + 1) + c by omega, Nat.pow_add]; exact Nat.mul_lt_mul_of_pos_right Nat.lt_log2_self (Nat.two_pow_pos _)

/-- the word nearest to 'v' units of 2^-1074 -/
def rnd (v : Nat) : Nat := if v = 0 then 0 else (v.log2 - 52) * 4503599627370496 + rr v (2 ^ (v.log2 - 52))
theorem rnd_zero : rnd 0 = 0 := rfl

theorem rr_top (v : Nat) : rr v (2 ^ (v.log2 - 52)) ≤ 9007199254740992 := by
  have h1 : v < 2 ^ (v.log2 + 1) := Nat.lt_log2_self
  have h2 : 2 ^ (v.log2 + 1) ≤ 2 ^ (53 + (v.log2 - 52)) := Nat.pow_le_pow_right (by omega) (by omega)
  rw [Nat.pow_add 2 53] at h2
  have h4 : (2 : Nat) ^ 53 = 9007199254740992 := by decide
  have h5 : v / 2 ^ (v.log2 - 52) < 9007199254740992 := by
    rw [Nat.div_lt_iff_lt_mul (Nat.two_pow_pos _)]; omega
  have := rr_up v (2 ^ (v.log2 - 52))
  omega
theorem rr_bot (v : Nat) (h0 : v ≠ 0) : v.log2 - 52 = 0 ∨ 4503599627370496 ≤ rr v (2 ^ (v.log2 - 52)) := by
  by_cases h : v.log2 - 52 = 0
  · exact .inl h
  · refine .inr (Nat.le_trans ?_ (rr_low _ _))
    rw [Nat.le_div_iff_mul_le (Nat.two_pow_pos _)]
    have h1 : 2 ^ v.log2 ≤ v := Nat.log2_self_le h0
    have h3 : (2 : Nat) ^ v.log2 = 2 ^ (52 + (v.log2 - 52)) := congrArg (fun x => 2 ^ x) (by omega)
    rw [h3, Nat.pow_add] at h1
    have h4 : (2 : Nat) ^ 52 = 4503599627370496 := by decide
    omega

theorem val_rnd (v : Nat) : val (rnd v) = rr v (2 ^ (v.log2 - 52)) * 2 ^ (v.log2 - 52) := by
  by_cases h0 : v = 0
  · subst h0; rw [rnd_zero]; rw [show (0 : Nat).log2 = 0 by decide]; rfl
  · unfold rnd
    rw [if_neg h0]
    exact val_rung _ _ (rr_top v) (rr_bot v h0)

theorem log2_mono {v v' : Nat} (h : v ≤ v') (h0 : v ≠ 0) : v.log2 ≤ v'.log2 := by
  have h1 : 2 ^ v.log2 ≤ v := Nat.log2_self_le h0
  have h2 : v' < 2 ^ (v'.log2 + 1) := Nat.lt_log2_self
  have := (Nat.pow_lt_pow_iff_right (a := 2) (by decide)).1 (Nat.lt_of_le_of_lt (Nat.le_trans h1 h) h2)
  omega

theorem rnd_mono {v v' : Nat} (h : v ≤ v') : rnd v ≤ rnd v' := by
  by_cases h0 : v = 0
  · subst h0; rw [rnd_zero]; exact Nat.zero_le _
  · have hl := log2_mono h h0
    unfold rnd
    rw [if_neg h0, if_neg (by omega)]
    by_cases he : v.log2 - 52 = v'.log2 - 52
    · rw [he]; exact Nat.add_le_add_left (rr_mono _ _ _ h) _
    · have t := rr_top v
      have b := rr_bot v' (by omega)
      omega

theorem val_exact (k j : Nat) (hk : k < 9007199254740992) : val (rnd (k * 2 ^ j)) = k * 2 ^ j := by
  by_cases h0 : k = 0
  · subst h0; rw [Nat.zero_mul, rnd_zero]; decide
  · rw [val_rnd, log2_scale k j h0]
    have hl : k.log2 ≤ 52 := by
      have h1 : 2 ^ k.log2 ≤ k := Nat.log2_self_le h0
      have h4 : (2 : Nat) ^ 53 = 9007199254740992 := by decide
      have := (Nat.pow_lt_pow_iff_right (a := 2) (by decide)).1 (show 2 ^ k.log2 < 2 ^ 53 by omega)
      omega
    generalize k.log2 = l at hl
    have e : k * 2 ^ j = k * 2 ^ (j - (l + j - 52)) * 2 ^ (l + j - 52) := by rw [Nat.mul_assoc, ← Nat.pow_add]; congr 2; omega
    rw [e, rr_exact _ _ (Nat.two_pow_pos _)]

theorem rnd_lt (v : Nat) (h : v.log2 ≤ 2000) : rnd v < 9218868437227405312 := by
  unfold rnd
  split
  · omega
  · have := rr_top v; omega

/-- THE NEAREST WORD of 'mag * 2 ^ (c - 1074 - K)' is 'rnd' of its value in units of 2^-1074, where that is whole. -/
theorem nearest_rnd (mag c K v : Nat) (hv : mag * 2 ^ c = v * 2 ^ K) (hbig : v.log2 ≤ 2000) : double.nearest false mag (-1074 + (c : Int) - K) = rnd v := by
  have hb : double.binade = 4503599627370496 := by decide
  have hi : double.infRung = 9218868437227405312 := by decide
  have hl : double.leastPlace = -1074 := by decide
  have hf : double.fractionBits = 52 := rfl
  by_cases hm : mag = 0
  · have : v = 0 := by
      rw [hm, Nat.zero_mul] at hv
      rcases Nat.mul_eq_zero.1 hv.symm with h | h
      · exact h
      · exact absurd h (Nat.ne_of_gt (Nat.two_pow_pos _))
    subst this
    rw [rnd_zero]
    unfold Format.nearest Format.word
    rw [if_pos hm, if_neg (by decide)]
  · have hv0 : v ≠ 0 := by
      intro h
      rw [h, Nat.zero_mul] at hv
      rcases Nat.mul_eq_zero.1 hv with h | h
      · exact hm h
      · exact absurd h (Nat.ne_of_gt (Nat.two_pow_pos _))
    have hlog : mag.log2 + c = v.log2 + K := by rw [← log2_scale mag c hm, hv, log2_scale v K hv0]
    unfold Format.nearest Format.word
    simp only [hb, hi, hl, hf, if_neg hm, if_neg (show ¬ (false = true) by decide)]
    have eL : max (-1074 + (c : Int) - K + (mag.log2 : Nat) - (52 : Nat)) (-1074) = -1074 + ((v.log2 - 52 : Nat) : Int) := by omega
    rw [eL]
    have hr := rr_top v
    unfold rnd
    rw [if_neg hv0]
    generalize hL : v.log2 - 52 = L at *
    have e0 : (-1074 + (L : Int) - -1074).toNat = L := by omega
    rw [e0, cut_rr]
    have hlow : ∀ x y : Nat, x = (-1074 + (c : Int) - K - (-1074 + (L : Int))).toNat → y = (-1074 + (L : Int) - (-1074 + (c : Int) - K)).toNat → rr (mag <<< x) (2 ^ y) = rr v (2 ^ L) := by
      intro x y hx hy
      rw [Nat.shiftLeft_eq]
      by_cases h : K + L ≤ c
      · have hx' : x = c - (K + L) := by omega
        have hy' : y = 0 := by omega
        clear hx hy
        subst hx' hy'
        rw [← rr_scale (mag * 2 ^ (c - (K + L))) (2 ^ 0) (2 ^ (K + L)) (Nat.two_pow_pos _), ← rr_scale v (2 ^ L) (2 ^ K) (Nat.two_pow_pos _), ← hv]
        rw [Nat.mul_assoc, ← Nat.pow_add, ← Nat.pow_add, ← Nat.pow_add, Nat.sub_add_cancel h, Nat.zero_add, Nat.add_comm L K]
      · have hx' : x = 0 := by omega
        have hy' : y = K + L - c := by omega
        clear hx hy
        subst hx' hy'
        rw [← rr_scale (mag * 2 ^ 0) (2 ^ (K + L - c)) (2 ^ c) (Nat.two_pow_pos _), ← rr_scale v (2 ^ L) (2 ^ K) (Nat.two_pow_pos _), ← hv]
        rw [Nat.pow_zero, Nat.mul_one, ← Nat.pow_add, ← Nat.pow_add, Nat.sub_add_cancel (by omega), Nat.add_comm L K]
    rw [hlow _ _ rfl rfl]
    exact Nat.min_eq_left (by omega)

/-- a whole number as a float -/
theorem ofNat_rnd (n : Nat) (h : n ≤ 4294967296) : double.nearest false n 0 = rnd (n * one) := by
  have e := oneE_eq
  have h1 := nearest_rnd n oneE 0 (n * one) (by rw [Nat.pow_zero, Nat.mul_one]; rfl) (by
    unfold one
    by_cases h0 : n = 0
    · rw [h0, Nat.zero_mul]; rw [show (0 : Nat).log2 = 0 by decide]; omega
    · rw [log2_scale n _ h0, e]
      have h1 : 2 ^ n.log2 ≤ n := Nat.log2_self_le h0
      have h4 : (2 : Nat) ^ 33 = 8589934592 := by decide
      have := (Nat.pow_lt_pow_iff_right (a := 2) (by decide)).1 (show 2 ^ n.log2 < 2 ^ 33 by omega)
      omega)
  rw [← h1]; congr 1
theorem val_ofNat (n : Nat) (h : n ≤ 4294967296) : val (rnd (n * one)) = n * one := by
  unfold one; exact val_exact n _ (by omega)

theorem log2_prod (n b : Nat) (hn : n ≤ 4294967296) (hb : b ≤ one) : (n * b).log2 ≤ 2000 := by
  by_cases h0 : n * b = 0
  · rw [h0]; rw [show (0 : Nat).log2 = 0 by decide]; omega
  · have e := oneE_eq
    have h1 : 2 ^ (n * b).log2 ≤ n * b := Nat.log2_self_le h0
    have h2 : n * b ≤ 4294967296 * one := Nat.mul_le_mul hn hb
    have h3 : 4294967296 * one = 2 ^ (32 + oneE) := by unfold one; rw [Nat.pow_add]
    have h4 : (2 : Nat) ^ (32 + oneE) < 2 ^ (33 + oneE) := Nat.pow_lt_pow_right (by decide) (by omega)
    have := (Nat.pow_lt_pow_iff_right (a := 2) (by decide)).1 (show 2 ^ (n * b).log2 < 2 ^ (33 + oneE) by omega)
    omega

/-- a whole number times a float from 0 to 1 -/
theorem mul_rnd (n q : Nat) (hn : n ≤ 4294967296) (hq : q ≤ 4607182418800017408) : double.mul (rnd (n * one)) q = some (rnd (n * val q)) := by
  have hle : val q ≤ one := by rw [← val_one]; exact val_le hq
  have hb := log2_prod n one hn (Nat.le_refl _)
  obtain ⟨m1, c1, r1, v1, -, -, -⟩ := read_pos (rnd (n * one)) (rnd_lt _ hb)
  obtain ⟨m2, c2, r2, v2, -, -, -⟩ := read_pos q (by omega)
  rw [val_ofNat n hn] at v1
  unfold Format.mul
  rw [r1, r2]
  simp only [Datum.product, Option.map_some, Bool.false_xor, Format.write]
  have h1 := nearest_rnd (m1 * m2) (c1 + c2) oneE (n * val q) (by
    rw [show m1 * m2 * 2 ^ (c1 + c2) = (m1 * 2 ^ c1) * (m2 * 2 ^ c2) by rw [Nat.pow_add]; ac_rfl, ← v1, ← v2]
    unfold one
    rw [Nat.mul_assoc, Nat.mul_assoc, Nat.mul_comm (val q)]) (log2_prod n _ hn hle)
  rw [← h1]
  have e := oneE_eq
  exact congrArg (fun x => some (double.nearest false (m1 * m2) x)) (by omega)

theorem cut_down (n drop : Nat) : Toward.down.cut false n drop = n / 2 ^ drop := by
  unfold Toward.cut
  simp only [cut_low]
  simp

/-- math.Floor of a finite float without a sign -/
theorem floor_pos (b : Nat) (h : b < 9218868437227405312) (hs : val b / one ≤ 4294967296) : double.write ((double.read b).integral .down) = rnd (val b / one * one) := by
  obtain ⟨m, c, r, v, -, -, -⟩ := read_pos b h
  rw [r]
  simp only [Datum.integral, cut_down, Format.write]
  rw [← ofNat_rnd _ hs]
  congr 1
  rw [Nat.shiftLeft_eq, v]
  by_cases hc : 1074 ≤ c
  · have e1 : (-1074 + (c : Int)).toNat = c - 1074 := by omega
    have e2 : (-(-1074 + (c : Int))).toNat = 0 := by omega
    rw [e1, e2, Nat.pow_zero, Nat.div_one]
    rw [show m * 2 ^ c = m * 2 ^ (c - 1074) * one by unfold one; have e := oneE_eq; rw [Nat.mul_assoc, ← Nat.pow_add]; congr 2; omega, Nat.mul_div_cancel _ one_pos]
  · have e1 : (-1074 + (c : Int)).toNat = 0 := by omega
    have e2 : (-(-1074 + (c : Int))).toNat = 1074 - c := by omega
    rw [e1, e2, Nat.pow_zero, Nat.mul_one]
    rw [one_split c (by omega), Nat.mul_div_mul_right _ _ (Nat.two_pow_pos _)]

/-- THE GUESS for a whole number of seconds and a float from 0 to 1, before it is cut at a day -/
def gs (n q : Nat) : Nat := val (rnd (n * val q)) / one

theorem gs_mono {n n' q q' : Nat} (hn : n ≤ n') (hq : q ≤ q') : gs n q ≤ gs n' q' :=
  Nat.div_le_div_right (val_le (rnd_mono (Nat.mul_le_mul hn (val_le hq))))
theorem gs_one (n : Nat) (hn : n ≤ 4294967296) : gs n 4607182418800017408 = n := by
  unfold gs
  rw [val_one, val_ofNat n hn, Nat.mul_div_cancel _ one_pos]
theorem gs_le (n q : Nat) (hn : n ≤ 4294967296) (hq : q ≤ 4607182418800017408) : gs n q ≤ n := by
  have := gs_mono (Nat.le_refl n) hq
  rw [gs_one n hn] at this
  exact this
theorem gs_zero (q : Nat) : gs 0 q = 0 := by
  unfold gs
  rw [Nat.zero_mul, rnd_zero]; rw [show val 0 = 0 by decide, Nat.zero_div]

/-- the word of 2^-k -/
def hw (k : Nat) : Nat := (1023 - k) * 4503599627370496
theorem val_hw (k : Nat) (h : k ≤ 1000) : val (hw k) = 2 ^ (1074 - k) := by
  unfold hw
  obtain ⟨E, hE⟩ : ∃ E : Nat, E = 1022 - k := ⟨_, rfl⟩
  rw [show (1023 - k) * 4503599627370496 = E * 4503599627370496 + 4503599627370496 by omega, val_rung E 4503599627370496 (by omega) (by omega)]
  rw [show (4503599627370496 : Nat) = 2 ^ 52 by decide, ← Nat.pow_add]
  exact congrArg (fun x => 2 ^ x) (by omega)
theorem gs_half (n k : Nat) (hn : n ≤ 4294967296) (hk : k ≤ 1000) : gs n (hw k) = n / 2 ^ k := by
  unfold gs
  rw [val_hw k hk, val_exact n _ (by omega)]
  rw [one_split (1074 - k) (by omega), Nat.mul_div_mul_right _ _ (Nat.two_pow_pos _)]
  congr 2; omega

/-- the whole of it: a whole number of seconds as a float, times a part, floored, as a whole number again -/
theorem floor_gs (n q : Nat) (hn : n ≤ 4294967296) (hq : q ≤ 4607182418800017408) : double.write ((double.read (rnd (n * val q))).integral .down) = rnd (gs n q * one) := by
  have hle : val q ≤ one := by rw [← val_one]; exact val_le hq
  have h := gs_le n q hn hq
  exact floor_pos _ (rnd_lt _ (log2_prod n _ hn hle)) (by show gs n q ≤ _; omega)
theorem int_gs (n : Nat) (hn : n ≤ 4294967296) : floatToIntVal .f64 (rnd (n * one)) .i64 = some (n : Int) := by
  have h := toInt_val (rnd (n * one)) (rnd_lt _ (log2_prod n one hn (Nat.le_refl _))) (by rw [val_ofNat n hn, Nat.mul_div_cancel _ one_pos]; omega)
  rw [h, val_ofNat n hn, Nat.mul_div_cancel _ one_pos]

/-- above 0 -/
theorem gt_zero (p : Nat) (hp : p < 18446744073709551616) : double.order p 0 = some .gt ↔ 0 < p ∧ p ≤ 9218868437227405312 := by
  have hs : double.signWeight = 9223372036854775808 := by decide
  have hb : double.binade = 4503599627370496 := by decide
  have hi : double.infRung = 9218868437227405312 := by decide
  have hl : double.leastPlace = -1074 := by decide
  have r0 : double.read 0 = .number false 0 (-1074) := by decide +kernel
  by_cases h1 : p < 9218868437227405312
  · rw [order_pos p 0 h1 (by omega)]
    constructor
    · intro h
      rw [Option.some.injEq, Nat.compare_eq_gt] at h
      omega
    · intro h
      rw [Option.some.injEq, Nat.compare_eq_gt]
      omega
  · by_cases h2 : p = 9218868437227405312
    · subst h2
      constructor
      · intro _; omega
      · intro _; decide +kernel
    · constructor
      · intro h
        exfalso
        unfold Format.order at h
        rw [r0] at h
        unfold Format.read at h
        simp only [hs, hb, hi, hl] at h
        by_cases h3 : p < 9223372036854775808
        · have e1 : p % 9223372036854775808 = p := Nat.mod_eq_of_lt h3
          rw [e1, if_neg (by omega), if_neg (by omega), if_neg h2] at h
          simp [Datum.order] at h
        · have e2 : (p / 9223372036854775808 % 2 == 1) = true := by
            rw [show p / 9223372036854775808 = 1 by omega]; rfl
          rw [e2] at h
          generalize p % 9223372036854775808 = r at h
          have hneg : ∀ (m : Nat) (e : Int), Datum.order (.number true m e) (.number false 0 (-1074)) ≠ some .gt := by
            intro m e hc
            simp only [Datum.order, Ieee.signed, Option.some.injEq] at hc
            rw [Int.compare_eq_gt, if_pos trivial, if_neg (show ¬ (false = true) by decide), Nat.zero_shiftLeft] at hc
            have hx : ∀ x : Nat, ¬ (((0 : Nat) : Int) < -(x : Int)) := by intro x; omega
            exact hx _ hc
          by_cases h4 : r < 4503599627370496
          · rw [if_pos h4] at h; exact hneg _ _ h
          · rw [if_neg h4] at h
            by_cases h5 : r < 9218868437227405312
            · rw [if_pos h5] at h; exact hneg _ _ h
            · rw [if_neg h5] at h
              by_cases h6 : r = 9218868437227405312
              · rw [if_pos h6] at h; simp [Datum.order] at h
              · rw [if_neg h6] at h; simp [Datum.order] at h
      · intro h; omega

/-- the order of words above 0 -/
theorem order_up (p q : Nat) (hp : p ≤ 9218868437227405312) (hq : q ≤ 9218868437227405312) : double.order p q = some (compare p q) := by
  have ri : double.read 9218868437227405312 = .infinity false := by decide +kernel
  by_cases h1 : p < 9218868437227405312
  · by_cases h2 : q < 9218868437227405312
    · exact order_pos p q h1 h2
    · have : q = 9218868437227405312 := by omega
      subst this
      obtain ⟨m, c, r, -, -, -, -⟩ := read_pos p h1
      unfold Format.order
      rw [r, ri]
      show some Ordering.lt = _
      rw [Nat.compare_eq_lt.2 h1]
  · have : p = 9218868437227405312 := by omega
    subst this
    by_cases h2 : q < 9218868437227405312
    · obtain ⟨m, c, r, -, -, -, -⟩ := read_pos q h2
      unfold Format.order
      rw [r, ri]
      show some Ordering.gt = _
      rw [Nat.compare_eq_gt.2 h2]
    · have : q = 9218868437227405312 := by omega
      subst this
      unfold Format.order
      rw [ri]
      rw [Nat.compare_eq_eq.2 rfl]
      rfl
end Fl
end Go.Proofs.Ytjhakmobbncbgaa
