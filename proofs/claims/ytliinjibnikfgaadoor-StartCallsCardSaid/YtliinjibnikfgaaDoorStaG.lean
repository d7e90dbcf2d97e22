/- start.RequestLine, start.StatusLine: first lines are written. -/
import Derived.Test.YtliinjibnikfgaaDoorStaF
import Derived.WalkSmall
import Derived.Lib.AppendIntMem
import Derived.Lib.ItoaMem
namespace Go.Proofs.YtliinjibnikfgaaDoor
open Go.RowKit
namespace Tk

theorem dec_dig : ∀ (k u : Nat), u ≤ k → Lib.decDigits u = digL u
  | 0, u, h => by
    rw [Lib.decDigits, digL, dif_pos (by omega), dif_pos (by omega)]
  | k + 1, u, h => by
    by_cases hu : u < 10
    · rw [Lib.decDigits, digL, dif_pos hu, dif_pos hu]
    · rw [Lib.decDigits, digL, dif_neg hu, dif_neg hu, dec_dig k (u / 10) (by omega)]

/-- the table of powers of ten lies as its initialiser lays it -/
structure Tens (w : World) : Prop where
  big : 1 < w.heap.size
  tab : Lib.TabIs Tryd.prog w "internal/strconv.uint64pow10" .u64 Lib.pow10Tab
theorem gTen : Tryd.prog.globalNamed "internal/strconv.uint64pow10" = some 1 := by kernel_rfl
theorem Tens.later {w w' : World} (h : Tens w) (hb : Below w.heap.size w w') : Tens w' :=
  ⟨Nat.lt_of_lt_of_le h.big hb.size, var?_below hb gTen h.big h.tab⟩

theorem itoa_any (n : Nat) (w : World) (hT : Tens w) (hn : n ≤ 9223372036854775807) :
    Calls Tryd.prog 60 #[.int .i64 (n : Int)] w fun e w' => e = .returned (.string (mkS (digL n))) ∧ Below w.heap.size w w' :=
  (Tryd.strconv_Itoa (n : Int) (by omega) (by omega) w hT.tab).mono fun _ _ ⟨h1, k, os, h2⟩ => ⟨by rw [h1, Lib.itoa_nonneg, dec_dig n n (Nat.le_refl _)]; rfl, h2 ▸ Lib.below_grow _ _ (Nat.le_refl _) _ _⟩

theorem vText_eq (m : Nat) (h : m = 0 ∨ m = 1) : (⟨#[72, 84, 84, 80, 47, 49, 46]⟩ : ByteArray) ++ mkS (digL m) = mkS (vText m) := by
  rw [show (⟨#[72, 84, 84, 80, 47, 49, 46]⟩ : ByteArray) = mkS [72, 84, 84, 80, 47, 49, 46] from rfl, mkS_append, digL_small m (by omega)]
  rfl

set_option maxHeartbeats 1000000 in
theorem versionText_any (m : Nat) (w : World) (h : m = 0 ∨ m = 1) :
    Calls Tryd.prog 59 #[.int .i64 (m : Int)] w fun e w' => e = .returned (.string (mkS (vText m))) ∧ w = w' := by
  have hI := Tryd.strconv_Itoa_small m (by omega) w
  rw [dec_dig m m (Nat.le_refl _)] at hI
  have hI2 : Calls Tryd.prog 60 #[.int .i64 (m : Int)] w fun e w' => e = .returned (.string (mkS (digL m))) ∧ w' = w := hI
  have HE := Lib.hid (vText_eq m h)
  have hz : (mkS (digL m)).size ≤ 10 := by
    rw [size_mkS, digL_small m (by omega)]; simp
  have HI := Lib.hid hI2
  clear hI hI2 h
  generalize mkS (digL m) = D at *
  go_enter Tryd.func59, Tryd.ntmps59
  go_wp2_with fail
  refine HI.out.mono ?_
  rintro e w' ⟨rfl, rfl⟩
  go_wp2_with fail
  go_ret
  exact ⟨by rw [← HE.out]; rfl, rfl⟩

def okMinor (n : Int) : Bool := decide (n = 0 ∨ n = 1)
theorem okMinor_of {n : Int} (h : okMinor n = true) : ∃ m : Nat, n = m ∧ (m = 0 ∨ m = 1) := by
  unfold okMinor at h
  rcases of_decide_eq_true h with rfl | rfl
  · exact ⟨0, rfl, .inl rfl⟩
  · exact ⟨1, rfl, .inr rfl⟩

def rlB (m t : Bs) (n : Int) : Bool := rIn m t && okMinor n
def rlS (m t : Bs) (n : Int) : Bs := if rlB m t n then reqLine m t n.toNat else []
def rlE (m t : Bs) (n : Int) : Int := if rlB m t n then 0 else 4
theorem rl_no {m t : Bs} {n : Int} (h : rlB m t n = false) : rlS m t n = [] ∧ rlE m t n = 4 := by unfold rlS rlE; rw [h]; exact ⟨rfl, rfl⟩
theorem rl_yes {m t : Bs} {n : Int} (h : rlB m t n = true) : rlS m t n = reqLine m t n.toNat ∧ rlE m t n = 0 := by unfold rlS rlE; rw [h]; exact ⟨rfl, rfl⟩
def RlPost (m t : Bs) (n : Int) (w : World) (e : Ending) (w' : World) : Prop := e = .returned (.tuple #[.string (mkS (rlS m t n)), .int .i64 (rlE m t n)]) ∧ Below w.heap.size w w'

theorem reqLine_eq (m t : ByteArray) (v : Nat) : m ++ ⟨#[32]⟩ ++ t ++ ⟨#[32]⟩ ++ mkS (vText v) = mkS (reqLine (bs m) (bs t) v) := by
  have h1 : m = mkS (bs m) := (mkS_bs m).symm
  have h2 : t = mkS (bs t) := (mkS_bs t).symm
  have h3 : (⟨#[32]⟩ : ByteArray) = mkS [32] := rfl
  conv => lhs; rw [h1, h2, h3]
  rw [mkS_append, mkS_append, mkS_append, mkS_append]
  unfold reqLine
  simp

set_option maxHeartbeats 2000000 in
set_option maxRecDepth 100000 in
theorem requestLine_any (m t : ByteArray) (n : Int) (w : World) (hm : m.size ≤ 1099511627) (ht : t.size ≤ 1099511627) :
    Calls Tryd.prog 12 #[.string m, .string t, .int .i64 n] w (RlPost (bs m) (bs t) n w) := by
  have hq := inRequest_any m t w (by omega) (by omega)
  have hs := fun W => supported_any n W
  have hb : rlB (bs m) (bs t) n = (rIn (bs m) (bs t) && okMinor n) := rfl
  cases h1 : rIn (bs m) (bs t)
  · rw [h1] at hq hb
    obtain ⟨r1, r2⟩ := rl_no (show rlB (bs m) (bs t) n = false by rw [hb]; rfl)
    have R1 := Lib.hid r1
    have R2 := Lib.hid r2
    have HQ := Lib.hid hq
    clear r1 r2 hq hs hb h1
    go_enter Tryd.func12, Tryd.ntmps12
    go_wp2_with fail
    refine HQ.out.mono ?_
    rintro e w1 ⟨rfl, hb⟩
    have HB := Lib.hid hb
    clear hb
    go_wp2_with fail
    go_ret2
    exact ⟨by rw [R1.out, R2.out]; rfl, HB.out⟩
  · cases h2 : okMinor n
    · rw [h1, h2] at hb
      rw [h1] at hq
      have h2' : decide (n = 0 ∨ n = 1) = false := h2
      rw [h2'] at hs
      obtain ⟨r1, r2⟩ := rl_no (show rlB (bs m) (bs t) n = false by rw [hb]; rfl)
      have R1 := Lib.hid r1
      have R2 := Lib.hid r2
      have HQ := Lib.hid hq
      have HS := Lib.hid hs
      clear r1 r2 hq hs hb h1 h2 h2'
      go_enter Tryd.func12, Tryd.ntmps12
      go_wp2_with fail
      refine HQ.out.mono ?_
      rintro e w1 ⟨rfl, hb⟩
      have HB := Lib.hid hb
      clear hb
      go_wp2_with fail
      refine (HS.out _).mono ?_
      rintro e w2 ⟨rfl, rfl⟩
      go_wp2_with fail
      go_ret2
      exact ⟨by rw [R1.out, R2.out]; rfl, HB.out⟩
    · rw [h1, h2] at hb
      rw [h1] at hq
      have h2' : decide (n = 0 ∨ n = 1) = true := h2
      rw [h2'] at hs
      obtain ⟨r1, r2⟩ := rl_yes (show rlB (bs m) (bs t) n = true by rw [hb]; rfl)
      obtain ⟨v, rfl, hv⟩ := okMinor_of h2
      have hvt := fun W => versionText_any v W hv
      have he := reqLine_eq m t v
      have hz : (mkS (vText v)).size = 8 := by rw [size_mkS]; rfl
      have R1 := Lib.hid r1
      have R2 := Lib.hid r2
      have HQ := Lib.hid hq
      have HS := Lib.hid hs
      have HVT := Lib.hid hvt
      have HE := Lib.hid he
      clear r1 r2 hq hs hb h1 h2 h2' hvt he
      generalize mkS (vText v) = V at *
      have hz1 : (m ++ ⟨#[32]⟩ : ByteArray).size = m.size + 1 := by rw [ByteArray.size_append]; rfl
      have hz2 : (m ++ ⟨#[32]⟩ ++ t : ByteArray).size = m.size + 1 + t.size := by rw [ByteArray.size_append, hz1]
      have hz3 : (m ++ ⟨#[32]⟩ ++ t ++ ⟨#[32]⟩ : ByteArray).size = m.size + 1 + t.size + 1 := by rw [ByteArray.size_append, hz2]; rfl
      have g1 : (m ++ ⟨#[32]⟩ : ByteArray).size ≤ 9223372036854775807 := by omega
      have g2 : (m ++ ⟨#[32]⟩ ++ t : ByteArray).size ≤ 9223372036854775807 := by omega
      have g3 : (m ++ ⟨#[32]⟩ ++ t ++ ⟨#[32]⟩ : ByteArray).size ≤ 9223372036854775807 := by omega
      clear hz1 hz2 hz3
      go_enter Tryd.func12, Tryd.ntmps12
      go_wp2_with fail
      refine HQ.out.mono ?_
      rintro e w1 ⟨rfl, hb⟩
      have HB := Lib.hid hb
      clear hb
      go_wp2_with fail
      refine (HS.out _).mono ?_
      rintro e w2 ⟨rfl, rfl⟩
      go_wp2_with fail
      refine (HVT.out _).mono ?_
      rintro e w3 ⟨rfl, rfl⟩
      go_wp2_with fail
      go_ret2
      exact ⟨by rw [R1.out, R2.out, Int.toNat_natCast, ← HE.out]; rfl, HB.out⟩

def slB (m n : Int) (r : Bs) : Bool := okMinor m && sInI n r
def slS (m n : Int) (r : Bs) : Bs := if slB m n r then staLine m.toNat n.toNat r else []
def slE (m n : Int) (r : Bs) : Int := if slB m n r then 0 else 4
theorem sl_no {m n : Int} {r : Bs} (h : slB m n r = false) : slS m n r = [] ∧ slE m n r = 4 := by unfold slS slE; rw [h]; exact ⟨rfl, rfl⟩
theorem sl_yes {m n : Int} {r : Bs} (h : slB m n r = true) : slS m n r = staLine m.toNat n.toNat r ∧ slE m n r = 0 := by unfold slS slE; rw [h]; exact ⟨rfl, rfl⟩
def SlPost (m n : Int) (r : Bs) (w : World) (e : Ending) (w' : World) : Prop := e = .returned (.tuple #[.string (mkS (slS m n r)), .int .i64 (slE m n r)]) ∧ Below w.heap.size w w'

theorem staLine_eq (v d : Nat) (r : ByteArray) : mkS (vText v) ++ ⟨#[32]⟩ ++ mkS (digL d) ++ ⟨#[32]⟩ ++ r = mkS (staLine v d (bs r)) := by
  have h1 : r = mkS (bs r) := (mkS_bs r).symm
  have h3 : (⟨#[32]⟩ : ByteArray) = mkS [32] := rfl
  conv => lhs; rw [h1, h3]
  rw [mkS_append, mkS_append, mkS_append, mkS_append]
  unfold staLine
  simp

set_option maxHeartbeats 2000000 in
set_option maxRecDepth 100000 in
theorem statusLine_any (m n : Int) (r : ByteArray) (w : World) (hT : Tens w) (hr : r.size ≤ 1099511627) :
    Calls Tryd.prog 13 #[.int .i64 m, .int .i64 n, .string r] w (SlPost m n (bs r) w) := by
  have hq := fun W => inStatus_any n r W (by omega)
  have hs := supported_any m w
  have hb : slB m n (bs r) = (okMinor m && sInI n (bs r)) := rfl
  cases h1 : okMinor m
  · rw [h1] at hb
    have h1' : decide (m = 0 ∨ m = 1) = false := h1
    rw [h1'] at hs
    obtain ⟨r1, r2⟩ := sl_no (show slB m n (bs r) = false by rw [hb]; rfl)
    have R1 := Lib.hid r1
    have R2 := Lib.hid r2
    have HS := Lib.hid hs
    clear r1 r2 hq hs hb h1 h1'
    go_enter Tryd.func13, Tryd.ntmps13
    go_wp2_with fail
    refine HS.out.mono ?_
    rintro e w1 ⟨rfl, rfl⟩
    go_wp2_with fail
    go_ret2
    exact ⟨by rw [R1.out, R2.out]; rfl, Below.refl _ _⟩
  · have h1' : decide (m = 0 ∨ m = 1) = true := h1
    rw [h1'] at hs
    cases h2 : sInI n (bs r)
    · rw [h1, h2] at hb
      rw [h2] at hq
      obtain ⟨r1, r2⟩ := sl_no (show slB m n (bs r) = false by rw [hb]; rfl)
      have R1 := Lib.hid r1
      have R2 := Lib.hid r2
      have HS := Lib.hid hs
      have HQ := Lib.hid hq
      clear r1 r2 hq hs hb h1 h1' h2
      go_enter Tryd.func13, Tryd.ntmps13
      go_wp2_with fail
      refine HS.out.mono ?_
      rintro e w1 ⟨rfl, rfl⟩
      go_wp2_with fail
      refine (HQ.out _).mono ?_
      rintro e w2 ⟨rfl, hb⟩
      have HB := Lib.hid hb
      clear hb
      go_wp2_with fail
      go_ret2
      exact ⟨by rw [R1.out, R2.out]; rfl, HB.out⟩
    · rw [h1, h2] at hb
      rw [h2] at hq
      obtain ⟨r1, r2⟩ := sl_yes (show slB m n (bs r) = true by rw [hb]; rfl)
      obtain ⟨v, rfl, hv⟩ := okMinor_of h1
      have hn : 100 ≤ n ∧ n ≤ 599 := by
        unfold sInI at h2
        simp only [Bool.and_eq_true, decide_eq_true_eq] at h2
        exact h2.1
      obtain ⟨d, rfl⟩ : ∃ d : Nat, n = d := ⟨n.toNat, by omega⟩
      have hvt := fun W => versionText_any v W hv
      have hdl : (digL d).length = 3 := by rw [digL_three d (by omega) (by omega)]; rfl
      have hit := fun (W : World) (h : Tens W) => itoa_any d W h (by omega)
      have he := staLine_eq v d r
      have hz : (mkS (vText v)).size = 8 := by rw [size_mkS]; rfl
      have hz' : (mkS (digL d)).size = 3 := by rw [size_mkS, hdl]
      have R1 := Lib.hid r1
      have R2 := Lib.hid r2
      have HS := Lib.hid hs
      have HQ := Lib.hid hq
      have HVT := Lib.hid hvt
      have HIT := Lib.hid hit
      have HE := Lib.hid he
      have HTT := Lib.hid hT
      clear r1 r2 hq hs hb h1 h1' h2 hvt hit he hT hdl
      generalize mkS (vText v) = V at *
      generalize mkS (digL d) = D at *
      have hz1 : (V ++ ⟨#[32]⟩ : ByteArray).size = 9 := by rw [ByteArray.size_append, hz]; rfl
      have hz2 : (V ++ ⟨#[32]⟩ ++ D : ByteArray).size = 12 := by rw [ByteArray.size_append, hz1, hz']
      have hz3 : (V ++ ⟨#[32]⟩ ++ D ++ ⟨#[32]⟩ : ByteArray).size = 13 := by rw [ByteArray.size_append, hz2]; rfl
      have g0 : V.size ≤ 100 := by omega
      have g0' : D.size ≤ 100 := by omega
      have g1 : (V ++ ⟨#[32]⟩ : ByteArray).size ≤ 100 := by omega
      have g2 : (V ++ ⟨#[32]⟩ ++ D : ByteArray).size ≤ 100 := by omega
      have g3 : (V ++ ⟨#[32]⟩ ++ D ++ ⟨#[32]⟩ : ByteArray).size ≤ 100 := by omega
      clear hz hz' hz1 hz2 hz3
      go_enter Tryd.func13, Tryd.ntmps13
      go_wp2_with fail
      refine HS.out.mono ?_
      rintro e w1 ⟨rfl, rfl⟩
      go_wp2_with fail
      refine (HQ.out _).mono ?_
      rintro e w2 ⟨rfl, hb⟩
      have HB := Lib.hid hb
      clear hb
      go_wp2_with fail
      refine (HVT.out _).mono ?_
      rintro e w3 ⟨rfl, rfl⟩
      go_wp2_with fail
      refine (HIT.out _ (HTT.out.later HB.out)).mono ?_
      rintro e w4 ⟨rfl, hb⟩
      have HB2 := Lib.hid (HB.out.trans (hb.mono HB.out.size))
      clear hb
      go_wp2_with fail
      go_ret2
      exact ⟨by rw [R1.out, R2.out, Int.toNat_natCast, Int.toNat_natCast, ← HE.out]; rfl, HB2.out⟩
end Tk
end Go.Proofs.YtliinjibnikfgaaDoor
