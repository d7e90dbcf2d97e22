/- The document's date: the digits at some places. -/
import Derived.Test.YtajmheblbnodjaaDoorDrD
namespace Go.Proofs.YtajmheblbnodjaaDoor
open Go.RowKit
namespace Tk

set_option maxHeartbeats 400000 in
theorem rdig9_any (c : UInt8) (w : World) :
    Calls Tryd.prog 75 #[.int .u8 (c.toNat : Int)] w fun e w' => e = .returned (.bool (isDig c)) ∧ w = w' := by
  have hV : isDig c = (decide (48 ≤ c.toNat) && decide (c.toNat ≤ 57)) := rfl
  have h0 : 0 ≤ (c.toNat : Int) ∧ (c.toNat : Int) < 256 := ⟨by omega, by have := c.toNat_lt; omega⟩
  by_cases h1 : 48 ≤ c.toNat
  · by_cases h2 : c.toNat ≤ 57
    · rw [decide_eq_true h1, decide_eq_true h2] at hV
      have HV := Lib.hid hV
      have e1 : (48 : Int) ≤ (c.toNat : Int) := by omega
      have e2 : (c.toNat : Int) ≤ 57 := by omega
      clear hV
      go_enter Tryd.func75, Tryd.ntmps75
      go_wp2_with fail
      go_ret
      exact ⟨retBd (by rw [HV.out]; rfl), rfl⟩
    · rw [decide_eq_true h1, decide_eq_false h2] at hV
      have HV := Lib.hid hV
      have e1 : (48 : Int) ≤ (c.toNat : Int) := by omega
      have e2 : ¬ (c.toNat : Int) ≤ 57 := by omega
      clear hV
      go_enter Tryd.func75, Tryd.ntmps75
      go_wp2_with fail
      go_ret
      exact ⟨retBd (by rw [HV.out]; rfl), rfl⟩
  · rw [decide_eq_false h1] at hV
    have HV := Lib.hid hV
    have e1 : ¬ (48 : Int) ≤ (c.toNat : Int) := by omega
    clear hV
    go_enter Tryd.func75, Tryd.ntmps75
    go_wp2_with fail
    go_ret
    exact ⟨retBd (by rw [HV.out]; rfl), rfl⟩

theorem ten_pow (k : Nat) (h : k ≤ 4) : 10 ^ k ≤ 10000 ∧ 1 ≤ 10 ^ k := ⟨Nat.pow_le_pow_right (by decide) h, Nat.one_le_pow _ _ (by decide)⟩
theorem isDig_rg {c : UInt8} (h : isDig c = true) : 48 ≤ c.toNat ∧ c.toNat ≤ 57 := by unfold isDig at h; simpa using h

set_option maxHeartbeats 4000000 in
set_option maxRecDepth 100000 in
theorem rnumber9_any (s : ByteArray) (a b : Nat) (w : World) (hs : s.size ≤ 1000) (ha : a ≤ 2000) (hlt : a < b) (hab : b ≤ a + 4) :
    Calls Tryd.prog 59 #[.string s, .int .i64 (a : Int), .int .i64 (b : Int)] w fun e w' => e = .returned (.int .i64 (rnum (bs s) a b)) ∧ w = w' := by
  have HBd := Lib.hid (fun i (h1 : a ≤ i) (h2 : i < b) h => rnum_bad (s := bs s) (a := a) (b := b) (i := i) h1 h2 h)
  have HGo := Lib.hid (fun h hd => rnum_go (s := bs s) (a := a) (b := b) h hd)
  have HLn := Lib.hid (length_bs s)
  have HNx := Lib.hid (fun i h1 h2 => slice_next (s := bs s) (a := a) (i := i) h1 h2)
  have HG := Lib.hid (fun i h => getD_bs s i h)
  have HDg := Lib.hid (fun c W => rdig9_any c W)
  have HV0 := Lib.hid (show valFrom 0 (((bs s).drop a).take (a - a)) = 0 by rw [Nat.sub_self]; rfl)
  have HVs := Lib.hid (fun (l : Bs) (c : UInt8) => show valFrom 0 (l ++ [c]) = valFrom 0 l * 10 + (c.toNat - 48) by rw [valFrom_append]; rfl)
  go_enter Tryd.func59, Tryd.ntmps59
  go_wp2_with fail
  go_loop [7, 8] (fun vn vi => ∃ i n : Nat, a ≤ i ∧ i ≤ b ∧ n < 10 ^ (i - a) ∧ vn = .int .i64 (n : Int) ∧ vi = .int .i64 (i : Int) ∧ Hid (n = valFrom 0 (((bs s).drop a).take (i - a))) ∧ Hid (∀ k, a ≤ k → k < i → k < s.size ∧ isDig ((bs s).getD k 0) = true)) (fun _ vi => ((b : Int) - RowKit.intOf vi).toNat)
  case atStart => exact ⟨a, 0, by omega, by omega, by rw [Nat.sub_self]; decide, rfl, rfl, HV0.out.symm, fun k h1 h2 => by omega⟩
  case round =>
    obtain ⟨i, n, hi1, hi2, hn, rfl, rfl, HN, HD⟩ := hrel
    by_cases hib : i < b
    · by_cases hsz : i < s.size
      · have hc := HG.out i hsz
        have h256 : (s[i].toNat : Int) < 256 ∧ 0 ≤ (s[i].toNat : Int) := ⟨by have := s[i].toNat_lt; omega, by omega⟩
        have HDi := Lib.hid (fun W => HDg.out s[i] W)
        cases hdg : isDig s[i]
        · have HF := Lib.hid (HBd.out i hi1 hib (.inr ⟨by rw [HLn.out]; exact hsz, by rw [hc]; exact hdg⟩))
          rw [hdg] at HDi
          clear HBd HGo HNx HDg HV0 HVs hc hdg hn HN HD
          go_wp2_with fail
          refine (HDi.out _).mono ?_
          rintro e w' ⟨rfl, rfl⟩
          go_wp2_with fail
          go_ret
          exact ⟨retId HF.out.symm, rfl⟩
        · have hrg := isDig_rg hdg
          have ht := ten_pow (i - a) (by omega)
          have hp : 10 ^ (i + 1 - a) = 10 ^ (i - a) * 10 := by rw [show i + 1 - a = (i - a) + 1 by omega, Nat.pow_succ]
          have HN2 : Hid (n * 10 + (s[i].toNat - 48) = valFrom 0 (((bs s).drop a).take (i + 1 - a))) := by
            show _ = _
            rw [HNx.out i hi1 (by rw [HLn.out]; exact hsz), HVs.out, ← HN.out, hc]
          have HD2 : Hid (∀ k, a ≤ k → k < i + 1 → k < s.size ∧ isDig ((bs s).getD k 0) = true) := by
            intro k h1 h2
            by_cases hk : k < i
            · exact HD.out k h1 hk
            · obtain rfl : k = i := by omega
              exact ⟨hsz, by rw [hc]; exact hdg⟩
          have hn2 : n * 10 + (s[i].toNat - 48) < 10 ^ (i + 1 - a) := by rw [hp]; omega
          have hn4 : n < 10000 := by omega
          have Hn2 := Lib.hid hn2
          rw [hdg] at HDi
          clear HBd HGo HNx HDg HV0 HVs hc hdg hn HN HD hn2 hp ht
          go_wp2_with fail
          refine (HDi.out _).mono ?_
          rintro e w' ⟨rfl, rfl⟩
          go_wp2_with fail
          refine ⟨⟨i + 1, n * 10 + (s[i].toNat - 48), by omega, by omega, Hn2.out, ?_, by go_num, HN2, HD2⟩, by simp only [RowKit.intOf]; omega⟩
          congr 1; omega
      · have HF := Lib.hid (HBd.out i hi1 hib (.inl (by rw [HLn.out]; omega)))
        clear HBd HGo HNx HDg HV0 HVs hn HN HD HG
        go_wp2_with fail
        go_ret
        exact ⟨retId HF.out.symm, rfl⟩
    · obtain rfl : i = b := by omega
      have hle : i ≤ s.size := by have := (HD.out (i - 1) (by omega) (by omega)).1; omega
      have hF := HGo.out (by rw [HLn.out]; exact hle) (fun k h1 h2 => (HD.out k h1 h2).2)
      rw [← HN.out] at hF
      have HF := Lib.hid hF
      clear HBd HGo HNx HDg HV0 HVs hn HN HD HG hF
      go_wp2_with fail
      go_ret
      exact ⟨retId HF.out.symm, rfl⟩
end Tk
end Go.Proofs.YtajmheblbnodjaaDoor
