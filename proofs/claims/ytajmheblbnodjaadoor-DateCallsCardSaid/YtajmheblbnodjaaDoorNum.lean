/- token.Number; halfwayhousekit.Pick, Times; digits. -/
import Derived.Test.YtajmheblbnodjaaDoorNum0
import Derived.Test.YtajmheblbnodjaaDoorTokA
namespace Go.Proofs.YtajmheblbnodjaaDoor
open Go.RowKit
namespace Tk

set_option maxRecDepth 100000 in
set_option maxHeartbeats 1000000 in
theorem number_any (s : ByteArray) (w : World) (hs : s.size ≤ 1099511627776) :
    Calls Tryd.prog 72 #[.string s] w fun r w' => r = .returned (.tuple #[.int .i64 (numL (bs s)).1, .int .i64 (numL (bs s)).2]) ∧ w = w' := by
  by_cases h0 : s.size = 0
  · have hb : bs s = [] := List.eq_nil_of_length_eq_zero (by rw [length_bs]; exact h0)
    have he : s.toList.isEmpty = true := by rw [toList_bs, hb]; rfl
    have HB := Lib.hid hb
    clear hb h0
    go_enter Tryd.func72, Tryd.ntmps72
    go_wp2_with fail
    go_ret2
    exact ⟨by rw [HB.out]; rfl, rfl⟩
  · have hb : bs s ≠ [] := fun e => h0 (by rw [← length_bs, e]; rfl)
    have he : s.toList.isEmpty = false := by rw [toList_bs]; simpa using hb
    have hnum : numL (bs s) = numGo 0 ((bs s).drop 0) := by unfold numL; rw [if_neg hb]; rfl
    have HN := Lib.hid hnum
    have HL := Lib.hid (length_bs s)
    clear hnum hb h0
    go_enter Tryd.func72, Tryd.ntmps72
    go_wp2_with fail
    go_loop [4, 10, 5] (fun vn vi _ => ∃ (n i : Nat), n ≤ 90071992547409919 ∧ i ≤ s.size ∧ vn = .int .i64 n ∧ vi = .int .i64 i ∧ Hid (numL (bs s) = numGo n ((bs s).drop i))) (fun _ vi _ => s.size - (RowKit.intOf vi).toNat)
    case atStart => exact ⟨0, 0, by omega, by omega, rfl, rfl, HN.out⟩
    case round =>
      obtain ⟨n, i, hn, hi, rfl, rfl, hd⟩ := hrel
      by_cases hlt : i < s.size
      · have hdr := drop_cons (bs s) i (by rw [HL.out]; exact hlt)
        rw [getD_bs s i hlt] at hdr
        have HD := Lib.hid hdr
        have hc0 : 0 ≤ (s[i].toNat : Int) := by omega
        have hc1 : (s[i].toNat : Int) < 256 := by have := s[i].toNat_lt; omega
        clear hdr
        by_cases hlo : (s[i].toNat : Int) < 48
        · have fin : numL (bs s) = (0, 4) := by
            rw [hd.out, HD.out, numGo, if_neg]
            unfold isDig; simp; omega
          have HF := Lib.hid fin
          clear fin
          go_wp2_with fail
          go_ret2
          exact ⟨by rw [HF.out]; rfl, rfl⟩
        · by_cases hhi : (57 : Int) < (s[i].toNat : Int)
          · have fin : numL (bs s) = (0, 4) := by
              rw [hd.out, HD.out, numGo, if_neg]
              unfold isDig; simp; omega
            have HF := Lib.hid fin
            clear fin
            go_wp2_with fail
            go_ret2
            exact ⟨by rw [HF.out]; rfl, rfl⟩
          · have hdig : isDig s[i] = true := by unfold isDig; simp; omega
            have hgo : numL (bs s) = numGo (if n ≤ maxN then n * 10 + (s[i].toNat - 48) else n) ((bs s).drop (i + 1)) := by
              rw [hd.out, HD.out, numGo, if_pos hdig]
            by_cases hmx : n ≤ 9007199254740991
            · rw [if_pos (show n ≤ maxN from hmx)] at hgo
              have HG := Lib.hid hgo
              clear hgo hdig
              go_wp2_with fail
              refine ⟨⟨n * 10 + (s[i].toNat - 48), i + 1, by omega, by omega, ?_, by go_num, HG⟩, by simp [RowKit.intOf]; omega⟩
              congr 1
              omega
            · rw [if_neg (show ¬ n ≤ maxN from hmx)] at hgo
              have HG := Lib.hid hgo
              clear hgo hdig
              go_wp2_with fail
              exact ⟨⟨n, i + 1, by omega, by omega, rfl, by go_num, HG⟩, by simp [RowKit.intOf]; omega⟩
      · have hnil : (bs s).drop i = [] := List.drop_eq_nil_of_le (by rw [HL.out]; omega)
        have fin := hd.out
        rw [hnil, numGo] at fin
        have HF := Lib.hid fin
        clear fin hnil
        go_wp2_with fail
        · have hmx : (9007199254740991 : Int) < n := by assumption
          go_ret2
          exact ⟨by rw [HF.out, if_pos (show maxN < n by unfold maxN; omega)]; rfl, rfl⟩
        · have hmx : (n : Int) ≤ 9007199254740991 := by assumption
          go_ret2
          exact ⟨by rw [HF.out, if_neg (show ¬ maxN < n by unfold maxN; omega)]; rfl, rfl⟩
end Tk
end Go.Proofs.YtajmheblbnodjaaDoor
