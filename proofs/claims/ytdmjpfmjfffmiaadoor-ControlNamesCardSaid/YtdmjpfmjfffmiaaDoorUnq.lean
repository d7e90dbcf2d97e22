/- token.Unquote: what a quoted text says, or that it is none. -/
import Derived.Test.YtdmjpfmjfffmiaaDoorUnq0
import Derived.Test.YtdmjpfmjfffmiaaDoorTokA
namespace Go.Proofs.YtdmjpfmjfffmiaaDoor
open Go.RowKit
namespace Tk

theorem unq_short (l : Bs) (h : l.length ≤ 1) : unq l = [] := by
  match l, h with
  | [], _ => rfl
  | [_], _ => rfl

set_option maxHeartbeats 1000000 in
set_option maxRecDepth 100000 in
theorem unquote_no (s : ByteArray) (w : World) (hs : s.size ≤ 1099511627) (h : unqOk (bs s) = false) :
    Calls Tryd.prog 93 #[.string s] w fun e w' => e = .returned (.tuple #[.string .empty, .int .i64 4]) ∧ Below w.heap.size w w' := by
  by_cases h0 : s.size = 0
  · have he := empty_of s h0
    clear h h0
    go_enter Tryd.func93, Tryd.ntmps93
    go_wp2_with fail
    go_ret2
    exact ⟨rfl, Below.refl _ _⟩
  · have hp : 0 < s.size := by omega
    have he := not_empty_of s hp
    have HH := Lib.hid (bs_head s hp)
    have HO := Lib.hid h
    clear h0 h
    by_cases hq : ((s[0].toNat : Int) != 34) = true
    · clear HH HO
      go_enter Tryd.func93, Tryd.ntmps93
      go_wp2_with fail
      go_ret2
      exact ⟨rfl, Below.refl _ _⟩
    · have hq' : ((s[0].toNat : Int) != 34) = false := by simpa using hq
      have e34 : s[0] = 34 := UInt8.toNat_inj.1 (by rw [bne_eq_false_iff_eq] at hq'; show s[0].toNat = 34; omega)
      have HC := Lib.hid (closing_any s 0 w (by omega) hp)
      have hb : ∀ c : Nat, closing (bs s) 0 = c → (decide (c + 1 = s.size) && allL 1 (bs s)) = false := by
        intro c hc
        have := HO.out
        unfold unqOk at this
        rw [HH.out, e34, hc, length_bs] at this
        simpa using this
      have HB := Lib.hid (hb _ rfl)
      clear hq hb e34 HO HH
      have HA := Lib.hid (all_any s 1 w (by omega))
      generalize closing (bs s) 0 = c at *
      by_cases hc : ((c : Int) != (s.size : Int) - 1) = true
      · clear HB HA
        go_enter Tryd.func93, Tryd.ntmps93
        go_wp2_with fail
        refine HC.out.mono ?_
        rintro e w' ⟨rfl, rfl⟩
        go_wp2_with fail
        go_ret2
        exact ⟨rfl, Below.refl _ _⟩
      · have hc' : ((c : Int) != (s.size : Int) - 1) = false := by simpa using hc
        have hal : allL 1 (bs s) = false := by
          have := HB.out
          rw [bne_eq_false_iff_eq] at hc'
          rw [decide_eq_true (by omega)] at this
          simpa using this
        have HA2 := HA.out
        rw [hal] at HA2
        have HA3 := Lib.hid HA2
        clear hc HB hal HA HA2
        go_enter Tryd.func93, Tryd.ntmps93
        go_wp2_with fail
        refine HC.out.mono ?_
        rintro e w' ⟨rfl, rfl⟩
        go_wp2_with fail
        refine HA3.out.mono ?_
        rintro e w' ⟨rfl, hb⟩
        have HB := Lib.hid hb
        clear hb
        go_wp2_with fail
        go_ret2
        exact ⟨rfl, HB.out⟩

set_option maxHeartbeats 1000000 in
set_option maxRecDepth 100000 in
theorem unquote_yes (s : ByteArray) (w : World) (hs : s.size ≤ 1099511627) (h : unqOk (bs s) = true) :
    Calls Tryd.prog 93 #[.string s] w fun e w' => e = .returned (.tuple #[.string (mkS (unq ((bs s).drop 1))), .int .i64 0]) ∧ Below w.heap.size w w' := by
  unfold unqOk at h
  rw [Bool.and_eq_true, Bool.and_eq_true, decide_eq_true_eq, decide_eq_true_eq] at h
  obtain ⟨⟨h1, h2⟩, h3⟩ := h
  rw [length_bs] at h2
  have hp : 0 < s.size := by omega
  have he := not_empty_of s hp
  rw [bs_head s hp] at h1
  injection h1 with h1
  have hq' : ((s[0].toNat : Int) != 34) = false := by rw [h1]; rfl
  have HC := Lib.hid (closing_any s 0 w (by omega) hp)
  have HA := all_any s 1 w (by omega)
  rw [h3] at HA
  have HA3 := Lib.hid HA
  clear h1 h3 HA
  generalize closing (bs s) 0 = c at *
  have hc' : ((c : Int) != (s.size : Int) - 1) = false := by rw [bne_eq_false_iff_eq]; omega
  have hp2 : 1 ≤ s.size := hp
  clear h2
  go_enter Tryd.func93, Tryd.ntmps93
  go_wp2_with fail
  refine HC.out.mono ?_
  rintro e w' ⟨rfl, rfl⟩
  go_wp2_with fail
  refine HA3.out.mono ?_
  rintro e w1 ⟨rfl, hb⟩
  have HB := Lib.hid hb
  clear hb
  go_wp2_with fail
  have hB0 := Lib.hid (Lib.fresh_isBuilder 113 5 w1)
  have HB1 := Lib.hid (HB.out.alloc HB.out.size (Obj.cells #[Value.pointer none, Value.slice none 0 0] 113))
  have hsz : w1.heap.size ≤ (w1.alloc (Obj.cells #[Value.pointer none, Value.slice none 0 0] 113)).heap.size := by simp
  have hw1 := HB.out.size
  generalize w1.alloc (Obj.cells #[Value.pointer none, Value.slice none 0 0] 113) = W at *
  generalize w1.heap.size = B at *
  go_loopw [5] (fun v wr => ∃ (i : Nat) (P : Bs), 1 ≤ i ∧ i ≤ s.size ∧ P.length ≤ i ∧ v = .int .i64 i ∧ Hid (IsB B B P wr) ∧ Hid (Below w.heap.size w wr) ∧ B ≤ wr.heap.size ∧ Hid (unq ((bs s).drop 1) = P ++ unq ((bs s).drop i))) (fun v _ => s.size - (RowKit.intOf v).toNat)
  case atStart => exact ⟨1, [], Nat.le_refl _, hp2, by simp, rfl, hB0.out, HB1.out, hsz, rfl⟩
  case round =>
    obtain ⟨i, P, h1i, hi, hP, rfl, hI, hB3, hBw, hU⟩ := hrel
    rename World => W3
    by_cases hlt : i + 1 < s.size
    · have hlt1 : i < s.size := by omega
      have hI1 : (i : Int) < (s.size : Int) - 1 := by omega
      have d1 := bs_drop s i hlt1
      have d2 := bs_drop s (i + 1) hlt
      have D1 := Lib.hid d1
      have D2 := Lib.hid d2
      clear d1 d2
      by_cases h92 : ((s[i].toNat : Int) == 92) = true
      · have hnext : unq ((bs s).drop 1) = (P ++ [s[i + 1]]) ++ unq ((bs s).drop (i + 2)) := by
          rw [hU.out, D1.out, D2.out, u8_is s[i] 92 (by omega) h92]
          show P ++ unq (92 :: _ :: _) = _
          rw [unq_bs]; simp
        have HN := Lib.hid hnext
        clear hnext
        have H2 := Lib.hid (writeByte B B P s[i + 1] W3 hI.out (by omega) hBw)
        go_wp2_with fail
        refine H2.out.mono ?_
        rintro e w5 ⟨rfl, hi5, hb5⟩
        have HI5 := Lib.hid hi5
        have HB5 := Lib.hid (hB3.out.trans (hb5.mono hw1))
        have hBw5 := Nat.le_trans hBw hb5.size
        clear hi5 hb5
        go_wp2_with fail
        exact ⟨⟨i + 2, P ++ [s[i + 1]], by omega, by omega, by simp; omega, by go_num, HI5, HB5, hBw5, HN⟩, by simp [RowKit.intOf]; omega⟩
      · have h92' : ((s[i].toNat : Int) == 92) = false := by simpa using h92
        have hnext : unq ((bs s).drop 1) = (P ++ [s[i]]) ++ unq ((bs s).drop (i + 1)) := by
          rw [hU.out, D1.out, unq_o s[i] _ (u8_not s[i] 92 h92' (by omega)) (by rw [D2.out]; simp)]; simp
        have HN := Lib.hid hnext
        clear hnext h92
        have H2 := Lib.hid (writeByte B B P s[i] W3 hI.out (by omega) hBw)
        go_wp2_with fail
        refine H2.out.mono ?_
        rintro e w5 ⟨rfl, hi5, hb5⟩
        have HI5 := Lib.hid hi5
        have HB5 := Lib.hid (hB3.out.trans (hb5.mono hw1))
        have hBw5 := Nat.le_trans hBw hb5.size
        clear hi5 hb5
        go_wp2_with fail
        exact ⟨⟨i + 1, P ++ [s[i]], by omega, by omega, by simp; omega, by go_num, HI5, HB5, hBw5, HN⟩, by simp [RowKit.intOf]; omega⟩
    · have hI1 : ¬ (i : Int) < (s.size : Int) - 1 := by omega
      have hfin : unq ((bs s).drop 1) = P := by
        rw [hU.out, unq_short _ (by rw [List.length_drop, length_bs]; omega)]; simp
      have HF := Lib.hid hfin
      clear hfin
      have H3 := Lib.hid (Tryd.Builder_String_any B B P W3 hI.out hBw)
      go_wp2_with fail
      refine H3.out.mono ?_
      rintro e w5 ⟨rfl, hb5⟩
      have HB5 := Lib.hid (hB3.out.trans (hb5.mono hw1))
      clear hb5
      go_wp2_with fail
      go_ret2
      rw [HF.out]
      exact ⟨rfl, HB5.out⟩
end Tk
end Go.Proofs.YtdmjpfmjfffmiaaDoor
