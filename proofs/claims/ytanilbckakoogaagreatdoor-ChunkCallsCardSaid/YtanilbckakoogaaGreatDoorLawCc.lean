/- RefHx RefSz RefBy RefEn LgT LawCc, put together. -/
import Derived.Test.YtanilbckakoogaaGreatDoorRefA
import Derived.Test.YtanilbckakoogaaGreatDoorChkK
import Derived.Laws.BitsAllLaws
import Derived.Test.YtanilbckakoogaaGreatDoorRefCk
import Derived.Test.YtanilbckakoogaaGreatDoorFldM
import Derived.Deep.RegionHeld3
import Derived.Test.YtanilbckakoogaaGreatDoorChkN
import Derived.Test.YtanilbckakoogaaGreatDoorFldN
import Derived.Test.YtanilbckakoogaaGreatDoorChkL
namespace Go.Proofs.YtanilbckakoogaaGreatDoor
open Go.RowKit
namespace Tk

/-- the value of a digit by sixteen, or -1 -/
def hexV (c : UInt8) : Int := match hexD c with | some d => d | none => -1
theorem hexV_is (c : UInt8) : hexV c = if 48 ≤ c.toNat ∧ c.toNat ≤ 57 then (c.toNat : Int) - 48 else if 97 ≤ c.toNat ∧ c.toNat ≤ 102 then (c.toNat : Int) - 97 + 10 else if 65 ≤ c.toNat ∧ c.toNat ≤ 70 then (c.toNat : Int) - 65 + 10 else -1 := by
  unfold hexV hexD
  by_cases h1 : 48 ≤ c.toNat ∧ c.toNat ≤ 57
  · rw [if_pos h1, if_pos h1]; simp only; omega
  · rw [if_neg h1, if_neg h1]
    by_cases h2 : 97 ≤ c.toNat ∧ c.toNat ≤ 102
    · rw [if_pos h2, if_pos h2]; simp only; omega
    · rw [if_neg h2, if_neg h2]
      by_cases h3 : 65 ≤ c.toNat ∧ c.toNat ≤ 70
      · rw [if_pos h3, if_pos h3]; simp only; omega
      · rw [if_neg h3, if_neg h3]
theorem hexV_some (c : UInt8) (d : Nat) (h : hexD c = some d) : hexV c = d := by unfold hexV; rw [h]
theorem hexV_none (c : UInt8) (h : hexD c = none) : hexV c = -1 := by unfold hexV; rw [h]

theorem retI {a b : Int} (h : a = b) : Ending.returned (.int .i64 a) = .returned (.int .i64 b) := by rw [h]
set_option maxRecDepth 100000 in
set_option maxHeartbeats 2000000 in
theorem rhex_any (c : UInt8) (w : World) :
    Calls Tryz.prog 24 #[.int .u8 (c.toNat : Int)] w fun e w' => e = .returned (.int .i64 (hexV c)) ∧ w = w' := by
  have hlt := c.toNat_lt
  have HC := rDigit_any c w
  have HV := Lib.hid (hexV_is c)
  have hd : isDig c = (decide (48 ≤ c.toNat) && decide (c.toNat ≤ 57)) := rfl
  generalize hexV c = V at *
  generalize isDig c = q at *
  generalize c.toNat = n at *
  by_cases h0 : 48 ≤ n ∧ n ≤ 57
  · have hq : q = true := by rw [hd]; simp [h0.1, h0.2]
    subst hq
    have HV2 := Lib.hid (show (n : Int) - 48 = V by rw [HV.out, if_pos h0])
    have HC2 := Lib.hid HC
    obtain ⟨h1, h2⟩ := h0
    clear hd HC HV
    go_enter Tryz.func24, Tryz.ntmps24
    go_wp2_with fail
    refine HC2.out.mono ?_
    rintro e w' ⟨rfl, rfl⟩
    go_wp2_with fail
    go_ret
    exact ⟨retI HV2.out, rfl⟩
  · have hq : q = false := by
      rw [hd, Bool.and_eq_false_iff]
      simp only [decide_eq_false_iff_not]
      omega
    subst hq
    have HC2 := Lib.hid HC
    have HH := Lib.hid h0
    clear hd HC h0
    by_cases h2 : 97 ≤ n <;> by_cases h3 : n ≤ 102 <;> by_cases h4 : 65 ≤ n <;> by_cases h5 : n ≤ 70
    all_goals
      first
      | omega
      | (go_enter Tryz.func24, Tryz.ntmps24
         go_wp2_with fail
         refine HC2.out.mono ?_
         rintro e w' ⟨rfl, rfl⟩
         go_wp2_with fail
         go_ret
         exact ⟨retI (by rw [HV.out, if_neg HH.out]; split <;> (try split) <;> omega), rfl⟩)

theorem slice_hex : ∀ n : Nat, n < 16 → (ByteArray.mk #[48, 49, 50, 51, 52, 53, 54, 55, 56, 57, 97, 98, 99, 100, 101, 102]).extract n (n + 1) = mkS [hexc n] := by decide +kernel

set_option maxRecDepth 100000 in
set_option maxHeartbeats 2000000 in
theorem rdigits_any (n : Nat) (w : World) (hn : n < 256) :
    Calls Tryz.prog 20 #[.int .i64 n] w fun r w' => r = .returned (.string (mkS (hexL n))) ∧ w = w' := by
  have HX := Lib.hid (show hexL n = hexF hexc n from rfl)
  generalize hexL n = X at *
  go_enter Tryz.func20, Tryz.ntmps20
  go_wp2_with fail
  go_loop [0, 3] (fun vn vo => ∃ (m : Nat) (o : Bs), m < 256 ∧ o.length ≤ 1 ∧ vn = .int .i64 m ∧ vo = .string (mkS o) ∧ Hid (X = hexF hexc m ++ o) ∧ Hid (o = [] ∨ m < 16)) (fun vn _ => (RowKit.intOf vn).toNat)
  case atStart => exact ⟨n, [], hn, by simp, rfl, rfl, by show _ = _; rw [HX.out, List.append_nil], .inl rfl⟩
  case round =>
    obtain ⟨m, o, hm, ho, rfl, rfl, hX, hO⟩ := hrel
    have e1 : (m : Int) / 16 = ((m / 16 : Nat) : Int) := by omega
    have e2 : (m : Int) % 16 = ((m % 16 : Nat) : Int) := by omega
    have hs := slice_hex (m % 16) (by omega)
    have hsz : min (m % 16 + 1) 16 - m % 16 + (mkS o).size ≤ 9223372036854775807 := by rw [size_mkS]; omega
    have hap : mkS [hexc (m % 16)] ++ mkS o = mkS (hexc (m % 16) :: o) := by rw [mkS_append]; rfl
    have hr : m % 16 < 16 := by omega
    have HS := Lib.hid hs
    have HA := Lib.hid hap
    clear hs hap
    by_cases h16 : m < 16
    · have hz : m / 16 = 0 := by omega
      have hX2 : X = hexc (m % 16) :: o := by rw [hX.out, hexF_small hexc m h16, Nat.mod_eq_of_lt h16]; rfl
      have HX2 := Lib.hid hX2
      have e0 : (m : Int) / 16 = 0 := by omega
      clear hX2 hz h16 hX hO e1
      generalize m % 16 = r at *
      go_wp2_with fail
      go_ret
      exact ⟨by rw [HX2.out, ← HA.out, ← HS.out]; rfl, rfl⟩
    · have ho0 : o = [] := by rcases hO.out with h | h; exact h; omega
      have hX2 : X = hexF hexc (m / 16) ++ (hexc (m % 16) :: o) := by rw [hX.out, hexF_big hexc m h16, List.append_assoc]; rfl
      have HX2 := Lib.hid hX2
      have hq : ¬ ((m / 16 : Nat) : Int) = 0 := by omega
      have hq2 : m / 16 < 16 := by omega
      have hql : m / 16 < m := by omega
      subst ho0
      clear hX2 h16 hX hO
      generalize m % 16 = r at *
      generalize m / 16 = q at *
      go_wp2_with fail
      exact ⟨⟨q, [hexc r], by omega, by simp, by go_num, by rw [HS.out, HA.out], HX2, .inr hq2⟩, by simp [RowKit.intOf]; omega⟩
end Tk
end Go.Proofs.YtanilbckakoogaaGreatDoor
namespace Go.Proofs.YtanilbckakoogaaGreatDoor
open Go.RowKit
namespace Tk

/-- what is read of i digits -/
def SzI (l : Bs) (i n : Nat) : Prop := ∃ m, hexGo 0 (l.take i) = some m ∧ (i ≤ 16 → n = m ∧ m < 16 ^ i)
theorem szI_next (l : Bs) (i n d x : Nat) (c : UInt8) (hi : i < l.length) (hc : l.getD i 0 = c) (hd : hexD c = some d) (h : SzI l i n) (h16 : i ≤ 16) (hx : i ≤ 15 → x = n * 16 + d) : SzI l (i + 1) x := by
  obtain ⟨m, h1, h2⟩ := h
  obtain ⟨rfl, h3⟩ := h2 h16
  refine ⟨n * 16 + d, ?_, fun h => ?_⟩
  · rw [take_snoc l i hi, hc]; exact hexGo_snoc _ c _ d h1 hd
  · have := hexD_lt c d hd
    refine ⟨hx (by omega), ?_⟩
    have h4 := h3
    rw [Nat.pow_succ]; omega
theorem szI_lt (l : Bs) (i n : Nat) (h : SzI l i n) (h16 : i ≤ 15) : n < 1152921504606846976 := by
  obtain ⟨m, h1, h2⟩ := h
  obtain ⟨rfl, h3⟩ := h2 (by omega)
  have : 16 ^ i ≤ 16 ^ 15 := Nat.pow_le_pow_right (by decide) h16
  have e : (16 : Nat) ^ 15 = 1152921504606846976 := by decide
  omega
theorem szI_17 (l : Bs) (n : Nat) (h : SzI l 17 n) (hl : 17 ≤ l.length) : sizeL l = (0, 400) := by
  obtain ⟨m, h1, -⟩ := h
  have := size_B (l.take 17) (l.drop 17) m h1 (by rw [List.length_take]; omega)
  rwa [List.take_append_drop] at this
theorem szI_all (l : Bs) (n : Nat) (h : SzI l l.length n) (h0 : l ≠ []) (hl : l.length ≤ 16) : sizeL l = if 9007199254740991 < n then (0, 413) else (n, 0) := by
  obtain ⟨m, h1, h2⟩ := h
  obtain ⟨rfl, -⟩ := h2 hl
  rw [List.take_length] at h1
  exact size_C l n h1 hl h0
theorem drop_cons_getD : ∀ (l : Bs) (i : Nat) (c : UInt8), i < l.length → l.getD i 0 = c → l = l.take i ++ c :: l.drop (i + 1)
  | [], i, c, h, _ => by simp at h
  | x :: t, 0, c, h, hc => by simp at hc; subst hc; rfl
  | x :: t, i + 1, c, h, hc => by
    have := drop_cons_getD t i c (by simpa using h) (by simpa using hc)
    simp only [List.take_succ_cons, List.cons_append, List.drop_succ_cons]
    rw [← this]
theorem szI_0 (l : Bs) (c : UInt8) (h0 : 0 < l.length) (hc : l.getD 0 0 = c) (hd : hexD c = none) : sizeL l = (0, 400) := by
  refine size_A l (.inr ⟨c, l.drop 1, ?_, hd⟩)
  exact drop_cons_getD l 0 c h0 hc
theorem szI_bad (l : Bs) (i n : Nat) (c : UInt8) (h : SzI l i n) (hi : i < l.length) (hc : l.getD i 0 = c) (hd : hexD c = none) (h59 : c ≠ 59) : sizeL l = (0, 400) := by
  obtain ⟨m, h1, -⟩ := h
  have := size_D (l.take i) (l.drop (i + 1)) c m h1 h59 hd
  rwa [← drop_cons_getD l i c hi hc] at this
theorem szI_semi (l : Bs) (i n : Nat) (h : SzI l i n) (h0 : 0 < i) (h16 : i ≤ 16) (hi : i < l.length) (hc : l.getD i 0 = 59) : sizeL l = if allL 1 (l.drop i) then (if 9007199254740991 < n then (0, 413) else (n, 0)) else (0, 400) := by
  obtain ⟨m, h1, h2⟩ := h
  obtain ⟨rfl, -⟩ := h2 h16
  have he := drop_cons_getD l i 59 hi hc
  have hd : l.drop i = 59 :: l.drop (i + 1) := by
    have h3 := List.take_append_drop i l
    exact List.append_cancel_left (h3.trans he)
  have h4 := size_E (l.take i) (l.drop (i + 1)) n h1 (by rw [List.length_take]; omega) (by intro h; have h5 := congrArg List.length h; rw [List.length_take] at h5; simp only [List.length_nil] at h5; omega)
  rwa [← he, ← hd] at h4

theorem or_u64 (n d : Nat) (hd : d < 16) : ∃ x : Nat, x < 18446744073709551616 ∧ bits .or .u64 (IntKind.u64.wrap ((n : Int) * 16)) (d : Int) = (x : Int) ∧ (n < 1152921504606846976 → x = n * 16 + d) := by
  have e : IntKind.u64.wrap ((n : Int) * 16) = ((n * 16 % 18446744073709551616 : Nat) : Int) := by rw [IntKind.wrap_u64]; omega
  refine ⟨n * 16 % 18446744073709551616 ||| d, ?_, ?_, fun h => ?_⟩
  · exact Nat.or_lt_two_pow (n := 64) (by omega) (by omega)
  · rw [e]; exact u64_or_nat _ _ (by omega) (by omega)
  · rw [Nat.mod_eq_of_lt (by omega)]; exact or_low n d hd

def RSz (l : Bs) (w : World) (e : Ending) (w' : World) : Prop := e = .returned (.tuple #[.int .i64 (sizeL l).1, .int .i64 (sizeL l).2]) ∧ w = w'

set_option maxRecDepth 100000 in
set_option maxHeartbeats 4000000 in
theorem rsize_any (s : ByteArray) (w : World) (hs : s.size ≤ 1099511627776) :
    Calls Tryz.prog 9 #[.string s] w (RSz (bs s) w) := by
  have HL := Lib.hid (length_bs s)
  go_enter Tryz.func9, Tryz.ntmps9
  go_wp2_with fail
  go_loop [4, 5] (fun vn vi => ∃ i n : Nat, i ≤ s.size ∧ i ≤ 17 ∧ n < 18446744073709551616 ∧ vn = .int .u64 n ∧ vi = .int .i64 i ∧ Hid (SzI (bs s) i n)) (fun _ vi => s.size - (RowKit.intOf vi).toNat)
  case atStart => exact ⟨0, 0, Nat.zero_le _, by omega, by omega, rfl, rfl, ⟨0, rfl, fun _ => ⟨rfl, by decide⟩⟩⟩
  case round =>
    obtain ⟨i, n, hi, h17, hn, rfl, rfl, hI⟩ := hrel
    by_cases hgo : i < s.size ∧ i ≤ 16
    · obtain ⟨hlt, h16⟩ := hgo
      have hgd := getD_bs s i hlt
      have HC := rhex_any s[i] w
      have HG := Lib.hid hgd
      clear hgd
      generalize hcc : s[i] = c at *
      cases hd : hexD c with
      | none =>
        rw [hexV_none c hd] at HC
        have HC2 := Lib.hid HC
        have HD := Lib.hid hd
        clear HC hd
        go_wp2_with fail
        refine HC2.out.mono ?_
        rintro e w' ⟨rfl, rfl⟩
        by_cases h0 : i = 0
        · have hfin := szI_0 (bs s) c (by rw [HL.out]; omega) (by rw [← h0]; exact HG.out) HD.out
          have HF := Lib.hid hfin
          have h00 : (i : Int) = 0 := by omega
          clear hfin h0
          go_wp2_with fail
          go_ret2
          exact ⟨by rw [HF.out]; rfl, rfl⟩
        · have i0 : ¬ (i : Int) = 0 := by omega
          have i1 : ¬ (16 : Int) < (i : Int) := by omega
          have b0 : ((i : Int) == 0) = false := by simpa using h0
          have b1 : decide ((16 : Int) < (i : Int)) = false := decide_eq_false i1
          clear i0 i1
          have hil : i < (bs s).length := by rw [HL.out]; exact hlt
          by_cases h59 : c.toNat = 59
          · have hc59 : c = 59 := UInt8.toNat_inj.1 (by rw [h59]; rfl)
            have hfin := szI_semi (bs s) i n hI.out (by omega) h16 hil (by rw [← hc59]; exact HG.out)
            have hbx : bs (s.extract i s.size) = (bs s).drop i := by rw [bs_extract, List.take_of_length_le (by rw [List.length_drop, HL.out]; exact Nat.le_refl _)]
            have hch := rChars_any (s.extract i s.size) w (by rw [ByteArray.size_extract]; omega)
            rw [hbx] at hch
            have q59 : (c.toNat : Int) = 59 := by omega
            cases hal : allL 1 ((bs s).drop i)
            · rw [hal] at hfin hch
              have HF := Lib.hid (show sizeL (bs s) = (0, 400) from hfin)
              have HCh := Lib.hid hch
              clear hfin hch hal hbx hc59 h59 h0 hil
              go_wp2_with fail
              refine HCh.out.mono ?_
              rintro e w' ⟨rfl, rfl⟩
              go_wp2_with fail
              go_ret2
              exact ⟨by rw [HF.out]; rfl, rfl⟩
            · rw [hal, if_pos rfl] at hfin
              rw [hal] at hch
              have HCh := Lib.hid hch
              clear hch hal hbx hc59 h59 h0 hil
              by_cases hb : 9007199254740991 < n
              · rw [if_pos hb] at hfin
                have HF := Lib.hid hfin
                clear hfin
                go_wp2_with fail
                refine HCh.out.mono ?_
                rintro e w' ⟨rfl, rfl⟩
                go_wp2_with fail
                go_ret2
                exact ⟨by rw [HF.out]; rfl, rfl⟩
              · rw [if_neg hb] at hfin
                have HF := Lib.hid hfin
                clear hfin
                go_wp2_with fail
                refine HCh.out.mono ?_
                rintro e w' ⟨rfl, rfl⟩
                go_wp2_with fail
                go_ret2
                exact ⟨by rw [HF.out]; rfl, rfl⟩
          · have hfin := szI_bad (bs s) i n c hI.out hil HG.out HD.out (fun h => h59 (by rw [h]; rfl))
            have HF := Lib.hid hfin
            have q59 : ¬ (c.toNat : Int) = 59 := by omega
            clear hfin h0 hil h59
            go_wp2_with fail
            go_ret2
            exact ⟨by rw [HF.out]; rfl, rfl⟩
      | some d =>
        rw [hexV_some c d hd] at HC
        have HC2 := Lib.hid HC
        have hd16 := hexD_lt c d hd
        have HD := Lib.hid hd
        have hn0 : ¬ (d : Int) < 0 := by omega
        obtain ⟨x, hx, hbx, hxn⟩ := or_u64 n d hd16
        have HNx : Hid (SzI (bs s) (i + 1) x) := szI_next (bs s) i n d x c (by rw [HL.out]; exact hlt) HG.out hd hI.out h16 (fun h => hxn (szI_lt (bs s) i n hI.out h))
        have HBx := Lib.hid hbx
        clear HC hd hbx hxn
        go_wp2_with fail
        refine HC2.out.mono ?_
        rintro e w' ⟨rfl, rfl⟩
        go_wp2_with fail
        exact ⟨⟨i + 1, x, by omega, by omega, hx, by rw [HBx.out], by go_num, HNx⟩, by simp [RowKit.intOf]; omega⟩
    · by_cases h16 : i ≤ 16
      · have hie : i = s.size := by omega
        by_cases h0 : i = 0
        · have hnil : bs s = [] := List.eq_nil_of_length_eq_zero (by rw [HL.out]; omega)
          have HF := Lib.hid (size_A (bs s) (.inl hnil))
          have h00 : (i : Int) = 0 := by omega
          have hlt : ¬ (i : Int) < (s.size : Int) := by omega
          clear hnil h0 hie hgo
          go_wp2_with fail
          go_ret2
          exact ⟨by rw [HF.out]; rfl, rfl⟩
        · have hfin := szI_all (bs s) n (by rw [HL.out, ← hie]; exact hI.out) (by intro h; have h5 := HL.out; rw [h] at h5; simp only [List.length_nil] at h5; omega) (by rw [HL.out]; omega)
          have i0 : ¬ (i : Int) = 0 := by omega
          have i1 : ¬ (16 : Int) < (i : Int) := by omega
          have b0 : ((i : Int) == 0) = false := by simpa using h0
          have b1 : decide ((16 : Int) < (i : Int)) = false := decide_eq_false i1
          clear i0 i1
          have hlt : ¬ (i : Int) < (s.size : Int) := by omega
          clear h0 hie hgo
          by_cases hb : 9007199254740991 < n
          · rw [if_pos hb] at hfin
            have HF := Lib.hid hfin
            clear hfin
            go_wp2_with fail
            go_ret2
            exact ⟨by rw [HF.out]; rfl, rfl⟩
          · rw [if_neg hb] at hfin
            have HF := Lib.hid hfin
            clear hfin
            go_wp2_with fail
            go_ret2
            exact ⟨by rw [HF.out]; rfl, rfl⟩
      · have hi17 : i = 17 := by omega
        subst hi17
        have HF := Lib.hid (szI_17 (bs s) n hI.out (by rw [HL.out]; exact hi))
        clear hgo h16
        by_cases hlt : 17 < s.size
        · go_wp2_with fail
          go_ret2
          exact ⟨by rw [HF.out]; rfl, rfl⟩
        · go_wp2_with fail
          go_ret2
          exact ⟨by rw [HF.out]; rfl, rfl⟩
end Tk
end Go.Proofs.YtanilbckakoogaaGreatDoor
namespace Go.Proofs.YtanilbckakoogaaGreatDoor
open Go.RowKit
namespace Tk

theorem two58 : (ByteArray.mk #[58, 32]).size = 2 := rfl
theorem two13 : (ByteArray.mk #[13, 10]).size = 2 := rfl

theorem step_str {ops : Array Oper} {w w0 : World} {o : Oper} {a : Act} {K : Act → World → Prop} {Q : Exit → Act → World → Prop} {E : Prop} (hgd : o.guard = none) (s x : Operand)
    (ho : o.op = .call { callee := .builtin .append, args := #[s, x], argTypes := #[43, 9] })
    (base : Nat) (v : Value) (P : Bs) (t : ByteArray) (hs : a.eval s = v) (hx : a.eval x = .string t) (h1 : w.ownsRow base 5 1 v P.length (Lib.byteCells P))
    (hB : base ≤ w.heap.size) (hP : P.length + t.size ≤ 1048576) (p q : Addr) (u1 u2 : Value) (hcell : ∀ W, Below base w0 W → W.cell? p = some u1 ∧ W.cell? q = some u2) (hb : Below base w0 w)
    (h : ∀ v' w', w'.ownsRow base 5 1 v' (P ++ bs t).length (Lib.byteCells (P ++ bs t)) → Below base w0 w' → w'.cell? p = some u1 → w'.cell? q = some u2 → base ≤ w'.heap.size → K (a.put o.dst v') w') :
    if Region.wanted o (yielded ops a.tmps) = true then Oper.wp Tryz.prog o a w K Q else E := by
  have hw : Region.wanted o (yielded ops a.tmps) = true := by simp [Region.wanted, hgd]
  rw [if_pos hw]
  obtain ⟨i0, hi, hz0, hz1, hz2⟩ := info_parts byteInf
  obtain ⟨v', w', hr, h2, h3, -⟩ := Lib.run_append_own_string (P := Tryz.prog) w base 43 9 o.type 5 i0 Tryz.underlying43 Tryz.underlying9 hi hz0 hz1 hz2 v P.length (Lib.byteCells P) h1 t (by unfold maxLen; omega) (by omega) hB
  have hb2 := hb.grown h3 hB (fun k hk => (h1.lt k hk).1)
  have hc := hcell _ hb2
  have hsz : w.heap.size ≤ w'.heap.size := h3.size
  unfold Oper.wp execOp
  simp only [ho, resolve, invoke, builtin, Sem.run_bind, Sem.run_pure, Result.andThen_ok, List.map_toArray, List.map_cons, List.map_nil, hs, hx, hr]
  refine h v' w' ?_ hb2 hc.1 hc.2 (Nat.le_trans hB hsz)
  rw [List.length_append, length_bs, cells_str]
  exact h2

theorem conv_bytes {w : World} {B : Nat} {v : Value} {P : Bs} (h : w.ownsRow B 5 1 v P.length (Lib.byteCells P)) : ∃ a c, v = .slice a P.length c ∧ (convert 43 9 (.slice a P.length c)).run Tryz.prog w = .ok (.string (mkS P)) w := by
  rcases h.2 with ⟨hv, hn⟩ | ⟨g, cap, cur, hv, _⟩
  · have hP : P = [] := List.eq_nil_of_length_eq_zero hn
    subst hP
    exact ⟨none, 0, hv, run_convert_bytes_nil w 43 5 Tryz.underlying43 Tryz.underlying5 0 0 9 Tryz.underlying9⟩
  · refine ⟨some ⟨g, 0, none⟩, cap, hv, ?_⟩
    exact run_convert_bytes_back (P := Tryz.prog) w 43 9 5 ⟨g, 0, none⟩ cap P Tryz.underlying43 Tryz.underlying5 Tryz.underlying9 (fun j hj => h.cells (g := g) (by rw [hv]; rfl) j _ (by simp [Lib.byteCells, hj]))

set_option maxHeartbeats 8000000 in
set_option maxRecDepth 100000 in
theorem rbytes_any (v : Value) (l : List (Bs × Bs)) (w : World) (hs : IsFlds w v l) (hz : sumF l ≤ 100000) (hl : l.length ≤ 100000) :
    Calls Tryz.prog 19 #[v] w (BytesPost l w) := by
  have HS := Lib.hid hs
  obtain ⟨a, cap, rfl⟩ : ∃ a cap, v = .slice a l.length cap := by obtain ⟨a, c, h, -⟩ := hs; exact ⟨a, c, h⟩
  have HMem := Lib.hid (sumF_mem l)
  have HZ := Lib.hid hz
  clear hs hz
  go_enter Tryz.func19, Tryz.ntmps19
  go_wp2_with fail
  go_loopw [4, 5] (fun v4 vi wr => ∃ i : Nat, i ≤ l.length ∧ vi = .int .i64 i ∧ Hid (okFs (l.take i) = true) ∧ Hid (wr.ownsRow w.heap.size 5 1 v4 (linesF (l.take i)).length (Lib.byteCells (linesF (l.take i)))) ∧ Hid (Below w.heap.size w wr)) (fun _ vi _ => l.length - (RowKit.intOf vi).toNat)
  case atStart => exact ⟨0, Nat.zero_le _, rfl, rfl, World.ownsRow_nil _ _ _ _, Below.refl _ _⟩
  case round =>
    obtain ⟨i, hi, rfl, hok, HO, HB⟩ := hrel
    rename World => W
    have hpl := lines_len (l.take i)
    have hpt := sumF_take l i
    by_cases hlt : i < l.length
    · obtain ⟨a', c', e', hcap, hc⟩ := isFlds_below HS.out HB.out
      injection e' with e1 _ e2
      subst e1 e2
      obtain ⟨b, o, rfl, hc0, hc1⟩ := hc i (l.getD i ([], [])) (by simp [List.getD, hlt])
      have hmm : l.getD i ([], []) ∈ l := by simp [List.getD, hlt]
      have hm := HMem.out _ hmm
      have htk : l.take (i + 1) = l.take i ++ [l.getD i ([], [])] := by
        rw [List.take_succ_eq_append_getElem hlt]; simp [List.getD, hlt]
      have HTK := Lib.hid htk
      have HMM := Lib.hid hmm
      clear hc htk hmm
      generalize l.getD i ([], []) = f at *
      obtain ⟨n, x⟩ := f
      have hnz := size_mkS n
      have hxz := size_mkS x
      simp only at hm hc0 hc1
      have hmz : n.length + x.length ≤ 100000 := by have := HZ.out; omega
      have HC := fun W : World => rcheck_any (mkS n) (mkS x) W (by omega) (by omega)
      rw [bs_mkS, bs_mkS] at HC
      have g0 : (0 : Int) ≤ (i : Int) := by omega
      have g1 : (i : Int) < (l.length : Int) := by omega
      have hlb : b < W.heap.size := cell_lt (p := ⟨b, o + i * 2, none⟩) hc0
      have HLen := Lib.hid (show (linesF (l.take i)).length ≤ 100000 ∧ n.length + x.length ≤ 100000 from ⟨by rw [hpl]; have := HZ.out; omega, hmz⟩)
      clear hnz hxz hm hmz hpl hpt
      cases hk : okF n x
      · rw [okE_no _ _ hk] at HC
        have hno := okFs_take_no l (n, x) HMM.out hk
        have e1 : byN l = [] := by unfold byN; rw [hno]; rfl
        have e2 : byE l = 4 := by unfold byE; rw [hno]; rfl
        have E1 := Lib.hid e1
        have E2 := Lib.hid e2
        have HC2 := Lib.hid HC
        clear HC hk hno e1 e2
        go_wp2_with fail
        refine (HC2.out _).mono ?_
        rintro e w5 ⟨rfl, hb⟩
        have HB5 := Lib.hid (HB.out.trans (hb.mono HB.out.size))
        clear hb
        go_wp2_with fail
        go_ret2
        exact ⟨by rw [E1.out, E2.out]; rfl, HB5.out⟩
      · rw [okE_ok _ _ hk] at HC
        have hok2 := okFs_snoc _ (n, x) hok.out hk
        rw [← HTK.out] at hok2
        have hln := lines_snoc (l.take i) (n, x)
        rw [← HTK.out] at hln
        simp only at hln
        have HLN := Lib.hid hln
        have HOK := Lib.hid hok2
        have HC2 := Lib.hid HC
        clear HC hk hok2 hln
        generalize linesF (l.take i) = P at *
        go_wp2_with fail
        refine (HC2.out _).mono ?_
        rintro e w5 ⟨rfl, hb⟩
        have hO5 := own_keep HO.out hb
        have hB5 := HB.out.trans (hb.mono HB.out.size)
        have hc5 := (hb.cell (p := ⟨b, o + i * 2, none⟩) hlb).trans hc0
        have hd5 := (hb.cell (p := ⟨b, o + i * 2 + 1, none⟩) hlb).trans hc1
        have hB5d : Below w.heap.size w w5.drew := hB5.drew
        have hO5d : w5.drew.ownsRow w.heap.size 5 1 u4 P.length (Lib.byteCells P) := own_keep hO5 (Below.refl _ _).drew
        have hc5d : w5.drew.cell? ⟨b, o + i * 2, none⟩ = some (.string (mkS n)) := hc5
        have hd5d : w5.drew.cell? ⟨b, o + i * 2 + 1, none⟩ = some (.string (mkS x)) := hd5
        have hs5d : w.heap.size ≤ w5.drew.heap.size := hB5d.size
        have hbw : b < w.heap.size := by
          obtain ⟨a2, c2, e2, -, hc2⟩ := HS.out
          injection e2 with e3 _ e4
          obtain ⟨b3, o3, e5, h0, -⟩ := hc2 i (n, x) (by
            have := congrArg (fun q => q[i]?) HTK.out
            simpa [List.getElem?_append, List.getElem?_take, Nat.min_eq_left hi] using this)
          rw [← e3] at e5
          injection e5 with e6
          injection e6 with e7 e8
          subst e7
          exact cell_lt (p := ⟨b, o3 + i * 2, none⟩) h0
        have HCl : Hid (∀ W', Below w.heap.size w5 W' → W'.cell? ⟨b, o + i * 2, none⟩ = some (.string (mkS n)) ∧ W'.cell? ⟨b, o + i * 2 + 1, none⟩ = some (.string (mkS x))) := fun W' h => ⟨(h.cell (p := ⟨b, o + i * 2, none⟩) hbw).trans hc5, (h.cell (p := ⟨b, o + i * 2 + 1, none⟩) hbw).trans hd5⟩
        have hB6 : Below w.heap.size w5 w5.drew := ((Below.refl _ _).drew)
        clear hB5d
        have HB5 := Lib.hid hB5
        have HLn := HLen.out
        clear hB5 hlb hc0 hc1
        go_wp2_with fail
        go_region_held3 (fun w' => w'.cell? ⟨b, o + i * 2, none⟩ = some (.string (mkS n)) ∧ w'.cell? ⟨b, o + i * 2 + 1, none⟩ = some (.string (mkS x))) (first | (refine ⟨?_, ?_⟩ <;> assumption)) (first | (refine step_str (by rfl) _ _ (by rfl) w.heap.size _ _ _ (by rfl) (by rfl) (by assumption) (by assumption) (by simp only [List.length_append, length_bs, size_mkS, two58, two13]; omega) ⟨b, o + i * 2, none⟩ ⟨b, o + i * 2 + 1, none⟩ _ _ HCl.out (by assumption) ?_; intro v6 w6 ho6 hb6 hc6 hd6 hs6))
        all_goals
          have HB6 := Lib.hid (HB5.out.trans hb6)
          have HO6 := Lib.hid ho6
          clear ho6 hb6 hc6 hd6 hO5d hc5d hd5d hO5 hc5 hd5 hB6 HLn
          go_wp2_with fail
          refine ⟨⟨i + 1, by omega, by go_num, HOK, ?_, HB6⟩, by simp [RowKit.intOf]; omega⟩
          show World.ownsRow _ _ _ _ _ _ _
          rw [HLN.out]
          have h := HO6.out
          rw [bs_mkS, bs_mkS] at h
          exact h
    · have hil : l.take i = l := List.take_of_length_le (by omega)
      rw [hil] at hok HO
      have e1 : byN l = linesF l := by unfold byN; rw [hok.out]; rfl
      have e2 : byE l = 0 := by unfold byE; rw [hok.out]; rfl
      have E1 := Lib.hid e1
      have E2 := Lib.hid e2
      obtain ⟨ra, rc, rfl, hcv⟩ := conv_bytes HO.out
      have c3 : ¬ (i : Int) < (l.length : Int) := by omega
      clear hil e1 e2 hpl hpt
      generalize linesF l = P at *
      go_wp2_with fail
      go_ret2
      exact ⟨by rw [E1.out, E2.out]; rfl, HB.out⟩
end Tk
end Go.Proofs.YtanilbckakoogaaGreatDoor
namespace Go.Proofs.YtanilbckakoogaaGreatDoor
open Go.RowKit
namespace Tk

set_option maxHeartbeats 2000000 in
set_option maxRecDepth 100000 in
theorem rencode_no (body : ByteArray) (size : Int) (v : Value) (l : List (Bs × Bs)) (w : World) (hs : IsFlds w v l) (hz : sumF l ≤ 100000) (hl : l.length ≤ 100000) (hok : okFs l = false) :
    Calls Tryz.prog 7 #[.string body, .int .i64 size, v] w (EncPost (bs body) size l w) := by
  have h := rbytes_any v l w hs hz hl
  have e1 : byN l = [] := by unfold byN; rw [hok]; rfl
  have e2 : byE l = 4 := by unfold byE; rw [hok]; rfl
  unfold BytesPost at h
  unfold EncPost
  rw [e1, e2] at h
  rw [e2, hok]
  have H := Lib.hid h
  obtain ⟨a, cap, rfl⟩ : ∃ a cap, v = .slice a l.length cap := by obtain ⟨a, c, h, -⟩ := hs; exact ⟨a, c, h⟩
  clear h hs hz hl hok e1 e2
  go_enter Tryz.func7, Tryz.ntmps7
  go_wp2_with fail
  refine H.out.mono ?_
  rintro e w1 ⟨rfl, hb⟩
  have HB := Lib.hid hb
  clear hb
  go_wp2_with fail
  go_ret2
  exact ⟨rfl, HB.out⟩

set_option maxHeartbeats 8000000 in
set_option maxRecDepth 100000 in
theorem rencode_ok (body : ByteArray) (size : Int) (k : Nat) (v : Value) (l : List (Bs × Bs)) (w : World) (hs : IsFlds w v l) (hz : sumF l ≤ 100000) (hl : l.length ≤ 100000) (hok : okFs l = true) (hbz : body.size ≤ 200)
    (hsz : (size < 1 ∧ (1 : Int) < body.size ∧ (k : Int) = body.size) ∨ (size < 1 ∧ ¬ (1 : Int) < body.size ∧ k = 1) ∨ (¬ size < 1 ∧ size = (k : Int) ∧ size ≤ 9223372036854775807)) :
    Calls Tryz.prog 7 #[.string body, .int .i64 size, v] w fun e w' => e = .returned (.tuple #[.string (mkS (encL k (bs body) (linesF l))), .int .i64 0]) ∧ Below w.heap.size w w' := by
  have h := rbytes_any v l w hs hz hl
  have e1 : byN l = linesF l := by unfold byN; rw [hok]; rfl
  have e2 : byE l = 0 := by unfold byE; rw [hok]; rfl
  unfold BytesPost at h
  rw [e1, e2] at h
  have hll := lines_len l
  have hk0 : 1 ≤ k := by omega
  have H := Lib.hid h
  have hlen := length_bs body
  have HCL := Lib.hid (chunks_len k _ (bs body) (Nat.le_refl _) (by omega))
  have HLen := Lib.hid hlen
  have hk1 : (0 : Int) ≤ (k : Int) := by omega
  have hk2 : (k : Int) ≤ 9223372036854775807 := by omega
  have HR := Lib.hid (show encL k (bs body) (linesF l) = chunksL k (bs body) ++ [48, 13, 10] ++ linesF l ++ [13, 10] from rfl)
  have hFz : (mkS (linesF l)).size ≤ 100000 := by rw [size_mkS]; omega
  generalize linesF l = F at *
  obtain ⟨a, cap, rfl⟩ : ∃ a cap, v = .slice a l.length cap := by obtain ⟨a, c, h, -⟩ := hs; exact ⟨a, c, h⟩
  clear h hs hz hl hok e1 e2 hll hlen
  have hmx : size < 1 → max (1 : Int) (body.size : Int) = (k : Int) := fun h => by omega
  have hsz2 : size < 1 ∨ (¬ size < 1 ∧ size = (k : Int)) := by omega
  clear hsz
  rcases hsz2 with h1 | ⟨h1, h2⟩
  all_goals
    first | (have hmx := hmx h1) | skip
    first | subst h2 | skip
    go_enter Tryz.func7, Tryz.ntmps7
    go_wp2_with fail
    refine H.out.mono ?_
    rintro e w1 ⟨rfl, hb⟩
    have HB1 := Lib.hid hb
    clear hb
    go_wp2_with fail
    try rw [hmx]
    clear h1 hmx
    go_loopw [10, 11] (fun v10 v11 wr => ∃ (at' : Nat) (o : Bs), v10 = .string (mkS o) ∧ v11 = .int .i64 at' ∧ at' ≤ body.size ∧ Hid (chunksL k (bs body) = o ++ chunksL k ((bs body).drop at')) ∧ Hid (Below w.heap.size w wr)) (fun _ v11 _ => body.size - (RowKit.intOf v11).toNat)
    case atStart => exact ⟨0, [], rfl, rfl, Nat.zero_le _, rfl, HB1⟩
    case round =>
      obtain ⟨p, o, rfl, rfl, hp, hch, HB⟩ := hrel
      rename World => W
      have hol : o.length ≤ 1400 := by
        have h1 := HCL.out
        rw [hch.out, List.length_append, HLen.out] at h1
        omega
      have hoz : (mkS o).size ≤ 1400 := by rw [size_mkS]; exact hol
      clear hol
      by_cases hlt : p < body.size
      · obtain ⟨m, hm⟩ : ∃ m, m = min k (body.size - p) := ⟨_, rfl⟩
        have hm0 : 0 < m := by omega
        have hmp : p + m ≤ body.size := by omega
        have hdl : ((bs body).drop p).length = body.size - p := by rw [List.length_drop, HLen.out]
        have hne : (bs body).drop p ≠ [] := by intro h; rw [h] at hdl; simp only [List.length_nil] at hdl; omega
        have htk : ((bs body).drop p).take k = ((bs body).drop p).take m := by
          rcases Nat.le_total k (body.size - p) with h | h
          · rw [hm, Nat.min_eq_left h]
          · rw [hm, Nat.min_eq_right h, List.take_of_length_le (by omega), List.take_of_length_le (by omega)]
        have hdk : ((bs body).drop p).drop k = (bs body).drop (p + m) := by
          rcases Nat.le_total k (body.size - p) with h | h
          · rw [hm, Nat.min_eq_left h, List.drop_drop]
          · rw [hm, Nat.min_eq_right h, List.drop_of_length_le (by omega), List.drop_of_length_le (by rw [HLen.out]; omega)]
        have hcc := chunksL_cons k ((bs body).drop p) hne (by omega)
        rw [htk, hdk, List.length_take, hdl, Nat.min_eq_left (by omega)] at hcc
        have HNX : Hid (chunksL k (bs body) = (o ++ hexL m ++ [13, 10] ++ ((bs body).drop p).take m ++ [13, 10]) ++ chunksL k ((bs body).drop (p + m))) := by
          show chunksL k (bs body) = _
          rw [hch.out, hcc]; simp only [List.append_assoc]
        have hmin : min (k : Int) ((body.size : Int) - (p : Int)) = (m : Int) := by omega
        have hmin2 : min ((body.size : Int) - (p : Int)) (k : Int) = (m : Int) := by omega
        have HX : Hid (bs (body.extract p (p + m)) = ((bs body).drop p).take m) := by show bs _ = _; rw [bs_extract, Nat.add_sub_cancel_left]
        have hhx : (mkS (hexL m)).size ≤ 2 := by rw [size_mkS]; exact hexF_len hexc 1 m (by omega)
        have HDg := Lib.hid (fun W : World => rdigits_any m W (by omega))
        obtain ⟨K, hK⟩ : ∃ K, K = p + m := ⟨_, rfl⟩
        have hw : IntKind.i64.wrap ((p : Int) + (m : Int)) = (K : Int) := by rw [IntWalk.i64_in _ (by omega)]; omega
        have r0 : (0 : Int) ≤ (p : Int) := by omega
        have r1 : (p : Int) ≤ (K : Int) := by omega
        have r2 : (K : Int) ≤ (body.size : Int) := by omega
        have r3 : p < K := by omega
        have r4 : K ≤ body.size := by omega
        rw [← hK] at HX HNX
        clear hch hcc hne htk hdk hdl hm hm0 hmp hK
        generalize hexL m = X at *
        generalize ((bs body).drop p).take m = Y at *
        go_wp2_with fail
        have z0 : (ByteArray.mk #[13, 10]).size = 2 := rfl
        first
        | go_region_with (first | (go_at_call 20; refine (HDg.out _).mono ?_; rintro e w' ⟨rfl, rfl⟩))
        | fail
        all_goals
          go_wp2_with fail
          refine ⟨⟨K, o ++ X ++ [13, 10] ++ Y ++ [13, 10], ?_, rfl, r4, HNX, HB.out.drew⟩, by simp [RowKit.intOf]; omega⟩
          have hy : body.extract p K = mkS Y := by rw [← HX.out, mkS_bs]
          rw [hy, show (ByteArray.mk #[13, 10]) = mkS [13, 10] from rfl, mkS_append, mkS_append, mkS_append, mkS_append]
      · have hpe : p = body.size := by omega
        have hc2 : chunksL k (bs body) = o := by
          rw [hch.out, List.drop_of_length_le (by rw [HLen.out]; omega), chunksL_nil, List.append_nil]
        have HC2 := Lib.hid hc2
        have c3 : ¬ (p : Int) < (body.size : Int) := by omega
        clear hc2 hch hpe
        go_wp2_with fail
        go_ret2
        refine ⟨?_, HB.out⟩
        rw [HR.out, HC2.out]
        rw [← mkS_append, ← mkS_append, ← mkS_append]
        rfl

theorem rencode_any (body : ByteArray) (size : Int) (v : Value) (l : List (Bs × Bs)) (w : World) (hs : IsFlds w v l) (hz : sumF l ≤ 100000) (hl : l.length ≤ 100000) (hbz : body.size ≤ 200) (hsz : size ≤ 9223372036854775807) :
    Calls Tryz.prog 7 #[.string body, .int .i64 size, v] w (EncPost (bs body) size l w) := by
  cases hok : okFs l
  · exact rencode_no body size v l w hs hz hl hok
  · have e2 : byE l = 0 := by unfold byE; rw [hok]; rfl
    have key : ∀ k : Nat, encL k (bs body) (linesF l) = encL (encK size (bs body)) (bs body) (linesF l) → ((size < 1 ∧ (1 : Int) < body.size ∧ (k : Int) = body.size) ∨ (size < 1 ∧ ¬ (1 : Int) < body.size ∧ k = 1) ∨ (¬ size < 1 ∧ size = (k : Int) ∧ size ≤ 9223372036854775807)) →
        Calls Tryz.prog 7 #[.string body, .int .i64 size, v] w (EncPost (bs body) size l w) := by
      intro k h1 h2
      refine (rencode_ok body size k v l w hs hz hl hok hbz h2).mono ?_
      rintro e w' ⟨rfl, hb⟩
      unfold EncPost
      rw [hok, e2, h1]
      exact ⟨rfl, hb⟩
    have hlb := length_bs body
    by_cases h1 : size < 1
    · have hK : encK size (bs body) = body.size := by unfold encK; rw [if_pos h1, hlb]
      by_cases h2 : (1 : Int) < body.size
      · exact key body.size (by rw [hK]) (.inl ⟨h1, h2, rfl⟩)
      · refine key 1 ?_ (.inr (.inl ⟨h1, h2, rfl⟩))
        rw [hK]
        by_cases h3 : body.size = 1
        · rw [h3]
        · have h0 : bs body = [] := List.eq_nil_of_length_eq_zero (by omega)
          unfold encL
          rw [h0, chunksL_nil, chunksL_nil]
    · have hK : encK size (bs body) = size.toNat := by unfold encK; rw [if_neg h1]
      exact key size.toNat (by rw [hK]) (.inr (.inr ⟨h1, by omega, hsz⟩))
end Tk
end Go.Proofs.YtanilbckakoogaaGreatDoor
namespace Go.Proofs.YtanilbckakoogaaGreatDoor
open Go.RowKit
namespace Tk

def lightT (l : List (Bs × Bs)) : Bool := decide (l.length ≤ 10) && lfGo 300 0 l
theorem lightT_parts (l : List (Bs × Bs)) (h : lightT l = true) : l.length ≤ 10 ∧ sumF l ≤ 340 := by
  unfold lightT at h
  rw [Bool.and_eq_true, decide_eq_true_eq] at h
  have := lfGo_sum 300 l 0 (by omega) h.2
  exact ⟨h.1, by omega⟩

set_option maxHeartbeats 2000000 in
set_option maxRecDepth 100000 in
theorem lightTen_any (v : Value) (l : List (Bs × Bs)) (w : World) (hs : IsFlds w v l) (hz : ∀ f ∈ l, f.1.length ≤ 140737488351232 ∧ f.2.length ≤ 140737488351232) (hl : l.length ≤ 140737488351232) :
    Calls Tryz.prog 5 #[v, .int .i64 10, .int .i64 300] w fun e w' => e = .returned (.bool (lightT l)) ∧ ∃ n, w' = w.drewN n := by
  obtain ⟨a, c, rfl, hcap, hc⟩ := hs
  have HC := Lib.hid hc
  have HZ := Lib.hid hz
  clear hc hz
  by_cases h20 : 10 < l.length
  · have fin : lightT l = false := by unfold lightT; rw [decide_eq_false (by omega)]; rfl
    have HF := Lib.hid fin
    have h' : (10 : Int) < (l.length : Int) := by omega
    clear fin
    go_enter Tryz.func5, Tryz.ntmps5
    go_wp2_with fail
    go_ret
    exact ⟨by rw [HF.out]; rfl, 0, rfl⟩
  · have fin : lightT l = lfGo 300 0 l := by unfold lightT; rw [decide_eq_true (by omega)]; rfl
    have HF := Lib.hid fin
    have h' : ¬ (10 : Int) < (l.length : Int) := by omega
    clear fin
    go_enter Tryz.func5, Tryz.ntmps5
    go_wp2_with fail
    go_loopw [7, 8] (fun vn vi wr => ∃ (i n m : Nat), i ≤ l.length ∧ n ≤ 300 ∧ vi = .int .i64 i ∧ vn = .int .i64 n ∧ wr = w.drewN m ∧ Hid (lightT l = lfGo 300 n (l.drop i))) (fun _ vi _ => l.length - (RowKit.intOf vi).toNat)
    case atStart => exact ⟨0, 0, 0, by omega, by omega, rfl, rfl, rfl, HF.out⟩
    case round =>
      obtain ⟨i, n, m, hi, hn, rfl, rfl, rfl, hd⟩ := hrel
      by_cases hlt : i < l.length
      · obtain ⟨b, o, rfl, hc0, hc1⟩ := HC.out i (l.getD i ([], [])) (by simp [List.getD, hlt])
        obtain ⟨z0, z1⟩ := HZ.out (l.getD i ([], [])) (by simp [List.getD, hlt])
        have hdr : l.drop i = l.getD i ([], []) :: l.drop (i + 1) := by rw [List.drop_eq_getElem_cons hlt]; simp [List.getD, hlt]
        have HD := Lib.hid hdr
        clear hdr
        generalize l.getD i ([], []) = f at *
        obtain ⟨x, y⟩ := f
        simp only at z0 z1 hc0 hc1
        have s0 := size_mkS x
        have s1 := size_mkS y
        have HS0 := Lib.hid s0
        have HS1 := Lib.hid s1
        have y0 : (mkS x).size ≤ 140737488351232 := by omega
        have y1 : (mkS y).size ≤ 140737488351232 := by omega
        clear s0 s1 z0 z1
        have hb0 : (0 : Int) ≤ (i : Int) := by omega
        have hb1 : (i : Int) < (l.length : Int) := by omega
        by_cases hb : 300 < n + (mkS x).size + (mkS y).size
        · have fin : lightT l = false := by
            rw [hd.out, HD.out, lfGo, if_pos (by rw [← HS0.out, ← HS1.out]; exact hb)]
          have HF2 := Lib.hid fin
          have hb' : (300 : Int) < (n : Int) + ((mkS x).size : Int) + ((mkS y).size : Int) := by omega
          clear fin HF HD hd
          generalize mkS x = s at *
          generalize mkS y = t at *
          have w1 : IntKind.i64.wrap ((n : Int) + (s.size : Int)) = (n : Int) + (s.size : Int) := IntWalk.i64_in _ (by omega)
          have w2 : IntKind.i64.wrap ((n : Int) + (s.size : Int) + (t.size : Int)) = (n : Int) + (s.size : Int) + (t.size : Int) := IntWalk.i64_in _ (by omega)
          go_wp2_with fail
          go_quiet (fail)
          clear w1 w2
          go_wp2_with fail
          go_ret
          exact ⟨by rw [HF2.out]; rfl, _, rfl⟩
        · have nx : lightT l = lfGo 300 (n + (mkS x).size + (mkS y).size) (l.drop (i + 1)) := by
            rw [hd.out, HD.out, lfGo, if_neg (by rw [← HS0.out, ← HS1.out]; exact hb), HS0.out, HS1.out]
          have HN := Lib.hid nx
          have hb' : ¬ (300 : Int) < (n : Int) + ((mkS x).size : Int) + ((mkS y).size : Int) := by omega
          clear nx HF HD hd
          generalize mkS x = s at *
          generalize mkS y = t at *
          have w1 : IntKind.i64.wrap ((n : Int) + (s.size : Int)) = (n : Int) + (s.size : Int) := IntWalk.i64_in _ (by omega)
          have w2 : IntKind.i64.wrap ((n : Int) + (s.size : Int) + (t.size : Int)) = (n : Int) + (s.size : Int) + (t.size : Int) := IntWalk.i64_in _ (by omega)
          go_wp2_with fail
          go_quiet (fail)
          clear w1 w2
          go_wp2_with fail
          exact ⟨⟨i + 1, n + s.size + t.size, _, by omega, by omega, by go_num, by go_num, rfl, HN⟩, by simp [RowKit.intOf]; omega⟩
      · have fin : lightT l = true := by rw [hd.out, List.drop_eq_nil_of_le (by omega)]; rfl
        have HF2 := Lib.hid fin
        clear fin
        go_wp2_with fail
        go_ret
        exact ⟨by rw [HF2.out]; rfl, _, rfl⟩

end Tk
end Go.Proofs.YtanilbckakoogaaGreatDoor
namespace Go.Proofs.YtanilbckakoogaaGreatDoor
open Go.RowKit
namespace Tk

theorem drewN_below (w : World) (n : Nat) : Below w.heap.size w (w.drewN n) := ⟨rfl, rfl, rfl, Nat.le_refl _, fun _ _ => rfl⟩

set_option maxRecDepth 100000 in
set_option maxHeartbeats 4000000 in
theorem calls05_big (s body : ByteArray) (size : Int) (v : Value) (l : List (Bs × Bs)) (w : World) (hs : IsFlds w v l) (hv : ErrV w.heap.size w) (hz : ∀ f ∈ l, f.1.length ≤ 140737488351232 ∧ f.2.length ≤ 140737488351232) (hl : l.length ≤ 140737488351232)
    (hb : 200 < s.size ∨ (s.size ≤ 200 ∧ (200 < body.size ∨ (body.size ≤ 200 ∧ lightT l = false)))) :
    Calls Tryz.prog 3 #[.string s, .string body, .int .i64 size, v] w (Yes2 w) := by
  have HL := Lib.hid (lives05_any w hv)
  have HLt := Lib.hid (fun W (h : Below w.heap.size w W) => lightTen_any v l W (isFlds_below hs h) hz hl)
  unfold Yes2 at HL ⊢
  obtain ⟨a, cap, rfl⟩ : ∃ a cap, v = .slice a l.length cap := by obtain ⟨a, c, h, -⟩ := hs; exact ⟨a, c, h⟩
  have hcase : (200 : Int) < (s.size : Int) ∨ (¬ (200 : Int) < (s.size : Int) ∧ ((200 : Int) < (body.size : Int) ∨ (¬ (200 : Int) < (body.size : Int) ∧ lightT l = false))) := by
    rcases hb with h | ⟨h, h2 | ⟨h2, h3⟩⟩
    · exact .inl (by omega)
    · exact .inr ⟨by omega, .inl (by omega)⟩
    · exact .inr ⟨by omega, .inr ⟨by omega, h3⟩⟩
  clear hs hv hb hz hl
  rcases hcase with h | ⟨h, h2 | ⟨h2, h3⟩⟩
  · go_enter Tryz.func3, Tryz.ntmps3
    go_wp2_with fail
    refine HL.out.mono ?_
    rintro e w1 ⟨rfl, hb⟩
    have HB1 := Lib.hid hb
    clear hb
    go_wp2_with fail
    go_ret
    exact ⟨rfl, HB1.out⟩
  · go_enter Tryz.func3, Tryz.ntmps3
    go_wp2_with fail
    refine HL.out.mono ?_
    rintro e w1 ⟨rfl, hb⟩
    have HB1 := Lib.hid hb
    clear hb
    go_wp2_with fail
    go_ret
    exact ⟨rfl, HB1.out⟩
  · go_enter Tryz.func3, Tryz.ntmps3
    rw [h3] at HLt
    clear h3
    go_wp2_with fail
    refine HL.out.mono ?_
    rintro e w1 ⟨rfl, hb⟩
    have HB1 := Lib.hid hb
    have H2 := Lib.hid (HLt.out w1 hb)
    clear hb
    go_wp2_with fail
    refine H2.out.mono ?_
    rintro e w2 ⟨rfl, n, rfl⟩
    have HB2 := Lib.hid (HB1.out.trans ((drewN_below w1 n).mono HB1.out.size))
    go_wp2_with fail
    go_ret
    exact ⟨rfl, HB2.out⟩

set_option maxRecDepth 100000 in
set_option maxHeartbeats 8000000 in
theorem calls05_main (s body : ByteArray) (size : Int) (v : Value) (l : List (Bs × Bs)) (w : World) (hs : IsFlds w v l) (hv : ErrV w.heap.size w) (hB : Bruijn w.heap.size w) (hz : ∀ f ∈ l, f.1.length ≤ 140737488351232 ∧ f.2.length ≤ 140737488351232) (hl : l.length ≤ 140737488351232)
    (hss : s.size ≤ 200) (hb : body.size ≤ 200) (hlt : lightT l = true) (hsz : size ≤ 9223372036854775807) :
    Calls Tryz.prog 3 #[.string s, .string body, .int .i64 size, v] w (Yes2 w) := by
  have HL := Lib.hid (lives05_any w hv)
  have HLt := Lib.hid (fun W (h : Below w.heap.size w W) => lightTen_any v l W (isFlds_below hs h) hz hl)
  rw [hlt] at HLt
  obtain ⟨hl1, hl2⟩ := lightT_parts l hlt
  have HE := Lib.hid (fun W (h : Below w.heap.size w W) => encode_any body size v l W (isFlds_below hs h) (by omega) (by omega) hb (hB.later h).top hsz)
  have HR := Lib.hid (fun W (h : Below w.heap.size w W) => rencode_any body size v l W (isFlds_below hs h) (by omega) (by omega) hb hsz)
  unfold EncPost at HE HR
  have HSz := Lib.hid (fun W (h : Below w.heap.size w W) => size_any s W.heap.size W (by omega) (hv.later h).top)
  have HRs := Lib.hid (fun W => rsize_any s W (by omega))
  unfold SizePost at HSz
  unfold RSz at HRs
  generalize (if okFs l then encL (encK size (bs body)) (bs body) (linesF l) else []) = X at *
  generalize byE l = E at *
  generalize (sizeL (bs s)).1 = N at *
  generalize (sizeL (bs s)).2 = C at *
  generalize mkS X = T at *
  have hT : (T.toList == T.toList) = true := by simp
  unfold Yes2 at HL ⊢
  obtain ⟨a, cap, rfl⟩ : ∃ a cap, v = .slice a l.length cap := by obtain ⟨a, c, h, -⟩ := hs; exact ⟨a, c, h⟩
  have i0 : ¬ (200 : Int) < (s.size : Int) := by omega
  have i1 : ¬ (200 : Int) < (body.size : Int) := by omega
  clear hs hv hb hz hl hB hss hlt hl1 hl2 hsz
  go_enter Tryz.func3, Tryz.ntmps3
  go_wp2_with fail
  refine HL.out.mono ?_
  rintro e w1 ⟨rfl, hb⟩
  have HB1 := Lib.hid hb
  have H2 := Lib.hid (HLt.out w1 hb)
  clear hb
  go_wp2_with fail
  refine H2.out.mono ?_
  rintro e w2 ⟨rfl, n, rfl⟩
  have HB2 := Lib.hid (HB1.out.trans ((drewN_below w1 n).mono HB1.out.size))
  generalize w1.drewN n = w2 at *
  have H3 := Lib.hid (HE.out w2 HB2.out)
  go_wp2_with fail
  refine H3.out.mono ?_
  rintro e w3 ⟨rfl, hb⟩
  have HB3 := Lib.hid (HB2.out.trans (hb.mono HB2.out.size))
  have H4 := Lib.hid (HR.out w3 HB3.out)
  clear hb
  go_wp2_with fail
  refine H4.out.mono ?_
  rintro e w4 ⟨rfl, hb⟩
  have HB4 := Lib.hid (HB3.out.trans (hb.mono HB3.out.size))
  have H5 := Lib.hid (HSz.out w4 HB4.out)
  clear hb
  go_wp2_with fail
  refine H5.out.mono ?_
  rintro e w5 ⟨rfl, hb⟩
  have HB5 := Lib.hid (HB4.out.trans (hb.mono HB4.out.size))
  clear hb
  go_wp2_with fail
  refine (HRs.out w5).mono ?_
  rintro e w6 ⟨rfl, rfl⟩
  go_wp2_with fail
  go_ret
  exact ⟨rfl, HB5.out⟩

theorem calls05_any (s body : ByteArray) (size : Int) (v : Value) (l : List (Bs × Bs)) (w : World) (hs : IsFlds w v l) (hv : ErrV w.heap.size w) (hB : Bruijn w.heap.size w) (hz : ∀ f ∈ l, f.1.length ≤ 140737488351232 ∧ f.2.length ≤ 140737488351232) (hl : l.length ≤ 140737488351232) (hsz : size ≤ 9223372036854775807) :
    Calls Tryz.prog 3 #[.string s, .string body, .int .i64 size, v] w (Yes2 w) := by
  by_cases h1 : s.size ≤ 200
  · by_cases h2 : body.size ≤ 200
    · cases h3 : lightT l
      · exact calls05_big s body size v l w hs hv hz hl (.inr ⟨h1, .inr ⟨h2, h3⟩⟩)
      · exact calls05_main s body size v l w hs hv hB hz hl h1 h2 h3 hsz
    · exact calls05_big s body size v l w hs hv hz hl (.inr ⟨h1, .inl (by omega)⟩)
  · exact calls05_big s body size v l w hs hv hz hl (.inl (by omega))
end Tk
end Go.Proofs.YtanilbckakoogaaGreatDoor
