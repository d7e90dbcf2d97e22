/- The document's own weight: what any text is as a weight. -/
import Derived.Test.YtogdmhgblceddaaDoorRefW0
import Derived.Test.YtogdmhgblceddaaDoorUnq
namespace Go.Proofs.YtogdmhgblceddaaDoor
open Go.RowKit
namespace Tk
open Ff

set_option maxHeartbeats 400000 in
theorem refDigit_any (c : UInt8) (w : World) :
    Calls Tryd.prog 62 #[.int .u8 (c.toNat : Int)] w fun r w' => r = .returned (.bool (isDig c)) ∧ w = w' := by
  have hlt := c.toNat_lt
  have hd : isDig c = (decide (48 ≤ c.toNat) && decide (c.toNat ≤ 57)) := rfl
  have HD := Lib.hid hd
  clear hd
  generalize c.toNat = n at *
  by_cases h0 : 48 ≤ n
  · by_cases h1 : n ≤ 57
    · go_enter Tryd.func62, Tryd.ntmps62
      go_wp2_with fail
      go_ret
      exact ⟨by rw [HD.out, decide_eq_true h0, decide_eq_true h1]; simp; omega, rfl⟩
    · go_enter Tryd.func62, Tryd.ntmps62
      go_wp2_with fail
      go_ret
      exact ⟨by rw [HD.out, decide_eq_true h0, decide_eq_false h1]; simp; omega, rfl⟩
  · go_enter Tryd.func62, Tryd.ntmps62
    go_wp2_with fail
    go_ret
    exact ⟨by rw [HD.out, decide_eq_false h0]; rfl, rfl⟩

def RefWPost (l : Bs) (w : World) (e : Ending) (w' : World) : Prop := e = .returned (.tuple #[.float .f64 (wF (wgtL l)), .int .i64 (wE (wgtL l))]) ∧ w = w'

theorem none_head (s : ByteArray) (hp : 0 < s.size) (h0 : ((s[0].toNat : Int) != 48) = true) (h1 : ((s[0].toNat : Int) != 49) = true) : wgtL (bs s) = none := by
  cases h : wgtL (bs s) with
  | none => rfl
  | some k =>
    obtain ⟨c, hc, hl⟩ := wgt_shape _ k h
    have hh := bs_head s hp
    have e : (bs s).head? = some c := by rcases hl with hl | ⟨r, hl, -⟩ <;> rw [hl] <;> rfl
    rw [hh] at e
    injection e with e
    rcases hc with rfl | rfl
    · rw [e] at h0; simp at h0
    · rw [e] at h1; simp at h1
theorem none_long (s : ByteArray) (h : 5 < s.size) : wgtL (bs s) = none := by
  cases hk : wgtL (bs s) with
  | none => rfl
  | some k =>
    obtain ⟨c, hc, hl⟩ := wgt_shape _ k hk
    have hz := length_bs s
    rcases hl with hl | ⟨r, hl, h3⟩ <;> rw [hl] at hz <;> simp at hz <;> omega
theorem none_second (s : ByteArray) (hp : 1 < s.size) (h0 : ((s[1].toNat : Int) != 46) = true) : wgtL (bs s) = none := by
  cases h : wgtL (bs s) with
  | none => rfl
  | some k =>
    obtain ⟨c, hc, hl⟩ := wgt_shape _ k h
    have hz := length_bs s
    rcases hl with hl | ⟨r, hl, -⟩
    · rw [hl] at hz; simp at hz; omega
    · have e := bs_drop s 1 hp
      rw [hl] at e
      simp at e
      rw [← e] at h0; simp at h0

set_option maxHeartbeats 2000000 in
set_option maxRecDepth 100000 in
theorem refWeight_short (s : ByteArray) (w : World) (h : s.size = 0 ∨ 5 < s.size) :
    Calls Tryd.prog 15 #[.string s] w (RefWPost (bs s) w) := by
  rcases h with h | h
  · have hn : wgtL (bs s) = none := by
      have hb : bs s = [] := List.eq_nil_of_length_eq_zero (by rw [length_bs]; exact h)
      rw [hb]; exact wgt_nil
    have HN := Lib.hid hn
    clear hn
    go_enter Tryd.func15, Tryd.ntmps15
    go_wp2_with fail
    go_ret2
    exact ⟨by rw [HN.out]; rfl, rfl⟩
  · have HN := Lib.hid (none_long s h)
    have h1 : ¬ (s.size : Int) < 1 := by omega
    have h2 : (5 : Int) < (s.size : Int) := by omega
    go_enter Tryd.func15, Tryd.ntmps15
    go_wp2_with fail
    go_ret2
    exact ⟨by rw [HN.out]; rfl, rfl⟩

set_option maxHeartbeats 4000000 in
set_option maxRecDepth 100000 in
theorem refWeight_head (s : ByteArray) (w : World) (hp : 0 < s.size) (h5 : s.size ≤ 5) (h0 : ((s[0].toNat : Int) != 48) = true) (h1 : ((s[0].toNat : Int) != 49) = true) :
    Calls Tryd.prog 15 #[.string s] w (RefWPost (bs s) w) := by
  have HN := Lib.hid (none_head s hp h0 h1)
  have k1 : ¬ (s.size : Int) < 1 := by omega
  have k2 : ¬ (5 : Int) < (s.size : Int) := by omega
  go_enter Tryd.func15, Tryd.ntmps15
  go_wp2_with fail
  go_ret2
  exact ⟨by rw [HN.out]; rfl, rfl⟩

theorem second_of (s : ByteArray) (hp : 1 < s.size) (c : UInt8) (h0 : s[0] = c) (h1 : s[1] = 46) : bs s = c :: 46 :: (bs s).drop 2 := by
  have e0 := bs_drop s 0 (by omega)
  have e1 := bs_drop s 1 hp
  rw [List.drop_zero] at e0
  rw [h0, e1, h1] at e0
  exact e0

set_option maxHeartbeats 4000000 in
set_option maxRecDepth 100000 in
theorem refWeight_second (s : ByteArray) (w : World) (hp : 1 < s.size) (h5 : s.size ≤ 5) (c : UInt8) (h0 : s[0] = c) (hc : c = 48 ∨ c = 49) (h1 : ((s[1].toNat : Int) != 46) = true) :
    Calls Tryd.prog 15 #[.string s] w (RefWPost (bs s) w) := by
  have HW := Lib.hid (none_second s hp h1)
  have k1 : ¬ (s.size : Int) < 1 := by omega
  have k2 : ¬ (5 : Int) < (s.size : Int) := by omega
  have k3 : (1 : Int) < (s.size : Int) := by omega
  have hp0 : 0 < s.size := by omega
  rcases hc with rfl | rfl
  · have e : (s[0].toNat : Int) = 48 := by rw [h0]; rfl
    clear h0
    go_enter Tryd.func15, Tryd.ntmps15
    go_wp2_with fail
    go_ret2
    exact ⟨by rw [HW.out]; rfl, rfl⟩
  · have e : (s[0].toNat : Int) = 49 := by rw [h0]; rfl
    clear h0
    go_enter Tryd.func15, Tryd.ntmps15
    go_wp2_with fail
    go_ret2
    exact ⟨by rw [HW.out]; rfl, rfl⟩

theorem mem_take_next (l : Bs) (k : Nat) (h : k < l.length) (p : UInt8 → Prop) (h1 : ∀ x ∈ l.take k, p x) (h2 : p (l.getD k 0)) : ∀ x ∈ l.take (k + 1), p x := by
  intro x hx
  rw [take_snoc l k h, List.mem_append] at hx
  rcases hx with hx | hx
  · exact h1 x hx
  · rw [List.mem_singleton] at hx; rw [hx]; exact h2

theorem getD_mem (l : Bs) (k : Nat) (h : k < l.length) : l.getD k 0 ∈ l := by
  rw [List.getD, List.getElem?_eq_getElem h]; exact List.getElem_mem h

set_option maxHeartbeats 16000000 in
set_option maxRecDepth 100000 in
theorem refWeight_loop (s : ByteArray) (w : World) (hp0 : 0 < s.size) (h5 : s.size ≤ 5) (c : UInt8) (h0 : s[0] = c) (hc : c = 48 ∨ c = 49) (hsh : s.size ≤ 1 ∨ ∃ h : 1 < s.size, s[1] = 46)
    (hbad : (∃ x ∈ (bs s).drop 2, isDig x = false) → wgtL (bs s) = none)
    (hgood : (∀ x ∈ (bs s).drop 2, isDig x = true) → wgtL (bs s) = if 1000 < (c.toNat - 48) * 1000 + pvL 100 ((bs s).drop 2) then none else some ((c.toNat - 48) * 1000 + pvL 100 ((bs s).drop 2))) :
    Calls Tryd.prog 15 #[.string s] w (RefWPost (bs s) w) := by
  have HBAD := Lib.hid hbad
  have HLB := Lib.hid (length_bs s)
  have hr3 : ((bs s).drop 2).length ≤ 3 := by rw [List.length_drop, length_bs]; omega
  have hTb : (∀ x ∈ (bs s).drop 2, isDig x = true) → (c.toNat - 48) * 1000 + pvL 100 ((bs s).drop 2) < 2000 := fun h => by
    have := (num_pv _ hr3 h).2
    rcases hc with rfl | rfl
    · show 0 + _ < 2000; omega
    · show 1000 + _ < 2000; omega
  have k1 : ¬ (s.size : Int) < 1 := by omega
  have k2 : ¬ (5 : Int) < (s.size : Int) := by omega
  obtain ⟨T, hT⟩ : ∃ T, T = (c.toNat - 48) * 1000 + pvL 100 ((bs s).drop 2) := ⟨_, rfl⟩
  rw [← hT] at hgood hTb
  have HGOOD := Lib.hid hgood
  have HTB := Lib.hid hTb
  have HT := Lib.hid hT
  clear hbad hgood hr3 hTb hT
  rcases hsh with h1 | ⟨hp, h1⟩
  all_goals
    rcases hc with rfl | rfl
  all_goals
    first
    | have e : (s[0].toNat : Int) = 48 := by rw [h0]; rfl
    | have e : (s[0].toNat : Int) = 49 := by rw [h0]; rfl
    try have k3 : (1 : Int) < (s.size : Int) := by omega
    try have k3' : ¬ (1 : Int) < (s.size : Int) := by omega
    try have e46 : (s[1].toNat : Int) = 46 := by rw [h1]; rfl
    clear h0
    go_enter Tryd.func15, Tryd.ntmps15
    go_wp2_with fail
    go_loop [4, 5, 6] (fun vn vb vi => ∃ (i n b : Nat), n ≤ 1000 * i ∧ (i = 2 ∨ i ≤ s.size) ∧ vi = .int .i64 i ∧ vn = .int .i64 n ∧ vb = .int .i64 b ∧ (b = 100 ∧ i = 2 ∨ b = 10 ∧ i = 3 ∨ b = 1 ∧ i = 4 ∨ b = 0 ∧ i = 5) ∧ Hid (n + pvL b ((bs s).drop i) = T) ∧ Hid (∀ x ∈ ((bs s).drop 2).take (i - 2), isDig x = true)) (fun _ _ vi => s.size + 2 - (RowKit.intOf vi).toNat)
    case atStart =>
      first
      | exact ⟨2, 0, 100, by omega, .inl rfl, rfl, rfl, rfl, .inl ⟨rfl, rfl⟩, HT.out.symm, fun x hx => by simp at hx⟩
      | exact ⟨2, 1000, 100, by omega, .inl rfl, rfl, rfl, rfl, .inl ⟨rfl, rfl⟩, HT.out.symm, fun x hx => by simp at hx⟩
    case round =>
      obtain ⟨i, n, b, hn, hi, rfl, rfl, rfl, hb, hv, hdg⟩ := hrel
      by_cases hlt : i < s.size
      · have hd := bs_drop s i hlt
        have hI : (i : Int) < (s.size : Int) := by omega
        have hi2 : 2 ≤ i := by omega
        have hgx : ((bs s).drop 2).getD (i - 2) 0 = s[i] := by
          rw [List.getD, List.getElem?_drop, show 2 + (i - 2) = i by omega]
          have := getD_bs s i hlt
          rw [List.getD] at this
          exact this
        have hmem : s[i] ∈ (bs s).drop 2 := by
          rw [← hgx]
          exact getD_mem _ _ (by rw [List.length_drop, HLB.out]; omega)
        have HD := Lib.hid hd
        have HC := refDigit_any s[i] w
        cases hx : isDig s[i]
        · rw [hx] at HC
          have hnone := HBAD.out ⟨s[i], hmem, hx⟩
          have HN := Lib.hid hnone
          have HC2 := Lib.hid HC
          clear HC hnone hx hmem hgx hd hb
          go_wp2_with fail
          refine HC2.out.mono ?_
          rintro e w' ⟨rfl, rfl⟩
          go_wp2_with fail
          go_ret2
          exact ⟨by rw [HN.out]; rfl, rfl⟩
        · rw [hx] at HC
          have hx2 := hx
          unfold isDig at hx2
          simp only [Bool.and_eq_true, decide_eq_true_eq] at hx2
          have x0 : (48 : Int) ≤ (s[i].toNat : Int) := by omega
          have x1 : (s[i].toNat : Int) ≤ 57 := by omega
          have hdg2 : ∀ x ∈ ((bs s).drop 2).take (i + 1 - 2), isDig x = true := by
            rw [show i + 1 - 2 = i - 2 + 1 by omega]
            exact mem_take_next _ _ (by rw [List.length_drop, HLB.out]; omega) _ hdg.out (by rw [hgx]; exact hx)
          have HDG := Lib.hid hdg2
          have HC2 := Lib.hid HC
          have HX := Lib.hid hx2
          clear HC hx hx2 hmem hgx hd hdg2
          rcases hb with ⟨rfl, rfl⟩ | ⟨rfl, rfl⟩ | ⟨rfl, rfl⟩ | ⟨rfl, rfl⟩
          all_goals
            try omega
          all_goals
            go_wp2_with fail
            refine HC2.out.mono ?_
            rintro e w' ⟨rfl, rfl⟩
            go_wp2_with fail
            have hv2 := hv.out
            rw [HD.out] at hv2
            have hx := HX.out
            first
            | exact ⟨⟨3, n + (s[2].toNat - 48) * 100, 10, by omega, .inr (by omega), rfl, by congr 1; omega, rfl, by omega, by (show _ = _); rw [Nat.add_assoc]; exact hv2, HDG⟩, by simp [RowKit.intOf]; omega⟩
            | exact ⟨⟨4, n + (s[3].toNat - 48) * 10, 1, by omega, .inr (by omega), rfl, by congr 1; omega, rfl, by omega, by (show _ = _); rw [Nat.add_assoc]; exact hv2, HDG⟩, by simp [RowKit.intOf]; omega⟩
            | exact ⟨⟨5, n + (s[4].toNat - 48) * 1, 0, by omega, .inr (by omega), rfl, by congr 1; omega, rfl, by omega, by (show _ = _); rw [Nat.add_assoc]; exact hv2, HDG⟩, by simp [RowKit.intOf]; omega⟩
      · have hI : ¬ (i : Int) < (s.size : Int) := by omega
        have hall : ∀ x ∈ (bs s).drop 2, isDig x = true := by
          have := hdg.out
          rw [List.take_of_length_le (by rw [List.length_drop, HLB.out]; omega)] at this
          exact this
        have hnT : n = T := by
          have := hv.out
          rw [List.drop_eq_nil_of_le (by rw [HLB.out]; omega)] at this
          exact this
        have hg := HGOOD.out hall
        have ht := HTB.out hall
        rw [← hnT] at hg ht
        have HG := Lib.hid hg
        clear hall hnT hg hb
        by_cases hk : 1000 < n
        · have hk' : (1000 : Int) < (n : Int) := by omega
          have HG2 : Hid (wgtL (bs s) = none) := by
            have := HG.out
            rw [if_pos hk] at this
            exact this
          go_wp2_with fail
          go_ret2
          exact ⟨by rw [HG2.out]; rfl, rfl⟩
        · have hk' : ¬ (1000 : Int) < (n : Int) := by omega
          have HG2 : Hid (wgtL (bs s) = some n) := by
            have := HG.out
            rw [if_neg hk] at this
            exact this
          have hq := fun W => run_quo2 n ht W
          go_wp2_with fail
          go_ret2
          exact ⟨by rw [HG2.out]; rfl, rfl⟩

theorem refWeight_any (s : ByteArray) (w : World) :
    Calls Tryd.prog 15 #[.string s] w (RefWPost (bs s) w) := by
  by_cases hz : s.size = 0 ∨ 5 < s.size
  · exact refWeight_short s w hz
  · have hp : 0 < s.size := by omega
    have h5 : s.size ≤ 5 := by omega
    by_cases hh : s[0] = 48 ∨ s[0] = 49
    · obtain ⟨c, h0, hc⟩ : ∃ c : UInt8, s[0] = c ∧ (c = 48 ∨ c = 49) := ⟨_, rfl, hh⟩
      by_cases h1 : s.size ≤ 1
      · have hb : bs s = [c] := by
          have e0 := bs_drop s 0 hp
          rw [List.drop_zero, h0, List.drop_eq_nil_of_le (by rw [length_bs]; omega)] at e0
          exact e0
        refine refWeight_loop s w hp h5 c h0 hc (.inl h1) (fun ⟨x, hx, _⟩ => by rw [hb] at hx; simp at hx) (fun _ => ?_)
        rw [hb, wgt_one c hc]
        rcases hc with rfl | rfl <;> decide
      · have h1' : 1 < s.size := by omega
        by_cases h46 : s[1] = 46
        · have hb := second_of s h1' c h0 h46
          have h3 : ((bs s).drop 2).length ≤ 3 := by rw [List.length_drop, length_bs]; omega
          refine refWeight_loop s w hp h5 c h0 hc (.inr ⟨h1', h46⟩) (fun hx => ?_) (fun hx => ?_)
          · rw [hb]; exact wgt_bad_dig c _ hc hx h3
          · have := wgt_point c _ hc hx h3
            rw [← hb] at this
            exact this
        · refine refWeight_second s w h1' h5 c h0 hc ?_
          rw [bne_iff_ne]
          intro e
          exact h46 (UInt8.toNat_inj.1 (show s[1].toNat = 46 by omega))
    · refine refWeight_head s w hp h5 ?_ ?_
      · rw [bne_iff_ne]; intro e; exact hh (.inl (UInt8.toNat_inj.1 (show s[0].toNat = 48 by omega)))
      · rw [bne_iff_ne]; intro e; exact hh (.inr (UInt8.toNat_inj.1 (show s[0].toNat = 49 by omega)))
end Tk
end Go.Proofs.YtogdmhgblceddaaDoor
