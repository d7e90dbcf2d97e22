/- ReA, put together. -/
import Derived.Test.YtajmheblbnodjaaGreatDoorQE
import Derived.Test.YtajmheblbnodjaaGreatDoorQH
import Derived.Deep.Cut
import Derived.StillTailTactics
namespace Go.Proofs.YtajmheblbnodjaaGreatDoor
open Go.RowKit
namespace Tk

set_option maxHeartbeats 1000000 in
set_option maxRecDepth 100000 in
theorem rvalue_any (s : ByteArray) (w : World) (hs : s.size ≤ 140737488355000) :
    Calls Tryz.prog 111 #[.string s] w fun e w' => e = .returned (.bool (opq (bs s))) ∧ w = w' := by
  have HL := Lib.hid (length_bs s)
  have HBad := Lib.hid (fun i hi h => opq_bad (bs s) i hi h)
  have HSt := Lib.hid (fun i hi h => opq_step (bs s) i hi h)
  have H0 : Hid (opq ((bs s).take 0) = true) := rfl
  have HEnd : Hid (opq ((bs s).take s.size) = opq (bs s)) := by
    show _ = _
    rw [List.take_of_length_le (by rw [length_bs]; exact Nat.le_refl _)]
  have HG := Lib.hid (fun i (hi : i < s.size) => getD_bs s i hi)
  generalize opq (bs s) = q at *
  go_enter Tryz.func111, Tryz.ntmps111
  go_wp2_with fail
  go_loop [3] (fun vi => ∃ i : Nat, i ≤ s.size ∧ vi = .int .i64 i ∧ Hid (opq ((bs s).take i) = true)) (fun vi => s.size - (RowKit.intOf vi).toNat)
  case atStart => exact ⟨0, Nat.zero_le _, rfl, H0⟩
  case round =>
    obtain ⟨i, hi, rfl, HA⟩ := hrel
    by_cases hlt : i < s.size
    · have hgd := HG.out i hlt
      have hst := HSt.out i (by rw [HL.out]; exact hlt) HA.out
      have hbd := HBad.out i (by rw [HL.out]; exact hlt)
      rw [hgd] at hst hbd
      have hv : vch s[i] = !(decide ((s[i].toNat : Int) ≤ 32) || ((s[i].toNat : Int) == 34 || (s[i].toNat : Int) == 127)) := rfl
      have HSt2 := Lib.hid hst
      have HBd2 := Lib.hid hbd
      clear hgd hst hbd
      by_cases h1 : (s[i].toNat : Int) ≤ 32
      · have b1 : decide ((s[i].toNat : Int) ≤ 32) = true := decide_eq_true h1
        have b1x : (s[i].toNat : Int) < 33 := by omega
        have HQ := Lib.hid (HBd2.out (by rw [hv, b1]; rfl))
        clear hv
        go_wp2_with fail
        go_ret
        exact ⟨by rw [HQ.out]; rfl, rfl⟩
      · have b1 : decide ((s[i].toNat : Int) ≤ 32) = false := decide_eq_false h1
        have b1x : ¬ (s[i].toNat : Int) < 33 := by omega
        cases b2 : ((s[i].toNat : Int) == 34)
        · cases b3 : ((s[i].toNat : Int) == 127)
          · have HQ := Lib.hid (HSt2.out.trans (show vch s[i] = true by rw [hv, b1, b2, b3]; rfl))
            clear hv
            go_wp2_with fail
            exact ⟨⟨i + 1, hlt, by go_num, HQ⟩, by simp [RowKit.intOf]; omega⟩
          · have HQ := Lib.hid (HBd2.out (by rw [hv, b1, b2, b3]; rfl))
            clear hv
            go_wp2_with fail
            go_ret
            exact ⟨by rw [HQ.out]; rfl, rfl⟩
        · have HQ := Lib.hid (HBd2.out (by rw [hv, b1, b2]; rfl))
          clear hv
          go_wp2_with fail
          go_ret
          exact ⟨by rw [HQ.out]; rfl, rfl⟩
    · obtain rfl : i = s.size := by omega
      have HQ := Lib.hid (HEnd.out.symm.trans HA.out)
      go_wp2_with fail
      go_ret
      exact ⟨by rw [HQ.out]; rfl, rfl⟩

theorem lit874734 : (⟨#[87, 47, 34]⟩ : ByteArray) = mkS [87, 47, 34] := rfl
set_option maxHeartbeats 4000000 in
set_option maxRecDepth 100000 in
theorem rtext11_any (t : Tg) (w : World) (hs : t.2.length ≤ 140737488351232) :
    Calls Tryz.prog 60 #[tgVal t] w fun e w' => e = .returned (.tuple #[.string (mkS (tgT t)), .int .i64 (tgTE t)]) ∧ Below w.heap.size w w' := by
  obtain ⟨k, v⟩ := t
  have H4 := Lib.hid (fun W : World => rvalue_any (mkS v) W (by rw [size_mkS]; simp only at hs; omega))
  rw [bs_mkS] at H4
  have hz := size_mkS v
  simp only at hs
  have hT : tgT (k, v) = if opq v then (if k then [87, 47] else []) ++ ([34] ++ v ++ [34]) else [] := rfl
  have hE : tgTE (k, v) = if opq v then 0 else 4 := rfl
  have HT := Lib.hid hT
  have HE := Lib.hid hE
  have HB := Lib.hid (Two.new w 81 (.bool k) (.string (mkS v)))
  have HBl := Lib.hid (show Below w.heap.size w (w.alloc (.cells #[.bool k, .string (mkS v)] 81)) from (Below.refl _ _).alloc (Nat.le_refl _) _)
  clear hT hE
  unfold tgVal
  generalize tgT (k, v) = T at *
  generalize tgTE (k, v) = E at *
  simp only
  generalize hX : opq v = X at *
  clear hX
  have c0 := HB.out.c0
  have c1 := HB.out.c1
  cases X
  · go_enter Tryz.func60, Tryz.ntmps60
    go_wp2_with fail
    generalize w.alloc (.cells #[.bool k, .string (mkS v)] 81) = W at *
    refine (H4.out _).mono ?_
    rintro e w1 ⟨rfl, rfl⟩
    go_wp2_with fail
    go_ret2
    exact ⟨txRet (by rw [HT.out]; rfl) (by rw [HE.out]; rfl), HBl.out⟩
  · cases k
    · go_enter Tryz.func60, Tryz.ntmps60
      go_wp2_with fail
      generalize w.alloc (.cells #[.bool false, .string (mkS v)] 81) = W at *
      refine (H4.out _).mono ?_
      rintro e w1 ⟨rfl, rfl⟩
      go_wp2_with fail
      go_ret2
      exact ⟨txRet (by rw [HT.out, lit34, mkS_append, mkS_append]; rfl) (by rw [HE.out]; rfl), HBl.out⟩
    · go_enter Tryz.func60, Tryz.ntmps60
      go_wp2_with fail
      generalize w.alloc (.cells #[.bool true, .string (mkS v)] 81) = W at *
      refine (H4.out _).mono ?_
      rintro e w1 ⟨rfl, rfl⟩
      go_wp2_with fail
      go_ret2
      exact ⟨txRet (by rw [HT.out, lit34, lit874734, mkS_append, mkS_append]; rfl) (by rw [HE.out]; rfl), HBl.out⟩

set_option maxHeartbeats 4000000 in
set_option maxRecDepth 100000 in
theorem rstrong11_any (a b : Tg) (w : World) :
    Calls Tryz.prog 63 #[tgVal a, tgVal b] w fun e w' => e = .returned (.bool (stB a b)) ∧ Below w.heap.size w w' := by
  obtain ⟨k, v⟩ := a
  obtain ⟨m, u⟩ := b
  have hA := Two.new w 81 (.bool k) (.string (mkS v))
  have hbA : Below w.heap.size w (w.alloc (.cells #[.bool k, .string (mkS v)] 81)) := (Below.refl _ _).alloc (Nat.le_refl _) _
  have hB := Two.new (w.alloc (.cells #[.bool k, .string (mkS v)] 81)) 81 (.bool m) (.string (mkS u))
  have hbB : Below (w.alloc (.cells #[.bool k, .string (mkS v)] 81)).heap.size (w.alloc (.cells #[.bool k, .string (mkS v)] 81)) ((w.alloc (.cells #[.bool k, .string (mkS v)] 81)).alloc (.cells #[.bool m, .string (mkS u)] 81)) := (Below.refl _ _).alloc (Nat.le_refl _) _
  have a0 := (hA.later hbB).c0
  have a1 := (hA.later hbB).c1
  have b0 := hB.c0
  have b1 := hB.c1
  have HBl := Lib.hid (hbA.trans (hbB.mono (by simp)))
  have hz : (w.alloc (.cells #[.bool k, .string (mkS v)] 81)).heap.size = w.heap.size + 1 := by simp
  rw [hz] at b0 b1
  have hv : stB (k, v) (m, u) = (decide ((k, v) = (m, u)) && !k) := rfl
  have HV := Lib.hid hv
  clear hA hbA hB hbB hz hv
  unfold tgVal
  generalize stB (k, v) (m, u) = q at *
  cases k
  · cases m
    · by_cases hv : v = u
      · have HQ : Hid (q = true) := by show _ = _; rw [HV.out, hv]; simp
        clear HV
        subst hv
        go_enter Tryz.func63, Tryz.ntmps63
        go_wp2_with fail
        go_ret
        exact ⟨by rw [HQ.out]; rfl, HBl.out⟩
      · have hne : ((mkS v).toList == (mkS u).toList) = false := by rw [beq_eq_false_iff_ne, toList_bs, toList_bs, bs_mkS, bs_mkS]; exact hv
        have HQ : Hid (q = false) := by show _ = _; rw [HV.out, decide_eq_false (fun e => hv (by injection e))]; rfl
        clear HV hv
        go_enter Tryz.func63, Tryz.ntmps63
        go_wp2_with fail
        go_ret
        exact ⟨by rw [HQ.out]; rfl, HBl.out⟩
    · have HQ : Hid (q = false) := by show _ = _; rw [HV.out]; simp
      clear HV
      go_enter Tryz.func63, Tryz.ntmps63
      go_wp2_with fail
      go_ret
      exact ⟨by rw [HQ.out]; rfl, HBl.out⟩
  · have HQ : Hid (q = false) := by show _ = _; rw [HV.out]; simp
    clear HV
    go_enter Tryz.func63, Tryz.ntmps63
    go_wp2_with fail
    go_ret
    exact ⟨by rw [HQ.out]; rfl, HBl.out⟩

set_option maxHeartbeats 4000000 in
set_option maxRecDepth 100000 in
theorem rweak11_any (a b : Tg) (w : World) :
    Calls Tryz.prog 64 #[tgVal a, tgVal b] w fun e w' => e = .returned (.bool (wkB a b)) ∧ Below w.heap.size w w' := by
  obtain ⟨k, v⟩ := a
  obtain ⟨m, u⟩ := b
  have hA := Two.new w 81 (.bool k) (.string (mkS v))
  have hbA : Below w.heap.size w (w.alloc (.cells #[.bool k, .string (mkS v)] 81)) := (Below.refl _ _).alloc (Nat.le_refl _) _
  have hB := Two.new (w.alloc (.cells #[.bool k, .string (mkS v)] 81)) 81 (.bool m) (.string (mkS u))
  have hbB : Below (w.alloc (.cells #[.bool k, .string (mkS v)] 81)).heap.size (w.alloc (.cells #[.bool k, .string (mkS v)] 81)) ((w.alloc (.cells #[.bool k, .string (mkS v)] 81)).alloc (.cells #[.bool m, .string (mkS u)] 81)) := (Below.refl _ _).alloc (Nat.le_refl _) _
  have hA2 := hA.later hbB
  have a0 := hA2.c0
  have a1 := hA2.c1
  have f0 := hA2.f0
  have b0 := hB.c0
  have b1 := hB.c1
  have HBl : Hid (∀ x y x' y' : Value, Below w.heap.size w ((w.alloc (.cells #[x, y] 81)).alloc (.cells #[x', y'] 81))) := fun x y x' y' => ((Below.refl _ _).alloc (Nat.le_refl _) _).alloc (by simp) _
  have hz : (w.alloc (.cells #[.bool k, .string (mkS v)] 81)).heap.size = w.heap.size + 1 := by simp
  rw [hz] at b0 b1
  have hv : wkB (k, v) (m, u) = decide (v = u) := rfl
  have HV := Lib.hid hv
  clear hA hA2 hbA hB hbB hz hv
  unfold tgVal
  generalize wkB (k, v) (m, u) = q at *
  by_cases hv : v = u
  · have HQ : Hid (q = true) := by show _ = _; rw [HV.out, hv]; simp
    clear HV
    subst hv
    go_enter Tryz.func64, Tryz.ntmps64
    go_wp2_with fail
    go_ret
    exact ⟨by rw [HQ.out]; rfl, HBl.out _ _ _ _⟩
  · have hne : ((mkS v).toList == (mkS u).toList) = false := by rw [beq_eq_false_iff_ne, toList_bs, toList_bs, bs_mkS, bs_mkS]; exact hv
    have HQ : Hid (q = false) := by show _ = _; rw [HV.out, decide_eq_false hv]
    clear HV hv
    go_enter Tryz.func64, Tryz.ntmps64
    go_wp2_with fail
    go_ret
    exact ⟨by rw [HQ.out]; rfl, HBl.out _ _ _ _⟩

theorem drop_last1 (l : Bs) (h : l ≠ []) : l.drop (l.length - 1) = [l.getLast h] := by
  have hl : l.length - 1 < l.length := by
    rcases l with _ | ⟨x, l⟩
    · exact absurd rfl h
    · simp
  rw [List.drop_eq_getElem_cons hl, List.drop_eq_nil_of_le (by omega), List.getLast_eq_getElem]
theorem tail_tag (q : Bs) (h2 : 2 ≤ q.length) : tgB q = (decide (q.getD 0 0 = 34) && (decide (q.getD (q.length - 1) 0 = 34) && opq ((q.drop 1).take (q.length - 1 - 1)))) ∧ tgV (q.drop 1) = (q.drop 1).take (q.length - 1 - 1) := by
  match q, h2 with
  | a :: b :: t, _ =>
    have e1 : tgC ((a :: b :: t).drop 1) = decide ((a :: b :: t).getD ((a :: b :: t).length - 1) 0 = 34) := by
      unfold tgC
      show decide ((b :: t).drop ((b :: t).length - 1) = [34]) = _
      rw [drop_last1 (b :: t) (by simp)]
      have : (b :: t).getLast (by simp) = (a :: b :: t).getD ((a :: b :: t).length - 1) 0 := by
        simp [List.getD, List.getLast_eq_getElem]
      rw [this]
      by_cases h : (a :: b :: t).getD ((a :: b :: t).length - 1) 0 = 34
      · rw [h]; rfl
      · rw [decide_eq_false h, decide_eq_false (fun e => h (by injection e))]
    have e2 : tgV ((a :: b :: t).drop 1) = ((a :: b :: t).drop 1).take ((a :: b :: t).length - 1 - 1) := by unfold tgV; simp
    refine ⟨?_, e2⟩
    unfold tgB
    rw [e1, e2]
    congr 1
    by_cases h : a = 34
    · subst h; rfl
    · show decide ([a] = [34]) = decide (a = 34)
      rw [decide_eq_false h, decide_eq_false (fun e => h (by injection e))]
theorem short_tag (q : Bs) (h2 : q.length < 2) : tgB q = false := by
  match q, h2 with
  | [], _ => rfl
  | [a], _ =>
    unfold tgB
    have : tgC (List.drop 1 [a]) = false := by rfl
    rw [this]; simp
theorem tgSB (Q : ByteArray) (h : Q.size < 2) : tgB (bs Q) = false := short_tag _ (by rw [length_bs]; exact h)
theorem tg_of (s : Bs) (k : Bool) (q : Bs) (hk : tgW s = k) (hq : tgQ s = q) : tgO s = tgB q ∧ (tgB q = true → tgG s = (k, tgV (q.drop 1)) ∧ tgE s = 0) := by
  have h : tgO s = tgB q := by unfold tgO; rw [hq]
  refine ⟨h, fun hb => ?_⟩
  rw [← h] at hb
  unfold tgG tgE
  rw [if_pos hb, if_pos hb, hk, hq]; exact ⟨rfl, rfl⟩

set_option maxHeartbeats 8000000 in
set_option maxRecDepth 100000 in
theorem rtparse_any (s : ByteArray) (w : World) (hs : s.size ≤ 1099511627776) :
    Calls Tryz.prog 59 #[.string s] w (TgPost (bs s) w) := by
  have HVl := Lib.hid (fun (X : ByteArray) (W : World) h => rvalue_any X W h)
  have HNo := Lib.hid (fun h => tg_no (bs s) h)
  have h1 := Two.new w 81 (.bool false) (.string ⟨#[]⟩)
  have b1 : Below w.heap.size w (w.alloc (.cells #[.bool false, .string ⟨#[]⟩] 81)) := (Below.refl _ _).alloc (Nat.le_refl _) _
  have z1 : (w.alloc (.cells #[.bool false, .string ⟨#[]⟩] 81)).heap.size = w.heap.size + 1 := by simp
  have h2 := Two.new (w.alloc (.cells #[.bool false, .string ⟨#[]⟩] 81)) 81 (.bool false) (.string ⟨#[]⟩)
  have b2 : Below (w.alloc (.cells #[.bool false, .string ⟨#[]⟩] 81)).heap.size (w.alloc (.cells #[.bool false, .string ⟨#[]⟩] 81)) ((w.alloc (.cells #[.bool false, .string ⟨#[]⟩] 81)).alloc (.cells #[.bool false, .string ⟨#[]⟩] 81)) := (Below.refl _ _).alloc (Nat.le_refl _) _
  have h1' := h1.later b2
  have b3 := b1.trans (b2.mono (by simp))
  rw [z1] at h2
  have HR := Lib.hid h1'
  have HX := Lib.hid h2
  have HB := Lib.hid b3
  clear h1 b1 z1 h2 b2 h1' b3
  unfold TgPost
  cases hk : tgW (bs s)
  · have HT := Lib.hid (tg_of (bs s) false (bs s) hk (by unfold tgQ; rw [hk]; rfl))
    have hcase : s.size < 2 ∨ (2 ≤ s.size ∧ ((s.extract 0 2).toList == [87, 47]) = false) := by
      by_cases h : s.size < 2
      · exact .inl h
      · refine .inr ⟨by omega, ?_⟩
        rw [beq_eq_false_iff_ne, toList_bs, bs_extract]
        unfold tgW at hk
        simpa using hk
    clear hk
    generalize tgG (bs s) = G at *
    generalize tgE (bs s) = E at *
    generalize tgO (bs s) = O at *
    have hzl : s.size ≤ 1099511627776 := hs
    rcases hcase with hsz | ⟨hsz, hne⟩
    · have hi : ¬ (2 : Int) ≤ (s.size : Int) := by omega
      clear hsz
      go_enter Tryz.func59, Tryz.ntmps59
      go_upto_region 4 with (fail)
      generalize (w.alloc (.cells #[.bool false, .string ⟨#[]⟩] 81)).alloc (.cells #[.bool false, .string ⟨#[]⟩] 81) = W0 at *
      clear hi
      by_cases h2 : s.size < 2
      · have hO : O = false := HT.out.1.trans (tgSB s h2)
        have HG := Lib.hid (HNo.out hO)
        have hi2 : (s.size : Int) < 2 := by omega
        clear h2 hO HT HNo
        have c0 := HR.out.c0
        have c1 := HR.out.c1
        have f0 := HR.out.f0
        have f1 := HR.out.f1
        have hput := HR.out.put (.bool false) (.string ⟨#[]⟩)
        have p0 := hput.1
        have p1 := hput.2
        clear hput
        go_wp2_with fail
        refine bodyPost_ret (v := .tuple #[.agg #[.bool false, .string (mkS [])], .int .i64 4]) ?_ rfl ⟨tgRet HG.out.1 HG.out.2, ?_⟩
        · simp [results, Tryz.results59, go_sem, p0, p1]; rfl
        · exact (HB.out.setCell (p := ⟨w.heap.size, 0, none⟩) (Nat.le_refl _) _).setCell (p := ⟨w.heap.size, 1, none⟩) (Nat.le_refl _) _
      · have hi2 : ¬ (s.size : Int) < 2 := by omega
        have ht := tail_tag (bs s) (by rw [length_bs]; omega)
        have hul : s.size - 1 < s.size := by omega
        have h0l : 0 < s.size := by omega
        rw [length_bs, getD_bs s _ hul, getD_bs s 0 h0l] at ht
        have hex : bs (s.extract 1 (s.size - 1)) = ((bs s).drop 1).take (s.size - 1 - 1) := bs_extract s 1 (s.size - 1)
        rw [← hex] at ht
        have k1 : IntKind.i64.wrap ((s.size : Int) - 1) = ((s.size - 1 : Nat) : Int) := by rw [IntWalk.i64_in _ (by omega)]; omega
        have k2 : ((s.size : Int) - 1).toNat = s.size - 1 := by omega
        have hV := HVl.out (s.extract 1 (s.size - 1))
        have hzv : (s.extract 1 (s.size - 1)).size ≤ 1099511627776 := by rw [ByteArray.size_extract]; omega
        have HV := Lib.hid (fun W => hV W (by omega))
        have H2 := Lib.hid ht
        clear hex ht hV
        generalize hVV : s.extract 1 (s.size - 1) = V at *
        have HVV := Lib.hid hVV
        clear hVV
        cases a0 : ((s[0].toNat : Int) == 34)
        · have n0 : ((s[0].toNat : Int) != 34) = true := by unfold bne; rw [a0]; rfl
          have hO : O = false := by
            rw [HT.out.1, H2.out.1, decide_eq_false (show ¬ s[0] = 34 from u8_not s[0] 34 a0 (by omega))]; rfl
          have HG := Lib.hid (HNo.out hO)
          clear hO HT HNo H2 HV HVl
          have c0 := HR.out.c0
          have c1 := HR.out.c1
          have f0 := HR.out.f0
          have f1 := HR.out.f1
          have hput := HR.out.put (.bool false) (.string ⟨#[]⟩)
          have p0 := hput.1
          have p1 := hput.2
          clear hput
          go_wp2_with fail
          refine bodyPost_ret (v := .tuple #[.agg #[.bool false, .string (mkS [])], .int .i64 4]) ?_ rfl ⟨tgRet HG.out.1 HG.out.2, ?_⟩
          · simp [results, Tryz.results59, go_sem, p0, p1]; rfl
          · exact (HB.out.setCell (p := ⟨w.heap.size, 0, none⟩) (Nat.le_refl _) _).setCell (p := ⟨w.heap.size, 1, none⟩) (Nat.le_refl _) _
        · have n0 : ((s[0].toNat : Int) != 34) = false := by unfold bne; rw [a0]; rfl
          have e0 : s[0] = 34 := u8_is s[0] 34 (by omega) a0
          cases a1 : ((s[s.size - 1].toNat : Int) == 34)
          · have n1 : ((s[s.size - 1].toNat : Int) != 34) = true := by unfold bne; rw [a1]; rfl
            have hO : O = false := by
              rw [HT.out.1, H2.out.1, decide_eq_false (show ¬ s[s.size - 1] = 34 from u8_not s[s.size - 1] 34 a1 (by omega))]; simp
            have HG := Lib.hid (HNo.out hO)
            clear hO HT HNo H2 HV HVl e0
            have c0 := HR.out.c0
            have c1 := HR.out.c1
            have f0 := HR.out.f0
            have f1 := HR.out.f1
            have hput := HR.out.put (.bool false) (.string ⟨#[]⟩)
            have p0 := hput.1
            have p1 := hput.2
            clear hput
            go_wp2_with fail
            refine bodyPost_ret (v := .tuple #[.agg #[.bool false, .string (mkS [])], .int .i64 4]) ?_ rfl ⟨tgRet HG.out.1 HG.out.2, ?_⟩
            · simp [results, Tryz.results59, go_sem, p0, p1]; rfl
            · exact (HB.out.setCell (p := ⟨w.heap.size, 0, none⟩) (Nat.le_refl _) _).setCell (p := ⟨w.heap.size, 1, none⟩) (Nat.le_refl _) _
          · have n1 : ((s[s.size - 1].toNat : Int) != 34) = false := by unfold bne; rw [a1]; rfl
            have e1 : s[s.size - 1] = 34 := u8_is s[s.size - 1] 34 (by omega) a1
            have hB : tgB (bs s) = opq (bs V) := by
              rw [H2.out.1, decide_eq_true (show s[0] = 34 from e0), decide_eq_true (show s[s.size - 1] = 34 from e1)]; rfl
            have HBo := Lib.hid hB
            clear hB e0 e1
            cases ho : opq (bs V)
            · have hO : O = false := HT.out.1.trans (HBo.out.trans ho)
              have HG := Lib.hid (HNo.out hO)
              rw [ho] at HV
              have hvv := HVV.out
              clear hO HT HNo H2 HVl ho HBo
              go_wp2_with fail
              (try rw [hvv])
              refine (HV.out _).mono ?_
              rintro e wx ⟨rfl, rfl⟩
              have c0 := HR.out.c0
              have c1 := HR.out.c1
              have f0 := HR.out.f0
              have f1 := HR.out.f1
              have hput := HR.out.put (.bool false) (.string ⟨#[]⟩)
              have p0 := hput.1
              have p1 := hput.2
              clear hput
              go_wp2_with fail
              refine bodyPost_ret (v := .tuple #[.agg #[.bool false, .string (mkS [])], .int .i64 4]) ?_ rfl ⟨tgRet HG.out.1 HG.out.2, ?_⟩
              · simp [results, Tryz.results59, go_sem, p0, p1]; rfl
              · exact (HB.out.setCell (p := ⟨w.heap.size, 0, none⟩) (Nat.le_refl _) _).setCell (p := ⟨w.heap.size, 1, none⟩) (Nat.le_refl _) _
            · have hG := HT.out.2 (HBo.out.trans ho)
              have hgv : G = (false, bs V) := by rw [hG.1, H2.out.2]
              have HG := Lib.hid (And.intro hgv hG.2)
              rw [ho] at HV
              have hvv := HVV.out
              clear HT HNo H2 HVl ho HBo hG hgv
              go_wp2_with fail
              (try rw [hvv])
              refine (HV.out _).mono ?_
              rintro e wx ⟨rfl, rfl⟩
              have c0 := HR.out.c0
              have c1 := HR.out.c1
              have f0 := HR.out.f0
              have f1 := HR.out.f1
              have x0 := HX.out.c0
              have x1 := HX.out.c1
              have y1 := HX.out.f1
              go_upto_region 7 with (fail)
              (try rw [hvv])
              have hXs : Two (W0.setCell ⟨w.heap.size + 1, 1, none⟩ (.string V)) (w.heap.size + 1) 81 (.bool false) (.string V) := Bx.set (cs := #[.bool false, .string ⟨#[]⟩]) HX.out 1 (.string V)
              have hRs : Two (W0.setCell ⟨w.heap.size + 1, 1, none⟩ (.string V)) w.heap.size 81 (.bool false) (.string ⟨#[]⟩) := (heap_setCell_other W0 ⟨w.heap.size + 1, 1, none⟩ w.heap.size (.string V) (fun e => absurd e (Nat.ne_of_lt (Nat.lt_succ_self _)))).trans HR.out
              have HBs := Lib.hid (HB.out.setCell (p := ⟨w.heap.size + 1, 1, none⟩) (Nat.le_succ _) (.string V))
              clear c0 c1 f0 f1 x0 x1 y1
              generalize W0.setCell ⟨w.heap.size + 1, 1, none⟩ (.string V) = Wf at *
              have c0 := hRs.c0
              have c1 := hRs.c1
              have f0 := hRs.f0
              have f1 := hRs.f1
              have x0 := hXs.c0
              have x1 := hXs.c1
              have hput := hRs.put (.bool false) (.string V)
              have p0 := hput.1
              have p1 := hput.2
              clear hput hRs hXs
              go_wp2_with fail
              refine bodyPost_ret (v := .tuple #[.agg #[.bool false, .string (mkS (bs V))], .int .i64 0]) ?_ rfl ⟨tgRet HG.out.1 HG.out.2, ?_⟩
              · simp [results, Tryz.results59, go_sem, p0, p1]
              · exact (HBs.out.setCell (p := ⟨w.heap.size, 0, none⟩) (Nat.le_refl _) _).setCell (p := ⟨w.heap.size, 1, none⟩) (Nat.le_refl _) _
    · have hi : (2 : Int) ≤ (s.size : Int) := by omega
      clear hsz
      go_enter Tryz.func59, Tryz.ntmps59
      go_upto_region 4 with (fail)
      generalize (w.alloc (.cells #[.bool false, .string ⟨#[]⟩] 81)).alloc (.cells #[.bool false, .string ⟨#[]⟩] 81) = W0 at *
      clear hi hne
      by_cases h2 : s.size < 2
      · have hO : O = false := HT.out.1.trans (tgSB s h2)
        have HG := Lib.hid (HNo.out hO)
        have hi2 : (s.size : Int) < 2 := by omega
        clear h2 hO HT HNo
        have c0 := HR.out.c0
        have c1 := HR.out.c1
        have f0 := HR.out.f0
        have f1 := HR.out.f1
        have hput := HR.out.put (.bool false) (.string ⟨#[]⟩)
        have p0 := hput.1
        have p1 := hput.2
        clear hput
        go_wp2_with fail
        refine bodyPost_ret (v := .tuple #[.agg #[.bool false, .string (mkS [])], .int .i64 4]) ?_ rfl ⟨tgRet HG.out.1 HG.out.2, ?_⟩
        · simp [results, Tryz.results59, go_sem, p0, p1]; rfl
        · exact (HB.out.setCell (p := ⟨w.heap.size, 0, none⟩) (Nat.le_refl _) _).setCell (p := ⟨w.heap.size, 1, none⟩) (Nat.le_refl _) _
      · have hi2 : ¬ (s.size : Int) < 2 := by omega
        have ht := tail_tag (bs s) (by rw [length_bs]; omega)
        have hul : s.size - 1 < s.size := by omega
        have h0l : 0 < s.size := by omega
        rw [length_bs, getD_bs s _ hul, getD_bs s 0 h0l] at ht
        have hex : bs (s.extract 1 (s.size - 1)) = ((bs s).drop 1).take (s.size - 1 - 1) := bs_extract s 1 (s.size - 1)
        rw [← hex] at ht
        have k1 : IntKind.i64.wrap ((s.size : Int) - 1) = ((s.size - 1 : Nat) : Int) := by rw [IntWalk.i64_in _ (by omega)]; omega
        have k2 : ((s.size : Int) - 1).toNat = s.size - 1 := by omega
        have hV := HVl.out (s.extract 1 (s.size - 1))
        have hzv : (s.extract 1 (s.size - 1)).size ≤ 1099511627776 := by rw [ByteArray.size_extract]; omega
        have HV := Lib.hid (fun W => hV W (by omega))
        have H2 := Lib.hid ht
        clear hex ht hV
        generalize hVV : s.extract 1 (s.size - 1) = V at *
        have HVV := Lib.hid hVV
        clear hVV
        cases a0 : ((s[0].toNat : Int) == 34)
        · have n0 : ((s[0].toNat : Int) != 34) = true := by unfold bne; rw [a0]; rfl
          have hO : O = false := by
            rw [HT.out.1, H2.out.1, decide_eq_false (show ¬ s[0] = 34 from u8_not s[0] 34 a0 (by omega))]; rfl
          have HG := Lib.hid (HNo.out hO)
          clear hO HT HNo H2 HV HVl
          have c0 := HR.out.c0
          have c1 := HR.out.c1
          have f0 := HR.out.f0
          have f1 := HR.out.f1
          have hput := HR.out.put (.bool false) (.string ⟨#[]⟩)
          have p0 := hput.1
          have p1 := hput.2
          clear hput
          go_wp2_with fail
          refine bodyPost_ret (v := .tuple #[.agg #[.bool false, .string (mkS [])], .int .i64 4]) ?_ rfl ⟨tgRet HG.out.1 HG.out.2, ?_⟩
          · simp [results, Tryz.results59, go_sem, p0, p1]; rfl
          · exact (HB.out.setCell (p := ⟨w.heap.size, 0, none⟩) (Nat.le_refl _) _).setCell (p := ⟨w.heap.size, 1, none⟩) (Nat.le_refl _) _
        · have n0 : ((s[0].toNat : Int) != 34) = false := by unfold bne; rw [a0]; rfl
          have e0 : s[0] = 34 := u8_is s[0] 34 (by omega) a0
          cases a1 : ((s[s.size - 1].toNat : Int) == 34)
          · have n1 : ((s[s.size - 1].toNat : Int) != 34) = true := by unfold bne; rw [a1]; rfl
            have hO : O = false := by
              rw [HT.out.1, H2.out.1, decide_eq_false (show ¬ s[s.size - 1] = 34 from u8_not s[s.size - 1] 34 a1 (by omega))]; simp
            have HG := Lib.hid (HNo.out hO)
            clear hO HT HNo H2 HV HVl e0
            have c0 := HR.out.c0
            have c1 := HR.out.c1
            have f0 := HR.out.f0
            have f1 := HR.out.f1
            have hput := HR.out.put (.bool false) (.string ⟨#[]⟩)
            have p0 := hput.1
            have p1 := hput.2
            clear hput
            go_wp2_with fail
            refine bodyPost_ret (v := .tuple #[.agg #[.bool false, .string (mkS [])], .int .i64 4]) ?_ rfl ⟨tgRet HG.out.1 HG.out.2, ?_⟩
            · simp [results, Tryz.results59, go_sem, p0, p1]; rfl
            · exact (HB.out.setCell (p := ⟨w.heap.size, 0, none⟩) (Nat.le_refl _) _).setCell (p := ⟨w.heap.size, 1, none⟩) (Nat.le_refl _) _
          · have n1 : ((s[s.size - 1].toNat : Int) != 34) = false := by unfold bne; rw [a1]; rfl
            have e1 : s[s.size - 1] = 34 := u8_is s[s.size - 1] 34 (by omega) a1
            have hB : tgB (bs s) = opq (bs V) := by
              rw [H2.out.1, decide_eq_true (show s[0] = 34 from e0), decide_eq_true (show s[s.size - 1] = 34 from e1)]; rfl
            have HBo := Lib.hid hB
            clear hB e0 e1
            cases ho : opq (bs V)
            · have hO : O = false := HT.out.1.trans (HBo.out.trans ho)
              have HG := Lib.hid (HNo.out hO)
              rw [ho] at HV
              have hvv := HVV.out
              clear hO HT HNo H2 HVl ho HBo
              go_wp2_with fail
              (try rw [hvv])
              refine (HV.out _).mono ?_
              rintro e wx ⟨rfl, rfl⟩
              have c0 := HR.out.c0
              have c1 := HR.out.c1
              have f0 := HR.out.f0
              have f1 := HR.out.f1
              have hput := HR.out.put (.bool false) (.string ⟨#[]⟩)
              have p0 := hput.1
              have p1 := hput.2
              clear hput
              go_wp2_with fail
              refine bodyPost_ret (v := .tuple #[.agg #[.bool false, .string (mkS [])], .int .i64 4]) ?_ rfl ⟨tgRet HG.out.1 HG.out.2, ?_⟩
              · simp [results, Tryz.results59, go_sem, p0, p1]; rfl
              · exact (HB.out.setCell (p := ⟨w.heap.size, 0, none⟩) (Nat.le_refl _) _).setCell (p := ⟨w.heap.size, 1, none⟩) (Nat.le_refl _) _
            · have hG := HT.out.2 (HBo.out.trans ho)
              have hgv : G = (false, bs V) := by rw [hG.1, H2.out.2]
              have HG := Lib.hid (And.intro hgv hG.2)
              rw [ho] at HV
              have hvv := HVV.out
              clear HT HNo H2 HVl ho HBo hG hgv
              go_wp2_with fail
              (try rw [hvv])
              refine (HV.out _).mono ?_
              rintro e wx ⟨rfl, rfl⟩
              have c0 := HR.out.c0
              have c1 := HR.out.c1
              have f0 := HR.out.f0
              have f1 := HR.out.f1
              have x0 := HX.out.c0
              have x1 := HX.out.c1
              have y1 := HX.out.f1
              go_upto_region 7 with (fail)
              (try rw [hvv])
              have hXs : Two (W0.setCell ⟨w.heap.size + 1, 1, none⟩ (.string V)) (w.heap.size + 1) 81 (.bool false) (.string V) := Bx.set (cs := #[.bool false, .string ⟨#[]⟩]) HX.out 1 (.string V)
              have hRs : Two (W0.setCell ⟨w.heap.size + 1, 1, none⟩ (.string V)) w.heap.size 81 (.bool false) (.string ⟨#[]⟩) := (heap_setCell_other W0 ⟨w.heap.size + 1, 1, none⟩ w.heap.size (.string V) (fun e => absurd e (Nat.ne_of_lt (Nat.lt_succ_self _)))).trans HR.out
              have HBs := Lib.hid (HB.out.setCell (p := ⟨w.heap.size + 1, 1, none⟩) (Nat.le_succ _) (.string V))
              clear c0 c1 f0 f1 x0 x1 y1
              generalize W0.setCell ⟨w.heap.size + 1, 1, none⟩ (.string V) = Wf at *
              have c0 := hRs.c0
              have c1 := hRs.c1
              have f0 := hRs.f0
              have f1 := hRs.f1
              have x0 := hXs.c0
              have x1 := hXs.c1
              have hput := hRs.put (.bool false) (.string V)
              have p0 := hput.1
              have p1 := hput.2
              clear hput hRs hXs
              go_wp2_with fail
              refine bodyPost_ret (v := .tuple #[.agg #[.bool false, .string (mkS (bs V))], .int .i64 0]) ?_ rfl ⟨tgRet HG.out.1 HG.out.2, ?_⟩
              · simp [results, Tryz.results59, go_sem, p0, p1]
              · exact (HBs.out.setCell (p := ⟨w.heap.size, 0, none⟩) (Nat.le_refl _) _).setCell (p := ⟨w.heap.size, 1, none⟩) (Nat.le_refl _) _
  · have hsz : 2 ≤ s.size := by
      unfold tgW at hk
      rw [decide_eq_true_iff] at hk
      have := congrArg List.length hk
      rw [List.length_take, length_bs] at this
      simp at this; omega
    have hQb : bs (s.extract 2 s.size) = tgQ (bs s) := by
      unfold tgQ; rw [if_pos hk, bs_extract, List.take_of_length_le (by rw [List.length_drop, length_bs]; exact Nat.le_refl _)]
    have heq : ((s.extract 0 2).toList == [87, 47]) = true := by
      rw [beq_iff_eq, toList_bs, bs_extract]
      unfold tgW at hk
      simpa using hk
    have HT := Lib.hid (tg_of (bs s) true (bs (s.extract 2 s.size)) hk hQb.symm)
    have hi : (2 : Int) ≤ (s.size : Int) := by omega
    have hzx : (s.extract 2 s.size).size ≤ 1099511627776 := by rw [ByteArray.size_extract]; omega
    clear hk hQb
    generalize tgG (bs s) = G at *
    generalize tgE (bs s) = E at *
    generalize tgO (bs s) = O at *
    have f0 := HX.out.f0
    have c0 := HX.out.c0
    go_enter Tryz.func59, Tryz.ntmps59
    go_upto_region 3 with (fail)
    generalize (w.alloc (.cells #[.bool false, .string ⟨#[]⟩] 81)).alloc (.cells #[.bool false, .string ⟨#[]⟩] 81) = W0 at *
    have hHeld0 : (fun Wz : World => Two Wz w.heap.size 81 (.bool false) (.string ⟨#[]⟩) ∧ Below w.heap.size w Wz) W0.drew := ⟨HR.out, HB.out.drew⟩
    refine wp_region_held_drew (S := (fun Wz : World => Two Wz w.heap.size 81 (.bool false) (.string ⟨#[]⟩) ∧ Below w.heap.size w Wz)) (by kernel_rfl) hHeld0 (fun hHeld => ?_)
    refine wpAnyH_take (i := 0) (v := ?_) rfl (by kernel_rfl) (by kernel_rfl) (by kernel_rfl) (fun _ _ _ h => h) (Or.inl ⟨by kernel_rfl, ?_⟩) (by assumption) ?_
    case refine_2 => (intro Wz hSw; go_simp; try with_reducible rfl)
    try simp only [Act.put, List.getElem_toArray, List.getElem_cons_zero, List.setIfInBounds_toArray, List.set_cons_zero, List.set_cons_succ]
    refine wpAnyH_take (i := 1) (v := .string (s.extract 2 s.size)) rfl (by kernel_rfl) (by kernel_rfl) (by kernel_rfl) (fun _ _ _ h => h) (Or.inl ⟨by kernel_rfl, ?_⟩) (by assumption) ?_
    case refine_1 => (intro Wz hSw; go_simp; try with_reducible rfl)
    try simp only [Act.put, List.getElem_toArray, List.getElem_cons_succ, List.getElem_cons_zero, List.setIfInBounds_toArray, List.set_cons_zero, List.set_cons_succ]
    refine wpAnyH_take (i := 2) (v := ?_) rfl (by kernel_rfl) (by kernel_rfl) (by kernel_rfl) (fun _ _ _ h => h) (Or.inl ⟨by kernel_rfl, ?_⟩) (by assumption) ?_
    case refine_2 => (intro Wz hSw; go_simp; try with_reducible rfl)
    try simp only [Act.put, List.getElem_toArray, List.getElem_cons_succ, List.getElem_cons_zero, List.setIfInBounds_toArray, List.set_cons_zero, List.set_cons_succ]
    have g0 : W0.drew.cell? ⟨w.heap.size + 1, 0, none⟩ = some (.bool false) := HX.out.c0
    have g1 : W0.drew.frozen? ⟨w.heap.size + 1, 0, none⟩ = false := HX.out.f0
    refine wpAnyH_ready (rs := [3]) (by kernel_rfl) (by simp) ?_
    refine AllReadyH.cons rfl (fun K hK => ?_) AllReadyH.nil
    go_simp
    have hHeld1 : (fun Wz : World => Two Wz w.heap.size 81 (.bool false) (.string ⟨#[]⟩) ∧ Below w.heap.size w Wz) (W0.drew.setCell ⟨w.heap.size + 1, 0, none⟩ (.bool true)) := ⟨(heap_setCell_other W0.drew ⟨w.heap.size + 1, 0, none⟩ w.heap.size (.bool true) (fun e => absurd e (Nat.ne_of_lt (Nat.lt_succ_self _)))).trans HR.out, HB.out.drew.setCell (p := ⟨w.heap.size + 1, 0, none⟩) (Nat.le_succ _) _⟩
    refine hK.out _ _ hHeld1 (fun hHeld2 => ?_)
    clear hK K hHeld2
    try simp only [Act.put, List.getElem_toArray, List.getElem_cons_succ, List.getElem_cons_zero, List.setIfInBounds_toArray, List.set_cons_zero, List.set_cons_succ]
    refine wpAnyH_take (i := 4) (v := ?_) rfl (by kernel_rfl) (by kernel_rfl) (by kernel_rfl) (fun _ _ _ h => h) (Or.inl ⟨by kernel_rfl, ?_⟩) (by assumption) ?_
    case refine_2 => (intro Wz hSw; go_simp; try with_reducible rfl)
    try simp only [Act.put, List.getElem_toArray, List.getElem_cons_succ, List.getElem_cons_zero, List.setIfInBounds_toArray, List.set_cons_zero]
    refine wpAnyH_done (by kernel_rfl) ?_ _
    go_upto_region 4 with (fail)
    have HX4 : Hid (Two ((W0.setCell ⟨w.heap.size + 1, 0, none⟩ (.bool true)).drew) (w.heap.size + 1) 81 (.bool true) (.string ⟨#[]⟩)) := Bx.set (w := W0) (cs := #[.bool false, .string ⟨#[]⟩]) HX.out 0 (.bool true)
    have HR4 : Hid (Two ((W0.setCell ⟨w.heap.size + 1, 0, none⟩ (.bool true)).drew) w.heap.size 81 (.bool false) (.string ⟨#[]⟩)) := (heap_setCell_other W0 ⟨w.heap.size + 1, 0, none⟩ w.heap.size (.bool true) (fun e => absurd e (Nat.ne_of_lt (Nat.lt_succ_self _)))).trans HR.out
    have HB4 := Lib.hid (HB.out.setCell (p := ⟨w.heap.size + 1, 0, none⟩) (Nat.le_succ _) (.bool true)).drew
    clear hHeld0 hHeld1 hHeld g0 g1 f0 c0 HR HX HB hi heq
    generalize (W0.setCell ⟨w.heap.size + 1, 0, none⟩ (.bool true)).drew = W4 at *
    obtain ⟨HR, HX, HB⟩ : Hid (Two W4 w.heap.size 81 (.bool false) (.string ⟨#[]⟩)) ∧ Hid (Two W4 (w.heap.size + 1) 81 (.bool true) (.string ⟨#[]⟩)) ∧ Hid (Below w.heap.size w W4) := ⟨HR4, HX4, HB4⟩
    clear HR4 HX4 HB4
    have hzl := hzx
    clear hzx
    generalize s.extract 2 s.size = Q at *
    by_cases h2 : Q.size < 2
    · have hO : O = false := HT.out.1.trans (tgSB Q h2)
      have HG := Lib.hid (HNo.out hO)
      have hi2 : (Q.size : Int) < 2 := by omega
      clear h2 hO HT HNo
      have c0 := HR.out.c0
      have c1 := HR.out.c1
      have f0 := HR.out.f0
      have f1 := HR.out.f1
      have hput := HR.out.put (.bool false) (.string ⟨#[]⟩)
      have p0 := hput.1
      have p1 := hput.2
      clear hput
      go_wp2_with fail
      refine bodyPost_ret (v := .tuple #[.agg #[.bool false, .string (mkS [])], .int .i64 4]) ?_ rfl ⟨tgRet HG.out.1 HG.out.2, ?_⟩
      · simp [results, Tryz.results59, go_sem, p0, p1]; rfl
      · exact (HB.out.setCell (p := ⟨w.heap.size, 0, none⟩) (Nat.le_refl _) _).setCell (p := ⟨w.heap.size, 1, none⟩) (Nat.le_refl _) _
    · have hi2 : ¬ (Q.size : Int) < 2 := by omega
      have ht := tail_tag (bs Q) (by rw [length_bs]; omega)
      have hul : Q.size - 1 < Q.size := by omega
      have h0l : 0 < Q.size := by omega
      rw [length_bs, getD_bs Q _ hul, getD_bs Q 0 h0l] at ht
      have hex : bs (Q.extract 1 (Q.size - 1)) = ((bs Q).drop 1).take (Q.size - 1 - 1) := bs_extract Q 1 (Q.size - 1)
      rw [← hex] at ht
      have k1 : IntKind.i64.wrap ((Q.size : Int) - 1) = ((Q.size - 1 : Nat) : Int) := by rw [IntWalk.i64_in _ (by omega)]; omega
      have k2 : ((Q.size : Int) - 1).toNat = Q.size - 1 := by omega
      have hV := HVl.out (Q.extract 1 (Q.size - 1))
      have hzv : (Q.extract 1 (Q.size - 1)).size ≤ 1099511627776 := by rw [ByteArray.size_extract]; omega
      have HV := Lib.hid (fun W => hV W (by omega))
      have H2 := Lib.hid ht
      clear hex ht hV
      generalize hVV : Q.extract 1 (Q.size - 1) = V at *
      have HVV := Lib.hid hVV
      clear hVV
      cases a0 : ((Q[0].toNat : Int) == 34)
      · have n0 : ((Q[0].toNat : Int) != 34) = true := by unfold bne; rw [a0]; rfl
        have hO : O = false := by
          rw [HT.out.1, H2.out.1, decide_eq_false (show ¬ Q[0] = 34 from u8_not Q[0] 34 a0 (by omega))]; rfl
        have HG := Lib.hid (HNo.out hO)
        clear hO HT HNo H2 HV HVl
        have c0 := HR.out.c0
        have c1 := HR.out.c1
        have f0 := HR.out.f0
        have f1 := HR.out.f1
        have hput := HR.out.put (.bool false) (.string ⟨#[]⟩)
        have p0 := hput.1
        have p1 := hput.2
        clear hput
        go_wp2_with fail
        refine bodyPost_ret (v := .tuple #[.agg #[.bool false, .string (mkS [])], .int .i64 4]) ?_ rfl ⟨tgRet HG.out.1 HG.out.2, ?_⟩
        · simp [results, Tryz.results59, go_sem, p0, p1]; rfl
        · exact (HB.out.setCell (p := ⟨w.heap.size, 0, none⟩) (Nat.le_refl _) _).setCell (p := ⟨w.heap.size, 1, none⟩) (Nat.le_refl _) _
      · have n0 : ((Q[0].toNat : Int) != 34) = false := by unfold bne; rw [a0]; rfl
        have e0 : Q[0] = 34 := u8_is Q[0] 34 (by omega) a0
        cases a1 : ((Q[Q.size - 1].toNat : Int) == 34)
        · have n1 : ((Q[Q.size - 1].toNat : Int) != 34) = true := by unfold bne; rw [a1]; rfl
          have hO : O = false := by
            rw [HT.out.1, H2.out.1, decide_eq_false (show ¬ Q[Q.size - 1] = 34 from u8_not Q[Q.size - 1] 34 a1 (by omega))]; simp
          have HG := Lib.hid (HNo.out hO)
          clear hO HT HNo H2 HV HVl e0
          have c0 := HR.out.c0
          have c1 := HR.out.c1
          have f0 := HR.out.f0
          have f1 := HR.out.f1
          have hput := HR.out.put (.bool false) (.string ⟨#[]⟩)
          have p0 := hput.1
          have p1 := hput.2
          clear hput
          go_wp2_with fail
          refine bodyPost_ret (v := .tuple #[.agg #[.bool false, .string (mkS [])], .int .i64 4]) ?_ rfl ⟨tgRet HG.out.1 HG.out.2, ?_⟩
          · simp [results, Tryz.results59, go_sem, p0, p1]; rfl
          · exact (HB.out.setCell (p := ⟨w.heap.size, 0, none⟩) (Nat.le_refl _) _).setCell (p := ⟨w.heap.size, 1, none⟩) (Nat.le_refl _) _
        · have n1 : ((Q[Q.size - 1].toNat : Int) != 34) = false := by unfold bne; rw [a1]; rfl
          have e1 : Q[Q.size - 1] = 34 := u8_is Q[Q.size - 1] 34 (by omega) a1
          have hB : tgB (bs Q) = opq (bs V) := by
            rw [H2.out.1, decide_eq_true (show Q[0] = 34 from e0), decide_eq_true (show Q[Q.size - 1] = 34 from e1)]; rfl
          have HBo := Lib.hid hB
          clear hB e0 e1
          cases ho : opq (bs V)
          · have hO : O = false := HT.out.1.trans (HBo.out.trans ho)
            have HG := Lib.hid (HNo.out hO)
            rw [ho] at HV
            have hvv := HVV.out
            clear hO HT HNo H2 HVl ho HBo
            go_wp2_with fail
            (try rw [hvv])
            refine (HV.out _).mono ?_
            rintro e wx ⟨rfl, rfl⟩
            have c0 := HR.out.c0
            have c1 := HR.out.c1
            have f0 := HR.out.f0
            have f1 := HR.out.f1
            have hput := HR.out.put (.bool false) (.string ⟨#[]⟩)
            have p0 := hput.1
            have p1 := hput.2
            clear hput
            go_wp2_with fail
            refine bodyPost_ret (v := .tuple #[.agg #[.bool false, .string (mkS [])], .int .i64 4]) ?_ rfl ⟨tgRet HG.out.1 HG.out.2, ?_⟩
            · simp [results, Tryz.results59, go_sem, p0, p1]; rfl
            · exact (HB.out.setCell (p := ⟨w.heap.size, 0, none⟩) (Nat.le_refl _) _).setCell (p := ⟨w.heap.size, 1, none⟩) (Nat.le_refl _) _
          · have hG := HT.out.2 (HBo.out.trans ho)
            have hgv : G = (true, bs V) := by rw [hG.1, H2.out.2]
            have HG := Lib.hid (And.intro hgv hG.2)
            rw [ho] at HV
            have hvv := HVV.out
            clear HT HNo H2 HVl ho HBo hG hgv
            go_wp2_with fail
            (try rw [hvv])
            refine (HV.out _).mono ?_
            rintro e wx ⟨rfl, rfl⟩
            have c0 := HR.out.c0
            have c1 := HR.out.c1
            have f0 := HR.out.f0
            have f1 := HR.out.f1
            have x0 := HX.out.c0
            have x1 := HX.out.c1
            have y1 := HX.out.f1
            go_upto_region 7 with (fail)
            (try rw [hvv])
            have hXs : Two (W4.setCell ⟨w.heap.size + 1, 1, none⟩ (.string V)) (w.heap.size + 1) 81 (.bool true) (.string V) := Bx.set (cs := #[.bool true, .string ⟨#[]⟩]) HX.out 1 (.string V)
            have hRs : Two (W4.setCell ⟨w.heap.size + 1, 1, none⟩ (.string V)) w.heap.size 81 (.bool false) (.string ⟨#[]⟩) := (heap_setCell_other W4 ⟨w.heap.size + 1, 1, none⟩ w.heap.size (.string V) (fun e => absurd e (Nat.ne_of_lt (Nat.lt_succ_self _)))).trans HR.out
            have HBs := Lib.hid (HB.out.setCell (p := ⟨w.heap.size + 1, 1, none⟩) (Nat.le_succ _) (.string V))
            clear c0 c1 f0 f1 x0 x1 y1
            generalize W4.setCell ⟨w.heap.size + 1, 1, none⟩ (.string V) = Wf at *
            have c0 := hRs.c0
            have c1 := hRs.c1
            have f0 := hRs.f0
            have f1 := hRs.f1
            have x0 := hXs.c0
            have x1 := hXs.c1
            have hput := hRs.put (.bool true) (.string V)
            have p0 := hput.1
            have p1 := hput.2
            clear hput hRs hXs
            go_wp2_with fail
            refine bodyPost_ret (v := .tuple #[.agg #[.bool true, .string (mkS (bs V))], .int .i64 0]) ?_ rfl ⟨tgRet HG.out.1 HG.out.2, ?_⟩
            · simp [results, Tryz.results59, go_sem, p0, p1]
            · exact (HBs.out.setCell (p := ⟨w.heap.size, 0, none⟩) (Nat.le_refl _) _).setCell (p := ⟨w.heap.size, 1, none⟩) (Nat.le_refl _) _

/-- what One tells -/
def oneS (L : List Bs) : Bs := match L with | [v] => v | _ => []
def oneB (L : List Bs) : Bool := match L with | [_] => true | _ => false
theorem oneS_not (P : List Bs) (h : P.length ≠ 1) : oneS P = [] ∧ oneB P = false := by
  match P, h with
  | [], _ => exact ⟨rfl, rfl⟩
  | _ :: _ :: _, _ => exact ⟨rfl, rfl⟩

set_option maxHeartbeats 2000000 in
set_option maxRecDepth 100000 in
theorem rone_any (v : Value) (l : List (Bs × Bs)) (name : Bs) (w : World) (hs : IsFlds w v l) (hz : ∀ f ∈ l, f.1.length ≤ 1099511627776 ∧ f.2.length ≤ 1099511627776) (hn : name.length ≤ 1099511627776) (hl : l.length ≤ 1048576) :
    Calls Tryz.prog 112 #[v, .string (mkS name)] w fun e w' => e = .returned (.tuple #[.string (mkS (oneS (allF l name))), .bool (oneB (allF l name))]) ∧ Below w.heap.size w w' := by
  have HA := Lib.hid (rall_any v l name w hs hz hn hl)
  unfold ListPost at HA
  obtain ⟨a, cap, rfl⟩ : ∃ a cap, v = .slice a l.length cap := by obtain ⟨a, c, h, -⟩ := hs; exact ⟨a, c, h⟩
  clear hs hz
  generalize allF l name = P at *
  by_cases hP : P.length = 1
  · obtain ⟨x, rfl⟩ : ∃ x, P = [x] := by
      match P, hP with
      | [x], _ => exact ⟨x, rfl⟩
    clear hP
    go_enter Tryz.func112, Tryz.ntmps112
    go_wp2_with fail
    refine HA.out.mono ?_
    rintro e w1 ⟨v1, rfl, ho, hb⟩
    obtain ⟨a', c', rfl, hc⟩ := isStrs_own ho
    obtain ⟨b, o, rfl, hc2⟩ := hc 0 x rfl
    have hc3 : w1.cell? ⟨b, o, none⟩ = some (.string (mkS x)) := hc2
    have HB := Lib.hid hb
    clear hc hc2 ho hb
    go_wp2_with fail
    go_ret2
    exact ⟨rfl, HB.out⟩
  · have HQ := Lib.hid (oneS_not P hP)
    have hne : ((P.length : Int) == 1) = false := by rw [beq_eq_false_iff_ne]; omega
    have hne2 : ((P.length : Int) != 1) = true := by unfold bne; rw [hne]; rfl
    clear hP
    go_enter Tryz.func112, Tryz.ntmps112
    go_wp2_with fail
    refine HA.out.mono ?_
    rintro e w1 ⟨v1, rfl, ho, hb⟩
    obtain ⟨a', c', rfl, hc⟩ := isStrs_own ho
    have HB := Lib.hid hb
    clear hb hc ho
    go_wp2_with fail
    go_ret2
    exact ⟨by rw [HQ.out.1, HQ.out.2]; rfl, HB.out⟩
end Tk
end Go.Proofs.YtajmheblbnodjaaGreatDoor
