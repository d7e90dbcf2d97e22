/- etag.opaque, Parse, Text. -/
import Derived.Test.YtajmheblbnodjaaDoorEtT
import Derived.Test.YtajmheblbnodjaaDoorBx0
import Derived.Test.YtajmheblbnodjaaDoorCln
namespace Go.Proofs.YtajmheblbnodjaaDoor
open Go.RowKit
namespace Tk

theorem opq_step (l : Bs) (i : Nat) (hi : i < l.length) (h : opq (l.take i) = true) : opq (l.take (i + 1)) = vch (l.getD i 0) := by
  have e : l.take (i + 1) = l.take i ++ [l.getD i 0] := take_snoc l i hi
  unfold opq at *
  rw [e, List.all_append, h]; simp
theorem opq_bad (l : Bs) (i : Nat) (hi : i < l.length) (h : vch (l.getD i 0) = false) : opq l = false := by
  unfold opq
  rw [List.all_eq_false]
  refine ⟨l[i], List.getElem_mem hi, ?_⟩
  simp [List.getD, hi] at h
  simp [h]

set_option maxHeartbeats 1000000 in
set_option maxRecDepth 100000 in
theorem opaque_any (s : ByteArray) (w : World) (hs : s.size ≤ 140737488355000) :
    Calls Tryd.prog 40 #[.string s] w fun e w' => e = .returned (.bool (opq (bs s))) ∧ w = w' := by
  have HL := Lib.hid (length_bs s)
  have HBad := Lib.hid (fun i hi h => opq_bad (bs s) i hi h)
  have HSt := Lib.hid (fun i hi h => opq_step (bs s) i hi h)
  have H0 : Hid (opq ((bs s).take 0) = true) := rfl
  have HEnd : Hid (opq ((bs s).take s.size) = opq (bs s)) := by
    show _ = _
    rw [List.take_of_length_le (by rw [length_bs]; exact Nat.le_refl _)]
  have HG := Lib.hid (fun i (hi : i < s.size) => getD_bs s i hi)
  generalize opq (bs s) = q at *
  go_enter Tryd.func40, Tryd.ntmps40
  go_wp2_with fail
  go_loop [4, 7] (fun _ vi => ∃ i : Nat, i ≤ s.size ∧ vi = .int .i64 i ∧ Hid (opq ((bs s).take i) = true)) (fun _ vi => s.size - (RowKit.intOf vi).toNat)
  case atStart => exact ⟨0, Nat.zero_le _, rfl, H0⟩
  case round =>
    obtain ⟨i, hi, rfl, HA⟩ := hrel
    by_cases hlt : i < s.size
    · have hgd := HG.out i hlt
      have hst := HSt.out i (by rw [HL.out]; exact hlt) HA.out
      have hbd := HBad.out i (by rw [HL.out]; exact hlt)
      rw [hgd] at hst hbd
      have hv : vch s[i] = !(decide ((s[i].toNat : Int) ≤ 32) || ((s[i].toNat : Int) == 34 || (s[i].toNat : Int) == 127)) := rfl
      have HSt2 := Lib.hid hst
      have HBd2 := Lib.hid hbd
      clear hgd hst hbd
      by_cases h1 : (s[i].toNat : Int) ≤ 32
      · have b1 : decide ((s[i].toNat : Int) ≤ 32) = true := decide_eq_true h1
        have HQ := Lib.hid (HBd2.out (by rw [hv, b1]; rfl))
        clear hv
        go_wp2_with fail
        go_ret
        exact ⟨by rw [HQ.out]; rfl, rfl⟩
      · have b1 : decide ((s[i].toNat : Int) ≤ 32) = false := decide_eq_false h1
        cases b2 : ((s[i].toNat : Int) == 34)
        · cases b3 : ((s[i].toNat : Int) == 127)
          · have HQ := Lib.hid (HSt2.out.trans (show vch s[i] = true by rw [hv, b1, b2, b3]; rfl))
            clear hv
            go_wp2_with fail
            exact ⟨⟨i + 1, hlt, by go_num, HQ⟩, by simp [RowKit.intOf]; omega⟩
          · have HQ := Lib.hid (HBd2.out (by rw [hv, b1, b2, b3]; rfl))
            clear hv
            go_wp2_with fail
            go_ret
            exact ⟨by rw [HQ.out]; rfl, rfl⟩
        · have HQ := Lib.hid (HBd2.out (by rw [hv, b1, b2]; rfl))
          clear hv
          go_wp2_with fail
          go_ret
          exact ⟨by rw [HQ.out]; rfl, rfl⟩
    · obtain rfl : i = s.size := by omega
      have HQ := Lib.hid (HEnd.out.symm.trans HA.out)
      go_wp2_with fail
      go_ret
      exact ⟨by rw [HQ.out]; rfl, rfl⟩

/-- what Parse returns -/
def TgPost (s : Bs) (w : World) (e : Ending) (w' : World) : Prop := e = .returned (.tuple #[tgVal (tgG s), .int .i64 (tgE s)]) ∧ Below w.heap.size w w'

theorem tgRet {g : Tg} {a : Bool} {v : Bs} {e n : Int} (h1 : g = (a, v)) (h2 : e = n) : Ending.returned (.tuple #[.agg #[.bool a, .string (mkS v)], .int .i64 n]) = .returned (.tuple #[tgVal g, .int .i64 e]) := by
  subst h1 h2; rfl

set_option maxHeartbeats 4000000 in
set_option maxRecDepth 100000 in
theorem tparse_any (s : ByteArray) (w : World) (hs : s.size ≤ 1099511627776) :
    Calls Tryd.prog 42 #[.string s] w (TgPost (bs s) w) := by
  have H1 : Hid (∀ W : World, Calls Tryd.prog 67 #[.string s, .string ⟨#[87, 47]⟩] W fun e w' => e = .returned (.tuple #[.string (mkS (tgQ (bs s))), .bool (tgW (bs s))]) ∧ W = w') := fun W =>
    (Tryd.strings_CutPrefix s ⟨#[87, 47]⟩ W).mono fun e w' ⟨he, hw⟩ => ⟨he.trans (by rw [show (⟨#[87, 47]⟩ : ByteArray).data.toList = [87, 47] from rfl, (pre2_tag _).1, (pre2_tag _).2]; rfl), hw.symm⟩
  have H2 : Hid (∀ W : World, Calls Tryd.prog 67 #[.string (mkS (tgQ (bs s))), .string ⟨#[34]⟩] W fun e w' => e = .returned (.tuple #[.string (mkS (cp1 (tgQ (bs s)))), .bool (op1 (tgQ (bs s)))]) ∧ W = w') := fun W =>
    (Tryd.strings_CutPrefix (mkS (tgQ (bs s))) ⟨#[34]⟩ W).mono fun e w' ⟨he, hw⟩ => ⟨he.trans (by rw [show (⟨#[34]⟩ : ByteArray).data.toList = [34] from rfl, (pre1_tag _).1, (pre1_tag _).2]; rfl), hw.symm⟩
  have l1 := cp1_len (bs s)
  have l2 := cs1_len (bs s)
  rw [length_bs] at l1 l2
  have H3 : Hid (∀ W : World, Calls Tryd.prog 68 #[.string (mkS (cp1 (tgQ (bs s)))), .string ⟨#[34]⟩] W fun e w' => e = .returned (.tuple #[.string (mkS (cs1 (cp1 (tgQ (bs s))))), .bool (tgC (cp1 (tgQ (bs s))))]) ∧ W = w') := fun W =>
    (Tryd.strings_CutSuffix (mkS (cp1 (tgQ (bs s)))) ⟨#[34]⟩ W (by rw [size_mkS]; omega)).mono fun e w' ⟨he, hw⟩ => ⟨he.trans (by rw [show (⟨#[34]⟩ : ByteArray).data.toList = [34] from rfl, (suf1_tag _).1, (suf1_tag _).2]; rfl), hw.symm⟩
  have H4 := Lib.hid (fun W : World => opaque_any (mkS (cs1 (cp1 (tgQ (bs s))))) W (by rw [size_mkS]; omega))
  rw [bs_mkS] at H4
  have H5 := Lib.hid (fun W : World => clone_any (mkS (cs1 (cp1 (tgQ (bs s))))) W (by rw [size_mkS]; omega))
  unfold StrPost at H5
  rw [bs_mkS] at H5
  have HYes := Lib.hid (tg_yes (bs s))
  have HNo := Lib.hid (fun h => tg_no (bs s) h)
  have HN1 := Lib.hid (tg_no1 (bs s))
  have HN2 := Lib.hid (tg_no2 (bs s))
  have HN3 := Lib.hid (tg_no3 (bs s))
  have hB := Two.new w 36 (.bool false) (.string ⟨#[]⟩)
  have hbl : Below w.heap.size w (w.alloc (.cells #[.bool false, .string ⟨#[]⟩] 36)) := (Below.refl _ _).alloc (Nat.le_refl _) _
  have hsz : w.heap.size ≤ (w.alloc (.cells #[.bool false, .string ⟨#[]⟩] 36)).heap.size := by simp
  have HB := Lib.hid hB
  have HBl := Lib.hid hbl
  clear hB hbl
  unfold TgPost
  generalize tgG (bs s) = G at *
  generalize tgE (bs s) = E at *
  generalize tgO (bs s) = O at *
  generalize tgC (cp1 (tgQ (bs s))) = C at *
  generalize cs1 (cp1 (tgQ (bs s))) = V at *
  generalize op1 (tgQ (bs s)) = P at *
  generalize cp1 (tgQ (bs s)) = R at *
  generalize tgQ (bs s) = Q at *
  generalize tgW (bs s) = K at *
  generalize opq V = X at *
  clear l1 l2
  have bad : ∀ (h : O = false), (∀ W : World, Below w.heap.size w W → True) → G = (false, []) ∧ E = 4 := fun h _ => HNo.out h
  have HBad := Lib.hid bad
  clear bad
  cases P
  · have HG := Lib.hid (HNo.out (HN1.out rfl))
    clear HYes HN1 HN2 HN3 HNo HBad
    go_enter Tryd.func42, Tryd.ntmps42
    go_wp2_with fail
    refine (H1.out _).mono ?_
    rintro e w1 ⟨rfl, rfl⟩
    go_wp2_with fail
    refine (H2.out _).mono ?_
    rintro e w1 ⟨rfl, rfl⟩
    go_wp2_with fail
    refine (H3.out _).mono ?_
    rintro e w1 ⟨rfl, rfl⟩
    generalize w.alloc (.cells #[.bool false, .string ⟨#[]⟩] 36) = W at *
    have c0 := HB.out.c0
    have c1 := HB.out.c1
    have f0 := HB.out.f0
    have f1 := HB.out.f1
    have hput := HB.out.put (.bool false) (.string ⟨#[]⟩)
    have q0 := hput.1
    have q1 := hput.2
    clear hput
    go_wp2_with fail
    refine bodyPost_ret (v := .tuple #[.agg #[.bool false, .string (mkS [])], .int .i64 4]) ?_ rfl ⟨tgRet HG.out.1 HG.out.2, ?_⟩
    · simp [results, Tryd.results42, go_sem, q0, q1]; rfl
    · exact (HBl.out.setCell (p := ⟨w.heap.size, 0, none⟩) (Nat.le_refl _) _).setCell (p := ⟨w.heap.size, 1, none⟩) (Nat.le_refl _) _
  · cases C
    · have HG := Lib.hid (HNo.out (HN2.out rfl rfl))
      clear HYes HN1 HN2 HN3 HNo HBad
      go_enter Tryd.func42, Tryd.ntmps42
      go_wp2_with fail
      refine (H1.out _).mono ?_
      rintro e w1 ⟨rfl, rfl⟩
      go_wp2_with fail
      refine (H2.out _).mono ?_
      rintro e w1 ⟨rfl, rfl⟩
      go_wp2_with fail
      refine (H3.out _).mono ?_
      rintro e w1 ⟨rfl, rfl⟩
      generalize w.alloc (.cells #[.bool false, .string ⟨#[]⟩] 36) = W at *
      have c0 := HB.out.c0
      have c1 := HB.out.c1
      have f0 := HB.out.f0
      have f1 := HB.out.f1
      have hput := HB.out.put (.bool false) (.string ⟨#[]⟩)
      have q0 := hput.1
      have q1 := hput.2
      clear hput
      go_wp2_with fail
      refine bodyPost_ret (v := .tuple #[.agg #[.bool false, .string (mkS [])], .int .i64 4]) ?_ rfl ⟨tgRet HG.out.1 HG.out.2, ?_⟩
      · simp [results, Tryd.results42, go_sem, q0, q1]; rfl
      · exact (HBl.out.setCell (p := ⟨w.heap.size, 0, none⟩) (Nat.le_refl _) _).setCell (p := ⟨w.heap.size, 1, none⟩) (Nat.le_refl _) _
    · cases X
      · have HG := Lib.hid (HNo.out (HN3.out rfl rfl rfl))
        clear HYes HN1 HN2 HN3 HNo HBad
        go_enter Tryd.func42, Tryd.ntmps42
        go_wp2_with fail
        refine (H1.out _).mono ?_
        rintro e w1 ⟨rfl, rfl⟩
        go_wp2_with fail
        refine (H2.out _).mono ?_
        rintro e w1 ⟨rfl, rfl⟩
        go_wp2_with fail
        refine (H3.out _).mono ?_
        rintro e w1 ⟨rfl, rfl⟩
        generalize w.alloc (.cells #[.bool false, .string ⟨#[]⟩] 36) = W at *
        go_wp2_with fail
        refine (H4.out _).mono ?_
        rintro e w1 ⟨rfl, rfl⟩
        have c0 := HB.out.c0
        have c1 := HB.out.c1
        have f0 := HB.out.f0
        have f1 := HB.out.f1
        have hput := HB.out.put (.bool false) (.string ⟨#[]⟩)
        have q0 := hput.1
        have q1 := hput.2
        clear hput
        go_wp2_with fail
        refine bodyPost_ret (v := .tuple #[.agg #[.bool false, .string (mkS [])], .int .i64 4]) ?_ rfl ⟨tgRet HG.out.1 HG.out.2, ?_⟩
        · simp [results, Tryd.results42, go_sem, q0, q1]; rfl
        · exact (HBl.out.setCell (p := ⟨w.heap.size, 0, none⟩) (Nat.le_refl _) _).setCell (p := ⟨w.heap.size, 1, none⟩) (Nat.le_refl _) _
      · have HG := Lib.hid (HYes.out rfl rfl rfl)
        clear HYes HN1 HN2 HN3 HNo HBad
        go_enter Tryd.func42, Tryd.ntmps42
        go_wp2_with fail
        refine (H1.out _).mono ?_
        rintro e w1 ⟨rfl, rfl⟩
        go_wp2_with fail
        refine (H2.out _).mono ?_
        rintro e w1 ⟨rfl, rfl⟩
        go_wp2_with fail
        refine (H3.out _).mono ?_
        rintro e w1 ⟨rfl, rfl⟩
        generalize w.alloc (.cells #[.bool false, .string ⟨#[]⟩] 36) = W at *
        go_wp2_with fail
        refine (H4.out _).mono ?_
        rintro e w1 ⟨rfl, rfl⟩
        go_wp2_with fail
        refine (H5.out _).mono ?_
        rintro e w2 ⟨rfl, hb⟩
        have HB2 := Lib.hid (HB.out.later hb)
        have HBl2 := Lib.hid (HBl.out.trans (hb.mono hsz))
        clear hb
        have c0 := HB2.out.c0
        have c1 := HB2.out.c1
        have f0 := HB2.out.f0
        have f1 := HB2.out.f1
        have hput := HB2.out.put (.bool K) (.string (mkS V))
        have q0 := hput.1
        have q1 := hput.2
        clear hput
        go_wp2_with fail
        refine bodyPost_ret (v := .tuple #[.agg #[.bool K, .string (mkS V)], .int .i64 0]) ?_ rfl ⟨tgRet HG.out.2.1 HG.out.2.2, ?_⟩
        · simp [results, Tryd.results42, go_sem, q0, q1]
        · exact (HBl2.out.setCell (p := ⟨w.heap.size, 0, none⟩) (Nat.le_refl _) _).setCell (p := ⟨w.heap.size, 1, none⟩) (Nat.le_refl _) _

theorem txRet {x y : ByteArray} {a b : Int} (h1 : x = y) (h2 : a = b) : Ending.returned (.tuple #[.string x, .int .i64 a]) = .returned (.tuple #[.string y, .int .i64 b]) := by
  subst h1 h2; rfl
theorem lit34 : (⟨#[34]⟩ : ByteArray) = mkS [34] := rfl
theorem lit8747 : (⟨#[87, 47]⟩ : ByteArray) = mkS [87, 47] := rfl

set_option maxHeartbeats 4000000 in
set_option maxRecDepth 100000 in
theorem ttext_any (t : Tg) (w : World) (hs : t.2.length ≤ 140737488351232) :
    Calls Tryd.prog 21 #[tgVal t] w fun e w' => e = .returned (.tuple #[.string (mkS (tgT t)), .int .i64 (tgTE t)]) ∧ Below w.heap.size w w' := by
  obtain ⟨k, v⟩ := t
  have H4 := Lib.hid (fun W : World => opaque_any (mkS v) W (by rw [size_mkS]; simp only at hs; omega))
  rw [bs_mkS] at H4
  have hz := size_mkS v
  simp only at hs
  have hT : tgT (k, v) = if opq v then (if k then [87, 47] else []) ++ ([34] ++ v ++ [34]) else [] := rfl
  have hE : tgTE (k, v) = if opq v then 0 else 4 := rfl
  have HT := Lib.hid hT
  have HE := Lib.hid hE
  have HB := Lib.hid (Two.new w 36 (.bool k) (.string (mkS v)))
  have HBl := Lib.hid (show Below w.heap.size w (w.alloc (.cells #[.bool k, .string (mkS v)] 36)) from (Below.refl _ _).alloc (Nat.le_refl _) _)
  clear hT hE
  unfold tgVal
  generalize tgT (k, v) = T at *
  generalize tgTE (k, v) = E at *
  simp only
  generalize hX : opq v = X at *
  clear hX
  have c0 := HB.out.c0
  have c1 := HB.out.c1
  cases X
  · go_enter Tryd.func21, Tryd.ntmps21
    go_wp2_with fail
    generalize w.alloc (.cells #[.bool k, .string (mkS v)] 36) = W at *
    refine (H4.out _).mono ?_
    rintro e w1 ⟨rfl, rfl⟩
    go_wp2_with fail
    go_ret2
    exact ⟨txRet (by rw [HT.out]; rfl) (by rw [HE.out]; rfl), HBl.out⟩
  · cases k
    · go_enter Tryd.func21, Tryd.ntmps21
      go_wp2_with fail
      generalize w.alloc (.cells #[.bool false, .string (mkS v)] 36) = W at *
      refine (H4.out _).mono ?_
      rintro e w1 ⟨rfl, rfl⟩
      go_wp2_with fail
      go_ret2
      exact ⟨txRet (by rw [HT.out, lit34, mkS_append, mkS_append]; rfl) (by rw [HE.out]; rfl), HBl.out⟩
    · go_enter Tryd.func21, Tryd.ntmps21
      go_wp2_with fail
      generalize w.alloc (.cells #[.bool true, .string (mkS v)] 36) = W at *
      refine (H4.out _).mono ?_
      rintro e w1 ⟨rfl, rfl⟩
      go_wp2_with fail
      go_ret2
      exact ⟨txRet (by rw [HT.out, lit34, lit8747, mkS_append, mkS_append, mkS_append]; rfl) (by rw [HE.out]; rfl), HBl.out⟩

/-- strongly, weakly the same -/
def stB (a b : Tg) : Bool := decide (a = b) && !a.1
def wkB (a b : Tg) : Bool := decide (a.2 = b.2)

set_option maxHeartbeats 4000000 in
set_option maxRecDepth 100000 in
theorem strong_any (a b : Tg) (w : World) :
    Calls Tryd.prog 18 #[tgVal a, tgVal b] w fun e w' => e = .returned (.bool (stB a b)) ∧ Below w.heap.size w w' := by
  obtain ⟨k, v⟩ := a
  obtain ⟨m, u⟩ := b
  have hA := Two.new w 36 (.bool k) (.string (mkS v))
  have hbA : Below w.heap.size w (w.alloc (.cells #[.bool k, .string (mkS v)] 36)) := (Below.refl _ _).alloc (Nat.le_refl _) _
  have hB := Two.new (w.alloc (.cells #[.bool k, .string (mkS v)] 36)) 36 (.bool m) (.string (mkS u))
  have hbB : Below (w.alloc (.cells #[.bool k, .string (mkS v)] 36)).heap.size (w.alloc (.cells #[.bool k, .string (mkS v)] 36)) ((w.alloc (.cells #[.bool k, .string (mkS v)] 36)).alloc (.cells #[.bool m, .string (mkS u)] 36)) := (Below.refl _ _).alloc (Nat.le_refl _) _
  have a0 := (hA.later hbB).c0
  have a1 := (hA.later hbB).c1
  have b0 := hB.c0
  have b1 := hB.c1
  have HBl := Lib.hid (hbA.trans (hbB.mono (by simp)))
  have hz : (w.alloc (.cells #[.bool k, .string (mkS v)] 36)).heap.size = w.heap.size + 1 := by simp
  rw [hz] at b0 b1
  have hv : stB (k, v) (m, u) = (decide ((k, v) = (m, u)) && !k) := rfl
  have HV := Lib.hid hv
  clear hA hbA hB hbB hz hv
  unfold tgVal
  generalize stB (k, v) (m, u) = q at *
  by_cases hk : k = m
  · by_cases hv : v = u
    · have HQ : Hid (q = !k) := by show _ = _; rw [HV.out, hk, hv]; simp
      clear HV
      subst hk hv
      go_enter Tryd.func18, Tryd.ntmps18
      go_wp2_with fail
      go_ret
      exact ⟨by rw [HQ.out]; rfl, HBl.out⟩
    · have hne : ¬ (mkS v).toList = (mkS u).toList := by rw [toList_bs, toList_bs, bs_mkS, bs_mkS]; exact hv
      have HQ : Hid (q = false) := by show _ = _; rw [HV.out, decide_eq_false (fun e => hv (by injection e))]; rfl
      clear HV hv
      subst hk
      go_enter Tryd.func18, Tryd.ntmps18
      go_wp2_with fail
      go_ret
      exact ⟨by rw [HQ.out]; rfl, HBl.out⟩
  · have HQ : Hid (q = false) := by show _ = _; rw [HV.out, decide_eq_false (fun e => hk (by injection e))]; rfl
    clear HV
    go_enter Tryd.func18, Tryd.ntmps18
    go_wp2_with fail
    go_ret
    exact ⟨by rw [HQ.out]; rfl, HBl.out⟩

set_option maxHeartbeats 4000000 in
set_option maxRecDepth 100000 in
theorem weak_any (a b : Tg) (w : World) :
    Calls Tryd.prog 19 #[tgVal a, tgVal b] w fun e w' => e = .returned (.bool (wkB a b)) ∧ Below w.heap.size w w' := by
  obtain ⟨k, v⟩ := a
  obtain ⟨m, u⟩ := b
  have hA := Two.new w 36 (.bool k) (.string (mkS v))
  have hbA : Below w.heap.size w (w.alloc (.cells #[.bool k, .string (mkS v)] 36)) := (Below.refl _ _).alloc (Nat.le_refl _) _
  have hB := Two.new (w.alloc (.cells #[.bool k, .string (mkS v)] 36)) 36 (.bool m) (.string (mkS u))
  have hbB : Below (w.alloc (.cells #[.bool k, .string (mkS v)] 36)).heap.size (w.alloc (.cells #[.bool k, .string (mkS v)] 36)) ((w.alloc (.cells #[.bool k, .string (mkS v)] 36)).alloc (.cells #[.bool m, .string (mkS u)] 36)) := (Below.refl _ _).alloc (Nat.le_refl _) _
  have hA2 := hA.later hbB
  have a0 := hA2.c0
  have a1 := hA2.c1
  have f0 := hA2.f0
  have b0 := hB.c0
  have b1 := hB.c1
  have HBl : Hid (∀ x y x' y' : Value, Below w.heap.size w ((w.alloc (.cells #[x, y] 36)).alloc (.cells #[x', y'] 36))) := fun x y x' y' => ((Below.refl _ _).alloc (Nat.le_refl _) _).alloc (by simp) _
  have hz : (w.alloc (.cells #[.bool k, .string (mkS v)] 36)).heap.size = w.heap.size + 1 := by simp
  rw [hz] at b0 b1
  have hv : wkB (k, v) (m, u) = decide (v = u) := rfl
  have HV := Lib.hid hv
  clear hA hA2 hbA hB hbB hz hv
  unfold tgVal
  generalize wkB (k, v) (m, u) = q at *
  by_cases hv : v = u
  · have HQ : Hid (q = true) := by show _ = _; rw [HV.out, hv]; simp
    clear HV
    subst hv
    go_enter Tryd.func19, Tryd.ntmps19
    go_wp2_with fail
    go_ret
    exact ⟨by rw [HQ.out]; rfl, HBl.out _ _ _ _⟩
  · have hne : ¬ (mkS v).toList = (mkS u).toList := by rw [toList_bs, toList_bs, bs_mkS, bs_mkS]; exact hv
    have HQ : Hid (q = false) := by show _ = _; rw [HV.out, decide_eq_false hv]
    clear HV hv
    go_enter Tryd.func19, Tryd.ntmps19
    go_wp2_with fail
    go_ret
    exact ⟨by rw [HQ.out]; rfl, HBl.out _ _ _ _⟩
end Tk
end Go.Proofs.YtajmheblbnodjaaDoor
