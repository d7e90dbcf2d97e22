/- Package method, and the document's own: contracts. -/
import Derived.Test.YtnbipbeeengiaaaMetA
namespace Go.Proofs.Ytnbipbeeengiaaa
open Go.RowKit
namespace Tk

set_option maxHeartbeats 2000000 in
set_option maxRecDepth 100000 in
theorem names_anyM (w : World) : Calls Try.prog 7 #[] w fun e w' => ∃ a c, e = .returned (.slice a 9 c) ∧ IsStrs w' (.slice a 9 c) nmsM ∧ Below w.heap.size w w' := by
  go_enter Try.func7, Try.ntmps7
  go_wp2_with fail
  go_ret
  exact ⟨_, _, rfl, isStrs_lit w nmsM _ _ _ rfl, below_allocM w _⟩

set_option maxHeartbeats 2000000 in
set_option maxRecDepth 100000 in
theorem rnames_anyM (w : World) : Calls Try.prog 15 #[] w fun e w' => ∃ a c, e = .returned (.slice a 9 c) ∧ IsStrs w' (.slice a 9 c) nmsM ∧ Below w.heap.size w w' := by
  go_enter Try.func15, Try.ntmps15
  go_wp2_with fail
  go_ret
  exact ⟨_, _, rfl, isStrs_lit w nmsM _ _ _ rfl, below_allocM w _⟩

set_option maxHeartbeats 2000000 in
set_option maxRecDepth 100000 in
theorem known_anyM (x : Bs) (w : World) : Calls Try.prog 8 #[.string (mkS x)] w fun e w' => e = .returned (.bool (knowM x)) ∧ Below w.heap.size w w' := by
  have HN := Lib.hid (fun W => names_anyM W)
  have HA : Hid (∀ v W, IsStrs W v nmsM → Calls Try.prog 26 #[.string (mkS x), v] W fun e w' => e = .returned (.bool (knowM x)) ∧ W = w') := fun v W hs => amongS_any x v nmsM W hs (by decide)
  generalize knowM x = q at *
  go_enter Try.func8, Try.ntmps8
  go_wp2_with fail
  refine (HN.out _).mono ?_
  rintro e w1 ⟨a, c, rfl, hs, hb⟩
  have HB := Lib.hid hb
  have HS := Lib.hid hs
  clear hb hs
  go_wp2_with fail
  refine (HA.out _ _ HS.out).mono ?_
  rintro e w2 ⟨rfl, rfl⟩
  go_wp2_with fail
  go_ret
  exact ⟨rfl, HB.out⟩

set_option maxHeartbeats 2000000 in
set_option maxRecDepth 100000 in
theorem rknown_anyM (x : Bs) (w : World) : Calls Try.prog 16 #[.string (mkS x)] w fun e w' => e = .returned (.bool (knowM x)) ∧ Below w.heap.size w w' := by
  have HN := Lib.hid (fun W => rnames_anyM W)
  have HQ := Lib.hid (show knowM x = decide (x ∈ nmsM) from rfl)
  have hl : nmsM.length = 9 := rfl
  generalize knowM x = q at *
  generalize nmsM = L at *
  go_enter Try.func16, Try.ntmps16
  go_wp2_with fail
  refine (HN.out _).mono ?_
  rintro e w1 ⟨a, c, rfl, ⟨a', c', hv, k⟩, hb⟩
  rw [hl] at hv
  injection hv with hv1 _ hv2
  subst hv1 hv2
  have HB := Lib.hid hb
  have K := Lib.hid k
  clear hb k
  go_wp2_with fail
  go_loopw [4] (fun vi wr => ∃ i : Nat, i ≤ 9 ∧ vi = .int .i64 i ∧ w1 = wr ∧ Hid (decide (x ∈ L) = decide (x ∈ L.drop i))) (fun vi _ => 9 - (RowKit.intOf vi).toNat)
  case atStart => exact ⟨0, Nat.zero_le _, rfl, rfl, rfl⟩
  case round =>
    obtain ⟨i, hi, rfl, rfl, HD⟩ := hrel
    by_cases hlt : i < 9
    · obtain ⟨b, o, rfl, e1⟩ := K.out i (L.getD i []) (by simp [List.getD, show i < L.length by omega])
      have s1 : L.drop i = L.getD i [] :: L.drop (i + 1) := by rw [List.drop_eq_getElem_cons (by omega)]; simp [List.getD, show i < L.length by omega]
      have S1 := Lib.hid s1
      clear s1
      generalize L.getD i [] = t at *
      by_cases ht : t = x
      · have bt : ((mkS t).toList == (mkS x).toList) = true := by rw [ht]; simp
        have fin : q = true := by rw [HQ.out, HD.out, S1.out]; simp [ht]
        have HF := Lib.hid fin
        clear fin ht hl
        go_wp2_with fail
        go_ret
        exact ⟨by rw [HF.out]; rfl, HB.out⟩
      · have bt : ((mkS t).toList == (mkS x).toList) = false := by rw [toList_bs, toList_bs, bs_mkS, bs_mkS, beq_eq_false_iff_ne]; exact ht
        have nx : decide (x ∈ L) = decide (x ∈ L.drop (i + 1)) := by
          rw [HD.out, S1.out]
          have h2 : ¬ x = t := fun e => ht e.symm
          simp [h2]
        have HF := Lib.hid nx
        clear nx ht hl
        go_wp2_with fail
        exact ⟨⟨i + 1, by omega, by go_num, by first | trivial | rfl, HF⟩, by simp [RowKit.intOf]; omega⟩
    · have fin : q = false := by
        rw [HQ.out, HD.out, List.drop_eq_nil_of_le (by omega)]; simp
      have HF := Lib.hid fin
      clear fin hl
      go_wp2_with fail
      go_ret
      exact ⟨by rw [HF.out]; rfl, HB.out⟩

set_option maxHeartbeats 2000000 in
set_option maxRecDepth 100000 in
theorem cached_anyM (x : Bs) (w : World) : Calls Try.prog 9 #[.string (mkS x)] w fun e w' => e = .returned (.bool (cachM x)) ∧ Below w.heap.size w w' := by
  have HA : Hid (∀ v W, IsStrs W v [mtGET, mtHEAD] → Calls Try.prog 26 #[.string (mkS x), v] W fun e w' => e = .returned (.bool (cachM x)) ∧ W = w') := fun v W hs => amongS_any x v [mtGET, mtHEAD] W hs (by decide)
  generalize cachM x = q at *
  go_enter Try.func9, Try.ntmps9
  go_wp2_with fail
  refine (HA.out _ _ (isStrs_lit w [mtGET, mtHEAD] _ _ _ rfl)).mono ?_
  rintro e w2 ⟨rfl, rfl⟩
  go_wp2_with fail
  go_ret
  exact ⟨rfl, below_allocM w _⟩

set_option maxHeartbeats 2000000 in
set_option maxRecDepth 100000 in
theorem safe_anyM (x : Bs) (w : World) : Calls Try.prog 17 #[.string (mkS x)] w fun e w' => e = .returned (.bool (safeM x)) ∧ Below w.heap.size w w' := by
  have HC : Hid (∀ W : World, Calls Try.prog 9 #[.string (mkS x)] W fun e w' => e = .returned (.bool (cachM x)) ∧ Below W.heap.size W w') := fun W => cached_anyM x W
  have HA : Hid (∀ v W, IsStrs W v [mtOPTIONS, mtTRACE] → Calls Try.prog 26 #[.string (mkS x), v] W fun e w' => e = .returned (.bool (decide (x ∈ [mtOPTIONS, mtTRACE]))) ∧ W = w') := fun v W hs => amongS_any x v [mtOPTIONS, mtTRACE] W hs (by decide)
  rw [show safeM x = (cachM x || decide (x ∈ [mtOPTIONS, mtTRACE])) from rfl]
  generalize cachM x = c at *
  generalize decide (x ∈ [mtOPTIONS, mtTRACE]) = d at *
  cases c
  · go_enter Try.func17, Try.ntmps17
    go_wp2_with fail
    refine (HC.out _).mono ?_
    rintro e w1 ⟨rfl, hb⟩
    have HB := Lib.hid (hb.trans ((below_allocM w1 (.cells #[.string (mkS mtOPTIONS), .string (mkS mtTRACE)] 9)).mono hb.size))
    clear hb
    go_wp2_with fail
    refine (HA.out _ _ (isStrs_lit w1 [mtOPTIONS, mtTRACE] _ _ _ rfl)).mono ?_
    rintro e w2 ⟨rfl, rfl⟩
    go_wp2_with fail
    go_ret
    exact ⟨rfl, HB.out⟩
  · go_enter Try.func17, Try.ntmps17
    go_wp2_with fail
    refine (HC.out _).mono ?_
    rintro e w1 ⟨rfl, hb⟩
    have HB := Lib.hid hb
    clear hb
    go_wp2_with fail
    go_ret
    exact ⟨rfl, HB.out⟩

set_option maxHeartbeats 2000000 in
set_option maxRecDepth 100000 in
theorem idem_anyM (x : Bs) (w : World) : Calls Try.prog 19 #[.string (mkS x)] w fun e w' => e = .returned (.bool (idemM x)) ∧ Below w.heap.size w w' := by
  have HC : Hid (∀ W : World, Calls Try.prog 17 #[.string (mkS x)] W fun e w' => e = .returned (.bool (safeM x)) ∧ Below W.heap.size W w') := fun W => safe_anyM x W
  have HA : Hid (∀ v W, IsStrs W v [mtPUT, mtDELETE] → Calls Try.prog 26 #[.string (mkS x), v] W fun e w' => e = .returned (.bool (decide (x ∈ [mtPUT, mtDELETE]))) ∧ W = w') := fun v W hs => amongS_any x v [mtPUT, mtDELETE] W hs (by decide)
  rw [show idemM x = (safeM x || decide (x ∈ [mtPUT, mtDELETE])) from rfl]
  generalize safeM x = c at *
  generalize decide (x ∈ [mtPUT, mtDELETE]) = d at *
  cases c
  · go_enter Try.func19, Try.ntmps19
    go_wp2_with fail
    refine (HC.out _).mono ?_
    rintro e w1 ⟨rfl, hb⟩
    have HB := Lib.hid (hb.trans ((below_allocM w1 (.cells #[.string (mkS mtPUT), .string (mkS mtDELETE)] 9)).mono hb.size))
    clear hb
    go_wp2_with fail
    refine (HA.out _ _ (isStrs_lit w1 [mtPUT, mtDELETE] _ _ _ rfl)).mono ?_
    rintro e w2 ⟨rfl, rfl⟩
    go_wp2_with fail
    go_ret
    exact ⟨rfl, HB.out⟩
  · go_enter Try.func19, Try.ntmps19
    go_wp2_with fail
    refine (HC.out _).mono ?_
    rintro e w1 ⟨rfl, hb⟩
    have HB := Lib.hid hb
    clear hb
    go_wp2_with fail
    go_ret
    exact ⟨rfl, HB.out⟩

set_option maxHeartbeats 2000000 in
set_option maxRecDepth 100000 in
theorem rsafe_anyM (x : Bs) (w : World) : Calls Try.prog 18 #[.string (mkS x)] w fun e w' => e = .returned (.bool (safeM x)) ∧ w = w' := by
  have E0 : ((mkS x).toList == ([71, 69, 84] : List UInt8)) = decide (x = mtGET) := by rw [toList_bs, bs_mkS]; show (x == mtGET) = _; by_cases h : x = mtGET <;> simp [h]
  have E1 : ((mkS x).toList == ([72, 69, 65, 68] : List UInt8)) = decide (x = mtHEAD) := by rw [toList_bs, bs_mkS]; show (x == mtHEAD) = _; by_cases h : x = mtHEAD <;> simp [h]
  have E2 : ((mkS x).toList == ([79, 80, 84, 73, 79, 78, 83] : List UInt8)) = decide (x = mtOPTIONS) := by rw [toList_bs, bs_mkS]; show (x == mtOPTIONS) = _; by_cases h : x = mtOPTIONS <;> simp [h]
  have E3 : ((mkS x).toList == ([84, 82, 65, 67, 69] : List UInt8)) = decide (x = mtTRACE) := by rw [toList_bs, bs_mkS]; show (x == mtTRACE) = _; by_cases h : x = mtTRACE <;> simp [h]
  have HQ : Hid (safeM x = (decide (x = mtGET) || decide (x = mtHEAD) || decide (x = mtOPTIONS) || decide (x = mtTRACE))) := by show _ = _; simp [safeM, cachM, Bool.or_assoc]
  generalize safeM x = q at *
  generalize decide (x = mtGET) = d0 at *
  generalize decide (x = mtHEAD) = d1 at *
  generalize decide (x = mtOPTIONS) = d2 at *
  generalize decide (x = mtTRACE) = d3 at *
  cases d0
  case true =>
    have HF : Hid (q = true) := by show _ = _; rw [HQ.out]; rfl
    clear HQ
    go_enter Try.func18, Try.ntmps18
    go_wp2_with fail
    go_ret
    exact ⟨by rw [HF.out]; rfl, rfl⟩
  cases d1
  case true =>
    have HF : Hid (q = true) := by show _ = _; rw [HQ.out]; rfl
    clear HQ
    go_enter Try.func18, Try.ntmps18
    go_wp2_with fail
    go_ret
    exact ⟨by rw [HF.out]; rfl, rfl⟩
  cases d2
  case true =>
    have HF : Hid (q = true) := by show _ = _; rw [HQ.out]; rfl
    clear HQ
    go_enter Try.func18, Try.ntmps18
    go_wp2_with fail
    go_ret
    exact ⟨by rw [HF.out]; rfl, rfl⟩
  cases d3
  case true =>
    have HF : Hid (q = true) := by show _ = _; rw [HQ.out]; rfl
    clear HQ
    go_enter Try.func18, Try.ntmps18
    go_wp2_with fail
    go_ret
    exact ⟨by rw [HF.out]; rfl, rfl⟩
  have HF : Hid (q = false) := by show _ = _; rw [HQ.out]; rfl
  clear HQ
  go_enter Try.func18, Try.ntmps18
  go_wp2_with fail
  go_ret
  exact ⟨by rw [HF.out]; rfl, rfl⟩

set_option maxHeartbeats 2000000 in
set_option maxRecDepth 100000 in
theorem rcached_anyM (x : Bs) (w : World) : Calls Try.prog 21 #[.string (mkS x)] w fun e w' => e = .returned (.bool (cachM x)) ∧ w = w' := by
  have E0 : ((mkS x).toList == ([71, 69, 84] : List UInt8)) = decide (x = mtGET) := by rw [toList_bs, bs_mkS]; show (x == mtGET) = _; by_cases h : x = mtGET <;> simp [h]
  have E1 : ((mkS x).toList == ([72, 69, 65, 68] : List UInt8)) = decide (x = mtHEAD) := by rw [toList_bs, bs_mkS]; show (x == mtHEAD) = _; by_cases h : x = mtHEAD <;> simp [h]
  have HQ : Hid (cachM x = (decide (x = mtGET) || decide (x = mtHEAD))) := by show _ = _; simp [cachM]
  generalize cachM x = q at *
  generalize decide (x = mtGET) = d0 at *
  generalize decide (x = mtHEAD) = d1 at *
  cases d0
  case true =>
    have HF : Hid (q = true) := by show _ = _; rw [HQ.out]; rfl
    clear HQ
    go_enter Try.func21, Try.ntmps21
    go_wp2_with fail
    go_ret
    exact ⟨by rw [HF.out]; rfl, rfl⟩
  cases d1
  case true =>
    have HF : Hid (q = true) := by show _ = _; rw [HQ.out]; rfl
    clear HQ
    go_enter Try.func21, Try.ntmps21
    go_wp2_with fail
    go_ret
    exact ⟨by rw [HF.out]; rfl, rfl⟩
  have HF : Hid (q = false) := by show _ = _; rw [HQ.out]; rfl
  clear HQ
  go_enter Try.func21, Try.ntmps21
  go_wp2_with fail
  go_ret
  exact ⟨by rw [HF.out]; rfl, rfl⟩

set_option maxHeartbeats 2000000 in
set_option maxRecDepth 100000 in
theorem ridem_anyM (x : Bs) (w : World) : Calls Try.prog 20 #[.string (mkS x)] w fun e w' => e = .returned (.bool (idemM x)) ∧ w = w' := by
  have HC : Hid (∀ W : World, Calls Try.prog 18 #[.string (mkS x)] W fun e w' => e = .returned (.bool (safeM x)) ∧ W = w') := fun W => rsafe_anyM x W
  have E0 : ((mkS x).toList == ([80, 85, 84] : List UInt8)) = decide (x = mtPUT) := by rw [toList_bs, bs_mkS]; show (x == mtPUT) = _; by_cases h : x = mtPUT <;> simp [h]
  have E1 : ((mkS x).toList == ([68, 69, 76, 69, 84, 69] : List UInt8)) = decide (x = mtDELETE) := by rw [toList_bs, bs_mkS]; show (x == mtDELETE) = _; by_cases h : x = mtDELETE <;> simp [h]
  have HQ : Hid (idemM x = (safeM x || decide (x = mtPUT) || decide (x = mtDELETE))) := by show _ = _; simp [idemM, Bool.or_assoc]
  generalize idemM x = q at *
  generalize safeM x = c at *
  generalize decide (x = mtPUT) = d0 at *
  generalize decide (x = mtDELETE) = d1 at *
  have HF : Hid (q = (c || d0 || d1)) := HQ.out
  clear HQ
  cases c <;> cases d0 <;> cases d1
  all_goals
    go_enter Try.func20, Try.ntmps20
    go_wp2_with fail
    refine (HC.out _).mono ?_
    rintro e w1 ⟨rfl, rfl⟩
    go_wp2_with fail
    go_ret
    exact ⟨by rw [HF.out]; rfl, rfl⟩

set_option maxHeartbeats 2000000 in
set_option maxRecDepth 100000 in
theorem heu_anyM (n : Int) (w : World) : Calls Try.prog 10 #[.int .i64 n] w fun e w' => e = .returned (.bool (heuM n)) ∧ Below w.heap.size w w' := by
  have HA : Hid (∀ v W, IsNums W v [200, 203, 204, 206, 300, 301, 308, 404, 405, 410, 414, 501] → Calls Try.prog 27 #[.int .i64 n, v] W fun e w' => e = .returned (.bool (heuM n)) ∧ W = w') := fun v W hs => amongI_any n v [200, 203, 204, 206, 300, 301, 308, 404, 405, 410, 414, 501] W hs (by decide)
  generalize heuM n = q at *
  go_enter Try.func10, Try.ntmps10
  go_wp2_with fail
  refine (HA.out _ _ (isNums_lit w [200, 203, 204, 206, 300, 301, 308, 404, 405, 410, 414, 501] _ _ _ rfl)).mono ?_
  rintro e w2 ⟨rfl, rfl⟩
  go_wp2_with fail
  go_ret
  exact ⟨rfl, below_allocM w _⟩

set_option maxHeartbeats 2000000 in
set_option maxRecDepth 100000 in
theorem und_anyM (n : Int) (w : World) : Calls Try.prog 11 #[.int .i64 n] w fun e w' => e = .returned (.bool (undM n)) ∧ Below w.heap.size w w' := by
  have HA : Hid (∀ v W, IsNums W v [200, 203, 204, 300, 301, 302, 307, 308, 404, 405, 410, 414, 501] → Calls Try.prog 27 #[.int .i64 n, v] W fun e w' => e = .returned (.bool (undM n)) ∧ W = w') := fun v W hs => amongI_any n v [200, 203, 204, 300, 301, 302, 307, 308, 404, 405, 410, 414, 501] W hs (by decide)
  generalize undM n = q at *
  go_enter Try.func11, Try.ntmps11
  go_wp2_with fail
  refine (HA.out _ _ (isNums_lit w [200, 203, 204, 300, 301, 302, 307, 308, 404, 405, 410, 414, 501] _ _ _ rfl)).mono ?_
  rintro e w2 ⟨rfl, rfl⟩
  go_wp2_with fail
  go_ret
  exact ⟨rfl, below_allocM w _⟩

set_option maxHeartbeats 2000000 in
set_option maxRecDepth 100000 in
theorem brk_anyM (n : Int) (w : World) : Calls Try.prog 13 #[.int .i64 n] w fun e w' => e = .returned (.bool (brkM n)) ∧ Below w.heap.size w w' := by
  have HA : Hid (∀ v W, IsNums W v [500, 502, 503, 504] → Calls Try.prog 27 #[.int .i64 n, v] W fun e w' => e = .returned (.bool (brkM n)) ∧ W = w') := fun v W hs => amongI_any n v [500, 502, 503, 504] W hs (by decide)
  generalize brkM n = q at *
  go_enter Try.func13, Try.ntmps13
  go_wp2_with fail
  refine (HA.out _ _ (isNums_lit w [500, 502, 503, 504] _ _ _ rfl)).mono ?_
  rintro e w2 ⟨rfl, rfl⟩
  go_wp2_with fail
  go_ret
  exact ⟨rfl, below_allocM w _⟩

set_option maxHeartbeats 2000000 in
set_option maxRecDepth 100000 in
theorem rheu_anyM (n : Int) (w : World) : Calls Try.prog 22 #[.int .i64 n] w fun e w' => e = .returned (.bool (heuM n)) ∧ Below w.heap.size w w' := by
  have HA : Hid (∀ v W, IsNums W v [200, 203, 204, 206, 300, 301, 308, 404, 405, 410, 414, 501] → Calls Try.prog 28 #[.int .i64 n, v] W fun e w' => e = .returned (.bool (heuM n)) ∧ W = w') := fun v W hs => rin_any n v [200, 203, 204, 206, 300, 301, 308, 404, 405, 410, 414, 501] W hs (by decide)
  generalize heuM n = q at *
  go_enter Try.func22, Try.ntmps22
  go_wp2_with fail
  refine (HA.out _ _ (isNums_lit w [200, 203, 204, 206, 300, 301, 308, 404, 405, 410, 414, 501] _ _ _ rfl)).mono ?_
  rintro e w2 ⟨rfl, rfl⟩
  go_wp2_with fail
  go_ret
  exact ⟨rfl, below_allocM w _⟩

set_option maxHeartbeats 2000000 in
set_option maxRecDepth 100000 in
theorem rund_anyM (n : Int) (w : World) : Calls Try.prog 24 #[.int .i64 n] w fun e w' => e = .returned (.bool (undM n)) ∧ Below w.heap.size w w' := by
  have HA : Hid (∀ v W, IsNums W v [200, 203, 204, 300, 301, 302, 307, 308, 404, 405, 410, 414, 501] → Calls Try.prog 28 #[.int .i64 n, v] W fun e w' => e = .returned (.bool (undM n)) ∧ W = w') := fun v W hs => rin_any n v [200, 203, 204, 300, 301, 302, 307, 308, 404, 405, 410, 414, 501] W hs (by decide)
  generalize undM n = q at *
  go_enter Try.func24, Try.ntmps24
  go_wp2_with fail
  refine (HA.out _ _ (isNums_lit w [200, 203, 204, 300, 301, 302, 307, 308, 404, 405, 410, 414, 501] _ _ _ rfl)).mono ?_
  rintro e w2 ⟨rfl, rfl⟩
  go_wp2_with fail
  go_ret
  exact ⟨rfl, below_allocM w _⟩

set_option maxHeartbeats 2000000 in
set_option maxRecDepth 100000 in
theorem rbrk_anyM (n : Int) (w : World) : Calls Try.prog 25 #[.int .i64 n] w fun e w' => e = .returned (.bool (brkM n)) ∧ Below w.heap.size w w' := by
  have HA : Hid (∀ v W, IsNums W v [500, 502, 503, 504] → Calls Try.prog 28 #[.int .i64 n, v] W fun e w' => e = .returned (.bool (brkM n)) ∧ W = w') := fun v W hs => rin_any n v [500, 502, 503, 504] W hs (by decide)
  generalize brkM n = q at *
  go_enter Try.func25, Try.ntmps25
  go_wp2_with fail
  refine (HA.out _ _ (isNums_lit w [500, 502, 503, 504] _ _ _ rfl)).mono ?_
  rintro e w2 ⟨rfl, rfl⟩
  go_wp2_with fail
  go_ret
  exact ⟨rfl, below_allocM w _⟩

set_option maxHeartbeats 2000000 in
set_option maxRecDepth 100000 in
theorem fin_anyM (n : Int) (w : World) : Calls Try.prog 12 #[.int .i64 n] w fun e w' => e = .returned (.bool (finM n)) ∧ w = w' := by
  have HF : Hid (finM n = (decide (200 ≤ n) && decide (n ≤ 599))) := rfl
  generalize finM n = q at *
  by_cases h1 : 200 ≤ n
  · by_cases h2 : n ≤ 599
    · rw [decide_eq_true h1, decide_eq_true h2] at HF
      go_enter Try.func12, Try.ntmps12
      go_wp2_with fail
      go_ret
      exact ⟨by rw [HF.out]; rfl, rfl⟩
    · rw [decide_eq_true h1, decide_eq_false h2] at HF
      go_enter Try.func12, Try.ntmps12
      go_wp2_with fail
      go_ret
      exact ⟨by rw [HF.out]; rfl, rfl⟩
  · rw [decide_eq_false h1] at HF
    go_enter Try.func12, Try.ntmps12
    go_wp2_with fail
    go_ret
    exact ⟨by rw [HF.out]; rfl, rfl⟩

set_option maxHeartbeats 2000000 in
set_option maxRecDepth 100000 in
theorem rfin_anyM (n : Int) (w : World) : Calls Try.prog 23 #[.int .i64 n] w fun e w' => e = .returned (.bool (finM n)) ∧ w = w' := by
  have HF : Hid (finM n = (decide (200 ≤ n) && decide (n ≤ 599))) := rfl
  generalize finM n = q at *
  by_cases h1 : 200 ≤ n
  · by_cases h2 : n ≤ 599
    · rw [decide_eq_true h1, decide_eq_true h2] at HF
      go_enter Try.func23, Try.ntmps23
      go_wp2_with fail
      go_ret
      exact ⟨by rw [HF.out]; rfl, rfl⟩
    · rw [decide_eq_true h1, decide_eq_false h2] at HF
      go_enter Try.func23, Try.ntmps23
      go_wp2_with fail
      go_ret
      exact ⟨by rw [HF.out]; rfl, rfl⟩
  · rw [decide_eq_false h1] at HF
    go_enter Try.func23, Try.ntmps23
    go_wp2_with fail
    go_ret
    exact ⟨by rw [HF.out]; rfl, rfl⟩

end Tk
end Go.Proofs.Ytnbipbeeengiaaa
