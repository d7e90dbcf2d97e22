/- The law StartVersions: its walk. -/
import Derived.Test.YtliinjibnikfgaaStaL
namespace Go.Proofs.Ytliinjibnikfgaa
open Go.RowKit
namespace Tk

/-- GET / and what stands behind it -/
def getL (l : Bs) : Bs := [71, 69, 84] ++ 32 :: ([47] ++ 32 :: l)
theorem get_parts (l : Bs) : rSt (getL l) = vSt l ∧ reqN (getL l) = vMi l := by
  obtain ⟨h1, h2, h3⟩ := req_cuts [71, 69, 84] [47] l (by decide) (by decide)
  have hs : rSt (getL l) = vSt l := by
    unfold rSt getL rIn
    rw [h1, h2, h3]; rfl
  refine ⟨hs, ?_⟩
  unfold reqN
  rw [hs]
  by_cases h0 : vSt l = 0
  · rw [if_pos h0]; unfold getL; rw [h3]
  · rw [if_neg h0]; unfold vMi; rw [if_neg h0]
theorem ver_no (a b : UInt8) (h : isDig a = false ∨ isDig b = false) : vSt (httpL ++ [a, 46, b]) = 400 ∧ vMi (httpL ++ [a, 46, b]) = 0 := by
  refine v_none _ ?_
  cases hf : vForm (httpL ++ [a, 46, b]) with
  | false => rfl
  | true =>
    obtain ⟨a', b', da, db, e, -, -⟩ := vForm_of _ hf
    have e2 := List.append_cancel_left e
    injection e2 with e3 e4
    injection e4 with e5 e6
    injection e6 with e7 e8
    subst e3 e7
    rcases h with h | h
    · rw [da] at h; cases h
    · rw [db] at h; cases h
theorem ver_yes (a b : UInt8) (ha : isDig a = true) (hb : isDig b = true) (hk : (decide (a = 49) && (decide (b = 48) || decide (b = 49))) = false) : vSt (httpL ++ [a, 46, b]) = 505 ∧ vMi (httpL ++ [a, 46, b]) = 0 := by
  obtain ⟨h1, h2, h3⟩ := v_digits a b ha hb
  refine v_other _ h1 ?_
  unfold vKnown
  rw [h2, h3]
  simpa using hk
theorem vKnown_10 : vSt (httpL ++ [49, 46, 48]) = 0 ∧ vMi (httpL ++ [49, 46, 48]) = 0 := by decide +kernel
theorem vKnown_11 : vSt (httpL ++ [49, 46, 49]) = 0 ∧ vMi (httpL ++ [49, 46, 49]) = 1 := by decide +kernel

theorem cells_newV (w : World) (cs : Array Value) (T : TypeId) (j : Nat) (u : Value) (h : cs.toList[j]? = some u) : (w.alloc (.cells cs T)).cell? ((⟨w.heap.size, 0, none⟩ : Addr).add j) = some u := by
  have e : (w.alloc (.cells cs T)).cell? ⟨w.heap.size, j, none⟩ = some u := by
    rw [Lib.cell_of_heap (heap_alloc_last w _)]
    rw [Array.getElem?_toList] at h
    exact h
  by_cases hj : j = 0
  · subst hj; simpa [Addr.add] using e
  · simpa [Addr.add, hj] using e

/-- what the law asks of the text of a version, test by test -/
def VText (v : ByteArray) : Prop :=
  (v.size ≠ 8 ∧ vSt (bs v) = 400) ∨
  (v.size = 8 ∧ bs (v.extract 0 5) ≠ httpL ∧ vSt (bs v) = 400) ∨
  (∃ h : v.size = 8, bs (v.extract 0 5) = httpL ∧ (v[6]'(by omega)).toNat ≠ 46 ∧ vSt (bs v) = 400) ∨
  (∃ h : v.size = 8, bs (v.extract 0 5) = httpL ∧ (v[6]'(by omega)).toNat = 46 ∧ ¬ 48 ≤ (v[5]'(by omega)).toNat ∧ vSt (bs v) = 400) ∨
  (∃ h : v.size = 8, bs (v.extract 0 5) = httpL ∧ (v[6]'(by omega)).toNat = 46 ∧ 48 ≤ (v[5]'(by omega)).toNat ∧ ¬ (v[5]'(by omega)).toNat ≤ 57 ∧ vSt (bs v) = 400) ∨
  (∃ h : v.size = 8, bs (v.extract 0 5) = httpL ∧ (v[6]'(by omega)).toNat = 46 ∧ 48 ≤ (v[5]'(by omega)).toNat ∧ (v[5]'(by omega)).toNat ≤ 57 ∧ ¬ 48 ≤ (v[7]'(by omega)).toNat ∧ vSt (bs v) = 400) ∨
  (∃ h : v.size = 8, bs (v.extract 0 5) = httpL ∧ (v[6]'(by omega)).toNat = 46 ∧ 48 ≤ (v[5]'(by omega)).toNat ∧ (v[5]'(by omega)).toNat ≤ 57 ∧ 48 ≤ (v[7]'(by omega)).toNat ∧ ¬ (v[7]'(by omega)).toNat ≤ 57 ∧ vSt (bs v) = 400) ∨
  (∃ h : v.size = 8, bs (v.extract 0 5) = httpL ∧ (v[6]'(by omega)).toNat = 46 ∧ 48 ≤ (v[5]'(by omega)).toNat ∧ (v[5]'(by omega)).toNat ≤ 57 ∧ 48 ≤ (v[7]'(by omega)).toNat ∧ (v[7]'(by omega)).toNat ≤ 57)

theorem getD_of (v : ByteArray) (l : Bs) (h : bs v = l) (k : Nat) (hk : k < v.size) : v[k] = l.getD k 0 := by
  rw [← h]; exact (getD_bs v k hk).symm
theorem vtext (v : ByteArray) : VText v := by
  unfold VText
  have key : vSt (bs v) ≠ 400 → ∃ h : v.size = 8, bs (v.extract 0 5) = httpL ∧ (v[6]'(by omega)).toNat = 46 ∧ 48 ≤ (v[5]'(by omega)).toNat ∧ (v[5]'(by omega)).toNat ≤ 57 ∧ 48 ≤ (v[7]'(by omega)).toNat ∧ (v[7]'(by omega)).toNat ≤ 57 := by
    intro hn
    have hf : vForm (bs v) = true := by
      cases hf : vForm (bs v) with
      | true => rfl
      | false => exact absurd (v_none _ hf).1 hn
    obtain ⟨a, b, da, db, e, -, -⟩ := vForm_of _ hf
    have hz : v.size = 8 := by rw [← length_bs, e]; rfl
    have ba := dig_bd a da
    have bb := dig_bd b db
    refine ⟨hz, ?_, ?_, ?_, ?_, ?_, ?_⟩
    · rw [bs_extract, e]; rfl
    · rw [getD_of v _ e 6 (by omega)]; rfl
    · rw [getD_of v _ e 5 (by omega)]; exact ba.1
    · rw [getD_of v _ e 5 (by omega)]; exact ba.2
    · rw [getD_of v _ e 7 (by omega)]; exact bb.1
    · rw [getD_of v _ e 7 (by omega)]; exact bb.2
  by_cases hv : vSt (bs v) = 400
  · by_cases h8 : v.size = 8
    · by_cases c1 : bs (v.extract 0 5) = httpL
      · by_cases c2 : (v[6]'(by omega)).toNat = 46
        · by_cases c3 : 48 ≤ (v[5]'(by omega)).toNat
          · by_cases c4 : (v[5]'(by omega)).toNat ≤ 57
            · by_cases c5 : 48 ≤ (v[7]'(by omega)).toNat
              · by_cases c6 : (v[7]'(by omega)).toNat ≤ 57
                · exact .inr (.inr (.inr (.inr (.inr (.inr (.inr ⟨h8, c1, c2, c3, c4, c5, c6⟩))))))
                · exact .inr (.inr (.inr (.inr (.inr (.inr (.inl ⟨h8, c1, c2, c3, c4, c5, c6, hv⟩))))))
              · exact .inr (.inr (.inr (.inr (.inr (.inl ⟨h8, c1, c2, c3, c4, c5, hv⟩)))))
            · exact .inr (.inr (.inr (.inr (.inl ⟨h8, c1, c2, c3, c4, hv⟩))))
          · exact .inr (.inr (.inr (.inl ⟨h8, c1, c2, c3, hv⟩)))
        · exact .inr (.inr (.inl ⟨h8, c1, c2, hv⟩))
      · exact .inr (.inl ⟨h8, c1, hv⟩)
    · exact .inl ⟨h8, hv⟩
  · obtain ⟨h, q⟩ := key hv
    exact .inr (.inr (.inr (.inr (.inr (.inr (.inr ⟨h, q⟩))))))

def ReqIs (s : ByteArray) (n st : Nat) : Prop := ∃ M T : ByteArray, ∀ W : World, Calls Try.prog 10 #[.string s] W fun e w' => e = .returned (.tuple #[.string M, .string T, .int .i64 (n : Int), .int .i64 (st : Int)]) ∧ Below W.heap.size W w'
theorem reqIs_get (s : ByteArray) (l : Bs) (hl : l.length ≤ 100) (h : bs s = getL l) : ReqIs s (vMi l) (vSt l) := by
  obtain ⟨h1, h2⟩ := get_parts l
  have hz : s.size ≤ 1000 := by rw [← length_bs, h]; unfold getL; simp; omega
  refine ⟨mkS (reqM (getL l)), mkS (reqT (getL l)), fun W => ?_⟩
  have := request_any s W (by omega)
  unfold ReqPost at this
  rw [h, h1, h2] at this
  exact this

set_option maxRecDepth 100000 in
set_option maxHeartbeats 2000000 in
theorem versions_big (a b : UInt8) (v : ByteArray) (w : World) (h : ¬ v.size ≤ 20) :
    Calls Try.prog 4 #[.int .u8 (a.toNat : Int), .int .u8 (b.toNat : Int), .string v] w (Yes3 w) := by
  have HL := Lib.hid (lives03_any w)
  have h' : (20 : Int) < (v.size : Int) := by omega
  clear h
  go_enter Try.func4, Try.ntmps4
  go_wp2_with fail
  refine HL.out.mono ?_
  rintro e w1 ⟨rfl, hb⟩
  have HB := Lib.hid hb
  clear hb
  go_wp2_with fail
  go_ret
  exact ⟨rfl, HB.out⟩

set_option maxRecDepth 100000 in
set_option maxHeartbeats 8000000 in
theorem versions_lowA (a b : UInt8) (v : ByteArray) (w : World) (h20 : v.size ≤ 20) (ha : ¬ 48 ≤ a.toNat) (hn : vMi (httpL ++ [a, 46, b]) = 0) (hs : vSt (httpL ++ [a, 46, b]) = 400) :
    Calls Try.prog 4 #[.int .u8 (a.toNat : Int), .int .u8 (b.toNat : Int), .string v] w (Yes3 w) := by
  have HL := Lib.hid (lives03_any w)
  have hr1 := reqIs_get ((⟨#[71, 69, 84, 32, 47, 32, 72, 84, 84, 80, 47]⟩ : ByteArray) ++ ⟨[a, 46, b].toArray⟩) (httpL ++ [a, 46, b]) (show 8 ≤ 100 by omega) (by
    show bs (mkS [71, 69, 84, 32, 47, 32, 72, 84, 84, 80, 47] ++ mkS [a, 46, b]) = _
    rw [mkS_append, bs_mkS]; rfl)
  rw [hn, hs] at hr1
  obtain ⟨M1, T1, hr1⟩ := hr1
  have hr2 := reqIs_get ((⟨#[71, 69, 84, 32, 47, 32]⟩ : ByteArray) ++ v) (bs v) (by rw [length_bs]; omega) (by
    have : v = mkS (bs v) := (mkS_bs v).symm
    show bs (mkS [71, 69, 84, 32, 47, 32] ++ v) = _
    conv => lhs; rw [this]
    rw [mkS_append, bs_mkS]; rfl)
  have HR1 := Lib.hid hr1
  have HR2 := Lib.hid hr2
  have HVT := Lib.hid (vtext v)
  unfold VText at HVT
  have ea49 : ((a.toNat : Int) == 49) = false := by rw [beq_eq_false_iff_ne]; omega
  clear hr1 hr2 hn hs
  go_enter Try.func4, Try.ntmps4
  go_wp2_with fail
  refine HL.out.mono ?_
  rintro e w1 ⟨rfl, hb⟩
  have HB := Lib.hid (hb.alloc hb.size (Obj.cells #[.int .u8 (a.toNat : Int), .int .u8 46, .int .u8 (b.toNat : Int)] 5))
  clear hb
  have hback := run_convert_bytes_back (P := Try.prog) (w1.alloc (Obj.cells #[.int .u8 (a.toNat : Int), .int .u8 46, .int .u8 (b.toNat : Int)] 5)) 32 9 5 ⟨w1.heap.size, 0, none⟩ 3 [a, 46, b] Try.underlying32 Try.underlying5 Try.underlying9 (fun j hj => cells_newV w1 _ _ j _ (by
    match j, hj with
    | 0, _ | 1, _ | 2, _ => rfl))
  rw [show [a, 46, b].length = 3 from rfl] at hback
  go_wp2_with fail
  refine (HR1.out _).mono ?_
  rintro e w2 ⟨rfl, hb⟩
  have HB2 := Lib.hid (HB.out.trans (hb.mono HB.out.size))
  clear hb hback
  go_wp2_with fail
  obtain ⟨M2, T2, hr2⟩ := HR2.out
  have HR2b := Lib.hid hr2
  clear hr2
  refine (HR2b.out _).mono ?_
  rintro e w3 ⟨rfl, hb⟩
  have HB3 := Lib.hid (HB2.out.trans (hb.mono HB2.out.size))
  clear hb
  rcases HVT.out with ⟨c0, hv⟩ | ⟨c0, c1, hv⟩ | ⟨c0, c1, c2, hv⟩ | ⟨c0, c1, c2, c3, hv⟩ | ⟨c0, c1, c2, c3, c4, hv⟩ | ⟨c0, c1, c2, c3, c4, c5, hv⟩ | ⟨c0, c1, c2, c3, c4, c5, c6, hv⟩ | ⟨c0, c1, c2, c3, c4, c5, c6⟩
  · have e8 : ((v.size : Int) == 8) = false := by rw [beq_eq_false_iff_ne]; omega
    have e4 : vSt (bs v) = 400 := hv
    clear c0 hv
    rw [e4]
    clear e4
    go_wp2_with fail
    go_ret
    exact ⟨rfl, HB3.out⟩
  · have e8 : ((v.size : Int) == 8) = true := by rw [beq_iff_eq]; omega
    have g5 : (5 : Int) < (v.size : Int) := by omega
    have g6 : (6 : Int) < (v.size : Int) := by omega
    have g7 : (7 : Int) < (v.size : Int) := by omega
    have g5n : 5 < v.size := by omega
    have g6n : 6 < v.size := by omega
    have g7n : 7 < v.size := by omega
    have g55 : (5 : Int) ≤ (v.size : Int) := by omega
    have x1 : ((v.extract 0 5).toList == [72, 84, 84, 80, 47]) = false := by rw [toList_bs]; exact beq_eq_false_iff_ne.2 c1
    have e4 : vSt (bs v) = 400 := hv
    clear c0 c1 hv
    rw [e4]
    clear e4
    go_wp2_with fail
    go_ret
    exact ⟨rfl, HB3.out⟩
  · have e8 : ((v.size : Int) == 8) = true := by rw [beq_iff_eq]; omega
    have g5 : (5 : Int) < (v.size : Int) := by omega
    have g6 : (6 : Int) < (v.size : Int) := by omega
    have g7 : (7 : Int) < (v.size : Int) := by omega
    have g5n : 5 < v.size := by omega
    have g6n : 6 < v.size := by omega
    have g7n : 7 < v.size := by omega
    have g55 : (5 : Int) ≤ (v.size : Int) := by omega
    have x1 : ((v.extract 0 5).toList == [72, 84, 84, 80, 47]) = true := by rw [toList_bs, c1]; rfl
    have x2 : ((v[6].toNat : Int) == 46) = false := by rw [beq_eq_false_iff_ne]; omega
    have e4 : vSt (bs v) = 400 := hv
    clear c0 c1 c2 hv
    rw [e4]
    clear e4
    go_wp2_with fail
    go_ret
    exact ⟨rfl, HB3.out⟩
  · have e8 : ((v.size : Int) == 8) = true := by rw [beq_iff_eq]; omega
    have g5 : (5 : Int) < (v.size : Int) := by omega
    have g6 : (6 : Int) < (v.size : Int) := by omega
    have g7 : (7 : Int) < (v.size : Int) := by omega
    have g5n : 5 < v.size := by omega
    have g6n : 6 < v.size := by omega
    have g7n : 7 < v.size := by omega
    have g55 : (5 : Int) ≤ (v.size : Int) := by omega
    have x1 : ((v.extract 0 5).toList == [72, 84, 84, 80, 47]) = true := by rw [toList_bs, c1]; rfl
    have x2 : ((v[6].toNat : Int) == 46) = true := by rw [beq_iff_eq]; omega
    have d3 : ¬ 48 ≤ v[5].toNat := c3
    have e4 : vSt (bs v) = 400 := hv
    clear c0 c1 c2 c3 hv
    rw [e4]
    clear e4
    go_wp2_with fail
    go_ret
    exact ⟨rfl, HB3.out⟩
  · have e8 : ((v.size : Int) == 8) = true := by rw [beq_iff_eq]; omega
    have g5 : (5 : Int) < (v.size : Int) := by omega
    have g6 : (6 : Int) < (v.size : Int) := by omega
    have g7 : (7 : Int) < (v.size : Int) := by omega
    have g5n : 5 < v.size := by omega
    have g6n : 6 < v.size := by omega
    have g7n : 7 < v.size := by omega
    have g55 : (5 : Int) ≤ (v.size : Int) := by omega
    have x1 : ((v.extract 0 5).toList == [72, 84, 84, 80, 47]) = true := by rw [toList_bs, c1]; rfl
    have x2 : ((v[6].toNat : Int) == 46) = true := by rw [beq_iff_eq]; omega
    have d3 : 48 ≤ v[5].toNat := c3
    have d4 : ¬ v[5].toNat ≤ 57 := c4
    have e4 : vSt (bs v) = 400 := hv
    clear c0 c1 c2 c3 c4 hv
    rw [e4]
    clear e4
    go_wp2_with fail
    go_ret
    exact ⟨rfl, HB3.out⟩
  · have e8 : ((v.size : Int) == 8) = true := by rw [beq_iff_eq]; omega
    have g5 : (5 : Int) < (v.size : Int) := by omega
    have g6 : (6 : Int) < (v.size : Int) := by omega
    have g7 : (7 : Int) < (v.size : Int) := by omega
    have g5n : 5 < v.size := by omega
    have g6n : 6 < v.size := by omega
    have g7n : 7 < v.size := by omega
    have g55 : (5 : Int) ≤ (v.size : Int) := by omega
    have x1 : ((v.extract 0 5).toList == [72, 84, 84, 80, 47]) = true := by rw [toList_bs, c1]; rfl
    have x2 : ((v[6].toNat : Int) == 46) = true := by rw [beq_iff_eq]; omega
    have d3 : 48 ≤ v[5].toNat := c3
    have d4 : v[5].toNat ≤ 57 := c4
    have d5 : ¬ 48 ≤ v[7].toNat := c5
    have e4 : vSt (bs v) = 400 := hv
    clear c0 c1 c2 c3 c4 c5 hv
    rw [e4]
    clear e4
    go_wp2_with fail
    go_ret
    exact ⟨rfl, HB3.out⟩
  · have e8 : ((v.size : Int) == 8) = true := by rw [beq_iff_eq]; omega
    have g5 : (5 : Int) < (v.size : Int) := by omega
    have g6 : (6 : Int) < (v.size : Int) := by omega
    have g7 : (7 : Int) < (v.size : Int) := by omega
    have g5n : 5 < v.size := by omega
    have g6n : 6 < v.size := by omega
    have g7n : 7 < v.size := by omega
    have g55 : (5 : Int) ≤ (v.size : Int) := by omega
    have x1 : ((v.extract 0 5).toList == [72, 84, 84, 80, 47]) = true := by rw [toList_bs, c1]; rfl
    have x2 : ((v[6].toNat : Int) == 46) = true := by rw [beq_iff_eq]; omega
    have d3 : 48 ≤ v[5].toNat := c3
    have d4 : v[5].toNat ≤ 57 := c4
    have d5 : 48 ≤ v[7].toNat := c5
    have d6 : ¬ v[7].toNat ≤ 57 := c6
    have e4 : vSt (bs v) = 400 := hv
    clear c0 c1 c2 c3 c4 c5 c6 hv
    rw [e4]
    clear e4
    go_wp2_with fail
    go_ret
    exact ⟨rfl, HB3.out⟩
  · have e8 : ((v.size : Int) == 8) = true := by rw [beq_iff_eq]; omega
    have g5 : (5 : Int) < (v.size : Int) := by omega
    have g6 : (6 : Int) < (v.size : Int) := by omega
    have g7 : (7 : Int) < (v.size : Int) := by omega
    have g5n : 5 < v.size := by omega
    have g6n : 6 < v.size := by omega
    have g7n : 7 < v.size := by omega
    have g55 : (5 : Int) ≤ (v.size : Int) := by omega
    have x1 : ((v.extract 0 5).toList == [72, 84, 84, 80, 47]) = true := by rw [toList_bs, c1]; rfl
    have x2 : ((v[6].toNat : Int) == 46) = true := by rw [beq_iff_eq]; omega
    have d3 : 48 ≤ v[5].toNat := c3
    have d4 : v[5].toNat ≤ 57 := c4
    have d5 : 48 ≤ v[7].toNat := c5
    have d6 : v[7].toNat ≤ 57 := c6
    clear c0 c1 c2 c3 c4 c5 c6
    generalize vSt (bs v) = st2 at *
    go_wp2_with fail
    go_ret
    exact ⟨rfl, HB3.out⟩

set_option maxRecDepth 100000 in
set_option maxHeartbeats 8000000 in
theorem versions_highA (a b : UInt8) (v : ByteArray) (w : World) (h20 : v.size ≤ 20) (_ha : 48 ≤ a.toNat) (ha2 : ¬ a.toNat ≤ 57) (hn : vMi (httpL ++ [a, 46, b]) = 0) (hs : vSt (httpL ++ [a, 46, b]) = 400) :
    Calls Try.prog 4 #[.int .u8 (a.toNat : Int), .int .u8 (b.toNat : Int), .string v] w (Yes3 w) := by
  have HL := Lib.hid (lives03_any w)
  have hr1 := reqIs_get ((⟨#[71, 69, 84, 32, 47, 32, 72, 84, 84, 80, 47]⟩ : ByteArray) ++ ⟨[a, 46, b].toArray⟩) (httpL ++ [a, 46, b]) (show 8 ≤ 100 by omega) (by
    show bs (mkS [71, 69, 84, 32, 47, 32, 72, 84, 84, 80, 47] ++ mkS [a, 46, b]) = _
    rw [mkS_append, bs_mkS]; rfl)
  rw [hn, hs] at hr1
  obtain ⟨M1, T1, hr1⟩ := hr1
  have hr2 := reqIs_get ((⟨#[71, 69, 84, 32, 47, 32]⟩ : ByteArray) ++ v) (bs v) (by rw [length_bs]; omega) (by
    have : v = mkS (bs v) := (mkS_bs v).symm
    show bs (mkS [71, 69, 84, 32, 47, 32] ++ v) = _
    conv => lhs; rw [this]
    rw [mkS_append, bs_mkS]; rfl)
  have HR1 := Lib.hid hr1
  have HR2 := Lib.hid hr2
  have HVT := Lib.hid (vtext v)
  unfold VText at HVT
  have ea49 : ((a.toNat : Int) == 49) = false := by rw [beq_eq_false_iff_ne]; omega
  clear hr1 hr2 hn hs
  go_enter Try.func4, Try.ntmps4
  go_wp2_with fail
  refine HL.out.mono ?_
  rintro e w1 ⟨rfl, hb⟩
  have HB := Lib.hid (hb.alloc hb.size (Obj.cells #[.int .u8 (a.toNat : Int), .int .u8 46, .int .u8 (b.toNat : Int)] 5))
  clear hb
  have hback := run_convert_bytes_back (P := Try.prog) (w1.alloc (Obj.cells #[.int .u8 (a.toNat : Int), .int .u8 46, .int .u8 (b.toNat : Int)] 5)) 32 9 5 ⟨w1.heap.size, 0, none⟩ 3 [a, 46, b] Try.underlying32 Try.underlying5 Try.underlying9 (fun j hj => cells_newV w1 _ _ j _ (by
    match j, hj with
    | 0, _ | 1, _ | 2, _ => rfl))
  rw [show [a, 46, b].length = 3 from rfl] at hback
  go_wp2_with fail
  refine (HR1.out _).mono ?_
  rintro e w2 ⟨rfl, hb⟩
  have HB2 := Lib.hid (HB.out.trans (hb.mono HB.out.size))
  clear hb hback
  go_wp2_with fail
  obtain ⟨M2, T2, hr2⟩ := HR2.out
  have HR2b := Lib.hid hr2
  clear hr2
  refine (HR2b.out _).mono ?_
  rintro e w3 ⟨rfl, hb⟩
  have HB3 := Lib.hid (HB2.out.trans (hb.mono HB2.out.size))
  clear hb
  rcases HVT.out with ⟨c0, hv⟩ | ⟨c0, c1, hv⟩ | ⟨c0, c1, c2, hv⟩ | ⟨c0, c1, c2, c3, hv⟩ | ⟨c0, c1, c2, c3, c4, hv⟩ | ⟨c0, c1, c2, c3, c4, c5, hv⟩ | ⟨c0, c1, c2, c3, c4, c5, c6, hv⟩ | ⟨c0, c1, c2, c3, c4, c5, c6⟩
  · have e8 : ((v.size : Int) == 8) = false := by rw [beq_eq_false_iff_ne]; omega
    have e4 : vSt (bs v) = 400 := hv
    clear c0 hv
    rw [e4]
    clear e4
    go_wp2_with fail
    go_ret
    exact ⟨rfl, HB3.out⟩
  · have e8 : ((v.size : Int) == 8) = true := by rw [beq_iff_eq]; omega
    have g5 : (5 : Int) < (v.size : Int) := by omega
    have g6 : (6 : Int) < (v.size : Int) := by omega
    have g7 : (7 : Int) < (v.size : Int) := by omega
    have g5n : 5 < v.size := by omega
    have g6n : 6 < v.size := by omega
    have g7n : 7 < v.size := by omega
    have g55 : (5 : Int) ≤ (v.size : Int) := by omega
    have x1 : ((v.extract 0 5).toList == [72, 84, 84, 80, 47]) = false := by rw [toList_bs]; exact beq_eq_false_iff_ne.2 c1
    have e4 : vSt (bs v) = 400 := hv
    clear c0 c1 hv
    rw [e4]
    clear e4
    go_wp2_with fail
    go_ret
    exact ⟨rfl, HB3.out⟩
  · have e8 : ((v.size : Int) == 8) = true := by rw [beq_iff_eq]; omega
    have g5 : (5 : Int) < (v.size : Int) := by omega
    have g6 : (6 : Int) < (v.size : Int) := by omega
    have g7 : (7 : Int) < (v.size : Int) := by omega
    have g5n : 5 < v.size := by omega
    have g6n : 6 < v.size := by omega
    have g7n : 7 < v.size := by omega
    have g55 : (5 : Int) ≤ (v.size : Int) := by omega
    have x1 : ((v.extract 0 5).toList == [72, 84, 84, 80, 47]) = true := by rw [toList_bs, c1]; rfl
    have x2 : ((v[6].toNat : Int) == 46) = false := by rw [beq_eq_false_iff_ne]; omega
    have e4 : vSt (bs v) = 400 := hv
    clear c0 c1 c2 hv
    rw [e4]
    clear e4
    go_wp2_with fail
    go_ret
    exact ⟨rfl, HB3.out⟩
  · have e8 : ((v.size : Int) == 8) = true := by rw [beq_iff_eq]; omega
    have g5 : (5 : Int) < (v.size : Int) := by omega
    have g6 : (6 : Int) < (v.size : Int) := by omega
    have g7 : (7 : Int) < (v.size : Int) := by omega
    have g5n : 5 < v.size := by omega
    have g6n : 6 < v.size := by omega
    have g7n : 7 < v.size := by omega
    have g55 : (5 : Int) ≤ (v.size : Int) := by omega
    have x1 : ((v.extract 0 5).toList == [72, 84, 84, 80, 47]) = true := by rw [toList_bs, c1]; rfl
    have x2 : ((v[6].toNat : Int) == 46) = true := by rw [beq_iff_eq]; omega
    have d3 : ¬ 48 ≤ v[5].toNat := c3
    have e4 : vSt (bs v) = 400 := hv
    clear c0 c1 c2 c3 hv
    rw [e4]
    clear e4
    go_wp2_with fail
    go_ret
    exact ⟨rfl, HB3.out⟩
  · have e8 : ((v.size : Int) == 8) = true := by rw [beq_iff_eq]; omega
    have g5 : (5 : Int) < (v.size : Int) := by omega
    have g6 : (6 : Int) < (v.size : Int) := by omega
    have g7 : (7 : Int) < (v.size : Int) := by omega
    have g5n : 5 < v.size := by omega
    have g6n : 6 < v.size := by omega
    have g7n : 7 < v.size := by omega
    have g55 : (5 : Int) ≤ (v.size : Int) := by omega
    have x1 : ((v.extract 0 5).toList == [72, 84, 84, 80, 47]) = true := by rw [toList_bs, c1]; rfl
    have x2 : ((v[6].toNat : Int) == 46) = true := by rw [beq_iff_eq]; omega
    have d3 : 48 ≤ v[5].toNat := c3
    have d4 : ¬ v[5].toNat ≤ 57 := c4
    have e4 : vSt (bs v) = 400 := hv
    clear c0 c1 c2 c3 c4 hv
    rw [e4]
    clear e4
    go_wp2_with fail
    go_ret
    exact ⟨rfl, HB3.out⟩
  · have e8 : ((v.size : Int) == 8) = true := by rw [beq_iff_eq]; omega
    have g5 : (5 : Int) < (v.size : Int) := by omega
    have g6 : (6 : Int) < (v.size : Int) := by omega
    have g7 : (7 : Int) < (v.size : Int) := by omega
    have g5n : 5 < v.size := by omega
    have g6n : 6 < v.size := by omega
    have g7n : 7 < v.size := by omega
    have g55 : (5 : Int) ≤ (v.size : Int) := by omega
    have x1 : ((v.extract 0 5).toList == [72, 84, 84, 80, 47]) = true := by rw [toList_bs, c1]; rfl
    have x2 : ((v[6].toNat : Int) == 46) = true := by rw [beq_iff_eq]; omega
    have d3 : 48 ≤ v[5].toNat := c3
    have d4 : v[5].toNat ≤ 57 := c4
    have d5 : ¬ 48 ≤ v[7].toNat := c5
    have e4 : vSt (bs v) = 400 := hv
    clear c0 c1 c2 c3 c4 c5 hv
    rw [e4]
    clear e4
    go_wp2_with fail
    go_ret
    exact ⟨rfl, HB3.out⟩
  · have e8 : ((v.size : Int) == 8) = true := by rw [beq_iff_eq]; omega
    have g5 : (5 : Int) < (v.size : Int) := by omega
    have g6 : (6 : Int) < (v.size : Int) := by omega
    have g7 : (7 : Int) < (v.size : Int) := by omega
    have g5n : 5 < v.size := by omega
    have g6n : 6 < v.size := by omega
    have g7n : 7 < v.size := by omega
    have g55 : (5 : Int) ≤ (v.size : Int) := by omega
    have x1 : ((v.extract 0 5).toList == [72, 84, 84, 80, 47]) = true := by rw [toList_bs, c1]; rfl
    have x2 : ((v[6].toNat : Int) == 46) = true := by rw [beq_iff_eq]; omega
    have d3 : 48 ≤ v[5].toNat := c3
    have d4 : v[5].toNat ≤ 57 := c4
    have d5 : 48 ≤ v[7].toNat := c5
    have d6 : ¬ v[7].toNat ≤ 57 := c6
    have e4 : vSt (bs v) = 400 := hv
    clear c0 c1 c2 c3 c4 c5 c6 hv
    rw [e4]
    clear e4
    go_wp2_with fail
    go_ret
    exact ⟨rfl, HB3.out⟩
  · have e8 : ((v.size : Int) == 8) = true := by rw [beq_iff_eq]; omega
    have g5 : (5 : Int) < (v.size : Int) := by omega
    have g6 : (6 : Int) < (v.size : Int) := by omega
    have g7 : (7 : Int) < (v.size : Int) := by omega
    have g5n : 5 < v.size := by omega
    have g6n : 6 < v.size := by omega
    have g7n : 7 < v.size := by omega
    have g55 : (5 : Int) ≤ (v.size : Int) := by omega
    have x1 : ((v.extract 0 5).toList == [72, 84, 84, 80, 47]) = true := by rw [toList_bs, c1]; rfl
    have x2 : ((v[6].toNat : Int) == 46) = true := by rw [beq_iff_eq]; omega
    have d3 : 48 ≤ v[5].toNat := c3
    have d4 : v[5].toNat ≤ 57 := c4
    have d5 : 48 ≤ v[7].toNat := c5
    have d6 : v[7].toNat ≤ 57 := c6
    clear c0 c1 c2 c3 c4 c5 c6
    generalize vSt (bs v) = st2 at *
    go_wp2_with fail
    go_ret
    exact ⟨rfl, HB3.out⟩

set_option maxRecDepth 100000 in
set_option maxHeartbeats 8000000 in
theorem versions_dig_lowB (a b : UInt8) (v : ByteArray) (w : World) (h20 : v.size ≤ 20) (ha : 48 ≤ a.toNat) (ha2 : a.toNat ≤ 57) (ha3 : a.toNat ≠ 49) (hb0 : ¬ 48 ≤ b.toNat) (hn : vMi (httpL ++ [a, 46, b]) = 0) (hs : vSt (httpL ++ [a, 46, b]) = 400) :
    Calls Try.prog 4 #[.int .u8 (a.toNat : Int), .int .u8 (b.toNat : Int), .string v] w (Yes3 w) := by
  have HL := Lib.hid (lives03_any w)
  have hr1 := reqIs_get ((⟨#[71, 69, 84, 32, 47, 32, 72, 84, 84, 80, 47]⟩ : ByteArray) ++ ⟨[a, 46, b].toArray⟩) (httpL ++ [a, 46, b]) (show 8 ≤ 100 by omega) (by
    show bs (mkS [71, 69, 84, 32, 47, 32, 72, 84, 84, 80, 47] ++ mkS [a, 46, b]) = _
    rw [mkS_append, bs_mkS]; rfl)
  rw [hn, hs] at hr1
  obtain ⟨M1, T1, hr1⟩ := hr1
  have hr2 := reqIs_get ((⟨#[71, 69, 84, 32, 47, 32]⟩ : ByteArray) ++ v) (bs v) (by rw [length_bs]; omega) (by
    have : v = mkS (bs v) := (mkS_bs v).symm
    show bs (mkS [71, 69, 84, 32, 47, 32] ++ v) = _
    conv => lhs; rw [this]
    rw [mkS_append, bs_mkS]; rfl)
  have HR1 := Lib.hid hr1
  have HR2 := Lib.hid hr2
  have HVT := Lib.hid (vtext v)
  unfold VText at HVT
  have ea49 : ((a.toNat : Int) == 49) = false := by rw [beq_eq_false_iff_ne]; omega
  clear ha3
  clear hr1 hr2 hn hs
  go_enter Try.func4, Try.ntmps4
  go_wp2_with fail
  refine HL.out.mono ?_
  rintro e w1 ⟨rfl, hb⟩
  have HB := Lib.hid (hb.alloc hb.size (Obj.cells #[.int .u8 (a.toNat : Int), .int .u8 46, .int .u8 (b.toNat : Int)] 5))
  clear hb
  have hback := run_convert_bytes_back (P := Try.prog) (w1.alloc (Obj.cells #[.int .u8 (a.toNat : Int), .int .u8 46, .int .u8 (b.toNat : Int)] 5)) 32 9 5 ⟨w1.heap.size, 0, none⟩ 3 [a, 46, b] Try.underlying32 Try.underlying5 Try.underlying9 (fun j hj => cells_newV w1 _ _ j _ (by
    match j, hj with
    | 0, _ | 1, _ | 2, _ => rfl))
  rw [show [a, 46, b].length = 3 from rfl] at hback
  go_wp2_with fail
  refine (HR1.out _).mono ?_
  rintro e w2 ⟨rfl, hb⟩
  have HB2 := Lib.hid (HB.out.trans (hb.mono HB.out.size))
  clear hb hback
  go_wp2_with fail
  obtain ⟨M2, T2, hr2⟩ := HR2.out
  have HR2b := Lib.hid hr2
  clear hr2
  refine (HR2b.out _).mono ?_
  rintro e w3 ⟨rfl, hb⟩
  have HB3 := Lib.hid (HB2.out.trans (hb.mono HB2.out.size))
  clear hb
  rcases HVT.out with ⟨c0, hv⟩ | ⟨c0, c1, hv⟩ | ⟨c0, c1, c2, hv⟩ | ⟨c0, c1, c2, c3, hv⟩ | ⟨c0, c1, c2, c3, c4, hv⟩ | ⟨c0, c1, c2, c3, c4, c5, hv⟩ | ⟨c0, c1, c2, c3, c4, c5, c6, hv⟩ | ⟨c0, c1, c2, c3, c4, c5, c6⟩
  · have e8 : ((v.size : Int) == 8) = false := by rw [beq_eq_false_iff_ne]; omega
    have e4 : vSt (bs v) = 400 := hv
    clear c0 hv
    rw [e4]
    clear e4
    go_wp2_with fail
    go_ret
    exact ⟨rfl, HB3.out⟩
  · have e8 : ((v.size : Int) == 8) = true := by rw [beq_iff_eq]; omega
    have g5 : (5 : Int) < (v.size : Int) := by omega
    have g6 : (6 : Int) < (v.size : Int) := by omega
    have g7 : (7 : Int) < (v.size : Int) := by omega
    have g5n : 5 < v.size := by omega
    have g6n : 6 < v.size := by omega
    have g7n : 7 < v.size := by omega
    have g55 : (5 : Int) ≤ (v.size : Int) := by omega
    have x1 : ((v.extract 0 5).toList == [72, 84, 84, 80, 47]) = false := by rw [toList_bs]; exact beq_eq_false_iff_ne.2 c1
    have e4 : vSt (bs v) = 400 := hv
    clear c0 c1 hv
    rw [e4]
    clear e4
    go_wp2_with fail
    go_ret
    exact ⟨rfl, HB3.out⟩
  · have e8 : ((v.size : Int) == 8) = true := by rw [beq_iff_eq]; omega
    have g5 : (5 : Int) < (v.size : Int) := by omega
    have g6 : (6 : Int) < (v.size : Int) := by omega
    have g7 : (7 : Int) < (v.size : Int) := by omega
    have g5n : 5 < v.size := by omega
    have g6n : 6 < v.size := by omega
    have g7n : 7 < v.size := by omega
    have g55 : (5 : Int) ≤ (v.size : Int) := by omega
    have x1 : ((v.extract 0 5).toList == [72, 84, 84, 80, 47]) = true := by rw [toList_bs, c1]; rfl
    have x2 : ((v[6].toNat : Int) == 46) = false := by rw [beq_eq_false_iff_ne]; omega
    have e4 : vSt (bs v) = 400 := hv
    clear c0 c1 c2 hv
    rw [e4]
    clear e4
    go_wp2_with fail
    go_ret
    exact ⟨rfl, HB3.out⟩
  · have e8 : ((v.size : Int) == 8) = true := by rw [beq_iff_eq]; omega
    have g5 : (5 : Int) < (v.size : Int) := by omega
    have g6 : (6 : Int) < (v.size : Int) := by omega
    have g7 : (7 : Int) < (v.size : Int) := by omega
    have g5n : 5 < v.size := by omega
    have g6n : 6 < v.size := by omega
    have g7n : 7 < v.size := by omega
    have g55 : (5 : Int) ≤ (v.size : Int) := by omega
    have x1 : ((v.extract 0 5).toList == [72, 84, 84, 80, 47]) = true := by rw [toList_bs, c1]; rfl
    have x2 : ((v[6].toNat : Int) == 46) = true := by rw [beq_iff_eq]; omega
    have d3 : ¬ 48 ≤ v[5].toNat := c3
    have e4 : vSt (bs v) = 400 := hv
    clear c0 c1 c2 c3 hv
    rw [e4]
    clear e4
    go_wp2_with fail
    go_ret
    exact ⟨rfl, HB3.out⟩
  · have e8 : ((v.size : Int) == 8) = true := by rw [beq_iff_eq]; omega
    have g5 : (5 : Int) < (v.size : Int) := by omega
    have g6 : (6 : Int) < (v.size : Int) := by omega
    have g7 : (7 : Int) < (v.size : Int) := by omega
    have g5n : 5 < v.size := by omega
    have g6n : 6 < v.size := by omega
    have g7n : 7 < v.size := by omega
    have g55 : (5 : Int) ≤ (v.size : Int) := by omega
    have x1 : ((v.extract 0 5).toList == [72, 84, 84, 80, 47]) = true := by rw [toList_bs, c1]; rfl
    have x2 : ((v[6].toNat : Int) == 46) = true := by rw [beq_iff_eq]; omega
    have d3 : 48 ≤ v[5].toNat := c3
    have d4 : ¬ v[5].toNat ≤ 57 := c4
    have e4 : vSt (bs v) = 400 := hv
    clear c0 c1 c2 c3 c4 hv
    rw [e4]
    clear e4
    go_wp2_with fail
    go_ret
    exact ⟨rfl, HB3.out⟩
  · have e8 : ((v.size : Int) == 8) = true := by rw [beq_iff_eq]; omega
    have g5 : (5 : Int) < (v.size : Int) := by omega
    have g6 : (6 : Int) < (v.size : Int) := by omega
    have g7 : (7 : Int) < (v.size : Int) := by omega
    have g5n : 5 < v.size := by omega
    have g6n : 6 < v.size := by omega
    have g7n : 7 < v.size := by omega
    have g55 : (5 : Int) ≤ (v.size : Int) := by omega
    have x1 : ((v.extract 0 5).toList == [72, 84, 84, 80, 47]) = true := by rw [toList_bs, c1]; rfl
    have x2 : ((v[6].toNat : Int) == 46) = true := by rw [beq_iff_eq]; omega
    have d3 : 48 ≤ v[5].toNat := c3
    have d4 : v[5].toNat ≤ 57 := c4
    have d5 : ¬ 48 ≤ v[7].toNat := c5
    have e4 : vSt (bs v) = 400 := hv
    clear c0 c1 c2 c3 c4 c5 hv
    rw [e4]
    clear e4
    go_wp2_with fail
    go_ret
    exact ⟨rfl, HB3.out⟩
  · have e8 : ((v.size : Int) == 8) = true := by rw [beq_iff_eq]; omega
    have g5 : (5 : Int) < (v.size : Int) := by omega
    have g6 : (6 : Int) < (v.size : Int) := by omega
    have g7 : (7 : Int) < (v.size : Int) := by omega
    have g5n : 5 < v.size := by omega
    have g6n : 6 < v.size := by omega
    have g7n : 7 < v.size := by omega
    have g55 : (5 : Int) ≤ (v.size : Int) := by omega
    have x1 : ((v.extract 0 5).toList == [72, 84, 84, 80, 47]) = true := by rw [toList_bs, c1]; rfl
    have x2 : ((v[6].toNat : Int) == 46) = true := by rw [beq_iff_eq]; omega
    have d3 : 48 ≤ v[5].toNat := c3
    have d4 : v[5].toNat ≤ 57 := c4
    have d5 : 48 ≤ v[7].toNat := c5
    have d6 : ¬ v[7].toNat ≤ 57 := c6
    have e4 : vSt (bs v) = 400 := hv
    clear c0 c1 c2 c3 c4 c5 c6 hv
    rw [e4]
    clear e4
    go_wp2_with fail
    go_ret
    exact ⟨rfl, HB3.out⟩
  · have e8 : ((v.size : Int) == 8) = true := by rw [beq_iff_eq]; omega
    have g5 : (5 : Int) < (v.size : Int) := by omega
    have g6 : (6 : Int) < (v.size : Int) := by omega
    have g7 : (7 : Int) < (v.size : Int) := by omega
    have g5n : 5 < v.size := by omega
    have g6n : 6 < v.size := by omega
    have g7n : 7 < v.size := by omega
    have g55 : (5 : Int) ≤ (v.size : Int) := by omega
    have x1 : ((v.extract 0 5).toList == [72, 84, 84, 80, 47]) = true := by rw [toList_bs, c1]; rfl
    have x2 : ((v[6].toNat : Int) == 46) = true := by rw [beq_iff_eq]; omega
    have d3 : 48 ≤ v[5].toNat := c3
    have d4 : v[5].toNat ≤ 57 := c4
    have d5 : 48 ≤ v[7].toNat := c5
    have d6 : v[7].toNat ≤ 57 := c6
    clear c0 c1 c2 c3 c4 c5 c6
    generalize vSt (bs v) = st2 at *
    go_wp2_with fail
    go_ret
    exact ⟨rfl, HB3.out⟩

set_option maxRecDepth 100000 in
set_option maxHeartbeats 8000000 in
theorem versions_dig_highB (a b : UInt8) (v : ByteArray) (w : World) (h20 : v.size ≤ 20) (ha : 48 ≤ a.toNat) (ha2 : a.toNat ≤ 57) (ha3 : a.toNat ≠ 49) (_hb0 : 48 ≤ b.toNat) (hb1 : ¬ b.toNat ≤ 57) (hn : vMi (httpL ++ [a, 46, b]) = 0) (hs : vSt (httpL ++ [a, 46, b]) = 400) :
    Calls Try.prog 4 #[.int .u8 (a.toNat : Int), .int .u8 (b.toNat : Int), .string v] w (Yes3 w) := by
  have HL := Lib.hid (lives03_any w)
  have hr1 := reqIs_get ((⟨#[71, 69, 84, 32, 47, 32, 72, 84, 84, 80, 47]⟩ : ByteArray) ++ ⟨[a, 46, b].toArray⟩) (httpL ++ [a, 46, b]) (show 8 ≤ 100 by omega) (by
    show bs (mkS [71, 69, 84, 32, 47, 32, 72, 84, 84, 80, 47] ++ mkS [a, 46, b]) = _
    rw [mkS_append, bs_mkS]; rfl)
  rw [hn, hs] at hr1
  obtain ⟨M1, T1, hr1⟩ := hr1
  have hr2 := reqIs_get ((⟨#[71, 69, 84, 32, 47, 32]⟩ : ByteArray) ++ v) (bs v) (by rw [length_bs]; omega) (by
    have : v = mkS (bs v) := (mkS_bs v).symm
    show bs (mkS [71, 69, 84, 32, 47, 32] ++ v) = _
    conv => lhs; rw [this]
    rw [mkS_append, bs_mkS]; rfl)
  have HR1 := Lib.hid hr1
  have HR2 := Lib.hid hr2
  have HVT := Lib.hid (vtext v)
  unfold VText at HVT
  have ea49 : ((a.toNat : Int) == 49) = false := by rw [beq_eq_false_iff_ne]; omega
  clear ha3
  clear hr1 hr2 hn hs
  go_enter Try.func4, Try.ntmps4
  go_wp2_with fail
  refine HL.out.mono ?_
  rintro e w1 ⟨rfl, hb⟩
  have HB := Lib.hid (hb.alloc hb.size (Obj.cells #[.int .u8 (a.toNat : Int), .int .u8 46, .int .u8 (b.toNat : Int)] 5))
  clear hb
  have hback := run_convert_bytes_back (P := Try.prog) (w1.alloc (Obj.cells #[.int .u8 (a.toNat : Int), .int .u8 46, .int .u8 (b.toNat : Int)] 5)) 32 9 5 ⟨w1.heap.size, 0, none⟩ 3 [a, 46, b] Try.underlying32 Try.underlying5 Try.underlying9 (fun j hj => cells_newV w1 _ _ j _ (by
    match j, hj with
    | 0, _ | 1, _ | 2, _ => rfl))
  rw [show [a, 46, b].length = 3 from rfl] at hback
  go_wp2_with fail
  refine (HR1.out _).mono ?_
  rintro e w2 ⟨rfl, hb⟩
  have HB2 := Lib.hid (HB.out.trans (hb.mono HB.out.size))
  clear hb hback
  go_wp2_with fail
  obtain ⟨M2, T2, hr2⟩ := HR2.out
  have HR2b := Lib.hid hr2
  clear hr2
  refine (HR2b.out _).mono ?_
  rintro e w3 ⟨rfl, hb⟩
  have HB3 := Lib.hid (HB2.out.trans (hb.mono HB2.out.size))
  clear hb
  rcases HVT.out with ⟨c0, hv⟩ | ⟨c0, c1, hv⟩ | ⟨c0, c1, c2, hv⟩ | ⟨c0, c1, c2, c3, hv⟩ | ⟨c0, c1, c2, c3, c4, hv⟩ | ⟨c0, c1, c2, c3, c4, c5, hv⟩ | ⟨c0, c1, c2, c3, c4, c5, c6, hv⟩ | ⟨c0, c1, c2, c3, c4, c5, c6⟩
  · have e8 : ((v.size : Int) == 8) = false := by rw [beq_eq_false_iff_ne]; omega
    have e4 : vSt (bs v) = 400 := hv
    clear c0 hv
    rw [e4]
    clear e4
    go_wp2_with fail
    go_ret
    exact ⟨rfl, HB3.out⟩
  · have e8 : ((v.size : Int) == 8) = true := by rw [beq_iff_eq]; omega
    have g5 : (5 : Int) < (v.size : Int) := by omega
    have g6 : (6 : Int) < (v.size : Int) := by omega
    have g7 : (7 : Int) < (v.size : Int) := by omega
    have g5n : 5 < v.size := by omega
    have g6n : 6 < v.size := by omega
    have g7n : 7 < v.size := by omega
    have g55 : (5 : Int) ≤ (v.size : Int) := by omega
    have x1 : ((v.extract 0 5).toList == [72, 84, 84, 80, 47]) = false := by rw [toList_bs]; exact beq_eq_false_iff_ne.2 c1
    have e4 : vSt (bs v) = 400 := hv
    clear c0 c1 hv
    rw [e4]
    clear e4
    go_wp2_with fail
    go_ret
    exact ⟨rfl, HB3.out⟩
  · have e8 : ((v.size : Int) == 8) = true := by rw [beq_iff_eq]; omega
    have g5 : (5 : Int) < (v.size : Int) := by omega
    have g6 : (6 : Int) < (v.size : Int) := by omega
    have g7 : (7 : Int) < (v.size : Int) := by omega
    have g5n : 5 < v.size := by omega
    have g6n : 6 < v.size := by omega
    have g7n : 7 < v.size := by omega
    have g55 : (5 : Int) ≤ (v.size : Int) := by omega
    have x1 : ((v.extract 0 5).toList == [72, 84, 84, 80, 47]) = true := by rw [toList_bs, c1]; rfl
    have x2 : ((v[6].toNat : Int) == 46) = false := by rw [beq_eq_false_iff_ne]; omega
    have e4 : vSt (bs v) = 400 := hv
    clear c0 c1 c2 hv
    rw [e4]
    clear e4
    go_wp2_with fail
    go_ret
    exact ⟨rfl, HB3.out⟩
  · have e8 : ((v.size : Int) == 8) = true := by rw [beq_iff_eq]; omega
    have g5 : (5 : Int) < (v.size : Int) := by omega
    have g6 : (6 : Int) < (v.size : Int) := by omega
    have g7 : (7 : Int) < (v.size : Int) := by omega
    have g5n : 5 < v.size := by omega
    have g6n : 6 < v.size := by omega
    have g7n : 7 < v.size := by omega
    have g55 : (5 : Int) ≤ (v.size : Int) := by omega
    have x1 : ((v.extract 0 5).toList == [72, 84, 84, 80, 47]) = true := by rw [toList_bs, c1]; rfl
    have x2 : ((v[6].toNat : Int) == 46) = true := by rw [beq_iff_eq]; omega
    have d3 : ¬ 48 ≤ v[5].toNat := c3
    have e4 : vSt (bs v) = 400 := hv
    clear c0 c1 c2 c3 hv
    rw [e4]
    clear e4
    go_wp2_with fail
    go_ret
    exact ⟨rfl, HB3.out⟩
  · have e8 : ((v.size : Int) == 8) = true := by rw [beq_iff_eq]; omega
    have g5 : (5 : Int) < (v.size : Int) := by omega
    have g6 : (6 : Int) < (v.size : Int) := by omega
    have g7 : (7 : Int) < (v.size : Int) := by omega
    have g5n : 5 < v.size := by omega
    have g6n : 6 < v.size := by omega
    have g7n : 7 < v.size := by omega
    have g55 : (5 : Int) ≤ (v.size : Int) := by omega
    have x1 : ((v.extract 0 5).toList == [72, 84, 84, 80, 47]) = true := by rw [toList_bs, c1]; rfl
    have x2 : ((v[6].toNat : Int) == 46) = true := by rw [beq_iff_eq]; omega
    have d3 : 48 ≤ v[5].toNat := c3
    have d4 : ¬ v[5].toNat ≤ 57 := c4
    have e4 : vSt (bs v) = 400 := hv
    clear c0 c1 c2 c3 c4 hv
    rw [e4]
    clear e4
    go_wp2_with fail
    go_ret
    exact ⟨rfl, HB3.out⟩
  · have e8 : ((v.size : Int) == 8) = true := by rw [beq_iff_eq]; omega
    have g5 : (5 : Int) < (v.size : Int) := by omega
    have g6 : (6 : Int) < (v.size : Int) := by omega
    have g7 : (7 : Int) < (v.size : Int) := by omega
    have g5n : 5 < v.size := by omega
    have g6n : 6 < v.size := by omega
    have g7n : 7 < v.size := by omega
    have g55 : (5 : Int) ≤ (v.size : Int) := by omega
    have x1 : ((v.extract 0 5).toList == [72, 84, 84, 80, 47]) = true := by rw [toList_bs, c1]; rfl
    have x2 : ((v[6].toNat : Int) == 46) = true := by rw [beq_iff_eq]; omega
    have d3 : 48 ≤ v[5].toNat := c3
    have d4 : v[5].toNat ≤ 57 := c4
    have d5 : ¬ 48 ≤ v[7].toNat := c5
    have e4 : vSt (bs v) = 400 := hv
    clear c0 c1 c2 c3 c4 c5 hv
    rw [e4]
    clear e4
    go_wp2_with fail
    go_ret
    exact ⟨rfl, HB3.out⟩
  · have e8 : ((v.size : Int) == 8) = true := by rw [beq_iff_eq]; omega
    have g5 : (5 : Int) < (v.size : Int) := by omega
    have g6 : (6 : Int) < (v.size : Int) := by omega
    have g7 : (7 : Int) < (v.size : Int) := by omega
    have g5n : 5 < v.size := by omega
    have g6n : 6 < v.size := by omega
    have g7n : 7 < v.size := by omega
    have g55 : (5 : Int) ≤ (v.size : Int) := by omega
    have x1 : ((v.extract 0 5).toList == [72, 84, 84, 80, 47]) = true := by rw [toList_bs, c1]; rfl
    have x2 : ((v[6].toNat : Int) == 46) = true := by rw [beq_iff_eq]; omega
    have d3 : 48 ≤ v[5].toNat := c3
    have d4 : v[5].toNat ≤ 57 := c4
    have d5 : 48 ≤ v[7].toNat := c5
    have d6 : ¬ v[7].toNat ≤ 57 := c6
    have e4 : vSt (bs v) = 400 := hv
    clear c0 c1 c2 c3 c4 c5 c6 hv
    rw [e4]
    clear e4
    go_wp2_with fail
    go_ret
    exact ⟨rfl, HB3.out⟩
  · have e8 : ((v.size : Int) == 8) = true := by rw [beq_iff_eq]; omega
    have g5 : (5 : Int) < (v.size : Int) := by omega
    have g6 : (6 : Int) < (v.size : Int) := by omega
    have g7 : (7 : Int) < (v.size : Int) := by omega
    have g5n : 5 < v.size := by omega
    have g6n : 6 < v.size := by omega
    have g7n : 7 < v.size := by omega
    have g55 : (5 : Int) ≤ (v.size : Int) := by omega
    have x1 : ((v.extract 0 5).toList == [72, 84, 84, 80, 47]) = true := by rw [toList_bs, c1]; rfl
    have x2 : ((v[6].toNat : Int) == 46) = true := by rw [beq_iff_eq]; omega
    have d3 : 48 ≤ v[5].toNat := c3
    have d4 : v[5].toNat ≤ 57 := c4
    have d5 : 48 ≤ v[7].toNat := c5
    have d6 : v[7].toNat ≤ 57 := c6
    clear c0 c1 c2 c3 c4 c5 c6
    generalize vSt (bs v) = st2 at *
    go_wp2_with fail
    go_ret
    exact ⟨rfl, HB3.out⟩

set_option maxRecDepth 100000 in
set_option maxHeartbeats 8000000 in
theorem versions_dig_digB (a b : UInt8) (v : ByteArray) (w : World) (h20 : v.size ≤ 20) (ha : 48 ≤ a.toNat) (ha2 : a.toNat ≤ 57) (ha3 : a.toNat ≠ 49) (hb0 : 48 ≤ b.toNat) (hb1 : b.toNat ≤ 57) (hn : vMi (httpL ++ [a, 46, b]) = 0) (hs : vSt (httpL ++ [a, 46, b]) = 505) :
    Calls Try.prog 4 #[.int .u8 (a.toNat : Int), .int .u8 (b.toNat : Int), .string v] w (Yes3 w) := by
  have HL := Lib.hid (lives03_any w)
  have hr1 := reqIs_get ((⟨#[71, 69, 84, 32, 47, 32, 72, 84, 84, 80, 47]⟩ : ByteArray) ++ ⟨[a, 46, b].toArray⟩) (httpL ++ [a, 46, b]) (show 8 ≤ 100 by omega) (by
    show bs (mkS [71, 69, 84, 32, 47, 32, 72, 84, 84, 80, 47] ++ mkS [a, 46, b]) = _
    rw [mkS_append, bs_mkS]; rfl)
  rw [hn, hs] at hr1
  obtain ⟨M1, T1, hr1⟩ := hr1
  have hr2 := reqIs_get ((⟨#[71, 69, 84, 32, 47, 32]⟩ : ByteArray) ++ v) (bs v) (by rw [length_bs]; omega) (by
    have : v = mkS (bs v) := (mkS_bs v).symm
    show bs (mkS [71, 69, 84, 32, 47, 32] ++ v) = _
    conv => lhs; rw [this]
    rw [mkS_append, bs_mkS]; rfl)
  have HR1 := Lib.hid hr1
  have HR2 := Lib.hid hr2
  have HVT := Lib.hid (vtext v)
  unfold VText at HVT
  have ea49 : ((a.toNat : Int) == 49) = false := by rw [beq_eq_false_iff_ne]; omega
  clear ha3
  clear hr1 hr2 hn hs
  go_enter Try.func4, Try.ntmps4
  go_wp2_with fail
  refine HL.out.mono ?_
  rintro e w1 ⟨rfl, hb⟩
  have HB := Lib.hid (hb.alloc hb.size (Obj.cells #[.int .u8 (a.toNat : Int), .int .u8 46, .int .u8 (b.toNat : Int)] 5))
  clear hb
  have hback := run_convert_bytes_back (P := Try.prog) (w1.alloc (Obj.cells #[.int .u8 (a.toNat : Int), .int .u8 46, .int .u8 (b.toNat : Int)] 5)) 32 9 5 ⟨w1.heap.size, 0, none⟩ 3 [a, 46, b] Try.underlying32 Try.underlying5 Try.underlying9 (fun j hj => cells_newV w1 _ _ j _ (by
    match j, hj with
    | 0, _ | 1, _ | 2, _ => rfl))
  rw [show [a, 46, b].length = 3 from rfl] at hback
  go_wp2_with fail
  refine (HR1.out _).mono ?_
  rintro e w2 ⟨rfl, hb⟩
  have HB2 := Lib.hid (HB.out.trans (hb.mono HB.out.size))
  clear hb hback
  go_wp2_with fail
  obtain ⟨M2, T2, hr2⟩ := HR2.out
  have HR2b := Lib.hid hr2
  clear hr2
  refine (HR2b.out _).mono ?_
  rintro e w3 ⟨rfl, hb⟩
  have HB3 := Lib.hid (HB2.out.trans (hb.mono HB2.out.size))
  clear hb
  rcases HVT.out with ⟨c0, hv⟩ | ⟨c0, c1, hv⟩ | ⟨c0, c1, c2, hv⟩ | ⟨c0, c1, c2, c3, hv⟩ | ⟨c0, c1, c2, c3, c4, hv⟩ | ⟨c0, c1, c2, c3, c4, c5, hv⟩ | ⟨c0, c1, c2, c3, c4, c5, c6, hv⟩ | ⟨c0, c1, c2, c3, c4, c5, c6⟩
  · have e8 : ((v.size : Int) == 8) = false := by rw [beq_eq_false_iff_ne]; omega
    have e4 : vSt (bs v) = 400 := hv
    clear c0 hv
    rw [e4]
    clear e4
    go_wp2_with fail
    go_ret
    exact ⟨rfl, HB3.out⟩
  · have e8 : ((v.size : Int) == 8) = true := by rw [beq_iff_eq]; omega
    have g5 : (5 : Int) < (v.size : Int) := by omega
    have g6 : (6 : Int) < (v.size : Int) := by omega
    have g7 : (7 : Int) < (v.size : Int) := by omega
    have g5n : 5 < v.size := by omega
    have g6n : 6 < v.size := by omega
    have g7n : 7 < v.size := by omega
    have g55 : (5 : Int) ≤ (v.size : Int) := by omega
    have x1 : ((v.extract 0 5).toList == [72, 84, 84, 80, 47]) = false := by rw [toList_bs]; exact beq_eq_false_iff_ne.2 c1
    have e4 : vSt (bs v) = 400 := hv
    clear c0 c1 hv
    rw [e4]
    clear e4
    go_wp2_with fail
    go_ret
    exact ⟨rfl, HB3.out⟩
  · have e8 : ((v.size : Int) == 8) = true := by rw [beq_iff_eq]; omega
    have g5 : (5 : Int) < (v.size : Int) := by omega
    have g6 : (6 : Int) < (v.size : Int) := by omega
    have g7 : (7 : Int) < (v.size : Int) := by omega
    have g5n : 5 < v.size := by omega
    have g6n : 6 < v.size := by omega
    have g7n : 7 < v.size := by omega
    have g55 : (5 : Int) ≤ (v.size : Int) := by omega
    have x1 : ((v.extract 0 5).toList == [72, 84, 84, 80, 47]) = true := by rw [toList_bs, c1]; rfl
    have x2 : ((v[6].toNat : Int) == 46) = false := by rw [beq_eq_false_iff_ne]; omega
    have e4 : vSt (bs v) = 400 := hv
    clear c0 c1 c2 hv
    rw [e4]
    clear e4
    go_wp2_with fail
    go_ret
    exact ⟨rfl, HB3.out⟩
  · have e8 : ((v.size : Int) == 8) = true := by rw [beq_iff_eq]; omega
    have g5 : (5 : Int) < (v.size : Int) := by omega
    have g6 : (6 : Int) < (v.size : Int) := by omega
    have g7 : (7 : Int) < (v.size : Int) := by omega
    have g5n : 5 < v.size := by omega
    have g6n : 6 < v.size := by omega
    have g7n : 7 < v.size := by omega
    have g55 : (5 : Int) ≤ (v.size : Int) := by omega
    have x1 : ((v.extract 0 5).toList == [72, 84, 84, 80, 47]) = true := by rw [toList_bs, c1]; rfl
    have x2 : ((v[6].toNat : Int) == 46) = true := by rw [beq_iff_eq]; omega
    have d3 : ¬ 48 ≤ v[5].toNat := c3
    have e4 : vSt (bs v) = 400 := hv
    clear c0 c1 c2 c3 hv
    rw [e4]
    clear e4
    go_wp2_with fail
    go_ret
    exact ⟨rfl, HB3.out⟩
  · have e8 : ((v.size : Int) == 8) = true := by rw [beq_iff_eq]; omega
    have g5 : (5 : Int) < (v.size : Int) := by omega
    have g6 : (6 : Int) < (v.size : Int) := by omega
    have g7 : (7 : Int) < (v.size : Int) := by omega
    have g5n : 5 < v.size := by omega
    have g6n : 6 < v.size := by omega
    have g7n : 7 < v.size := by omega
    have g55 : (5 : Int) ≤ (v.size : Int) := by omega
    have x1 : ((v.extract 0 5).toList == [72, 84, 84, 80, 47]) = true := by rw [toList_bs, c1]; rfl
    have x2 : ((v[6].toNat : Int) == 46) = true := by rw [beq_iff_eq]; omega
    have d3 : 48 ≤ v[5].toNat := c3
    have d4 : ¬ v[5].toNat ≤ 57 := c4
    have e4 : vSt (bs v) = 400 := hv
    clear c0 c1 c2 c3 c4 hv
    rw [e4]
    clear e4
    go_wp2_with fail
    go_ret
    exact ⟨rfl, HB3.out⟩
  · have e8 : ((v.size : Int) == 8) = true := by rw [beq_iff_eq]; omega
    have g5 : (5 : Int) < (v.size : Int) := by omega
    have g6 : (6 : Int) < (v.size : Int) := by omega
    have g7 : (7 : Int) < (v.size : Int) := by omega
    have g5n : 5 < v.size := by omega
    have g6n : 6 < v.size := by omega
    have g7n : 7 < v.size := by omega
    have g55 : (5 : Int) ≤ (v.size : Int) := by omega
    have x1 : ((v.extract 0 5).toList == [72, 84, 84, 80, 47]) = true := by rw [toList_bs, c1]; rfl
    have x2 : ((v[6].toNat : Int) == 46) = true := by rw [beq_iff_eq]; omega
    have d3 : 48 ≤ v[5].toNat := c3
    have d4 : v[5].toNat ≤ 57 := c4
    have d5 : ¬ 48 ≤ v[7].toNat := c5
    have e4 : vSt (bs v) = 400 := hv
    clear c0 c1 c2 c3 c4 c5 hv
    rw [e4]
    clear e4
    go_wp2_with fail
    go_ret
    exact ⟨rfl, HB3.out⟩
  · have e8 : ((v.size : Int) == 8) = true := by rw [beq_iff_eq]; omega
    have g5 : (5 : Int) < (v.size : Int) := by omega
    have g6 : (6 : Int) < (v.size : Int) := by omega
    have g7 : (7 : Int) < (v.size : Int) := by omega
    have g5n : 5 < v.size := by omega
    have g6n : 6 < v.size := by omega
    have g7n : 7 < v.size := by omega
    have g55 : (5 : Int) ≤ (v.size : Int) := by omega
    have x1 : ((v.extract 0 5).toList == [72, 84, 84, 80, 47]) = true := by rw [toList_bs, c1]; rfl
    have x2 : ((v[6].toNat : Int) == 46) = true := by rw [beq_iff_eq]; omega
    have d3 : 48 ≤ v[5].toNat := c3
    have d4 : v[5].toNat ≤ 57 := c4
    have d5 : 48 ≤ v[7].toNat := c5
    have d6 : ¬ v[7].toNat ≤ 57 := c6
    have e4 : vSt (bs v) = 400 := hv
    clear c0 c1 c2 c3 c4 c5 c6 hv
    rw [e4]
    clear e4
    go_wp2_with fail
    go_ret
    exact ⟨rfl, HB3.out⟩
  · have e8 : ((v.size : Int) == 8) = true := by rw [beq_iff_eq]; omega
    have g5 : (5 : Int) < (v.size : Int) := by omega
    have g6 : (6 : Int) < (v.size : Int) := by omega
    have g7 : (7 : Int) < (v.size : Int) := by omega
    have g5n : 5 < v.size := by omega
    have g6n : 6 < v.size := by omega
    have g7n : 7 < v.size := by omega
    have g55 : (5 : Int) ≤ (v.size : Int) := by omega
    have x1 : ((v.extract 0 5).toList == [72, 84, 84, 80, 47]) = true := by rw [toList_bs, c1]; rfl
    have x2 : ((v[6].toNat : Int) == 46) = true := by rw [beq_iff_eq]; omega
    have d3 : 48 ≤ v[5].toNat := c3
    have d4 : v[5].toNat ≤ 57 := c4
    have d5 : 48 ≤ v[7].toNat := c5
    have d6 : v[7].toNat ≤ 57 := c6
    clear c0 c1 c2 c3 c4 c5 c6
    generalize vSt (bs v) = st2 at *
    go_wp2_with fail
    go_ret
    exact ⟨rfl, HB3.out⟩

set_option maxRecDepth 100000 in
set_option maxHeartbeats 8000000 in
theorem versions_one_lowB (a b : UInt8) (v : ByteArray) (w : World) (h20 : v.size ≤ 20) (ha3 : a.toNat = 49) (hb0 : ¬ 48 ≤ b.toNat) (hn : vMi (httpL ++ [a, 46, b]) = 0) (hs : vSt (httpL ++ [a, 46, b]) = 400) :
    Calls Try.prog 4 #[.int .u8 (a.toNat : Int), .int .u8 (b.toNat : Int), .string v] w (Yes3 w) := by
  have HL := Lib.hid (lives03_any w)
  have hr1 := reqIs_get ((⟨#[71, 69, 84, 32, 47, 32, 72, 84, 84, 80, 47]⟩ : ByteArray) ++ ⟨[a, 46, b].toArray⟩) (httpL ++ [a, 46, b]) (show 8 ≤ 100 by omega) (by
    show bs (mkS [71, 69, 84, 32, 47, 32, 72, 84, 84, 80, 47] ++ mkS [a, 46, b]) = _
    rw [mkS_append, bs_mkS]; rfl)
  rw [hn, hs] at hr1
  obtain ⟨M1, T1, hr1⟩ := hr1
  have hr2 := reqIs_get ((⟨#[71, 69, 84, 32, 47, 32]⟩ : ByteArray) ++ v) (bs v) (by rw [length_bs]; omega) (by
    have : v = mkS (bs v) := (mkS_bs v).symm
    show bs (mkS [71, 69, 84, 32, 47, 32] ++ v) = _
    conv => lhs; rw [this]
    rw [mkS_append, bs_mkS]; rfl)
  have HR1 := Lib.hid hr1
  have HR2 := Lib.hid hr2
  have HVT := Lib.hid (vtext v)
  unfold VText at HVT
  have ea49 : ((a.toNat : Int) == 49) = true := by rw [beq_iff_eq]; omega
  have ha : 48 ≤ a.toNat := by omega
  have ha2 : a.toNat ≤ 57 := by omega
  clear ha3
  have eb48 : ((b.toNat : Int) == 48) = false := by rw [beq_eq_false_iff_ne]; omega
  have eb49 : ((b.toNat : Int) == 49) = false := by rw [beq_eq_false_iff_ne]; omega
  clear hr1 hr2 hn hs
  go_enter Try.func4, Try.ntmps4
  go_wp2_with fail
  refine HL.out.mono ?_
  rintro e w1 ⟨rfl, hb⟩
  have HB := Lib.hid (hb.alloc hb.size (Obj.cells #[.int .u8 (a.toNat : Int), .int .u8 46, .int .u8 (b.toNat : Int)] 5))
  clear hb
  have hback := run_convert_bytes_back (P := Try.prog) (w1.alloc (Obj.cells #[.int .u8 (a.toNat : Int), .int .u8 46, .int .u8 (b.toNat : Int)] 5)) 32 9 5 ⟨w1.heap.size, 0, none⟩ 3 [a, 46, b] Try.underlying32 Try.underlying5 Try.underlying9 (fun j hj => cells_newV w1 _ _ j _ (by
    match j, hj with
    | 0, _ | 1, _ | 2, _ => rfl))
  rw [show [a, 46, b].length = 3 from rfl] at hback
  go_wp2_with fail
  refine (HR1.out _).mono ?_
  rintro e w2 ⟨rfl, hb⟩
  have HB2 := Lib.hid (HB.out.trans (hb.mono HB.out.size))
  clear hb hback
  go_wp2_with fail
  obtain ⟨M2, T2, hr2⟩ := HR2.out
  have HR2b := Lib.hid hr2
  clear hr2
  refine (HR2b.out _).mono ?_
  rintro e w3 ⟨rfl, hb⟩
  have HB3 := Lib.hid (HB2.out.trans (hb.mono HB2.out.size))
  clear hb
  rcases HVT.out with ⟨c0, hv⟩ | ⟨c0, c1, hv⟩ | ⟨c0, c1, c2, hv⟩ | ⟨c0, c1, c2, c3, hv⟩ | ⟨c0, c1, c2, c3, c4, hv⟩ | ⟨c0, c1, c2, c3, c4, c5, hv⟩ | ⟨c0, c1, c2, c3, c4, c5, c6, hv⟩ | ⟨c0, c1, c2, c3, c4, c5, c6⟩
  · have e8 : ((v.size : Int) == 8) = false := by rw [beq_eq_false_iff_ne]; omega
    have e4 : vSt (bs v) = 400 := hv
    clear c0 hv
    rw [e4]
    clear e4
    go_wp2_with fail
    go_ret
    exact ⟨rfl, HB3.out⟩
  · have e8 : ((v.size : Int) == 8) = true := by rw [beq_iff_eq]; omega
    have g5 : (5 : Int) < (v.size : Int) := by omega
    have g6 : (6 : Int) < (v.size : Int) := by omega
    have g7 : (7 : Int) < (v.size : Int) := by omega
    have g5n : 5 < v.size := by omega
    have g6n : 6 < v.size := by omega
    have g7n : 7 < v.size := by omega
    have g55 : (5 : Int) ≤ (v.size : Int) := by omega
    have x1 : ((v.extract 0 5).toList == [72, 84, 84, 80, 47]) = false := by rw [toList_bs]; exact beq_eq_false_iff_ne.2 c1
    have e4 : vSt (bs v) = 400 := hv
    clear c0 c1 hv
    rw [e4]
    clear e4
    go_wp2_with fail
    go_ret
    exact ⟨rfl, HB3.out⟩
  · have e8 : ((v.size : Int) == 8) = true := by rw [beq_iff_eq]; omega
    have g5 : (5 : Int) < (v.size : Int) := by omega
    have g6 : (6 : Int) < (v.size : Int) := by omega
    have g7 : (7 : Int) < (v.size : Int) := by omega
    have g5n : 5 < v.size := by omega
    have g6n : 6 < v.size := by omega
    have g7n : 7 < v.size := by omega
    have g55 : (5 : Int) ≤ (v.size : Int) := by omega
    have x1 : ((v.extract 0 5).toList == [72, 84, 84, 80, 47]) = true := by rw [toList_bs, c1]; rfl
    have x2 : ((v[6].toNat : Int) == 46) = false := by rw [beq_eq_false_iff_ne]; omega
    have e4 : vSt (bs v) = 400 := hv
    clear c0 c1 c2 hv
    rw [e4]
    clear e4
    go_wp2_with fail
    go_ret
    exact ⟨rfl, HB3.out⟩
  · have e8 : ((v.size : Int) == 8) = true := by rw [beq_iff_eq]; omega
    have g5 : (5 : Int) < (v.size : Int) := by omega
    have g6 : (6 : Int) < (v.size : Int) := by omega
    have g7 : (7 : Int) < (v.size : Int) := by omega
    have g5n : 5 < v.size := by omega
    have g6n : 6 < v.size := by omega
    have g7n : 7 < v.size := by omega
    have g55 : (5 : Int) ≤ (v.size : Int) := by omega
    have x1 : ((v.extract 0 5).toList == [72, 84, 84, 80, 47]) = true := by rw [toList_bs, c1]; rfl
    have x2 : ((v[6].toNat : Int) == 46) = true := by rw [beq_iff_eq]; omega
    have d3 : ¬ 48 ≤ v[5].toNat := c3
    have e4 : vSt (bs v) = 400 := hv
    clear c0 c1 c2 c3 hv
    rw [e4]
    clear e4
    go_wp2_with fail
    go_ret
    exact ⟨rfl, HB3.out⟩
  · have e8 : ((v.size : Int) == 8) = true := by rw [beq_iff_eq]; omega
    have g5 : (5 : Int) < (v.size : Int) := by omega
    have g6 : (6 : Int) < (v.size : Int) := by omega
    have g7 : (7 : Int) < (v.size : Int) := by omega
    have g5n : 5 < v.size := by omega
    have g6n : 6 < v.size := by omega
    have g7n : 7 < v.size := by omega
    have g55 : (5 : Int) ≤ (v.size : Int) := by omega
    have x1 : ((v.extract 0 5).toList == [72, 84, 84, 80, 47]) = true := by rw [toList_bs, c1]; rfl
    have x2 : ((v[6].toNat : Int) == 46) = true := by rw [beq_iff_eq]; omega
    have d3 : 48 ≤ v[5].toNat := c3
    have d4 : ¬ v[5].toNat ≤ 57 := c4
    have e4 : vSt (bs v) = 400 := hv
    clear c0 c1 c2 c3 c4 hv
    rw [e4]
    clear e4
    go_wp2_with fail
    go_ret
    exact ⟨rfl, HB3.out⟩
  · have e8 : ((v.size : Int) == 8) = true := by rw [beq_iff_eq]; omega
    have g5 : (5 : Int) < (v.size : Int) := by omega
    have g6 : (6 : Int) < (v.size : Int) := by omega
    have g7 : (7 : Int) < (v.size : Int) := by omega
    have g5n : 5 < v.size := by omega
    have g6n : 6 < v.size := by omega
    have g7n : 7 < v.size := by omega
    have g55 : (5 : Int) ≤ (v.size : Int) := by omega
    have x1 : ((v.extract 0 5).toList == [72, 84, 84, 80, 47]) = true := by rw [toList_bs, c1]; rfl
    have x2 : ((v[6].toNat : Int) == 46) = true := by rw [beq_iff_eq]; omega
    have d3 : 48 ≤ v[5].toNat := c3
    have d4 : v[5].toNat ≤ 57 := c4
    have d5 : ¬ 48 ≤ v[7].toNat := c5
    have e4 : vSt (bs v) = 400 := hv
    clear c0 c1 c2 c3 c4 c5 hv
    rw [e4]
    clear e4
    go_wp2_with fail
    go_ret
    exact ⟨rfl, HB3.out⟩
  · have e8 : ((v.size : Int) == 8) = true := by rw [beq_iff_eq]; omega
    have g5 : (5 : Int) < (v.size : Int) := by omega
    have g6 : (6 : Int) < (v.size : Int) := by omega
    have g7 : (7 : Int) < (v.size : Int) := by omega
    have g5n : 5 < v.size := by omega
    have g6n : 6 < v.size := by omega
    have g7n : 7 < v.size := by omega
    have g55 : (5 : Int) ≤ (v.size : Int) := by omega
    have x1 : ((v.extract 0 5).toList == [72, 84, 84, 80, 47]) = true := by rw [toList_bs, c1]; rfl
    have x2 : ((v[6].toNat : Int) == 46) = true := by rw [beq_iff_eq]; omega
    have d3 : 48 ≤ v[5].toNat := c3
    have d4 : v[5].toNat ≤ 57 := c4
    have d5 : 48 ≤ v[7].toNat := c5
    have d6 : ¬ v[7].toNat ≤ 57 := c6
    have e4 : vSt (bs v) = 400 := hv
    clear c0 c1 c2 c3 c4 c5 c6 hv
    rw [e4]
    clear e4
    go_wp2_with fail
    go_ret
    exact ⟨rfl, HB3.out⟩
  · have e8 : ((v.size : Int) == 8) = true := by rw [beq_iff_eq]; omega
    have g5 : (5 : Int) < (v.size : Int) := by omega
    have g6 : (6 : Int) < (v.size : Int) := by omega
    have g7 : (7 : Int) < (v.size : Int) := by omega
    have g5n : 5 < v.size := by omega
    have g6n : 6 < v.size := by omega
    have g7n : 7 < v.size := by omega
    have g55 : (5 : Int) ≤ (v.size : Int) := by omega
    have x1 : ((v.extract 0 5).toList == [72, 84, 84, 80, 47]) = true := by rw [toList_bs, c1]; rfl
    have x2 : ((v[6].toNat : Int) == 46) = true := by rw [beq_iff_eq]; omega
    have d3 : 48 ≤ v[5].toNat := c3
    have d4 : v[5].toNat ≤ 57 := c4
    have d5 : 48 ≤ v[7].toNat := c5
    have d6 : v[7].toNat ≤ 57 := c6
    clear c0 c1 c2 c3 c4 c5 c6
    generalize vSt (bs v) = st2 at *
    go_wp2_with fail
    go_ret
    exact ⟨rfl, HB3.out⟩

set_option maxRecDepth 100000 in
set_option maxHeartbeats 8000000 in
theorem versions_one_highB (a b : UInt8) (v : ByteArray) (w : World) (h20 : v.size ≤ 20) (ha3 : a.toNat = 49) (_hb0 : 48 ≤ b.toNat) (hb1 : ¬ b.toNat ≤ 57) (hn : vMi (httpL ++ [a, 46, b]) = 0) (hs : vSt (httpL ++ [a, 46, b]) = 400) :
    Calls Try.prog 4 #[.int .u8 (a.toNat : Int), .int .u8 (b.toNat : Int), .string v] w (Yes3 w) := by
  have HL := Lib.hid (lives03_any w)
  have hr1 := reqIs_get ((⟨#[71, 69, 84, 32, 47, 32, 72, 84, 84, 80, 47]⟩ : ByteArray) ++ ⟨[a, 46, b].toArray⟩) (httpL ++ [a, 46, b]) (show 8 ≤ 100 by omega) (by
    show bs (mkS [71, 69, 84, 32, 47, 32, 72, 84, 84, 80, 47] ++ mkS [a, 46, b]) = _
    rw [mkS_append, bs_mkS]; rfl)
  rw [hn, hs] at hr1
  obtain ⟨M1, T1, hr1⟩ := hr1
  have hr2 := reqIs_get ((⟨#[71, 69, 84, 32, 47, 32]⟩ : ByteArray) ++ v) (bs v) (by rw [length_bs]; omega) (by
    have : v = mkS (bs v) := (mkS_bs v).symm
    show bs (mkS [71, 69, 84, 32, 47, 32] ++ v) = _
    conv => lhs; rw [this]
    rw [mkS_append, bs_mkS]; rfl)
  have HR1 := Lib.hid hr1
  have HR2 := Lib.hid hr2
  have HVT := Lib.hid (vtext v)
  unfold VText at HVT
  have ea49 : ((a.toNat : Int) == 49) = true := by rw [beq_iff_eq]; omega
  have ha : 48 ≤ a.toNat := by omega
  have ha2 : a.toNat ≤ 57 := by omega
  clear ha3
  have eb48 : ((b.toNat : Int) == 48) = false := by rw [beq_eq_false_iff_ne]; omega
  have eb49 : ((b.toNat : Int) == 49) = false := by rw [beq_eq_false_iff_ne]; omega
  clear hr1 hr2 hn hs
  go_enter Try.func4, Try.ntmps4
  go_wp2_with fail
  refine HL.out.mono ?_
  rintro e w1 ⟨rfl, hb⟩
  have HB := Lib.hid (hb.alloc hb.size (Obj.cells #[.int .u8 (a.toNat : Int), .int .u8 46, .int .u8 (b.toNat : Int)] 5))
  clear hb
  have hback := run_convert_bytes_back (P := Try.prog) (w1.alloc (Obj.cells #[.int .u8 (a.toNat : Int), .int .u8 46, .int .u8 (b.toNat : Int)] 5)) 32 9 5 ⟨w1.heap.size, 0, none⟩ 3 [a, 46, b] Try.underlying32 Try.underlying5 Try.underlying9 (fun j hj => cells_newV w1 _ _ j _ (by
    match j, hj with
    | 0, _ | 1, _ | 2, _ => rfl))
  rw [show [a, 46, b].length = 3 from rfl] at hback
  go_wp2_with fail
  refine (HR1.out _).mono ?_
  rintro e w2 ⟨rfl, hb⟩
  have HB2 := Lib.hid (HB.out.trans (hb.mono HB.out.size))
  clear hb hback
  go_wp2_with fail
  obtain ⟨M2, T2, hr2⟩ := HR2.out
  have HR2b := Lib.hid hr2
  clear hr2
  refine (HR2b.out _).mono ?_
  rintro e w3 ⟨rfl, hb⟩
  have HB3 := Lib.hid (HB2.out.trans (hb.mono HB2.out.size))
  clear hb
  rcases HVT.out with ⟨c0, hv⟩ | ⟨c0, c1, hv⟩ | ⟨c0, c1, c2, hv⟩ | ⟨c0, c1, c2, c3, hv⟩ | ⟨c0, c1, c2, c3, c4, hv⟩ | ⟨c0, c1, c2, c3, c4, c5, hv⟩ | ⟨c0, c1, c2, c3, c4, c5, c6, hv⟩ | ⟨c0, c1, c2, c3, c4, c5, c6⟩
  · have e8 : ((v.size : Int) == 8) = false := by rw [beq_eq_false_iff_ne]; omega
    have e4 : vSt (bs v) = 400 := hv
    clear c0 hv
    rw [e4]
    clear e4
    go_wp2_with fail
    go_ret
    exact ⟨rfl, HB3.out⟩
  · have e8 : ((v.size : Int) == 8) = true := by rw [beq_iff_eq]; omega
    have g5 : (5 : Int) < (v.size : Int) := by omega
    have g6 : (6 : Int) < (v.size : Int) := by omega
    have g7 : (7 : Int) < (v.size : Int) := by omega
    have g5n : 5 < v.size := by omega
    have g6n : 6 < v.size := by omega
    have g7n : 7 < v.size := by omega
    have g55 : (5 : Int) ≤ (v.size : Int) := by omega
    have x1 : ((v.extract 0 5).toList == [72, 84, 84, 80, 47]) = false := by rw [toList_bs]; exact beq_eq_false_iff_ne.2 c1
    have e4 : vSt (bs v) = 400 := hv
    clear c0 c1 hv
    rw [e4]
    clear e4
    go_wp2_with fail
    go_ret
    exact ⟨rfl, HB3.out⟩
  · have e8 : ((v.size : Int) == 8) = true := by rw [beq_iff_eq]; omega
    have g5 : (5 : Int) < (v.size : Int) := by omega
    have g6 : (6 : Int) < (v.size : Int) := by omega
    have g7 : (7 : Int) < (v.size : Int) := by omega
    have g5n : 5 < v.size := by omega
    have g6n : 6 < v.size := by omega
    have g7n : 7 < v.size := by omega
    have g55 : (5 : Int) ≤ (v.size : Int) := by omega
    have x1 : ((v.extract 0 5).toList == [72, 84, 84, 80, 47]) = true := by rw [toList_bs, c1]; rfl
    have x2 : ((v[6].toNat : Int) == 46) = false := by rw [beq_eq_false_iff_ne]; omega
    have e4 : vSt (bs v) = 400 := hv
    clear c0 c1 c2 hv
    rw [e4]
    clear e4
    go_wp2_with fail
    go_ret
    exact ⟨rfl, HB3.out⟩
  · have e8 : ((v.size : Int) == 8) = true := by rw [beq_iff_eq]; omega
    have g5 : (5 : Int) < (v.size : Int) := by omega
    have g6 : (6 : Int) < (v.size : Int) := by omega
    have g7 : (7 : Int) < (v.size : Int) := by omega
    have g5n : 5 < v.size := by omega
    have g6n : 6 < v.size := by omega
    have g7n : 7 < v.size := by omega
    have g55 : (5 : Int) ≤ (v.size : Int) := by omega
    have x1 : ((v.extract 0 5).toList == [72, 84, 84, 80, 47]) = true := by rw [toList_bs, c1]; rfl
    have x2 : ((v[6].toNat : Int) == 46) = true := by rw [beq_iff_eq]; omega
    have d3 : ¬ 48 ≤ v[5].toNat := c3
    have e4 : vSt (bs v) = 400 := hv
    clear c0 c1 c2 c3 hv
    rw [e4]
    clear e4
    go_wp2_with fail
    go_ret
    exact ⟨rfl, HB3.out⟩
  · have e8 : ((v.size : Int) == 8) = true := by rw [beq_iff_eq]; omega
    have g5 : (5 : Int) < (v.size : Int) := by omega
    have g6 : (6 : Int) < (v.size : Int) := by omega
    have g7 : (7 : Int) < (v.size : Int) := by omega
    have g5n : 5 < v.size := by omega
    have g6n : 6 < v.size := by omega
    have g7n : 7 < v.size := by omega
    have g55 : (5 : Int) ≤ (v.size : Int) := by omega
    have x1 : ((v.extract 0 5).toList == [72, 84, 84, 80, 47]) = true := by rw [toList_bs, c1]; rfl
    have x2 : ((v[6].toNat : Int) == 46) = true := by rw [beq_iff_eq]; omega
    have d3 : 48 ≤ v[5].toNat := c3
    have d4 : ¬ v[5].toNat ≤ 57 := c4
    have e4 : vSt (bs v) = 400 := hv
    clear c0 c1 c2 c3 c4 hv
    rw [e4]
    clear e4
    go_wp2_with fail
    go_ret
    exact ⟨rfl, HB3.out⟩
  · have e8 : ((v.size : Int) == 8) = true := by rw [beq_iff_eq]; omega
    have g5 : (5 : Int) < (v.size : Int) := by omega
    have g6 : (6 : Int) < (v.size : Int) := by omega
    have g7 : (7 : Int) < (v.size : Int) := by omega
    have g5n : 5 < v.size := by omega
    have g6n : 6 < v.size := by omega
    have g7n : 7 < v.size := by omega
    have g55 : (5 : Int) ≤ (v.size : Int) := by omega
    have x1 : ((v.extract 0 5).toList == [72, 84, 84, 80, 47]) = true := by rw [toList_bs, c1]; rfl
    have x2 : ((v[6].toNat : Int) == 46) = true := by rw [beq_iff_eq]; omega
    have d3 : 48 ≤ v[5].toNat := c3
    have d4 : v[5].toNat ≤ 57 := c4
    have d5 : ¬ 48 ≤ v[7].toNat := c5
    have e4 : vSt (bs v) = 400 := hv
    clear c0 c1 c2 c3 c4 c5 hv
    rw [e4]
    clear e4
    go_wp2_with fail
    go_ret
    exact ⟨rfl, HB3.out⟩
  · have e8 : ((v.size : Int) == 8) = true := by rw [beq_iff_eq]; omega
    have g5 : (5 : Int) < (v.size : Int) := by omega
    have g6 : (6 : Int) < (v.size : Int) := by omega
    have g7 : (7 : Int) < (v.size : Int) := by omega
    have g5n : 5 < v.size := by omega
    have g6n : 6 < v.size := by omega
    have g7n : 7 < v.size := by omega
    have g55 : (5 : Int) ≤ (v.size : Int) := by omega
    have x1 : ((v.extract 0 5).toList == [72, 84, 84, 80, 47]) = true := by rw [toList_bs, c1]; rfl
    have x2 : ((v[6].toNat : Int) == 46) = true := by rw [beq_iff_eq]; omega
    have d3 : 48 ≤ v[5].toNat := c3
    have d4 : v[5].toNat ≤ 57 := c4
    have d5 : 48 ≤ v[7].toNat := c5
    have d6 : ¬ v[7].toNat ≤ 57 := c6
    have e4 : vSt (bs v) = 400 := hv
    clear c0 c1 c2 c3 c4 c5 c6 hv
    rw [e4]
    clear e4
    go_wp2_with fail
    go_ret
    exact ⟨rfl, HB3.out⟩
  · have e8 : ((v.size : Int) == 8) = true := by rw [beq_iff_eq]; omega
    have g5 : (5 : Int) < (v.size : Int) := by omega
    have g6 : (6 : Int) < (v.size : Int) := by omega
    have g7 : (7 : Int) < (v.size : Int) := by omega
    have g5n : 5 < v.size := by omega
    have g6n : 6 < v.size := by omega
    have g7n : 7 < v.size := by omega
    have g55 : (5 : Int) ≤ (v.size : Int) := by omega
    have x1 : ((v.extract 0 5).toList == [72, 84, 84, 80, 47]) = true := by rw [toList_bs, c1]; rfl
    have x2 : ((v[6].toNat : Int) == 46) = true := by rw [beq_iff_eq]; omega
    have d3 : 48 ≤ v[5].toNat := c3
    have d4 : v[5].toNat ≤ 57 := c4
    have d5 : 48 ≤ v[7].toNat := c5
    have d6 : v[7].toNat ≤ 57 := c6
    clear c0 c1 c2 c3 c4 c5 c6
    generalize vSt (bs v) = st2 at *
    go_wp2_with fail
    go_ret
    exact ⟨rfl, HB3.out⟩

set_option maxRecDepth 100000 in
set_option maxHeartbeats 8000000 in
theorem versions_one_digB (a b : UInt8) (v : ByteArray) (w : World) (h20 : v.size ≤ 20) (ha3 : a.toNat = 49) (hb0 : 48 ≤ b.toNat) (hb1 : b.toNat ≤ 57) (hb2 : b.toNat ≠ 48) (hb3 : b.toNat ≠ 49) (hn : vMi (httpL ++ [a, 46, b]) = 0) (hs : vSt (httpL ++ [a, 46, b]) = 505) :
    Calls Try.prog 4 #[.int .u8 (a.toNat : Int), .int .u8 (b.toNat : Int), .string v] w (Yes3 w) := by
  have HL := Lib.hid (lives03_any w)
  have hr1 := reqIs_get ((⟨#[71, 69, 84, 32, 47, 32, 72, 84, 84, 80, 47]⟩ : ByteArray) ++ ⟨[a, 46, b].toArray⟩) (httpL ++ [a, 46, b]) (show 8 ≤ 100 by omega) (by
    show bs (mkS [71, 69, 84, 32, 47, 32, 72, 84, 84, 80, 47] ++ mkS [a, 46, b]) = _
    rw [mkS_append, bs_mkS]; rfl)
  rw [hn, hs] at hr1
  obtain ⟨M1, T1, hr1⟩ := hr1
  have hr2 := reqIs_get ((⟨#[71, 69, 84, 32, 47, 32]⟩ : ByteArray) ++ v) (bs v) (by rw [length_bs]; omega) (by
    have : v = mkS (bs v) := (mkS_bs v).symm
    show bs (mkS [71, 69, 84, 32, 47, 32] ++ v) = _
    conv => lhs; rw [this]
    rw [mkS_append, bs_mkS]; rfl)
  have HR1 := Lib.hid hr1
  have HR2 := Lib.hid hr2
  have HVT := Lib.hid (vtext v)
  unfold VText at HVT
  have ea49 : ((a.toNat : Int) == 49) = true := by rw [beq_iff_eq]; omega
  have ha : 48 ≤ a.toNat := by omega
  have ha2 : a.toNat ≤ 57 := by omega
  clear ha3
  have eb48 : ((b.toNat : Int) == 48) = false := by rw [beq_eq_false_iff_ne]; omega
  have eb49 : ((b.toNat : Int) == 49) = false := by rw [beq_eq_false_iff_ne]; omega
  clear hb2 hb3
  clear hr1 hr2 hn hs
  go_enter Try.func4, Try.ntmps4
  go_wp2_with fail
  refine HL.out.mono ?_
  rintro e w1 ⟨rfl, hb⟩
  have HB := Lib.hid (hb.alloc hb.size (Obj.cells #[.int .u8 (a.toNat : Int), .int .u8 46, .int .u8 (b.toNat : Int)] 5))
  clear hb
  have hback := run_convert_bytes_back (P := Try.prog) (w1.alloc (Obj.cells #[.int .u8 (a.toNat : Int), .int .u8 46, .int .u8 (b.toNat : Int)] 5)) 32 9 5 ⟨w1.heap.size, 0, none⟩ 3 [a, 46, b] Try.underlying32 Try.underlying5 Try.underlying9 (fun j hj => cells_newV w1 _ _ j _ (by
    match j, hj with
    | 0, _ | 1, _ | 2, _ => rfl))
  rw [show [a, 46, b].length = 3 from rfl] at hback
  go_wp2_with fail
  refine (HR1.out _).mono ?_
  rintro e w2 ⟨rfl, hb⟩
  have HB2 := Lib.hid (HB.out.trans (hb.mono HB.out.size))
  clear hb hback
  go_wp2_with fail
  obtain ⟨M2, T2, hr2⟩ := HR2.out
  have HR2b := Lib.hid hr2
  clear hr2
  refine (HR2b.out _).mono ?_
  rintro e w3 ⟨rfl, hb⟩
  have HB3 := Lib.hid (HB2.out.trans (hb.mono HB2.out.size))
  clear hb
  rcases HVT.out with ⟨c0, hv⟩ | ⟨c0, c1, hv⟩ | ⟨c0, c1, c2, hv⟩ | ⟨c0, c1, c2, c3, hv⟩ | ⟨c0, c1, c2, c3, c4, hv⟩ | ⟨c0, c1, c2, c3, c4, c5, hv⟩ | ⟨c0, c1, c2, c3, c4, c5, c6, hv⟩ | ⟨c0, c1, c2, c3, c4, c5, c6⟩
  · have e8 : ((v.size : Int) == 8) = false := by rw [beq_eq_false_iff_ne]; omega
    have e4 : vSt (bs v) = 400 := hv
    clear c0 hv
    rw [e4]
    clear e4
    go_wp2_with fail
    go_ret
    exact ⟨rfl, HB3.out⟩
  · have e8 : ((v.size : Int) == 8) = true := by rw [beq_iff_eq]; omega
    have g5 : (5 : Int) < (v.size : Int) := by omega
    have g6 : (6 : Int) < (v.size : Int) := by omega
    have g7 : (7 : Int) < (v.size : Int) := by omega
    have g5n : 5 < v.size := by omega
    have g6n : 6 < v.size := by omega
    have g7n : 7 < v.size := by omega
    have g55 : (5 : Int) ≤ (v.size : Int) := by omega
    have x1 : ((v.extract 0 5).toList == [72, 84, 84, 80, 47]) = false := by rw [toList_bs]; exact beq_eq_false_iff_ne.2 c1
    have e4 : vSt (bs v) = 400 := hv
    clear c0 c1 hv
    rw [e4]
    clear e4
    go_wp2_with fail
    go_ret
    exact ⟨rfl, HB3.out⟩
  · have e8 : ((v.size : Int) == 8) = true := by rw [beq_iff_eq]; omega
    have g5 : (5 : Int) < (v.size : Int) := by omega
    have g6 : (6 : Int) < (v.size : Int) := by omega
    have g7 : (7 : Int) < (v.size : Int) := by omega
    have g5n : 5 < v.size := by omega
    have g6n : 6 < v.size := by omega
    have g7n : 7 < v.size := by omega
    have g55 : (5 : Int) ≤ (v.size : Int) := by omega
    have x1 : ((v.extract 0 5).toList == [72, 84, 84, 80, 47]) = true := by rw [toList_bs, c1]; rfl
    have x2 : ((v[6].toNat : Int) == 46) = false := by rw [beq_eq_false_iff_ne]; omega
    have e4 : vSt (bs v) = 400 := hv
    clear c0 c1 c2 hv
    rw [e4]
    clear e4
    go_wp2_with fail
    go_ret
    exact ⟨rfl, HB3.out⟩
  · have e8 : ((v.size : Int) == 8) = true := by rw [beq_iff_eq]; omega
    have g5 : (5 : Int) < (v.size : Int) := by omega
    have g6 : (6 : Int) < (v.size : Int) := by omega
    have g7 : (7 : Int) < (v.size : Int) := by omega
    have g5n : 5 < v.size := by omega
    have g6n : 6 < v.size := by omega
    have g7n : 7 < v.size := by omega
    have g55 : (5 : Int) ≤ (v.size : Int) := by omega
    have x1 : ((v.extract 0 5).toList == [72, 84, 84, 80, 47]) = true := by rw [toList_bs, c1]; rfl
    have x2 : ((v[6].toNat : Int) == 46) = true := by rw [beq_iff_eq]; omega
    have d3 : ¬ 48 ≤ v[5].toNat := c3
    have e4 : vSt (bs v) = 400 := hv
    clear c0 c1 c2 c3 hv
    rw [e4]
    clear e4
    go_wp2_with fail
    go_ret
    exact ⟨rfl, HB3.out⟩
  · have e8 : ((v.size : Int) == 8) = true := by rw [beq_iff_eq]; omega
    have g5 : (5 : Int) < (v.size : Int) := by omega
    have g6 : (6 : Int) < (v.size : Int) := by omega
    have g7 : (7 : Int) < (v.size : Int) := by omega
    have g5n : 5 < v.size := by omega
    have g6n : 6 < v.size := by omega
    have g7n : 7 < v.size := by omega
    have g55 : (5 : Int) ≤ (v.size : Int) := by omega
    have x1 : ((v.extract 0 5).toList == [72, 84, 84, 80, 47]) = true := by rw [toList_bs, c1]; rfl
    have x2 : ((v[6].toNat : Int) == 46) = true := by rw [beq_iff_eq]; omega
    have d3 : 48 ≤ v[5].toNat := c3
    have d4 : ¬ v[5].toNat ≤ 57 := c4
    have e4 : vSt (bs v) = 400 := hv
    clear c0 c1 c2 c3 c4 hv
    rw [e4]
    clear e4
    go_wp2_with fail
    go_ret
    exact ⟨rfl, HB3.out⟩
  · have e8 : ((v.size : Int) == 8) = true := by rw [beq_iff_eq]; omega
    have g5 : (5 : Int) < (v.size : Int) := by omega
    have g6 : (6 : Int) < (v.size : Int) := by omega
    have g7 : (7 : Int) < (v.size : Int) := by omega
    have g5n : 5 < v.size := by omega
    have g6n : 6 < v.size := by omega
    have g7n : 7 < v.size := by omega
    have g55 : (5 : Int) ≤ (v.size : Int) := by omega
    have x1 : ((v.extract 0 5).toList == [72, 84, 84, 80, 47]) = true := by rw [toList_bs, c1]; rfl
    have x2 : ((v[6].toNat : Int) == 46) = true := by rw [beq_iff_eq]; omega
    have d3 : 48 ≤ v[5].toNat := c3
    have d4 : v[5].toNat ≤ 57 := c4
    have d5 : ¬ 48 ≤ v[7].toNat := c5
    have e4 : vSt (bs v) = 400 := hv
    clear c0 c1 c2 c3 c4 c5 hv
    rw [e4]
    clear e4
    go_wp2_with fail
    go_ret
    exact ⟨rfl, HB3.out⟩
  · have e8 : ((v.size : Int) == 8) = true := by rw [beq_iff_eq]; omega
    have g5 : (5 : Int) < (v.size : Int) := by omega
    have g6 : (6 : Int) < (v.size : Int) := by omega
    have g7 : (7 : Int) < (v.size : Int) := by omega
    have g5n : 5 < v.size := by omega
    have g6n : 6 < v.size := by omega
    have g7n : 7 < v.size := by omega
    have g55 : (5 : Int) ≤ (v.size : Int) := by omega
    have x1 : ((v.extract 0 5).toList == [72, 84, 84, 80, 47]) = true := by rw [toList_bs, c1]; rfl
    have x2 : ((v[6].toNat : Int) == 46) = true := by rw [beq_iff_eq]; omega
    have d3 : 48 ≤ v[5].toNat := c3
    have d4 : v[5].toNat ≤ 57 := c4
    have d5 : 48 ≤ v[7].toNat := c5
    have d6 : ¬ v[7].toNat ≤ 57 := c6
    have e4 : vSt (bs v) = 400 := hv
    clear c0 c1 c2 c3 c4 c5 c6 hv
    rw [e4]
    clear e4
    go_wp2_with fail
    go_ret
    exact ⟨rfl, HB3.out⟩
  · have e8 : ((v.size : Int) == 8) = true := by rw [beq_iff_eq]; omega
    have g5 : (5 : Int) < (v.size : Int) := by omega
    have g6 : (6 : Int) < (v.size : Int) := by omega
    have g7 : (7 : Int) < (v.size : Int) := by omega
    have g5n : 5 < v.size := by omega
    have g6n : 6 < v.size := by omega
    have g7n : 7 < v.size := by omega
    have g55 : (5 : Int) ≤ (v.size : Int) := by omega
    have x1 : ((v.extract 0 5).toList == [72, 84, 84, 80, 47]) = true := by rw [toList_bs, c1]; rfl
    have x2 : ((v[6].toNat : Int) == 46) = true := by rw [beq_iff_eq]; omega
    have d3 : 48 ≤ v[5].toNat := c3
    have d4 : v[5].toNat ≤ 57 := c4
    have d5 : 48 ≤ v[7].toNat := c5
    have d6 : v[7].toNat ≤ 57 := c6
    clear c0 c1 c2 c3 c4 c5 c6
    generalize vSt (bs v) = st2 at *
    go_wp2_with fail
    go_ret
    exact ⟨rfl, HB3.out⟩

set_option maxRecDepth 100000 in
set_option maxHeartbeats 8000000 in
theorem versions_one_noughtB (a b : UInt8) (v : ByteArray) (w : World) (h20 : v.size ≤ 20) (ha3 : a.toNat = 49) (hb0 : b.toNat = 48) (hn : vMi (httpL ++ [a, 46, b]) = 0) (hs : vSt (httpL ++ [a, 46, b]) = 0) :
    Calls Try.prog 4 #[.int .u8 (a.toNat : Int), .int .u8 (b.toNat : Int), .string v] w (Yes3 w) := by
  have HL := Lib.hid (lives03_any w)
  have hr1 := reqIs_get ((⟨#[71, 69, 84, 32, 47, 32, 72, 84, 84, 80, 47]⟩ : ByteArray) ++ ⟨[a, 46, b].toArray⟩) (httpL ++ [a, 46, b]) (show 8 ≤ 100 by omega) (by
    show bs (mkS [71, 69, 84, 32, 47, 32, 72, 84, 84, 80, 47] ++ mkS [a, 46, b]) = _
    rw [mkS_append, bs_mkS]; rfl)
  rw [hn, hs] at hr1
  obtain ⟨M1, T1, hr1⟩ := hr1
  have hr2 := reqIs_get ((⟨#[71, 69, 84, 32, 47, 32]⟩ : ByteArray) ++ v) (bs v) (by rw [length_bs]; omega) (by
    have : v = mkS (bs v) := (mkS_bs v).symm
    show bs (mkS [71, 69, 84, 32, 47, 32] ++ v) = _
    conv => lhs; rw [this]
    rw [mkS_append, bs_mkS]; rfl)
  have HR1 := Lib.hid hr1
  have HR2 := Lib.hid hr2
  have HVT := Lib.hid (vtext v)
  unfold VText at HVT
  have ea49 : ((a.toNat : Int) == 49) = true := by rw [beq_iff_eq]; omega
  have ha : 48 ≤ a.toNat := by omega
  have ha2 : a.toNat ≤ 57 := by omega
  clear ha3
  have eb48 : ((b.toNat : Int) == 48) = true := by rw [beq_iff_eq]; omega
  have EB := Lib.hid (show (b.toNat : Int) = 48 by omega)
  have hb1 : 48 ≤ b.toNat := by omega
  have hb2 : b.toNat ≤ 57 := by omega
  clear hb0
  clear hr1 hr2 hn hs
  go_enter Try.func4, Try.ntmps4
  go_wp2_with fail
  refine HL.out.mono ?_
  rintro e w1 ⟨rfl, hb⟩
  have HB := Lib.hid (hb.alloc hb.size (Obj.cells #[.int .u8 (a.toNat : Int), .int .u8 46, .int .u8 (b.toNat : Int)] 5))
  clear hb
  have hback := run_convert_bytes_back (P := Try.prog) (w1.alloc (Obj.cells #[.int .u8 (a.toNat : Int), .int .u8 46, .int .u8 (b.toNat : Int)] 5)) 32 9 5 ⟨w1.heap.size, 0, none⟩ 3 [a, 46, b] Try.underlying32 Try.underlying5 Try.underlying9 (fun j hj => cells_newV w1 _ _ j _ (by
    match j, hj with
    | 0, _ | 1, _ | 2, _ => rfl))
  rw [show [a, 46, b].length = 3 from rfl] at hback
  go_wp2_with fail
  refine (HR1.out _).mono ?_
  rintro e w2 ⟨rfl, hb⟩
  have HB2 := Lib.hid (HB.out.trans (hb.mono HB.out.size))
  clear hb hback
  have eb := EB.out
  go_wp2_with fail
  obtain ⟨M2, T2, hr2⟩ := HR2.out
  have HR2b := Lib.hid hr2
  clear hr2
  refine (HR2b.out _).mono ?_
  rintro e w3 ⟨rfl, hb⟩
  have HB3 := Lib.hid (HB2.out.trans (hb.mono HB2.out.size))
  clear hb
  rcases HVT.out with ⟨c0, hv⟩ | ⟨c0, c1, hv⟩ | ⟨c0, c1, c2, hv⟩ | ⟨c0, c1, c2, c3, hv⟩ | ⟨c0, c1, c2, c3, c4, hv⟩ | ⟨c0, c1, c2, c3, c4, c5, hv⟩ | ⟨c0, c1, c2, c3, c4, c5, c6, hv⟩ | ⟨c0, c1, c2, c3, c4, c5, c6⟩
  · have e8 : ((v.size : Int) == 8) = false := by rw [beq_eq_false_iff_ne]; omega
    have e4 : vSt (bs v) = 400 := hv
    clear c0 hv
    rw [e4]
    clear e4
    go_wp2_with fail
    go_ret
    exact ⟨rfl, HB3.out⟩
  · have e8 : ((v.size : Int) == 8) = true := by rw [beq_iff_eq]; omega
    have g5 : (5 : Int) < (v.size : Int) := by omega
    have g6 : (6 : Int) < (v.size : Int) := by omega
    have g7 : (7 : Int) < (v.size : Int) := by omega
    have g5n : 5 < v.size := by omega
    have g6n : 6 < v.size := by omega
    have g7n : 7 < v.size := by omega
    have g55 : (5 : Int) ≤ (v.size : Int) := by omega
    have x1 : ((v.extract 0 5).toList == [72, 84, 84, 80, 47]) = false := by rw [toList_bs]; exact beq_eq_false_iff_ne.2 c1
    have e4 : vSt (bs v) = 400 := hv
    clear c0 c1 hv
    rw [e4]
    clear e4
    go_wp2_with fail
    go_ret
    exact ⟨rfl, HB3.out⟩
  · have e8 : ((v.size : Int) == 8) = true := by rw [beq_iff_eq]; omega
    have g5 : (5 : Int) < (v.size : Int) := by omega
    have g6 : (6 : Int) < (v.size : Int) := by omega
    have g7 : (7 : Int) < (v.size : Int) := by omega
    have g5n : 5 < v.size := by omega
    have g6n : 6 < v.size := by omega
    have g7n : 7 < v.size := by omega
    have g55 : (5 : Int) ≤ (v.size : Int) := by omega
    have x1 : ((v.extract 0 5).toList == [72, 84, 84, 80, 47]) = true := by rw [toList_bs, c1]; rfl
    have x2 : ((v[6].toNat : Int) == 46) = false := by rw [beq_eq_false_iff_ne]; omega
    have e4 : vSt (bs v) = 400 := hv
    clear c0 c1 c2 hv
    rw [e4]
    clear e4
    go_wp2_with fail
    go_ret
    exact ⟨rfl, HB3.out⟩
  · have e8 : ((v.size : Int) == 8) = true := by rw [beq_iff_eq]; omega
    have g5 : (5 : Int) < (v.size : Int) := by omega
    have g6 : (6 : Int) < (v.size : Int) := by omega
    have g7 : (7 : Int) < (v.size : Int) := by omega
    have g5n : 5 < v.size := by omega
    have g6n : 6 < v.size := by omega
    have g7n : 7 < v.size := by omega
    have g55 : (5 : Int) ≤ (v.size : Int) := by omega
    have x1 : ((v.extract 0 5).toList == [72, 84, 84, 80, 47]) = true := by rw [toList_bs, c1]; rfl
    have x2 : ((v[6].toNat : Int) == 46) = true := by rw [beq_iff_eq]; omega
    have d3 : ¬ 48 ≤ v[5].toNat := c3
    have e4 : vSt (bs v) = 400 := hv
    clear c0 c1 c2 c3 hv
    rw [e4]
    clear e4
    go_wp2_with fail
    go_ret
    exact ⟨rfl, HB3.out⟩
  · have e8 : ((v.size : Int) == 8) = true := by rw [beq_iff_eq]; omega
    have g5 : (5 : Int) < (v.size : Int) := by omega
    have g6 : (6 : Int) < (v.size : Int) := by omega
    have g7 : (7 : Int) < (v.size : Int) := by omega
    have g5n : 5 < v.size := by omega
    have g6n : 6 < v.size := by omega
    have g7n : 7 < v.size := by omega
    have g55 : (5 : Int) ≤ (v.size : Int) := by omega
    have x1 : ((v.extract 0 5).toList == [72, 84, 84, 80, 47]) = true := by rw [toList_bs, c1]; rfl
    have x2 : ((v[6].toNat : Int) == 46) = true := by rw [beq_iff_eq]; omega
    have d3 : 48 ≤ v[5].toNat := c3
    have d4 : ¬ v[5].toNat ≤ 57 := c4
    have e4 : vSt (bs v) = 400 := hv
    clear c0 c1 c2 c3 c4 hv
    rw [e4]
    clear e4
    go_wp2_with fail
    go_ret
    exact ⟨rfl, HB3.out⟩
  · have e8 : ((v.size : Int) == 8) = true := by rw [beq_iff_eq]; omega
    have g5 : (5 : Int) < (v.size : Int) := by omega
    have g6 : (6 : Int) < (v.size : Int) := by omega
    have g7 : (7 : Int) < (v.size : Int) := by omega
    have g5n : 5 < v.size := by omega
    have g6n : 6 < v.size := by omega
    have g7n : 7 < v.size := by omega
    have g55 : (5 : Int) ≤ (v.size : Int) := by omega
    have x1 : ((v.extract 0 5).toList == [72, 84, 84, 80, 47]) = true := by rw [toList_bs, c1]; rfl
    have x2 : ((v[6].toNat : Int) == 46) = true := by rw [beq_iff_eq]; omega
    have d3 : 48 ≤ v[5].toNat := c3
    have d4 : v[5].toNat ≤ 57 := c4
    have d5 : ¬ 48 ≤ v[7].toNat := c5
    have e4 : vSt (bs v) = 400 := hv
    clear c0 c1 c2 c3 c4 c5 hv
    rw [e4]
    clear e4
    go_wp2_with fail
    go_ret
    exact ⟨rfl, HB3.out⟩
  · have e8 : ((v.size : Int) == 8) = true := by rw [beq_iff_eq]; omega
    have g5 : (5 : Int) < (v.size : Int) := by omega
    have g6 : (6 : Int) < (v.size : Int) := by omega
    have g7 : (7 : Int) < (v.size : Int) := by omega
    have g5n : 5 < v.size := by omega
    have g6n : 6 < v.size := by omega
    have g7n : 7 < v.size := by omega
    have g55 : (5 : Int) ≤ (v.size : Int) := by omega
    have x1 : ((v.extract 0 5).toList == [72, 84, 84, 80, 47]) = true := by rw [toList_bs, c1]; rfl
    have x2 : ((v[6].toNat : Int) == 46) = true := by rw [beq_iff_eq]; omega
    have d3 : 48 ≤ v[5].toNat := c3
    have d4 : v[5].toNat ≤ 57 := c4
    have d5 : 48 ≤ v[7].toNat := c5
    have d6 : ¬ v[7].toNat ≤ 57 := c6
    have e4 : vSt (bs v) = 400 := hv
    clear c0 c1 c2 c3 c4 c5 c6 hv
    rw [e4]
    clear e4
    go_wp2_with fail
    go_ret
    exact ⟨rfl, HB3.out⟩
  · have e8 : ((v.size : Int) == 8) = true := by rw [beq_iff_eq]; omega
    have g5 : (5 : Int) < (v.size : Int) := by omega
    have g6 : (6 : Int) < (v.size : Int) := by omega
    have g7 : (7 : Int) < (v.size : Int) := by omega
    have g5n : 5 < v.size := by omega
    have g6n : 6 < v.size := by omega
    have g7n : 7 < v.size := by omega
    have g55 : (5 : Int) ≤ (v.size : Int) := by omega
    have x1 : ((v.extract 0 5).toList == [72, 84, 84, 80, 47]) = true := by rw [toList_bs, c1]; rfl
    have x2 : ((v[6].toNat : Int) == 46) = true := by rw [beq_iff_eq]; omega
    have d3 : 48 ≤ v[5].toNat := c3
    have d4 : v[5].toNat ≤ 57 := c4
    have d5 : 48 ≤ v[7].toNat := c5
    have d6 : v[7].toNat ≤ 57 := c6
    clear c0 c1 c2 c3 c4 c5 c6
    generalize vSt (bs v) = st2 at *
    go_wp2_with fail
    go_ret
    exact ⟨rfl, HB3.out⟩

set_option maxRecDepth 100000 in
set_option maxHeartbeats 8000000 in
theorem versions_one_oneB (a b : UInt8) (v : ByteArray) (w : World) (h20 : v.size ≤ 20) (ha3 : a.toNat = 49) (hb0 : b.toNat = 49) (hn : vMi (httpL ++ [a, 46, b]) = 1) (hs : vSt (httpL ++ [a, 46, b]) = 0) :
    Calls Try.prog 4 #[.int .u8 (a.toNat : Int), .int .u8 (b.toNat : Int), .string v] w (Yes3 w) := by
  have HL := Lib.hid (lives03_any w)
  have hr1 := reqIs_get ((⟨#[71, 69, 84, 32, 47, 32, 72, 84, 84, 80, 47]⟩ : ByteArray) ++ ⟨[a, 46, b].toArray⟩) (httpL ++ [a, 46, b]) (show 8 ≤ 100 by omega) (by
    show bs (mkS [71, 69, 84, 32, 47, 32, 72, 84, 84, 80, 47] ++ mkS [a, 46, b]) = _
    rw [mkS_append, bs_mkS]; rfl)
  rw [hn, hs] at hr1
  obtain ⟨M1, T1, hr1⟩ := hr1
  have hr2 := reqIs_get ((⟨#[71, 69, 84, 32, 47, 32]⟩ : ByteArray) ++ v) (bs v) (by rw [length_bs]; omega) (by
    have : v = mkS (bs v) := (mkS_bs v).symm
    show bs (mkS [71, 69, 84, 32, 47, 32] ++ v) = _
    conv => lhs; rw [this]
    rw [mkS_append, bs_mkS]; rfl)
  have HR1 := Lib.hid hr1
  have HR2 := Lib.hid hr2
  have HVT := Lib.hid (vtext v)
  unfold VText at HVT
  have ea49 : ((a.toNat : Int) == 49) = true := by rw [beq_iff_eq]; omega
  have ha : 48 ≤ a.toNat := by omega
  have ha2 : a.toNat ≤ 57 := by omega
  clear ha3
  have eb48 : ((b.toNat : Int) == 48) = false := by rw [beq_eq_false_iff_ne]; omega
  have eb49 : ((b.toNat : Int) == 49) = true := by rw [beq_iff_eq]; omega
  have EB := Lib.hid (show (b.toNat : Int) = 49 by omega)
  have hb1 : 48 ≤ b.toNat := by omega
  have hb2 : b.toNat ≤ 57 := by omega
  clear hb0
  clear hr1 hr2 hn hs
  go_enter Try.func4, Try.ntmps4
  go_wp2_with fail
  refine HL.out.mono ?_
  rintro e w1 ⟨rfl, hb⟩
  have HB := Lib.hid (hb.alloc hb.size (Obj.cells #[.int .u8 (a.toNat : Int), .int .u8 46, .int .u8 (b.toNat : Int)] 5))
  clear hb
  have hback := run_convert_bytes_back (P := Try.prog) (w1.alloc (Obj.cells #[.int .u8 (a.toNat : Int), .int .u8 46, .int .u8 (b.toNat : Int)] 5)) 32 9 5 ⟨w1.heap.size, 0, none⟩ 3 [a, 46, b] Try.underlying32 Try.underlying5 Try.underlying9 (fun j hj => cells_newV w1 _ _ j _ (by
    match j, hj with
    | 0, _ | 1, _ | 2, _ => rfl))
  rw [show [a, 46, b].length = 3 from rfl] at hback
  go_wp2_with fail
  refine (HR1.out _).mono ?_
  rintro e w2 ⟨rfl, hb⟩
  have HB2 := Lib.hid (HB.out.trans (hb.mono HB.out.size))
  clear hb hback
  have eb := EB.out
  go_wp2_with fail
  obtain ⟨M2, T2, hr2⟩ := HR2.out
  have HR2b := Lib.hid hr2
  clear hr2
  refine (HR2b.out _).mono ?_
  rintro e w3 ⟨rfl, hb⟩
  have HB3 := Lib.hid (HB2.out.trans (hb.mono HB2.out.size))
  clear hb
  rcases HVT.out with ⟨c0, hv⟩ | ⟨c0, c1, hv⟩ | ⟨c0, c1, c2, hv⟩ | ⟨c0, c1, c2, c3, hv⟩ | ⟨c0, c1, c2, c3, c4, hv⟩ | ⟨c0, c1, c2, c3, c4, c5, hv⟩ | ⟨c0, c1, c2, c3, c4, c5, c6, hv⟩ | ⟨c0, c1, c2, c3, c4, c5, c6⟩
  · have e8 : ((v.size : Int) == 8) = false := by rw [beq_eq_false_iff_ne]; omega
    have e4 : vSt (bs v) = 400 := hv
    clear c0 hv
    rw [e4]
    clear e4
    go_wp2_with fail
    go_ret
    exact ⟨rfl, HB3.out⟩
  · have e8 : ((v.size : Int) == 8) = true := by rw [beq_iff_eq]; omega
    have g5 : (5 : Int) < (v.size : Int) := by omega
    have g6 : (6 : Int) < (v.size : Int) := by omega
    have g7 : (7 : Int) < (v.size : Int) := by omega
    have g5n : 5 < v.size := by omega
    have g6n : 6 < v.size := by omega
    have g7n : 7 < v.size := by omega
    have g55 : (5 : Int) ≤ (v.size : Int) := by omega
    have x1 : ((v.extract 0 5).toList == [72, 84, 84, 80, 47]) = false := by rw [toList_bs]; exact beq_eq_false_iff_ne.2 c1
    have e4 : vSt (bs v) = 400 := hv
    clear c0 c1 hv
    rw [e4]
    clear e4
    go_wp2_with fail
    go_ret
    exact ⟨rfl, HB3.out⟩
  · have e8 : ((v.size : Int) == 8) = true := by rw [beq_iff_eq]; omega
    have g5 : (5 : Int) < (v.size : Int) := by omega
    have g6 : (6 : Int) < (v.size : Int) := by omega
    have g7 : (7 : Int) < (v.size : Int) := by omega
    have g5n : 5 < v.size := by omega
    have g6n : 6 < v.size := by omega
    have g7n : 7 < v.size := by omega
    have g55 : (5 : Int) ≤ (v.size : Int) := by omega
    have x1 : ((v.extract 0 5).toList == [72, 84, 84, 80, 47]) = true := by rw [toList_bs, c1]; rfl
    have x2 : ((v[6].toNat : Int) == 46) = false := by rw [beq_eq_false_iff_ne]; omega
    have e4 : vSt (bs v) = 400 := hv
    clear c0 c1 c2 hv
    rw [e4]
    clear e4
    go_wp2_with fail
    go_ret
    exact ⟨rfl, HB3.out⟩
  · have e8 : ((v.size : Int) == 8) = true := by rw [beq_iff_eq]; omega
    have g5 : (5 : Int) < (v.size : Int) := by omega
    have g6 : (6 : Int) < (v.size : Int) := by omega
    have g7 : (7 : Int) < (v.size : Int) := by omega
    have g5n : 5 < v.size := by omega
    have g6n : 6 < v.size := by omega
    have g7n : 7 < v.size := by omega
    have g55 : (5 : Int) ≤ (v.size : Int) := by omega
    have x1 : ((v.extract 0 5).toList == [72, 84, 84, 80, 47]) = true := by rw [toList_bs, c1]; rfl
    have x2 : ((v[6].toNat : Int) == 46) = true := by rw [beq_iff_eq]; omega
    have d3 : ¬ 48 ≤ v[5].toNat := c3
    have e4 : vSt (bs v) = 400 := hv
    clear c0 c1 c2 c3 hv
    rw [e4]
    clear e4
    go_wp2_with fail
    go_ret
    exact ⟨rfl, HB3.out⟩
  · have e8 : ((v.size : Int) == 8) = true := by rw [beq_iff_eq]; omega
    have g5 : (5 : Int) < (v.size : Int) := by omega
    have g6 : (6 : Int) < (v.size : Int) := by omega
    have g7 : (7 : Int) < (v.size : Int) := by omega
    have g5n : 5 < v.size := by omega
    have g6n : 6 < v.size := by omega
    have g7n : 7 < v.size := by omega
    have g55 : (5 : Int) ≤ (v.size : Int) := by omega
    have x1 : ((v.extract 0 5).toList == [72, 84, 84, 80, 47]) = true := by rw [toList_bs, c1]; rfl
    have x2 : ((v[6].toNat : Int) == 46) = true := by rw [beq_iff_eq]; omega
    have d3 : 48 ≤ v[5].toNat := c3
    have d4 : ¬ v[5].toNat ≤ 57 := c4
    have e4 : vSt (bs v) = 400 := hv
    clear c0 c1 c2 c3 c4 hv
    rw [e4]
    clear e4
    go_wp2_with fail
    go_ret
    exact ⟨rfl, HB3.out⟩
  · have e8 : ((v.size : Int) == 8) = true := by rw [beq_iff_eq]; omega
    have g5 : (5 : Int) < (v.size : Int) := by omega
    have g6 : (6 : Int) < (v.size : Int) := by omega
    have g7 : (7 : Int) < (v.size : Int) := by omega
    have g5n : 5 < v.size := by omega
    have g6n : 6 < v.size := by omega
    have g7n : 7 < v.size := by omega
    have g55 : (5 : Int) ≤ (v.size : Int) := by omega
    have x1 : ((v.extract 0 5).toList == [72, 84, 84, 80, 47]) = true := by rw [toList_bs, c1]; rfl
    have x2 : ((v[6].toNat : Int) == 46) = true := by rw [beq_iff_eq]; omega
    have d3 : 48 ≤ v[5].toNat := c3
    have d4 : v[5].toNat ≤ 57 := c4
    have d5 : ¬ 48 ≤ v[7].toNat := c5
    have e4 : vSt (bs v) = 400 := hv
    clear c0 c1 c2 c3 c4 c5 hv
    rw [e4]
    clear e4
    go_wp2_with fail
    go_ret
    exact ⟨rfl, HB3.out⟩
  · have e8 : ((v.size : Int) == 8) = true := by rw [beq_iff_eq]; omega
    have g5 : (5 : Int) < (v.size : Int) := by omega
    have g6 : (6 : Int) < (v.size : Int) := by omega
    have g7 : (7 : Int) < (v.size : Int) := by omega
    have g5n : 5 < v.size := by omega
    have g6n : 6 < v.size := by omega
    have g7n : 7 < v.size := by omega
    have g55 : (5 : Int) ≤ (v.size : Int) := by omega
    have x1 : ((v.extract 0 5).toList == [72, 84, 84, 80, 47]) = true := by rw [toList_bs, c1]; rfl
    have x2 : ((v[6].toNat : Int) == 46) = true := by rw [beq_iff_eq]; omega
    have d3 : 48 ≤ v[5].toNat := c3
    have d4 : v[5].toNat ≤ 57 := c4
    have d5 : 48 ≤ v[7].toNat := c5
    have d6 : ¬ v[7].toNat ≤ 57 := c6
    have e4 : vSt (bs v) = 400 := hv
    clear c0 c1 c2 c3 c4 c5 c6 hv
    rw [e4]
    clear e4
    go_wp2_with fail
    go_ret
    exact ⟨rfl, HB3.out⟩
  · have e8 : ((v.size : Int) == 8) = true := by rw [beq_iff_eq]; omega
    have g5 : (5 : Int) < (v.size : Int) := by omega
    have g6 : (6 : Int) < (v.size : Int) := by omega
    have g7 : (7 : Int) < (v.size : Int) := by omega
    have g5n : 5 < v.size := by omega
    have g6n : 6 < v.size := by omega
    have g7n : 7 < v.size := by omega
    have g55 : (5 : Int) ≤ (v.size : Int) := by omega
    have x1 : ((v.extract 0 5).toList == [72, 84, 84, 80, 47]) = true := by rw [toList_bs, c1]; rfl
    have x2 : ((v[6].toNat : Int) == 46) = true := by rw [beq_iff_eq]; omega
    have d3 : 48 ≤ v[5].toNat := c3
    have d4 : v[5].toNat ≤ 57 := c4
    have d5 : 48 ≤ v[7].toNat := c5
    have d6 : v[7].toNat ≤ 57 := c6
    clear c0 c1 c2 c3 c4 c5 c6
    generalize vSt (bs v) = st2 at *
    go_wp2_with fail
    go_ret
    exact ⟨rfl, HB3.out⟩

theorem dig_no (a : UInt8) (h : ¬ (48 ≤ a.toNat ∧ a.toNat ≤ 57)) : isDig a = false := by
  unfold isDig
  rw [Bool.eq_false_iff]
  intro e
  simp at e
  exact h e
theorem dig_yes (a : UInt8) (h : 48 ≤ a.toNat) (h2 : a.toNat ≤ 57) : isDig a = true := by unfold isDig; simp [h, h2]
theorem u8_eq (a : UInt8) (n : Nat) (hn : n < 256) (h : a.toNat = n) : a = UInt8.ofNat n := UInt8.toNat_inj.1 (by rw [h, UInt8.toNat_ofNat']; omega)

theorem versions_any (a b : UInt8) (v : ByteArray) (w : World) :
    Calls Try.prog 4 #[.int .u8 (a.toNat : Int), .int .u8 (b.toNat : Int), .string v] w (Yes3 w) := by
  by_cases h20 : v.size ≤ 20
  · by_cases a0 : 48 ≤ a.toNat
    · by_cases a1 : a.toNat ≤ 57
      · have da := dig_yes a a0 a1
        by_cases a2 : a.toNat = 49
        · by_cases b0 : 48 ≤ b.toNat
          · by_cases b1 : b.toNat ≤ 57
            · by_cases b2 : b.toNat = 48
              · have ea := u8_eq a 49 (by omega) a2
                have eb := u8_eq b 48 (by omega) b2
                refine versions_one_noughtB a b v w h20 a2 b2 ?_ ?_ <;> rw [ea, eb]
                · exact vKnown_10.2
                · exact vKnown_10.1
              · by_cases b3 : b.toNat = 49
                · have ea := u8_eq a 49 (by omega) a2
                  have eb := u8_eq b 49 (by omega) b3
                  refine versions_one_oneB a b v w h20 a2 b3 ?_ ?_ <;> rw [ea, eb]
                  · exact vKnown_11.2
                  · exact vKnown_11.1
                · have k : (decide (a = 49) && (decide (b = 48) || decide (b = 49))) = false := by
                    have n1 : b ≠ 48 := fun e => by subst e; exact b2 rfl
                    have n2 : b ≠ 49 := fun e => by subst e; exact b3 rfl
                    simp [n1, n2]
                  obtain ⟨q1, q2⟩ := ver_yes a b da (dig_yes b b0 b1) k
                  exact versions_one_digB a b v w h20 a2 b0 b1 b2 b3 q2 q1
            · obtain ⟨q1, q2⟩ := ver_no a b (.inr (dig_no b (fun h => b1 h.2)))
              exact versions_one_highB a b v w h20 a2 b0 b1 q2 q1
          · obtain ⟨q1, q2⟩ := ver_no a b (.inr (dig_no b (fun h => b0 h.1)))
            exact versions_one_lowB a b v w h20 a2 b0 q2 q1
        · by_cases b0 : 48 ≤ b.toNat
          · by_cases b1 : b.toNat ≤ 57
            · have k : (decide (a = 49) && (decide (b = 48) || decide (b = 49))) = false := by
                have n1 : a ≠ 49 := fun e => by subst e; exact a2 rfl
                simp [n1]
              obtain ⟨q1, q2⟩ := ver_yes a b da (dig_yes b b0 b1) k
              exact versions_dig_digB a b v w h20 a0 a1 a2 b0 b1 q2 q1
            · obtain ⟨q1, q2⟩ := ver_no a b (.inr (dig_no b (fun h => b1 h.2)))
              exact versions_dig_highB a b v w h20 a0 a1 a2 b0 b1 q2 q1
          · obtain ⟨q1, q2⟩ := ver_no a b (.inr (dig_no b (fun h => b0 h.1)))
            exact versions_dig_lowB a b v w h20 a0 a1 a2 b0 q2 q1
      · obtain ⟨q1, q2⟩ := ver_no a b (.inl (dig_no a (fun h => a1 h.2)))
        exact versions_highA a b v w h20 a0 a1 q2 q1
    · obtain ⟨q1, q2⟩ := ver_no a b (.inl (dig_no a (fun h => a0 h.1)))
      exact versions_lowA a b v w h20 a0 q2 q1
  · exact versions_big a b v w h20
end Tk
end Go.Proofs.Ytliinjibnikfgaa
