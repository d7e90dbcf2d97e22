/- EmB EmC EmK HopE LgT LgU SamK HopQ HopF HopG TenH RefL RSm RefA RefTr RefSp RefF RefD RefE RefSt RefH7, put together. -/
import Derived.Test.YtdlbmfgajgefdaaDoorQD
import Derived.Test.YtdlbmfgajgefdaaDoorQB
import Derived.Test.YtdlbmfgajgefdaaDoorQA
import Derived.Deep.MidRow
import Derived.Test.YtdlbmfgajgefdaaDoorQC
import Derived.BigQuiet
import Derived.Lib.AppendIntMem
import Derived.Lib.ItoaMem
import Derived.Lib.LaidTab
import Derived.ProofKit
namespace Go.Proofs.YtdlbmfgajgefdaaDoor
open Go.RowKit
namespace Tk

set_option maxHeartbeats 1000000 in
set_option maxRecDepth 100000 in
theorem wField_any (Bd b : Nat) (l : Bs) (n v : ByteArray) (w : World) (h : IsB Bd b l w) (hlen : l.length + n.size + v.size ≤ 1000000) (hBw : Bd ≤ w.heap.size) :
    Calls Tryd.prog 19 #[.pointer (some ⟨b, 0, none⟩), .string n, .string v] w fun e w' => e = .returned (.tuple #[]) ∧ IsB Bd b (l ++ bs n ++ [58, 32] ++ bs v ++ [13, 10]) w' ∧ Below Bd w w' := by
  have H1 := Lib.hid (writeString Bd b l n w h (by omega) hBw)
  have H2 := Lib.hid (fun (W : World) (hi : IsB Bd b (l ++ bs n) W) (hs : Bd ≤ W.heap.size) => writeString Bd b _ ⟨#[58, 32]⟩ W hi (by rw [List.length_append, length_bs]; show _ + 2 ≤ _; omega) hs)
  have H3 := Lib.hid (fun (W : World) (hi : IsB Bd b (l ++ bs n ++ [58, 32]) W) (hs : Bd ≤ W.heap.size) => writeString Bd b _ v W hi (by rw [List.length_append, List.length_append, length_bs]; show _ + 2 + _ ≤ _; omega) hs)
  have H4 := Lib.hid (fun (W : World) (hi : IsB Bd b (l ++ bs n ++ [58, 32] ++ bs v) W) (hs : Bd ≤ W.heap.size) => writeString Bd b _ ⟨#[13, 10]⟩ W hi (by rw [List.length_append, List.length_append, List.length_append, length_bs, length_bs]; show _ + 2 + _ + 2 ≤ _; omega) hs)
  clear h hlen
  go_enter Tryd.func19, Tryd.ntmps19
  go_wp2_with fail
  refine H1.out.mono ?_
  rintro e w1 ⟨rfl, hi1, hb1, -⟩
  have HB1 := Lib.hid hb1
  have HC1 := Lib.hid (H2.out w1 hi1 (Nat.le_trans hBw hb1.size))
  clear hi1 hb1
  go_wp2_with fail
  refine HC1.out.mono ?_
  rintro e w2 ⟨rfl, hi2, hb2, -⟩
  have HB2 := Lib.hid (HB1.out.trans hb2)
  have HC2 := Lib.hid (H3.out w2 hi2 (Nat.le_trans hBw HB2.out.size))
  clear hi2 hb2
  go_wp2_with fail
  refine HC2.out.mono ?_
  rintro e w3 ⟨rfl, hi3, hb3, -⟩
  have HB3 := Lib.hid (HB2.out.trans hb3)
  have HC3 := Lib.hid (H4.out w3 hi3 (Nat.le_trans hBw HB3.out.size))
  clear hi3 hb3
  go_wp2_with fail
  refine HC3.out.mono ?_
  rintro e w4 ⟨rfl, hi4, hb4, -⟩
  have HB4 := Lib.hid (HB3.out.trans hb4)
  have HI4 := Lib.hid hi4
  clear hi4 hb4
  go_wp2_with fail
  go_end0
  exact ⟨rfl, HI4.out, HB4.out⟩

set_option maxHeartbeats 1000000 in
set_option maxRecDepth 100000 in
theorem wContent_any (Bd b : Nat) (l : Bs) (c : ByteArray) (w : World) (h : IsB Bd b l w) (hlen : l.length + c.size ≤ 1000000) (hBw : Bd ≤ w.heap.size) :
    Calls Tryd.prog 15 #[.pointer (some ⟨b, 0, none⟩), .string c] w fun e w' => e = .returned (.tuple #[]) ∧ IsB Bd b (l ++ [13, 10] ++ bs c) w' ∧ Below Bd w w' := by
  have H1 := Lib.hid (writeString Bd b l ⟨#[13, 10]⟩ w h (by show _ + 2 ≤ _; omega) hBw)
  have H2 := Lib.hid (fun (W : World) (hi : IsB Bd b (l ++ [13, 10]) W) (hs : Bd ≤ W.heap.size) => writeString Bd b _ c W hi (by rw [List.length_append]; show _ + 2 + _ ≤ _; omega) hs)
  clear h hlen
  go_enter Tryd.func15, Tryd.ntmps15
  go_wp2_with fail
  refine H1.out.mono ?_
  rintro e w1 ⟨rfl, hi1, hb1, -⟩
  have HB1 := Lib.hid hb1
  have HC1 := Lib.hid (H2.out w1 hi1 (Nat.le_trans hBw hb1.size))
  clear hi1 hb1
  go_wp2_with fail
  refine HC1.out.mono ?_
  rintro e w2 ⟨rfl, hi2, hb2, -⟩
  have HB2 := Lib.hid (HB1.out.trans hb2)
  have HI2 := Lib.hid hi2
  clear hi2 hb2
  go_wp2_with fail
  go_end0
  exact ⟨rfl, HI2.out, HB2.out⟩

theorem digL_le (n : Nat) (h : n < 10 ^ 19) : (digL n).length ≤ 19 := by
  have key : ∀ (k n : Nat), n < 10 ^ (k + 1) → (digL n).length ≤ k + 1 := by
    intro k
    induction k with
    | zero => intro n h; rw [digL, dif_pos (by simpa using h)]; simp
    | succ k ih =>
      intro n h
      rw [digL]
      split
      · simp
      · have := ih (n / 10) (by rw [Nat.pow_succ] at h; omega)
        simp; omega
  exact key 18 n h

set_option maxHeartbeats 1000000 in
set_option maxRecDepth 100000 in
theorem wLength_any (Bd b : Nat) (l : Bs) (c : ByteArray) (w : World) (hT : Tens w) (h : IsB Bd b l w) (hlen : l.length ≤ 900000) (hc : c.size ≤ 1000000) (hBw : Bd ≤ w.heap.size) :
    Calls Tryd.prog 14 #[.pointer (some ⟨b, 0, none⟩), .string c] w fun e w' => e = .returned (.tuple #[]) ∧ IsB Bd b (l ++ lnL c.size) w' ∧ Below Bd w w' := by
  have hd := digL_le c.size (by omega)
  have HI := Lib.hid (itoa_any c.size w hT (by omega))
  have HW := Lib.hid (fun (W : World) (hb : Below w.heap.size w W) => wField_any Bd b l ⟨#[67, 111, 110, 116, 101, 110, 116, 45, 76, 101, 110, 103, 116, 104]⟩ (mkS (digL c.size)) W (isB_below h hb) (by rw [size_mkS]; show _ + 14 + _ ≤ _; omega) (Nat.le_trans hBw hb.size))
  have HE : Hid (l ++ bs ⟨#[67, 111, 110, 116, 101, 110, 116, 45, 76, 101, 110, 103, 116, 104]⟩ ++ [58, 32] ++ bs (mkS (digL c.size)) ++ [13, 10] = l ++ lnL c.size) := by
    show _ = _
    rw [bs_mkS]
    unfold lnL
    simp only [List.append_assoc]
    rfl
  rw [HE.out] at HW
  have hk : c.size ≤ 9223372036854775807 := by omega
  clear hT h hlen hd
  generalize lnL c.size = L at *
  generalize mkS (digL c.size) = D at *
  go_enter Tryd.func14, Tryd.ntmps14
  go_wp2_with fail
  refine HI.out.mono ?_
  rintro e w1 ⟨rfl, hb1⟩
  have HB1 := Lib.hid (hb1.mono hBw)
  have HC1 := Lib.hid (HW.out w1 hb1)
  clear hb1
  go_wp2_with fail
  refine HC1.out.mono ?_
  rintro e w2 ⟨rfl, hi2, hb2⟩
  have HB2 := Lib.hid (HB1.out.trans hb2)
  have HI2 := Lib.hid hi2
  clear hi2 hb2
  go_wp2_with fail
  go_end0
  exact ⟨rfl, HI2.out, HB2.out⟩

/-- what a builder has behind writeHead -/
def hdW (M T : Bs) (s : Int) (R : Bs) (mi : Int) (l tl : List (Bs × Bs)) : Bs := if hdE M T s R mi l tl = 0 then hdS M T s R mi l else []
theorem byE_two (l : List (Bs × Bs)) : (okFs l = true ∧ byE l = 0 ∧ byN l = linesF l) ∨ (okFs l = false ∧ byE l = 4) := by
  unfold byE byN
  cases h : okFs l
  · exact .inr ⟨rfl, rfl⟩
  · exact .inl ⟨rfl, rfl, rfl⟩
theorem hd_bad {M T : Bs} {s : Int} {R : Bs} {mi : Int} {l tl : List (Bs × Bs)} (h : ¬ (flE M T s R mi = 0 ∧ okFs l = true ∧ okFs tl = true)) : hdE M T s R mi l tl = 4 ∧ hdW M T s R mi l tl = [] := by
  have e : hdE M T s R mi l tl = 4 := by unfold hdE; rw [if_neg h]
  exact ⟨e, by unfold hdW; rw [e]; rfl⟩
theorem hd_end {M T : Bs} {s : Int} {R : Bs} {mi : Int} {l tl : List (Bs × Bs)} (h : flE M T s R mi = 0 ∧ okFs l = true ∧ okFs tl = true) (h2 : endB l = true) : hdE M T s R mi l tl = 6 ∧ hdW M T s R mi l tl = [] := by
  have e : hdE M T s R mi l tl = 6 := by unfold hdE; rw [if_pos h, if_pos h2]
  exact ⟨e, by unfold hdW; rw [e]; rfl⟩
theorem hd_ok {M T : Bs} {s : Int} {R : Bs} {mi : Int} {l tl : List (Bs × Bs)} (h : flE M T s R mi = 0 ∧ okFs l = true ∧ okFs tl = true) (h2 : endB l = false) : hdE M T s R mi l tl = 0 ∧ hdW M T s R mi l tl = hdS M T s R mi l := by
  have e : hdE M T s R mi l tl = 0 := by unfold hdE; rw [if_pos h, if_neg (by simp [h2])]
  exact ⟨e, by unfold hdW; rw [e]; rfl⟩
def HdPost (Bd b : Nat) (E : Int) (S : Bs) (w : World) (e : Ending) (w' : World) : Prop := e = .returned (.int .i64 E) ∧ IsB Bd b S w' ∧ Below Bd w w'

set_option maxHeartbeats 8000000 in
set_option maxRecDepth 100000 in
theorem writeHead_core (Bd b : Nat) (M T : ByteArray) (s : Int) (R : ByteArray) (mi : Int) (vf : Value) (B : ByteArray) (vt : Value) (l tl : List (Bs × Bs)) (X : Bs) (E E1 E2 : Int) (Y Z : Bs) (q : Bool) (w : World) (h : IsB Bd b [] w) (hBw : Bd ≤ w.heap.size)
    (hvf : ∃ a c, vf = .slice a l.length c) (hvt : ∃ a c, vt = .slice a tl.length c)
    (HF : Hid (∀ W, Below w.heap.size w W → Calls Tryd.prog 21 #[.agg (msgC M T s R mi vf B vt)] W fun e w' => e = .returned (.tuple #[.string (mkS X), .int .i64 E]) ∧ Below W.heap.size W w'))
    (HY : Hid (∀ W, Below w.heap.size w W → Calls Tryd.prog 22 #[vf] W fun e w' => e = .returned (.tuple #[.string (mkS Y), .int .i64 E1]) ∧ Below W.heap.size W w'))
    (HZ : Hid (∀ W, Below w.heap.size w W → Calls Tryd.prog 22 #[vt] W fun e w' => e = .returned (.tuple #[.string (mkS Z), .int .i64 E2]) ∧ Below W.heap.size W w'))
    (HG : Hid (∀ W, Below w.heap.size w W → Calls Tryd.prog 23 #[vf] W fun e w' => e = .returned (.bool q) ∧ Below W.heap.size W w'))
    (hX : X.length ≤ 100000) (hY : Y.length ≤ 100000) (G : Int) (S : Bs)
    (hc : (E = 4 ∧ G = 4 ∧ S = []) ∨ (E = 0 ∧ E1 = 4 ∧ G = 4 ∧ S = []) ∨ (E = 0 ∧ E1 = 0 ∧ E2 = 4 ∧ G = 4 ∧ S = []) ∨ (E = 0 ∧ E1 = 0 ∧ E2 = 0 ∧ q = true ∧ G = 6 ∧ S = []) ∨ (E = 0 ∧ E1 = 0 ∧ E2 = 0 ∧ q = false ∧ G = 0 ∧ S = X ++ [13, 10] ++ Y)) :
    Calls Tryd.prog 11 #[.pointer (some ⟨b, 0, none⟩), .agg (msgC M T s R mi vf B vt)] w (HdPost Bd b G S w) := by
  have HX0 := Lib.hid (Box.new w 27 (msgC M T s R mi vf B vt))
  have HB0 := Lib.hid (below_alloc w (.cells (msgC M T s R mi vf B vt) 27))
  have HI := Lib.hid (fun (W : World) (hb : Below w.heap.size w W) => isB_below h hb)
  have c0 := HX0.out.cell 0 _ rfl
  have c1 := HX0.out.cell 1 _ rfl
  have c2 := HX0.out.cell 2 _ rfl
  have c3 := HX0.out.cell 3 _ rfl
  have c4 := HX0.out.cell 4 _ rfl
  have c5 := HX0.out.cell 5 _ rfl
  have c6 := HX0.out.cell 6 _ rfl
  have c7 := HX0.out.cell 7 _ rfl
  obtain ⟨a1, k1, rfl⟩ := hvf
  obtain ⟨a2, k2, rfl⟩ := hvt
  have HSz := Lib.hid (And.intro hX hY)
  clear h hX hY
  unfold HdPost
  unfold msgC at *
  rcases hc with ⟨rfl, rfl, rfl⟩ | ⟨rfl, rfl, rfl, rfl⟩ | ⟨rfl, rfl, rfl, rfl, rfl⟩ | ⟨rfl, rfl, rfl, rfl, rfl, rfl⟩ | ⟨rfl, rfl, rfl, rfl, rfl, rfl⟩
  all_goals
    go_enter Tryd.func11, Tryd.ntmps11
    go_wp2_with fail
    refine (HF.out _ HB0.out).mono ?_
    rintro e w1 ⟨rfl, hb⟩
    have HX1 := Lib.hid (HX0.out.later hb)
    have HB1 := Lib.hid (HB0.out.trans (hb.mono HB0.out.size))
    clear hb c0 c1 c2 c3 c4 c5 c6 c7
    have c5 := HX1.out.cell 5 _ rfl
    go_wp2_with fail
    refine (HY.out _ HB1.out).mono ?_
    rintro e w2 ⟨rfl, hb⟩
    have HX2 := Lib.hid (HX1.out.later hb)
    have HB2 := Lib.hid (HB1.out.trans (hb.mono HB1.out.size))
    clear hb c5
    have c7 := HX2.out.cell 7 _ rfl
    go_wp2_with fail
    refine (HZ.out _ HB2.out).mono ?_
    rintro e w3 ⟨rfl, hb⟩
    have HX3 := Lib.hid (HX2.out.later hb)
    have HB3 := Lib.hid (HB2.out.trans (hb.mono HB2.out.size))
    clear hb c7
    have c5 := HX3.out.cell 5 _ rfl
    go_wp2_with fail
  · go_ret
    exact ⟨rfl, HI.out _ HB3.out, HB3.out.mono hBw⟩
  · go_ret
    exact ⟨rfl, HI.out _ HB3.out, HB3.out.mono hBw⟩
  · go_ret
    exact ⟨rfl, HI.out _ HB3.out, HB3.out.mono hBw⟩
  · refine (HG.out _ HB3.out).mono ?_
    rintro e w4 ⟨rfl, hb⟩
    have HB4 := Lib.hid (HB3.out.trans (hb.mono HB3.out.size))
    clear hb
    go_wp2_with fail
    go_ret
    exact ⟨rfl, HI.out _ HB4.out, HB4.out.mono hBw⟩
  · refine (HG.out _ HB3.out).mono ?_
    rintro e w4 ⟨rfl, hb⟩
    have HB4 := Lib.hid (HB3.out.trans (hb.mono HB3.out.size))
    clear hb
    have H1 := Lib.hid (writeString Bd b [] (mkS X) w4 (HI.out _ HB4.out) (by rw [size_mkS]; have := HSz.out; simp; omega) (Nat.le_trans hBw HB4.out.size))
    go_wp2_with fail
    refine H1.out.mono ?_
    rintro e w5 ⟨rfl, hi, hb, -⟩
    have HB5 := Lib.hid ((HB4.out.mono hBw).trans hb)
    rw [bs_mkS, List.nil_append] at hi
    have H2 := Lib.hid (writeString Bd b _ ⟨#[13, 10]⟩ w5 hi (by show _ + 2 ≤ _; have := HSz.out; omega) (Nat.le_trans hBw HB5.out.size))
    clear hi hb
    go_wp2_with fail
    refine H2.out.mono ?_
    rintro e w6 ⟨rfl, hi, hb, -⟩
    have HB6 := Lib.hid (HB5.out.trans hb)
    have H3 := Lib.hid (writeString Bd b _ (mkS Y) w6 hi (by rw [size_mkS, List.length_append]; show _ + 2 + _ ≤ _; have := HSz.out; omega) (Nat.le_trans hBw HB6.out.size))
    clear hi hb
    go_wp2_with fail
    refine H3.out.mono ?_
    rintro e w7 ⟨rfl, hi, hb, -⟩
    have HB7 := Lib.hid (HB6.out.trans hb)
    rw [bs_mkS] at hi
    have HI7 := Lib.hid hi
    clear hi hb
    go_wp2_with fail
    go_ret
    exact ⟨rfl, HI7.out, HB7.out⟩

theorem flS_len (M T : Bs) (s : Int) (R : Bs) (mi : Int) (h : M.length + T.length + R.length ≤ 90000) : (flS M T s R mi).length ≤ 100000 := by
  unfold flS slS rlS
  split
  · split
    · split
      · unfold staLine vText
        have : (digL s.toNat).length ≤ 4 := by
          rename_i hb
          have h2 : 100 ≤ s ∧ s ≤ 599 := by
            unfold slB sInI at hb
            simp only [Bool.and_eq_true, decide_eq_true_eq] at hb
            exact hb.2.1
          rw [digL_three _ (by omega) (by omega)]; simp
        simp; omega
      · simp
    · simp
  · split
    · split
      · unfold reqLine vText
        simp; omega
      · simp
    · simp

theorem writeHead_any (Bd b : Nat) (M T : ByteArray) (s : Int) (R : ByteArray) (mi : Int) (vf : Value) (B : ByteArray) (vt : Value) (l tl : List (Bs × Bs)) (w : World) (h : IsB Bd b [] w) (hBw : Bd ≤ w.heap.size) (hTn : Tens w)
    (hs : IsFlds w vf l) (ht : IsFlds w vt tl) (hz : sumF l ≤ 90000) (hl : l.length ≤ 1048576) (hzt : sumF tl ≤ 90000) (hlt : tl.length ≤ 1048576) (hM : M.size + T.size + R.size ≤ 90000) :
    Calls Tryd.prog 11 #[.pointer (some ⟨b, 0, none⟩), .agg (msgC M T s R mi vf B vt)] w (HdPost Bd b (hdE (bs M) (bs T) s (bs R) mi l tl) (hdW (bs M) (bs T) s (bs R) mi l tl) w) := by
  have hX := flS_len (bs M) (bs T) s (bs R) mi (by rw [length_bs, length_bs, length_bs]; exact hM)
  have hll := lines_len l
  have hY : (byN l).length ≤ 100000 := by unfold byN; split; omega; simp
  refine writeHead_core Bd b M T s R mi vf B vt l tl (flS (bs M) (bs T) s (bs R) mi) (flE (bs M) (bs T) s (bs R) mi) (byE l) (byE tl) (byN l) (byN tl) (endB l) w h hBw
    (by obtain ⟨a, c, h, -⟩ := hs; exact ⟨a, c, h⟩) (by obtain ⟨a, c, h, -⟩ := ht; exact ⟨a, c, h⟩)
    (Lib.hid fun W hb => firstLine_any M T s R mi vf B vt W (hTn.later hb) (by omega) (by omega) (by omega)) (Lib.hid fun W hb => bytes_any vf l W (isFlds_below hs hb) (by omega) (by omega)) (Lib.hid fun W hb => bytes_any vt tl W (isFlds_below ht hb) (by omega) (by omega))
    (Lib.hid fun W hb => framed_any vf l W (isFlds_below hs hb) (by omega) hl) hX hY _ _ ?_
  rcases flE_two (bs M) (bs T) s (bs R) mi with h0 | ⟨h0, -⟩
  · rcases byE_two l with ⟨k1, k2, k3⟩ | ⟨k1, k2⟩
    · rcases byE_two tl with ⟨j1, j2, j3⟩ | ⟨j1, j2⟩
      · cases hq : endB l
        · have := hd_ok ⟨h0, k1, j1⟩ hq
          exact .inr (.inr (.inr (.inr ⟨h0, k2, j2, rfl, this.1, by rw [this.2, k3]; rfl⟩)))
        · have := hd_end ⟨h0, k1, j1⟩ hq
          exact .inr (.inr (.inr (.inl ⟨h0, k2, j2, rfl, this.1, this.2⟩)))
      · have := hd_bad (M := bs M) (T := bs T) (s := s) (R := bs R) (mi := mi) (l := l) (tl := tl) (fun hh => by rw [j1] at hh; exact absurd hh.2.2 (by simp))
        exact .inr (.inr (.inl ⟨h0, k2, j2, this.1, this.2⟩))
    · have := hd_bad (M := bs M) (T := bs T) (s := s) (R := bs R) (mi := mi) (l := l) (tl := tl) (fun hh => by rw [k1] at hh; exact absurd hh.2.1 (by simp))
      exact .inr (.inl ⟨h0, k2, this.1, this.2⟩)
  · have := hd_bad (M := bs M) (T := bs T) (s := s) (R := bs R) (mi := mi) (l := l) (tl := tl) (fun hh => by omega)
    exact .inl ⟨h0, this.1, this.2⟩
end Tk
end Go.Proofs.YtdlbmfgajgefdaaDoor
namespace Go.Proofs.YtdlbmfgajgefdaaDoor
open Go.RowKit
namespace Tk

theorem Box.under {w w' : World} {g n : Nat} {T : TypeId} {cs : Array Value} (h : Box w g T cs) (hb : Below n w w') (hg : g < n) : Box w' g T cs := (hb.block g hg).trans h

/-- what stands when a message's bytes are begun -/
theorem begun8 (M T : ByteArray) (s : Int) (R : ByteArray) (mi : Int) (vf : Value) (B : ByteArray) (vt : Value) (w : World) :
    Box ((w.alloc (.cells (msgC M T s R mi vf B vt) 27)).alloc (.cells #[.pointer none, .slice none 0 0] 39)) w.heap.size 27 (msgC M T s R mi vf B vt) ∧ IsB (w.heap.size + 1) (w.heap.size + 1) [] ((w.alloc (.cells (msgC M T s R mi vf B vt) 27)).alloc (.cells #[.pointer none, .slice none 0 0] 39)) ∧ Below w.heap.size w ((w.alloc (.cells (msgC M T s R mi vf B vt) 27)).alloc (.cells #[.pointer none, .slice none 0 0] 39)) ∧ w.heap.size + 1 ≤ ((w.alloc (.cells (msgC M T s R mi vf B vt) 27)).alloc (.cells #[.pointer none, .slice none 0 0] 39)).heap.size := by
  have hs1 : (w.alloc (.cells (msgC M T s R mi vf B vt) 27)).heap.size = w.heap.size + 1 := by simp
  have hX := Box.new w 27 (msgC M T s R mi vf B vt)
  have hB0 := below_alloc w (.cells (msgC M T s R mi vf B vt) 27)
  have hI := Lib.fresh_isBuilder 39 5 (w.alloc (.cells (msgC M T s R mi vf B vt) 27))
  rw [hs1] at hI
  refine ⟨hX.later (below_alloc _ _), hI, hB0.alloc hB0.size _, by simp⟩

theorem head8_any (M T : ByteArray) (s : Int) (R : ByteArray) (mi : Int) (vf : Value) (B : ByteArray) (vt : Value) (l tl : List (Bs × Bs)) (w : World) (hTn : Tens w)
    (hs : IsFlds w vf l) (ht : IsFlds w vt tl) (hz : sumF l ≤ 90000) (hl : l.length ≤ 1048576) (hzt : sumF tl ≤ 90000) (hlt : tl.length ≤ 1048576) (hM : M.size + T.size + R.size ≤ 90000) :
    Calls Tryd.prog 11 #[.pointer (some ⟨w.heap.size + 1, 0, none⟩), .agg (msgC M T s R mi vf B vt)] ((w.alloc (.cells (msgC M T s R mi vf B vt) 27)).alloc (.cells #[.pointer none, .slice none 0 0] 39)) (HdPost (w.heap.size + 1) (w.heap.size + 1) (hdE (bs M) (bs T) s (bs R) mi l tl) (hdW (bs M) (bs T) s (bs R) mi l tl) ((w.alloc (.cells (msgC M T s R mi vf B vt) 27)).alloc (.cells #[.pointer none, .slice none 0 0] 39))) := by
  obtain ⟨h1, h2, h3, h4⟩ := begun8 M T s R mi vf B vt w
  exact writeHead_any _ _ M T s R mi vf B vt l tl ((w.alloc (.cells (msgC M T s R mi vf B vt) 27)).alloc (.cells #[.pointer none, .slice none 0 0] 39)) h2 h4 (hTn.later h3) (isFlds_below hs h3) (isFlds_below ht h3) hz hl hzt hlt hM

theorem hdW_len (M T : Bs) (s : Int) (R : Bs) (mi : Int) (l tl : List (Bs × Bs)) (h : M.length + T.length + R.length ≤ 90000) (hz : sumF l ≤ 90000) : (hdW M T s R mi l tl).length ≤ 200000 := by
  have h1 := flS_len M T s R mi h
  have h2 := lines_len l
  unfold hdW hdS
  split
  · rw [List.length_append, List.length_append]; simp only [List.length_cons, List.length_nil]; omega
  · simp

theorem lnL_len (n : Nat) (h : n ≤ 1000000) : (lnL n).length ≤ 40 := by
  have := digL_le n (by omega)
  unfold lnL
  rw [List.length_append, List.length_append, List.length_append]
  show 14 + 2 + _ + 2 ≤ 40
  omega
/-- bytes, an error -/
def TxPost (S : Bs) (E : Int) (w : World) (e : Ending) (w' : World) : Prop := e = .returned (.tuple #[.string (mkS S), .int .i64 E]) ∧ Below w.heap.size w w'

set_option maxHeartbeats 4000000 in
set_option maxRecDepth 100000 in
theorem check8_any (M T : ByteArray) (s : Int) (R : ByteArray) (mi : Int) (vf : Value) (B : ByteArray) (vt : Value) (l tl : List (Bs × Bs)) (w : World) (hTn : Tens w)
    (hs : IsFlds w vf l) (ht : IsFlds w vt tl) (hz : sumF l ≤ 90000) (hl : l.length ≤ 1048576) (hzt : sumF tl ≤ 90000) (hlt : tl.length ≤ 1048576) (hM : M.size + T.size + R.size ≤ 90000) :
    Calls Tryd.prog 9 #[.agg (msgC M T s R mi vf B vt)] w fun e w' => e = .returned (.int .i64 (hdE (bs M) (bs T) s (bs R) mi l tl)) ∧ Below w.heap.size w w' := by
  obtain ⟨h1, h2, h3, h4⟩ := begun8 M T s R mi vf B vt w
  have HH := Lib.hid (head8_any M T s R mi vf B vt l tl w hTn hs ht hz hl hzt hlt hM)
  have HB := Lib.hid h3
  have c0 := h1.cell 0 _ rfl
  have c1 := h1.cell 1 _ rfl
  have c2 := h1.cell 2 _ rfl
  have c3 := h1.cell 3 _ rfl
  have c4 := h1.cell 4 _ rfl
  have c5 := h1.cell 5 _ rfl
  have c6 := h1.cell 6 _ rfl
  have c7 := h1.cell 7 _ rfl
  obtain ⟨a1, k1, rfl⟩ : ∃ a cap, vf = .slice a l.length cap := by obtain ⟨a, c, h, -⟩ := hs; exact ⟨a, c, h⟩
  obtain ⟨a2, k2, rfl⟩ : ∃ a cap, vt = .slice a tl.length cap := by obtain ⟨a, c, h, -⟩ := ht; exact ⟨a, c, h⟩
  unfold HdPost at HH
  generalize hdE (bs M) (bs T) s (bs R) mi l tl = G at *
  generalize hdW (bs M) (bs T) s (bs R) mi l tl = S at *
  clear h1 h2 h3 h4 hTn hs ht hz hl hzt hlt hM
  unfold msgC at *
  go_enter Tryd.func9, Tryd.ntmps9
  go_wp2_with fail
  refine HH.out.mono ?_
  rintro e w1 ⟨rfl, hi, hb⟩
  have HB1 := Lib.hid (HB.out.trans (hb.mono (Nat.le_succ _)))
  clear hi hb
  go_wp2_with fail
  go_ret
  exact ⟨rfl, HB1.out⟩

set_option maxHeartbeats 16000000 in
set_option maxRecDepth 100000 in
theorem request8_core (M T : ByteArray) (s : Int) (R : ByteArray) (mi : Int) (vf : Value) (B : ByteArray) (vt : Value) (G : Int) (H : Bs) (w : World) (hTn : Tens w) (HH : Hid (Calls Tryd.prog 11 #[.pointer (some ⟨w.heap.size + 1, 0, none⟩), .agg (msgC M T s R mi vf B vt)] ((w.alloc (.cells (msgC M T s R mi vf B vt) 27)).alloc (.cells #[.pointer none, .slice none 0 0] 39)) (HdPost (w.heap.size + 1) (w.heap.size + 1) G H ((w.alloc (.cells (msgC M T s R mi vf B vt) 27)).alloc (.cells #[.pointer none, .slice none 0 0] 39)))))
    (hH : H.length ≤ 200000) (hBz : B.size ≤ 100000) (hvf : ∃ a n c, vf = .slice a n c) (hvt : ∃ a n c, vt = .slice a n c) (hG : G = 0 ∨ G = 4 ∨ G = 6) :
    Calls Tryd.prog 5 #[.agg (msgC M T s R mi vf B vt)] w (TxPost (rqS (bs M) G H (bs B)) (rqE (bs M) G) w) := by
  obtain ⟨h1, h2, h3, h4⟩ := begun8 M T s R mi vf B vt w
  have HX := Lib.hid h1
  have HB := Lib.hid h3
  have HSz := Lib.hid h4
  have HQ := Lib.hid (fun W : World => isReq_any M T s R mi vf B vt W)
  have HC := Lib.hid (fun W : World => hasC_any M W)
  have HT := Lib.hid (fun (W : World) (hb : Below w.heap.size w W) => hTn.later hb)
  have HZ := Lib.hid (And.intro hH hBz)
  have c0 := h1.cell 0 _ rfl
  have c1 := h1.cell 1 _ rfl
  have c2 := h1.cell 2 _ rfl
  have c3 := h1.cell 3 _ rfl
  have c4 := h1.cell 4 _ rfl
  have c5 := h1.cell 5 _ rfl
  have c6 := h1.cell 6 _ rfl
  have c7 := h1.cell 7 _ rfl
  unfold HdPost at HH
  unfold TxPost
  have hltX : w.heap.size < w.heap.size + 1 := Nat.lt_succ_self _
  clear h1 h2 h3 h4
  unfold msgC at *
  obtain ⟨a1, n1, k1, rfl⟩ := hvf
  obtain ⟨a2, n2, k2, rfl⟩ := hvt
  clear hTn hH hBz
  have hcs : (∃ g : Int, G = g ∧ (g = 4 ∨ g = 6)) ∨ (G = 0 ∧ bs M = []) ∨ (G = 0 ∧ bs M ≠ [] ∧ bs B ≠ []) ∨ (G = 0 ∧ bs M ≠ [] ∧ bs B = [] ∧ hasC (bs M) = true) ∨ (G = 0 ∧ bs M ≠ [] ∧ bs B = [] ∧ hasC (bs M) = false) := by
    rcases hG with h | h | h
    · by_cases hm : bs M = []
      · exact .inr (.inl ⟨h, hm⟩)
      · by_cases hb : bs B = []
        · cases hh : hasC (bs M)
          · exact .inr (.inr (.inr (.inr ⟨h, hm, hb, rfl⟩)))
          · exact .inr (.inr (.inr (.inl ⟨h, hm, hb, rfl⟩)))
        · exact .inr (.inr (.inl ⟨h, hm, hb⟩))
    · exact .inl ⟨4, h, .inl rfl⟩
    · exact .inl ⟨6, h, .inr rfl⟩
  clear hG
  rcases hcs with ⟨g, rfl, hg⟩ | ⟨rfl, hm⟩ | ⟨rfl, hm, hb⟩ | ⟨rfl, hm, hb, hh⟩ | ⟨rfl, hm, hb, hh⟩
  · have hR : rqS (bs M) G H (bs B) = [] ∧ rqE (bs M) G = G := by
      rcases hg with rfl | rfl <;> exact ⟨rfl, rfl⟩
    have hne : (G != 0) = true := by rcases hg with rfl | rfl <;> rfl
    rw [hR.1, hR.2]
    clear hg hR
    go_enter Tryd.func5, Tryd.ntmps5
    go_wp2_with fail
    refine HH.out.mono ?_
    rintro e w1 ⟨rfl, hi, hb⟩
    have HX1 := Lib.hid (HX.out.under hb hltX)
    have HI1 := Lib.hid hi
    have HB1 := Lib.hid (HB.out.trans (hb.mono (Nat.le_succ _)))
    have HS1 := Lib.hid (Nat.le_trans HSz.out hb.size)
    clear hi hb c0 c1 c2 c3 c4 c5 c6 c7
    go_wp2_with fail
    go_ret2
    exact ⟨rfl, HB1.out⟩
  · have hR : rqS (bs M) 0 H (bs B) = [] ∧ rqE (bs M) 0 = 4 := by unfold rqS rqE; simp [hm]
    rw [hR.1, hR.2]
    rw [decide_eq_true hm] at HQ
    clear hm hR
    go_enter Tryd.func5, Tryd.ntmps5
    go_wp2_with fail
    refine HH.out.mono ?_
    rintro e w1 ⟨rfl, hi, hb⟩
    have HX1 := Lib.hid (HX.out.under hb hltX)
    have HI1 := Lib.hid hi
    have HB1 := Lib.hid (HB.out.trans (hb.mono (Nat.le_succ _)))
    have HS1 := Lib.hid (Nat.le_trans HSz.out hb.size)
    clear hi hb c0 c1 c2 c3 c4 c5 c6 c7
    have c0 := HX1.out.cell 0 _ rfl
    have c1 := HX1.out.cell 1 _ rfl
    have c2 := HX1.out.cell 2 _ rfl
    have c3 := HX1.out.cell 3 _ rfl
    have c4 := HX1.out.cell 4 _ rfl
    have c5 := HX1.out.cell 5 _ rfl
    have c6 := HX1.out.cell 6 _ rfl
    have c7 := HX1.out.cell 7 _ rfl
    go_wp2_with fail
    refine (HQ.out _).mono ?_
    rintro e w2 ⟨rfl, hb⟩
    have HX2 := Lib.hid (HX1.out.later hb)
    have HI2 := Lib.hid (isB_below HI1.out hb)
    have HB2 := Lib.hid (HB1.out.trans (hb.mono HB1.out.size))
    have HS2 := Lib.hid (Nat.le_trans HS1.out hb.size)
    clear hb c0 c1 c2 c3 c4 c5 c6 c7
    go_wp2_with fail
    go_ret2
    exact ⟨rfl, HB2.out⟩
  · have hR : rqS (bs M) 0 H (bs B) = H ++ lnL B.size ++ [13, 10] ++ bs B ∧ rqE (bs M) 0 = 0 := by unfold rqS rqE; rw [if_neg hm]; simp [hb, length_bs]
    rw [hR.1, hR.2]
    rw [decide_eq_false hm] at HQ
    have he := isE_no hb
    have HLn := Lib.hid (lnL_len B.size (by have := HZ.out; omega))
    clear hm hR hb
    go_enter Tryd.func5, Tryd.ntmps5
    go_wp2_with fail
    refine HH.out.mono ?_
    rintro e w1 ⟨rfl, hi, hb⟩
    have HX1 := Lib.hid (HX.out.under hb hltX)
    have HI1 := Lib.hid hi
    have HB1 := Lib.hid (HB.out.trans (hb.mono (Nat.le_succ _)))
    have HS1 := Lib.hid (Nat.le_trans HSz.out hb.size)
    clear hi hb c0 c1 c2 c3 c4 c5 c6 c7
    have c0 := HX1.out.cell 0 _ rfl
    have c1 := HX1.out.cell 1 _ rfl
    have c2 := HX1.out.cell 2 _ rfl
    have c3 := HX1.out.cell 3 _ rfl
    have c4 := HX1.out.cell 4 _ rfl
    have c5 := HX1.out.cell 5 _ rfl
    have c6 := HX1.out.cell 6 _ rfl
    have c7 := HX1.out.cell 7 _ rfl
    go_wp2_with fail
    refine (HQ.out _).mono ?_
    rintro e w2 ⟨rfl, hb⟩
    have HX2 := Lib.hid (HX1.out.later hb)
    have HI2 := Lib.hid (isB_below HI1.out hb)
    have HB2 := Lib.hid (HB1.out.trans (hb.mono HB1.out.size))
    have HS2 := Lib.hid (Nat.le_trans HS1.out hb.size)
    clear hb c0 c1 c2 c3 c4 c5 c6 c7
    have c6 := HX2.out.cell 6 _ rfl
    have c0 := HX2.out.cell 0 _ rfl
    have HK3 := Lib.hid (wLength_any _ _ _ B w2 (HT.out _ HB2.out) HI2.out (by have := HZ.out; omega) (by have := HZ.out; omega) HS2.out)
    go_wp2_with fail
    refine HK3.out.mono ?_
    rintro e w3 ⟨rfl, hi, hb⟩
    have HX3 := Lib.hid (HX2.out.under hb hltX)
    have HI3 := Lib.hid hi
    have HB3 := Lib.hid (HB2.out.trans (hb.mono (Nat.le_succ _)))
    have HS3 := Lib.hid (Nat.le_trans HS2.out hb.size)
    clear hi hb
    clear c6 c0
    have c6 := HX3.out.cell 6 _ rfl
    have HK4 := Lib.hid (wContent_any _ _ _ B w3 HI3.out (by rw [List.length_append]; have := HZ.out; have := HLn.out; omega) HS3.out)
    go_wp2_with fail
    refine HK4.out.mono ?_
    rintro e w4 ⟨rfl, hi, hb⟩
    have HX4 := Lib.hid (HX3.out.under hb hltX)
    have HI4 := Lib.hid hi
    have HB4 := Lib.hid (HB3.out.trans (hb.mono (Nat.le_succ _)))
    have HS4 := Lib.hid (Nat.le_trans HS3.out hb.size)
    clear hi hb
    clear c6
    have HF := Lib.hid (Tryd.Builder_String_any _ _ _ w4 HI4.out HS4.out)
    go_wp2_with fail
    refine HF.out.mono ?_
    rintro e wf ⟨rfl, hb⟩
    have HBf := Lib.hid (HB4.out.trans (hb.mono (Nat.le_succ _)))
    clear hb
    go_wp2_with fail
    go_ret2
    exact ⟨by simp only [List.append_assoc, List.cons_append, List.nil_append]; rfl, HBf.out⟩
  · have hR : rqS (bs M) 0 H (bs B) = H ++ lnL B.size ++ [13, 10] ++ bs B ∧ rqE (bs M) 0 = 0 := by unfold rqS rqE; rw [if_neg hm]; simp [hb, hh, ← length_bs]
    rw [hR.1, hR.2]
    rw [decide_eq_false hm] at HQ
    rw [hh] at HC
    have he := (bs_nil_iff B).1 hb
    subst he
    have HLn := Lib.hid (lnL_len (ByteArray.mk #[]).size (by decide))
    clear hm hR hb hh
    go_enter Tryd.func5, Tryd.ntmps5
    go_wp2_with fail
    refine HH.out.mono ?_
    rintro e w1 ⟨rfl, hi, hb⟩
    have HX1 := Lib.hid (HX.out.under hb hltX)
    have HI1 := Lib.hid hi
    have HB1 := Lib.hid (HB.out.trans (hb.mono (Nat.le_succ _)))
    have HS1 := Lib.hid (Nat.le_trans HSz.out hb.size)
    clear hi hb c0 c1 c2 c3 c4 c5 c6 c7
    have c0 := HX1.out.cell 0 _ rfl
    have c1 := HX1.out.cell 1 _ rfl
    have c2 := HX1.out.cell 2 _ rfl
    have c3 := HX1.out.cell 3 _ rfl
    have c4 := HX1.out.cell 4 _ rfl
    have c5 := HX1.out.cell 5 _ rfl
    have c6 := HX1.out.cell 6 _ rfl
    have c7 := HX1.out.cell 7 _ rfl
    go_wp2_with fail
    refine (HQ.out _).mono ?_
    rintro e w2 ⟨rfl, hb⟩
    have HX2 := Lib.hid (HX1.out.later hb)
    have HI2 := Lib.hid (isB_below HI1.out hb)
    have HB2 := Lib.hid (HB1.out.trans (hb.mono HB1.out.size))
    have HS2 := Lib.hid (Nat.le_trans HS1.out hb.size)
    clear hb c0 c1 c2 c3 c4 c5 c6 c7
    have c6 := HX2.out.cell 6 _ rfl
    have c0 := HX2.out.cell 0 _ rfl
    go_wp2_with fail
    refine (HC.out _).mono ?_
    rintro e w3 ⟨rfl, hb⟩
    have HX3 := Lib.hid (HX2.out.later hb)
    have HI3 := Lib.hid (isB_below HI2.out hb)
    have HB3 := Lib.hid (HB2.out.trans (hb.mono HB2.out.size))
    have HS3 := Lib.hid (Nat.le_trans HS2.out hb.size)
    clear hb c6 c0
    have c6 := HX3.out.cell 6 _ rfl
    have HK4 := Lib.hid (wLength_any _ _ _ ⟨#[]⟩ w3 (HT.out _ HB3.out) HI3.out (by have := HZ.out; omega) (by decide) HS3.out)
    go_wp2_with fail
    refine HK4.out.mono ?_
    rintro e w4 ⟨rfl, hi, hb⟩
    have HX4 := Lib.hid (HX3.out.under hb hltX)
    have HI4 := Lib.hid hi
    have HB4 := Lib.hid (HB3.out.trans (hb.mono (Nat.le_succ _)))
    have HS4 := Lib.hid (Nat.le_trans HS3.out hb.size)
    clear hi hb
    clear c6
    have c6 := HX4.out.cell 6 _ rfl
    have HK5 := Lib.hid (wContent_any _ _ _ ⟨#[]⟩ w4 HI4.out (by rw [List.length_append]; have := HZ.out; have := HLn.out; show _ + 0 ≤ _; omega) HS4.out)
    go_wp2_with fail
    refine HK5.out.mono ?_
    rintro e w5 ⟨rfl, hi, hb⟩
    have HX5 := Lib.hid (HX4.out.under hb hltX)
    have HI5 := Lib.hid hi
    have HB5 := Lib.hid (HB4.out.trans (hb.mono (Nat.le_succ _)))
    have HS5 := Lib.hid (Nat.le_trans HS4.out hb.size)
    clear hi hb
    clear c6
    have HF := Lib.hid (Tryd.Builder_String_any _ _ _ w5 HI5.out HS5.out)
    go_wp2_with fail
    refine HF.out.mono ?_
    rintro e wf ⟨rfl, hb⟩
    have HBf := Lib.hid (HB5.out.trans (hb.mono (Nat.le_succ _)))
    clear hb
    go_wp2_with fail
    go_ret2
    exact ⟨by simp only [List.append_assoc, List.cons_append, List.nil_append]; rfl, HBf.out⟩
  · have hR : rqS (bs M) 0 H (bs B) = H ++ [13, 10] ++ bs B ∧ rqE (bs M) 0 = 0 := by unfold rqS rqE; rw [if_neg hm]; simp [hb, hh]
    rw [hR.1, hR.2]
    rw [decide_eq_false hm] at HQ
    rw [hh] at HC
    have he := (bs_nil_iff B).1 hb
    subst he
    clear hm hR hb hh
    go_enter Tryd.func5, Tryd.ntmps5
    go_wp2_with fail
    refine HH.out.mono ?_
    rintro e w1 ⟨rfl, hi, hb⟩
    have HX1 := Lib.hid (HX.out.under hb hltX)
    have HI1 := Lib.hid hi
    have HB1 := Lib.hid (HB.out.trans (hb.mono (Nat.le_succ _)))
    have HS1 := Lib.hid (Nat.le_trans HSz.out hb.size)
    clear hi hb c0 c1 c2 c3 c4 c5 c6 c7
    have c0 := HX1.out.cell 0 _ rfl
    have c1 := HX1.out.cell 1 _ rfl
    have c2 := HX1.out.cell 2 _ rfl
    have c3 := HX1.out.cell 3 _ rfl
    have c4 := HX1.out.cell 4 _ rfl
    have c5 := HX1.out.cell 5 _ rfl
    have c6 := HX1.out.cell 6 _ rfl
    have c7 := HX1.out.cell 7 _ rfl
    go_wp2_with fail
    refine (HQ.out _).mono ?_
    rintro e w2 ⟨rfl, hb⟩
    have HX2 := Lib.hid (HX1.out.later hb)
    have HI2 := Lib.hid (isB_below HI1.out hb)
    have HB2 := Lib.hid (HB1.out.trans (hb.mono HB1.out.size))
    have HS2 := Lib.hid (Nat.le_trans HS1.out hb.size)
    clear hb c0 c1 c2 c3 c4 c5 c6 c7
    have c6 := HX2.out.cell 6 _ rfl
    have c0 := HX2.out.cell 0 _ rfl
    go_wp2_with fail
    refine (HC.out _).mono ?_
    rintro e w3 ⟨rfl, hb⟩
    have HX3 := Lib.hid (HX2.out.later hb)
    have HI3 := Lib.hid (isB_below HI2.out hb)
    have HB3 := Lib.hid (HB2.out.trans (hb.mono HB2.out.size))
    have HS3 := Lib.hid (Nat.le_trans HS2.out hb.size)
    clear hb c6 c0
    have c6 := HX3.out.cell 6 _ rfl
    have HK4 := Lib.hid (wContent_any _ _ _ ⟨#[]⟩ w3 HI3.out (by have := HZ.out; show _ + 0 ≤ _; omega) HS3.out)
    go_wp2_with fail
    refine HK4.out.mono ?_
    rintro e w4 ⟨rfl, hi, hb⟩
    have HX4 := Lib.hid (HX3.out.under hb hltX)
    have HI4 := Lib.hid hi
    have HB4 := Lib.hid (HB3.out.trans (hb.mono (Nat.le_succ _)))
    have HS4 := Lib.hid (Nat.le_trans HS3.out hb.size)
    clear hi hb
    clear c6
    have HF := Lib.hid (Tryd.Builder_String_any _ _ _ w4 HI4.out HS4.out)
    go_wp2_with fail
    refine HF.out.mono ?_
    rintro e wf ⟨rfl, hb⟩
    have HBf := Lib.hid (HB4.out.trans (hb.mono (Nat.le_succ _)))
    clear hb
    go_wp2_with fail
    go_ret2
    exact ⟨by simp only [List.append_assoc, List.cons_append, List.nil_append]; rfl, HBf.out⟩

theorem request8_any (M T : ByteArray) (s : Int) (R : ByteArray) (mi : Int) (vf : Value) (B : ByteArray) (vt : Value) (l tl : List (Bs × Bs)) (w : World) (hTn : Tens w)
    (hs : IsFlds w vf l) (ht : IsFlds w vt tl) (hz : sumF l ≤ 90000) (hl : l.length ≤ 1048576) (hzt : sumF tl ≤ 90000) (hlt : tl.length ≤ 1048576) (hM : M.size + T.size + R.size ≤ 90000) (hBz : B.size ≤ 100000) :
    Calls Tryd.prog 5 #[.agg (msgC M T s R mi vf B vt)] w (TxPost (rqS (bs M) (hdE (bs M) (bs T) s (bs R) mi l tl) (hdW (bs M) (bs T) s (bs R) mi l tl) (bs B)) (rqE (bs M) (hdE (bs M) (bs T) s (bs R) mi l tl)) w) :=
  request8_core M T s R mi vf B vt _ _ w hTn (Lib.hid (head8_any M T s R mi vf B vt l tl w hTn hs ht hz hl hzt hlt hM)) (hdW_len _ _ _ _ _ _ _ (by rw [length_bs, length_bs, length_bs]; exact hM) hz) hBz
    (by obtain ⟨a, c, h, -⟩ := hs; exact ⟨a, _, c, h⟩) (by obtain ⟨a, c, h, -⟩ := ht; exact ⟨a, _, c, h⟩) (hdE_three _ _ _ _ _ _ _)

set_option maxHeartbeats 16000000 in
set_option maxRecDepth 100000 in
theorem response8_core (M T : ByteArray) (s : Int) (R : ByteArray) (mi : Int) (vf : Value) (B : ByteArray) (vt : Value) (N : ByteArray) (G : Int) (H : Bs) (w : World) (hTn : Tens w) (HH : Hid (Calls Tryd.prog 11 #[.pointer (some ⟨w.heap.size + 1, 0, none⟩), .agg (msgC M T s R mi vf B vt)] ((w.alloc (.cells (msgC M T s R mi vf B vt) 27)).alloc (.cells #[.pointer none, .slice none 0 0] 39)) (HdPost (w.heap.size + 1) (w.heap.size + 1) G H ((w.alloc (.cells (msgC M T s R mi vf B vt) 27)).alloc (.cells #[.pointer none, .slice none 0 0] 39)))))
    (hH : H.length ≤ 200000) (hBz : B.size ≤ 100000) (hvf : ∃ a n c, vf = .slice a n c) (hvt : ∃ a n c, vt = .slice a n c) (hG : G = 0 ∨ G = 4 ∨ G = 6) :
    Calls Tryd.prog 6 #[.agg (msgC M T s R mi vf B vt), .string N] w (TxPost (anS (bs M) G H (bs B) s (bs N)) (anE (bs M) G) w) := by
  obtain ⟨h1, h2, h3, h4⟩ := begun8 M T s R mi vf B vt w
  have HX := Lib.hid h1
  have HB := Lib.hid h3
  have HSz := Lib.hid h4
  have HQ := Lib.hid (fun W : World => isReq_any M T s R mi vf B vt W)
  have HC := Lib.hid (fun W : World => bare8_any s W)
  have HT := Lib.hid (fun (W : World) (hb : Below w.heap.size w W) => hTn.later hb)
  have HZ := Lib.hid (And.intro hH hBz)
  have c0 := h1.cell 0 _ rfl
  have c1 := h1.cell 1 _ rfl
  have c2 := h1.cell 2 _ rfl
  have c3 := h1.cell 3 _ rfl
  have c4 := h1.cell 4 _ rfl
  have c5 := h1.cell 5 _ rfl
  have c6 := h1.cell 6 _ rfl
  have c7 := h1.cell 7 _ rfl
  unfold HdPost at HH
  unfold TxPost
  have hltX : w.heap.size < w.heap.size + 1 := Nat.lt_succ_self _
  clear h1 h2 h3 h4
  unfold msgC at *
  obtain ⟨a1, n1, k1, rfl⟩ := hvf
  obtain ⟨a2, n2, k2, rfl⟩ := hvt
  clear hTn hH hBz
  have hcs : (G = 4 ∨ G = 6) ∨ (G = 0 ∧ bs M ≠ []) ∨ (G = 0 ∧ bs M = [] ∧ bareB [] s = true) ∨ (G = 0 ∧ bs M = [] ∧ bareB [] s = false ∧ bs N = heB ∧ bs B ≠ []) ∨ (G = 0 ∧ bs M = [] ∧ bareB [] s = false ∧ bs N = heB ∧ bs B = []) ∨ (G = 0 ∧ bs M = [] ∧ bareB [] s = false ∧ bs N ≠ heB) := by
    rcases hG with h | h | h
    · by_cases hm : bs M = []
      · cases hh : bareB [] s
        · by_cases hn : bs N = heB
          · by_cases hb : bs B = []
            · exact .inr (.inr (.inr (.inr (.inl ⟨h, hm, rfl, hn, hb⟩))))
            · exact .inr (.inr (.inr (.inl ⟨h, hm, rfl, hn, hb⟩)))
          · exact .inr (.inr (.inr (.inr (.inr ⟨h, hm, rfl, hn⟩))))
        · exact .inr (.inr (.inl ⟨h, hm, rfl⟩))
      · exact .inr (.inl ⟨h, hm⟩)
    · exact .inl (.inl h)
    · exact .inl (.inr h)
  clear hG
  rcases hcs with hg | ⟨rfl, hm⟩ | ⟨rfl, hm, hh⟩ | ⟨rfl, hm, hh, hn, hb⟩ | ⟨rfl, hm, hh, hn, hb⟩ | ⟨rfl, hm, hh, hn⟩
  · have hR : anS (bs M) G H (bs B) s (bs N) = [] ∧ anE (bs M) G = G := by
      rcases hg with rfl | rfl <;> exact ⟨rfl, rfl⟩
    have hne : (G != 0) = true := by rcases hg with rfl | rfl <;> rfl
    rw [hR.1, hR.2]
    clear hg hR
    go_enter Tryd.func6, Tryd.ntmps6
    go_wp2_with fail
    refine HH.out.mono ?_
    rintro e w1 ⟨rfl, hi, hb⟩
    have HX1 := Lib.hid (HX.out.under hb hltX)
    have HI1 := Lib.hid hi
    have HB1 := Lib.hid (HB.out.trans (hb.mono (Nat.le_succ _)))
    have HS1 := Lib.hid (Nat.le_trans HSz.out hb.size)
    clear hi hb c0 c1 c2 c3 c4 c5 c6 c7
    go_wp2_with fail
    go_ret2
    exact ⟨rfl, HB1.out⟩
  · have hR : anS (bs M) 0 H (bs B) s (bs N) = [] ∧ anE (bs M) 0 = 4 := by unfold anS anE; simp [hm]
    rw [hR.1, hR.2]
    rw [decide_eq_false hm] at HQ
    clear hm hR
    go_enter Tryd.func6, Tryd.ntmps6
    go_wp2_with fail
    refine HH.out.mono ?_
    rintro e w1 ⟨rfl, hi, hb⟩
    have HX1 := Lib.hid (HX.out.under hb hltX)
    have HI1 := Lib.hid hi
    have HB1 := Lib.hid (HB.out.trans (hb.mono (Nat.le_succ _)))
    have HS1 := Lib.hid (Nat.le_trans HSz.out hb.size)
    clear hi hb c0 c1 c2 c3 c4 c5 c6 c7
    have c0 := HX1.out.cell 0 _ rfl
    have c1 := HX1.out.cell 1 _ rfl
    have c2 := HX1.out.cell 2 _ rfl
    have c3 := HX1.out.cell 3 _ rfl
    have c4 := HX1.out.cell 4 _ rfl
    have c5 := HX1.out.cell 5 _ rfl
    have c6 := HX1.out.cell 6 _ rfl
    have c7 := HX1.out.cell 7 _ rfl
    go_wp2_with fail
    refine (HQ.out _).mono ?_
    rintro e w2 ⟨rfl, hb⟩
    have HX2 := Lib.hid (HX1.out.later hb)
    have HI2 := Lib.hid (isB_below HI1.out hb)
    have HB2 := Lib.hid (HB1.out.trans (hb.mono HB1.out.size))
    have HS2 := Lib.hid (Nat.le_trans HS1.out hb.size)
    clear hb c0 c1 c2 c3 c4 c5 c6 c7
    go_wp2_with fail
    go_ret2
    exact ⟨rfl, HB2.out⟩
  · have hR : anS (bs M) 0 H (bs B) s (bs N) = H ++ [13, 10] ++ bs ⟨#[]⟩ ∧ anE (bs M) 0 = 0 := by
      unfold anS anE; rw [if_pos rfl, if_pos hm, if_pos rfl, if_pos hh, if_pos (.inl hh)]
      exact ⟨by simp [show bs ⟨#[]⟩ = [] from rfl], rfl⟩
    rw [hR.1, hR.2]
    rw [decide_eq_true hm] at HQ
    rw [hh] at HC
    clear hm hR hh
    go_enter Tryd.func6, Tryd.ntmps6
    go_wp2_with fail
    refine HH.out.mono ?_
    rintro e w1 ⟨rfl, hi, hb⟩
    have HX1 := Lib.hid (HX.out.under hb hltX)
    have HI1 := Lib.hid hi
    have HB1 := Lib.hid (HB.out.trans (hb.mono (Nat.le_succ _)))
    have HS1 := Lib.hid (Nat.le_trans HSz.out hb.size)
    clear hi hb c0 c1 c2 c3 c4 c5 c6 c7
    have c0 := HX1.out.cell 0 _ rfl
    have c1 := HX1.out.cell 1 _ rfl
    have c2 := HX1.out.cell 2 _ rfl
    have c3 := HX1.out.cell 3 _ rfl
    have c4 := HX1.out.cell 4 _ rfl
    have c5 := HX1.out.cell 5 _ rfl
    have c6 := HX1.out.cell 6 _ rfl
    have c7 := HX1.out.cell 7 _ rfl
    go_wp2_with fail
    refine (HQ.out _).mono ?_
    rintro e w2 ⟨rfl, hb⟩
    have HX2 := Lib.hid (HX1.out.later hb)
    have HI2 := Lib.hid (isB_below HI1.out hb)
    have HB2 := Lib.hid (HB1.out.trans (hb.mono HB1.out.size))
    have HS2 := Lib.hid (Nat.le_trans HS1.out hb.size)
    clear hb c0 c1 c2 c3 c4 c5 c6 c7
    have c2 := HX2.out.cell 2 _ rfl
    go_wp2_with fail
    refine (HC.out _).mono ?_
    rintro e w3 ⟨rfl, rfl⟩
    have HK4 := Lib.hid (wContent_any _ _ _ ⟨#[]⟩ w2 HI2.out (by have := HZ.out; show _ + 0 ≤ _; omega) HS2.out)
    go_wp2_with fail
    refine HK4.out.mono ?_
    rintro e w4 ⟨rfl, hi, hb⟩
    have HX4 := Lib.hid (HX2.out.under hb hltX)
    have HI4 := Lib.hid hi
    have HB4 := Lib.hid (HB2.out.trans (hb.mono (Nat.le_succ _)))
    have HS4 := Lib.hid (Nat.le_trans HS2.out hb.size)
    clear hi hb
    clear c2
    have HF := Lib.hid (Tryd.Builder_String_any _ _ _ w4 HI4.out HS4.out)
    go_wp2_with fail
    refine HF.out.mono ?_
    rintro e wf ⟨rfl, hb⟩
    have HBf := Lib.hid (HB4.out.trans (hb.mono (Nat.le_succ _)))
    clear hb
    go_wp2_with fail
    go_ret2
    exact ⟨by simp only [List.append_assoc, List.cons_append, List.nil_append]; rfl, HBf.out⟩
  · have hR : anS (bs M) 0 H (bs B) s (bs N) = H ++ lnL B.size ++ [13, 10] ++ bs ⟨#[]⟩ ∧ anE (bs M) 0 = 0 := by
      unfold anS anE; rw [if_pos rfl, if_pos hm, if_pos rfl, if_neg (by simp [hh]), if_neg (fun h => hb h.2), if_pos (.inr hn), length_bs]
      exact ⟨rfl, rfl⟩
    rw [hR.1, hR.2]
    rw [decide_eq_true hm] at HQ
    rw [hh] at HC
    have he := isE_no hb
    have HLn := Lib.hid (lnL_len B.size (by have := HZ.out; omega))
    have hne : (N.toList == [72, 69, 65, 68]) = true := by rw [toList_bs, hn]; rfl
    clear hm hR hh hb hn
    go_enter Tryd.func6, Tryd.ntmps6
    go_wp2_with fail
    refine HH.out.mono ?_
    rintro e w1 ⟨rfl, hi, hb⟩
    have HX1 := Lib.hid (HX.out.under hb hltX)
    have HI1 := Lib.hid hi
    have HB1 := Lib.hid (HB.out.trans (hb.mono (Nat.le_succ _)))
    have HS1 := Lib.hid (Nat.le_trans HSz.out hb.size)
    clear hi hb c0 c1 c2 c3 c4 c5 c6 c7
    have c0 := HX1.out.cell 0 _ rfl
    have c1 := HX1.out.cell 1 _ rfl
    have c2 := HX1.out.cell 2 _ rfl
    have c3 := HX1.out.cell 3 _ rfl
    have c4 := HX1.out.cell 4 _ rfl
    have c5 := HX1.out.cell 5 _ rfl
    have c6 := HX1.out.cell 6 _ rfl
    have c7 := HX1.out.cell 7 _ rfl
    go_wp2_with fail
    refine (HQ.out _).mono ?_
    rintro e w2 ⟨rfl, hb⟩
    have HX2 := Lib.hid (HX1.out.later hb)
    have HI2 := Lib.hid (isB_below HI1.out hb)
    have HB2 := Lib.hid (HB1.out.trans (hb.mono HB1.out.size))
    have HS2 := Lib.hid (Nat.le_trans HS1.out hb.size)
    clear hb c0 c1 c2 c3 c4 c5 c6 c7
    have c2 := HX2.out.cell 2 _ rfl
    have c6 := HX2.out.cell 6 _ rfl
    go_wp2_with fail
    refine (HC.out _).mono ?_
    rintro e w3 ⟨rfl, rfl⟩
    have HK4 := Lib.hid (wLength_any _ _ _ B w2 (HT.out _ HB2.out) HI2.out (by have := HZ.out; omega) (by have := HZ.out; omega) HS2.out)
    go_wp2_with fail
    refine HK4.out.mono ?_
    rintro e w4 ⟨rfl, hi, hb⟩
    have HX4 := Lib.hid (HX2.out.under hb hltX)
    have HI4 := Lib.hid hi
    have HB4 := Lib.hid (HB2.out.trans (hb.mono (Nat.le_succ _)))
    have HS4 := Lib.hid (Nat.le_trans HS2.out hb.size)
    clear hi hb
    clear c2 c6
    have HK5 := Lib.hid (wContent_any _ _ _ ⟨#[]⟩ w4 HI4.out (by rw [List.length_append]; have := HZ.out; have := HLn.out; show _ + 0 ≤ _; omega) HS4.out)
    go_wp2_with fail
    refine HK5.out.mono ?_
    rintro e w5 ⟨rfl, hi, hb⟩
    have HX5 := Lib.hid (HX4.out.under hb hltX)
    have HI5 := Lib.hid hi
    have HB5 := Lib.hid (HB4.out.trans (hb.mono (Nat.le_succ _)))
    have HS5 := Lib.hid (Nat.le_trans HS4.out hb.size)
    clear hi hb
    have HF := Lib.hid (Tryd.Builder_String_any _ _ _ w5 HI5.out HS5.out)
    go_wp2_with fail
    refine HF.out.mono ?_
    rintro e wf ⟨rfl, hb⟩
    have HBf := Lib.hid (HB5.out.trans (hb.mono (Nat.le_succ _)))
    clear hb
    go_wp2_with fail
    go_ret2
    exact ⟨by simp only [List.append_assoc, List.cons_append, List.nil_append]; rfl, HBf.out⟩
  · have hR : anS (bs M) 0 H (bs B) s (bs N) = H ++ [13, 10] ++ bs ⟨#[]⟩ ∧ anE (bs M) 0 = 0 := by
      unfold anS anE; rw [if_pos rfl, if_pos hm, if_pos rfl, if_neg (by simp [hh]), if_pos ⟨hn, hb⟩, if_pos (.inr hn)]
      exact ⟨by simp [show bs ⟨#[]⟩ = [] from rfl], rfl⟩
    rw [hR.1, hR.2]
    rw [decide_eq_true hm] at HQ
    rw [hh] at HC
    have he := (bs_nil_iff B).1 hb
    subst he
    have hne : (N.toList == [72, 69, 65, 68]) = true := by rw [toList_bs, hn]; rfl
    clear hm hR hh hb hn
    go_enter Tryd.func6, Tryd.ntmps6
    go_wp2_with fail
    refine HH.out.mono ?_
    rintro e w1 ⟨rfl, hi, hb⟩
    have HX1 := Lib.hid (HX.out.under hb hltX)
    have HI1 := Lib.hid hi
    have HB1 := Lib.hid (HB.out.trans (hb.mono (Nat.le_succ _)))
    have HS1 := Lib.hid (Nat.le_trans HSz.out hb.size)
    clear hi hb c0 c1 c2 c3 c4 c5 c6 c7
    have c0 := HX1.out.cell 0 _ rfl
    have c1 := HX1.out.cell 1 _ rfl
    have c2 := HX1.out.cell 2 _ rfl
    have c3 := HX1.out.cell 3 _ rfl
    have c4 := HX1.out.cell 4 _ rfl
    have c5 := HX1.out.cell 5 _ rfl
    have c6 := HX1.out.cell 6 _ rfl
    have c7 := HX1.out.cell 7 _ rfl
    go_wp2_with fail
    refine (HQ.out _).mono ?_
    rintro e w2 ⟨rfl, hb⟩
    have HX2 := Lib.hid (HX1.out.later hb)
    have HI2 := Lib.hid (isB_below HI1.out hb)
    have HB2 := Lib.hid (HB1.out.trans (hb.mono HB1.out.size))
    have HS2 := Lib.hid (Nat.le_trans HS1.out hb.size)
    clear hb c0 c1 c2 c3 c4 c5 c6 c7
    have c2 := HX2.out.cell 2 _ rfl
    have c6 := HX2.out.cell 6 _ rfl
    go_wp2_with fail
    refine (HC.out _).mono ?_
    rintro e w3 ⟨rfl, rfl⟩
    have HK4 := Lib.hid (wContent_any _ _ _ ⟨#[]⟩ w2 HI2.out (by have := HZ.out; show _ + 0 ≤ _; omega) HS2.out)
    go_wp2_with fail
    refine HK4.out.mono ?_
    rintro e w4 ⟨rfl, hi, hb⟩
    have HX4 := Lib.hid (HX2.out.under hb hltX)
    have HI4 := Lib.hid hi
    have HB4 := Lib.hid (HB2.out.trans (hb.mono (Nat.le_succ _)))
    have HS4 := Lib.hid (Nat.le_trans HS2.out hb.size)
    clear hi hb
    clear c2 c6
    have HF := Lib.hid (Tryd.Builder_String_any _ _ _ w4 HI4.out HS4.out)
    go_wp2_with fail
    refine HF.out.mono ?_
    rintro e wf ⟨rfl, hb⟩
    have HBf := Lib.hid (HB4.out.trans (hb.mono (Nat.le_succ _)))
    clear hb
    go_wp2_with fail
    go_ret2
    exact ⟨by simp only [List.append_assoc, List.cons_append, List.nil_append]; rfl, HBf.out⟩
  · have hR : anS (bs M) 0 H (bs B) s (bs N) = H ++ lnL B.size ++ [13, 10] ++ bs B ∧ anE (bs M) 0 = 0 := by
      unfold anS anE; rw [if_pos rfl, if_pos hm, if_pos rfl, if_neg (by simp [hh]), if_neg (fun h => hn h.1), if_neg (fun h => by rcases h with h | h; exact absurd h (by simp [hh]); exact hn h), length_bs]
      exact ⟨rfl, rfl⟩
    rw [hR.1, hR.2]
    rw [decide_eq_true hm] at HQ
    rw [hh] at HC
    have HLn := Lib.hid (lnL_len B.size (by have := HZ.out; omega))
    have hne : (N.toList == [72, 69, 65, 68]) = false := by rw [toList_bs]; exact beq_eq_false_iff_ne.2 hn
    clear hm hR hh hn
    go_enter Tryd.func6, Tryd.ntmps6
    go_wp2_with fail
    refine HH.out.mono ?_
    rintro e w1 ⟨rfl, hi, hb⟩
    have HX1 := Lib.hid (HX.out.under hb hltX)
    have HI1 := Lib.hid hi
    have HB1 := Lib.hid (HB.out.trans (hb.mono (Nat.le_succ _)))
    have HS1 := Lib.hid (Nat.le_trans HSz.out hb.size)
    clear hi hb c0 c1 c2 c3 c4 c5 c6 c7
    have c0 := HX1.out.cell 0 _ rfl
    have c1 := HX1.out.cell 1 _ rfl
    have c2 := HX1.out.cell 2 _ rfl
    have c3 := HX1.out.cell 3 _ rfl
    have c4 := HX1.out.cell 4 _ rfl
    have c5 := HX1.out.cell 5 _ rfl
    have c6 := HX1.out.cell 6 _ rfl
    have c7 := HX1.out.cell 7 _ rfl
    go_wp2_with fail
    refine (HQ.out _).mono ?_
    rintro e w2 ⟨rfl, hb⟩
    have HX2 := Lib.hid (HX1.out.later hb)
    have HI2 := Lib.hid (isB_below HI1.out hb)
    have HB2 := Lib.hid (HB1.out.trans (hb.mono HB1.out.size))
    have HS2 := Lib.hid (Nat.le_trans HS1.out hb.size)
    clear hb c0 c1 c2 c3 c4 c5 c6 c7
    have c2 := HX2.out.cell 2 _ rfl
    have c6 := HX2.out.cell 6 _ rfl
    go_wp2_with fail
    refine (HC.out _).mono ?_
    rintro e w3 ⟨rfl, rfl⟩
    have HK4 := Lib.hid (wLength_any _ _ _ B w2 (HT.out _ HB2.out) HI2.out (by have := HZ.out; omega) (by have := HZ.out; omega) HS2.out)
    go_wp2_with fail
    refine HK4.out.mono ?_
    rintro e w4 ⟨rfl, hi, hb⟩
    have HX4 := Lib.hid (HX2.out.under hb hltX)
    have HI4 := Lib.hid hi
    have HB4 := Lib.hid (HB2.out.trans (hb.mono (Nat.le_succ _)))
    have HS4 := Lib.hid (Nat.le_trans HS2.out hb.size)
    clear hi hb
    clear c2 c6
    have c6 := HX4.out.cell 6 _ rfl
    have HK5 := Lib.hid (wContent_any _ _ _ B w4 HI4.out (by rw [List.length_append]; have := HZ.out; have := HLn.out; omega) HS4.out)
    go_wp2_with fail
    refine HK5.out.mono ?_
    rintro e w5 ⟨rfl, hi, hb⟩
    have HX5 := Lib.hid (HX4.out.under hb hltX)
    have HI5 := Lib.hid hi
    have HB5 := Lib.hid (HB4.out.trans (hb.mono (Nat.le_succ _)))
    have HS5 := Lib.hid (Nat.le_trans HS4.out hb.size)
    clear hi hb
    clear c6
    have HF := Lib.hid (Tryd.Builder_String_any _ _ _ w5 HI5.out HS5.out)
    go_wp2_with fail
    refine HF.out.mono ?_
    rintro e wf ⟨rfl, hb⟩
    have HBf := Lib.hid (HB5.out.trans (hb.mono (Nat.le_succ _)))
    clear hb
    go_wp2_with fail
    go_ret2
    exact ⟨by simp only [List.append_assoc, List.cons_append, List.nil_append]; rfl, HBf.out⟩

theorem response8_any (M T : ByteArray) (s : Int) (R : ByteArray) (mi : Int) (vf : Value) (B : ByteArray) (vt : Value) (N : ByteArray) (l tl : List (Bs × Bs)) (w : World) (hTn : Tens w)
    (hs : IsFlds w vf l) (ht : IsFlds w vt tl) (hz : sumF l ≤ 90000) (hl : l.length ≤ 1048576) (hzt : sumF tl ≤ 90000) (hlt : tl.length ≤ 1048576) (hM : M.size + T.size + R.size ≤ 90000) (hBz : B.size ≤ 100000) :
    Calls Tryd.prog 6 #[.agg (msgC M T s R mi vf B vt), .string N] w (TxPost (anS (bs M) (hdE (bs M) (bs T) s (bs R) mi l tl) (hdW (bs M) (bs T) s (bs R) mi l tl) (bs B) s (bs N)) (anE (bs M) (hdE (bs M) (bs T) s (bs R) mi l tl)) w) :=
  response8_core M T s R mi vf B vt N _ _ w hTn (Lib.hid (head8_any M T s R mi vf B vt l tl w hTn hs ht hz hl hzt hlt hM)) (hdW_len _ _ _ _ _ _ _ (by rw [length_bs, length_bs, length_bs]; exact hM) hz) hBz
    (by obtain ⟨a, c, h, -⟩ := hs; exact ⟨a, _, c, h⟩) (by obtain ⟨a, c, h, -⟩ := ht; exact ⟨a, _, c, h⟩) (hdE_three _ _ _ _ _ _ _)

set_option maxHeartbeats 16000000 in
set_option maxRecDepth 100000 in
theorem chunked8_core (M T : ByteArray) (s : Int) (R : ByteArray) (mi : Int) (vf : Value) (B : ByteArray) (vt : Value) (size : Int) (G : Int) (H Z : Bs) (zE : Int) (w : World) (HH : Hid (Calls Tryd.prog 11 #[.pointer (some ⟨w.heap.size + 1, 0, none⟩), .agg (msgC M T s R mi vf B vt)] ((w.alloc (.cells (msgC M T s R mi vf B vt) 27)).alloc (.cells #[.pointer none, .slice none 0 0] 39)) (HdPost (w.heap.size + 1) (w.heap.size + 1) G H ((w.alloc (.cells (msgC M T s R mi vf B vt) 27)).alloc (.cells #[.pointer none, .slice none 0 0] 39)))))
    (HEn : Hid (∀ W, Below w.heap.size w W → Calls Tryd.prog 18 #[.string B, .int .i64 size, vt] W fun e w' => e = .returned (.tuple #[.string (mkS Z), .int .i64 zE]) ∧ Below W.heap.size W w'))
    (hH : H.length ≤ 200000) (hZ : Z.length ≤ 200000) (hvf : ∃ a n c, vf = .slice a n c) (hvt : ∃ a n c, vt = .slice a n c) (hG : G = 0 ∨ G = 4 ∨ G = 6) :
    Calls Tryd.prog 7 #[.agg (msgC M T s R mi vf B vt), .int .i64 size] w (TxPost (if ckE mi G s = 0 then H ++ teL ++ [13, 10] ++ Z else []) (ckE mi G s) w) := by
  obtain ⟨h1, h2, h3, h4⟩ := begun8 M T s R mi vf B vt w
  have HX := Lib.hid h1
  have HB := Lib.hid h3
  have HSz := Lib.hid h4
  have HC := Lib.hid (fun W : World => bare8_any s W)
  have HZ := Lib.hid (And.intro hH hZ)
  have c0 := h1.cell 0 _ rfl
  have c1 := h1.cell 1 _ rfl
  have c2 := h1.cell 2 _ rfl
  have c3 := h1.cell 3 _ rfl
  have c4 := h1.cell 4 _ rfl
  have c5 := h1.cell 5 _ rfl
  have c6 := h1.cell 6 _ rfl
  have c7 := h1.cell 7 _ rfl
  unfold HdPost at HH
  unfold TxPost
  have hltX : w.heap.size < w.heap.size + 1 := Nat.lt_succ_self _
  clear h1 h2 h3 h4
  unfold msgC at *
  obtain ⟨a1, n1, k1, rfl⟩ := hvf
  obtain ⟨a2, n2, k2, rfl⟩ := hvt
  clear hH hZ
  have hcs : (G = 4 ∨ G = 6) ∨ (G = 0 ∧ mi = 0) ∨ (G = 0 ∧ mi ≠ 0 ∧ bareB [] s = true) ∨ (G = 0 ∧ mi ≠ 0 ∧ bareB [] s = false) := by
    rcases hG with h | h | h
    · by_cases hm : mi = 0
      · exact .inr (.inl ⟨h, hm⟩)
      · cases hh : bareB [] s
        · exact .inr (.inr (.inr ⟨h, hm, rfl⟩))
        · exact .inr (.inr (.inl ⟨h, hm, rfl⟩))
    · exact .inl (.inl h)
    · exact .inl (.inr h)
  clear hG
  rcases hcs with hg | ⟨rfl, rfl⟩ | ⟨rfl, hm, hh⟩ | ⟨rfl, hm, hh⟩
  · have hR : ckE mi G s = G := by rcases hg with rfl | rfl <;> rfl
    have hne : (G != 0) = true := by rcases hg with rfl | rfl <;> rfl
    have hne2 : G ≠ 0 := by rcases hg with rfl | rfl <;> decide
    rw [hR, if_neg hne2]
    clear hg hR hne2
    go_enter Tryd.func7, Tryd.ntmps7
    go_wp2_with fail
    refine HH.out.mono ?_
    rintro e w1 ⟨rfl, hi, hb⟩
    have HX1 := Lib.hid (HX.out.under hb hltX)
    have HI1 := Lib.hid hi
    have HB1 := Lib.hid (HB.out.trans (hb.mono (Nat.le_succ _)))
    have HS1 := Lib.hid (Nat.le_trans HSz.out hb.size)
    clear hi hb c0 c1 c2 c3 c4 c5 c6 c7
    go_wp2_with fail
    go_ret2
    exact ⟨rfl, HB1.out⟩
  · have hR : ckE 0 0 s = 4 := by unfold ckE; rw [if_pos rfl, if_pos (.inl rfl)]
    rw [hR, if_neg (by decide)]
    clear hR
    go_enter Tryd.func7, Tryd.ntmps7
    go_wp2_with fail
    refine HH.out.mono ?_
    rintro e w1 ⟨rfl, hi, hb⟩
    have HX1 := Lib.hid (HX.out.under hb hltX)
    have HI1 := Lib.hid hi
    have HB1 := Lib.hid (HB.out.trans (hb.mono (Nat.le_succ _)))
    have HS1 := Lib.hid (Nat.le_trans HSz.out hb.size)
    clear hi hb c0 c1 c2 c3 c4 c5 c6 c7
    have c2 := HX1.out.cell 2 _ rfl
    have c4 := HX1.out.cell 4 _ rfl
    go_wp2_with fail
    go_ret2
    exact ⟨rfl, HB1.out⟩
  · have hR : ckE mi 0 s = 4 := by unfold ckE; rw [if_pos rfl, if_pos (.inr hh)]
    have hne : (mi == 0) = false := by simp [hm]
    rw [hR, if_neg (by decide)]
    rw [hh] at HC
    clear hR hm hh
    go_enter Tryd.func7, Tryd.ntmps7
    go_wp2_with fail
    refine HH.out.mono ?_
    rintro e w1 ⟨rfl, hi, hb⟩
    have HX1 := Lib.hid (HX.out.under hb hltX)
    have HI1 := Lib.hid hi
    have HB1 := Lib.hid (HB.out.trans (hb.mono (Nat.le_succ _)))
    have HS1 := Lib.hid (Nat.le_trans HSz.out hb.size)
    clear hi hb c0 c1 c2 c3 c4 c5 c6 c7
    have c2 := HX1.out.cell 2 _ rfl
    have c4 := HX1.out.cell 4 _ rfl
    go_wp2_with fail
    refine (HC.out _).mono ?_
    rintro e w2 ⟨rfl, rfl⟩
    go_wp2_with fail
    go_ret2
    exact ⟨rfl, HB1.out⟩
  · have hR : ckE mi 0 s = 0 := by unfold ckE; rw [if_pos rfl, if_neg (fun h => by rcases h with h | h; exact hm h; exact absurd h (by simp [hh]))]
    have hne : (mi == 0) = false := by simp [hm]
    rw [hR, if_pos rfl]
    rw [hh] at HC
    clear hR hm hh
    go_enter Tryd.func7, Tryd.ntmps7
    go_wp2_with fail
    refine HH.out.mono ?_
    rintro e w1 ⟨rfl, hi, hb⟩
    have HX1 := Lib.hid (HX.out.under hb hltX)
    have HI1 := Lib.hid hi
    have HB1 := Lib.hid (HB.out.trans (hb.mono (Nat.le_succ _)))
    have HS1 := Lib.hid (Nat.le_trans HSz.out hb.size)
    clear hi hb c0 c1 c2 c3 c4 c5 c6 c7
    have c2 := HX1.out.cell 2 _ rfl
    have c4 := HX1.out.cell 4 _ rfl
    go_wp2_with fail
    refine (HC.out _).mono ?_
    rintro e w2 ⟨rfl, rfl⟩
    clear c2 c4
    have c6 := HX1.out.cell 6 _ rfl
    have c7 := HX1.out.cell 7 _ rfl
    go_wp2_with fail
    refine (HEn.out _ HB1.out).mono ?_
    rintro e w3 ⟨rfl, hb⟩
    have HX3 := Lib.hid (HX1.out.later hb)
    have HI3 := Lib.hid (isB_below HI1.out hb)
    have HB3 := Lib.hid (HB1.out.trans (hb.mono HB1.out.size))
    have HS3 := Lib.hid (Nat.le_trans HS1.out hb.size)
    clear hb c6 c7
    have HK4 := Lib.hid (wField_any _ _ _ ⟨#[84, 114, 97, 110, 115, 102, 101, 114, 45, 69, 110, 99, 111, 100, 105, 110, 103]⟩ ⟨#[99, 104, 117, 110, 107, 101, 100]⟩ w3 HI3.out (by have := HZ.out; show _ + 17 + 7 ≤ _; omega) HS3.out)
    go_wp2_with fail
    refine HK4.out.mono ?_
    rintro e w4 ⟨rfl, hi, hb⟩
    have HX4 := Lib.hid (HX3.out.under hb hltX)
    have HI4 := Lib.hid hi
    have HB4 := Lib.hid (HB3.out.trans (hb.mono (Nat.le_succ _)))
    have HS4 := Lib.hid (Nat.le_trans HS3.out hb.size)
    clear hi hb
    have HI4b : Hid (IsB (w.heap.size + 1) (w.heap.size + 1) (H ++ teL) w4) := by
      have h := HI4.out
      have e1 : H ++ bs ⟨#[84, 114, 97, 110, 115, 102, 101, 114, 45, 69, 110, 99, 111, 100, 105, 110, 103]⟩ ++ [58, 32] ++ bs ⟨#[99, 104, 117, 110, 107, 101, 100]⟩ ++ [13, 10] = H ++ teL := by
        simp only [List.append_assoc]; rfl
      rw [e1] at h
      exact h
    clear HI4
    have HK5 := Lib.hid (wContent_any _ _ _ (mkS Z) w4 HI4b.out (by rw [List.length_append, size_mkS]; have := HZ.out; show _ + 28 + _ ≤ _; omega) HS4.out)
    go_wp2_with fail
    refine HK5.out.mono ?_
    rintro e w5 ⟨rfl, hi, hb⟩
    have HX5 := Lib.hid (HX4.out.under hb hltX)
    have HI5 := Lib.hid hi
    have HB5 := Lib.hid (HB4.out.trans (hb.mono (Nat.le_succ _)))
    have HS5 := Lib.hid (Nat.le_trans HS4.out hb.size)
    clear hi hb
    rw [bs_mkS] at HI5
    have HF := Lib.hid (Tryd.Builder_String_any _ _ _ w5 HI5.out HS5.out)
    go_wp2_with fail
    refine HF.out.mono ?_
    rintro e wf ⟨rfl, hb⟩
    have HBf := Lib.hid (HB5.out.trans (hb.mono (Nat.le_succ _)))
    clear hb
    go_wp2_with fail
    go_ret2
    exact ⟨by simp only [List.append_assoc, List.cons_append, List.nil_append]; rfl, HBf.out⟩

theorem enc_len (k : Nat) (body : Bs) (F : Bs) (h : body.length ≤ 400) : (encL k body F).length ≤ 3300 + F.length := by
  have := chunks_len k _ body (Nat.le_refl _) (by omega)
  unfold encL
  rw [List.length_append, List.length_append, List.length_append]
  simp only [List.length_cons, List.length_nil]
  omega
theorem chunked8_any (M T : ByteArray) (s : Int) (R : ByteArray) (mi : Int) (vf : Value) (B : ByteArray) (vt : Value) (size : Int) (l tl : List (Bs × Bs)) (w : World) (hTn : Tens w) (hBj : Bruijn w.heap.size w)
    (hs : IsFlds w vf l) (ht : IsFlds w vt tl) (hz : sumF l ≤ 90000) (hl : l.length ≤ 1048576) (hzt : sumF tl ≤ 90000) (hlt : tl.length ≤ 90000) (hM : M.size + T.size + R.size ≤ 90000) (hBz : B.size ≤ 400) (hsz : size ≤ 9223372036854775807) :
    Calls Tryd.prog 7 #[.agg (msgC M T s R mi vf B vt), .int .i64 size] w (TxPost (ckS mi (hdE (bs M) (bs T) s (bs R) mi l tl) (hdW (bs M) (bs T) s (bs R) mi l tl) (bs B) s size tl) (ckE mi (hdE (bs M) (bs T) s (bs R) mi l tl) s) w) := by
  have hle := enc_len (encK size (bs B)) (bs B) (linesF tl) (by rw [length_bs]; exact hBz)
  have hll := lines_len tl
  have h := chunked8_core M T s R mi vf B vt size _ _ (if okFs tl then encL (encK size (bs B)) (bs B) (linesF tl) else []) (byE tl) w (Lib.hid (head8_any M T s R mi vf B vt l tl w hTn hs ht hz hl hzt (by omega) hM)) (Lib.hid fun W hb => encode_any B size vt tl W (isFlds_below ht hb) (by omega) (by omega) hBz ((hBj.later hb).top) hsz) (hdW_len _ _ _ _ _ _ _ (by rw [length_bs, length_bs, length_bs]; exact hM) hz) (by split; omega; simp)
    (by obtain ⟨a, c, h, -⟩ := hs; exact ⟨a, _, c, h⟩) (by obtain ⟨a, c, h, -⟩ := ht; exact ⟨a, _, c, h⟩) (hdE_three _ _ _ _ _ _ _)
  have e : (if ckE mi (hdE (bs M) (bs T) s (bs R) mi l tl) s = 0 then hdW (bs M) (bs T) s (bs R) mi l tl ++ teL ++ [13, 10] ++ (if okFs tl then encL (encK size (bs B)) (bs B) (linesF tl) else []) else []) = ckS mi (hdE (bs M) (bs T) s (bs R) mi l tl) (hdW (bs M) (bs T) s (bs R) mi l tl) (bs B) s size tl := by
    unfold ckS
    split
    · rename_i hc
      have hk : okFs tl = true := by
        cases hk : okFs tl
        · exfalso
          have h4 : hdE (bs M) (bs T) s (bs R) mi l tl = 4 := by unfold hdE; rw [if_neg (by simp [hk])]
          rw [h4] at hc
          unfold ckE at hc
          simp at hc
        · rfl
      rw [hk]
      rfl
    · rfl
  rw [e] at h
  exact h
end Tk
end Go.Proofs.YtdlbmfgajgefdaaDoor
namespace Go.Proofs.YtdlbmfgajgefdaaDoor
open Go.RowKit
namespace Tk

theorem zeroFlds (W : World) : IsFlds W (.slice none 0 0) [] := ⟨none, 0, rfl, Nat.le_refl _, fun j f hj => by simp at hj⟩
theorem ex8_1 : anS [] (hdE [] [] 204 [120] 1 [] []) (hdW [] [] 204 [120] 1 [] []) [97] 204 [71, 69, 84] = (⟨#[72, 84, 84, 80, 47, 49, 46, 49, 32, 50, 48, 52, 32, 120, 13, 10, 13, 10]⟩ : ByteArray).data.toList ∧ anE [] (hdE [] [] 204 [120] 1 [] []) = 0 := by decide +kernel
theorem ex8_2 : anS [] (hdE [] [] 200 [120] 1 [] []) (hdW [] [] 200 [120] 1 [] []) [97] 200 [71, 69, 84] = (⟨#[72, 84, 84, 80, 47, 49, 46, 49, 32, 50, 48, 48, 32, 120, 13, 10, 67, 111, 110, 116, 101, 110, 116, 45, 76, 101, 110, 103, 116, 104, 58, 32, 49, 13, 10, 13, 10, 97]⟩ : ByteArray).data.toList ∧ anE [] (hdE [] [] 200 [120] 1 [] []) = 0 := by decide +kernel
set_option maxHeartbeats 4000000 in
set_option maxRecDepth 100000 in
theorem lives08_any (w : World) (hTn : Tens w) : Calls Tryd.prog 4 #[] w fun e w' => e = .returned (.bool true) ∧ Below w.heap.size w w' := by
  have H1 : Hid (∀ W, Below w.heap.size w W → Calls Tryd.prog 6 #[.agg #[.string ⟨#[]⟩, .string ⟨#[]⟩, .int .i64 204, .string ⟨#[120]⟩, .int .i64 1, .slice none 0 0, .string ⟨#[97]⟩, .slice none 0 0], .string ⟨#[71, 69, 84]⟩] W fun e w' => e = .returned (.tuple #[.string ⟨#[72, 84, 84, 80, 47, 49, 46, 49, 32, 50, 48, 52, 32, 120, 13, 10, 13, 10]⟩, .int .i64 0]) ∧ Below W.heap.size W w') := fun W hb => by
    have h := response8_any ⟨#[]⟩ ⟨#[]⟩ 204 ⟨#[120]⟩ 1 (.slice none 0 0) ⟨#[97]⟩ (.slice none 0 0) ⟨#[71, 69, 84]⟩ [] [] W (hTn.later hb) (zeroFlds W) (zeroFlds W) (by decide) (by decide) (by decide) (by decide) (by decide) (by decide)
    change Calls _ _ _ _ (TxPost (anS [] (hdE [] [] 204 [120] 1 [] []) (hdW [] [] 204 [120] 1 [] []) [97] 204 [71, 69, 84]) (anE [] (hdE [] [] 204 [120] 1 [] [])) W) at h
    rw [ex8_1.1, ex8_1.2] at h
    exact h
  have H2 : Hid (∀ W, Below w.heap.size w W → Calls Tryd.prog 6 #[.agg #[.string ⟨#[]⟩, .string ⟨#[]⟩, .int .i64 200, .string ⟨#[120]⟩, .int .i64 1, .slice none 0 0, .string ⟨#[97]⟩, .slice none 0 0], .string ⟨#[71, 69, 84]⟩] W fun e w' => e = .returned (.tuple #[.string ⟨#[72, 84, 84, 80, 47, 49, 46, 49, 32, 50, 48, 48, 32, 120, 13, 10, 67, 111, 110, 116, 101, 110, 116, 45, 76, 101, 110, 103, 116, 104, 58, 32, 49, 13, 10, 13, 10, 97]⟩, .int .i64 0]) ∧ Below W.heap.size W w') := fun W hb => by
    have h := response8_any ⟨#[]⟩ ⟨#[]⟩ 200 ⟨#[120]⟩ 1 (.slice none 0 0) ⟨#[97]⟩ (.slice none 0 0) ⟨#[71, 69, 84]⟩ [] [] W (hTn.later hb) (zeroFlds W) (zeroFlds W) (by decide) (by decide) (by decide) (by decide) (by decide) (by decide)
    change Calls _ _ _ _ (TxPost (anS [] (hdE [] [] 200 [120] 1 [] []) (hdW [] [] 200 [120] 1 [] []) [97] 200 [71, 69, 84]) (anE [] (hdE [] [] 200 [120] 1 [] [])) W) at h
    rw [ex8_2.1, ex8_2.2] at h
    exact h
  clear hTn
  go_enter Tryd.func4, Tryd.ntmps4
  go_wp2_with fail
  refine (H1.out _ (Below.refl _ _)).mono ?_
  rintro e w1 ⟨rfl, hb⟩
  have HB1 := Lib.hid hb
  clear hb
  go_wp2_with fail
  refine (H2.out _ HB1.out).mono ?_
  rintro e w2 ⟨rfl, hb⟩
  have HB2 := Lib.hid (HB1.out.trans (hb.mono HB1.out.size))
  clear hb
  go_wp2_with fail
  go_ret
  exact ⟨rfl, HB2.out⟩
end Tk
end Go.Proofs.YtdlbmfgajgefdaaDoor
namespace Go.Proofs.YtdlbmfgajgefdaaDoor
open Go.RowKit
namespace Tk

def tokB (l : Bs) : Bool := !l.isEmpty && allL 2 l
theorem wp_store_row {P : Program} {o : Oper} {a : Act} {w : World} {K : Act → World → Prop} {Q : Exit → Act → World → Prop} (ty : TypeId) (x y : Operand) (ho : o.op = .store ty x y)
    (g : Nat) (t : TypeId) (old cells : Array Value) (hx : a.eval x = .pointer (some ⟨g, 0, none⟩)) (hy : a.eval y = .agg cells) (hg : w.heap[g]? = some (.cells old t (0, 0))) (hi : (P.info? ty).map (·.size) = some cells.size)
    (hs : old.size = cells.size) (h1 : cells.all (·.oneCell') = true) (h : K (a.put o.dst undef) (w.setRow g cells)) : o.wp P a w K Q := by
  have hrun := run_storeVar_row (P := P) w g t ty old cells hg hi hs h1
  unfold Oper.wp
  simp [execOp, ho, hx, hy, Instr.storeAt, Instr.sureAddr, hrun, Result.andThen, Oper.upon]
  exact h
theorem step_store_row {P : Program} {ops : Array Oper} {o : Oper} {a : Act} {w : World} {K : Act → World → Prop} {Q : Exit → Act → World → Prop} {E : Prop} (hgd : o.guard = none) (ty : TypeId) (x y : Operand) (ho : o.op = .store ty x y)
    (g : Nat) (t : TypeId) (old cells : Array Value) (hx : a.eval x = .pointer (some ⟨g, 0, none⟩)) (hy : a.eval y = .agg cells) (hg : w.heap[g]? = some (.cells old t (0, 0))) (hi : (P.info? ty).map (·.size) = some cells.size)
    (hs : old.size = cells.size) (h1 : cells.all (·.oneCell') = true) (h : K (a.put o.dst undef) (w.setRow g cells)) : if Region.wanted o (yielded ops a.tmps) = true then o.wp P a w K Q else E := by
  have hw : Region.wanted o (yielded ops a.tmps) = true := by simp [Region.wanted, hgd]
  rw [if_pos hw]
  exact wp_store_row ty x y ho g t old cells hx hy hg hi hs h1 h
theorem wpList_store_row {P : Program} {ops : Array Oper} {rest : List Oper} {o : Oper} {a : Act} {w : World} {Q : Exit → Act → World → Prop} (hgd : o.guard = none) (ty : TypeId) (x y : Operand) (ho : o.op = .store ty x y)
    (g : Nat) (t : TypeId) (old cells : Array Value) (hx : a.eval x = .pointer (some ⟨g, 0, none⟩)) (hy : a.eval y = .agg cells) (hg : w.heap[g]? = some (.cells old t (0, 0))) (hi : (P.info? ty).map (·.size) = some cells.size)
    (hs : old.size = cells.size) (h1 : cells.all (·.oneCell') = true) (h : wpList P ops Q rest (a.put o.dst undef) (w.setRow g cells)) : wpList P ops Q (o :: rest) a w :=
  wpList_plain hgd fun _ hK => wp_store_row ty x y ho g t old cells hx hy hg hi hs h1 (hK _ _ h)
theorem results_two {P : Program} {fn : Func} {p q : Tmp} {ty : TypeId} (h : fn.results = #[.cell p ty, .tmp q]) (tmps : Array Value) (w : World) (g : Nat) (t : TypeId) (cs : Array Value) (fr : Nat × Nat) (d : TypeDesc) (v2 : Value)
    (hp : tmps.getD p undef = .pointer (some ⟨g, 0, none⟩)) (hg : w.heap[g]? = some (.cells cs t fr))
    (hu : P.underlying ty = some d) (hd : (match d with | .struct _ | .array _ _ => true | _ => false) = true) (hi : (P.info? ty).map (·.size) = some cs.size) (hq : tmps.getD q undef = v2) :
    (results fn tmps).run P w = .ok (.tuple #[.agg cs, v2]) w := by
  subst hq
  have hp' : tmps[p]?.getD undef = .pointer (some ⟨g, 0, none⟩) := by simpa using hp
  simp [results, h, hp', asAddr, run_loadVar_row w g t ty cs fr d hg hu hd hi]
theorem Box.row {w : World} {g : Nat} {T : TypeId} {old cs : Array Value} (h : Box w g T old) : Box (w.setRow g cs) g T cs := setRow_heap w g old cs T (0, 0) h

theorem own_row {w : World} {B g : Nat} {v : Value} {n k : Nat} {xs : List Value} {e T : TypeId} {old cs : Array Value} (h : w.ownsRow B e k v n xs) (hb : Box w g T old) (hT : T ≠ e) : (w.setRow g cs).ownsRow B e k v n xs := by
  refine ⟨h.1, ?_⟩
  rcases h.2 with h2 | ⟨gr, cap, cur, hv, hge, hg, h2⟩
  · exact .inl h2
  · refine .inr ⟨gr, cap, cur, hv, hge, ?_, h2⟩
    rw [setRow_other _ _ _ _ (fun e2 => ?_)]
    · exact hg
    · subst e2
      have e3 := hg.symm.trans hb
      injection e3 with e3
      injection e3 with _ e4 _
      exact hT e4.symm

/-- what Forward answers -/
def FwPost (M T : ByteArray) (s : Int) (R : ByteArray) (mi : Int) (B : ByteArray) (l : List (Bs × Bs)) (N : Bs) (w : World) (e : Ending) (w' : World) : Prop :=
  Below w.heap.size w w' ∧ if tokB N = true then ∃ v', e = .returned (.tuple #[.agg (msgC M T s R 1 v' B (.slice none 0 0)), .int .i64 0]) ∧ w'.ownsRow w.heap.size 24 2 v' (forwL (bs M) l mi N).length (fcells (forwL (bs M) l mi N))
    else e = .returned (.tuple #[.agg (msgC ⟨#[]⟩ ⟨#[]⟩ 0 ⟨#[]⟩ 0 (.slice none 0 0) ⟨#[]⟩ (.slice none 0 0)), .int .i64 4])

end Tk
end Go.Proofs.YtdlbmfgajgefdaaDoor
namespace Go.Proofs.YtdlbmfgajgefdaaDoor
open Go.RowKit
namespace Tk

def lightT (l : List (Bs × Bs)) : Bool := decide (l.length ≤ 10) && lfGo 300 0 l
theorem lightT_parts (l : List (Bs × Bs)) (h : lightT l = true) : l.length ≤ 10 ∧ sumF l ≤ 340 := by
  unfold lightT at h
  rw [Bool.and_eq_true, decide_eq_true_eq] at h
  have := lfGo_sum 300 l 0 (by omega) h.2
  exact ⟨h.1, by omega⟩

end Tk
end Go.Proofs.YtdlbmfgajgefdaaDoor
namespace Go.Proofs.YtdlbmfgajgefdaaDoor
open Go.RowKit
namespace Tk

def lightU (l : List (Bs × Bs)) : Bool := decide (l.length ≤ 20) && lfGo 600 0 l
theorem lightU_parts (l : List (Bs × Bs)) (h : lightU l = true) : l.length ≤ 20 ∧ sumF l ≤ 680 := by
  unfold lightU at h
  rw [Bool.and_eq_true, decide_eq_true_eq] at h
  have := lfGo_sum 600 l 0 (by omega) h.2
  exact ⟨h.1, by omega⟩

end Tk
end Go.Proofs.YtdlbmfgajgefdaaDoor
namespace Go.Proofs.YtdlbmfgajgefdaaDoor
open Go.RowKit
namespace Tk

theorem field_neq (W : World) (a b : ByteArray) : (binOp .neq 24 (.agg #[.string a, .string b]) (.agg #[.string a, .string b])).run Tryd.prog W = .ok (.bool false) W := by
  rw [run_neq_struct, run_equalIn_agg _ _ _ _ _ (by simp [Program.fieldsOf, Tryd.underlying24]) noStand]
  simp [Program.fieldsOf, Tryd.underlying24, Op.eqFields, go_sem]

end Tk
end Go.Proofs.YtdlbmfgajgefdaaDoor
namespace Go.Proofs.YtdlbmfgajgefdaaDoor
namespace Tk

theorem spl_plain : ∀ (l cur : Bs), (∀ c ∈ l, c ≠ 44 ∧ c ≠ 34) → spl 0 cur l = [cur ++ l]
  | [], cur, _ => by simp [spl]
  | c :: t, cur, h => by
    have hc := h c (by simp)
    rw [spl, if_neg hc.1, if_neg hc.2, spl_plain t (cur ++ [c]) fun d hd => h d (by simp [hd])]
    simp
theorem trim_as (l : Bs) (h : ∀ c ∈ l, c ≠ 32 ∧ c ≠ 9) : trimL l = l := by
  have dw : ∀ l : Bs, (∀ c ∈ l, c ≠ 32 ∧ c ≠ 9) → l.dropWhile (fun b => [32, 9].contains b) = l := by
    intro l h
    cases l with
    | nil => rfl
    | cons c t =>
      have hc := h c (by simp)
      rw [List.dropWhile_cons, if_neg (by simp [hc.1, hc.2])]
  unfold trimL Lib.trimS Lib.trimLeftS Lib.trimRightS
  rw [dw l.reverse (fun c hc => h c (by simpa using hc)), List.reverse_reverse, dw l h]
theorem trim_front (l : Bs) (h : ∀ c ∈ l, c ≠ 32 ∧ c ≠ 9) : trimL (32 :: l) = l := by
  have dw : ∀ l : Bs, (∀ c ∈ l, c ≠ 32 ∧ c ≠ 9) → l.dropWhile (fun b => [32, 9].contains b) = l := by
    intro l h
    cases l with
    | nil => rfl
    | cons c t =>
      have hc := h c (by simp)
      rw [List.dropWhile_cons, if_neg (by simp [hc.1, hc.2])]
  unfold trimL Lib.trimS Lib.trimLeftS Lib.trimRightS
  cases l with
  | nil => rfl
  | cons a t =>
    have hlast : ((32 :: a :: t).reverse).dropWhile (fun b => [32, 9].contains b) = (32 :: a :: t).reverse := by
      have e : (32 :: a :: t).reverse = (a :: t).reverse ++ [32] := by simp
      rw [e]
      cases hr : (a :: t).reverse with
      | nil => simp at hr
      | cons z r =>
        have hz := h z (by rw [← List.mem_reverse, hr]; simp)
        rw [List.cons_append, List.dropWhile_cons, if_neg (by simp [hz.1, hz.2])]
    rw [hlast, List.reverse_reverse, List.dropWhile_cons, if_pos (by decide), dw _ h]
theorem tok_char (c : UInt8) (h : 2 ≤ kindOf c.toNat) : c ≠ 44 ∧ c ≠ 34 ∧ c ≠ 32 ∧ c ≠ 9 := by
  refine ⟨?_, ?_, ?_, ?_⟩ <;> (rintro rfl; revert h; decide)
/-- q and one more name -/
theorem split_more (n : Bs) (h0 : n ≠ []) (h : allL 2 n = true) : splitL ([113, 44, 32] ++ n) = [[113], n] := by
  have hc : ∀ c ∈ n, c ≠ 44 ∧ c ≠ 34 ∧ c ≠ 32 ∧ c ≠ 9 := by
    intro c hc
    unfold allL at h
    rw [List.all_eq_true] at h
    exact tok_char c (of_decide_eq_true (h c hc))
  have e : spl 0 [] ([113, 44, 32] ++ n) = [[113], 32 :: n] := by
    show spl 0 [] (113 :: 44 :: 32 :: n) = _
    rw [spl, if_neg (by decide), if_neg (by decide), spl, if_pos rfl, spl_plain _ _ (by
      intro c hx
      rcases List.mem_cons.1 hx with rfl | hx
      · decide
      · exact ⟨(hc c hx).1, (hc c hx).2.1⟩)]
    rfl
  unfold splitL
  rw [e, parts_cons, parts_one, trim_front n fun c hx => ⟨(hc c hx).2.2.1, (hc c hx).2.2.2⟩, show trimL [113] = [113] by decide]
  unfold addP
  rw [if_neg (by decide), if_neg h0]; rfl
def qB : Bs := [113]
/-- Connection, in small letters -/
def cnL : Bs := [99, 111, 110, 110, 101, 99, 116, 105, 111, 110]
theorem strip_named (l : List (Bs × Bs)) (n : Bs) (h0 : n ≠ []) (h : allL 2 n = true) : stripL (l ++ [(cnL, [113, 44, 32] ++ n)]) = delF qB (delF n (stripL l)) := by
  rw [strip_more l cnL _ [[113], n] (by decide) (split_more n h0 h), del_wipe, del_wipe, wipe_wipe]
  apply wipe_congr
  intro x
  simp [qB, or_comm]

/-- the way that was taken: the first i names -/
def wayB (names : List Bs) : Nat → Bs
  | 0 => []
  | i + 1 => (if i = 0 then [] else wayB names i ++ [44, 32]) ++ viaS ((i % 2 : Nat) : Int) (names.getD i [])
def wayF (names : List Bs) (i : Nat) : List (Bs × Bs) := if i = 0 then [] else [(viB, wayB names i)]
theorem way_step (names : List Bs) (i : Nat) : viaL (wayF names i) ((i % 2 : Nat) : Int) (names.getD i []) = wayF names (i + 1) := by
  unfold viaL viaV wayF
  by_cases h : i = 0
  · subst h
    rfl
  · have e : allF [(viB, wayB names i)] viB = [wayB names i] := by rw [allF_cons, isN_self]; rfl
    rw [if_neg h, if_neg (Nat.succ_ne_zero i), wayB, if_neg h, e, if_pos (by simp), joinB_one]
    unfold setF
    rw [show List.findIdx (isN viB) [(viB, wayB names i)] = 0 by rw [List.findIdx_cons, isN_self]; rfl]
    rfl
theorem way_get (names : List Bs) (i : Nat) : joinB (allF (wayF names i) viB) = wayB names i := by
  unfold wayF
  by_cases h : i = 0
  · subst h; rfl
  · rw [if_neg h, show allF [(viB, wayB names i)] viB = [wayB names i] by rw [allF_cons, isN_self]; rfl, joinB_one]
theorem way_len (names : List Bs) (i : Nat) : (wayF names i).length = min 1 i := by
  unfold wayF
  by_cases h : i = 0
  · subst h; rfl
  · rw [if_neg h]; simp; omega
theorem dig_small (i : Nat) : digI ((i % 2 : Nat) : Int) = [UInt8.ofNat (48 + i % 2)] := by
  unfold digI
  rw [Lib.itoa_nonneg, Lib.decDigits_one (by omega)]
theorem viaS_len (i : Nat) (n : Bs) : (viaS ((i % 2 : Nat) : Int) n).length = n.length + 4 := by
  unfold viaS
  rw [dig_small]; simp
theorem way_size (names : List Bs) (b : Nat) (h : ∀ x ∈ names, x.length ≤ b) : ∀ i, (wayB names i).length ≤ i * (b + 6)
  | 0 => by simp [wayB]
  | i + 1 => by
    have ih := way_size names b h i
    have hx : (names.getD i []).length ≤ b := by
      by_cases hi : i < names.length
      · exact h _ (by simp [List.getD, hi])
      · simp [List.getD, hi]
    have hm : (i + 1) * (b + 6) = i * (b + 6) + (b + 6) := Nat.succ_mul _ _
    rw [wayB, List.length_append, viaS_len, hm]
    generalize names.getD i [] = n at *
    generalize i * (b + 6) = z at *
    split
    · rw [List.length_nil]; omega
    · rw [List.length_append, List.length_cons, List.length_cons, List.length_nil]; omega
end Tk
end Go.Proofs.YtdlbmfgajgefdaaDoor
namespace Go.Proofs.YtdlbmfgajgefdaaDoor
open Go.RowKit
namespace Tk

def lightM (M T R B : ByteArray) (l tl : List (Bs × Bs)) : Bool := decide (M.size ≤ 40) && (decide (T.size ≤ 200) && (decide (R.size ≤ 100) && (decide (B.size ≤ 400) && (lightU l && lightT tl))))
theorem lightM_parts (M T R B : ByteArray) (l tl : List (Bs × Bs)) (h : lightM M T R B l tl = true) : (M.size ≤ 40 ∧ T.size ≤ 200 ∧ R.size ≤ 100 ∧ B.size ≤ 400) ∧ (l.length ≤ 20 ∧ sumF l ≤ 680) ∧ tl.length ≤ 10 ∧ sumF tl ≤ 340 := by
  unfold lightM at h
  simp only [Bool.and_eq_true, decide_eq_true_eq] at h
  obtain ⟨h1, h2, h3, h4, h5, h6⟩ := h
  exact ⟨⟨h1, h2, h3, h4⟩, lightU_parts l h5, lightT_parts tl h6⟩
/-- no more than a machine holds -/
def SizedF (l : List (Bs × Bs)) : Prop := (∀ f ∈ l, f.1.length ≤ 140737488351232 ∧ f.2.length ≤ 140737488351232) ∧ l.length ≤ 140737488351232

end Tk
end Go.Proofs.YtdlbmfgajgefdaaDoor
namespace Go.Proofs.YtdlbmfgajgefdaaDoor
open Go.RowKit
namespace Tk

theorem itoaS_any (i : Nat) (w : World) (h : i < 100) : ItoaAt (i : Int) w := by
  have hI := Tryd.strconv_Itoa_small i h w
  unfold ItoaAt
  refine hI.mono ?_
  rintro e w' ⟨rfl, rfl⟩
  refine ⟨?_, Below.refl _ _⟩
  unfold digI
  rw [Lib.itoa_nonneg]; rfl
theorem fcells_lit3 (w : World) (a b c d e f : Bs) : IsFlds (w.alloc (Obj.cells #[.string (mkS a), .string (mkS b), .string (mkS c), .string (mkS d), .string (mkS e), .string (mkS f)] 24)) (.slice (some ⟨w.heap.size, 0, none⟩) 3 3) [(a, b), (c, d), (e, f)] := by
  refine ⟨_, 3, rfl, Nat.le_refl _, fun j t hj => ⟨w.heap.size, 0, rfl, ?_⟩⟩
  match j, hj with
  | 0, hj => cases hj; exact ⟨by rw [World.cell?_alloc_new]; rfl, by rw [World.cell?_alloc_new]; rfl⟩
  | 1, hj => cases hj; exact ⟨by rw [World.cell?_alloc_new]; rfl, by rw [World.cell?_alloc_new]; rfl⟩
  | 2, hj => cases hj; exact ⟨by rw [World.cell?_alloc_new]; rfl, by rw [World.cell?_alloc_new]; rfl⟩
theorem ex_strip : stripL [([67, 111, 110, 110, 101, 99, 116, 105, 111, 110], [120, 44, 32, 99, 108, 111, 115, 101]), ([88], [49]), ([89], [50])] = [([89], [50])] := by decide +kernel
theorem len_via0 (n : Int) (p : Bs) : (viaL [] n p).length = 1 := by unfold viaL; rw [set_len]; rfl

end Tk
end Go.Proofs.YtdlbmfgajgefdaaDoor
namespace Go.Proofs.YtdlbmfgajgefdaaDoor
open Go.RowKit Go.ChangeShapes Go.WideShapes
namespace Tk

structure TenH (w : World) : Prop where
  big : 0 < w.heap.size
  tab : Lib.TabIs Tryd.prog w "internal/strconv.uint64pow10" .u64 Lib.pow10Tab
theorem gTenH : Tryd.prog.globalNamed "internal/strconv.uint64pow10" = some 0 := by kernel_rfl
theorem TenH.later {w w' : World} (h : TenH w) (hb : Below w.heap.size w w') : TenH w' :=
  ⟨Nat.lt_of_lt_of_le h.big hb.size, var?_below hb gTenH h.big h.tab⟩
theorem itoaG_any (n : Int) (w : World) (hT : TenH w) (h0 : -9223372036854775808 ≤ n) (h1 : n ≤ 9223372036854775807) : ItoaAt n w :=
  (Tryd.strconv_Itoa n h0 h1 w hT.tab).mono fun _ _ ⟨h1, _, _, h2⟩ => ⟨h1, h2 ▸ Lib.below_grow _ _ (Nat.le_refl _) _ _⟩
theorem nDigits_le : ∀ (k u : Nat), u < 10 ^ (k + 1) → Lib.nDigits u ≤ k + 1
  | 0, u, h => by rw [Lib.nDigits_small (by omega)]; omega
  | k + 1, u, h => by
    by_cases hu : u < 10
    · rw [Lib.nDigits_small hu]; omega
    · rw [Lib.nDigits_big hu]
      have := nDigits_le k (u / 10) (by rw [Nat.pow_succ] at h; omega)
      omega
theorem digI_len (n : Int) (h0 : -9223372036854775808 ≤ n) (h1 : n ≤ 9223372036854775807) : (digI n).length ≤ 100 := by
  unfold digI
  by_cases h : n < 0
  · obtain ⟨u, rfl⟩ : ∃ u : Nat, n = -(u : Int) := ⟨n.natAbs, by omega⟩
    rw [Lib.itoa_neg u (by omega), List.length_cons, Lib.decDigits_length]
    have := nDigits_le 18 u (by omega)
    omega
  · obtain ⟨u, rfl⟩ : ∃ u : Nat, n = (u : Int) := ⟨n.toNat, by omega⟩
    rw [Lib.itoa_nonneg, Lib.decDigits_length]
    have := nDigits_le 18 u (by omega)
    omega

/-- one variable off the list -/
theorem laid_atH {P : Program} {W : World} : ∀ {l : List (String × DataW Unit)} {ps : List MemPlace}, DataW.LaidVars P W l ps → ∀ (n : String) (d : DataW Unit), (n, d) ∈ l →
    ∃ g t cs fuel p, P.globalNamed n = some g ∧ (P.globals[g]?).map (·.type) = some t ∧ W.var? P n = some cs ∧ DataW.trod (fun _ => ()) P W 0 (fun _ => true) false fuel t cs.toList = some (d, p)
  | [], _, _, n, d, h => by simp at h
  | (m, e) :: r, ps, h, n, d, hm => by
    obtain ⟨g, t, cs, fuel, p, q, h1, h2, h3, h4, h5, -⟩ := h
    rcases List.mem_cons.1 hm with hm | hm
    · injection hm with a b
      subst a b
      exact ⟨g, t, cs, fuel, p, h1, h2, h3, h4⟩
    · exact laid_atH h5 n d hm

theorem gTenTypeH : (Tryd.prog.globals[0]?).map (·.type) = some 94 := by kernel_rfl
theorem cellsU64H : Tryd.prog.cellsOf 78 = 1 := by kernel_rfl
theorem cellsTensH : Tryd.prog.cellsOf 94 = 20 := by kernel_rfl

theorem tenH_of {l : List (String × DataW Unit)} {W : World} (h : laidMet Tryd.prog l W) (h2 : ("internal/strconv.uint64pow10", Lib.tabData .u64 Lib.pow10Tab) ∈ l) : TenH W := by
  obtain ⟨ps, hl, -⟩ := h
  obtain ⟨g', t', cs', fuel', p', b1, b2, b3, b4⟩ := laid_atH hl _ _ h2
  obtain rfl := Option.some.inj (gTenH.symm.trans b1)
  obtain rfl := Option.some.inj (gTenTypeH.symm.trans b2)
  have hcs := Lib.cells_of_tab Tryd.underlying94 Tryd.underlying78 cellsU64H cellsTensH b4
  refine ⟨?_, by unfold Lib.TabIs; rw [b3, ← hcs]⟩
  refine Nat.lt_of_not_le fun hle => ?_
  have h0 : W.cell? ⟨0, 0, none⟩ = cs'[0]? := World.var?_cell gTenH b3 0
  rw [← Array.getElem?_toList, hcs] at h0
  simp only [World.cell?, Array.getElem?_eq_none hle] at h0
  cases h0

end Tk
end Go.Proofs.YtdlbmfgajgefdaaDoor
namespace Go.Proofs.YtdlbmfgajgefdaaDoor
open Go.RowKit
namespace Tk

/-- the byte at place t when the first i are in small letters -/
def mixR (l : Bs) (i t : Nat) : UInt8 := if t < i then lowB (l.getD t 0) else l.getD t 0
theorem bytesRow_atR (s : ByteArray) (cap t : Nat) (h : t < s.size) : (bytesRow s cap)[t]? = some (.int .u8 (((bs s).getD t 0).toNat : Int)) := by
  unfold bytesRow
  rw [Array.getElem?_append_left (by simpa using h), Array.getElem?_map]
  have e : (bs s).getD t 0 = s.data[t]'h := by rw [getD_bs s t h]; rfl
  rw [e, Array.getElem?_eq_getElem h]; rfl
theorem lowB_add (c : UInt8) (h0 : 65 ≤ c.toNat) (h1 : c.toNat ≤ 90) : ((lowB c).toNat : Int) = (c.toNat : Int) + 32 := by
  have := lowB_up c h0 h1; omega

end Tk
end Go.Proofs.YtdlbmfgajgefdaaDoor
namespace Go.Proofs.YtdlbmfgajgefdaaDoor
open Go.RowKit
namespace Tk

theorem beq_mkR (a b : Bs) : ((mkS a).toList == (mkS b).toList) = decide (a = b) := by
  rw [toList_bs, toList_bs, bs_mkS, bs_mkS]
  by_cases h : a = b <;> simp [h]

end Tk
end Go.Proofs.YtdlbmfgajgefdaaDoor
namespace Go.Proofs.YtdlbmfgajgefdaaDoor
open Go.RowKit
namespace Tk

theorem retB2 {a b : Bool} (h : a = b) : Ending.returned (.bool a) = .returned (.bool b) := by rw [h]

def tmarks : Bs := [33, 35, 36, 37, 38, 39, 42, 43, 45, 46, 94, 95, 96, 124, 126]
theorem kind_tchar (c : UInt8) : decide (2 ≤ kindOf c.toNat) = (isLet c || isDig c || tmarks.contains c) := by
  have := u8_all (fun c => decide (2 ≤ kindOf c.toNat) == (isLet c || isDig c || tmarks.contains c)) (by decide +kernel) c
  simpa using this

theorem kind_char8 (c : UInt8) : decide (1 ≤ kindOf c.toNat) = (decide (c.toNat = 9) || (decide (32 ≤ c.toNat) && decide (c.toNat ≤ 126)) || decide (128 ≤ c.toNat)) := by
  have := u8_all (fun c => decide (1 ≤ kindOf c.toNat) == (decide (c.toNat = 9) || (decide (32 ≤ c.toNat) && decide (c.toNat ≤ 126)) || decide (128 ≤ c.toNat))) (by decide +kernel) c
  simpa using this

end Tk
end Go.Proofs.YtdlbmfgajgefdaaDoor
namespace Go.Proofs.YtdlbmfgajgefdaaDoor
open Go.RowKit
namespace Tk

theorem tr_consW (c : UInt8) (l : Bs) (hc : wh c = true) : trimL (c :: l) = trimL l := by
  rw [trimL_eq, trimL_eq]
  unfold tr
  rw [List.reverse_cons, dropWhile_append]
  have h1 : ([c] : Bs).dropWhile wh = [] := by rw [List.dropWhile_cons, hc, if_pos rfl]; rfl
  by_cases h : l.reverse.dropWhile wh = []
  · rw [if_pos h, h, h1]
  · rw [if_neg h, List.reverse_append]
    show (c :: (l.reverse.dropWhile wh).reverse).dropWhile wh = _
    rw [List.dropWhile_cons, hc, if_pos rfl]
theorem tr_snocW (c : UInt8) (l : Bs) (hc : wh c = true) : trimL (l ++ [c]) = trimL l := by
  rw [trimL_eq, trimL_eq]
  congr 1
  unfold tr
  rw [List.reverse_append]
  show ((c :: l.reverse).dropWhile wh).reverse = _
  rw [List.dropWhile_cons, hc, if_pos rfl]
theorem wh_of (c : UInt8) : wh c = (decide (c.toNat = 32) || decide (c.toNat = 9)) := by
  have := u8_all (fun c => wh c == (decide (c.toNat = 32) || decide (c.toNat = 9))) (by decide +kernel) c
  simpa using this

end Tk
end Go.Proofs.YtdlbmfgajgefdaaDoor
namespace Go.Proofs.YtdlbmfgajgefdaaDoor
open Go.RowKit
namespace Tk

def spQ (q : Bool) (l : Bs) (b i : Nat) : List Bs := parts (spl (if q then 1 else 0) ((l.take i).drop b) (l.drop i))
def rest (l : Bs) (b : Nat) : List Bs := if b < l.length then addP (trimL (l.drop b)) else []
theorem spQ_start (l : Bs) : splitL l = spQ false l 0 0 := by simp [spQ, splitL]
theorem spQ_end (q : Bool) (l : Bs) (b i : Nat) (h : l.length ≤ i) : spQ q l b i = addP (trimL (l.drop b)) := by
  unfold spQ
  rw [List.take_of_length_le h, List.drop_eq_nil_of_le h]
  cases q <;> simp [spl, parts_one]
theorem spQ_esc (l : Bs) (b i : Nat) (hi : i + 1 < l.length) (hb : b ≤ i) (hc : l.getD i 0 = 92) : spQ true l b i = spQ true l b (i + 1 + 1) := by
  unfold spQ
  rw [if_pos rfl, drop_cons l i (by omega), hc, spl, if_pos rfl, drop_cons l (i + 1) hi, spl, take_snoc l (i + 1) hi, take_snoc l i (by omega), List.append_assoc, List.append_assoc, List.drop_append_of_le_length (by rw [List.length_take]; omega), hc]
theorem spQ_last (l : Bs) (b i : Nat) (hi : i + 1 = l.length) (hb : b ≤ i) (hc : l.getD i 0 = 92) : spQ true l b i = addP (trimL (l.drop b)) := by
  unfold spQ
  have e : l.drop b = (l.take i).drop b ++ [92] := by
    have h1 : l.take (i + 1) = l := List.take_of_length_le (by omega)
    rw [take_snoc l i (by omega), hc] at h1
    rw [← List.drop_append_of_le_length (by rw [List.length_take]; omega), h1]
  have e2 : l.drop (i + 1) = [] := List.drop_eq_nil_of_le (by omega)
  have e3 : ∀ c : Bs, spl 2 c [] = [c] := fun c => by simp [spl]
  rw [if_pos rfl, drop_cons l i (by omega), hc, spl, if_pos rfl, e2, e3, parts_one, e]
theorem spQ_close (l : Bs) (b i : Nat) (hi : i < l.length) (hb : b ≤ i) (hc : l.getD i 0 = 34) : spQ true l b i = spQ false l b (i + 1) := by
  unfold spQ
  rw [if_pos rfl, if_neg (by decide), drop_cons l i hi, hc, spl, if_neg (by decide), if_pos rfl, take_snoc l i hi, List.drop_append_of_le_length (by rw [List.length_take]; omega), hc]
theorem spQ_in (l : Bs) (b i : Nat) (hi : i < l.length) (hb : b ≤ i) (h1 : l.getD i 0 ≠ 92) (h2 : l.getD i 0 ≠ 34) : spQ true l b i = spQ true l b (i + 1) := by
  unfold spQ
  rw [if_pos rfl, drop_cons l i hi, spl, if_neg h1, if_neg h2, take_snoc l i hi, List.drop_append_of_le_length (by rw [List.length_take]; omega)]
theorem spQ_open (l : Bs) (b i : Nat) (hi : i < l.length) (hb : b ≤ i) (hc : l.getD i 0 = 34) : spQ false l b i = spQ true l b (i + 1) := by
  unfold spQ
  rw [if_neg (by decide), if_pos rfl, drop_cons l i hi, hc, spl, if_neg (by decide), if_pos rfl, take_snoc l i hi, List.drop_append_of_le_length (by rw [List.length_take]; omega), hc]
theorem spQ_out (l : Bs) (b i : Nat) (hi : i < l.length) (hb : b ≤ i) (h1 : l.getD i 0 ≠ 44) (h2 : l.getD i 0 ≠ 34) : spQ false l b i = spQ false l b (i + 1) := by
  unfold spQ
  rw [if_neg (by decide), drop_cons l i hi, spl, if_neg h1, if_neg h2, take_snoc l i hi, List.drop_append_of_le_length (by rw [List.length_take]; omega)]
theorem spQ_comma (l : Bs) (b i : Nat) (hi : i < l.length) (hc : l.getD i 0 = 44) : spQ false l b i = addP (trimL ((l.drop b).take (i - b))) ++ spQ false l (i + 1) (i + 1) := by
  unfold spQ
  rw [if_neg (by decide), drop_cons l i hi, hc, spl, if_pos rfl, parts_cons, List.drop_take, List.drop_take, Nat.sub_self, List.take_zero]
theorem rest_past (l : Bs) (b : Nat) (h : l.length ≤ b) : rest l b = [] := by unfold rest; rw [if_neg (by omega)]
theorem rest_left (l : Bs) (b : Nat) (h : b < l.length) : rest l b = addP (trimL (l.drop b)) := by unfold rest; rw [if_pos h]
theorem u8_eqb (c : UInt8) (n : Nat) (hn : n < 256) (h : ((c.toNat : Int) == n) = true) : c = UInt8.ofNat n := u8_is c n hn h

end Tk
end Go.Proofs.YtdlbmfgajgefdaaDoor
namespace Go.Proofs.YtdlbmfgajgefdaaDoor
open Go.RowKit
namespace Tk

end Tk
end Go.Proofs.YtdlbmfgajgefdaaDoor
namespace Go.Proofs.YtdlbmfgajgefdaaDoor
open Go.RowKit
namespace Tk

theorem joinB_snoc (P : List Bs) (x : Bs) : joinB (P ++ [x]) = if P = [] then x else joinB P ++ [44, 32] ++ x := by
  unfold joinB
  cases P with
  | nil => simp [Lib.join_one]
  | cons y r =>
    rw [if_neg (by simp), List.cons_append, Lib.join_cons, Lib.join_cons]
    simp [Lib.joinTail]
theorem joinB_len (P : List Bs) : (joinB P).length ≤ Lib.lens P + 2 * P.length := by
  unfold joinB
  cases P with
  | nil => simp [Lib.join_nil]
  | cons x r => rw [Lib.join_length]; simp only [List.length_cons, List.length_nil]; omega
theorem joinB_take (P : List Bs) (i : Nat) : (joinB (P.take i)).length ≤ Lib.lens P + 2 * P.length := by
  have h1 := joinB_len (P.take i)
  have h2 := Lib.lens_take_le P i
  rw [List.length_take] at h1
  omega
theorem lens_mem (P : List Bs) (x : Bs) (h : x ∈ P) : x.length ≤ Lib.lens P := by
  induction P with
  | nil => simp at h
  | cons y t ih =>
    rcases List.mem_cons.1 h with rfl | h
    · simp [Lib.lens]
    · have := ih h; simp [Lib.lens] at *; omega

end Tk
end Go.Proofs.YtdlbmfgajgefdaaDoor
namespace Go.Proofs.YtdlbmfgajgefdaaDoor
open Go.RowKit
namespace Tk

theorem delF_snocD (l : List (Bs × Bs)) (f : Bs × Bs) (name : Bs) : delF name (l ++ [f]) = delF name l ++ (if isN name f then [] else [f]) := by
  rw [delF_app]
  congr 1
  unfold delF
  cases h : isN name f <;> simp [h]
theorem keepD {w w' : World} {B : Nat} {v : Value} {n : Nat} {xs : List Value} {e : TypeId} {k : Nat} (h : w.ownsRow B e k v n xs) (hb : Below w.heap.size w w') : w'.ownsRow B e k v n xs :=
  World.ownsRow.kept h (row := none) ⟨hb.os, hb.tape, hb.output, hb.size, fun k hk _ => hb.block k hk⟩ (by cases h : v.ownBlock <;> simp)

end Tk
end Go.Proofs.YtdlbmfgajgefdaaDoor
namespace Go.Proofs.YtdlbmfgajgefdaaDoor
open Go.RowKit
namespace Tk

def stG (name x : Bs) : Bool → List (Bs × Bs) → List (Bs × Bs)
  | _, [] => []
  | th, f :: t => if isN name f then (if th then stG name x true t else (f.1, x) :: stG name x true t) else f :: stG name x th t
def anyN (name : Bs) (l : List (Bs × Bs)) : Bool := l.any (isN name)
theorem anyN_snoc (name : Bs) (l : List (Bs × Bs)) (f : Bs × Bs) : anyN name (l ++ [f]) = (anyN name l || isN name f) := by unfold anyN; simp
theorem stG_snoc (name x : Bs) (f : Bs × Bs) : ∀ (l : List (Bs × Bs)) (th : Bool), stG name x th (l ++ [f]) = stG name x th l ++ (if isN name f then (if th || anyN name l then [] else [(f.1, x)]) else [f])
  | [], th => by
    cases h : isN name f <;> cases th <;> simp [stG, h, anyN]
  | g :: t, th => by
    have h1 := stG_snoc name x f t true
    have h2 := stG_snoc name x f t th
    rw [List.cons_append]
    unfold stG
    cases hg : isN name g
    · simp only [Bool.false_eq_true, if_false, h2]
      rw [show anyN name (g :: t) = anyN name t by unfold anyN; simp [hg]]
      rfl
    · have ha : anyN name (g :: t) = true := by unfold anyN; simp [hg]
      cases th
      · simp only [if_true, Bool.false_eq_true, if_false, h1, ha]
        rfl
      · simp only [if_true, h1, ha]
        rfl
theorem stG_true (name x : Bs) : ∀ l : List (Bs × Bs), stG name x true l = delF name l
  | [] => rfl
  | f :: t => by
    rw [delF_cons]
    unfold stG
    rw [stG_true name x t]
    cases h : isN name f <;> simp
theorem stG_all (name x : Bs) : ∀ l : List (Bs × Bs), stG name x false l ++ (if anyN name l then [] else [(name, x)]) = setF name x l
  | [] => rfl
  | f :: t => by
    have ih := stG_all name x t
    unfold stG
    cases h : isN name f
    · rw [show anyN name (f :: t) = anyN name t by unfold anyN; simp [h]]
      simp only [Bool.false_eq_true, if_false, List.cons_append, ih]
      unfold setF
      rw [List.findIdx_cons, h]
      simp only [cond_false, List.length_cons, Nat.add_lt_add_iff_right]
      split
      · simp
      · simp
    · rw [show anyN name (f :: t) = true by unfold anyN; simp [h]]
      simp only [if_true, Bool.false_eq_true, if_false, List.append_nil, stG_true]
      unfold setF
      rw [List.findIdx_cons, h]
      simp
theorem stG_len (name x : Bs) : ∀ (l : List (Bs × Bs)) (th : Bool), (stG name x th l).length ≤ l.length
  | [], _ => Nat.le_refl _
  | f :: t, th => by
    have h1 := stG_len name x t true
    have h2 := stG_len name x t th
    unfold stG
    split
    · split
      · simp; omega
      · simp; omega
    · simp; omega

theorem below_put {w : World} {B k : Nat} (h : B ≤ k) (o : Nat) (v : Value) : Below B w (w.setCell ⟨k, o, none⟩ v) :=
  ⟨rfl, rfl, rfl, by simp, fun j hj => Below.heap_setCell _ _ _ _ (by show j ≠ k; omega)⟩
theorem own_aside {w : World} {B n size k : Nat} {v : Value} {xs : List Value} {e : TypeId} (h : w.ownsRow B e size v n xs) (hk : v.ownBlock ≠ some k) (o : Nat) (u : Value) : (w.setCell ⟨k, o, none⟩ u).ownsRow B e size v n xs := by
  rcases h.2 with hn | ⟨g, cap, cur, rfl, hb, hgg, rest⟩
  · exact ⟨h.1, .inl hn⟩
  · exact ⟨h.1, .inr ⟨g, cap, cur, rfl, hb, (Below.heap_setCell _ _ _ _ (by show g ≠ k; intro e2; exact hk (congrArg some e2))).trans hgg, rest⟩⟩

end Tk
end Go.Proofs.YtdlbmfgajgefdaaDoor
namespace Go.Proofs.YtdlbmfgajgefdaaDoor
open Go.RowKit
namespace Tk

theorem dig_at (i : Nat) (h : i < 10) : (⟨#[48, 49, 50, 51, 52, 53, 54, 55, 56, 57]⟩ : ByteArray).extract i (i + 1) = mkS (Lib.decDigits i) := by
  rw [Lib.decDigits_one h]
  have key : ∀ j : Fin 10, (⟨#[48, 49, 50, 51, 52, 53, 54, 55, 56, 57]⟩ : ByteArray).extract j.val (j.val + 1) = mkS [UInt8.ofNat (48 + j.val)] := by decide +kernel
  exact key ⟨i, h⟩
theorem dec_big (u : Nat) (h : ¬ u < 10) : Lib.decDigits u = Lib.decDigits (u / 10) ++ Lib.decDigits (u % 10) := by
  rw [Lib.decDigits, dif_neg h, Lib.decDigits_one (show u % 10 < 10 by omega)]

theorem dec_step (q r : Nat) (hq : q ≠ 0) (hr : r < 10) : Lib.decDigits (q * 10 + r) = Lib.decDigits q ++ [UInt8.ofNat (48 + r)] := by
  rw [dec_big _ (by omega), show (q * 10 + r) / 10 = q by omega, show (q * 10 + r) % 10 = r by omega, Lib.decDigits_one hr]
theorem min_eq : mkS (digI (-9223372036854775808)) = ⟨#[45, 57, 50, 50, 51, 51, 55, 50, 48, 51, 54, 56, 53, 52, 55, 55, 53, 56, 48, 56]⟩ := by
  unfold digI
  rw [show (-9223372036854775808 : Int) = -((9223372036854775808 : Nat) : Int) from rfl, Lib.itoa_neg _ (by decide)]
  rw [show (9223372036854775808 : Nat) = 922337203685477580 * 10 + 8 from rfl, dec_step 922337203685477580 8 (by decide) (by decide), show (922337203685477580 : Nat) = 92233720368547758 * 10 + 0 from rfl, dec_step 92233720368547758 0 (by decide) (by decide), show (92233720368547758 : Nat) = 9223372036854775 * 10 + 8 from rfl, dec_step 9223372036854775 8 (by decide) (by decide), show (9223372036854775 : Nat) = 922337203685477 * 10 + 5 from rfl, dec_step 922337203685477 5 (by decide) (by decide), show (922337203685477 : Nat) = 92233720368547 * 10 + 7 from rfl, dec_step 92233720368547 7 (by decide) (by decide), show (92233720368547 : Nat) = 9223372036854 * 10 + 7 from rfl, dec_step 9223372036854 7 (by decide) (by decide), show (9223372036854 : Nat) = 922337203685 * 10 + 4 from rfl, dec_step 922337203685 4 (by decide) (by decide), show (922337203685 : Nat) = 92233720368 * 10 + 5 from rfl, dec_step 92233720368 5 (by decide) (by decide), show (92233720368 : Nat) = 9223372036 * 10 + 8 from rfl, dec_step 9223372036 8 (by decide) (by decide), show (9223372036 : Nat) = 922337203 * 10 + 6 from rfl, dec_step 922337203 6 (by decide) (by decide), show (922337203 : Nat) = 92233720 * 10 + 3 from rfl, dec_step 92233720 3 (by decide) (by decide), show (92233720 : Nat) = 9223372 * 10 + 0 from rfl, dec_step 9223372 0 (by decide) (by decide), show (9223372 : Nat) = 922337 * 10 + 2 from rfl, dec_step 922337 2 (by decide) (by decide), show (922337 : Nat) = 92233 * 10 + 7 from rfl, dec_step 92233 7 (by decide) (by decide), show (92233 : Nat) = 9223 * 10 + 3 from rfl, dec_step 9223 3 (by decide) (by decide), show (9223 : Nat) = 922 * 10 + 3 from rfl, dec_step 922 3 (by decide) (by decide), show (922 : Nat) = 92 * 10 + 2 from rfl, dec_step 92 2 (by decide) (by decide), show (92 : Nat) = 9 * 10 + 2 from rfl, dec_step 9 2 (by decide) (by decide), Lib.decDigits_one (show 9 < 10 by decide)]
  rfl
end Tk
end Go.Proofs.YtdlbmfgajgefdaaDoor
