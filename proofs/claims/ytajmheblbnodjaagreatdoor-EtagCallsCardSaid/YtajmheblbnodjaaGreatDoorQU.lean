/- DrI, put together. -/
import Derived.Test.YtajmheblbnodjaaGreatDoorQS
import Derived.Test.YtajmheblbnodjaaGreatDoorQT
import Derived.Laws.AppendOwnNone
import Derived.Laws.OwnMore
import Derived.BigFrame
import Derived.Test.YtajmheblbnodjaaGreatDoorQC
import Derived.Deep.Cut
namespace Go.Proofs.YtajmheblbnodjaaGreatDoor
open Go.RowKit
namespace Tk

theorem civInfo : (Tryz.prog.info? 194).map (fun i => (i.zero, i.size, i.bytes)) = some (some (.agg #[.int .i64 0, .int .i64 0, .int .i64 0, .int .i64 0, .int .i64 0, .int .i64 0, .int .i64 0]), 7, 56) := by kernel_rfl
def ccells (l : List Cv) : List Value := l.flatMap fun c => (cvC c).toList
theorem ccells_len : ∀ l, (ccells l).length = l.length * 7
  | [] => rfl
  | c :: t => by
    have := ccells_len t
    unfold ccells at *
    rw [List.flatMap_cons, List.length_append, this]; simp [cvC]; omega
theorem ccells_get : ∀ (l : List Cv) (j : Nat) (c : Cv) (k : Nat) (u : Value), l[j]? = some c → (cvC c)[k]? = some u → (ccells l)[j * 7 + k]? = some u
  | [], j, c, k, u, h, _ => by simp at h
  | d :: t, 0, c, k, u, h, hk => by
    simp at h; subst h
    have hlt : k < 7 := (Array.getElem?_eq_some_iff.1 hk).1
    unfold ccells
    rw [List.flatMap_cons, List.getElem?_append_left (by show 0 * 7 + k < (cvC d).toList.length; simp [cvC]; omega)]
    rw [Nat.zero_mul, Nat.zero_add, Array.getElem?_toList]; exact hk
  | d :: t, j + 1, c, k, u, h, hk => by
    have := ccells_get t j c k u (by simpa using h) hk
    unfold ccells at *
    rw [List.flatMap_cons, List.getElem?_append_right (by show (cvC d).toList.length ≤ _; simp [cvC]; omega)]
    rw [show (j + 1) * 7 + k - (cvC d).toList.length = j * 7 + k by show _ - 7 = _; omega]
    exact this
theorem cell_ltD {w : World} {p : Addr} {v : Value} (h : w.cell? p = some v) : p.block < w.heap.size := by
  refine Nat.lt_of_not_le fun hle => ?_
  simp only [World.cell?, Array.getElem?_eq_none hle] at h
  cases h
/-- a slice of civil times -/
def IsCvs (w : World) (v : Value) (l : List Cv) : Prop := ∃ g cap, v = .slice (some ⟨g, 0, none⟩) l.length cap ∧ ∀ j c, l[j]? = some c → ∀ k u, (cvC c)[k]? = some u → w.cell? ⟨g, j * 7 + k, none⟩ = some u
theorem isCvs_own {w : World} {B : Nat} {v : Value} {l : List Cv} (h : w.ownsRow B 194 7 v l.length (ccells l)) (hne : l ≠ []) : IsCvs w v l := by
  rcases h.2 with ⟨hv, hn⟩ | ⟨g, cap, cur, hv, hb, hg, hcap, -⟩
  · exact absurd (List.eq_nil_of_length_eq_zero hn) hne
  · refine ⟨g, cap, hv, fun j c hj k u hk => ?_⟩
    have := h.cells (g := g) (by rw [hv]; rfl) (j * 7 + k) u (ccells_get l j c k u hj hk)
    rw [Go.WideShapes.add_plain, Nat.zero_add] at this
    exact this
theorem isCvs_below {w w' : World} {v : Value} {l : List Cv} (h : IsCvs w v l) (hb : Below w.heap.size w w') : IsCvs w' v l := by
  obtain ⟨g, cap, hv, hc⟩ := h
  exact ⟨g, cap, hv, fun j c hj k u hk => (hb.cell (p := ⟨g, j * 7 + k, none⟩) (cell_ltD (p := ⟨g, j * 7 + k, none⟩) (hc j c hj k u hk))).trans (hc j c hj k u hk)⟩
theorem own_keepD {w w' : World} {B : Nat} {v : Value} {n : Nat} {xs : List Value} {e : TypeId} {k : Nat} (h : w.ownsRow B e k v n xs) (hb : Below w.heap.size w w') : w'.ownsRow B e k v n xs :=
  World.ownsRow.kept h (row := none) ⟨hb.os, hb.tape, hb.output, hb.size, fun k hk _ => hb.block k hk⟩ (by cases h : v.ownBlock <;> simp)
theorem appC {w : World} {g : Nat} {T : TypeId} {cs : Array Value} (h : Bx w g T cs) (j : Nat) (u : Value) (hj : cs.toList[j]? = some u) : w.cell? ((⟨g, 0, none⟩ : Addr).add j) = some u := by
  rw [Go.WideShapes.add_plain, Nat.zero_add]
  exact h.cell j u (by rw [← Array.getElem?_toList]; exact hj)
theorem bxOtherD {w : World} {g k : Nat} {T : TypeId} {cs : Array Value} (h : Bx w g T cs) (hne : g ≠ k) (i : Nat) (v : Value) : Bx (w.setCell ⟨k, i, none⟩ v) g T cs :=
  (heap_setCell_other w ⟨k, i, none⟩ g v (fun e => hne e)).trans h
def triesL (s : Bs) (now : Int) : List Cv := [cvA s, cvK s] ++ (if 0 ≤ rnum s (cma s + 9) (cma s + 11) then [cvM s (yNow now)] else [])
def TriesPost (s : Bs) (now : Int) (w : World) (e : Ending) (w' : World) : Prop := ∃ v, e = .returned v ∧ IsCvs w' v (triesL s now) ∧ Below w.heap.size w w'

theorem val_two (l : Bs) (hl : l.length = 2) (hd : ∀ c ∈ l, isDig c = true) : valFrom 0 l ≤ 99 := by
  match l, hl with
  | [a, b], _ =>
    have h1 := hd a (by simp)
    have h2 := hd b (by simp)
    unfold isDig at h1 h2
    simp at h1 h2
    simp only [valFrom, List.foldl_cons, List.foldl_nil]
    omega
theorem rnum_99 (s : Bs) (a : Nat) : rnum s a (a + 2) ≤ 99 := by
  unfold rnum
  split
  · rename_i h
    have hl : ((s.drop a).take (a + 2 - a)).length = 2 := by rw [List.length_take, List.length_drop]; omega
    have := val_two _ hl (fun c hc => List.all_eq_true.1 h.2 c hc)
    omega
  · omega
theorem cma_le (s : Bs) : cma s ≤ s.length := by unfold cma; exact (List.takeWhile_sublist _).length_le
theorem cma_at (s : Bs) (i : Nat) (hi : i < s.length) (h1 : ∀ k, k < i → s.getD k 0 ≠ 44) (h2 : s.getD i 0 = 44) : cma s = i := by
  unfold cma
  induction s generalizing i with
  | nil => simp at hi
  | cons c t ih =>
    cases i with
    | zero =>
      have : c = 44 := by simpa using h2
      subst this
      simp
    | succ i =>
      have hc : c ≠ 44 := by have := h1 0 (by omega); simpa using this
      rw [List.takeWhile_cons, if_pos (by simp [hc]), List.length_cons]
      rw [ih i (by simpa using hi) (fun k hk => by have := h1 (k + 1) (by omega); simpa using this) (by simpa using h2)]
theorem cma_none (s : Bs) (h1 : ∀ k, k < s.length → s.getD k 0 ≠ 44) : cma s = s.length := by
  unfold cma
  induction s with
  | nil => rfl
  | cons c t ih =>
    have hc : c ≠ 44 := by have := h1 0 (by simp); simpa using this
    rw [List.takeWhile_cons, if_pos (by simp [hc]), List.length_cons]
    rw [ih (fun k hk => by have := h1 (k + 1) (by simpa using hk); simpa using this), List.length_cons]

set_option maxHeartbeats 16000000 in
set_option maxRecDepth 100000 in
theorem rtries_any (s : ByteArray) (now : Int) (w : World) (hs : s.size ≤ 900) :
    Calls Tryz.prog 173 #[.string s, .int .i64 now] w (TriesPost (bs s) now w) := by
  have Hn12_16 : Hid (∀ W : World, Calls Tryz.prog 221 #[.string s, .int .i64 12, .int .i64 16] W fun e w' => e = .returned (.int .i64 (rnum (bs s) 12 16)) ∧ W = w') := fun W => rnumber9_any s 12 16 W (by omega) (by omega) (by omega) (by omega)
  have Hn5_7 : Hid (∀ W : World, Calls Tryz.prog 221 #[.string s, .int .i64 5, .int .i64 7] W fun e w' => e = .returned (.int .i64 (rnum (bs s) 5 7)) ∧ W = w') := fun W => rnumber9_any s 5 7 W (by omega) (by omega) (by omega) (by omega)
  have Hn17_19 : Hid (∀ W : World, Calls Tryz.prog 221 #[.string s, .int .i64 17, .int .i64 19] W fun e w' => e = .returned (.int .i64 (rnum (bs s) 17 19)) ∧ W = w') := fun W => rnumber9_any s 17 19 W (by omega) (by omega) (by omega) (by omega)
  have Hn20_22 : Hid (∀ W : World, Calls Tryz.prog 221 #[.string s, .int .i64 20, .int .i64 22] W fun e w' => e = .returned (.int .i64 (rnum (bs s) 20 22)) ∧ W = w') := fun W => rnumber9_any s 20 22 W (by omega) (by omega) (by omega) (by omega)
  have Hn23_25 : Hid (∀ W : World, Calls Tryz.prog 221 #[.string s, .int .i64 23, .int .i64 25] W fun e w' => e = .returned (.int .i64 (rnum (bs s) 23 25)) ∧ W = w') := fun W => rnumber9_any s 23 25 W (by omega) (by omega) (by omega) (by omega)
  have Hn20_24 : Hid (∀ W : World, Calls Tryz.prog 221 #[.string s, .int .i64 20, .int .i64 24] W fun e w' => e = .returned (.int .i64 (rnum (bs s) 20 24)) ∧ W = w') := fun W => rnumber9_any s 20 24 W (by omega) (by omega) (by omega) (by omega)
  have Hn8_10 : Hid (∀ W : World, Calls Tryz.prog 221 #[.string s, .int .i64 8, .int .i64 10] W fun e w' => e = .returned (.int .i64 (rnum (bs s) 8 10)) ∧ W = w') := fun W => rnumber9_any s 8 10 W (by omega) (by omega) (by omega) (by omega)
  have Hn11_13 : Hid (∀ W : World, Calls Tryz.prog 221 #[.string s, .int .i64 11, .int .i64 13] W fun e w' => e = .returned (.int .i64 (rnum (bs s) 11 13)) ∧ W = w') := fun W => rnumber9_any s 11 13 W (by omega) (by omega) (by omega) (by omega)
  have Hn14_16 : Hid (∀ W : World, Calls Tryz.prog 221 #[.string s, .int .i64 14, .int .i64 16] W fun e w' => e = .returned (.int .i64 (rnum (bs s) 14 16)) ∧ W = w') := fun W => rnumber9_any s 14 16 W (by omega) (by omega) (by omega) (by omega)
  have Hn9_10 : Hid (∀ W : World, Calls Tryz.prog 221 #[.string s, .int .i64 9, .int .i64 10] W fun e w' => e = .returned (.int .i64 (rnum (bs s) 9 10)) ∧ W = w') := fun W => rnumber9_any s 9 10 W (by omega) (by omega) (by omega) (by omega)
  have HW8 : Hid (∀ W : World, Calls Tryz.prog 222 #[.string s, .int .i64 8] W fun e w' => e = .returned (.int .i64 (monNo (((bs s).drop 8).take 3))) ∧ Below W.heap.size W w') := fun W => rwhere_any s 8 W (by omega) (by omega)
  have HW4 : Hid (∀ W : World, Calls Tryz.prog 222 #[.string s, .int .i64 4] W fun e w' => e = .returned (.int .i64 (monNo (((bs s).drop 4).take 3))) ∧ Below W.heap.size W w') := fun W => rwhere_any s 4 W (by omega) (by omega)
  have hcm := cma_le (bs s)
  rw [length_bs] at hcm
  have HM9 : Hid (∀ W : World, Calls Tryz.prog 221 #[.string s, .int .i64 ((cma (bs s) : Int) + 9), .int .i64 ((cma (bs s) : Int) + 11)] W fun e w' => e = .returned (.int .i64 (rnum (bs s) (cma (bs s) + 9) (cma (bs s) + 11))) ∧ W = w') := fun W => by
    have := rnumber9_any s (cma (bs s) + 9) (cma (bs s) + 11) W (by omega) (by omega) (by omega) (by omega)
    rw [show ((cma (bs s) + 9 : Nat) : Int) = (cma (bs s) : Int) + 9 by omega, show ((cma (bs s) + 11 : Nat) : Int) = (cma (bs s) : Int) + 11 by omega] at this
    exact this
  have HM2 : Hid (∀ W : World, Calls Tryz.prog 221 #[.string s, .int .i64 ((cma (bs s) : Int) + 2), .int .i64 ((cma (bs s) : Int) + 4)] W fun e w' => e = .returned (.int .i64 (rnum (bs s) (cma (bs s) + 2) (cma (bs s) + 4))) ∧ W = w') := fun W => by
    have := rnumber9_any s (cma (bs s) + 2) (cma (bs s) + 4) W (by omega) (by omega) (by omega) (by omega)
    rw [show ((cma (bs s) + 2 : Nat) : Int) = (cma (bs s) : Int) + 2 by omega, show ((cma (bs s) + 4 : Nat) : Int) = (cma (bs s) : Int) + 4 by omega] at this
    exact this
  have HM12 : Hid (∀ W : World, Calls Tryz.prog 221 #[.string s, .int .i64 ((cma (bs s) : Int) + 12), .int .i64 ((cma (bs s) : Int) + 14)] W fun e w' => e = .returned (.int .i64 (rnum (bs s) (cma (bs s) + 12) (cma (bs s) + 14))) ∧ W = w') := fun W => by
    have := rnumber9_any s (cma (bs s) + 12) (cma (bs s) + 14) W (by omega) (by omega) (by omega) (by omega)
    rw [show ((cma (bs s) + 12 : Nat) : Int) = (cma (bs s) : Int) + 12 by omega, show ((cma (bs s) + 14 : Nat) : Int) = (cma (bs s) : Int) + 14 by omega] at this
    exact this
  have HM15 : Hid (∀ W : World, Calls Tryz.prog 221 #[.string s, .int .i64 ((cma (bs s) : Int) + 15), .int .i64 ((cma (bs s) : Int) + 17)] W fun e w' => e = .returned (.int .i64 (rnum (bs s) (cma (bs s) + 15) (cma (bs s) + 17))) ∧ W = w') := fun W => by
    have := rnumber9_any s (cma (bs s) + 15) (cma (bs s) + 17) W (by omega) (by omega) (by omega) (by omega)
    rw [show ((cma (bs s) + 15 : Nat) : Int) = (cma (bs s) : Int) + 15 by omega, show ((cma (bs s) + 17 : Nat) : Int) = (cma (bs s) : Int) + 17 by omega] at this
    exact this
  have HM18 : Hid (∀ W : World, Calls Tryz.prog 221 #[.string s, .int .i64 ((cma (bs s) : Int) + 18), .int .i64 ((cma (bs s) : Int) + 20)] W fun e w' => e = .returned (.int .i64 (rnum (bs s) (cma (bs s) + 18) (cma (bs s) + 20))) ∧ W = w') := fun W => by
    have := rnumber9_any s (cma (bs s) + 18) (cma (bs s) + 20) W (by omega) (by omega) (by omega) (by omega)
    rw [show ((cma (bs s) + 18 : Nat) : Int) = (cma (bs s) : Int) + 18 by omega, show ((cma (bs s) + 20 : Nat) : Int) = (cma (bs s) : Int) + 20 by omega] at this
    exact this
  have HMw : Hid (∀ W : World, Calls Tryz.prog 222 #[.string s, .int .i64 ((cma (bs s) : Int) + 5)] W fun e w' => e = .returned (.int .i64 (monNo (((bs s).drop (cma (bs s) + 5)).take 3))) ∧ Below W.heap.size W w') := fun W => by
    have := rwhere_any s (cma (bs s) + 5) W (by omega) (by omega)
    rw [show ((cma (bs s) + 5 : Nat) : Int) = (cma (bs s) : Int) + 5 by omega] at this
    exact this
  have h99 := rnum_99 (bs s) (cma (bs s) + 9)
  rw [show cma (bs s) + 9 + 2 = cma (bs s) + 11 by omega] at h99
  have HLt : Hid (0 ≤ rnum (bs s) (cma (bs s) + 9) (cma (bs s) + 11) → ∀ W : World, Calls Tryz.prog 223 #[.int .i64 (rnum (bs s) (cma (bs s) + 9) (cma (bs s) + 11)), .int .i64 now] W fun e w' => e = .returned (.int .i64 (lateY (rnum (bs s) (cma (bs s) + 9) (cma (bs s) + 11)) (yNow now))) ∧ Below W.heap.size W w') := fun h W => rlate_any _ now W ⟨h, h99⟩
  have HCat : Hid (∀ i (hi : i < s.size), (∀ k (hk : k < s.size), k < i → s[k] ≠ 44) → s[i] = 44 → cma (bs s) = i) := fun i hi h1 h2 => cma_at (bs s) i (by rw [length_bs]; exact hi) (fun k hk => by rw [getD_bs s k (by omega)]; exact h1 k (by omega) hk) (by rw [getD_bs s i hi]; exact h2)
  have HCno : Hid ((∀ k (hk : k < s.size), s[k] ≠ 44) → cma (bs s) = s.size) := fun h1 => by
    rw [cma_none (bs s) (fun k hk => by rw [length_bs] at hk; rw [getD_bs s k hk]; exact h1 k hk), length_bs]
  have hA : cvA (bs s) = ⟨rnum (bs s) 12 16, monNo (((bs s).drop 8).take 3), rnum (bs s) 5 7, rnum (bs s) 17 19, rnum (bs s) 20 22, rnum (bs s) 23 25, 0⟩ := rfl
  have hK : cvK (bs s) = ⟨rnum (bs s) 20 24, monNo (((bs s).drop 4).take 3), dyC (bs s), rnum (bs s) 11 13, rnum (bs s) 14 16, rnum (bs s) 17 19, 0⟩ := rfl
  have hM : cvM (bs s) (yNow now) = ⟨lateY (rnum (bs s) (cma (bs s) + 9) (cma (bs s) + 11)) (yNow now), monNo (((bs s).drop (cma (bs s) + 5)).take 3), rnum (bs s) (cma (bs s) + 2) (cma (bs s) + 4), rnum (bs s) (cma (bs s) + 12) (cma (bs s) + 14), rnum (bs s) (cma (bs s) + 15) (cma (bs s) + 17), rnum (bs s) (cma (bs s) + 18) (cma (bs s) + 20), 0⟩ := rfl
  have hT : triesL (bs s) now = [cvA (bs s), cvK (bs s)] ++ (if 0 ≤ rnum (bs s) (cma (bs s) + 9) (cma (bs s) + 11) then [cvM (bs s) (yNow now)] else []) := rfl
  have hD : dyC (bs s) = if 9 < s.size ∧ (bs s).getD 8 0 = 32 then rnum (bs s) 9 10 else rnum (bs s) 8 10 := by unfold dyC; rw [length_bs]
  have HT := Lib.hid hT
  have HA := Lib.hid hA
  have HK := Lib.hid hK
  have HM := Lib.hid hM
  have HD := Lib.hid hD
  have HG8 := Lib.hid (fun (h : 8 < s.size) => getD_bs s 8 h)
  unfold TriesPost
  clear hA hK hM hT hD
  generalize triesL (bs s) now = TL at *
  generalize cvA (bs s) = CA at *
  generalize cvK (bs s) = CK at *
  generalize cvM (bs s) (yNow now) = CM at *
  generalize dyC (bs s) = dy at *
  generalize monNo (((bs s).drop 8).take 3) = a1 at *
  generalize monNo (((bs s).drop 4).take 3) = b1 at *
  generalize monNo (((bs s).drop (cma (bs s) + 5)).take 3) = m1 at *
  generalize lateY (rnum (bs s) (cma (bs s) + 9) (cma (bs s) + 11)) (yNow now) = m0 at *
  generalize rnum (bs s) (cma (bs s) + 9) (cma (bs s) + 11) = mn at *
  generalize rnum (bs s) (cma (bs s) + 2) (cma (bs s) + 4) = m2 at *
  generalize rnum (bs s) (cma (bs s) + 12) (cma (bs s) + 14) = m3 at *
  generalize rnum (bs s) (cma (bs s) + 15) (cma (bs s) + 17) = m4 at *
  generalize rnum (bs s) (cma (bs s) + 18) (cma (bs s) + 20) = m5 at *
  generalize (bs s).getD 8 0 = g8 at *
  generalize cma (bs s) = cm at *
  generalize rnum (bs s) 5 7 = v5_7 at *
  generalize rnum (bs s) 8 10 = v8_10 at *
  generalize rnum (bs s) 9 10 = v9_10 at *
  generalize rnum (bs s) 11 13 = v11_13 at *
  generalize rnum (bs s) 12 16 = v12_16 at *
  generalize rnum (bs s) 14 16 = v14_16 at *
  generalize rnum (bs s) 17 19 = v17_19 at *
  generalize rnum (bs s) 20 22 = v20_22 at *
  generalize rnum (bs s) 20 24 = v20_24 at *
  generalize rnum (bs s) 23 25 = v23_25 at *
  go_enter Tryz.func173, Tryz.ntmps173
  clear h99
  go_wp2_with fail
  refine (Hn12_16.out _).mono ?_
  rintro e wx ⟨rfl, rfl⟩
  go_wp2_with fail
  refine (HW8.out _).mono ?_
  rintro e w1 ⟨rfl, hb⟩
  have HBw1 := Lib.hid hb
  clear hb
  go_wp2_with fail
  refine (Hn5_7.out _).mono ?_
  rintro e wx ⟨rfl, rfl⟩
  go_wp2_with fail
  refine (Hn17_19.out _).mono ?_
  rintro e wx ⟨rfl, rfl⟩
  go_wp2_with fail
  refine (Hn20_22.out _).mono ?_
  rintro e wx ⟨rfl, rfl⟩
  go_wp2_with fail
  refine (Hn23_25.out _).mono ?_
  rintro e wx ⟨rfl, rfl⟩
  have hXa : Bx (w1.alloc (.cells #[.int .i64 v12_16, .int .i64 a1, .int .i64 v5_7, .int .i64 v17_19, .int .i64 v20_22, .int .i64 v23_25, .int .i64 0] 194)) w1.heap.size 194 #[.int .i64 v12_16, .int .i64 a1, .int .i64 v5_7, .int .i64 v17_19, .int .i64 v20_22, .int .i64 v23_25, .int .i64 0] := Bx.new w1 194 _
  have hBa : Below w.heap.size w (w1.alloc (.cells #[.int .i64 v12_16, .int .i64 a1, .int .i64 v5_7, .int .i64 v17_19, .int .i64 v20_22, .int .i64 v23_25, .int .i64 0] 194)) := HBw1.out.alloc HBw1.out.size _
  have HXa := Lib.hid hXa
  have HBa := Lib.hid hBa
  clear hXa hBa
  go_upto_region 2 with (fail)
  generalize w1.alloc (.cells #[.int .i64 v12_16, .int .i64 a1, .int .i64 v5_7, .int .i64 v17_19, .int .i64 v20_22, .int .i64 v23_25, .int .i64 0] 194) = wa at *
  generalize w1.heap.size = ga at *
  go_wp2_with fail
  refine (Hn20_24.out _).mono ?_
  rintro e wx ⟨rfl, rfl⟩
  go_wp2_with fail
  refine (HW4.out _).mono ?_
  rintro e w2 ⟨rfl, hb⟩
  have HXa2 := Lib.hid (HXa.out.later hb)
  have HBw2 := Lib.hid (HBa.out.trans (hb.mono HBa.out.size))
  clear hb HXa
  go_wp2_with fail
  refine (Hn8_10.out _).mono ?_
  rintro e wx ⟨rfl, rfl⟩
  go_wp2_with fail
  refine (Hn11_13.out _).mono ?_
  rintro e wx ⟨rfl, rfl⟩
  go_wp2_with fail
  refine (Hn14_16.out _).mono ?_
  rintro e wx ⟨rfl, rfl⟩
  go_wp2_with fail
  refine (Hn17_19.out _).mono ?_
  rintro e wx ⟨rfl, rfl⟩
  have hXb : Bx (w2.alloc (.cells #[.int .i64 v20_24, .int .i64 b1, .int .i64 v8_10, .int .i64 v11_13, .int .i64 v14_16, .int .i64 v17_19, .int .i64 0] 194)) w2.heap.size 194 #[.int .i64 v20_24, .int .i64 b1, .int .i64 v8_10, .int .i64 v11_13, .int .i64 v14_16, .int .i64 v17_19, .int .i64 0] := Bx.new w2 194 _
  have hbb : Below w2.heap.size w2 (w2.alloc (.cells #[.int .i64 v20_24, .int .i64 b1, .int .i64 v8_10, .int .i64 v11_13, .int .i64 v14_16, .int .i64 v17_19, .int .i64 0] 194)) := (Below.refl _ _).alloc (Nat.le_refl _) _
  have hXa3 := HXa2.out.later hbb
  have hBb : Below w.heap.size w (w2.alloc (.cells #[.int .i64 v20_24, .int .i64 b1, .int .i64 v8_10, .int .i64 v11_13, .int .i64 v14_16, .int .i64 v17_19, .int .i64 0] 194)) := HBw2.out.alloc HBw2.out.size _
  have hgb : w.heap.size ≤ w2.heap.size := HBw2.out.size
  have hne : ga ≠ w2.heap.size := Nat.ne_of_lt HXa2.out.lt
  have HXb := Lib.hid hXb
  have HXa3 := Lib.hid hXa3
  have HBb := Lib.hid hBb
  clear hXb hbb hXa3 hBb HXa2 HBw2 HBw1
  go_upto_region 3 with (fail)
  generalize w2.alloc (.cells #[.int .i64 v20_24, .int .i64 b1, .int .i64 v8_10, .int .i64 v11_13, .int .i64 v14_16, .int .i64 v17_19, .int .i64 0] 194) = wb at *
  generalize w2.heap.size = gb at *
  have f2 := HXb.out.frozen 2
  have q2 := HXb.out.cell 2 _ rfl
  -- whether the day has one digit
  by_cases hd : 9 < s.size ∧ g8 = 32
  · have HDy : Hid (dy = v9_10) := by show _ = _; rw [HD.out, if_pos hd]
    have h8 : 8 < s.size := by omega
    have e8 : ((s[8]'h8).toNat : Int) = 32 := by rw [← HG8.out h8, hd.2]; rfl
    have e8b : (((s[8]'h8).toNat : Int) == 32) = true := by rw [e8]; rfl
    have l9 : (9 : Int) < (s.size : Int) := by omega
    clear hd e8 HD HG8
    go_wp2_with fail
    refine (Hn9_10.out _).mono ?_
    rintro e wx ⟨rfl, rfl⟩
    have HXc := Lib.hid (HXb.out.set 2 (.int .i64 v9_10))
    have HXa4 := Lib.hid (bxOtherD HXa3.out hne 2 (.int .i64 v9_10))
    have HBc := Lib.hid (HBb.out.setCell (p := ⟨gb, 2, none⟩) hgb (.int .i64 v9_10))
    go_upto_region 5 with (fail)
    generalize wb.setCell ⟨gb, 2, none⟩ (.int .i64 v9_10) = wc at *
    clear HXb HXa3 HBb f2 q2 l9 e8b
    have HCA : Hid (CA = ⟨v12_16, a1, v5_7, v17_19, v20_22, v23_25, 0⟩) := HA
    have HCK : Hid (CK = ⟨v20_24, b1, v9_10, v11_13, v14_16, v17_19, 0⟩) := by show _ = _; rw [HK.out, HDy.out]
    have x0 := HXa4.out.cell 0 _ rfl
    have y0 := HXc.out.cell 0 _ rfl
    have x1 := HXa4.out.cell 1 _ rfl
    have y1 := HXc.out.cell 1 _ rfl
    have x2 := HXa4.out.cell 2 _ rfl
    have y2 := HXc.out.cell 2 _ rfl
    have x3 := HXa4.out.cell 3 _ rfl
    have y3 := HXc.out.cell 3 _ rfl
    have x4 := HXa4.out.cell 4 _ rfl
    have y4 := HXc.out.cell 4 _ rfl
    have x5 := HXa4.out.cell 5 _ rfl
    have y5 := HXc.out.cell 5 _ rfl
    have x6 := HXa4.out.cell 6 _ rfl
    have y6 := HXc.out.cell 6 _ rfl
    have hOw := World.ownsRow_lit (base := w.heap.size) (e := 194) (size := 7) wc #[.int .i64 v12_16, .int .i64 a1, .int .i64 v5_7, .int .i64 v17_19, .int .i64 v20_22, .int .i64 v23_25, .int .i64 0, .int .i64 v20_24, .int .i64 b1, .int .i64 v9_10, .int .i64 v11_13, .int .i64 v14_16, .int .i64 v17_19, .int .i64 0] 2 HBc.out.size (by decide) rfl
    have hBd : Below w.heap.size w (wc.alloc (.cells #[.int .i64 v12_16, .int .i64 a1, .int .i64 v5_7, .int .i64 v17_19, .int .i64 v20_22, .int .i64 v23_25, .int .i64 0, .int .i64 v20_24, .int .i64 b1, .int .i64 v9_10, .int .i64 v11_13, .int .i64 v14_16, .int .i64 v17_19, .int .i64 0] 194)) := HBc.out.alloc HBc.out.size _
    have hEq : (#[.int .i64 v12_16, .int .i64 a1, .int .i64 v5_7, .int .i64 v17_19, .int .i64 v20_22, .int .i64 v23_25, .int .i64 0, .int .i64 v20_24, .int .i64 b1, .int .i64 v9_10, .int .i64 v11_13, .int .i64 v14_16, .int .i64 v17_19, .int .i64 0] : Array Value).toList = ccells [CA, CK] := by rw [HCA.out, HCK.out]; rfl
    rw [hEq] at hOw
    have HOw := Lib.hid hOw
    have HBd := Lib.hid hBd
    clear hOw hBd hEq HDy HK HA
    go_upto_region 6 with (fail)
    clear x0 x1 x2 x3 x4 x5 x6 y0 y1 y2 y3 y4 y5 y6
    generalize wc.alloc (.cells #[.int .i64 v12_16, .int .i64 a1, .int .i64 v5_7, .int .i64 v17_19, .int .i64 v20_22, .int .i64 v23_25, .int .i64 0, .int .i64 v20_24, .int .i64 b1, .int .i64 v9_10, .int .i64 v11_13, .int .i64 v14_16, .int .i64 v17_19, .int .i64 0] 194) = wd at *
    generalize wc.heap.size = gd at *
    go_wp2_with fail
    go_loop [8] (fun v8 => ∃ i : Nat, i ≤ s.size ∧ v8 = .int .i64 i ∧ Hid (∀ k (hk : k < s.size), k < i → s[k] ≠ 44)) (fun v8 => s.size - (RowKit.intOf v8).toNat)
    case atStart => exact ⟨0, Nat.zero_le _, rfl, fun k hk h => absurd h (Nat.not_lt_zero _)⟩
    case round =>
      obtain ⟨i, hi, rfl, HAl⟩ := hrel
      by_cases hgo : ∃ (hlt : i < s.size), s[i] ≠ 44
      · obtain ⟨hlt, hne44⟩ := hgo
        have b1 : ((s[i].toNat : Int) == 44) = false := by
          rw [beq_eq_false_iff_ne]; intro e; exact hne44 (u8_is _ 44 (by omega) (by rw [e]; rfl))
        have b2 : ((s[i].toNat : Int) != 44) = true := by unfold bne; rw [b1]; rfl
        have HA2 : Hid (∀ k (hk : k < s.size), k < i + 1 → s[k] ≠ 44) := by
          intro k hk hk2
          by_cases e : k = i
          · subst e; exact hne44
          · exact HAl.out k hk (by omega)
        clear hne44
        go_wp2_with fail
        exact ⟨⟨i + 1, hlt, by go_num, HA2⟩, by simp [RowKit.intOf]; omega⟩
      · have hcmi : cm = i := by
          by_cases hlt : i < s.size
          · exact HCat.out i hlt HAl.out (Classical.byContradiction fun h => hgo ⟨hlt, h⟩)
          · obtain rfl : i = s.size := by omega
            exact HCno.out (fun k hk => HAl.out k hk hk)
        subst hcmi
        have hfacts : (cm < s.size → ∀ h : cm < s.size, ((s[cm].toNat : Int) == 44) = true) := fun _ hlt => by
          have : s[cm] = 44 := Classical.byContradiction fun h => hgo ⟨hlt, h⟩
          rw [this]; rfl
        have HFa := Lib.hid hfacts
        clear hfacts hgo HAl HCat HCno
        by_cases hlt : cm < s.size
        · have b1 := HFa.out hlt hlt
          have b2 : ((s[cm].toNat : Int) != 44) = false := by unfold bne; rw [b1]; rfl
          go_wp2_with fail
          refine (HM9.out _).mono ?_
          rintro e wx ⟨rfl, rfl⟩
          by_cases hmn : 0 ≤ mn
          · have HTL : Hid (TL = [CA, CK] ++ [CM]) := by show _ = _; rw [HT.out, if_pos hmn]
            have HCM : Hid (CM = ⟨m0, m1, m2, m3, m4, m5, 0⟩) := HM
            have HLt1 := Lib.hid (HLt.out hmn)
            clear HT HLt HM
            go_wp2_with fail
            refine (HLt1.out _).mono ?_
            rintro e we ⟨rfl, hb⟩
            have HBe := Lib.hid (HBd.out.trans (hb.mono HBd.out.size))
            have HOe := Lib.hid (own_keepD HOw.out hb)
            clear hb
            go_wp2_with fail
            refine (HMw.out _).mono ?_
            rintro e wf ⟨rfl, hb⟩
            have HBf := Lib.hid (HBe.out.trans (hb.mono HBe.out.size))
            have HOf := Lib.hid (own_keepD HOe.out hb)
            clear hb
            go_wp2_with fail
            refine (HM2.out _).mono ?_
            rintro e wx ⟨rfl, rfl⟩
            go_wp2_with fail
            refine (HM12.out _).mono ?_
            rintro e wx ⟨rfl, rfl⟩
            go_wp2_with fail
            refine (HM15.out _).mono ?_
            rintro e wx ⟨rfl, rfl⟩
            go_wp2_with fail
            refine (HM18.out _).mono ?_
            rintro e wx ⟨rfl, rfl⟩
            have hbl : Below wf.heap.size wf (wf.alloc (.cells #[.int .i64 m0, .int .i64 m1, .int .i64 m2, .int .i64 m3, .int .i64 m4, .int .i64 m5, .int .i64 0] 194)) := (Below.refl _ _).alloc (Nat.le_refl _) _
            have HOg := Lib.hid (own_keepD HOf.out hbl)
            have HXg := Lib.hid (Bx.new wf 194 #[.int .i64 m0, .int .i64 m1, .int .i64 m2, .int .i64 m3, .int .i64 m4, .int .i64 m5, .int .i64 0])
            have HBg := Lib.hid (HBf.out.trans (hbl.mono HBf.out.size))
            have hsg : w.heap.size ≤ (wf.alloc (.cells #[.int .i64 m0, .int .i64 m1, .int .i64 m2, .int .i64 m3, .int .i64 m4, .int .i64 m5, .int .i64 0] 194)).heap.size := HBg.out.size
            clear hbl
            obtain ⟨i0, hi0, hz0, hz1, hz2⟩ := info_parts civInfo
            go_wp2_with (at_builtin; refine wpList_append_own _ rfl _ _ 200 rfl w.heap.size 194 i0 (.agg #[.int .i64 0, .int .i64 0, .int .i64 0, .int .i64 0, .int .i64 0, .int .i64 0, .int .i64 0]) 7 56 Tryz.underlying200 hi0 hz0 hz1 hz2 rfl (by decide) _ _ _ rfl HOg.out ⟨wf.heap.size, 0, none⟩ 1 1 [.int .i64 m0, .int .i64 m1, .int .i64 m2, .int .i64 m3, .int .i64 m4, .int .i64 m5, .int .i64 0] rfl rfl (fun j u hj => appC HXg.out j u hj) (by intro u hu; simp at hu; rcases hu with rfl | rfl | rfl | rfl | rfl | rfl | rfl <;> rfl) (by unfold maxLen; simp) (by simp) hsg ?_)
            intro v8 w8 ho8 hg8 _
            have HB8 := Lib.hid (HBg.out.trans ((Below.refl _ _).grown hg8 hsg fun k hk => (HOg.out.lt k hk).1))
            have hE8 : ccells [CA, CK] ++ [.int .i64 m0, .int .i64 m1, .int .i64 m2, .int .i64 m3, .int .i64 m4, .int .i64 m5, .int .i64 0] = ccells TL := by rw [HTL.out, HCM.out]; simp [ccells, cvC]
            have hL8 : TL.length = 3 := by rw [HTL.out]; rfl
            rw [hE8] at ho8
            have HO8 : Hid (IsCvs w8 v8 TL) := isCvs_own (by rw [hL8]; exact ho8) (by rw [HTL.out]; simp)
            clear ho8 hg8 hE8 hL8
            go_wp2_with fail
            go_ret
            exact ⟨_, rfl, HO8.out, HB8.out⟩
          · have HTL : Hid (TL = [CA, CK]) := by show _ = _; rw [HT.out, if_neg hmn]; simp
            have HO8 : Hid (IsCvs wd (.slice (some ⟨gd, 0, none⟩) 2 2) TL) := by show IsCvs _ _ _; rw [HTL.out]; exact isCvs_own HOw.out (by simp)
            go_wp2_with fail
            go_ret
            exact ⟨_, rfl, HO8.out, HBd.out⟩
        · clear HFa
          go_wp2_with fail
          refine (HM9.out _).mono ?_
          rintro e wx ⟨rfl, rfl⟩
          by_cases hmn : 0 ≤ mn
          · have HTL : Hid (TL = [CA, CK] ++ [CM]) := by show _ = _; rw [HT.out, if_pos hmn]
            have HCM : Hid (CM = ⟨m0, m1, m2, m3, m4, m5, 0⟩) := HM
            have HLt1 := Lib.hid (HLt.out hmn)
            clear HT HLt HM
            go_wp2_with fail
            refine (HLt1.out _).mono ?_
            rintro e we ⟨rfl, hb⟩
            have HBe := Lib.hid (HBd.out.trans (hb.mono HBd.out.size))
            have HOe := Lib.hid (own_keepD HOw.out hb)
            clear hb
            go_wp2_with fail
            refine (HMw.out _).mono ?_
            rintro e wf ⟨rfl, hb⟩
            have HBf := Lib.hid (HBe.out.trans (hb.mono HBe.out.size))
            have HOf := Lib.hid (own_keepD HOe.out hb)
            clear hb
            go_wp2_with fail
            refine (HM2.out _).mono ?_
            rintro e wx ⟨rfl, rfl⟩
            go_wp2_with fail
            refine (HM12.out _).mono ?_
            rintro e wx ⟨rfl, rfl⟩
            go_wp2_with fail
            refine (HM15.out _).mono ?_
            rintro e wx ⟨rfl, rfl⟩
            go_wp2_with fail
            refine (HM18.out _).mono ?_
            rintro e wx ⟨rfl, rfl⟩
            have hbl : Below wf.heap.size wf (wf.alloc (.cells #[.int .i64 m0, .int .i64 m1, .int .i64 m2, .int .i64 m3, .int .i64 m4, .int .i64 m5, .int .i64 0] 194)) := (Below.refl _ _).alloc (Nat.le_refl _) _
            have HOg := Lib.hid (own_keepD HOf.out hbl)
            have HXg := Lib.hid (Bx.new wf 194 #[.int .i64 m0, .int .i64 m1, .int .i64 m2, .int .i64 m3, .int .i64 m4, .int .i64 m5, .int .i64 0])
            have HBg := Lib.hid (HBf.out.trans (hbl.mono HBf.out.size))
            have hsg : w.heap.size ≤ (wf.alloc (.cells #[.int .i64 m0, .int .i64 m1, .int .i64 m2, .int .i64 m3, .int .i64 m4, .int .i64 m5, .int .i64 0] 194)).heap.size := HBg.out.size
            clear hbl
            obtain ⟨i0, hi0, hz0, hz1, hz2⟩ := info_parts civInfo
            go_wp2_with (at_builtin; refine wpList_append_own _ rfl _ _ 200 rfl w.heap.size 194 i0 (.agg #[.int .i64 0, .int .i64 0, .int .i64 0, .int .i64 0, .int .i64 0, .int .i64 0, .int .i64 0]) 7 56 Tryz.underlying200 hi0 hz0 hz1 hz2 rfl (by decide) _ _ _ rfl HOg.out ⟨wf.heap.size, 0, none⟩ 1 1 [.int .i64 m0, .int .i64 m1, .int .i64 m2, .int .i64 m3, .int .i64 m4, .int .i64 m5, .int .i64 0] rfl rfl (fun j u hj => appC HXg.out j u hj) (by intro u hu; simp at hu; rcases hu with rfl | rfl | rfl | rfl | rfl | rfl | rfl <;> rfl) (by unfold maxLen; simp) (by simp) hsg ?_)
            intro v8 w8 ho8 hg8 _
            have HB8 := Lib.hid (HBg.out.trans ((Below.refl _ _).grown hg8 hsg fun k hk => (HOg.out.lt k hk).1))
            have hE8 : ccells [CA, CK] ++ [.int .i64 m0, .int .i64 m1, .int .i64 m2, .int .i64 m3, .int .i64 m4, .int .i64 m5, .int .i64 0] = ccells TL := by rw [HTL.out, HCM.out]; simp [ccells, cvC]
            have hL8 : TL.length = 3 := by rw [HTL.out]; rfl
            rw [hE8] at ho8
            have HO8 : Hid (IsCvs w8 v8 TL) := isCvs_own (by rw [hL8]; exact ho8) (by rw [HTL.out]; simp)
            clear ho8 hg8 hE8 hL8
            go_wp2_with fail
            go_ret
            exact ⟨_, rfl, HO8.out, HB8.out⟩
          · have HTL : Hid (TL = [CA, CK]) := by show _ = _; rw [HT.out, if_neg hmn]; simp
            have HO8 : Hid (IsCvs wd (.slice (some ⟨gd, 0, none⟩) 2 2) TL) := by show IsCvs _ _ _; rw [HTL.out]; exact isCvs_own HOw.out (by simp)
            go_wp2_with fail
            go_ret
            exact ⟨_, rfl, HO8.out, HBd.out⟩
  · have HDy : Hid (dy = v8_10) := by show _ = _; rw [HD.out, if_neg hd]
    by_cases l9 : (9 : Int) < (s.size : Int)
    · have h8 : 8 < s.size := by omega
      have e8 : ((s[8]'h8).toNat : Int) ≠ 32 := fun e => hd ⟨by omega, by
        rw [HG8.out h8]
        exact u8_is _ 32 (by omega) (by rw [e]; rfl)⟩
      have e8b : (((s[8]'h8).toNat : Int) == 32) = false := by rw [beq_eq_false_iff_ne]; exact e8
      clear hd e8 HD HG8
      have HXc := HXb
      have HXa4 := HXa3
      have HBc := HBb
      go_upto_region 5 with (fail)
      clear HXb HXa3 HBb f2 q2 l9 e8b
      generalize wb = wc at *
      have HCA : Hid (CA = ⟨v12_16, a1, v5_7, v17_19, v20_22, v23_25, 0⟩) := HA
      have HCK : Hid (CK = ⟨v20_24, b1, v8_10, v11_13, v14_16, v17_19, 0⟩) := by show _ = _; rw [HK.out, HDy.out]
      have x0 := HXa4.out.cell 0 _ rfl
      have y0 := HXc.out.cell 0 _ rfl
      have x1 := HXa4.out.cell 1 _ rfl
      have y1 := HXc.out.cell 1 _ rfl
      have x2 := HXa4.out.cell 2 _ rfl
      have y2 := HXc.out.cell 2 _ rfl
      have x3 := HXa4.out.cell 3 _ rfl
      have y3 := HXc.out.cell 3 _ rfl
      have x4 := HXa4.out.cell 4 _ rfl
      have y4 := HXc.out.cell 4 _ rfl
      have x5 := HXa4.out.cell 5 _ rfl
      have y5 := HXc.out.cell 5 _ rfl
      have x6 := HXa4.out.cell 6 _ rfl
      have y6 := HXc.out.cell 6 _ rfl
      have hOw := World.ownsRow_lit (base := w.heap.size) (e := 194) (size := 7) wc #[.int .i64 v12_16, .int .i64 a1, .int .i64 v5_7, .int .i64 v17_19, .int .i64 v20_22, .int .i64 v23_25, .int .i64 0, .int .i64 v20_24, .int .i64 b1, .int .i64 v8_10, .int .i64 v11_13, .int .i64 v14_16, .int .i64 v17_19, .int .i64 0] 2 HBc.out.size (by decide) rfl
      have hBd : Below w.heap.size w (wc.alloc (.cells #[.int .i64 v12_16, .int .i64 a1, .int .i64 v5_7, .int .i64 v17_19, .int .i64 v20_22, .int .i64 v23_25, .int .i64 0, .int .i64 v20_24, .int .i64 b1, .int .i64 v8_10, .int .i64 v11_13, .int .i64 v14_16, .int .i64 v17_19, .int .i64 0] 194)) := HBc.out.alloc HBc.out.size _
      have hEq : (#[.int .i64 v12_16, .int .i64 a1, .int .i64 v5_7, .int .i64 v17_19, .int .i64 v20_22, .int .i64 v23_25, .int .i64 0, .int .i64 v20_24, .int .i64 b1, .int .i64 v8_10, .int .i64 v11_13, .int .i64 v14_16, .int .i64 v17_19, .int .i64 0] : Array Value).toList = ccells [CA, CK] := by rw [HCA.out, HCK.out]; rfl
      rw [hEq] at hOw
      have HOw := Lib.hid hOw
      have HBd := Lib.hid hBd
      clear hOw hBd hEq HDy HK HA
      go_upto_region 6 with (fail)
      clear x0 x1 x2 x3 x4 x5 x6 y0 y1 y2 y3 y4 y5 y6
      generalize wc.alloc (.cells #[.int .i64 v12_16, .int .i64 a1, .int .i64 v5_7, .int .i64 v17_19, .int .i64 v20_22, .int .i64 v23_25, .int .i64 0, .int .i64 v20_24, .int .i64 b1, .int .i64 v8_10, .int .i64 v11_13, .int .i64 v14_16, .int .i64 v17_19, .int .i64 0] 194) = wd at *
      generalize wc.heap.size = gd at *
      go_wp2_with fail
      go_loop [8] (fun v8 => ∃ i : Nat, i ≤ s.size ∧ v8 = .int .i64 i ∧ Hid (∀ k (hk : k < s.size), k < i → s[k] ≠ 44)) (fun v8 => s.size - (RowKit.intOf v8).toNat)
      case atStart => exact ⟨0, Nat.zero_le _, rfl, fun k hk h => absurd h (Nat.not_lt_zero _)⟩
      case round =>
        obtain ⟨i, hi, rfl, HAl⟩ := hrel
        by_cases hgo : ∃ (hlt : i < s.size), s[i] ≠ 44
        · obtain ⟨hlt, hne44⟩ := hgo
          have b1 : ((s[i].toNat : Int) == 44) = false := by
            rw [beq_eq_false_iff_ne]; intro e; exact hne44 (u8_is _ 44 (by omega) (by rw [e]; rfl))
          have b2 : ((s[i].toNat : Int) != 44) = true := by unfold bne; rw [b1]; rfl
          have HA2 : Hid (∀ k (hk : k < s.size), k < i + 1 → s[k] ≠ 44) := by
            intro k hk hk2
            by_cases e : k = i
            · subst e; exact hne44
            · exact HAl.out k hk (by omega)
          clear hne44
          go_wp2_with fail
          exact ⟨⟨i + 1, hlt, by go_num, HA2⟩, by simp [RowKit.intOf]; omega⟩
        · have hcmi : cm = i := by
            by_cases hlt : i < s.size
            · exact HCat.out i hlt HAl.out (Classical.byContradiction fun h => hgo ⟨hlt, h⟩)
            · obtain rfl : i = s.size := by omega
              exact HCno.out (fun k hk => HAl.out k hk hk)
          subst hcmi
          have hfacts : (cm < s.size → ∀ h : cm < s.size, ((s[cm].toNat : Int) == 44) = true) := fun _ hlt => by
            have : s[cm] = 44 := Classical.byContradiction fun h => hgo ⟨hlt, h⟩
            rw [this]; rfl
          have HFa := Lib.hid hfacts
          clear hfacts hgo HAl HCat HCno
          by_cases hlt : cm < s.size
          · have b1 := HFa.out hlt hlt
            have b2 : ((s[cm].toNat : Int) != 44) = false := by unfold bne; rw [b1]; rfl
            go_wp2_with fail
            refine (HM9.out _).mono ?_
            rintro e wx ⟨rfl, rfl⟩
            by_cases hmn : 0 ≤ mn
            · have HTL : Hid (TL = [CA, CK] ++ [CM]) := by show _ = _; rw [HT.out, if_pos hmn]
              have HCM : Hid (CM = ⟨m0, m1, m2, m3, m4, m5, 0⟩) := HM
              have HLt1 := Lib.hid (HLt.out hmn)
              clear HT HLt HM
              go_wp2_with fail
              refine (HLt1.out _).mono ?_
              rintro e we ⟨rfl, hb⟩
              have HBe := Lib.hid (HBd.out.trans (hb.mono HBd.out.size))
              have HOe := Lib.hid (own_keepD HOw.out hb)
              clear hb
              go_wp2_with fail
              refine (HMw.out _).mono ?_
              rintro e wf ⟨rfl, hb⟩
              have HBf := Lib.hid (HBe.out.trans (hb.mono HBe.out.size))
              have HOf := Lib.hid (own_keepD HOe.out hb)
              clear hb
              go_wp2_with fail
              refine (HM2.out _).mono ?_
              rintro e wx ⟨rfl, rfl⟩
              go_wp2_with fail
              refine (HM12.out _).mono ?_
              rintro e wx ⟨rfl, rfl⟩
              go_wp2_with fail
              refine (HM15.out _).mono ?_
              rintro e wx ⟨rfl, rfl⟩
              go_wp2_with fail
              refine (HM18.out _).mono ?_
              rintro e wx ⟨rfl, rfl⟩
              have hbl : Below wf.heap.size wf (wf.alloc (.cells #[.int .i64 m0, .int .i64 m1, .int .i64 m2, .int .i64 m3, .int .i64 m4, .int .i64 m5, .int .i64 0] 194)) := (Below.refl _ _).alloc (Nat.le_refl _) _
              have HOg := Lib.hid (own_keepD HOf.out hbl)
              have HXg := Lib.hid (Bx.new wf 194 #[.int .i64 m0, .int .i64 m1, .int .i64 m2, .int .i64 m3, .int .i64 m4, .int .i64 m5, .int .i64 0])
              have HBg := Lib.hid (HBf.out.trans (hbl.mono HBf.out.size))
              have hsg : w.heap.size ≤ (wf.alloc (.cells #[.int .i64 m0, .int .i64 m1, .int .i64 m2, .int .i64 m3, .int .i64 m4, .int .i64 m5, .int .i64 0] 194)).heap.size := HBg.out.size
              clear hbl
              obtain ⟨i0, hi0, hz0, hz1, hz2⟩ := info_parts civInfo
              go_wp2_with (at_builtin; refine wpList_append_own _ rfl _ _ 200 rfl w.heap.size 194 i0 (.agg #[.int .i64 0, .int .i64 0, .int .i64 0, .int .i64 0, .int .i64 0, .int .i64 0, .int .i64 0]) 7 56 Tryz.underlying200 hi0 hz0 hz1 hz2 rfl (by decide) _ _ _ rfl HOg.out ⟨wf.heap.size, 0, none⟩ 1 1 [.int .i64 m0, .int .i64 m1, .int .i64 m2, .int .i64 m3, .int .i64 m4, .int .i64 m5, .int .i64 0] rfl rfl (fun j u hj => appC HXg.out j u hj) (by intro u hu; simp at hu; rcases hu with rfl | rfl | rfl | rfl | rfl | rfl | rfl <;> rfl) (by unfold maxLen; simp) (by simp) hsg ?_)
              intro v8 w8 ho8 hg8 _
              have HB8 := Lib.hid (HBg.out.trans ((Below.refl _ _).grown hg8 hsg fun k hk => (HOg.out.lt k hk).1))
              have hE8 : ccells [CA, CK] ++ [.int .i64 m0, .int .i64 m1, .int .i64 m2, .int .i64 m3, .int .i64 m4, .int .i64 m5, .int .i64 0] = ccells TL := by rw [HTL.out, HCM.out]; simp [ccells, cvC]
              have hL8 : TL.length = 3 := by rw [HTL.out]; rfl
              rw [hE8] at ho8
              have HO8 : Hid (IsCvs w8 v8 TL) := isCvs_own (by rw [hL8]; exact ho8) (by rw [HTL.out]; simp)
              clear ho8 hg8 hE8 hL8
              go_wp2_with fail
              go_ret
              exact ⟨_, rfl, HO8.out, HB8.out⟩
            · have HTL : Hid (TL = [CA, CK]) := by show _ = _; rw [HT.out, if_neg hmn]; simp
              have HO8 : Hid (IsCvs wd (.slice (some ⟨gd, 0, none⟩) 2 2) TL) := by show IsCvs _ _ _; rw [HTL.out]; exact isCvs_own HOw.out (by simp)
              go_wp2_with fail
              go_ret
              exact ⟨_, rfl, HO8.out, HBd.out⟩
          · clear HFa
            go_wp2_with fail
            refine (HM9.out _).mono ?_
            rintro e wx ⟨rfl, rfl⟩
            by_cases hmn : 0 ≤ mn
            · have HTL : Hid (TL = [CA, CK] ++ [CM]) := by show _ = _; rw [HT.out, if_pos hmn]
              have HCM : Hid (CM = ⟨m0, m1, m2, m3, m4, m5, 0⟩) := HM
              have HLt1 := Lib.hid (HLt.out hmn)
              clear HT HLt HM
              go_wp2_with fail
              refine (HLt1.out _).mono ?_
              rintro e we ⟨rfl, hb⟩
              have HBe := Lib.hid (HBd.out.trans (hb.mono HBd.out.size))
              have HOe := Lib.hid (own_keepD HOw.out hb)
              clear hb
              go_wp2_with fail
              refine (HMw.out _).mono ?_
              rintro e wf ⟨rfl, hb⟩
              have HBf := Lib.hid (HBe.out.trans (hb.mono HBe.out.size))
              have HOf := Lib.hid (own_keepD HOe.out hb)
              clear hb
              go_wp2_with fail
              refine (HM2.out _).mono ?_
              rintro e wx ⟨rfl, rfl⟩
              go_wp2_with fail
              refine (HM12.out _).mono ?_
              rintro e wx ⟨rfl, rfl⟩
              go_wp2_with fail
              refine (HM15.out _).mono ?_
              rintro e wx ⟨rfl, rfl⟩
              go_wp2_with fail
              refine (HM18.out _).mono ?_
              rintro e wx ⟨rfl, rfl⟩
              have hbl : Below wf.heap.size wf (wf.alloc (.cells #[.int .i64 m0, .int .i64 m1, .int .i64 m2, .int .i64 m3, .int .i64 m4, .int .i64 m5, .int .i64 0] 194)) := (Below.refl _ _).alloc (Nat.le_refl _) _
              have HOg := Lib.hid (own_keepD HOf.out hbl)
              have HXg := Lib.hid (Bx.new wf 194 #[.int .i64 m0, .int .i64 m1, .int .i64 m2, .int .i64 m3, .int .i64 m4, .int .i64 m5, .int .i64 0])
              have HBg := Lib.hid (HBf.out.trans (hbl.mono HBf.out.size))
              have hsg : w.heap.size ≤ (wf.alloc (.cells #[.int .i64 m0, .int .i64 m1, .int .i64 m2, .int .i64 m3, .int .i64 m4, .int .i64 m5, .int .i64 0] 194)).heap.size := HBg.out.size
              clear hbl
              obtain ⟨i0, hi0, hz0, hz1, hz2⟩ := info_parts civInfo
              go_wp2_with (at_builtin; refine wpList_append_own _ rfl _ _ 200 rfl w.heap.size 194 i0 (.agg #[.int .i64 0, .int .i64 0, .int .i64 0, .int .i64 0, .int .i64 0, .int .i64 0, .int .i64 0]) 7 56 Tryz.underlying200 hi0 hz0 hz1 hz2 rfl (by decide) _ _ _ rfl HOg.out ⟨wf.heap.size, 0, none⟩ 1 1 [.int .i64 m0, .int .i64 m1, .int .i64 m2, .int .i64 m3, .int .i64 m4, .int .i64 m5, .int .i64 0] rfl rfl (fun j u hj => appC HXg.out j u hj) (by intro u hu; simp at hu; rcases hu with rfl | rfl | rfl | rfl | rfl | rfl | rfl <;> rfl) (by unfold maxLen; simp) (by simp) hsg ?_)
              intro v8 w8 ho8 hg8 _
              have HB8 := Lib.hid (HBg.out.trans ((Below.refl _ _).grown hg8 hsg fun k hk => (HOg.out.lt k hk).1))
              have hE8 : ccells [CA, CK] ++ [.int .i64 m0, .int .i64 m1, .int .i64 m2, .int .i64 m3, .int .i64 m4, .int .i64 m5, .int .i64 0] = ccells TL := by rw [HTL.out, HCM.out]; simp [ccells, cvC]
              have hL8 : TL.length = 3 := by rw [HTL.out]; rfl
              rw [hE8] at ho8
              have HO8 : Hid (IsCvs w8 v8 TL) := isCvs_own (by rw [hL8]; exact ho8) (by rw [HTL.out]; simp)
              clear ho8 hg8 hE8 hL8
              go_wp2_with fail
              go_ret
              exact ⟨_, rfl, HO8.out, HB8.out⟩
            · have HTL : Hid (TL = [CA, CK]) := by show _ = _; rw [HT.out, if_neg hmn]; simp
              have HO8 : Hid (IsCvs wd (.slice (some ⟨gd, 0, none⟩) 2 2) TL) := by show IsCvs _ _ _; rw [HTL.out]; exact isCvs_own HOw.out (by simp)
              go_wp2_with fail
              go_ret
              exact ⟨_, rfl, HO8.out, HBd.out⟩
    · clear hd HD HG8
      have HXc := HXb
      have HXa4 := HXa3
      have HBc := HBb
      go_upto_region 5 with (fail)
      clear HXb HXa3 HBb f2 q2 l9
      generalize wb = wc at *
      have HCA : Hid (CA = ⟨v12_16, a1, v5_7, v17_19, v20_22, v23_25, 0⟩) := HA
      have HCK : Hid (CK = ⟨v20_24, b1, v8_10, v11_13, v14_16, v17_19, 0⟩) := by show _ = _; rw [HK.out, HDy.out]
      have x0 := HXa4.out.cell 0 _ rfl
      have y0 := HXc.out.cell 0 _ rfl
      have x1 := HXa4.out.cell 1 _ rfl
      have y1 := HXc.out.cell 1 _ rfl
      have x2 := HXa4.out.cell 2 _ rfl
      have y2 := HXc.out.cell 2 _ rfl
      have x3 := HXa4.out.cell 3 _ rfl
      have y3 := HXc.out.cell 3 _ rfl
      have x4 := HXa4.out.cell 4 _ rfl
      have y4 := HXc.out.cell 4 _ rfl
      have x5 := HXa4.out.cell 5 _ rfl
      have y5 := HXc.out.cell 5 _ rfl
      have x6 := HXa4.out.cell 6 _ rfl
      have y6 := HXc.out.cell 6 _ rfl
      have hOw := World.ownsRow_lit (base := w.heap.size) (e := 194) (size := 7) wc #[.int .i64 v12_16, .int .i64 a1, .int .i64 v5_7, .int .i64 v17_19, .int .i64 v20_22, .int .i64 v23_25, .int .i64 0, .int .i64 v20_24, .int .i64 b1, .int .i64 v8_10, .int .i64 v11_13, .int .i64 v14_16, .int .i64 v17_19, .int .i64 0] 2 HBc.out.size (by decide) rfl
      have hBd : Below w.heap.size w (wc.alloc (.cells #[.int .i64 v12_16, .int .i64 a1, .int .i64 v5_7, .int .i64 v17_19, .int .i64 v20_22, .int .i64 v23_25, .int .i64 0, .int .i64 v20_24, .int .i64 b1, .int .i64 v8_10, .int .i64 v11_13, .int .i64 v14_16, .int .i64 v17_19, .int .i64 0] 194)) := HBc.out.alloc HBc.out.size _
      have hEq : (#[.int .i64 v12_16, .int .i64 a1, .int .i64 v5_7, .int .i64 v17_19, .int .i64 v20_22, .int .i64 v23_25, .int .i64 0, .int .i64 v20_24, .int .i64 b1, .int .i64 v8_10, .int .i64 v11_13, .int .i64 v14_16, .int .i64 v17_19, .int .i64 0] : Array Value).toList = ccells [CA, CK] := by rw [HCA.out, HCK.out]; rfl
      rw [hEq] at hOw
      have HOw := Lib.hid hOw
      have HBd := Lib.hid hBd
      clear hOw hBd hEq HDy HK HA
      go_upto_region 6 with (fail)
      clear x0 x1 x2 x3 x4 x5 x6 y0 y1 y2 y3 y4 y5 y6
      generalize wc.alloc (.cells #[.int .i64 v12_16, .int .i64 a1, .int .i64 v5_7, .int .i64 v17_19, .int .i64 v20_22, .int .i64 v23_25, .int .i64 0, .int .i64 v20_24, .int .i64 b1, .int .i64 v8_10, .int .i64 v11_13, .int .i64 v14_16, .int .i64 v17_19, .int .i64 0] 194) = wd at *
      generalize wc.heap.size = gd at *
      go_wp2_with fail
      go_loop [8] (fun v8 => ∃ i : Nat, i ≤ s.size ∧ v8 = .int .i64 i ∧ Hid (∀ k (hk : k < s.size), k < i → s[k] ≠ 44)) (fun v8 => s.size - (RowKit.intOf v8).toNat)
      case atStart => exact ⟨0, Nat.zero_le _, rfl, fun k hk h => absurd h (Nat.not_lt_zero _)⟩
      case round =>
        obtain ⟨i, hi, rfl, HAl⟩ := hrel
        by_cases hgo : ∃ (hlt : i < s.size), s[i] ≠ 44
        · obtain ⟨hlt, hne44⟩ := hgo
          have b1 : ((s[i].toNat : Int) == 44) = false := by
            rw [beq_eq_false_iff_ne]; intro e; exact hne44 (u8_is _ 44 (by omega) (by rw [e]; rfl))
          have b2 : ((s[i].toNat : Int) != 44) = true := by unfold bne; rw [b1]; rfl
          have HA2 : Hid (∀ k (hk : k < s.size), k < i + 1 → s[k] ≠ 44) := by
            intro k hk hk2
            by_cases e : k = i
            · subst e; exact hne44
            · exact HAl.out k hk (by omega)
          clear hne44
          go_wp2_with fail
          exact ⟨⟨i + 1, hlt, by go_num, HA2⟩, by simp [RowKit.intOf]; omega⟩
        · have hcmi : cm = i := by
            by_cases hlt : i < s.size
            · exact HCat.out i hlt HAl.out (Classical.byContradiction fun h => hgo ⟨hlt, h⟩)
            · obtain rfl : i = s.size := by omega
              exact HCno.out (fun k hk => HAl.out k hk hk)
          subst hcmi
          have hfacts : (cm < s.size → ∀ h : cm < s.size, ((s[cm].toNat : Int) == 44) = true) := fun _ hlt => by
            have : s[cm] = 44 := Classical.byContradiction fun h => hgo ⟨hlt, h⟩
            rw [this]; rfl
          have HFa := Lib.hid hfacts
          clear hfacts hgo HAl HCat HCno
          by_cases hlt : cm < s.size
          · have b1 := HFa.out hlt hlt
            have b2 : ((s[cm].toNat : Int) != 44) = false := by unfold bne; rw [b1]; rfl
            go_wp2_with fail
            refine (HM9.out _).mono ?_
            rintro e wx ⟨rfl, rfl⟩
            by_cases hmn : 0 ≤ mn
            · have HTL : Hid (TL = [CA, CK] ++ [CM]) := by show _ = _; rw [HT.out, if_pos hmn]
              have HCM : Hid (CM = ⟨m0, m1, m2, m3, m4, m5, 0⟩) := HM
              have HLt1 := Lib.hid (HLt.out hmn)
              clear HT HLt HM
              go_wp2_with fail
              refine (HLt1.out _).mono ?_
              rintro e we ⟨rfl, hb⟩
              have HBe := Lib.hid (HBd.out.trans (hb.mono HBd.out.size))
              have HOe := Lib.hid (own_keepD HOw.out hb)
              clear hb
              go_wp2_with fail
              refine (HMw.out _).mono ?_
              rintro e wf ⟨rfl, hb⟩
              have HBf := Lib.hid (HBe.out.trans (hb.mono HBe.out.size))
              have HOf := Lib.hid (own_keepD HOe.out hb)
              clear hb
              go_wp2_with fail
              refine (HM2.out _).mono ?_
              rintro e wx ⟨rfl, rfl⟩
              go_wp2_with fail
              refine (HM12.out _).mono ?_
              rintro e wx ⟨rfl, rfl⟩
              go_wp2_with fail
              refine (HM15.out _).mono ?_
              rintro e wx ⟨rfl, rfl⟩
              go_wp2_with fail
              refine (HM18.out _).mono ?_
              rintro e wx ⟨rfl, rfl⟩
              have hbl : Below wf.heap.size wf (wf.alloc (.cells #[.int .i64 m0, .int .i64 m1, .int .i64 m2, .int .i64 m3, .int .i64 m4, .int .i64 m5, .int .i64 0] 194)) := (Below.refl _ _).alloc (Nat.le_refl _) _
              have HOg := Lib.hid (own_keepD HOf.out hbl)
              have HXg := Lib.hid (Bx.new wf 194 #[.int .i64 m0, .int .i64 m1, .int .i64 m2, .int .i64 m3, .int .i64 m4, .int .i64 m5, .int .i64 0])
              have HBg := Lib.hid (HBf.out.trans (hbl.mono HBf.out.size))
              have hsg : w.heap.size ≤ (wf.alloc (.cells #[.int .i64 m0, .int .i64 m1, .int .i64 m2, .int .i64 m3, .int .i64 m4, .int .i64 m5, .int .i64 0] 194)).heap.size := HBg.out.size
              clear hbl
              obtain ⟨i0, hi0, hz0, hz1, hz2⟩ := info_parts civInfo
              go_wp2_with (at_builtin; refine wpList_append_own _ rfl _ _ 200 rfl w.heap.size 194 i0 (.agg #[.int .i64 0, .int .i64 0, .int .i64 0, .int .i64 0, .int .i64 0, .int .i64 0, .int .i64 0]) 7 56 Tryz.underlying200 hi0 hz0 hz1 hz2 rfl (by decide) _ _ _ rfl HOg.out ⟨wf.heap.size, 0, none⟩ 1 1 [.int .i64 m0, .int .i64 m1, .int .i64 m2, .int .i64 m3, .int .i64 m4, .int .i64 m5, .int .i64 0] rfl rfl (fun j u hj => appC HXg.out j u hj) (by intro u hu; simp at hu; rcases hu with rfl | rfl | rfl | rfl | rfl | rfl | rfl <;> rfl) (by unfold maxLen; simp) (by simp) hsg ?_)
              intro v8 w8 ho8 hg8 _
              have HB8 := Lib.hid (HBg.out.trans ((Below.refl _ _).grown hg8 hsg fun k hk => (HOg.out.lt k hk).1))
              have hE8 : ccells [CA, CK] ++ [.int .i64 m0, .int .i64 m1, .int .i64 m2, .int .i64 m3, .int .i64 m4, .int .i64 m5, .int .i64 0] = ccells TL := by rw [HTL.out, HCM.out]; simp [ccells, cvC]
              have hL8 : TL.length = 3 := by rw [HTL.out]; rfl
              rw [hE8] at ho8
              have HO8 : Hid (IsCvs w8 v8 TL) := isCvs_own (by rw [hL8]; exact ho8) (by rw [HTL.out]; simp)
              clear ho8 hg8 hE8 hL8
              go_wp2_with fail
              go_ret
              exact ⟨_, rfl, HO8.out, HB8.out⟩
            · have HTL : Hid (TL = [CA, CK]) := by show _ = _; rw [HT.out, if_neg hmn]; simp
              have HO8 : Hid (IsCvs wd (.slice (some ⟨gd, 0, none⟩) 2 2) TL) := by show IsCvs _ _ _; rw [HTL.out]; exact isCvs_own HOw.out (by simp)
              go_wp2_with fail
              go_ret
              exact ⟨_, rfl, HO8.out, HBd.out⟩
          · clear HFa
            go_wp2_with fail
            refine (HM9.out _).mono ?_
            rintro e wx ⟨rfl, rfl⟩
            by_cases hmn : 0 ≤ mn
            · have HTL : Hid (TL = [CA, CK] ++ [CM]) := by show _ = _; rw [HT.out, if_pos hmn]
              have HCM : Hid (CM = ⟨m0, m1, m2, m3, m4, m5, 0⟩) := HM
              have HLt1 := Lib.hid (HLt.out hmn)
              clear HT HLt HM
              go_wp2_with fail
              refine (HLt1.out _).mono ?_
              rintro e we ⟨rfl, hb⟩
              have HBe := Lib.hid (HBd.out.trans (hb.mono HBd.out.size))
              have HOe := Lib.hid (own_keepD HOw.out hb)
              clear hb
              go_wp2_with fail
              refine (HMw.out _).mono ?_
              rintro e wf ⟨rfl, hb⟩
              have HBf := Lib.hid (HBe.out.trans (hb.mono HBe.out.size))
              have HOf := Lib.hid (own_keepD HOe.out hb)
              clear hb
              go_wp2_with fail
              refine (HM2.out _).mono ?_
              rintro e wx ⟨rfl, rfl⟩
              go_wp2_with fail
              refine (HM12.out _).mono ?_
              rintro e wx ⟨rfl, rfl⟩
              go_wp2_with fail
              refine (HM15.out _).mono ?_
              rintro e wx ⟨rfl, rfl⟩
              go_wp2_with fail
              refine (HM18.out _).mono ?_
              rintro e wx ⟨rfl, rfl⟩
              have hbl : Below wf.heap.size wf (wf.alloc (.cells #[.int .i64 m0, .int .i64 m1, .int .i64 m2, .int .i64 m3, .int .i64 m4, .int .i64 m5, .int .i64 0] 194)) := (Below.refl _ _).alloc (Nat.le_refl _) _
              have HOg := Lib.hid (own_keepD HOf.out hbl)
              have HXg := Lib.hid (Bx.new wf 194 #[.int .i64 m0, .int .i64 m1, .int .i64 m2, .int .i64 m3, .int .i64 m4, .int .i64 m5, .int .i64 0])
              have HBg := Lib.hid (HBf.out.trans (hbl.mono HBf.out.size))
              have hsg : w.heap.size ≤ (wf.alloc (.cells #[.int .i64 m0, .int .i64 m1, .int .i64 m2, .int .i64 m3, .int .i64 m4, .int .i64 m5, .int .i64 0] 194)).heap.size := HBg.out.size
              clear hbl
              obtain ⟨i0, hi0, hz0, hz1, hz2⟩ := info_parts civInfo
              go_wp2_with (at_builtin; refine wpList_append_own _ rfl _ _ 200 rfl w.heap.size 194 i0 (.agg #[.int .i64 0, .int .i64 0, .int .i64 0, .int .i64 0, .int .i64 0, .int .i64 0, .int .i64 0]) 7 56 Tryz.underlying200 hi0 hz0 hz1 hz2 rfl (by decide) _ _ _ rfl HOg.out ⟨wf.heap.size, 0, none⟩ 1 1 [.int .i64 m0, .int .i64 m1, .int .i64 m2, .int .i64 m3, .int .i64 m4, .int .i64 m5, .int .i64 0] rfl rfl (fun j u hj => appC HXg.out j u hj) (by intro u hu; simp at hu; rcases hu with rfl | rfl | rfl | rfl | rfl | rfl | rfl <;> rfl) (by unfold maxLen; simp) (by simp) hsg ?_)
              intro v8 w8 ho8 hg8 _
              have HB8 := Lib.hid (HBg.out.trans ((Below.refl _ _).grown hg8 hsg fun k hk => (HOg.out.lt k hk).1))
              have hE8 : ccells [CA, CK] ++ [.int .i64 m0, .int .i64 m1, .int .i64 m2, .int .i64 m3, .int .i64 m4, .int .i64 m5, .int .i64 0] = ccells TL := by rw [HTL.out, HCM.out]; simp [ccells, cvC]
              have hL8 : TL.length = 3 := by rw [HTL.out]; rfl
              rw [hE8] at ho8
              have HO8 : Hid (IsCvs w8 v8 TL) := isCvs_own (by rw [hL8]; exact ho8) (by rw [HTL.out]; simp)
              clear ho8 hg8 hE8 hL8
              go_wp2_with fail
              go_ret
              exact ⟨_, rfl, HO8.out, HB8.out⟩
            · have HTL : Hid (TL = [CA, CK]) := by show _ = _; rw [HT.out, if_neg hmn]; simp
              have HO8 : Hid (IsCvs wd (.slice (some ⟨gd, 0, none⟩) 2 2) TL) := by show IsCvs _ _ _; rw [HTL.out]; exact isCvs_own HOw.out (by simp)
              go_wp2_with fail
              go_ret
              exact ⟨_, rfl, HO8.out, HBd.out⟩
end Tk
end Go.Proofs.YtajmheblbnodjaaGreatDoor
