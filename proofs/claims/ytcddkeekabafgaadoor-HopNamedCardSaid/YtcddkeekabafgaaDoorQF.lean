/- RefD LtT BasD, put together. -/
import Derived.Test.YtcddkeekabafgaaDoorQE
import Derived.Test.YtcddkeekabafgaaDoorQB
import Derived.Test.YtcddkeekabafgaaDoorQD
import Derived.Test.YtcddkeekabafgaaDoorQA
namespace Go.Proofs.YtcddkeekabafgaaDoor
open Go.RowKit
namespace Tk

theorem joinB_snoc (P : List Bs) (x : Bs) : joinB (P ++ [x]) = if P = [] then x else joinB P ++ [44, 32] ++ x := by
  unfold joinB
  cases P with
  | nil => simp [Lib.join_one]
  | cons y r =>
    rw [if_neg (by simp), List.cons_append, Lib.join_cons, Lib.join_cons]
    simp [Lib.joinTail]
theorem joinB_len (P : List Bs) : (joinB P).length ≤ Lib.lens P + 2 * P.length := by
  unfold joinB
  cases P with
  | nil => simp [Lib.join_nil]
  | cons x r => rw [Lib.join_length]; simp only [List.length_cons, List.length_nil]; omega
theorem joinB_take (P : List Bs) (i : Nat) : (joinB (P.take i)).length ≤ Lib.lens P + 2 * P.length := by
  have h1 := joinB_len (P.take i)
  have h2 := Lib.lens_take_le P i
  rw [List.length_take] at h1
  omega
theorem lens_mem (P : List Bs) (x : Bs) (h : x ∈ P) : x.length ≤ Lib.lens P := by
  induction P with
  | nil => simp at h
  | cons y t ih =>
    rcases List.mem_cons.1 h with rfl | h
    · simp [Lib.lens]
    · have := ih h; simp [Lib.lens] at *; omega

set_option maxHeartbeats 4000000 in
set_option maxRecDepth 100000 in
theorem rjoin_any (v : Value) (P : List Bs) (w : World) (hs : IsStrs w v P) (hP : P.length ≤ 1048576) (hj : Lib.lens P + 2 * P.length ≤ 1000000) :
    Calls Tryd.prog 40 #[v] w fun e w' => e = .returned (.string (mkS (joinB P))) ∧ w = w' := by
  obtain ⟨a, c, rfl, hc⟩ := hs
  have HC := Lib.hid hc
  have HT := Lib.hid (joinB_take P)
  have HM := Lib.hid (lens_mem P)
  clear hc
  go_enter Tryd.func40, Tryd.ntmps40
  go_wp2_with fail
  go_loop [3, 4] (fun vs vi => ∃ i : Nat, i ≤ P.length ∧ vi = .int .i64 i ∧ vs = .string (mkS (joinB (P.take i)))) (fun _ vi => P.length - (RowKit.intOf vi).toNat)
  case atStart => exact ⟨0, Nat.zero_le _, rfl, rfl⟩
  case round =>
    obtain ⟨i, hi, rfl, rfl⟩ := hrel
    by_cases hlt : i < P.length
    · obtain ⟨b, o, rfl, hc0⟩ := HC.out i (P.getD i []) (by simp [List.getD, hlt])
      have htk : P.take (i + 1) = P.take i ++ [P.getD i []] := by rw [List.take_succ_eq_append_getElem hlt]; simp [List.getD, hlt]
      have hsn := joinB_snoc (P.take i) (P.getD i [])
      rw [← htk] at hsn
      have hz := HT.out i
      have hxz := HM.out (P.getD i []) (by simp [List.getD, hlt])
      have hnil : P.take i = [] ↔ i = 0 := by
        rw [List.take_eq_nil_iff]
        constructor
        · rintro (h | h)
          · exact h
          · rw [h] at hlt; simp at hlt
        · exact .inl
      clear htk
      generalize P.getD i [] = x at *
      generalize hJ2 : joinB (P.take (i + 1)) = J2 at *
      generalize hJ : joinB (P.take i) = J at *
      have HJ2 := Lib.hid hJ2
      have z1 := size_mkS J
      have z2 := size_mkS x
      have y1 : (mkS J).size ≤ 1000000 := by omega
      have y2 : (mkS x).size ≤ 1000000 := by omega
      have g0 : (0 : Int) ≤ (i : Int) := by omega
      have g1 : (i : Int) < (P.length : Int) := by omega
      by_cases hi0 : i = 0
      · have e0 : ¬ (0 : Int) < (i : Int) := by omega
        have hJe : J = [] := by rw [← hJ, hnil.2 hi0]; rfl
        rw [if_pos (hnil.2 hi0)] at hsn
        have E : Hid (mkS J ++ mkS x = mkS J2) := by show _ = _; rw [hJe, hsn, mkS_append]; rfl
        clear hnil hsn hJ hJ2 z1 z2 hi0 hJe
        go_wp2_with fail
        exact ⟨⟨i + 1, hlt, by go_num, by rw [HJ2.out]; exact congrArg Value.string E.out⟩, by simp [RowKit.intOf]; omega⟩
      · have e0 : (0 : Int) < (i : Int) := by omega
        rw [if_neg (fun h => hi0 (hnil.1 h))] at hsn
        have E : Hid (mkS J ++ ⟨#[44, 32]⟩ ++ mkS x = mkS J2) := by show _ = _; rw [hsn, ← mkS_append, ← mkS_append]; rfl
        clear hnil hsn hJ hJ2 z1 z2 hi0
        go_wp2_with fail
        exact ⟨⟨i + 1, hlt, by go_num, by rw [HJ2.out]; exact congrArg Value.string E.out⟩, by simp [RowKit.intOf]; omega⟩
    · have hil : P.take i = P := List.take_of_length_le (by omega)
      have HF := Lib.hid hil
      clear hil
      go_wp2_with fail
      go_ret
      exact ⟨by rw [HF.out]; rfl, rfl⟩

set_option maxHeartbeats 4000000 in
set_option maxRecDepth 100000 in
theorem rget_any (v : Value) (l : List (Bs × Bs)) (name : Bs) (w : World) (hs : IsFlds w v l) (hz : sumF l ≤ 1000000) (hn : name.length ≤ 1099511627776) (hl : l.length ≤ 1048576) :
    Calls Tryd.prog 24 #[v, .string (mkS name)] w fun e w' => e = .returned (.tuple #[.string (mkS (joinB (allF l name))), .bool (decide (0 < (allF l name).length))]) ∧ Below w.heap.size w w' := by
  have HA := Lib.hid (rall_any v l name w hs (sum_each l (by omega)) hn hl)
  unfold ListPost at HA
  obtain ⟨a, cap, rfl⟩ : ∃ a cap, v = .slice a l.length cap := by obtain ⟨a, c, h, -⟩ := hs; exact ⟨a, c, h⟩
  have hal := allF_len l name
  have hsm := sum_all name l
  have hP : (allF l name).length ≤ 1048576 := by omega
  have hj : Lib.lens (allF l name) + 2 * (allF l name).length ≤ 1000000 := by omega
  clear hs hz hal hsm
  generalize allF l name = P at *
  go_enter Tryd.func24, Tryd.ntmps24
  go_wp2_with fail
  refine HA.out.mono ?_
  rintro e w1 ⟨v1, rfl, ho, hb⟩
  have HB := Lib.hid hb
  have HJ := Lib.hid (rjoin_any v1 P w1 (isStrs_own ho) hP hj)
  obtain ⟨a1, c1, rfl⟩ : ∃ a c, v1 = .slice a P.length c := by obtain ⟨a, c, h, -⟩ := isStrs_own ho; exact ⟨a, c, h⟩
  clear ho hb hj
  by_cases hp : 0 < P.length
  all_goals
    go_wp2_with fail
    refine HJ.out.mono ?_
    rintro e w' ⟨rfl, rfl⟩
    go_wp2_with fail
    go_ret2
    exact ⟨by first | (rw [decide_eq_true hp]; done) | (rw [decide_eq_false hp]; done) | (simp [hp]; done) | rfl, HB.out⟩
end Tk
end Go.Proofs.YtcddkeekabafgaaDoor
namespace Go.Proofs.YtcddkeekabafgaaDoor
open Go.RowKit
namespace Tk

/-- may the texts be gone through: so many bytes together -/
def txGo (b : Nat) : Nat → List Bs → Bool
  | _, [] => true
  | n, x :: t => if b < n + x.length then false else txGo b (n + x.length) t
def lightX (M b : Nat) (l : List Bs) : Bool := decide (l.length ≤ M) && txGo b 0 l
theorem txGo_each (b : Nat) : ∀ (l : List Bs) (n : Nat), txGo b n l = true → ∀ x ∈ l, x.length ≤ b
  | [], _, _, x, hx => by simp at hx
  | y :: t, n, h, x, hx => by
    unfold txGo at h
    split at h
    · cases h
    · rcases List.mem_cons.1 hx with rfl | hx
      · omega
      · exact txGo_each b t _ h x hx
theorem lightX_parts (M b : Nat) (l : List Bs) (h : lightX M b l = true) : l.length ≤ M ∧ ∀ x ∈ l, x.length ≤ b := by
  unfold lightX at h
  rw [Bool.and_eq_true, decide_eq_true_eq] at h
  exact ⟨h.1, txGo_each b l 0 h.2⟩

set_option maxHeartbeats 2000000 in
set_option maxRecDepth 100000 in
theorem lightX_any (M b : Nat) (v : Value) (l : List Bs) (w : World) (hM : M ≤ 1000000) (hb : b ≤ 1000000) (hs : IsStrs w v l) (hz : ∀ x ∈ l, x.length ≤ 140737488351232) (hl : l.length ≤ 140737488351232) :
    Calls Tryd.prog 20 #[v, .int .i64 (M : Int), .int .i64 (b : Int)] w fun e w' => e = .returned (.bool (lightX M b l)) ∧ w = w' := by
  obtain ⟨a, c, rfl, hc⟩ := hs
  have HC := Lib.hid hc
  have HZ := Lib.hid hz
  clear hc hz
  by_cases h20 : M < l.length
  · have fin : lightX M b l = false := by unfold lightX; rw [decide_eq_false (by omega)]; rfl
    have HF := Lib.hid fin
    have h' : (M : Int) < (l.length : Int) := by omega
    clear fin
    go_enter Tryd.func20, Tryd.ntmps20
    go_wp2_with fail
    go_ret
    exact ⟨by rw [HF.out]; rfl, rfl⟩
  · have fin : lightX M b l = txGo b 0 l := by unfold lightX; rw [decide_eq_true (by omega)]; rfl
    have HF := Lib.hid fin
    have h' : ¬ (M : Int) < (l.length : Int) := by omega
    clear fin
    go_enter Tryd.func20, Tryd.ntmps20
    go_wp2_with fail
    go_loop [7, 8] (fun vn vi => ∃ (i n : Nat), i ≤ l.length ∧ n ≤ b ∧ vi = .int .i64 i ∧ vn = .int .i64 n ∧ Hid (lightX M b l = txGo b n (l.drop i))) (fun _ vi => l.length - (RowKit.intOf vi).toNat)
    case atStart => exact ⟨0, 0, by omega, by omega, rfl, rfl, HF.out⟩
    case round =>
      obtain ⟨i, n, hi, hn, rfl, rfl, hd⟩ := hrel
      by_cases hlt : i < l.length
      · obtain ⟨bb, o, rfl, hcell⟩ := HC.out i (l.getD i []) (by simp [List.getD, hlt])
        have hxl := HZ.out (l.getD i []) (by simp [List.getD, hlt])
        have hdr : l.drop i = l.getD i [] :: l.drop (i + 1) := by rw [List.drop_eq_getElem_cons hlt]; simp [List.getD, hlt]
        have HD := Lib.hid hdr
        have hsz : (mkS (l.getD i [])).size = (l.getD i []).length := size_mkS _
        clear hdr
        generalize l.getD i [] = x at *
        have HS := Lib.hid hsz
        have hxz : (mkS x).size ≤ 140737488351232 := by omega
        clear hsz
        by_cases hbb : b < n + (mkS x).size
        · have fin : lightX M b l = false := by
            rw [hd.out, HD.out, txGo, if_pos (by rw [← HS.out]; exact hbb)]
          have HF2 := Lib.hid fin
          have hb' : (b : Int) < (n : Int) + ((mkS x).size : Int) := by omega
          clear fin
          generalize mkS x = s at *
          go_wp2_with fail
          go_ret
          exact ⟨by rw [HF2.out]; rfl, rfl⟩
        · have nx : lightX M b l = txGo b (n + (mkS x).size) (l.drop (i + 1)) := by
            rw [hd.out, HD.out, txGo, if_neg (by rw [← HS.out]; exact hbb), HS.out]
          have HN := Lib.hid nx
          have hb' : ¬ (b : Int) < (n : Int) + ((mkS x).size : Int) := by omega
          clear nx
          generalize mkS x = s at *
          go_wp2_with fail
          exact ⟨⟨i + 1, n + s.size, by omega, by omega, by go_num, by go_num, HN⟩, by simp [RowKit.intOf]; omega⟩
      · have fin : lightX M b l = true := by rw [hd.out, List.drop_eq_nil_of_le (by omega)]; rfl
        have HF2 := Lib.hid fin
        clear fin
        go_wp2_with fail
        go_ret
        exact ⟨by rw [HF2.out]; rfl, rfl⟩
end Tk
end Go.Proofs.YtcddkeekabafgaaDoor

