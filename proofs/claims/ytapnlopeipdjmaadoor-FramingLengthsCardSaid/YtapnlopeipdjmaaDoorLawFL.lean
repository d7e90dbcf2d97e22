/- The law FramingLengths: its walk. -/
import Derived.Test.YtapnlopeipdjmaaDoorFrmE
import Derived.Test.YtapnlopeipdjmaaDoorFrmL
namespace Go.Proofs.YtapnlopeipdjmaaDoor
open Go.RowKit
namespace Tk

def PickPost4 (m : Nat) (w : World) (r : Ending) (w' : World) : Prop := ∃ k : Nat, k < m ∧ r = .returned (.int .i64 k) ∧ w = w'

set_option maxHeartbeats 1000000 in
theorem pick4_any (n : Int) (m : Nat) (w : World) (hm : 1 ≤ m) (hm2 : m ≤ 1099511627776) :
    Calls Tryd.prog 25 #[.int .i64 n, .int .i64 m] w (PickPost4 m w) := by
  have b0 : -(m : Int) < n.tmod m := by have := Int.lt_tmod_of_pos n (by omega : (0 : Int) < m); exact this
  have b1 : n.tmod m < m := Int.tmod_lt_of_pos n (by omega)
  by_cases hneg : n.tmod m < 0
  · go_enter Tryd.func25, Tryd.ntmps25
    go_wp2_with fail
    go_ret
    exact ⟨(n.tmod m + m).toNat, by omega, by rw [show (((n.tmod m + m).toNat : Nat) : Int) = n.tmod m + m by omega]; rfl, rfl⟩
  · go_enter Tryd.func25, Tryd.ntmps25
    go_wp2_with fail
    go_ret
    exact ⟨(n.tmod m).toNat, by omega, by rw [show (((n.tmod m).toNat : Nat) : Int) = n.tmod m by omega]; rfl, rfl⟩

theorem slice_digit4 : ∀ n : Nat, n < 10 → (ByteArray.mk #[48, 49, 50, 51, 52, 53, 54, 55, 56, 57]).extract n (n + 1) = mkS (digL n) := by
  intro n hn
  rw [extract_mkS, digL_small n hn]
  match n, hn with
  | 0, _ | 1, _ | 2, _ | 3, _ | 4, _ | 5, _ | 6, _ | 7, _ | 8, _ | 9, _ => rfl
  | n + 10, h => omega

set_option maxRecDepth 100000 in
set_option maxHeartbeats 1000000 in
theorem digits4_small (n : Nat) (w : World) (hn : n < 10) :
    Calls Tryd.prog 26 #[.int .i64 n] w fun r w' => r = .returned (.string (mkS (digL n))) ∧ w = w' := by
  have HS := Lib.hid (slice_digit4 n hn)
  go_enter Tryd.func26, Tryd.ntmps26
  go_wp2_with fail
  go_ret
  exact ⟨by rw [← HS.out]; rfl, rfl⟩

theorem digL4_len20 (n : Nat) (h : n ≤ 9223372036854775807) : (digL n).length ≤ 20 := digL_len 19 n (by omega)

set_option maxRecDepth 100000 in
set_option maxHeartbeats 1000000 in
theorem digits4_any : ∀ (k n : Nat) (w : World), n ≤ k → n ≤ 9223372036854775807 →
    Calls Tryd.prog 26 #[.int .i64 n] w fun r w' => r = .returned (.string (mkS (digL n))) ∧ w = w'
  | 0, n, w, h, h2 => digits4_small n w (by omega)
  | k + 1, n, w, h, h2 => by
    by_cases hn : n < 10
    · exact digits4_small n w hn
    · have e1 : (n : Int) / 10 = ((n / 10 : Nat) : Int) := by omega
      have e2 : (n : Int) % 10 = ((n % 10 : Nat) : Int) := by omega
      have i1 := digits4_any k (n / 10) w (by omega) (by omega)
      have i2 := digits4_any k (n % 10) w (by omega) (by omega)
      have hsz : (mkS (digL (n / 10))).size + (mkS (digL (n % 10))).size ≤ 9223372036854775807 := by
        rw [size_mkS, size_mkS]
        have := digL4_len20 (n / 10) (by omega)
        have := digL4_len20 (n % 10) (by omega)
        omega
      have fin : mkS (digL n) = mkS (digL (n / 10)) ++ mkS (digL (n % 10)) := by rw [mkS_append, ← digL_big n hn]
      have HF := Lib.hid fin
      have I1 := Lib.hid i1
      have I2 := Lib.hid i2
      clear i1 i2 fin
      generalize n / 10 = a at *
      generalize n % 10 = b at *
      go_enter Tryd.func26, Tryd.ntmps26
      go_wp2_with fail
      refine I1.out.mono ?_
      rintro e w' ⟨rfl, rfl⟩
      go_wp2_with fail
      refine I2.out.mono ?_
      rintro e w' ⟨rfl, rfl⟩
      go_wp2_with fail
      go_ret
      exact ⟨by rw [HF.out]; rfl, rfl⟩

set_option maxRecDepth 100000 in
set_option maxHeartbeats 4000000 in
theorem flen_out (n ts o at' : Int) (w : World) (h : n < 0 ∨ (0 ≤ n ∧ 9007199254740991 < n) ∨ (0 ≤ n ∧ n ≤ 9007199254740991 ∧ o < 0) ∨ (0 ≤ n ∧ n ≤ 9007199254740991 ∧ 0 ≤ o ∧ 9007199254740991 < o)) :
    Calls Tryd.prog 6 #[.int .i64 n, .int .i64 ts, .int .i64 o, .int .i64 at'] w (Yes2 w) := by
  have HL := Lib.hid (lives04_any w)
  unfold Yes2 at HL ⊢
  rcases h with h | ⟨h0, h⟩ | ⟨h0, h1, h⟩ | ⟨h0, h1, h2, h⟩
  all_goals
    go_enter Tryd.func6, Tryd.ntmps6
    go_wp2_with fail
    refine HL.out.mono ?_
    rintro e w1 ⟨rfl, hb⟩
    have HB := Lib.hid hb
    clear hb
    go_wp2_with fail
    go_ret
    exact ⟨rfl, HB.out⟩

def nmcl : Bs := [67, 111, 110, 116, 101, 110, 116, 45, 108, 101, 110, 103, 116, 104]
def nmCLC : Bs := [67, 79, 78, 84, 69, 78, 84, 45, 76, 69, 78, 71, 84, 72]
def rowOf (name : Bs) (k : Nat → Nat) (i : Nat) : List (Bs × Bs) := (List.range i).map fun j => (name, digL (k j))
theorem rowOf_succ (name : Bs) (k : Nat → Nat) (i : Nat) : rowOf name k (i + 1) = rowOf name k i ++ [(name, digL (k i))] := by unfold rowOf; rw [List.range_succ]; simp
theorem rowOf_len (name : Bs) (k : Nat → Nat) (i : Nat) : (rowOf name k i).length = i := by unfold rowOf; simp
theorem rowOf_sum (name : Bs) (k : Nat → Nat) (h : ∀ j, (digL (k j)).length ≤ 20) (hn : name.length ≤ 20) : ∀ i, sumF (rowOf name k i) ≤ 50 * i
  | 0 => by simp [rowOf, sumF]
  | i + 1 => by
    have := rowOf_sum name k h hn i
    have h2 := h i
    have e : ∀ (a b : List (Bs × Bs)), sumF (a ++ b) = sumF a + sumF b := by
      intro a b
      induction a with
      | nil => simp [sumF]
      | cons f t ih => simp only [List.cons_append, sumF, ih]; omega
    rw [rowOf_succ, e]
    simp only [sumF]
    omega
/-- what Length tells of a list that says these numbers -/
theorem len_is (v : Value) (l : List (Bs × Bs)) (P : List Bs) (W : World) (hs : IsFlds W v l) (hz : sumF l ≤ 1000000) (hl : l.length ≤ 1048576) (hP : P ≠ []) (h : listF l nmCL = P) :
    Calls Tryd.prog 19 #[v] W fun e w' => e = .returned (.tuple #[.int .i64 ((if lensOk P then firstN P else 0 : Nat) : Int), .bool true, .int .i64 ((if lensOk P then 0 else 400 : Nat) : Int)]) ∧ Below W.heap.size W w' := by
  have h2 := length_any v l W hs hz hl
  unfold LenPost at h2
  obtain ⟨e1, e2, e3⟩ := len_of l P hP h
  rw [e1, e2, e3] at h2
  exact h2
theorem kAt_le (n o a : Nat) (hn : n ≤ maxN) (ho : o ≤ maxN) (j : Nat) : kAt n o a j ≤ maxN := by unfold kAt; split <;> assumption
theorem dig_le20 (n : Nat) (h : n ≤ maxN) : (digL n).length ≤ 20 := digL4_len20 n (by unfold maxN at h; omega)

theorem own_apart {w : World} {B B2 : Nat} {T T2 : TypeId} {z z2 : Nat} {v u : Value} {n1 n2 : Nat} {xs ys : List Value} (h : w.ownsRow B T z v n1 xs) (h2 : w.ownsRow B2 T2 z2 u n2 ys) {a b : Value} (ha : xs[0]? = some a) (hb : ys[0]? = some b) (hne : a ≠ b) : v.ownBlock = none ∨ v.ownBlock ≠ u.ownBlock := by
  cases hv : v.ownBlock with
  | none => exact .inl rfl
  | some g =>
    refine .inr fun e => hne ?_
    have e1 := h.cells hv 0 a ha
    have e2 := h2.cells e.symm 0 b hb
    rw [e1] at e2
    exact Option.some.inj e2
theorem keepF {w w' : World} {B : Nat} {v : Value} {n : Nat} {xs : List Value} {e : TypeId} {k : Nat} (h : w.ownsRow B e k v n xs) (hb : Below w.heap.size w w') : w'.ownsRow B e k v n xs :=
  World.ownsRow.kept h (row := none) ⟨hb.os, hb.tape, hb.output, hb.size, fun k hk _ => hb.block k hk⟩ (by cases h : v.ownBlock <;> simp)
theorem fcells_head (name : Bs) (k : Nat → Nat) (i : Nat) : (fcells (rowOf name k (i + 1)))[0]? = some (.string (mkS name)) := by
  have h := (fcells_get (rowOf name k (i + 1)) 0 (name, digL (k 0)) (by unfold rowOf; simp)).1
  simpa using h
theorem names_ne : (Value.string (mkS nmcl)) ≠ .string (mkS nmCLC) := by
  intro e
  injection e with e
  exact absurd (mkS_inj e) (by decide)

/-- one more number at the end of a row of fields -/
theorem step_row (name : Bs) (k : Nat → Nat) (i : Nat) (d : Nat) (hd : d = k i) (v : Value) (W : World) (B : Nat) (h : W.ownsRow B 24 2 v (rowOf name k i ++ [(name, digL d)]).length (fcells (rowOf name k i ++ [(name, digL d)]))) : W.ownsRow B 24 2 v (rowOf name k (i + 1)).length (fcells (rowOf name k (i + 1))) := by
  rw [rowOf_succ, ← hd]; exact h

set_option maxRecDepth 100000 in
set_option maxHeartbeats 16000000 in
theorem flen_main (n o : Nat) (ts at' : Int) (w : World) (hn : n ≤ maxN) (ho : o ≤ maxN) :
    Calls Tryd.prog 6 #[.int .i64 (n : Int), .int .i64 ts, .int .i64 (o : Int), .int .i64 at'] w (Yes2 w) := by
  have HL := Lib.hid (lives04_any w)
  have HP5 := Lib.hid (fun W : World => pick4_any ts 5 W (by decide) (by decide))
  have hn2 : (n : Int) ≤ 9007199254740991 := by unfold maxN at hn; omega
  have ho2 : (o : Int) ≤ 9007199254740991 := by unfold maxN at ho; omega
  have HD := Lib.hid (fun (k : Nat) (hk : k ≤ maxN) (W : World) => digits4_any k k W (Nat.le_refl _) (by unfold maxN at hk; omega))
  have HNM := Lib.hid hn
  have HOM := Lib.hid ho
  unfold Yes2 at HL ⊢
  unfold PickPost4 at HP5
  clear hn ho
  go_enter Tryd.func6, Tryd.ntmps6
  go_wp2_with fail
  refine HL.out.mono ?_
  rintro e w1 ⟨rfl, hb⟩
  have HB1 := Lib.hid hb
  clear hb
  go_wp2_with fail
  refine (HP5.out _).mono ?_
  rintro e w' ⟨k5, hk5, rfl, rfl⟩
  have hp2 := pick4_any at' (k5 + 1) w1 (by omega) (by omega)
  rw [show (((k5 + 1 : Nat)) : Int) = 1 + (k5 : Int) by omega] at hp2
  unfold PickPost4 at hp2
  have HP2 := Lib.hid hp2
  clear hp2
  go_wp2_with fail
  refine HP2.out.mono ?_
  rintro e w' ⟨a, ha, rfl, rfl⟩
  go_wp2_with fail
  go_loopw [9, 10, 11, 12, 13] (fun vt vb vl vm vi wr => ∃ i : Nat, i ≤ k5 + 1 ∧ vi = .int .i64 i ∧ vt = .string (mkS (txA (fun _ => n) i)) ∧ vb = .string (mkS (txB (kAt n o a) i)) ∧ Hid (wr.ownsRow w1.heap.size 24 2 vl (rowOf nmcl (fun _ => n) i).length (fcells (rowOf nmcl (fun _ => n) i))) ∧ Hid (wr.ownsRow w1.heap.size 24 2 vm (rowOf nmCLC (kAt n o a) i).length (fcells (rowOf nmCLC (kAt n o a) i))) ∧ Hid (i = 0 → vl.ownBlock = none ∧ vm.ownBlock = none) ∧ Hid (Below w.heap.size w wr) ∧ w1.heap.size ≤ wr.heap.size) (fun _ _ _ _ vi _ => k5 + 1 - (RowKit.intOf vi).toNat)
  case atStart => exact ⟨0, by omega, rfl, rfl, rfl, World.ownsRow_nil _ _ _ _, World.ownsRow_nil _ _ _ _, fun _ => ⟨rfl, rfl⟩, HB1.out, Nat.le_refl _⟩
  case round =>
    obtain ⟨i, hi, rfl, rfl, rfl, HOl, HOm, H0, HB, hws⟩ := hrel
    rename World => W
    by_cases hlt : i < k5 + 1
    · have hi2 : (i : Int) < 1 + (k5 : Int) := by omega
      have hdn := dig_le20 n HNM.out
      have hta := txA_len (fun _ => n) (fun _ => hdn) i
      have htb := txB_len (kAt n o a) (fun j => dig_le20 _ (kAt_le n o a HNM.out HOM.out j)) i
      have hrl1 := rowOf_len nmcl (fun _ => n) i
      have hrl2 := rowOf_len nmCLC (kAt n o a) i
      have hap : Hid (∀ (W2 : World) (u v : Value), 0 < i → W2.ownsRow w1.heap.size 24 2 u (rowOf nmcl (fun _ => n) i).length (fcells (rowOf nmcl (fun _ => n) i)) → W2.ownsRow w1.heap.size 24 2 v (rowOf nmCLC (kAt n o a) i).length (fcells (rowOf nmCLC (kAt n o a) i)) → v.ownBlock = none ∨ v.ownBlock ≠ u.ownBlock) := by
        intro W2 u v hp h1 h2
        obtain ⟨j, rfl⟩ : ∃ j, i = j + 1 := ⟨i - 1, by omega⟩
        exact own_apart h2 h1 (fcells_head nmCLC _ j) (fcells_head nmcl _ j) (Ne.symm names_ne)
      have hap2 : Hid (∀ (W2 : World) (u v : Value), 0 < i → W2.ownsRow w1.heap.size 24 2 u (rowOf nmcl (fun _ => n) (i + 1)).length (fcells (rowOf nmcl (fun _ => n) (i + 1))) → W2.ownsRow w1.heap.size 24 2 v (rowOf nmCLC (kAt n o a) i).length (fcells (rowOf nmCLC (kAt n o a) i)) → u.ownBlock = none ∨ u.ownBlock ≠ v.ownBlock) := by
        intro W2 u v hp h1 h2
        obtain ⟨j, rfl⟩ : ∃ j, i = j + 1 := ⟨i - 1, by omega⟩
        exact own_apart h1 h2 (fcells_head nmcl _ (j + 1)) (fcells_head nmCLC _ j) names_ne
      have hks : ∃ kv : Nat, kv ≤ maxN ∧ kv = kAt n o a i ∧ ((i = a ∧ kv = o) ∨ (i ≠ a ∧ kv = n)) := by
        refine ⟨kAt n o a i, kAt_le n o a HNM.out HOM.out i, rfl, ?_⟩
        unfold kAt
        by_cases h : i = a
        · rw [if_pos h]; exact .inl ⟨h, rfl⟩
        · rw [if_neg h]; exact .inr ⟨h, rfl⟩
      obtain ⟨kv, hkm, hkv, hkc⟩ := hks
      have HKV := Lib.hid hkv
      have hdk := dig_le20 kv hkm
      have HSl := Lib.hid (fun (v : Value) (W : World) h => step_row nmcl (fun _ => n) i n rfl v W w1.heap.size h)
      have HSm := Lib.hid (fun (v : Value) (W : World) h => step_row nmCLC (kAt n o a) i kv hkv v W w1.heap.size h)
      have HTa : Hid (txA (fun _ => n) (i + 1) = (if 0 < i then txA (fun _ => n) i ++ [44, 32] else txA (fun _ => n) i) ++ digL n) := rfl
      have HTb : Hid (txB (kAt n o a) (i + 1) = (if 0 < i then txB (kAt n o a) i ++ [32, 44] else txB (kAt n o a) i) ++ digL kv) := by show _ = _; rw [hkv]; rfl
      have D1 := Lib.hid (fun W : World => HD.out n HNM.out W)
      have D2 := Lib.hid (fun W : World => HD.out kv hkm W)
      clear hkv hkm
      generalize hTA2 : txA (fun _ => n) (i + 1) = TA2 at *
      generalize hTB2 : txB (kAt n o a) (i + 1) = TB2 at *
      generalize txA (fun _ => n) i = TA at *
      generalize txB (kAt n o a) i = TB at *
      generalize hRA2 : rowOf nmcl (fun _ => n) (i + 1) = RA2 at *
      generalize hRB2 : rowOf nmCLC (kAt n o a) (i + 1) = RB2 at *
      have FTA := Lib.hid hTA2
      have FTB := Lib.hid hTB2
      have FRA := Lib.hid hRA2
      have FRB := Lib.hid hRB2
      clear hTA2 hTB2 hRA2 hRB2
      generalize rowOf nmcl (fun _ => n) i = RA at *
      generalize rowOf nmCLC (kAt n o a) i = RB at *
      generalize digL n = dn at *
      generalize digL kv = dk at *
      have z1 := size_mkS TA
      have z2 := size_mkS TB
      have z3 := size_mkS dn
      have z4 := size_mkS dk
      have y1 : (mkS TA).size ≤ 200 := by omega
      have y2 : (mkS TB).size ≤ 200 := by omega
      have y3 : (mkS dn).size ≤ 20 := by omega
      have y4 : (mkS dk).size ≤ 20 := by omega
      clear z1 z2 z3 z4 hta htb
      have hB1s := HB1.out.size
      have ei : ((0 : Int) < (i : Int) ∧ 0 < i ∧ Hid (mkS TA ++ ⟨#[44, 32]⟩ ++ mkS dn = mkS TA2) ∧ Hid (mkS TB ++ ⟨#[32, 44]⟩ ++ mkS dk = mkS TB2)) ∨ (¬ (0 : Int) < (i : Int) ∧ i = 0 ∧ Hid (mkS TA ++ mkS dn = mkS TA2) ∧ Hid (mkS TB ++ mkS dk = mkS TB2)) := by
        have t1 := HTa.out
        have t2 := HTb.out
        by_cases hp : 0 < i
        · rw [if_pos hp] at t1 t2
          refine .inl ⟨by omega, hp, ?_, ?_⟩
          · show _ = _
            rw [t1, ← mkS_append, ← mkS_append]; rfl
          · show _ = _
            rw [t2, ← mkS_append, ← mkS_append]; rfl
        · rw [if_neg hp] at t1 t2
          refine .inr ⟨by omega, by omega, ?_, ?_⟩
          · show _ = _
            rw [t1, ← mkS_append]
          · show _ = _
            rw [t2, ← mkS_append]
      have ek : ((((i : Int) == (a : Int)) = true) ∧ Hid (kv = o)) ∨ ((((i : Int) == (a : Int)) = false) ∧ Hid (kv = n)) := by
        rcases hkc with ⟨h1, h2⟩ | ⟨h1, h2⟩
        · exact .inl ⟨by rw [beq_iff_eq]; omega, h2⟩
        · exact .inr ⟨by rw [beq_eq_false_iff_ne]; omega, h2⟩
      have HAp : Hid (∀ (W2 : World), W2.ownsRow w1.heap.size 24 2 u11 RA.length (fcells RA) → W2.ownsRow w1.heap.size 24 2 u12 RB.length (fcells RB) → u12.ownBlock = none ∨ u12.ownBlock ≠ u11.ownBlock) := fun W2 h1 h2 => by
        by_cases hp : 0 < i
        · exact hap.out W2 u11 u12 hp h1 h2
        · exact .inl (H0.out (by omega)).2
      have HAp2 : Hid (∀ (W2 : World) (u : Value), W2.ownsRow w1.heap.size 24 2 u RA2.length (fcells RA2) → W2.ownsRow w1.heap.size 24 2 u12 RB.length (fcells RB) → u.ownBlock = none ∨ u.ownBlock ≠ u12.ownBlock) := fun W2 u h1 h2 => by
        by_cases hp : 0 < i
        · exact hap2.out W2 u u12 hp h1 h2
        · have h0 := (H0.out (by omega)).2
          cases hu : u.ownBlock with
          | none => exact .inl rfl
          | some g => exact .inr (by rw [h0]; simp)
      clear hkc hap hap2 HTa HTb H0 HKV hdn hdk
      have e1 : ∀ x : Bs × Bs, (RA ++ [x]).length = RA.length + 1 := fun x => by simp
      have e2 : ∀ x : Bs × Bs, (RB ++ [x]).length = RB.length + 1 := fun x => by simp
      have E1 := Lib.hid e1
      have E2 := Lib.hid e2
      have hl1 : RA.length ≤ 1048576 := by omega
      have hl2 : RB.length ≤ 1048576 := by omega
      have HRL := Lib.hid hrl1
      have HRM := Lib.hid hrl2
      clear hrl1 hrl2 e1 e2
      rcases ei with ⟨ei, hp, T1, T2⟩ | ⟨ei, hp, T1, T2⟩ <;> rcases ek with ⟨ek, hk⟩ | ⟨ek, hk⟩
      all_goals
        have HPp := Lib.hid hp
        clear hp
        have D3 := D2
        rw [hk.out] at D3
        go_wp2_with fail
        refine (D1.out _).mono ?_
        rintro e w' ⟨rfl, rfl⟩
        go_wp2_with fail
        refine (D3.out _).mono ?_
        rintro e w' ⟨rfl, rfl⟩
        go_wp2_with fail
        refine (D1.out _).mono ?_
        rintro e w' ⟨rfl, rfl⟩
        go_wp2_with fail
        refine (one04_any _ _ _).mono ?_
        rintro e w5 ⟨rfl, hb⟩
        have hbal : Below w5.heap.size w5 (w5.alloc (Obj.cells #[.string ⟨#[67, 111, 110, 116, 101, 110, 116, 45, 108, 101, 110, 103, 116, 104]⟩, .string (mkS dn)] 24)) := (Below.refl _ _).alloc (Nat.le_refl _) _
        have hb2 := hb.trans (hbal.mono hb.size)
        have HOl6 := Lib.hid (keepF HOl.out hb2)
        have HOm6 := Lib.hid (keepF HOm.out hb2)
        have HB6 := Lib.hid (HB.out.trans (hb2.mono HB.out.size))
        have hw6 : w1.heap.size ≤ (w5.alloc (Obj.cells #[.string ⟨#[67, 111, 110, 116, 101, 110, 116, 45, 108, 101, 110, 103, 116, 104]⟩, .string (mkS dn)] 24)).heap.size := Nat.le_trans hws hb2.size
        have HF6 := Lib.hid (isFlds_cells w5 [(nmcl, dn)] #[.string ⟨#[67, 111, 110, 116, 101, 110, 116, 45, 108, 101, 110, 103, 116, 104]⟩, .string (mkS dn)] 1 rfl rfl)
        clear hb hbal hb2
        go_wp2_with (at_builtin; refine joinF_guarded (by rfl) _ _ rfl w1.heap.size _ _ RA [(nmcl, dn)] rfl rfl HOl6.out HF6.out (fun _ _ h => by injection h with h1; cases h1) hw6 hl1 (by simp) ?_)
        intro v7 w7 ho7 hg7
        have hb7 := below_of_grownF hg7 HOl6.out hw6
        have HOm7 := Lib.hid (World.ownsRow.kept HOm6.out hg7 (HAp.out _ HOl6.out HOm6.out))
        have HOl7 := Lib.hid (HSl.out v7 w7 (by first | exact ho7 | (rw [E1.out]; exact ho7)))
        have HB7 := Lib.hid (HB6.out.trans (hb7.mono hB1s))
        have hw7 := Nat.le_trans hw6 hb7.size
        clear ho7 hg7 hb7
        go_wp2_with fail
        refine (D3.out _).mono ?_
        rintro e w' ⟨rfl, rfl⟩
        go_wp2_with fail
        refine (one04_any _ _ _).mono ?_
        rintro e w8 ⟨rfl, hb⟩
        have hbal : Below w8.heap.size w8 (w8.alloc (Obj.cells #[.string ⟨#[67, 79, 78, 84, 69, 78, 84, 45, 76, 69, 78, 71, 84, 72]⟩, .string (mkS dk)] 24)) := (Below.refl _ _).alloc (Nat.le_refl _) _
        have hb2 := hb.trans (hbal.mono hb.size)
        have HOl9 := Lib.hid (keepF HOl7.out hb2)
        have HOm9 := Lib.hid (keepF HOm7.out hb2)
        have HB9 := Lib.hid (HB7.out.trans (hb2.mono HB7.out.size))
        have hw9 : w1.heap.size ≤ (w8.alloc (Obj.cells #[.string ⟨#[67, 79, 78, 84, 69, 78, 84, 45, 76, 69, 78, 71, 84, 72]⟩, .string (mkS dk)] 24)).heap.size := Nat.le_trans hw7 hb2.size
        have HF9 := Lib.hid (isFlds_cells w8 [(nmCLC, dk)] #[.string ⟨#[67, 79, 78, 84, 69, 78, 84, 45, 76, 69, 78, 71, 84, 72]⟩, .string (mkS dk)] 1 rfl rfl)
        clear hb hbal hb2
        go_wp2_with (at_builtin; refine joinF_guarded (by rfl) _ _ rfl w1.heap.size _ _ RB [(nmCLC, dk)] rfl rfl HOm9.out HF9.out (fun _ _ h => by injection h with h1; cases h1) hw9 hl2 (by simp) ?_)
        intro v10 w10 ho10 hg10
        have hb10 := below_of_grownF hg10 HOm9.out hw9
        have HOl10 := Lib.hid (World.ownsRow.kept HOl9.out hg10 (HAp2.out _ _ HOl9.out HOm9.out))
        have HOm10 := Lib.hid (HSm.out v10 w10 (by first | exact ho10 | (rw [E2.out]; exact ho10)))
        have HB10 := Lib.hid (HB9.out.trans (hb10.mono hB1s))
        have hw10 := Nat.le_trans hw9 hb10.size
        clear ho10 hg10 hb10
        go_wp2_with fail
        have G1 : Hid (w10.ownsRow w1.heap.size 24 2 v7 (rowOf nmcl (fun _ => n) (i + 1)).length (fcells (rowOf nmcl (fun _ => n) (i + 1)))) := by
          show World.ownsRow _ _ _ _ _ _ _
          rw [FRA.out]; exact HOl10.out
        have G2 : Hid (w10.ownsRow w1.heap.size 24 2 v10 (rowOf nmCLC (kAt n o a) (i + 1)).length (fcells (rowOf nmCLC (kAt n o a) (i + 1)))) := by
          show World.ownsRow _ _ _ _ _ _ _
          rw [FRB.out]; exact HOm10.out
        exact ⟨⟨i + 1, hlt, by go_num, congrArg Value.string (T1.out.trans (congrArg mkS FTA.out.symm)), congrArg Value.string (T2.out.trans (congrArg mkS FTB.out.symm)), G1, G2, (fun h => absurd h (Nat.succ_ne_zero i)), HB10, hw10⟩, by simp [RowKit.intOf]; omega⟩
    · obtain rfl : i = k5 + 1 := by omega
      have hi2 : ¬ ((k5 + 1 : Nat) : Int) < 1 + (k5 : Int) := by omega
      have hdn := dig_le20 n HNM.out
      have hta := txA_len (fun _ => n) (fun _ => hdn) (k5 + 1)
      have htb := txB_len (kAt n o a) (fun j => dig_le20 _ (kAt_le n o a HNM.out HOM.out j)) (k5 + 1)
      have hsa := rowOf_sum nmcl (fun _ => n) (fun _ => hdn) (by decide) (k5 + 1)
      have hsb := rowOf_sum nmCLC (kAt n o a) (fun j => dig_le20 _ (kAt_le n o a HNM.out HOM.out j)) (by decide) (k5 + 1)
      obtain ⟨sm1, sm2⟩ := nums_same n (k5 + 1) HNM.out (by omega)
      have sm3 := nums_at n o a (k5 + 1) HNM.out HOM.out ha
      have hne1 := nums_ne (fun _ => n) (k5 + 1) (by omega)
      have hne2 := nums_ne (kAt n o a) (k5 + 1) (by omega)
      have x1 := (txA_split (fun _ => n) k5).1
      have x2 := (txB_split (kAt n o a) k5).1
      have y1 := listF_many nmcl (by decide) (fun _ => n) (k5 + 1)
      have y2 := listF_many nmCLC (by decide) (kAt n o a) (k5 + 1)
      have hrl1 := rowOf_len nmcl (fun _ => n) (k5 + 1)
      have hrl2 := rowOf_len nmCLC (kAt n o a) (k5 + 1)
      have L1 : Hid (∀ (W : World) (v : Value), IsFlds W v [(nmCL, txA (fun _ => n) (k5 + 1))] → Calls Tryd.prog 19 #[v] W fun e w' => e = .returned (.tuple #[.int .i64 (n : Int), .bool true, .int .i64 0]) ∧ Below W.heap.size W w') := fun W v h => by
        have := len_is v _ _ W h (by simp only [sumF, nmCL, List.length_cons, List.length_nil]; omega) (by simp) hne1 ((listF_one nmCL _ rfl).trans x1)
        rw [sm1, sm2] at this
        exact this
      have L2 : Hid (∀ (W : World) (v : Value), IsFlds W v (rowOf nmcl (fun _ => n) (k5 + 1)) → Calls Tryd.prog 19 #[v] W fun e w' => e = .returned (.tuple #[.int .i64 (n : Int), .bool true, .int .i64 0]) ∧ Below W.heap.size W w') := fun W v h => by
        have := len_is v _ _ W h (by omega) (by omega) hne1 y1
        rw [sm1, sm2] at this
        exact this
      have L3 : Hid (∀ (W : World) (v : Value), IsFlds W v [(nmCL, txB (kAt n o a) (k5 + 1))] → Calls Tryd.prog 19 #[v] W fun e w' => e = .returned (.tuple #[.int .i64 ((if lensOk (nums (kAt n o a) (k5 + 1)) then firstN (nums (kAt n o a) (k5 + 1)) else 0 : Nat) : Int), .bool true, .int .i64 ((if (decide (n = o) || decide (k5 + 1 = 1)) then 0 else 400 : Nat) : Int)]) ∧ Below W.heap.size W w') := fun W v h => by
        have := len_is v _ _ W h (by simp only [sumF, nmCL, List.length_cons, List.length_nil]; omega) (by simp) hne2 ((listF_one nmCL _ rfl).trans x2)
        rw [sm3] at this ⊢
        exact this
      have L4 : Hid (∀ (W : World) (v : Value), IsFlds W v (rowOf nmCLC (kAt n o a) (k5 + 1)) → Calls Tryd.prog 19 #[v] W fun e w' => e = .returned (.tuple #[.int .i64 ((if lensOk (nums (kAt n o a) (k5 + 1)) then firstN (nums (kAt n o a) (k5 + 1)) else 0 : Nat) : Int), .bool true, .int .i64 ((if (decide (n = o) || decide (k5 + 1 = 1)) then 0 else 400 : Nat) : Int)]) ∧ Below W.heap.size W w') := fun W v h => by
        have := len_is v _ _ W h (by omega) (by omega) hne2 y2
        rw [sm3] at this ⊢
        exact this
      clear hdn hta htb hsa hsb sm1 sm2 sm3 hne1 hne2 x1 x2 y1 y2 hrl1 hrl2 H0 HP5 HP2 HD HNM HOM
      have hcases : (((n : Int) == (o : Int)) = true ∧ Hid ((if (decide (n = o) || decide (k5 + 1 = 1)) then 0 else 400 : Nat) = 0)) ∨ (((n : Int) == (o : Int)) = false ∧ (((1 : Int) + (k5 : Int)) == 1) = true ∧ Hid ((if (decide (n = o) || decide (k5 + 1 = 1)) then 0 else 400 : Nat) = 0)) ∨ (((n : Int) == (o : Int)) = false ∧ (((1 : Int) + (k5 : Int)) == 1) = false ∧ Hid ((if (decide (n = o) || decide (k5 + 1 = 1)) then 0 else 400 : Nat) = 400)) := by
        by_cases h1 : n = o
        · refine .inl ⟨by rw [beq_iff_eq]; omega, ?_⟩
          show _ = _
          rw [decide_eq_true h1]; rfl
        · by_cases h2 : k5 + 1 = 1
          · refine .inr (.inl ⟨by rw [beq_eq_false_iff_ne]; omega, by rw [beq_iff_eq]; omega, ?_⟩)
            show _ = _
            rw [decide_eq_false h1, decide_eq_true h2]; rfl
          · refine .inr (.inr ⟨by rw [beq_eq_false_iff_ne]; omega, by rw [beq_eq_false_iff_ne]; omega, ?_⟩)
            show _ = _
            rw [decide_eq_false h1, decide_eq_false h2]; rfl
      generalize (if (decide (n = o) || decide (k5 + 1 = 1)) then 0 else 400 : Nat) = ST at *
      generalize ((if lensOk (nums (kAt n o a) (k5 + 1)) then firstN (nums (kAt n o a) (k5 + 1)) else 0 : Nat) : Int) = FB at *
      generalize txA (fun _ => n) (k5 + 1) = TA at *
      generalize txB (kAt n o a) (k5 + 1) = TB at *
      generalize rowOf nmcl (fun _ => n) (k5 + 1) = RA at *
      generalize rowOf nmCLC (kAt n o a) (k5 + 1) = RB at *
      go_wp2_with fail
      refine (one04_any _ _ _).mono ?_
      rintro e w5 ⟨rfl, hb⟩
      have hbal : Below w5.heap.size w5 (w5.alloc (Obj.cells #[.string ⟨#[67, 111, 110, 116, 101, 110, 116, 45, 76, 101, 110, 103, 116, 104]⟩, .string (mkS TA)] 24)) := (Below.refl _ _).alloc (Nat.le_refl _) _
      have hb2 := hb.trans (hbal.mono hb.size)
      have HOl6 := Lib.hid (keepF HOl.out hb2)
      have HOm6 := Lib.hid (keepF HOm.out hb2)
      have HB6 := Lib.hid (HB.out.trans (hb2.mono HB.out.size))
      have HF6 := Lib.hid (isFlds_cells w5 [(nmCL, TA)] #[.string ⟨#[67, 111, 110, 116, 101, 110, 116, 45, 76, 101, 110, 103, 116, 104]⟩, .string (mkS TA)] 1 rfl rfl)
      clear hb hbal hb2
      go_wp2_with fail
      refine (L1.out _ _ HF6.out).mono ?_
      rintro e w7 ⟨rfl, hb⟩
      have HOl7 := Lib.hid (keepF HOl6.out hb)
      have HOm7 := Lib.hid (keepF HOm6.out hb)
      have HB7 := Lib.hid (HB6.out.trans (hb.mono HB6.out.size))
      have HF7 := Lib.hid (isFlds_own HOl7.out)
      clear hb
      go_wp2_with fail
      refine (L2.out _ _ HF7.out).mono ?_
      rintro e w8 ⟨rfl, hb⟩
      have HOm8 := Lib.hid (keepF HOm7.out hb)
      have HB8 := Lib.hid (HB7.out.trans (hb.mono HB7.out.size))
      clear hb
      go_wp2_with fail
      refine (one04_any _ _ _).mono ?_
      rintro e w9 ⟨rfl, hb⟩
      have hbal : Below w9.heap.size w9 (w9.alloc (Obj.cells #[.string ⟨#[67, 111, 110, 116, 101, 110, 116, 45, 76, 101, 110, 103, 116, 104]⟩, .string (mkS TB)] 24)) := (Below.refl _ _).alloc (Nat.le_refl _) _
      have hb2 := hb.trans (hbal.mono hb.size)
      have HOm10 := Lib.hid (keepF HOm8.out hb2)
      have HB10 := Lib.hid (HB8.out.trans (hb2.mono HB8.out.size))
      have HF10 := Lib.hid (isFlds_cells w9 [(nmCL, TB)] #[.string ⟨#[67, 111, 110, 116, 101, 110, 116, 45, 76, 101, 110, 103, 116, 104]⟩, .string (mkS TB)] 1 rfl rfl)
      clear hb hbal hb2
      go_wp2_with fail
      refine (L3.out _ _ HF10.out).mono ?_
      rintro e w11 ⟨rfl, hb⟩
      have HOm11 := Lib.hid (keepF HOm10.out hb)
      have HB11 := Lib.hid (HB10.out.trans (hb.mono HB10.out.size))
      have HF11 := Lib.hid (isFlds_own HOm11.out)
      clear hb
      go_wp2_with fail
      refine (L4.out _ _ HF11.out).mono ?_
      rintro e w12 ⟨rfl, hb⟩
      have HB12 := Lib.hid (HB11.out.trans (hb.mono HB11.out.size))
      clear hb L1 L2 L3 L4
      rcases hcases with ⟨c1, c3⟩ | ⟨c1, c2, c3⟩ | ⟨c1, c2, c3⟩
      all_goals
        have c4 := c3.out
        subst c4
        clear c3
        go_wp2_with fail
        go_ret
        exact ⟨rfl, HB12.out⟩

theorem flen_any (n ts o at' : Int) (w : World) :
    Calls Tryd.prog 6 #[.int .i64 n, .int .i64 ts, .int .i64 o, .int .i64 at'] w (Yes2 w) := by
  by_cases h0 : 0 ≤ n
  · by_cases h1 : n ≤ 9007199254740991
    · by_cases h2 : 0 ≤ o
      · by_cases h3 : o ≤ 9007199254740991
        · obtain ⟨a, rfl⟩ := Int.eq_ofNat_of_zero_le h0
          obtain ⟨b, rfl⟩ := Int.eq_ofNat_of_zero_le h2
          exact flen_main a b ts at' w (by unfold maxN; omega) (by unfold maxN; omega)
        · exact flen_out n ts o at' w (.inr (.inr (.inr ⟨h0, h1, h2, by omega⟩)))
      · exact flen_out n ts o at' w (.inr (.inr (.inl ⟨h0, h1, by omega⟩)))
    · exact flen_out n ts o at' w (.inr (.inl ⟨h0, by omega⟩))
  · exact flen_out n ts o at' w (.inl (by omega))
end Tk
end Go.Proofs.YtapnlopeipdjmaaDoor
