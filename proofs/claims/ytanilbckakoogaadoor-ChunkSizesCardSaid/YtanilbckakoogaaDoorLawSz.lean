/- The law ChunkSizes: its walk. -/
import Derived.Test.YtanilbckakoogaaDoorChkL
import Derived.Test.YtanilbckakoogaaDoorChkK
import Derived.Test.YtanilbckakoogaaDoorPkT
import Derived.Test.YtanilbckakoogaaDoorFldS
namespace Go.Proofs.YtanilbckakoogaaDoor
open Go.RowKit
namespace Tk

/-- sixteen digits -/
structure Dig (D : ByteArray) (f : Nat → UInt8) : Prop where
  size : D.size = 16
  at_ : ∀ n, n < 16 → D.extract n (n + 1) = mkS [f n]
theorem dig_small : Dig ⟨#[48, 49, 50, 51, 52, 53, 54, 55, 56, 57, 97, 98, 99, 100, 101, 102]⟩ hexc := by
  refine ⟨rfl, fun n hn => ?_⟩
  rw [extract_mkS]
  match n, hn with
  | 0, _ | 1, _ | 2, _ | 3, _ | 4, _ | 5, _ | 6, _ | 7, _ | 8, _ | 9, _ | 10, _ | 11, _ | 12, _ | 13, _ | 14, _ | 15, _ => rfl
  | n + 16, h => omega
theorem dig_great : Dig ⟨#[48, 49, 50, 51, 52, 53, 54, 55, 56, 57, 65, 66, 67, 68, 69, 70]⟩ hexC := by
  refine ⟨rfl, fun n hn => ?_⟩
  rw [extract_mkS]
  match n, hn with
  | 0, _ | 1, _ | 2, _ | 3, _ | 4, _ | 5, _ | 6, _ | 7, _ | 8, _ | 9, _ | 10, _ | 11, _ | 12, _ | 13, _ | 14, _ | 15, _ => rfl
  | n + 16, h => omega

set_option maxRecDepth 100000 in
set_option maxHeartbeats 1000000 in
theorem hex_small (D : ByteArray) (f : Nat → UInt8) (hD : Dig D f) (n : Nat) (w : World) (hn : n < 16) :
    Calls Tryd.prog 46 #[.int .i64 n, .string D] w fun r w' => r = .returned (.string (mkS (hexF f n))) ∧ ∃ m, w' = w.drewN m := by
  have HS := Lib.hid (hD.at_ n hn)
  have hz := hD.size
  have HF := Lib.hid (hexF_small f n hn)
  have b1 : ¬ (16 : Int) ≤ (n : Int) := by omega
  have b2 : (n : Int) < 16 := by omega
  have b3 : (0 : Int) ≤ (n : Int) := by omega
  clear hD
  go_enter Tryd.func46, Tryd.ntmps46
  go_wp2_with fail
  go_ret
  exact ⟨by rw [HF.out, ← HS.out]; rfl, 0, rfl⟩

set_option maxRecDepth 100000 in
set_option maxHeartbeats 2000000 in
theorem hex_any (D : ByteArray) (f : Nat → UInt8) (hD : Dig D f) : ∀ (k n : Nat) (w : World), n ≤ k → n ≤ 4503599627370496 →
    Calls Tryd.prog 46 #[.int .i64 n, .string D] w fun r w' => r = .returned (.string (mkS (hexF f n))) ∧ ∃ m, w' = w.drewN m
  | 0, n, w, h, h2 => hex_small D f hD n w (by omega)
  | k + 1, n, w, h, h2 => by
    by_cases hn : n < 16
    · exact hex_small D f hD n w hn
    · have i1 := fun W : World => hex_any D f hD k (n / 16) W (by omega) (by omega)
      have hsz : (mkS (hexF f (n / 16))).size + 1 ≤ 9223372036854775807 := by
        rw [size_mkS]
        have := hexF_len f 13 (n / 16) (by omega)
        omega
      have fin : mkS (hexF f n) = mkS (hexF f (n / 16)) ++ mkS [f (n % 16)] := by rw [mkS_append, ← hexF_big f n hn]
      have hat := hD.at_ (n % 16) (by omega)
      have hz := hD.size
      have HF := Lib.hid fin
      have HA := Lib.hid hat
      have I1 := Lib.hid i1
      have q1 : Int.tdiv (n : Int) 16 = ((n / 16 : Nat) : Int) := by rw [Int.tdiv_eq_ediv_of_nonneg (by omega)]; omega
      have q2 : Int.tmod (n : Int) 16 = ((n % 16 : Nat) : Int) := by rw [Int.tmod_eq_emod_of_nonneg (by omega)]; omega
      have b0 : (16 : Int) ≤ (n : Int) := by omega
      have b1 : ((n % 16 : Nat) : Int) < 16 := by omega
      have b2 : ((n / 16 : Nat) : Int) ≤ 4503599627370496 := by omega
      clear i1 fin hat hD hn
      go_enter Tryd.func46, Tryd.ntmps46
      go_wp2_with fail
      go_quiet (first | (go_at_call 46; refine Calls.quiet_of (I1.out _)))
      go_wp2_with fail
      go_ret
      exact ⟨by rw [HF.out, ← HA.out]; rfl, _, rfl⟩

theorem one59 : (⟨#[59]⟩ : ByteArray).size = 1 := rfl
theorem one32 : (⟨#[32]⟩ : ByteArray).size = 1 := rfl
theorem hexF_len_eq (f g : Nat → UInt8) : ∀ (k n : Nat), n ≤ k → (hexF f n).length = (hexF g n).length
  | 0, n, h => by rw [hexF_small f n (by omega), hexF_small g n (by omega)]; rfl
  | k + 1, n, h => by
    by_cases hn : n < 16
    · rw [hexF_small f n hn, hexF_small g n hn]; rfl
    · rw [hexF_big f n hn, hexF_big g n hn, List.length_append, List.length_append, hexF_len_eq f g k (n / 16) (by omega)]; rfl
theorem kind1_is : ∀ n, n < 256 → decide (1 ≤ kindOf n) = (decide (n = 9) || (decide (32 ≤ n) && !decide (n = 127))) := by decide +kernel

/-- the answers of the law's five sizes -/
theorem sz_1 (N k : Nat) (hN : N ≤ 4503599627370496) (hk : k + (hexL N).length ≤ 16) : sizeL (List.replicate k 48 ++ hexL N) = (N, 0) :=
  sizeL_digits _ N (by rw [List.length_append, List.length_replicate]; exact hk) (by have := hexF_ne hexc N; simp [this]) (by rw [hexGo_zeros]; exact hexGo_F hexc hexD_c N N (Nat.le_refl _)) (by omega)
theorem sz_2 (N k : Nat) (hN : N ≤ 4503599627370496) (hk : k + (hexF hexC N).length ≤ 16) : sizeL (List.replicate k 48 ++ hexF hexC N ++ [59]) = (N, 0) := by
  rw [sizeL_more _ [] N (by rw [List.length_append, List.length_replicate]; exact hk) (by have := hexF_ne hexC N; simp [this]) (by rw [hexGo_zeros]; exact hexGo_F hexC hexD_C N N (Nat.le_refl _)) (by omega)]
  rfl
theorem sz_3 (N k : Nat) (hk : k + (hexL N).length = 17) : sizeL (List.replicate k 48 ++ hexL N) = (0, 400) := by
  have := size_B (List.replicate k 48 ++ hexL N) [] N (by rw [hexGo_zeros]; exact hexGo_F hexc hexD_c N N (Nat.le_refl _)) (by rw [List.length_append, List.length_replicate]; omega)
  rw [List.append_nil] at this
  exact this
theorem sz_4 (N : Nat) : sizeL (hexL N ++ [32]) = (0, 400) := size_D (hexL N) [] 32 N (hexGo_F hexc hexD_c N N (Nat.le_refl _)) (by decide) (by decide)
theorem sz_5 (N : Nat) (r : Bs) (hN : N ≤ 4503599627370496) (hk : (hexL N).length ≤ 16) : sizeL (hexL N ++ [59] ++ r) = if allL 1 r then (N, 0) else (0, 400) := by
  rw [List.append_assoc]
  exact sizeL_more (hexL N) r N hk (hexF_ne hexc N) (hexGo_F hexc hexD_c N N (Nat.le_refl _)) (by omega)

set_option maxRecDepth 100000 in
set_option maxHeartbeats 4000000 in
theorem sizes_big (n : Int) (z : Int) (x : ByteArray) (w : World) (hv : ErrV w.heap.size w) (hb : n < 0 ∨ (0 ≤ n ∧ (4503599627370496 < n ∨ (n ≤ 4503599627370496 ∧ 100 < x.size)))) :
    Calls Tryd.prog 8 #[.int .i64 n, .int .i64 z, .string x] w (Yes2 w) := by
  have HL := Lib.hid (lives05_any w hv)
  unfold Yes2 at HL ⊢
  clear hv
  rcases hb with h | ⟨h, h2 | ⟨h2, h3⟩⟩
  · go_enter Tryd.func8, Tryd.ntmps8
    go_wp2_with fail
    refine HL.out.mono ?_
    rintro e w1 ⟨rfl, hb⟩
    have HB1 := Lib.hid hb
    clear hb
    go_wp2_with fail
    go_ret
    exact ⟨rfl, HB1.out⟩
  · have h' : ¬ n < 0 := by omega
    clear h
    go_enter Tryd.func8, Tryd.ntmps8
    go_wp2_with fail
    refine HL.out.mono ?_
    rintro e w1 ⟨rfl, hb⟩
    have HB1 := Lib.hid hb
    clear hb
    go_wp2_with fail
    go_ret
    exact ⟨rfl, HB1.out⟩
  · have h' : ¬ n < 0 := by omega
    have h2' : ¬ 4503599627370496 < n := by omega
    have h3' : (100 : Int) < (x.size : Int) := by omega
    clear h h2 h3
    go_enter Tryd.func8, Tryd.ntmps8
    go_wp2_with fail
    refine HL.out.mono ?_
    rintro e w1 ⟨rfl, hb⟩
    have HB1 := Lib.hid hb
    clear hb
    go_wp2_with fail
    go_ret
    exact ⟨rfl, HB1.out⟩

theorem take_all1 (x : ByteArray) (i : Nat) (hlt : i < x.size) : allL 1 ((bs x).take (i + 1)) = (allL 1 ((bs x).take i) && (decide (x[i].toNat = 9) || (decide (32 ≤ x[i].toNat) && !decide (x[i].toNat = 127)))) := by
  obtain ⟨c, hc⟩ : ∃ c, c = x[i]'hlt := ⟨_, rfl⟩
  have hgd : (bs x).getD i 0 = c := by
    have := bs_drop x i hlt
    rw [drop_cons (bs x) i (by rw [length_bs]; exact hlt), ← hc] at this
    injection this
  have htk : (bs x).take (i + 1) = (bs x).take i ++ [c] := by
    have hlt2 : i < (bs x).length := by rw [length_bs]; exact hlt
    rw [List.take_succ_eq_append_getElem hlt2, ← hgd]
    simp [List.getD, hlt2]
  rw [← hc, htk, allL_append, ← kind1_is _ c.toNat_lt]
  simp [allL]

set_option maxRecDepth 100000 in
set_option maxHeartbeats 16000000 in
theorem sizes_main (N : Nat) (z : Int) (x : ByteArray) (w : World) (hv : ErrV w.heap.size w) (hN : N ≤ 4503599627370496) (hx : x.size ≤ 100) :
    Calls Tryd.prog 8 #[.int .i64 N, .int .i64 z, .string x] w (Yes2 w) := by
  have HL := Lib.hid (lives05_any w hv)
  have HV := Lib.hid hv
  have H1 := Lib.hid (fun W : World => hex_any _ hexc dig_small N N W (Nat.le_refl _) hN)
  have H2 := Lib.hid (fun W : World => hex_any _ hexC dig_great N N W (Nat.le_refl _) hN)
  have hlen := hexF_len hexc 13 N (by omega)
  have hleq := hexF_len_eq hexC hexc N N (Nat.le_refl _)
  have hpos := List.length_pos_iff.2 (hexF_ne hexc N)
  have Z1 := Lib.hid (fun k => sz_1 N k hN)
  have Z2 := Lib.hid (fun k => sz_2 N k hN)
  have Z3 := Lib.hid (sz_3 N)
  have Z4 := Lib.hid (sz_4 N)
  have Z5 := Lib.hid (sz_5 N (bs x) hN (by show (hexF hexc N).length ≤ 16; omega))
  have n0 : ¬ (N : Int) < 0 := by omega
  have n1 : ¬ (4503599627370496 : Int) < (N : Int) := by omega
  have n2 : ¬ (100 : Int) < (x.size : Int) := by omega
  have n3 : (N : Int) ≤ 4503599627370496 := by omega
  have s1 : (mkS (hexF hexc N)).size = (hexF hexc N).length := size_mkS _
  have s2 : (mkS (hexF hexC N)).size = (hexF hexC N).length := size_mkS _
  change Hid (∀ k, k + (hexF hexc N).length ≤ 16 → sizeL (List.replicate k 48 ++ hexF hexc N) = (N, 0)) at Z1
  change Hid (∀ k, k + (hexF hexc N).length = 17 → sizeL (List.replicate k 48 ++ hexF hexc N) = (0, 400)) at Z3
  change Hid (sizeL (hexF hexc N ++ [32]) = (0, 400)) at Z4
  change Hid (sizeL (hexF hexc N ++ [59] ++ bs x) = if allL 1 (bs x) then (N, 0) else (0, 400)) at Z5
  generalize hexF hexc N = S at *
  generalize hexF hexC N = G at *
  have HSz := Lib.hid (fun (s : ByteArray) (W : World) (h : s.size ≤ 1000) (hv : ErrV w.heap.size W) => size_any s w.heap.size W (by omega) hv)
  unfold SizePost at HSz
  unfold Yes2 at HL ⊢
  clear hv hN
  go_enter Tryd.func8, Tryd.ntmps8
  go_wp2_with fail
  refine HL.out.mono ?_
  rintro e w1 ⟨rfl, hb⟩
  have HB1 := Lib.hid hb
  clear hb
  go_wp2_with fail
  refine (H1.out _).mono ?_
  rintro e w2 ⟨rfl, j1, rfl⟩
  go_wp2_with fail
  refine (H2.out _).mono ?_
  rintro e w2 ⟨rfl, j2, rfl⟩
  have HB2 := Lib.hid (below_some_draws (below_some_draws HB1.out j1) j2)
  generalize (w1.drewN j1).drewN j2 = w2 at *
  obtain ⟨m0, hm0⟩ : ∃ m : Nat, m = 17 - S.length := ⟨_, rfl⟩
  have e1 : (17 : Int) - (S.length : Int) = (m0 : Int) := by omega
  have p1 : 1 ≤ m0 := by omega
  have p2 : m0 ≤ 1099511627776 := by omega
  have p3 : m0 + S.length = 17 := by omega
  clear hm0
  go_wp2_with fail
  refine (pick_any z m0 w2 p1 p2).mono ?_
  rintro e w3 ⟨k, hk, rfl, rfl⟩
  have E1 := Lib.hid e1
  have S1 := Lib.hid s1
  have S2 := Lib.hid s2
  have HP := Lib.hid (show k < m0 ∧ m0 + S.length = 17 ∧ G.length = S.length ∧ x.size ≤ 100 from ⟨hk, p3, hleq, hx⟩)
  clear e1 s1 s2 p1 p2 p3 hleq hlen hpos hk hx
  go_wp2_with fail
  refine (times_any k _ (by have := HP.out; omega)).mono ?_
  rintro e w3 ⟨rfl, rfl⟩
  obtain ⟨hk, p3, hleq, hx⟩ := HP.out
  have s1 := S1.out
  have s2 := S2.out
  have HV2 := Lib.hid (HV.out.later HB2.out)
  have z1 : (mkS (List.replicate k 48)).size = k := by rw [size_mkS, List.length_replicate]
  have t1 : (mkS (List.replicate k 48)).size + (mkS S).size ≤ 9223372036854775807 := by rw [z1, s1]; omega
  have t2 : (mkS (List.replicate k 48)).size + (mkS G).size ≤ 9223372036854775807 := by rw [z1, s2]; omega
  have t3 : (mkS (List.replicate k 48)).size + (mkS G).size + 1 ≤ 9223372036854775807 := by rw [z1, s2]; omega
  have HSz2 : Hid (∀ (l : Bs) (W : World), l.length ≤ 1000 → Below w.heap.size w W → Calls Tryd.prog 39 #[.string (mkS l)] W fun e w' => e = .returned (.tuple #[.int .i64 (sizeL l).1, .int .i64 (sizeL l).2]) ∧ Below w.heap.size w w') := by
    intro l W hl hW
    have h := size_any (mkS l) w.heap.size W (by rw [size_mkS]; omega) (HV.out.later hW)
    unfold SizePost at h
    rw [bs_mkS] at h
    exact h.mono fun e w' he => ⟨he.1, hW.trans he.2⟩
  have X1 : mkS (List.replicate k 48) ++ mkS S = mkS (List.replicate k 48 ++ S) := mkS_append _ _
  have X2 : mkS (List.replicate k 48) ++ mkS G ++ ⟨#[59]⟩ = mkS (List.replicate k 48 ++ G ++ [59]) := by rw [mkS_append]; exact mkS_append _ [59]
  have X3 : mkS (List.replicate m0 48) ++ mkS S = mkS (List.replicate m0 48 ++ S) := mkS_append _ _
  have X4 : mkS S ++ ⟨#[32]⟩ = mkS (S ++ [32]) := mkS_append _ [32]
  have X5 : mkS S ++ ⟨#[59]⟩ ++ x = mkS (S ++ [59] ++ bs x) := by
    have h1 : mkS S ++ ⟨#[59]⟩ = mkS (S ++ [59]) := mkS_append _ [59]
    have h2 := mkS_append (S ++ [59]) (bs x)
    rw [mkS_bs] at h2
    rw [h1]; exact h2
  have HA1 : Hid (∀ W : World, Below w.heap.size w W → Calls Tryd.prog 39 #[.string (mkS (List.replicate k 48) ++ mkS S)] W fun e w' => e = .returned (.tuple #[.int .i64 N, .int .i64 0]) ∧ Below w.heap.size w w') := by
    intro W hW
    have h := HSz2.out (List.replicate k 48 ++ S) W (by rw [List.length_append, List.length_replicate]; omega) hW
    rw [Z1.out k (by omega)] at h
    rw [X1]; exact h
  have HA2 : Hid (∀ W : World, Below w.heap.size w W → Calls Tryd.prog 39 #[.string (mkS (List.replicate k 48) ++ mkS G ++ ⟨#[59]⟩)] W fun e w' => e = .returned (.tuple #[.int .i64 N, .int .i64 0]) ∧ Below w.heap.size w w') := by
    intro W hW
    have h := HSz2.out (List.replicate k 48 ++ G ++ [59]) W (by rw [List.length_append, List.length_append, List.length_replicate, List.length_singleton]; omega) hW
    rw [Z2.out k (by omega)] at h
    rw [X2]; exact h
  have HA3 : Hid (∀ W : World, Below w.heap.size w W → Calls Tryd.prog 39 #[.string (mkS (List.replicate m0 48) ++ mkS S)] W fun e w' => e = .returned (.tuple #[.int .i64 0, .int .i64 400]) ∧ Below w.heap.size w w') := by
    intro W hW
    have h := HSz2.out (List.replicate m0 48 ++ S) W (by rw [List.length_append, List.length_replicate]; omega) hW
    rw [Z3.out m0 p3] at h
    rw [X3]; exact h
  have HA4 : Hid (∀ W : World, Below w.heap.size w W → Calls Tryd.prog 39 #[.string (mkS S ++ ⟨#[32]⟩)] W fun e w' => e = .returned (.tuple #[.int .i64 0, .int .i64 400]) ∧ Below w.heap.size w w') := by
    intro W hW
    have h := HSz2.out (S ++ [32]) W (by rw [List.length_append, List.length_singleton]; omega) hW
    rw [Z4.out] at h
    rw [X4]; exact h
  have HA5 : Hid (∀ W : World, Below w.heap.size w W → Calls Tryd.prog 39 #[.string (mkS S ++ ⟨#[59]⟩ ++ x)] W fun e w' => (∃ (a : Nat) (q : Int), e = .returned (.tuple #[.int .i64 a, .int .i64 q]) ∧ (q == 0) = allL 1 (bs x)) ∧ Below w.heap.size w w') := by
    intro W hW
    have h := HSz2.out (S ++ [59] ++ bs x) W (by rw [List.length_append, List.length_append, List.length_singleton, length_bs]; omega) hW
    rw [Z5.out] at h
    rw [X5]
    refine h.mono ?_
    rintro e w' ⟨rfl, hb⟩
    refine ⟨?_, hb⟩
    cases allL 1 (bs x)
    · exact ⟨0, 400, rfl, rfl⟩
    · exact ⟨N, 0, rfl, rfl⟩
  clear X1 X2 X3 X4 X5 HSz2
  have t4 : (mkS (List.replicate m0 48)).size + (mkS S).size ≤ 9223372036854775807 := by rw [size_mkS, List.length_replicate, s1]; omega
  have t5 : (mkS S).size + 1 ≤ 9223372036854775807 := by rw [s1]; omega
  have t6 : (mkS S).size + 1 + x.size ≤ 9223372036854775807 := by rw [s1]; omega
  clear Z1 Z2 Z3 Z4 Z5 HSz H1 H2 z1 hk hleq p3 s1 s2 hx
  go_wp2_with fail
  refine (HA1.out _ HB2.out).mono ?_
  rintro e w4 ⟨rfl, hb⟩
  have HB4 := Lib.hid hb
  clear hb
  go_wp2_with fail
  refine (HA2.out _ HB4.out).mono ?_
  rintro e w5 ⟨rfl, hb⟩
  have HB5 := Lib.hid hb
  clear hb
  have e1 := E1.out
  have s1 := S1.out
  go_wp2_with fail
  clear e1 s1
  refine (times_any m0 _ (by have := HP.out; omega)).mono ?_
  rintro e w6 ⟨rfl, rfl⟩
  go_wp2_with fail
  refine (HA3.out _ HB5.out).mono ?_
  rintro e w6 ⟨rfl, hb⟩
  have HB6 := Lib.hid hb
  clear hb
  go_wp2_with fail
  refine (HA4.out _ HB6.out).mono ?_
  rintro e w7 ⟨rfl, hb⟩
  have HB7 := Lib.hid hb
  clear hb
  go_wp2_with fail
  refine (HA5.out _ HB7.out).mono ?_
  rintro e w8 ⟨⟨a5, q5, rfl, hq5⟩, hb⟩
  have HB8 := Lib.hid hb
  have HQ := Lib.hid hq5
  clear hq5
  clear hb HA1 HA2 HA3 HA4 HA5 HB2 HB4 HB5 HB6 HB7 t1 t2 t3 t4 t5 t6
  go_wp2_with fail
  go_loop [20, 21] (fun vf vi => ∃ i : Nat, i ≤ x.size ∧ vi = .int .i64 i ∧ vf = .bool (allL 1 ((bs x).take i))) (fun _ vi => x.size - (RowKit.intOf vi).toNat)
  case atStart => exact ⟨0, Nat.zero_le _, rfl, rfl⟩
  case round =>
    obtain ⟨i, hi, rfl, rfl⟩ := hrel
    by_cases hlt : i < x.size
    · have hnx := take_all1 x i hlt
      have HN := Lib.hid hnx
      have hi2 : (i : Int) + 1 ≤ 1000 := by omega
      clear hnx
      cases hA : allL 1 ((bs x).take i)
      · rw [hA, Bool.false_and] at HN
        go_wp2_with fail
        exact ⟨⟨i + 1, hlt, by go_num, by rw [HN.out]⟩, by simp [RowKit.intOf]; omega⟩
      · rw [hA, Bool.true_and] at HN
        have hcase : ((x[i].toNat : Int) == 9) = true ∧ allL 1 ((bs x).take (i + 1)) = true ∨ (((x[i].toNat : Int) == 9) = false ∧ ((¬ (32 : Int) ≤ (x[i].toNat : Int) ∧ allL 1 ((bs x).take (i + 1)) = false) ∨ ((32 : Int) ≤ (x[i].toNat : Int) ∧ ((((x[i].toNat : Int) != 127) = true ∧ allL 1 ((bs x).take (i + 1)) = true) ∨ (((x[i].toNat : Int) != 127) = false ∧ allL 1 ((bs x).take (i + 1)) = false))))) := by
          show ((x[i].toNat : Int) == 9) = true ∧ allL 1 ((bs x).take (i + 1)) = true ∨ (((x[i].toNat : Int) == 9) = false ∧ ((¬ (32 : Int) ≤ (x[i].toNat : Int) ∧ allL 1 ((bs x).take (i + 1)) = false) ∨ ((32 : Int) ≤ (x[i].toNat : Int) ∧ ((((x[i].toNat : Int) != 127) = true ∧ allL 1 ((bs x).take (i + 1)) = true) ∨ (((x[i].toNat : Int) != 127) = false ∧ allL 1 ((bs x).take (i + 1)) = false)))))
          rw [HN.out]
          by_cases h9 : x[i].toNat = 9
          · exact .inl ⟨by simp [h9], by simp [h9]⟩
          · refine .inr ⟨by simp; omega, ?_⟩
            by_cases h32 : 32 ≤ x[i].toNat
            · refine .inr ⟨by omega, ?_⟩
              by_cases h127 : x[i].toNat = 127
              · exact .inr ⟨by simp [h127], by simp [h127]⟩
              · exact .inl ⟨by simp; omega, by simp [h9, h32, h127]⟩
            · exact .inl ⟨by omega, by simp [h9, h32]⟩
        clear HN
        rcases hcase with ⟨c1, c2⟩ | ⟨c1, ⟨c2, c3⟩ | ⟨c2, ⟨c3, c4⟩ | ⟨c3, c4⟩⟩⟩
        · have HC := Lib.hid c2
          clear c2
          go_wp2_with fail
          exact ⟨⟨i + 1, hlt, by go_num, by rw [HC.out]⟩, by simp [RowKit.intOf]; omega⟩
        · have HC := Lib.hid c3
          clear c3
          go_wp2_with fail
          exact ⟨⟨i + 1, hlt, by go_num, by rw [HC.out]⟩, by simp [RowKit.intOf]; omega⟩
        · have HC := Lib.hid c4
          clear c4
          go_wp2_with fail
          exact ⟨⟨i + 1, hlt, by go_num, by rw [HC.out]⟩, by simp [RowKit.intOf]; omega⟩
        · have HC := Lib.hid c4
          clear c4
          go_wp2_with fail
          exact ⟨⟨i + 1, hlt, by go_num, by rw [HC.out]⟩, by simp [RowKit.intOf]; omega⟩
    · have hix : i = x.size := by omega
      have hall : (bs x).take i = bs x := List.take_of_length_le (by rw [length_bs]; omega)
      rw [hall]
      clear hall
      have hq := HQ.out
      cases hA : allL 1 (bs x)
      all_goals
        rw [hA] at hq
        clear hA
        go_wp2_with fail
        go_ret
        exact ⟨rfl, HB8.out⟩

theorem sizes_any (n z : Int) (x : ByteArray) (w : World) (hv : ErrV w.heap.size w) :
    Calls Tryd.prog 8 #[.int .i64 n, .int .i64 z, .string x] w (Yes2 w) := by
  by_cases h1 : n < 0
  · exact sizes_big n z x w hv (.inl h1)
  · by_cases h2 : 4503599627370496 < n
    · exact sizes_big n z x w hv (.inr ⟨by omega, .inl h2⟩)
    · by_cases h3 : x.size ≤ 100
      · obtain ⟨N, rfl⟩ : ∃ N : Nat, n = (N : Int) := ⟨n.toNat, by omega⟩
        exact sizes_main N z x w hv (by omega) h3
      · exact sizes_big n z x w hv (.inr ⟨by omega, .inr ⟨by omega, by omega⟩⟩)
end Tk
end Go.Proofs.YtanilbckakoogaaDoor
