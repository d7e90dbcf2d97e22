/- VaryRises: names are ascending, in lower case, each once, in whatever order and however often they are given. -/
import Derived.Test.YthooghgiokgdhaaDoorQC
import Derived.Test.YthooghgiokgdhaaDoorQRefK
import Derived.Test.YthooghgiokgdhaaDoorQRefL
import Derived.Deep.Cut
import Derived.BigQuiet
import Derived.Sort.Walk0
namespace Go.Proofs.YthooghgiokgdhaaDoor
open Go.RowKit
namespace Tk

theorem below_drewsR (w : World) (n : Nat) : Below w.heap.size w (w.drewN n) := ⟨rfl, rfl, rfl, Nat.le_refl _, fun _ _ => rfl⟩
theorem cell_inR {w : World} {p : Addr} {v : Value} (h : w.cell? p = some v) : p.block < w.heap.size := by
  refine Nat.lt_of_not_le fun hle => ?_
  unfold World.cell? at h
  rw [Array.getElem?_eq_none hle] at h
  simp at h
theorem cellR {w w' : World} {p : Addr} {v : Value} (h : w.cell? p = some v) (hb : Below w.heap.size w w') : w'.cell? p = some v := (hb.cell (cell_inR h)).trans h
theorem memT {l : List Bs} {x : Bs} (i : Nat) (h : i < l.length) : decide (x ∈ l.take (i + 1)) = (decide (x ∈ l.take i) || decide (l.getD i [] = x)) := by
  rw [List.take_succ_eq_append_getElem h, Bool.eq_iff_iff, decide_eq_true_eq, Bool.or_eq_true, decide_eq_true_eq, decide_eq_true_eq, List.mem_append, List.mem_singleton]
  have : l.getD i [] = l[i] := by simp [List.getD, h]
  rw [this]
  exact ⟨fun h => h.elim .inl (fun h => .inr h.symm), fun h => h.elim .inl (fun h => .inr h.symm)⟩
theorem wrt_down (N : List Bs) (i : Nat) (h : i < N.length) : wrtV (N.drop i).reverse = wrtV (N.drop (i + 1)).reverse ++ (N.getD i [] ++ [44, 32]) := by
  rw [List.drop_eq_getElem_cons h, List.reverse_cons, wrt_app]
  have : N.getD i [] = N[i] := by simp [List.getD, h]
  rw [this]
  simp [wrtV]
theorem getB (s : Bs) (i : Nat) (h : i < s.length) : 34 ∈ s.take (i + 1) ↔ (34 ∈ s.take i ∨ s.getD i 0 = 34) := by
  rw [List.take_succ_eq_append_getElem h, List.mem_append, List.mem_singleton]
  have : s.getD i 0 = s[i] := by simp [List.getD, h]
  rw [this]
  exact ⟨fun h => h.elim .inl (fun h => .inr h.symm), fun h => h.elim .inl (fun h => .inr h.symm)⟩
theorem listF_oneV (t : Bs) : listF [(nVary, t)] nVary = splitL t := by
  unfold listF allF isN
  simp
theorem sumF_oneV (t : Bs) (h : t.length ≤ 480000) : sumF [(nVary, t ++ t)] ≤ 1000000 := by
  simp only [sumF, List.length_append, nVary, List.length_cons, List.length_nil]
  omega
theorem nms_lt (Q : List Bs) : (nmsV Q).Pairwise (· < ·) := by
  unfold nmsV; split
  · simp
  · exact set_lt _
theorem nms_len (Q : List Bs) : (nmsV Q).length ≤ Q.length := by
  unfold nmsV; split
  · simp
  · have := set_len (Q.map lowL); rw [List.length_map] at this; exact this
theorem nms_each (Q : List Bs) (k : Nat) (h : ∀ p ∈ Q, p.length ≤ k) : ∀ n ∈ nmsV Q, n.length ≤ k := by
  intro n hn
  unfold nmsV at hn
  split at hn
  · simp at hn
  · rw [set_mem, List.mem_map] at hn
    obtain ⟨p, hp, rfl⟩ := hn
    have := h p hp
    simpa [lowL] using this
theorem list_good (l : List (Bs × Bs)) (name : Bs) : ∀ p ∈ listF l name, p ≠ [] ∧ trimL p = p ∧ Com p := by
  intro p hp
  unfold listF at hp
  rw [List.mem_flatMap] at hp
  obtain ⟨t, -, hp⟩ := hp
  obtain ⟨h1, h2⟩ := split_neat t p hp
  exact ⟨h1, h2, split_com t p hp⟩


/-- what the law calls: Q the parts, N the names, t the text written of them, R the names read of it -/
structure VrC (w : World) (v : Value) (q st : Bool) (Q N : List Bs) (t : Bs) (R : List Bs) : Prop where
  lv : ∀ W : World, Calls Tryd.prog 7 #[] W fun e w' => e = .returned (.bool true) ∧ Below W.heap.size W w'
  li : ∀ W : World, Below w.heap.size w W → Calls Tryd.prog 14 #[v] W fun e w' => e = .returned (.bool q) ∧ Below W.heap.size W w'
  nm : q = true → ∀ W : World, Below w.heap.size w W → Calls Tryd.prog 8 #[v] W fun e w' => ∃ v', e = .returned (.tuple #[v', .bool st]) ∧ IsStrs w' v' N ∧ Below W.heap.size W w'
  ls : q = true → ∀ W : World, Below w.heap.size w W → Calls Tryd.prog 18 #[v, .string ⟨#[86, 97, 114, 121]⟩] W fun e w' => ∃ v', e = .returned v' ∧ IsStrs w' v' Q ∧ Below W.heap.size W w'
  lo : q = true → ∀ (x : Bs) (W : World), x ∈ Q → Calls Tryd.prog 19 #[.string (mkS x)] W fun e w' => e = .returned (.string (mkS (lowL x))) ∧ Below W.heap.size W w'
  on : ∀ (n x : ByteArray) (W : World), Calls Tryd.prog 9 #[.string n, .string x] W fun e w' => e = .returned (.agg #[.string n, .string x]) ∧ Below W.heap.size W w'
  n2 : q = true → ∀ (v : Value) (W : World), IsFlds W v [(nVary, t ++ t)] → Calls Tryd.prog 8 #[v] W fun e w' => ∃ v' s', e = .returned (.tuple #[v', .bool s']) ∧ IsStrs w' v' R ∧ Below W.heap.size W w'
  sm : q = true → ∀ (v1 v2 : Value) (W : World), IsStrs W v1 N → IsStrs W v2 N → Calls Tryd.prog 20 #[v1, v2] W fun e w' => e = .returned (.bool true) ∧ Below W.heap.size W w'
  any : decide ([42] ∈ Q) = st
  st0 : st = true → N = []
  mem : st = false → ∀ x ∈ Q, lowL x ∈ N
  lt : N.Pairwise (· < ·)
  len : N.length ≤ Q.length
  qln : q = true → Q.length ≤ 1000
  tt : t = wrtV N.reverse
  tl : q = true → ∀ i, (wrtV (N.drop i).reverse).length ≤ 480000
  nl : q = true → ∀ n ∈ N, n.length ≤ 1000
  bk : 34 ∉ t → R = N

set_option maxHeartbeats 2000000 in
set_option maxRecDepth 100000 in
theorem vr_heavy (v : Value) (st : Bool) (Q N : List Bs) (t : Bs) (R : List Bs) (w : World) (a : Option Addr) (n c : Nat) (ev : v = .slice a n c) (H : Hid (VrC w v false st Q N t R)) :
    Calls Tryd.prog 5 #[v] w fun e w' => e = .returned (.bool true) ∧ Below w.heap.size w w' := by
  subst ev
  go_enter Tryd.func5, Tryd.ntmps5
  go_wp2_with fail
  refine (H.out.lv _).mono ?_
  rintro e w1 ⟨rfl, hb1⟩
  have B1 := Lib.hid hb1
  clear hb1
  go_wp2_with fail
  refine (H.out.li _ B1.out).mono ?_
  rintro e w2 ⟨rfl, hb2⟩
  have B2 := Lib.hid (B1.out.trans (hb2.mono B1.out.size))
  clear hb2
  go_wp2_with fail
  go_ret
  exact ⟨rfl, B2.out⟩

set_option maxHeartbeats 32000000 in
set_option maxRecDepth 100000 in
theorem vr_true (v : Value) (Q N : List Bs) (t : Bs) (R : List Bs) (w : World) (a : Option Addr) (n0 c : Nat) (ev : v = .slice a n0 c) (H : Hid (VrC w v true true Q N t R)) :
    Calls Tryd.prog 5 #[v] w fun e w' => e = .returned (.bool true) ∧ Below w.heap.size w w' := by
  subst ev
  go_enter Tryd.func5, Tryd.ntmps5
  go_wp2_with fail
  refine (H.out.lv _).mono ?_
  rintro e w1 ⟨rfl, hb1⟩
  have B1 := Lib.hid hb1
  clear hb1
  go_wp2_with fail
  refine (H.out.li _ B1.out).mono ?_
  rintro e w2 ⟨rfl, hb2⟩
  have B2 := Lib.hid (B1.out.trans (hb2.mono B1.out.size))
  clear hb2
  go_wp2_with fail
  refine (H.out.nm rfl _ B2.out).mono ?_
  rintro e w3 ⟨v3, rfl, hs3, hb3⟩
  have B3 := Lib.hid (B2.out.trans (hb3.mono B2.out.size))
  have HS3 := Lib.hid hs3
  clear hb3 hs3
  go_wp2_with fail
  refine (H.out.ls rfl _ B3.out).mono ?_
  rintro e wB ⟨v5, rfl, hs5, hb4⟩
  have BB := Lib.hid (B3.out.trans (hb4.mono B3.out.size))
  have HT3 := Lib.hid (isStrsV_below HS3.out hb4)
  have HT5 := Lib.hid hs5
  obtain ⟨a3, c3, rfl⟩ : ∃ a c, v3 = .slice a N.length c := by obtain ⟨a, c, h, -⟩ := HT3.out; exact ⟨a, c, h⟩
  obtain ⟨a5, c5, rfl⟩ : ∃ a c, v5 = .slice a Q.length c := by obtain ⟨a, c, h, -⟩ := HT5.out; exact ⟨a, c, h⟩
  have hqln := H.out.qln rfl
  have hlen := H.out.len
  clear hb4 hs5 HS3
  go_wp2_with fail
  go_loopw [6, 7] (fun v6 v7 wr => ∃ (i : Nat) (q : Bool), i ≤ Q.length ∧ v7 = .int .i64 i ∧ v6 = .bool q ∧ Hid (decide ([42] ∈ Q.take i) = q) ∧ Hid (Below wB.heap.size wB wr)) (fun _ v7 _ => Q.length - (RowKit.intOf v7).toNat)
  case atStart => exact ⟨0, false, Nat.zero_le _, rfl, rfl, by show decide _ = _; simp, Below.refl _ _⟩
  case round =>
    obtain ⟨i, q, hi, rfl, rfl, HA, HBi⟩ := hrel
    rename World => wr
    by_cases hlt : i < Q.length
    · obtain ⟨a', c', e', hcB⟩ := HT5.out
      injection e' with e1 _ e2
      subst e1 e2
      obtain ⟨b5, o5, rfl, hc5B⟩ := hcB i (Q.getD i []) (by simp [List.getD, hlt])
      have hc5 := cellR hc5B HBi.out
      have HC5 := Lib.hid hc5B
      have hmt := memT (x := [42]) i hlt
      rw [HA.out] at hmt
      have hmem : Q.getD i [] ∈ Q := by simp [List.getD, hlt]
      have HLow := Lib.hid (fun W => H.out.lo rfl (Q.getD i []) W hmem)
      have HIn := Lib.hid (fun h => H.out.mem h (Q.getD i []) hmem)
      have HMT := Lib.hid hmt
      have HLt := Lib.hid hlt
      have g0 : (0 : Int) ≤ (i : Int) := by omega
      have g1 : (i : Int) < (Q.length : Int) := by omega
      clear hmt hmem hcB hc5B
      generalize Q.getD i [] = x at *
      have hbq : ((mkS x).toList == ([42] : List UInt8)) = decide (x = [42]) := by rw [toList_bs, bs_mkS, Bool.eq_iff_iff, beq_iff_eq, decide_eq_true_eq]
      obtain ⟨q2, hq2⟩ : ∃ q2, q2 = (q || decide (x = [42])) := ⟨_, rfl⟩
      have HQ2 : Hid (decide ([42] ∈ Q.take (i + 1)) = q2) := by show _ = _; rw [HMT.out, hq2]
      have hways : (q = true ∧ q2 = true) ∨ (q = false ∧ decide (x = [42]) = q2) := by
        subst hq2
        cases q
        · exact .inr ⟨rfl, by simp⟩
        · exact .inl ⟨rfl, rfl⟩
      clear hq2 HMT
      generalize decide (x = [42]) = dx at *
      rcases hways with ⟨rfl, rfl⟩ | ⟨rfl, rfl⟩
      all_goals (
        go_wp2_with fail
        go_loopw [8, 9] (fun v8 v9 wr2 => ∃ (k : Nat) (p : Bool), k ≤ N.length ∧ v9 = .int .i64 k ∧ v8 = .bool p ∧ Hid (decide (lowL x ∈ N.take k) = p) ∧ Hid (Below wB.heap.size wB wr2)) (fun _ v9 _ => N.length - (RowKit.intOf v9).toNat)
        case atStart => exact ⟨0, false, Nat.zero_le _, rfl, rfl, by show decide _ = _; simp, HBi.out⟩
        case round =>
          rename World => wr2
          obtain ⟨k, p, hk, rfl, rfl, HP, HBk⟩ := hrel
          by_cases hkl : k < N.length
          · exact absurd hkl (by rw [H.out.st0 rfl]; simp)
          · go_wp2_with fail
            exact ⟨⟨i + 1, _, by have := HLt.out; omega, by go_num, rfl, HQ2, HBk⟩, by simp [RowKit.intOf]; have := HLt.out; omega⟩)
    · have hil : Q.take i = Q := List.take_of_length_le (by omega)
      rw [hil, H.out.any] at HA
      obtain rfl := HA.out
      have BI := Lib.hid HBi.out
      clear HA hil HBi
      go_wp2_with fail
      go_loopw [10] (fun v10 wr3 => ∃ i : Nat, 1 ≤ i ∧ v10 = .int .i64 i ∧ Hid (Below wB.heap.size wB wr3)) (fun v10 _ => N.length - (RowKit.intOf v10).toNat)
      case atStart => exact ⟨1, Nat.le_refl _, rfl, BI.out⟩
      case round =>
        rename World => wr3
        obtain ⟨i, hi, rfl, HB3⟩ := hrel
        by_cases hlt : i < N.length
        · obtain ⟨a', c', e', hcB⟩ := HT3.out
          injection e' with e1 _ e2
          subst e1 e2
          obtain ⟨b3, o3, rfl, hc0⟩ := hcB (i - 1) (N.getD (i - 1) []) (by simp [List.getD, show i - 1 < N.length by omega])
          obtain ⟨b3', o3', e3, hc1⟩ := hcB i (N.getD i []) (by simp [List.getD, hlt])
          injection e3 with e3
          injection e3 with e4 e5
          subst e4 e5
          have d0 := cellR hc0 HB3.out
          have d1 := cellR hc1 HB3.out
          have hls : N.getD (i - 1) [] < N.getD i [] := by
            have h := List.pairwise_iff_getElem.1 H.out.lt (i - 1) i (by omega) hlt (by omega)
            simpa [List.getD, hlt, show i - 1 < N.length by omega] using h
          have hge : Op.bytesLess (mkS (N.getD (i - 1) [])).toList (mkS (N.getD i [])).toList = true := by
            rw [toList_bs, toList_bs, bs_mkS, bs_mkS, bytesLess_eq, decide_eq_true hls]
          have hw1 : IntKind.i64.wrap ((i : Int) - 1) = ((i - 1 : Nat) : Int) := by rw [IntWalk.i64_in _ (by omega)]; omega
          have g0 : (0 : Int) ≤ ((i - 1 : Nat) : Int) := by omega
          have g1 : ((i - 1 : Nat) : Int) < (N.length : Int) := by omega
          have g2 : (0 : Int) ≤ (i : Int) := by omega
          have g3 : (i : Int) < (N.length : Int) := by omega
          have HLt := Lib.hid hlt
          clear hcB hc0 hc1 hls hlt hi
          generalize N.getD (i - 1) [] = n0' at *
          generalize N.getD i [] = n1' at *
          generalize hj : i - 1 = j at *
          clear hj
          go_wp2_with fail
          go_quiet (fail)
          go_wp2_with fail
          exact ⟨⟨i + 1, by omega, by go_num, HB3.out.trans ((below_drewsR _ _).mono HB3.out.size)⟩, by simp [RowKit.intOf]; have := HLt.out; omega⟩
        · clear BI
          go_wp2_with fail
          go_loopw [11, 12] (fun v11 v12 wr4 => ∃ i : Nat, i ≤ N.length ∧ v12 = .int .i64 i ∧ v11 = .string (mkS (wrtV (N.drop i).reverse)) ∧ Hid (Below wB.heap.size wB wr4)) (fun _ v12 _ => (RowKit.intOf v12).toNat)
          case atStart => exact ⟨N.length, Nat.le_refl _, rfl, by simp [wrtV]; rfl, HB3⟩
          case round =>
            rename World => wr4
            obtain ⟨i4, hi4, rfl, rfl, HB4⟩ := hrel
            by_cases hlt4 : 0 < i4
            · obtain ⟨j, rfl⟩ : ∃ j, i4 = j + 1 := ⟨i4 - 1, by omega⟩
              obtain ⟨a', c', e', hcB⟩ := HT3.out
              injection e' with e1 _ e2
              subst e1 e2
              obtain ⟨b3, o3, rfl, hc0⟩ := hcB j (N.getD j []) (by simp [List.getD, show j < N.length by omega])
              have d0 := cellR hc0 HB4.out
              have hdn := wrt_down N j (by omega)
              have hnl := H.out.nl rfl (N.getD j []) (by simp [List.getD, show j < N.length by omega])
              have htl := H.out.tl rfl (j + 1)
              have HDn := Lib.hid hdn
              have hw1 : IntKind.i64.wrap (((j + 1 : Nat) : Int) - 1) = (j : Int) := by rw [IntWalk.i64_in _ (by omega)]; omega
              have g0 : (0 : Int) ≤ (j : Int) := by omega
              have g1 : (j : Int) < (N.length : Int) := by omega
              have g2 : (0 : Int) < ((j + 1 : Nat) : Int) := by omega
              clear hcB hc0 hdn
              generalize N.getD j [] = n4 at *
              generalize wrtV (N.drop (j + 1)).reverse = t4 at *
              have z1 := size_mkS n4
              have z2 := size_mkS t4
              have hcat : mkS t4 ++ mkS n4 ++ ⟨#[44, 32]⟩ = mkS (t4 ++ (n4 ++ [44, 32])) := by
                rw [show (⟨#[44, 32]⟩ : ByteArray) = mkS [44, 32] from rfl, mkS_append, mkS_append, List.append_assoc]
              have HCat := Lib.hid hcat
              have HJ4 := Lib.hid hi4
              clear hcat hlt4 hi4
              generalize hJ : j + 1 = J at *
              have HJ := Lib.hid hJ
              clear hJ
              go_wp2_with fail
              refine ⟨⟨j, by have := HJ4.out; have := HJ.out; omega, rfl, ?_, HB4⟩, by simp [RowKit.intOf]; have := HJ.out; omega⟩
              rw [HCat.out, HDn.out]
            · obtain rfl : i4 = 0 := by omega
              rw [List.drop_zero, ← H.out.tt]
              have htl0 := H.out.tl rfl 0
              rw [List.drop_zero, ← H.out.tt] at htl0
              have z1 := size_mkS t
              have HO := Lib.hid (H.out.on ⟨#[86, 97, 114, 121]⟩ (mkS (t ++ t)) wr4)
              have hcat : mkS t ++ mkS t = mkS (t ++ t) := mkS_append t t
              have HBk := Lib.hid H.out.bk
              have HN2 := Lib.hid (fun (v : Value) (W : World) h => H.out.n2 rfl v W h)
              have HSm := Lib.hid (fun v1 v2 W h1 h2 => H.out.sm rfl v1 v2 W h1 h2)
              have HN0 := Lib.hid H.out.st0
              have hN0 : (N.length : Int) ≤ (Q.length : Int) := by omega
              clear hlt4 hi4 H
              go_wp2_with fail
              refine HO.out.mono ?_
              rintro e w6 ⟨rfl, hb6⟩
              have hfl : IsFlds (w6.alloc (.cells #[.string ⟨#[86, 97, 114, 121]⟩, .string (mkS (t ++ t))] 27)) (.slice (some ⟨w6.heap.size, 0, none⟩) 1 1) [(nVary, t ++ t)] := isFlds_litV w6 _ _
              have hb7 := below_allocV w6 (.cells #[.string ⟨#[86, 97, 114, 121]⟩, .string (mkS (t ++ t))] 27)
              have HF7 := Lib.hid hfl
              have HB6 := Lib.hid (HB4.out.trans (hb6.mono HB4.out.size))
              have HB7 := Lib.hid (HB6.out.trans (hb7.mono HB6.out.size))
              clear hb6 hb7 hfl hcat
              go_wp2_with fail
              refine (HN2.out _ _ HF7.out).mono ?_
              rintro e w8 ⟨v8, s8, rfl, hs8, hb8⟩
              have HB8 := Lib.hid (HB7.out.trans (hb8.mono HB7.out.size))
              have HS8 := Lib.hid hs8
              clear hb8 hs8
              go_wp2_with fail
              go_loopw [13, 15] (fun v13 v15 wr5 => ∃ i : Nat, i ≤ t.length ∧ v15 = .int .i64 i ∧ Hid ((v13 = v8 ∧ 34 ∉ t.take i) ∨ v13 = .slice a3 N.length c3) ∧ wr5 = w8) (fun _ v15 _ => t.length - (RowKit.intOf v15).toNat)
              case atStart => exact ⟨0, Nat.zero_le _, rfl, .inl ⟨rfl, by simp⟩, rfl⟩
              case round =>
                rename World => wr5
                obtain ⟨i5, hi5, rfl, HV, rfl⟩ := hrel
                by_cases hlt5 : i5 < t.length
                · have g0 : (0 : Int) ≤ (i5 : Int) := by omega
                  have g1 : (i5 : Int) < ((mkS t).size : Int) := by rw [z1]; omega
                  have hsz5 : i5 < (mkS t).size := by rw [z1]; exact hlt5
                  have hgb := getB t i5 hlt5
                  have hgd : t.getD i5 0 = (mkS t)[i5] := by have h := getD_bs (mkS t) i5 hsz5; rw [bs_mkS] at h; exact h
                  rw [hgd] at hgb
                  have HGb := Lib.hid hgb
                  have HL5 := Lib.hid hlt5
                  clear hgb hgd hlt5 hi5
                  cases hb34 : (((mkS t)[i5].toNat : Int) == 34)
                  · have hne := u8_not _ 34 hb34 (by omega)
                    have HV2 : Hid ((u13 = v8 ∧ 34 ∉ t.take (i5 + 1)) ∨ u13 = .slice a3 N.length c3) := by
                      rcases HV.out with ⟨h1, h2⟩ | h
                      · exact .inl ⟨h1, fun h3 => ((HGb.out.1 h3).elim h2 hne)⟩
                      · exact .inr h
                    clear hne
                    go_wp2_with fail
                    exact ⟨⟨i5 + 1, by have := HL5.out; omega, by go_num, HV2, by first | rfl | trivial⟩, by simp [RowKit.intOf]; have := HL5.out; omega⟩
                  · go_wp2_with fail
                    exact ⟨⟨i5 + 1, by have := HL5.out; omega, by go_num, .inr rfl, by first | rfl | trivial⟩, by simp [RowKit.intOf]; have := HL5.out; omega⟩
                · have htk : t.take i5 = t := List.take_of_length_le (by omega)
                  rw [htk] at HV
                  have hi6 : ¬ ((i5 : Int) < ((mkS t).size : Int)) := by rw [z1]; omega
                  have hs3 : IsStrs wr5 (.slice a3 N.length c3) N := isStrsV_below HT3.out HB8.out
                  have hsv : IsStrs wr5 u13 N := by
                    rcases HV.out with ⟨rfl, h2⟩ | rfl
                    · have h := HS8.out; rw [HBk.out h2] at h; exact h
                    · exact hs3
                  have HS := Lib.hid (HSm.out _ _ wr5 hsv hs3)
                  obtain ⟨a13, n13, c13, rfl⟩ : ∃ a n c, u13 = .slice a n c := by obtain ⟨a, c, h, -⟩ := hsv; exact ⟨a, _, c, h⟩
                  have HB9 := Lib.hid (BB.out.trans (HB8.out.mono BB.out.size))
                  clear htk hsv hs3 HV z1 hN0 hqln hlt hi htl0
                  have hN00 : ((N.length : Int) == 0) = true := by rw [HN0.out (by first | rfl | trivial)]; rfl
                  go_wp2_with fail
                  refine HS.out.mono ?_
                  rintro e w9 ⟨rfl, hb9⟩
                  have HBz := Lib.hid (HB9.out.trans (hb9.mono HB9.out.size))
                  clear hb9
                  go_wp2_with fail
                  go_ret
                  exact ⟨rfl, HBz.out⟩

set_option maxHeartbeats 32000000 in
set_option maxRecDepth 100000 in
theorem vr_false (v : Value) (Q N : List Bs) (t : Bs) (R : List Bs) (w : World) (a : Option Addr) (n0 c : Nat) (ev : v = .slice a n0 c) (H : Hid (VrC w v true false Q N t R)) :
    Calls Tryd.prog 5 #[v] w fun e w' => e = .returned (.bool true) ∧ Below w.heap.size w w' := by
  subst ev
  go_enter Tryd.func5, Tryd.ntmps5
  go_wp2_with fail
  refine (H.out.lv _).mono ?_
  rintro e w1 ⟨rfl, hb1⟩
  have B1 := Lib.hid hb1
  clear hb1
  go_wp2_with fail
  refine (H.out.li _ B1.out).mono ?_
  rintro e w2 ⟨rfl, hb2⟩
  have B2 := Lib.hid (B1.out.trans (hb2.mono B1.out.size))
  clear hb2
  go_wp2_with fail
  refine (H.out.nm rfl _ B2.out).mono ?_
  rintro e w3 ⟨v3, rfl, hs3, hb3⟩
  have B3 := Lib.hid (B2.out.trans (hb3.mono B2.out.size))
  have HS3 := Lib.hid hs3
  clear hb3 hs3
  go_wp2_with fail
  refine (H.out.ls rfl _ B3.out).mono ?_
  rintro e wB ⟨v5, rfl, hs5, hb4⟩
  have BB := Lib.hid (B3.out.trans (hb4.mono B3.out.size))
  have HT3 := Lib.hid (isStrsV_below HS3.out hb4)
  have HT5 := Lib.hid hs5
  obtain ⟨a3, c3, rfl⟩ : ∃ a c, v3 = .slice a N.length c := by obtain ⟨a, c, h, -⟩ := HT3.out; exact ⟨a, c, h⟩
  obtain ⟨a5, c5, rfl⟩ : ∃ a c, v5 = .slice a Q.length c := by obtain ⟨a, c, h, -⟩ := HT5.out; exact ⟨a, c, h⟩
  have hqln := H.out.qln rfl
  have hlen := H.out.len
  clear hb4 hs5 HS3
  go_wp2_with fail
  go_loopw [6, 7] (fun v6 v7 wr => ∃ (i : Nat) (q : Bool), i ≤ Q.length ∧ v7 = .int .i64 i ∧ v6 = .bool q ∧ Hid (decide ([42] ∈ Q.take i) = q) ∧ Hid (Below wB.heap.size wB wr)) (fun _ v7 _ => Q.length - (RowKit.intOf v7).toNat)
  case atStart => exact ⟨0, false, Nat.zero_le _, rfl, rfl, by show decide _ = _; simp, Below.refl _ _⟩
  case round =>
    obtain ⟨i, q, hi, rfl, rfl, HA, HBi⟩ := hrel
    rename World => wr
    by_cases hlt : i < Q.length
    · obtain ⟨a', c', e', hcB⟩ := HT5.out
      injection e' with e1 _ e2
      subst e1 e2
      obtain ⟨b5, o5, rfl, hc5B⟩ := hcB i (Q.getD i []) (by simp [List.getD, hlt])
      have hc5 := cellR hc5B HBi.out
      have HC5 := Lib.hid hc5B
      have hmt := memT (x := [42]) i hlt
      rw [HA.out] at hmt
      have hmem : Q.getD i [] ∈ Q := by simp [List.getD, hlt]
      have HLow := Lib.hid (fun W => H.out.lo rfl (Q.getD i []) W hmem)
      have HIn := Lib.hid (fun h => H.out.mem h (Q.getD i []) hmem)
      have HMT := Lib.hid hmt
      have HLt := Lib.hid hlt
      have g0 : (0 : Int) ≤ (i : Int) := by omega
      have g1 : (i : Int) < (Q.length : Int) := by omega
      clear hmt hmem hcB hc5B
      generalize Q.getD i [] = x at *
      have hbq : ((mkS x).toList == ([42] : List UInt8)) = decide (x = [42]) := by rw [toList_bs, bs_mkS, Bool.eq_iff_iff, beq_iff_eq, decide_eq_true_eq]
      obtain ⟨q2, hq2⟩ : ∃ q2, q2 = (q || decide (x = [42])) := ⟨_, rfl⟩
      have HQ2 : Hid (decide ([42] ∈ Q.take (i + 1)) = q2) := by show _ = _; rw [HMT.out, hq2]
      have hways : (q = true ∧ q2 = true) ∨ (q = false ∧ decide (x = [42]) = q2) := by
        subst hq2
        cases q
        · exact .inr ⟨rfl, by simp⟩
        · exact .inl ⟨rfl, rfl⟩
      clear hq2 HMT
      generalize decide (x = [42]) = dx at *
      rcases hways with ⟨rfl, rfl⟩ | ⟨rfl, rfl⟩
      all_goals (
        go_wp2_with fail
        go_loopw [8, 9] (fun v8 v9 wr2 => ∃ (k : Nat) (p : Bool), k ≤ N.length ∧ v9 = .int .i64 k ∧ v8 = .bool p ∧ Hid (decide (lowL x ∈ N.take k) = p) ∧ Hid (Below wB.heap.size wB wr2)) (fun _ v9 _ => N.length - (RowKit.intOf v9).toNat)
        case atStart => exact ⟨0, false, Nat.zero_le _, rfl, rfl, by show decide _ = _; simp, HBi.out⟩
        case round =>
          rename World => wr2
          obtain ⟨k, p, hk, rfl, rfl, HP, HBk⟩ := hrel
          by_cases hkl : k < N.length
          · obtain ⟨a', c', e', hcB⟩ := HT3.out
            injection e' with e1 _ e2
            subst e1 e2
            obtain ⟨b3, o3, rfl, hc3B⟩ := hcB k (N.getD k []) (by simp [List.getD, hkl])
            have hc3 := cellR hc3B HBk.out
            have hc5k := cellR HC5.out HBk.out
            have hmt := memT (x := lowL x) k hkl
            rw [HP.out] at hmt
            have HKL := Lib.hid hkl
            have k0 : (0 : Int) ≤ (k : Int) := by omega
            have k1 : (k : Int) < (N.length : Int) := by omega
            clear hcB hc3B
            generalize N.getD k [] = n at *
            have hbn : ((mkS n).toList == (mkS (lowL x)).toList) = decide (n = lowL x) := by rw [toList_bs, toList_bs, bs_mkS, bs_mkS, Bool.eq_iff_iff, beq_iff_eq, decide_eq_true_eq]
            generalize hdn : decide (n = lowL x) = dn at *
            have hBk := HBk.out
            cases p
            · have HNx : Hid (decide (lowL x ∈ N.take (k + 1)) = dn) := by show _ = _; rw [hmt]; rfl
              clear hmt
              go_upto_region 16 with fail
              have hHeld0 : (fun Wz : World => Wz.cell? ⟨b3, o3 + k, none⟩ = some (.string (mkS n)) ∧ Wz.cell? ⟨b5, o5 + i, none⟩ = some (.string (mkS x)) ∧ Below wB.heap.size wB Wz) wr2.drew := ⟨hc3, hc5k, hBk.drew⟩
              refine wp_region_held_drew (S := (fun Wz : World => Wz.cell? ⟨b3, o3 + k, none⟩ = some (.string (mkS n)) ∧ Wz.cell? ⟨b5, o5 + i, none⟩ = some (.string (mkS x)) ∧ Below wB.heap.size wB Wz)) (by kernel_rfl) hHeld0 (fun hHeld => ?_)
              refine wpAnyH_take (i := 0) (v := .bool false) rfl (by kernel_rfl) (by kernel_rfl) (by kernel_rfl) (fun _ _ _ h => h) (Or.inl ⟨by kernel_rfl, ?_⟩) (by assumption) ?_
              case refine_1 => (intro Wz hSw; go_simp; try with_reducible rfl)
              try simp only [Act.put, List.getElem_toArray, List.getElem_cons_zero, List.setIfInBounds_toArray, List.set_cons_zero, List.set_cons_succ]
              refine wpAnyH_take (i := 1) (v := .bool false) rfl (by kernel_rfl) (by kernel_rfl) (by kernel_rfl) (fun _ _ _ h => h) (Or.inl ⟨by kernel_rfl, ?_⟩) (by assumption) ?_
              case refine_1 => (intro Wz hSw; go_simp; try with_reducible rfl)
              try simp only [Act.put, List.getElem_toArray, List.getElem_cons_succ, List.getElem_cons_zero, List.setIfInBounds_toArray, List.set_cons_zero, List.set_cons_succ]
              refine wpAnyH_take (i := 2) (v := .slice (some ⟨b3, o3, none⟩) N.length c3) rfl (by kernel_rfl) (by kernel_rfl) (by kernel_rfl) (fun _ _ _ h => h) (Or.inl ⟨by kernel_rfl, ?_⟩) (by assumption) ?_
              case refine_1 => (intro Wz hSw; go_simp; try with_reducible rfl)
              try simp only [Act.put, List.getElem_toArray, List.getElem_cons_succ, List.getElem_cons_zero, List.setIfInBounds_toArray, List.set_cons_zero, List.set_cons_succ]
              refine wpAnyH_take (i := 3) (v := .int .i64 (k : Int)) rfl (by kernel_rfl) (by kernel_rfl) (by kernel_rfl) (fun _ _ _ h => h) (Or.inl ⟨by kernel_rfl, ?_⟩) (by assumption) ?_
              case refine_1 => (intro Wz hSw; go_simp; try with_reducible rfl)
              try simp only [Act.put, List.getElem_toArray, List.getElem_cons_succ, List.getElem_cons_zero, List.setIfInBounds_toArray, List.set_cons_zero, List.set_cons_succ]
              refine wpAnyH_take (i := 4) (v := .pointer (some ⟨b3, o3 + k, none⟩)) rfl (by kernel_rfl) (by kernel_rfl) (by kernel_rfl) (fun _ _ _ h => h) (Or.inl ⟨by kernel_rfl, ?_⟩) (by assumption) ?_
              case refine_1 => (intro Wz hSw; go_simp; try with_reducible rfl)
              try simp only [Act.put, List.getElem_toArray, List.getElem_cons_succ, List.getElem_cons_zero, List.setIfInBounds_toArray, List.set_cons_zero, List.set_cons_succ]
              refine wpAnyH_take (i := 5) (v := .string (mkS n)) rfl (by kernel_rfl) (by kernel_rfl) (by kernel_rfl) (fun _ _ _ h => h) (Or.inl ⟨by kernel_rfl, ?_⟩) (by assumption) ?_
              case refine_1 => (intro Wz hSw; have u := hSw.1; go_simp; try with_reducible rfl)
              try simp only [Act.put, List.getElem_toArray, List.getElem_cons_succ, List.getElem_cons_zero, List.setIfInBounds_toArray, List.set_cons_zero, List.set_cons_succ]
              refine wpAnyH_take (i := 6) (v := .slice (some ⟨b5, o5, none⟩) Q.length c5) rfl (by kernel_rfl) (by kernel_rfl) (by kernel_rfl) (fun _ _ _ h => h) (Or.inl ⟨by kernel_rfl, ?_⟩) (by assumption) ?_
              case refine_1 => (intro Wz hSw; go_simp; try with_reducible rfl)
              try simp only [Act.put, List.getElem_toArray, List.getElem_cons_succ, List.getElem_cons_zero, List.setIfInBounds_toArray, List.set_cons_zero, List.set_cons_succ]
              refine wpAnyH_take (i := 7) (v := .int .i64 (i : Int)) rfl (by kernel_rfl) (by kernel_rfl) (by kernel_rfl) (fun _ _ _ h => h) (Or.inl ⟨by kernel_rfl, ?_⟩) (by assumption) ?_
              case refine_1 => (intro Wz hSw; go_simp; try with_reducible rfl)
              try simp only [Act.put, List.getElem_toArray, List.getElem_cons_succ, List.getElem_cons_zero, List.setIfInBounds_toArray, List.set_cons_zero, List.set_cons_succ]
              refine wpAnyH_take (i := 8) (v := .pointer (some ⟨b5, o5 + i, none⟩)) rfl (by kernel_rfl) (by kernel_rfl) (by kernel_rfl) (fun _ _ _ h => h) (Or.inl ⟨by kernel_rfl, ?_⟩) (by assumption) ?_
              case refine_1 => (intro Wz hSw; go_simp; try with_reducible rfl)
              try simp only [Act.put, List.getElem_toArray, List.getElem_cons_succ, List.getElem_cons_zero, List.setIfInBounds_toArray, List.set_cons_zero, List.set_cons_succ]
              refine wpAnyH_take (i := 9) (v := .string (mkS x)) rfl (by kernel_rfl) (by kernel_rfl) (by kernel_rfl) (fun _ _ _ h => h) (Or.inl ⟨by kernel_rfl, ?_⟩) (by assumption) ?_
              case refine_1 => (intro Wz hSw; have u := hSw.2.1; go_simp; try with_reducible rfl)
              try simp only [Act.put, List.getElem_toArray, List.getElem_cons_succ, List.getElem_cons_zero, List.setIfInBounds_toArray, List.set_cons_zero, List.set_cons_succ]
              refine wpAnyH_ready (rs := [10]) (by kernel_rfl) (by simp) ?_
              refine AllReadyH.cons rfl (fun K hK => ?_) AllReadyH.nil
              go_simp
              refine (HLow.out _).mono ?_
              rintro e y1 ⟨rfl, hbb⟩
              have hHeld1 : (fun Wz : World => Wz.cell? ⟨b3, o3 + k, none⟩ = some (.string (mkS n)) ∧ Wz.cell? ⟨b5, o5 + i, none⟩ = some (.string (mkS x)) ∧ Below wB.heap.size wB Wz) y1 := ⟨cellR hHeld0.1 hbb, cellR hHeld0.2.1 hbb, hHeld0.2.2.trans (hbb.mono hHeld0.2.2.size)⟩
              clear hbb
              go_simp
              refine hK.out _ _ hHeld1 (fun hHeld2 => ?_)
              clear hK K hHeld2
              try simp only [Act.put, List.getElem_toArray, List.getElem_cons_succ, List.getElem_cons_zero, List.setIfInBounds_toArray, List.set_cons_zero, List.set_cons_succ]
              refine wpAnyH_take (i := 11) (v := .bool dn) rfl (by kernel_rfl) (by kernel_rfl) (by kernel_rfl) (fun _ _ _ h => h) (Or.inl ⟨by kernel_rfl, ?_⟩) (by assumption) ?_
              case refine_1 => (intro Wz hSw; go_simp; try with_reducible rfl)
              try simp only [Act.put, List.getElem_toArray, List.getElem_cons_succ, List.getElem_cons_zero, List.setIfInBounds_toArray, List.set_cons_zero, List.set_cons_succ]
              refine wpAnyH_take (i := 12) (v := .bool dn) rfl (by kernel_rfl) (by kernel_rfl) (by kernel_rfl) (fun _ _ _ h => h) (Or.inl ⟨by kernel_rfl, ?_⟩) (by assumption) ?_
              case refine_1 => (intro Wz hSw; go_simp; try with_reducible rfl)
              try simp only [Act.put, List.getElem_toArray, List.getElem_cons_succ, List.getElem_cons_zero, List.setIfInBounds_toArray, List.set_cons_zero, List.set_cons_succ]
              refine wpAnyH_take (i := 13) (v := ?_) rfl (by kernel_rfl) (by kernel_rfl) (by kernel_rfl) (fun _ _ _ h => h) (Or.inl ⟨by kernel_rfl, ?_⟩) (by assumption) ?_
              case refine_2 => (intro Wz hSw; go_simp; try with_reducible rfl)
              try simp only [Act.put, List.getElem_toArray, List.getElem_cons_succ, List.getElem_cons_zero, List.setIfInBounds_toArray, List.set_cons_zero, List.set_cons_succ]
              refine wpAnyH_done (by kernel_rfl) ?_ _
              have HBn := Lib.hid (hHeld1.2.2)
              go_wp2_with fail
              exact ⟨⟨k + 1, _, by have := HKL.out; omega, by go_num, rfl, HNx, HBn⟩, by simp [RowKit.intOf]; have := HKL.out; omega⟩
            · have HNx : Hid (decide (lowL x ∈ N.take (k + 1)) = true) := by show _ = _; rw [hmt]; rfl
              clear hmt
              go_upto_region 16 with fail
              have hHeld0 : (fun Wz : World => Wz.cell? ⟨b3, o3 + k, none⟩ = some (.string (mkS n)) ∧ Wz.cell? ⟨b5, o5 + i, none⟩ = some (.string (mkS x)) ∧ Below wB.heap.size wB Wz) wr2.drew := ⟨hc3, hc5k, hBk.drew⟩
              refine wp_region_held_drew (S := (fun Wz : World => Wz.cell? ⟨b3, o3 + k, none⟩ = some (.string (mkS n)) ∧ Wz.cell? ⟨b5, o5 + i, none⟩ = some (.string (mkS x)) ∧ Below wB.heap.size wB Wz)) (by kernel_rfl) hHeld0 (fun hHeld => ?_)
              refine wpAnyH_take (i := 0) (v := .bool true) rfl (by kernel_rfl) (by kernel_rfl) (by kernel_rfl) (fun _ _ _ h => h) (Or.inl ⟨by kernel_rfl, ?_⟩) (by assumption) ?_
              case refine_1 => (intro Wz hSw; go_simp; try with_reducible rfl)
              try simp only [Act.put, List.getElem_toArray, List.getElem_cons_zero, List.setIfInBounds_toArray, List.set_cons_zero, List.set_cons_succ]
              refine wpAnyH_take (i := 1) (v := .bool true) rfl (by kernel_rfl) (by kernel_rfl) (by kernel_rfl) (fun _ _ _ h => h) (Or.inl ⟨by kernel_rfl, ?_⟩) (by assumption) ?_
              case refine_1 => (intro Wz hSw; go_simp; try with_reducible rfl)
              try simp only [Act.put, List.getElem_toArray, List.getElem_cons_succ, List.getElem_cons_zero, List.setIfInBounds_toArray, List.set_cons_zero, List.set_cons_succ]
              refine wpAnyH_take (i := 2) (v := undef) rfl (by kernel_rfl) (by kernel_rfl) (by kernel_rfl) (fun _ _ _ h => h) (Or.inr ⟨by kernel_rfl, rfl⟩) (by assumption) ?_
              try simp only [Act.put, List.getElem_toArray, List.getElem_cons_succ, List.getElem_cons_zero, List.setIfInBounds_toArray, List.set_cons_zero, List.set_cons_succ]
              refine wpAnyH_take (i := 3) (v := undef) rfl (by kernel_rfl) (by kernel_rfl) (by kernel_rfl) (fun _ _ _ h => h) (Or.inr ⟨by kernel_rfl, rfl⟩) (by assumption) ?_
              try simp only [Act.put, List.getElem_toArray, List.getElem_cons_succ, List.getElem_cons_zero, List.setIfInBounds_toArray, List.set_cons_zero, List.set_cons_succ]
              refine wpAnyH_take (i := 4) (v := undef) rfl (by kernel_rfl) (by kernel_rfl) (by kernel_rfl) (fun _ _ _ h => h) (Or.inr ⟨by kernel_rfl, rfl⟩) (by assumption) ?_
              try simp only [Act.put, List.getElem_toArray, List.getElem_cons_succ, List.getElem_cons_zero, List.setIfInBounds_toArray, List.set_cons_zero, List.set_cons_succ]
              refine wpAnyH_take (i := 5) (v := undef) rfl (by kernel_rfl) (by kernel_rfl) (by kernel_rfl) (fun _ _ _ h => h) (Or.inr ⟨by kernel_rfl, rfl⟩) (by assumption) ?_
              try simp only [Act.put, List.getElem_toArray, List.getElem_cons_succ, List.getElem_cons_zero, List.setIfInBounds_toArray, List.set_cons_zero, List.set_cons_succ]
              refine wpAnyH_take (i := 6) (v := undef) rfl (by kernel_rfl) (by kernel_rfl) (by kernel_rfl) (fun _ _ _ h => h) (Or.inr ⟨by kernel_rfl, rfl⟩) (by assumption) ?_
              try simp only [Act.put, List.getElem_toArray, List.getElem_cons_succ, List.getElem_cons_zero, List.setIfInBounds_toArray, List.set_cons_zero, List.set_cons_succ]
              refine wpAnyH_take (i := 7) (v := undef) rfl (by kernel_rfl) (by kernel_rfl) (by kernel_rfl) (fun _ _ _ h => h) (Or.inr ⟨by kernel_rfl, rfl⟩) (by assumption) ?_
              try simp only [Act.put, List.getElem_toArray, List.getElem_cons_succ, List.getElem_cons_zero, List.setIfInBounds_toArray, List.set_cons_zero, List.set_cons_succ]
              refine wpAnyH_take (i := 8) (v := undef) rfl (by kernel_rfl) (by kernel_rfl) (by kernel_rfl) (fun _ _ _ h => h) (Or.inr ⟨by kernel_rfl, rfl⟩) (by assumption) ?_
              try simp only [Act.put, List.getElem_toArray, List.getElem_cons_succ, List.getElem_cons_zero, List.setIfInBounds_toArray, List.set_cons_zero, List.set_cons_succ]
              refine wpAnyH_take (i := 9) (v := undef) rfl (by kernel_rfl) (by kernel_rfl) (by kernel_rfl) (fun _ _ _ h => h) (Or.inr ⟨by kernel_rfl, rfl⟩) (by assumption) ?_
              try simp only [Act.put, List.getElem_toArray, List.getElem_cons_succ, List.getElem_cons_zero, List.setIfInBounds_toArray, List.set_cons_zero, List.set_cons_succ]
              refine wpAnyH_take (i := 10) (v := undef) rfl (by kernel_rfl) (by kernel_rfl) (by kernel_rfl) (fun _ _ _ h => h) (Or.inr ⟨by kernel_rfl, rfl⟩) (by assumption) ?_
              try simp only [Act.put, List.getElem_toArray, List.getElem_cons_succ, List.getElem_cons_zero, List.setIfInBounds_toArray, List.set_cons_zero, List.set_cons_succ]
              refine wpAnyH_take (i := 11) (v := undef) rfl (by kernel_rfl) (by kernel_rfl) (by kernel_rfl) (fun _ _ _ h => h) (Or.inr ⟨by kernel_rfl, rfl⟩) (by assumption) ?_
              try simp only [Act.put, List.getElem_toArray, List.getElem_cons_succ, List.getElem_cons_zero, List.setIfInBounds_toArray, List.set_cons_zero, List.set_cons_succ]
              refine wpAnyH_take (i := 12) (v := .bool true) rfl (by kernel_rfl) (by kernel_rfl) (by kernel_rfl) (fun _ _ _ h => h) (Or.inl ⟨by kernel_rfl, ?_⟩) (by assumption) ?_
              case refine_1 => (intro Wz hSw; go_simp; try with_reducible rfl)
              try simp only [Act.put, List.getElem_toArray, List.getElem_cons_succ, List.getElem_cons_zero, List.setIfInBounds_toArray, List.set_cons_zero, List.set_cons_succ]
              refine wpAnyH_take (i := 13) (v := ?_) rfl (by kernel_rfl) (by kernel_rfl) (by kernel_rfl) (fun _ _ _ h => h) (Or.inl ⟨by kernel_rfl, ?_⟩) (by assumption) ?_
              case refine_2 => (intro Wz hSw; go_simp; try with_reducible rfl)
              try simp only [Act.put, List.getElem_toArray, List.getElem_cons_succ, List.getElem_cons_zero, List.setIfInBounds_toArray, List.set_cons_zero, List.set_cons_succ]
              refine wpAnyH_done (by kernel_rfl) ?_ _
              have HBn := Lib.hid (hHeld0.2.2)
              go_wp2_with fail
              exact ⟨⟨k + 1, _, by have := HKL.out; omega, by go_num, rfl, HNx, HBn⟩, by simp [RowKit.intOf]; have := HKL.out; omega⟩
          · have hkN : N.take k = N := List.take_of_length_le (by omega)
            rw [hkN] at HP
            obtain rfl : p = true := by rw [← HP.out, decide_eq_true (HIn.out (by first | rfl | trivial))]
            clear hkN
            go_wp2_with fail
            exact ⟨⟨i + 1, _, by have := HLt.out; omega, by go_num, rfl, HQ2, HBk⟩, by simp [RowKit.intOf]; have := HLt.out; omega⟩)
    · have hil : Q.take i = Q := List.take_of_length_le (by omega)
      rw [hil, H.out.any] at HA
      obtain rfl := HA.out
      have BI := Lib.hid HBi.out
      clear HA hil HBi
      go_wp2_with fail
      go_loopw [10] (fun v10 wr3 => ∃ i : Nat, 1 ≤ i ∧ v10 = .int .i64 i ∧ Hid (Below wB.heap.size wB wr3)) (fun v10 _ => N.length - (RowKit.intOf v10).toNat)
      case atStart => exact ⟨1, Nat.le_refl _, rfl, BI.out⟩
      case round =>
        rename World => wr3
        obtain ⟨i, hi, rfl, HB3⟩ := hrel
        by_cases hlt : i < N.length
        · obtain ⟨a', c', e', hcB⟩ := HT3.out
          injection e' with e1 _ e2
          subst e1 e2
          obtain ⟨b3, o3, rfl, hc0⟩ := hcB (i - 1) (N.getD (i - 1) []) (by simp [List.getD, show i - 1 < N.length by omega])
          obtain ⟨b3', o3', e3, hc1⟩ := hcB i (N.getD i []) (by simp [List.getD, hlt])
          injection e3 with e3
          injection e3 with e4 e5
          subst e4 e5
          have d0 := cellR hc0 HB3.out
          have d1 := cellR hc1 HB3.out
          have hls : N.getD (i - 1) [] < N.getD i [] := by
            have h := List.pairwise_iff_getElem.1 H.out.lt (i - 1) i (by omega) hlt (by omega)
            simpa [List.getD, hlt, show i - 1 < N.length by omega] using h
          have hge : Op.bytesLess (mkS (N.getD (i - 1) [])).toList (mkS (N.getD i [])).toList = true := by
            rw [toList_bs, toList_bs, bs_mkS, bs_mkS, bytesLess_eq, decide_eq_true hls]
          have hw1 : IntKind.i64.wrap ((i : Int) - 1) = ((i - 1 : Nat) : Int) := by rw [IntWalk.i64_in _ (by omega)]; omega
          have g0 : (0 : Int) ≤ ((i - 1 : Nat) : Int) := by omega
          have g1 : ((i - 1 : Nat) : Int) < (N.length : Int) := by omega
          have g2 : (0 : Int) ≤ (i : Int) := by omega
          have g3 : (i : Int) < (N.length : Int) := by omega
          have HLt := Lib.hid hlt
          clear hcB hc0 hc1 hls hlt hi
          generalize N.getD (i - 1) [] = n0' at *
          generalize N.getD i [] = n1' at *
          generalize hj : i - 1 = j at *
          clear hj
          go_wp2_with fail
          go_quiet (fail)
          go_wp2_with fail
          exact ⟨⟨i + 1, by omega, by go_num, HB3.out.trans ((below_drewsR _ _).mono HB3.out.size)⟩, by simp [RowKit.intOf]; have := HLt.out; omega⟩
        · clear BI
          go_wp2_with fail
          go_loopw [11, 12] (fun v11 v12 wr4 => ∃ i : Nat, i ≤ N.length ∧ v12 = .int .i64 i ∧ v11 = .string (mkS (wrtV (N.drop i).reverse)) ∧ Hid (Below wB.heap.size wB wr4)) (fun _ v12 _ => (RowKit.intOf v12).toNat)
          case atStart => exact ⟨N.length, Nat.le_refl _, rfl, by simp [wrtV]; rfl, HB3⟩
          case round =>
            rename World => wr4
            obtain ⟨i4, hi4, rfl, rfl, HB4⟩ := hrel
            by_cases hlt4 : 0 < i4
            · obtain ⟨j, rfl⟩ : ∃ j, i4 = j + 1 := ⟨i4 - 1, by omega⟩
              obtain ⟨a', c', e', hcB⟩ := HT3.out
              injection e' with e1 _ e2
              subst e1 e2
              obtain ⟨b3, o3, rfl, hc0⟩ := hcB j (N.getD j []) (by simp [List.getD, show j < N.length by omega])
              have d0 := cellR hc0 HB4.out
              have hdn := wrt_down N j (by omega)
              have hnl := H.out.nl rfl (N.getD j []) (by simp [List.getD, show j < N.length by omega])
              have htl := H.out.tl rfl (j + 1)
              have HDn := Lib.hid hdn
              have hw1 : IntKind.i64.wrap (((j + 1 : Nat) : Int) - 1) = (j : Int) := by rw [IntWalk.i64_in _ (by omega)]; omega
              have g0 : (0 : Int) ≤ (j : Int) := by omega
              have g1 : (j : Int) < (N.length : Int) := by omega
              have g2 : (0 : Int) < ((j + 1 : Nat) : Int) := by omega
              clear hcB hc0 hdn
              generalize N.getD j [] = n4 at *
              generalize wrtV (N.drop (j + 1)).reverse = t4 at *
              have z1 := size_mkS n4
              have z2 := size_mkS t4
              have hcat : mkS t4 ++ mkS n4 ++ ⟨#[44, 32]⟩ = mkS (t4 ++ (n4 ++ [44, 32])) := by
                rw [show (⟨#[44, 32]⟩ : ByteArray) = mkS [44, 32] from rfl, mkS_append, mkS_append, List.append_assoc]
              have HCat := Lib.hid hcat
              have HJ4 := Lib.hid hi4
              clear hcat hlt4 hi4
              generalize hJ : j + 1 = J at *
              have HJ := Lib.hid hJ
              clear hJ
              go_wp2_with fail
              refine ⟨⟨j, by have := HJ4.out; have := HJ.out; omega, rfl, ?_, HB4⟩, by simp [RowKit.intOf]; have := HJ.out; omega⟩
              rw [HCat.out, HDn.out]
            · obtain rfl : i4 = 0 := by omega
              rw [List.drop_zero, ← H.out.tt]
              have htl0 := H.out.tl rfl 0
              rw [List.drop_zero, ← H.out.tt] at htl0
              have z1 := size_mkS t
              have HO := Lib.hid (H.out.on ⟨#[86, 97, 114, 121]⟩ (mkS (t ++ t)) wr4)
              have hcat : mkS t ++ mkS t = mkS (t ++ t) := mkS_append t t
              have HBk := Lib.hid H.out.bk
              have HN2 := Lib.hid (fun (v : Value) (W : World) h => H.out.n2 rfl v W h)
              have HSm := Lib.hid (fun v1 v2 W h1 h2 => H.out.sm rfl v1 v2 W h1 h2)
              have HN0 := Lib.hid H.out.st0
              have hN0 : (N.length : Int) ≤ (Q.length : Int) := by omega
              clear hlt4 hi4 H
              go_wp2_with fail
              refine HO.out.mono ?_
              rintro e w6 ⟨rfl, hb6⟩
              have hfl : IsFlds (w6.alloc (.cells #[.string ⟨#[86, 97, 114, 121]⟩, .string (mkS (t ++ t))] 27)) (.slice (some ⟨w6.heap.size, 0, none⟩) 1 1) [(nVary, t ++ t)] := isFlds_litV w6 _ _
              have hb7 := below_allocV w6 (.cells #[.string ⟨#[86, 97, 114, 121]⟩, .string (mkS (t ++ t))] 27)
              have HF7 := Lib.hid hfl
              have HB6 := Lib.hid (HB4.out.trans (hb6.mono HB4.out.size))
              have HB7 := Lib.hid (HB6.out.trans (hb7.mono HB6.out.size))
              clear hb6 hb7 hfl hcat
              go_wp2_with fail
              refine (HN2.out _ _ HF7.out).mono ?_
              rintro e w8 ⟨v8, s8, rfl, hs8, hb8⟩
              have HB8 := Lib.hid (HB7.out.trans (hb8.mono HB7.out.size))
              have HS8 := Lib.hid hs8
              clear hb8 hs8
              go_wp2_with fail
              go_loopw [13, 15] (fun v13 v15 wr5 => ∃ i : Nat, i ≤ t.length ∧ v15 = .int .i64 i ∧ Hid ((v13 = v8 ∧ 34 ∉ t.take i) ∨ v13 = .slice a3 N.length c3) ∧ wr5 = w8) (fun _ v15 _ => t.length - (RowKit.intOf v15).toNat)
              case atStart => exact ⟨0, Nat.zero_le _, rfl, .inl ⟨rfl, by simp⟩, rfl⟩
              case round =>
                rename World => wr5
                obtain ⟨i5, hi5, rfl, HV, rfl⟩ := hrel
                by_cases hlt5 : i5 < t.length
                · have g0 : (0 : Int) ≤ (i5 : Int) := by omega
                  have g1 : (i5 : Int) < ((mkS t).size : Int) := by rw [z1]; omega
                  have hsz5 : i5 < (mkS t).size := by rw [z1]; exact hlt5
                  have hgb := getB t i5 hlt5
                  have hgd : t.getD i5 0 = (mkS t)[i5] := by have h := getD_bs (mkS t) i5 hsz5; rw [bs_mkS] at h; exact h
                  rw [hgd] at hgb
                  have HGb := Lib.hid hgb
                  have HL5 := Lib.hid hlt5
                  clear hgb hgd hlt5 hi5
                  cases hb34 : (((mkS t)[i5].toNat : Int) == 34)
                  · have hne := u8_not _ 34 hb34 (by omega)
                    have HV2 : Hid ((u13 = v8 ∧ 34 ∉ t.take (i5 + 1)) ∨ u13 = .slice a3 N.length c3) := by
                      rcases HV.out with ⟨h1, h2⟩ | h
                      · exact .inl ⟨h1, fun h3 => ((HGb.out.1 h3).elim h2 hne)⟩
                      · exact .inr h
                    clear hne
                    go_wp2_with fail
                    exact ⟨⟨i5 + 1, by have := HL5.out; omega, by go_num, HV2, by first | rfl | trivial⟩, by simp [RowKit.intOf]; have := HL5.out; omega⟩
                  · go_wp2_with fail
                    exact ⟨⟨i5 + 1, by have := HL5.out; omega, by go_num, .inr rfl, by first | rfl | trivial⟩, by simp [RowKit.intOf]; have := HL5.out; omega⟩
                · have htk : t.take i5 = t := List.take_of_length_le (by omega)
                  rw [htk] at HV
                  have hi6 : ¬ ((i5 : Int) < ((mkS t).size : Int)) := by rw [z1]; omega
                  have hs3 : IsStrs wr5 (.slice a3 N.length c3) N := isStrsV_below HT3.out HB8.out
                  have hsv : IsStrs wr5 u13 N := by
                    rcases HV.out with ⟨rfl, h2⟩ | rfl
                    · have h := HS8.out; rw [HBk.out h2] at h; exact h
                    · exact hs3
                  have HS := Lib.hid (HSm.out _ _ wr5 hsv hs3)
                  obtain ⟨a13, n13, c13, rfl⟩ : ∃ a n c, u13 = .slice a n c := by obtain ⟨a, c, h, -⟩ := hsv; exact ⟨a, _, c, h⟩
                  have HB9 := Lib.hid (BB.out.trans (HB8.out.mono BB.out.size))
                  clear htk hsv hs3 HV z1 hN0 hqln hlt hi htl0
                  go_wp2_with fail
                  refine HS.out.mono ?_
                  rintro e w9 ⟨rfl, hb9⟩
                  have HBz := Lib.hid (HB9.out.trans (hb9.mono HB9.out.size))
                  clear hb9
                  go_wp2_with fail
                  go_ret
                  exact ⟨rfl, HBz.out⟩

/-- VaryRises -/
theorem vrises_any (v : Value) (l : List (Bs × Bs)) (w : World) (hs : IsFlds w v l) (hz : ∀ f ∈ l, f.1.length ≤ 140737488351232 ∧ f.2.length ≤ 140737488351232) (hn : l.length ≤ 140737488351232) :
    Calls Tryd.prog 5 #[v] w fun e w' => e = .returned (.bool true) ∧ Below w.heap.size w w' := by
  have hcm := list_good l nVary
  have hpc := fun (h : lightU l = true) (p : Bs) (hp : p ∈ listF l nVary) => Nat.le_trans (listF_piece nVary l p hp) (lightU_parts l h).2
  have hql := fun (h : lightU l = true) => Nat.le_trans (listF_len nVary l) (lightU_parts l h).2
  have hel := fun (h : lightU l = true) => nms_each (listF l nVary) 680 (hpc h)
  have hnl := nms_len (listF l nVary)
  have htl : lightU l = true → ∀ i, (wrtV ((nmsV (listF l nVary)).drop i).reverse).length ≤ 480000 := fun h i => by
    have h1 := wrt_len ((nmsV (listF l nVary)).drop i).reverse 680 (fun m hm => hel h m (List.mem_of_mem_drop (List.mem_reverse.1 hm)))
    have h2 : ((nmsV (listF l nVary)).drop i).reverse.length ≤ 680 := by rw [List.length_reverse, List.length_drop]; have := hql h; omega
    exact Nat.le_trans h1 (Nat.le_trans (Nat.mul_le_mul_right _ h2) (by decide))
  have H : VrC w v (lightU l) (decide ([42] ∈ listF l nVary)) (listF l nVary) (nmsV (listF l nVary)) (wrtV (nmsV (listF l nVary)).reverse) (nmsV (splitL (wrtV (nmsV (listF l nVary)).reverse ++ wrtV (nmsV (listF l nVary)).reverse))) := {
    lv := fun W => lives12_any W
    li := fun W h => (vlight_any v l W (isFlds_below hs h) hz hn).mono fun e w' ⟨h1, n, h2⟩ => ⟨h1, h2 ▸ below_drewsR W n⟩
    nm := fun q W h => by
      obtain ⟨a1, a2⟩ := lightU_parts l q
      refine (names_any v l W (isFlds_below hs h) (by omega) (by omega)).mono ?_
      rintro e w' ⟨v', he, ho, hb⟩
      exact ⟨v', he, isStrs_own ho, hb⟩
    ls := fun q W h => by
      obtain ⟨a1, a2⟩ := lightU_parts l q
      refine (rlist_any v l nVary W (isFlds_below hs h) (by omega) (by decide) (by omega)).mono ?_
      rintro e w' ⟨v', he, ho, hb⟩
      exact ⟨v', he, isStrs_own ho, hb⟩
    lo := fun q x W hx => by
      have h := refLower_any (mkS x) W (by rw [size_mkS]; have := hpc q x hx; omega)
      rw [bs_mkS] at h
      exact h
    on := fun n x W => vone_any n x W
    n2 := fun q v W h => by
      have ht := htl q 0
      rw [List.drop_zero] at ht
      have h1 := names_any v _ W h (sumF_oneV _ ht) (by simp)
      rw [listF_oneV] at h1
      refine h1.mono ?_
      rintro e w' ⟨v', he, ho, hb⟩
      exact ⟨v', _, he, isStrs_own ho, hb⟩
    sm := fun q v1 v2 W h1 h2 => by
      have h := same_any v1 v2 _ _ W h1 h2 (by have := hql q; omega) (by have := hql q; omega)
      rw [decide_eq_true rfl] at h
      exact h.mono fun e w' ⟨h1, n, h2⟩ => ⟨h1, h2 ▸ below_drewsR W n⟩
    any := rfl
    st0 := fun h => by unfold nmsV; rw [if_pos (of_decide_eq_true h)]
    mem := fun h x hx => by
      unfold nmsV
      rw [if_neg (of_decide_eq_false h), set_mem]
      exact List.mem_map_of_mem hx
    lt := nms_lt _
    len := hnl
    qln := fun q => by have := hql q; omega
    tt := rfl
    tl := htl
    nl := fun q n hn => by have := hel q n hn; omega
    bk := fun h => back_names _ hcm h }
  obtain ⟨a, c, ev⟩ : ∃ a c, v = .slice a l.length c := by obtain ⟨a, c, h, -⟩ := hs; exact ⟨a, c, h⟩
  generalize lightU l = q at H
  cases q
  · exact vr_heavy v _ _ _ _ _ w a _ c ev H
  cases hst : decide ([42] ∈ listF l nVary)
  · rw [hst] at H
    exact vr_false v _ _ _ _ w a _ c ev H
  · rw [hst] at H
    exact vr_true v _ _ _ _ w a _ c ev H

end Tk
end Go.Proofs.YthooghgiokgdhaaDoor
