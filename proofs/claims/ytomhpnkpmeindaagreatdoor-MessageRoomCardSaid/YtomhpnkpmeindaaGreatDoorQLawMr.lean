/- The law MessageRoom: its walk. -/
import Derived.Test.YtomhpnkpmeindaaGreatDoorQRmQ
import Derived.Test.YtomhpnkpmeindaaGreatDoorQRmK
import Derived.Test.YtomhpnkpmeindaaGreatDoorQPkT
import Derived.Test.YtomhpnkpmeindaaGreatDoorQArgL
import Derived.Deep.RegionHeld3
namespace Go.Proofs.YtomhpnkpmeindaaGreatDoor
open Go.RowKit
namespace Tk

theorem all_body (C M : Int) (c m : Nat) (t : ByteArray) (W : World) (b body : Bs) (hc : max C 0 = c) (hm : max M 0 = m) (hc2 : c ≤ 100) (hm2 : m ≤ 100) (hb : bs t = b) (hs : allS (newP 100 400 c m false) b = 0) (hbd : (allM (newP 100 400 c m false) b).map (·.body) = [body]) (ht : t.size ≤ 100000) (hv : ErrV W.heap.size W) :
    Calls Tryz.prog 10 #[.agg #[.int .i64 100, .int .i64 400, .int .i64 C, .int .i64 M], .string t] W fun e w' => ∃ g cap, e = .returned (.tuple #[.slice (some ⟨g, 0, none⟩) 1 cap, .int .i64 0]) ∧ w'.cell? ⟨g, 6, none⟩ = some (.string (mkS body)) ∧ Below W.heap.size W w' := by
  refine (pall_any 100 400 C M 100 400 c m t W rfl rfl hc hm ⟨by show 100 ≤ _; omega, by show 400 ≤ _; omega, by show c ≤ _; omega, by show m ≤ _; omega⟩ ht hv).mono ?_
  rintro e w' ⟨v, Vs, rfl, hmap, hms, hbe⟩
  rw [hb, hs]
  rw [hb] at hmap
  have hl : Vs.length = 1 := by have := congrArg List.length hbd; rw [← hmap] at this; simpa using this
  obtain ⟨x, rfl⟩ := List.length_eq_one_iff.1 hl
  rw [← hmap] at hbd
  simp only [List.map_cons, List.map_nil, List.cons.injEq, and_true] at hbd
  obtain ⟨g, cap, rfl, -, hc, -, -⟩ := hms.get 0 x rfl
  refine ⟨g, cap, rfl, ?_, hbe⟩
  have := hc 6 _ rfl
  rw [hbd] at this
  exact this
theorem all_stat (C M : Int) (c m : Nat) (t : ByteArray) (W : World) (b : Bs) (st : Nat) (hc : max C 0 = c) (hm : max M 0 = m) (hc2 : c ≤ 100) (hm2 : m ≤ 100) (hb : bs t = b) (hs : allS (newP 100 400 c m false) b = st) (ht : t.size ≤ 100000) (hv : ErrV W.heap.size W) :
    Calls Tryz.prog 10 #[.agg #[.int .i64 100, .int .i64 400, .int .i64 C, .int .i64 M], .string t] W fun e w' => ∃ a k c, e = .returned (.tuple #[.slice a k c, .int .i64 st]) ∧ Below W.heap.size W w' := by
  refine (pall_any 100 400 C M 100 400 c m t W rfl rfl hc hm ⟨by show 100 ≤ _; omega, by show 400 ≤ _; omega, by show c ≤ _; omega, by show m ≤ _; omega⟩ ht hv).mono ?_
  rintro e w' ⟨v, Vs, rfl, hmap, hms, hbe⟩
  obtain ⟨a, c, rfl⟩ := hms.val
  rw [hb, hs]
  exact ⟨a, _, c, rfl, hbe⟩

set_option maxRecDepth 100000 in
set_option maxHeartbeats 16000000 in
theorem room_any (x y : Int) (w : World) (hv : ErrV w.heap.size w) :
    Calls Tryz.prog 7 #[.int .i64 x, .int .i64 y] w (Yes2 w) := by
  have HV := Lib.hid hv
  have HL := Lib.hid (lives06_any _ hv)
  have HPk := Lib.hid (fun (n : Int) (m : Nat) (W : World) (h1 : 1 ≤ m) (h2 : m ≤ 1099511627776) => pick_any n m W h1 h2)
  clear hv
  unfold Yes2 at HL ⊢
  go_enter Tryz.func7, Tryz.ntmps7
  go_wp2_with fail
  refine HL.out.mono ?_
  rintro e w1 ⟨rfl, hb⟩
  have HB1 := Lib.hid hb
  clear hb HL
  go_wp2_with fail
  refine (HPk.out _ 60 _ (by omega) (by omega)).mono ?_
  rintro e w2 ⟨n, hn, rfl, rfl⟩
  have q1 : (n : Int) ≤ 60 := by omega
  go_wp2_with fail
  refine (HPk.out _ 12 _ (by omega) (by omega)).mono ?_
  rintro e w2 ⟨j, hj, rfl, rfl⟩
  obtain ⟨N, hN⟩ : ∃ N, N = n + 1 := ⟨_, rfl⟩
  obtain ⟨J, hJ⟩ : ∃ J, J = j + 1 := ⟨_, rfl⟩
  obtain ⟨J1, hJ1⟩ : ∃ J1, J1 = j + 2 := ⟨_, rfl⟩
  have e1 : 1 + (n : Int) = (N : Int) := by omega
  have e2 : 1 + (j : Int) = (J : Int) := by omega
  have e3 : (J : Int) + 1 = (J1 : Int) := by omega
  have q2 : (j : Int) ≤ 12 := by omega
  have q4 : (J : Int) ≤ 13 := by omega
  have q5 : (N : Int) ≤ 61 := by omega
  have HNJ := Lib.hid (⟨hN, hJ, hJ1, hn, hj⟩ : N = n + 1 ∧ J = j + 1 ∧ J1 = j + 2 ∧ n < 60 ∧ j < 12)
  clear hN hJ hJ1 hn hj
  go_wp2_with fail
  have hbx : (w1.alloc (.cells #[.int .i64 100, .int .i64 400, .int .i64 J1, .int .i64 N] 23)).heap[w1.heap.size]? = some (.cells #[.int .i64 100, .int .i64 400, .int .i64 J1, .int .i64 N] 23 (0, 0)) := heap_alloc_last w1 _
  have HB2 := Lib.hid (show Below w.heap.size w (w1.alloc (.cells #[.int .i64 100, .int .i64 400, .int .i64 J1, .int .i64 N] 23)) from HB1.out.alloc HB1.out.size _)
  have HBx := Lib.hid hbx
  clear hbx
  generalize w1.alloc (.cells #[.int .i64 100, .int .i64 400, .int .i64 J1, .int .i64 N] 23) = wB at *
  have HGl := Lib.hid (show w1.heap.size < wB.heap.size from (Array.getElem?_eq_some_iff.1 HBx.out).1)
  generalize w1.heap.size = g at *
  have HLc := Lib.hid (fun (W : World) (hb : Below wB.heap.size wB W) (i : Nat) (v : Value) (hv : (#[.int .i64 100, .int .i64 400, .int .i64 J1, .int .i64 N] : Array Value)[i]? = some v) => lim_cell ((hb.block g HGl.out).trans HBx.out) i v hv)
  have HVB := Lib.hid ((HV.out.later HB2.out).top)
  go_loop [5, 7] (fun v5 v7 => ∃ i : Nat, i ≤ j ∧ v5 = .string (mkS (rmHead i)) ∧ v7 = .int .i64 (i + 1 : Nat)) (fun _ v7 => j + 1 - (RowKit.intOf v7).toNat)
  case atStart => exact ⟨0, Nat.zero_le _, rfl, rfl⟩
  case round =>
    obtain ⟨i, hi, rfl, rfl⟩ := hrel
    have hsz : (mkS (rmHead i)).size = 25 + 6 * i := by rw [size_mkS]; unfold rmHead; rw [List.length_append, rep_len]; show 25 + i * 6 = _; omega
    have hz : (mkS (rmHead i)).size + 6 ≤ 9223372036854775807 := by omega
    have hsn : mkS (rmHead i) ++ ⟨#[65, 58, 32, 49, 13, 10]⟩ = mkS (rmHead (i + 1)) := by
      unfold rmHead
      rw [rep_snoc, ← List.append_assoc, ← mkS_append]; rfl
    have HSn := Lib.hid hsn
    clear hsn
    by_cases hlt : i < j
    · have q3 : ((i + 1 : Nat) : Int) < (J : Int) := by have := HNJ.out; omega
      go_wp2_with fail
      go_round
      case rel => exact ⟨i + 1, by omega, congrArg Value.string HSn.out, by go_num⟩
      case measure => simp [RowKit.intOf]; omega
    · have hij : i = j := by omega
      subst hij
      have q3 : ¬ ((i + 1 : Nat) : Int) < (J : Int) := by have := HNJ.out; omega
      have HSz := Lib.hid hsz
      clear hz HSn hlt hi hsz
      have HTi := Lib.hid (times_rep [120] N wB (by have := HNJ.out; omega) (by decide))
      rw [rep_one] at HTi
      have HDi := Lib.hid (digits_any N wB (by have := HNJ.out; omega))
      have z1 : (mkS (List.replicate N 120)).size = N := by rw [size_mkS, List.length_replicate]
      have z2 : (mkS (digN N)).size ≤ 2 := by rw [size_mkS]; exact digN_le N
      go_wp2_with fail
      refine HTi.out.mono ?_
      rintro e w5 ⟨rfl, rfl⟩
      go_wp2_with fail
      refine HDi.out.mono ?_
      rintro e w5 ⟨rfl, rfl⟩
      obtain ⟨dg, hdg⟩ : ∃ d, d = mkS (digN N) := ⟨_, rfl⟩
      obtain ⟨bd, hbd⟩ : ∃ d, d = mkS (List.replicate N 120) := ⟨_, rfl⟩
      obtain ⟨hh, hhh⟩ : ∃ d, d = mkS (rmHead i) := ⟨_, rfl⟩
      rw [← hdg] at z2 ⊢
      rw [← hbd] at z1 ⊢
      rw [← hhh] at HSz ⊢
      have HDg := Lib.hid (⟨hdg, hbd, hhh⟩ : _ ∧ _ ∧ _)
      have z3 := HSz.out
      have z4 : i ≤ 12 := by have := HNJ.out; omega
      clear hdg hbd hhh HTi HDi HSz
      obtain ⟨E, hEe⟩ : ∃ E, E = mkS (rmCLh N ++ List.replicate N 120) := ⟨_, rfl⟩
      have hE : (⟨#[67, 111, 110, 116, 101, 110, 116, 45, 76, 101, 110, 103, 116, 104, 58, 32]⟩ : ByteArray) ++ dg ++ ⟨#[13, 10, 13, 10]⟩ ++ bd = E := by
        rw [hEe, HDg.out.1, HDg.out.2.1]
        show mkS [67, 111, 110, 116, 101, 110, 116, 45, 76, 101, 110, 103, 116, 104, 58, 32] ++ mkS (digN N) ++ mkS [13, 10, 13, 10] ++ mkS (List.replicate N 120) = _
        rw [mkS_append, mkS_append, mkS_append]; rfl
      have hEz : E.size ≤ 90 := by
        rw [hEe, size_mkS, List.length_append, List.length_replicate]
        have : (rmCLh N).length ≤ 22 := by
          unfold rmCLh
          rw [List.length_append, List.length_append]
          have := digN_le N
          show 16 + _ + 4 ≤ 22
          omega
        omega
      have HE := Lib.hid hEe
      clear hEe
      go_upto_region 12 with (fail)
      have k0 := HLc.out wB (Below.refl _ _) 0 _ rfl
      have k1 := HLc.out wB (Below.refl _ _) 1 _ rfl
      have k2 := HLc.out wB (Below.refl _ _) 2 _ rfl
      have k3 := HLc.out wB (Below.refl _ _) 3 _ rfl
      have hb1 : bs (hh ++ E) = b1 i N := by rw [HDg.out.2.2, HE.out, mkS_append, bs_mkS]; rfl
      have h1 := room_1 i n HNJ.out.2.2.2.2 HNJ.out.2.2.2.1
      rw [← show N = n + 1 from HNJ.out.1] at h1
      have HA1 := Lib.hid (all_body (J1 : Int) (N : Int) (i + 2) N (hh ++ E) wB (b1 i N) (List.replicate N 120) (by have := HNJ.out; omega) (by omega) (by omega) (by omega) hb1 h1.1 h1.2 (by rw [ByteArray.size_append]; omega) HVB.out)
      have fz1 : hh.size + E.size ≤ 9223372036854775807 := by omega
      have HZz := Lib.hid (⟨z1, z3, hEz⟩ : bd.size = N ∧ hh.size = 25 + 6 * i ∧ E.size ≤ 90)
      clear hE hb1 h1 z1 z2 z3 hEz
      go_wp2_with fail
      refine HA1.out.mono ?_
      rintro e w6 ⟨ga, cp1, rfl, c1, hb⟩
      have HB6 := Lib.hid hb
      clear hb HA1
      obtain ⟨X1, hX1⟩ : ∃ X, X = mkS (rmHead i ++ (rmTE ++ chB)) := ⟨_, rfl⟩
      obtain ⟨T1, hT1⟩ : ∃ X, X = mkS (rep n chB) := ⟨_, rfl⟩
      obtain ⟨X2, hX2⟩ : ∃ X, X = mkS (rmHead i ++ (rmTE ++ chB) ++ rep n chB) := ⟨_, rfl⟩
      obtain ⟨X3, hX3⟩ : ∃ X, X = mkS (b2 i N) := ⟨_, rfl⟩
      have x1 : hh ++ ⟨#[84, 114, 97, 110, 115, 102, 101, 114, 45, 69, 110, 99, 111, 100, 105, 110, 103, 58, 32, 99, 104, 117, 110, 107, 101, 100, 13, 10, 13, 10, 49, 13, 10, 120, 13, 10]⟩ = X1 := by
        rw [HDg.out.2.2, hX1, ← mkS_append]; rfl
      have x2 : X1 ++ T1 = X2 := by rw [hX1, hT1, hX2, mkS_append]
      have hb2 : rmHead i ++ (rmTE ++ chB) ++ rep n chB ++ [48, 13, 10, 13, 10] = b2 i N := by
        unfold b2
        rw [show N = n + 1 from HNJ.out.1]
        show _ = rmHead i ++ rmTE ++ (chB ++ rep n chB) ++ _
        simp only [List.append_assoc]
      have x3 : X2 ++ ⟨#[48, 13, 10, 13, 10]⟩ = X3 := by
        rw [hX2, hX3, ← hb2, ← mkS_append _ [48, 13, 10, 13, 10]]; rfl
      have l1 : X1.size = 25 + 6 * i + 36 := by rw [hX1, ← mkS_append, ByteArray.size_append, ← HDg.out.2.2, HZz.out.2.1]; rfl
      have l2 : T1.size = n * 6 := by rw [hT1, size_mkS, rep_len]; rfl
      have l3 : X2.size = 25 + 6 * i + 36 + n * 6 := by rw [← x2, ByteArray.size_append, l1, l2]
      have l4 : X3.size = 25 + 6 * i + 36 + n * 6 + 5 := by rw [← x3, ByteArray.size_append, l3]; rfl
      have fz2 : ¬ 9223372036854775807 < hh.size + 36 := by have := HZz.out; omega
      have fz3 : ¬ 9223372036854775807 < X1.size + T1.size := by omega
      have fz4 : ¬ 9223372036854775807 < X2.size + 5 := by omega
      have e4 : (N : Int) - 1 = (n : Int) := by omega
      have ew : IntKind.i64.wrap (n : Int) = (n : Int) := IntWalk.i64_in _ (by omega)
      have HT1 := Lib.hid (fun W : World => times_rep chB n W (by omega) (by decide))
      rw [← hT1] at HT1
      have h2 := room_2 i n HNJ.out.2.2.2.2 HNJ.out.2.2.2.1
      rw [← show N = n + 1 from HNJ.out.1] at h2
      have hA2 := all_body (J1 : Int) (N : Int) (i + 2) N X3 w6.drew (b2 i N) (List.replicate N 120) (by have := HNJ.out; omega) (by omega) (by omega) (by omega) (by rw [hX3]; rfl) h2.1 h2.2 (by omega) (HVB.out.later (HB6.out.trans ⟨rfl, rfl, rfl, Nat.le_refl _, fun _ _ => rfl⟩)).top
      have HBd := Lib.hid (show Below wB.heap.size wB w6.drew from HB6.out.trans ⟨rfl, rfl, rfl, Nat.le_refl _, fun _ _ => rfl⟩)
      have c1' : w6.drew.cell? ⟨ga, 6, none⟩ = some (.string (mkS (List.replicate N 120))) := c1
      have HC1 := Lib.hid c1'
      have HA2 : Hid (Calls Tryz.prog 10 #[.agg #[.int .i64 100, .int .i64 400, .int .i64 J1, .int .i64 N], .string X3] w6.drew fun e w' => ∃ gz cap, e = .returned (.tuple #[.slice (some ⟨gz, 0, none⟩) 1 cap, .int .i64 0]) ∧ (w'.cell? ⟨gz, 6, none⟩ = some (.string (mkS (List.replicate N 120))) ∧ Below w6.drew.heap.size w6.drew w') ∧ w'.cell? ⟨g, 0, none⟩ = some (.int .i64 100) ∧ w'.cell? ⟨g, 1, none⟩ = some (.int .i64 400) ∧ w'.cell? ⟨g, 2, none⟩ = some (.int .i64 J1) ∧ w'.cell? ⟨g, 3, none⟩ = some (.int .i64 N)) := by
        refine Lib.hid (hA2.mono ?_)
        rintro e w' ⟨gz, cap, rfl, h1, h3⟩
        have hB := HBd.out.trans (h3.mono HBd.out.size)
        exact ⟨gz, cap, rfl, ⟨h1, h3⟩, HLc.out w' hB 0 _ rfl, HLc.out w' hB 1 _ rfl, HLc.out w' hB 2 _ rfl, HLc.out w' hB 3 _ rfl⟩
      have d0 : w6.drew.cell? ⟨g, 0, none⟩ = some (.int .i64 100) := HLc.out _ HBd.out 0 _ rfl
      have d1 : w6.drew.cell? ⟨g, 1, none⟩ = some (.int .i64 400) := HLc.out _ HBd.out 1 _ rfl
      have d2 : w6.drew.cell? ⟨g, 2, none⟩ = some (.int .i64 J1) := HLc.out _ HBd.out 2 _ rfl
      have d3 : w6.drew.cell? ⟨g, 3, none⟩ = some (.int .i64 N) := HLc.out _ HBd.out 3 _ rfl
      have s0 : w6.cell? ⟨g, 0, none⟩ = some (.int .i64 100) := d0
      have s1 : w6.cell? ⟨g, 1, none⟩ = some (.int .i64 400) := d1
      have s2 : w6.cell? ⟨g, 2, none⟩ = some (.int .i64 J1) := d2
      have s3 : w6.cell? ⟨g, 3, none⟩ = some (.int .i64 N) := d3
      clear hX1 hT1 hX2 hX3 hb2 l1 l2 l3 l4 h2 hA2 c1 c1' k0 k1 k2 k3
      go_wp2_with fail
      (go_region_held3 (fun w' => w'.cell? ⟨g, 0, none⟩ = some (.int .i64 100) ∧ w'.cell? ⟨g, 1, none⟩ = some (.int .i64 400) ∧ w'.cell? ⟨g, 2, none⟩ = some (.int .i64 J1) ∧ w'.cell? ⟨g, 3, none⟩ = some (.int .i64 N)) (first | (refine ⟨?_, ?_, ?_, ?_⟩ <;> assumption)) (first
        | (go_at_call 25; refine (HT1.out _).mono ?_; rintro e w7 ⟨rfl, rfl⟩)
        | (go_at_call 10; refine HA2.out.mono ?_; rintro e w7 ⟨gb, cp2, rfl, hpost, t0, t1, t2, t3⟩)))
      go_wp2_with fail
      obtain ⟨c2, hb7⟩ := hpost
      have HB7 := Lib.hid (HBd.out.trans (hb7.mono HBd.out.size))
      have HCa := Lib.hid ((hb7.cell (cell_lt HC1.out)).trans HC1.out)
      have HCb := Lib.hid c2
      clear hb7 c2 d0 d1 d2 d3 s0 s1 s2 s3 HA2 HC1 HT1 HBd HB6 fz3 fz4 x2 x3 ew
      have m0 : w7.drew.cell? ⟨g, 0, none⟩ = some (.int .i64 100) := t0
      have m1 : w7.drew.cell? ⟨g, 1, none⟩ = some (.int .i64 400) := t1
      have m2 : w7.drew.cell? ⟨g, 2, none⟩ = some (.int .i64 J1) := t2
      have m3 : w7.drew.cell? ⟨g, 3, none⟩ = some (.int .i64 N) := t3
      have hglt : g < w7.heap.size := cell_lt t0
      have u0 : ∀ o, (w7.alloc o).drew.cell? ⟨g, 0, none⟩ = some (.int .i64 100) := fun o => (((Below.refl w7.heap.size w7).alloc (Nat.le_refl _) o).cell (p := ⟨g, 0, none⟩) hglt).trans t0
      have v0 : ∀ o o2, ((w7.alloc o).alloc o2).drew.cell? ⟨g, 0, none⟩ = some (.int .i64 100) := fun o o2 => ((((Below.refl w7.heap.size w7).alloc (Nat.le_refl _) o).alloc (by simp) o2).cell (p := ⟨g, 0, none⟩) hglt).trans t0
      have u1 : ∀ o, (w7.alloc o).drew.cell? ⟨g, 1, none⟩ = some (.int .i64 400) := fun o => (((Below.refl w7.heap.size w7).alloc (Nat.le_refl _) o).cell (p := ⟨g, 1, none⟩) hglt).trans t1
      have v1 : ∀ o o2, ((w7.alloc o).alloc o2).drew.cell? ⟨g, 1, none⟩ = some (.int .i64 400) := fun o o2 => ((((Below.refl w7.heap.size w7).alloc (Nat.le_refl _) o).alloc (by simp) o2).cell (p := ⟨g, 1, none⟩) hglt).trans t1
      have u2 : ∀ o, (w7.alloc o).drew.cell? ⟨g, 2, none⟩ = some (.int .i64 J1) := fun o => (((Below.refl w7.heap.size w7).alloc (Nat.le_refl _) o).cell (p := ⟨g, 2, none⟩) hglt).trans t2
      have v2 : ∀ o o2, ((w7.alloc o).alloc o2).drew.cell? ⟨g, 2, none⟩ = some (.int .i64 J1) := fun o o2 => ((((Below.refl w7.heap.size w7).alloc (Nat.le_refl _) o).alloc (by simp) o2).cell (p := ⟨g, 2, none⟩) hglt).trans t2
      have u3 : ∀ o, (w7.alloc o).drew.cell? ⟨g, 3, none⟩ = some (.int .i64 N) := fun o => (((Below.refl w7.heap.size w7).alloc (Nat.le_refl _) o).cell (p := ⟨g, 3, none⟩) hglt).trans t3
      have v3 : ∀ o o2, ((w7.alloc o).alloc o2).drew.cell? ⟨g, 3, none⟩ = some (.int .i64 N) := fun o o2 => ((((Below.refl w7.heap.size w7).alloc (Nat.le_refl _) o).alloc (by simp) o2).cell (p := ⟨g, 3, none⟩) hglt).trans t3
      clear hglt
      go_region
      · go_wp2_with fail
        have hB9 : Below wB.heap.size wB ((w7.alloc (.cells #[.int .i64 100, .int .i64 400, .int .i64 J1, .int .i64 n] 23)).alloc (.cells #[.int .i64 100, .int .i64 400, .int .i64 J, .int .i64 N] 23)).drew := (((HB7.out.alloc HB7.out.size _).alloc (by have := HB7.out.size; simp; omega) _)).drew
        have sa0 : (((w7.alloc (.cells #[.int .i64 100, .int .i64 400, .int .i64 J1, .int .i64 n] 23)).alloc (.cells #[.int .i64 100, .int .i64 400, .int .i64 J, .int .i64 N] 23)).drew).cell? ⟨w7.heap.size, 0, none⟩ = some (.int .i64 100) := by simp [go_sem]
        have sa1 : (((w7.alloc (.cells #[.int .i64 100, .int .i64 400, .int .i64 J1, .int .i64 n] 23)).alloc (.cells #[.int .i64 100, .int .i64 400, .int .i64 J, .int .i64 N] 23)).drew).cell? ⟨w7.heap.size, 1, none⟩ = some (.int .i64 400) := by simp [go_sem]
        have sa2 : (((w7.alloc (.cells #[.int .i64 100, .int .i64 400, .int .i64 J1, .int .i64 n] 23)).alloc (.cells #[.int .i64 100, .int .i64 400, .int .i64 J, .int .i64 N] 23)).drew).cell? ⟨w7.heap.size, 2, none⟩ = some (.int .i64 J1) := by simp [go_sem]
        have sa3 : (((w7.alloc (.cells #[.int .i64 100, .int .i64 400, .int .i64 J1, .int .i64 n] 23)).alloc (.cells #[.int .i64 100, .int .i64 400, .int .i64 J, .int .i64 N] 23)).drew).cell? ⟨w7.heap.size, 3, none⟩ = some (.int .i64 n) := by simp [go_sem]
        have fa0 : (((w7.alloc (.cells #[.int .i64 100, .int .i64 400, .int .i64 J1, .int .i64 n] 23)).alloc (.cells #[.int .i64 100, .int .i64 400, .int .i64 J, .int .i64 N] 23)).drew).cell? ⟨w7.heap.size + 1, 0, none⟩ = some (.int .i64 100) := by simp [go_sem]
        have fa1 : (((w7.alloc (.cells #[.int .i64 100, .int .i64 400, .int .i64 J1, .int .i64 n] 23)).alloc (.cells #[.int .i64 100, .int .i64 400, .int .i64 J, .int .i64 N] 23)).drew).cell? ⟨w7.heap.size + 1, 1, none⟩ = some (.int .i64 400) := by simp [go_sem]
        have fa2 : (((w7.alloc (.cells #[.int .i64 100, .int .i64 400, .int .i64 J1, .int .i64 n] 23)).alloc (.cells #[.int .i64 100, .int .i64 400, .int .i64 J, .int .i64 N] 23)).drew).cell? ⟨w7.heap.size + 1, 2, none⟩ = some (.int .i64 J) := by simp [go_sem]
        have fa3 : (((w7.alloc (.cells #[.int .i64 100, .int .i64 400, .int .i64 J1, .int .i64 n] 23)).alloc (.cells #[.int .i64 100, .int .i64 400, .int .i64 J, .int .i64 N] 23)).drew).cell? ⟨w7.heap.size + 1, 3, none⟩ = some (.int .i64 N) := by simp [go_sem]
        have HCa9 := Lib.hid (show (((w7.alloc (.cells #[.int .i64 100, .int .i64 400, .int .i64 J1, .int .i64 n] 23)).alloc (.cells #[.int .i64 100, .int .i64 400, .int .i64 J, .int .i64 N] 23)).drew).cell? ⟨ga, 6, none⟩ = some (.string bd) from ((((Below.refl w7.heap.size w7).alloc (Nat.le_refl _) _).alloc (by simp) _).drew.cell (cell_lt HCa.out)).trans (by rw [HCa.out, HDg.out.2.1]))
        have HCb9 := Lib.hid (show (((w7.alloc (.cells #[.int .i64 100, .int .i64 400, .int .i64 J1, .int .i64 n] 23)).alloc (.cells #[.int .i64 100, .int .i64 400, .int .i64 J, .int .i64 N] 23)).drew).cell? ⟨gb, 6, none⟩ = some (.string bd) from ((((Below.refl w7.heap.size w7).alloc (Nat.le_refl _) _).alloc (by simp) _).drew.cell (cell_lt HCb.out)).trans (by rw [HCb.out, HDg.out.2.1]))
        generalize ((w7.alloc (.cells #[.int .i64 100, .int .i64 400, .int .i64 J1, .int .i64 n] 23)).alloc (.cells #[.int .i64 100, .int .i64 400, .int .i64 J, .int .i64 N] 23)).drew = W9 at *
        generalize w7.heap.size + 1 = p1 at *
        generalize w7.heap.size = p0 at *
        have HB9 := Lib.hid hB9
        have h3 := room_3 i n HNJ.out.2.2.2.2 HNJ.out.2.2.2.1
        have h4 := room_4 i n HNJ.out.2.2.2.2 HNJ.out.2.2.2.1
        have h5 := room_5 i n HNJ.out.2.2.2.2 HNJ.out.2.2.2.1
        rw [← show N = n + 1 from HNJ.out.1] at h3 h4 h5
        have hb1 : bs (hh ++ E) = b1 i N := by rw [HDg.out.2.2, HE.out, mkS_append, bs_mkS]; rfl
        have hz1 : (hh ++ E).size ≤ 100000 := by rw [ByteArray.size_append]; have := HZz.out; omega
        have HA3 := Lib.hid (all_stat (J1 : Int) (n : Int) (i + 2) n (hh ++ E) W9 (b1 i N) 413 (by have := HNJ.out; omega) (by omega) (by omega) (by omega) hb1 h3 hz1 (HVB.out.later hB9).top)
        have HA4 := Lib.hid (fun (W : World) (hb : Below wB.heap.size wB W) => all_stat (J : Int) (N : Int) (i + 1) N (hh ++ E) W (b1 i N) 431 (by have := HNJ.out; omega) (by omega) (by omega) (by omega) hb1 h4 hz1 (HVB.out.later hb).top)
        obtain ⟨Y1, hY1⟩ : ∃ X, X = mkS (rmHead i ++ rmTE) := ⟨_, rfl⟩
        obtain ⟨T5, hT5⟩ : ∃ X, X = mkS (rep N chB) := ⟨_, rfl⟩
        obtain ⟨X5, hX5⟩ : ∃ X, X = mkS (b5 i N) := ⟨_, rfl⟩
        have o1 : hh ++ ⟨#[84, 114, 97, 110, 115, 102, 101, 114, 45, 69, 110, 99, 111, 100, 105, 110, 103, 58, 32, 99, 104, 117, 110, 107, 101, 100, 13, 10, 13, 10]⟩ = Y1 := by
          rw [HDg.out.2.2, hY1, ← mkS_append]; rfl
        have o2 : Y1 ++ T5 = X5 := by rw [hY1, hT5, hX5, mkS_append]; rfl
        have l1 : Y1.size = 25 + 6 * i + 30 := by rw [hY1, ← mkS_append, ByteArray.size_append, ← HDg.out.2.2, HZz.out.2.1]; rfl
        have l2 : T5.size = N * 6 := by rw [hT5, size_mkS, rep_len]; rfl
        have l3 : X5.size = 25 + 6 * i + 30 + N * 6 := by rw [← o2, ByteArray.size_append, l1, l2]
        have fz5 : ¬ 9223372036854775807 < hh.size + 30 := by have := HZz.out; omega
        have fz6 : ¬ 9223372036854775807 < Y1.size + T5.size := by rw [l1, l2]; omega
        have fz1 : hh.size + E.size ≤ 9223372036854775807 := by have := HZz.out; omega
        have fz7 : ¬ 9223372036854775807 < hh.size + E.size := by have := HZz.out; omega
        have HT5 := Lib.hid (fun W : World => times_rep chB N W (by have := HNJ.out; omega) (by decide))
        rw [← hT5] at HT5
        have HA5 := Lib.hid (fun (W : World) (hb : Below wB.heap.size wB W) => all_stat (J1 : Int) (n : Int) (i + 2) n X5 W (b5 i N) 413 (by have := HNJ.out; omega) (by omega) (by omega) (by omega) (by rw [hX5]; rfl) h5 (by omega) (HVB.out.later hb).top)
        clear h3 h4 h5 hb1 hz1 hY1 hT5 hX5 l1 l2 l3 hB9 HCa HCb HB7 HLc
        refine HA3.out.mono ?_
        rintro e w10 ⟨a3, k3, c3, rfl, hb10⟩
        have HB10 := Lib.hid (HB9.out.trans (hb10.mono HB9.out.size))
        have HCa10 := Lib.hid ((hb10.cell (cell_lt HCa9.out)).trans HCa9.out)
        have HCb10 := Lib.hid ((hb10.cell (cell_lt HCb9.out)).trans HCb9.out)
        have sA0 := (hb10.cell (cell_lt sa0)).trans sa0
        have sA1 := (hb10.cell (cell_lt sa1)).trans sa1
        have sA2 := (hb10.cell (cell_lt sa2)).trans sa2
        have sA3 := (hb10.cell (cell_lt sa3)).trans sa3
        have fA0 := (hb10.cell (cell_lt fa0)).trans fa0
        have fA1 := (hb10.cell (cell_lt fa1)).trans fa1
        have fA2 := (hb10.cell (cell_lt fa2)).trans fa2
        have fA3 := (hb10.cell (cell_lt fa3)).trans fa3
        clear hb10 sa0 sa1 sa2 sa3 fa0 fa1 fa2 fa3 HCa9 HCb9 HA3
        go_wp2_with fail
        refine (HA4.out _ HB10.out).mono ?_
        rintro e w11 ⟨a4, k4, c4, rfl, hb11⟩
        have HB11 := Lib.hid (HB10.out.trans (hb11.mono HB10.out.size))
        have HCa11 := Lib.hid ((hb11.cell (cell_lt HCa10.out)).trans HCa10.out)
        have HCb11 := Lib.hid ((hb11.cell (cell_lt HCb10.out)).trans HCb10.out)
        have sB0 := (hb11.cell (cell_lt sA0)).trans sA0
        have sB1 := (hb11.cell (cell_lt sA1)).trans sA1
        have sB2 := (hb11.cell (cell_lt sA2)).trans sA2
        have sB3 := (hb11.cell (cell_lt sA3)).trans sA3
        clear hb11 sA0 sA1 sA2 sA3 fA0 fA1 fA2 fA3 HCa10 HCb10 HA4 fz1 fz7
        have HBd := Lib.hid (show Below wB.heap.size wB w11.drew from HB11.out.trans ⟨rfl, rfl, rfl, Nat.le_refl _, fun _ _ => rfl⟩)
        have sC0 : w11.drew.cell? ⟨p0, 0, none⟩ = some (.int .i64 100) := sB0
        have sC1 : w11.drew.cell? ⟨p0, 1, none⟩ = some (.int .i64 400) := sB1
        have sC2 : w11.drew.cell? ⟨p0, 2, none⟩ = some (.int .i64 J1) := sB2
        have sC3 : w11.drew.cell? ⟨p0, 3, none⟩ = some (.int .i64 n) := sB3
        have HA6 : Hid (Calls Tryz.prog 10 #[.agg #[.int .i64 100, .int .i64 400, .int .i64 J1, .int .i64 n], .string X5] w11.drew fun e w' => ∃ a k c, e = .returned (.tuple #[.slice a k c, .int .i64 413]) ∧ Below w11.drew.heap.size w11.drew w' ∧ w'.cell? ⟨p0, 0, none⟩ = some (.int .i64 100) ∧ w'.cell? ⟨p0, 1, none⟩ = some (.int .i64 400) ∧ w'.cell? ⟨p0, 2, none⟩ = some (.int .i64 J1) ∧ w'.cell? ⟨p0, 3, none⟩ = some (.int .i64 n)) := by
          refine Lib.hid ((HA5.out _ HBd.out).mono ?_)
          rintro e w' ⟨a, k, c, rfl, h3⟩
          exact ⟨a, k, c, rfl, h3, (h3.cell (cell_lt sC0)).trans sC0, (h3.cell (cell_lt sC1)).trans sC1, (h3.cell (cell_lt sC2)).trans sC2, (h3.cell (cell_lt sC3)).trans sC3⟩
        clear HA5
        go_wp2_with fail
        (go_region_held3 (fun w' => w'.cell? ⟨p0, 0, none⟩ = some (.int .i64 100) ∧ w'.cell? ⟨p0, 1, none⟩ = some (.int .i64 400) ∧ w'.cell? ⟨p0, 2, none⟩ = some (.int .i64 J1) ∧ w'.cell? ⟨p0, 3, none⟩ = some (.int .i64 n)) (first | (refine ⟨?_, ?_, ?_, ?_⟩ <;> assumption)) (first
          | (go_at_call 25; refine (HT5.out _).mono ?_; rintro e w12 ⟨rfl, rfl⟩)
          | (go_at_call 10; refine HA6.out.mono ?_; rintro e w12 ⟨a6, k6, c6, rfl, hb12, t0, t1, t2, t3⟩)))
        have HB12 := Lib.hid (HBd.out.trans (hb12.mono HBd.out.size))
        have ca := (hb12.cell (cell_lt (show w11.drew.cell? _ = _ from HCa11.out))).trans (show w11.drew.cell? _ = _ from HCa11.out)
        have cb := (hb12.cell (cell_lt (show w11.drew.cell? _ = _ from HCb11.out))).trans (show w11.drew.cell? _ = _ from HCb11.out)
        have eqb : (bd.toList == bd.toList) = true := by simp
        have HBf := Lib.hid (HB2.out.trans (HB12.out.mono HB2.out.size))
        clear hb12 t0 t1 t2 t3 sB0 sB1 sB2 sB3 sC0 sC1 sC2 sC3 HCa11 HCb11 HA6 HBd fz5 fz6 o1 o2
        go_wp2_with fail
        go_ret
        exact ⟨rfl, HBf.out⟩
      · go_wp2_with fail
        have hB9 : Below wB.heap.size wB ((w7.alloc (.cells #[.int .i64 100, .int .i64 400, .int .i64 J, .int .i64 N] 23)).alloc (.cells #[.int .i64 100, .int .i64 400, .int .i64 J1, .int .i64 n] 23)).drew := (((HB7.out.alloc HB7.out.size _).alloc (by have := HB7.out.size; simp; omega) _)).drew
        have sa0 : (((w7.alloc (.cells #[.int .i64 100, .int .i64 400, .int .i64 J, .int .i64 N] 23)).alloc (.cells #[.int .i64 100, .int .i64 400, .int .i64 J1, .int .i64 n] 23)).drew).cell? ⟨w7.heap.size + 1, 0, none⟩ = some (.int .i64 100) := by simp [go_sem]
        have sa1 : (((w7.alloc (.cells #[.int .i64 100, .int .i64 400, .int .i64 J, .int .i64 N] 23)).alloc (.cells #[.int .i64 100, .int .i64 400, .int .i64 J1, .int .i64 n] 23)).drew).cell? ⟨w7.heap.size + 1, 1, none⟩ = some (.int .i64 400) := by simp [go_sem]
        have sa2 : (((w7.alloc (.cells #[.int .i64 100, .int .i64 400, .int .i64 J, .int .i64 N] 23)).alloc (.cells #[.int .i64 100, .int .i64 400, .int .i64 J1, .int .i64 n] 23)).drew).cell? ⟨w7.heap.size + 1, 2, none⟩ = some (.int .i64 J1) := by simp [go_sem]
        have sa3 : (((w7.alloc (.cells #[.int .i64 100, .int .i64 400, .int .i64 J, .int .i64 N] 23)).alloc (.cells #[.int .i64 100, .int .i64 400, .int .i64 J1, .int .i64 n] 23)).drew).cell? ⟨w7.heap.size + 1, 3, none⟩ = some (.int .i64 n) := by simp [go_sem]
        have fa0 : (((w7.alloc (.cells #[.int .i64 100, .int .i64 400, .int .i64 J, .int .i64 N] 23)).alloc (.cells #[.int .i64 100, .int .i64 400, .int .i64 J1, .int .i64 n] 23)).drew).cell? ⟨w7.heap.size, 0, none⟩ = some (.int .i64 100) := by simp [go_sem]
        have fa1 : (((w7.alloc (.cells #[.int .i64 100, .int .i64 400, .int .i64 J, .int .i64 N] 23)).alloc (.cells #[.int .i64 100, .int .i64 400, .int .i64 J1, .int .i64 n] 23)).drew).cell? ⟨w7.heap.size, 1, none⟩ = some (.int .i64 400) := by simp [go_sem]
        have fa2 : (((w7.alloc (.cells #[.int .i64 100, .int .i64 400, .int .i64 J, .int .i64 N] 23)).alloc (.cells #[.int .i64 100, .int .i64 400, .int .i64 J1, .int .i64 n] 23)).drew).cell? ⟨w7.heap.size, 2, none⟩ = some (.int .i64 J) := by simp [go_sem]
        have fa3 : (((w7.alloc (.cells #[.int .i64 100, .int .i64 400, .int .i64 J, .int .i64 N] 23)).alloc (.cells #[.int .i64 100, .int .i64 400, .int .i64 J1, .int .i64 n] 23)).drew).cell? ⟨w7.heap.size, 3, none⟩ = some (.int .i64 N) := by simp [go_sem]
        have HCa9 := Lib.hid (show (((w7.alloc (.cells #[.int .i64 100, .int .i64 400, .int .i64 J, .int .i64 N] 23)).alloc (.cells #[.int .i64 100, .int .i64 400, .int .i64 J1, .int .i64 n] 23)).drew).cell? ⟨ga, 6, none⟩ = some (.string bd) from ((((Below.refl w7.heap.size w7).alloc (Nat.le_refl _) _).alloc (by simp) _).drew.cell (cell_lt HCa.out)).trans (by rw [HCa.out, HDg.out.2.1]))
        have HCb9 := Lib.hid (show (((w7.alloc (.cells #[.int .i64 100, .int .i64 400, .int .i64 J, .int .i64 N] 23)).alloc (.cells #[.int .i64 100, .int .i64 400, .int .i64 J1, .int .i64 n] 23)).drew).cell? ⟨gb, 6, none⟩ = some (.string bd) from ((((Below.refl w7.heap.size w7).alloc (Nat.le_refl _) _).alloc (by simp) _).drew.cell (cell_lt HCb.out)).trans (by rw [HCb.out, HDg.out.2.1]))
        generalize ((w7.alloc (.cells #[.int .i64 100, .int .i64 400, .int .i64 J, .int .i64 N] 23)).alloc (.cells #[.int .i64 100, .int .i64 400, .int .i64 J1, .int .i64 n] 23)).drew = W9 at *
        generalize w7.heap.size + 1 = p1 at *
        generalize w7.heap.size = p0 at *
        have HB9 := Lib.hid hB9
        have h3 := room_3 i n HNJ.out.2.2.2.2 HNJ.out.2.2.2.1
        have h4 := room_4 i n HNJ.out.2.2.2.2 HNJ.out.2.2.2.1
        have h5 := room_5 i n HNJ.out.2.2.2.2 HNJ.out.2.2.2.1
        rw [← show N = n + 1 from HNJ.out.1] at h3 h4 h5
        have hb1 : bs (hh ++ E) = b1 i N := by rw [HDg.out.2.2, HE.out, mkS_append, bs_mkS]; rfl
        have hz1 : (hh ++ E).size ≤ 100000 := by rw [ByteArray.size_append]; have := HZz.out; omega
        have HA3 := Lib.hid (all_stat (J1 : Int) (n : Int) (i + 2) n (hh ++ E) W9 (b1 i N) 413 (by have := HNJ.out; omega) (by omega) (by omega) (by omega) hb1 h3 hz1 (HVB.out.later hB9).top)
        have HA4 := Lib.hid (fun (W : World) (hb : Below wB.heap.size wB W) => all_stat (J : Int) (N : Int) (i + 1) N (hh ++ E) W (b1 i N) 431 (by have := HNJ.out; omega) (by omega) (by omega) (by omega) hb1 h4 hz1 (HVB.out.later hb).top)
        obtain ⟨Y1, hY1⟩ : ∃ X, X = mkS (rmHead i ++ rmTE) := ⟨_, rfl⟩
        obtain ⟨T5, hT5⟩ : ∃ X, X = mkS (rep N chB) := ⟨_, rfl⟩
        obtain ⟨X5, hX5⟩ : ∃ X, X = mkS (b5 i N) := ⟨_, rfl⟩
        have o1 : hh ++ ⟨#[84, 114, 97, 110, 115, 102, 101, 114, 45, 69, 110, 99, 111, 100, 105, 110, 103, 58, 32, 99, 104, 117, 110, 107, 101, 100, 13, 10, 13, 10]⟩ = Y1 := by
          rw [HDg.out.2.2, hY1, ← mkS_append]; rfl
        have o2 : Y1 ++ T5 = X5 := by rw [hY1, hT5, hX5, mkS_append]; rfl
        have l1 : Y1.size = 25 + 6 * i + 30 := by rw [hY1, ← mkS_append, ByteArray.size_append, ← HDg.out.2.2, HZz.out.2.1]; rfl
        have l2 : T5.size = N * 6 := by rw [hT5, size_mkS, rep_len]; rfl
        have l3 : X5.size = 25 + 6 * i + 30 + N * 6 := by rw [← o2, ByteArray.size_append, l1, l2]
        have fz5 : ¬ 9223372036854775807 < hh.size + 30 := by have := HZz.out; omega
        have fz6 : ¬ 9223372036854775807 < Y1.size + T5.size := by rw [l1, l2]; omega
        have fz1 : hh.size + E.size ≤ 9223372036854775807 := by have := HZz.out; omega
        have fz7 : ¬ 9223372036854775807 < hh.size + E.size := by have := HZz.out; omega
        have HT5 := Lib.hid (fun W : World => times_rep chB N W (by have := HNJ.out; omega) (by decide))
        rw [← hT5] at HT5
        have HA5 := Lib.hid (fun (W : World) (hb : Below wB.heap.size wB W) => all_stat (J1 : Int) (n : Int) (i + 2) n X5 W (b5 i N) 413 (by have := HNJ.out; omega) (by omega) (by omega) (by omega) (by rw [hX5]; rfl) h5 (by omega) (HVB.out.later hb).top)
        clear h3 h4 h5 hb1 hz1 hY1 hT5 hX5 l1 l2 l3 hB9 HCa HCb HB7 HLc
        refine HA3.out.mono ?_
        rintro e w10 ⟨a3, k3, c3, rfl, hb10⟩
        have HB10 := Lib.hid (HB9.out.trans (hb10.mono HB9.out.size))
        have HCa10 := Lib.hid ((hb10.cell (cell_lt HCa9.out)).trans HCa9.out)
        have HCb10 := Lib.hid ((hb10.cell (cell_lt HCb9.out)).trans HCb9.out)
        have sA0 := (hb10.cell (cell_lt sa0)).trans sa0
        have sA1 := (hb10.cell (cell_lt sa1)).trans sa1
        have sA2 := (hb10.cell (cell_lt sa2)).trans sa2
        have sA3 := (hb10.cell (cell_lt sa3)).trans sa3
        have fA0 := (hb10.cell (cell_lt fa0)).trans fa0
        have fA1 := (hb10.cell (cell_lt fa1)).trans fa1
        have fA2 := (hb10.cell (cell_lt fa2)).trans fa2
        have fA3 := (hb10.cell (cell_lt fa3)).trans fa3
        clear hb10 sa0 sa1 sa2 sa3 fa0 fa1 fa2 fa3 HCa9 HCb9 HA3
        go_wp2_with fail
        refine (HA4.out _ HB10.out).mono ?_
        rintro e w11 ⟨a4, k4, c4, rfl, hb11⟩
        have HB11 := Lib.hid (HB10.out.trans (hb11.mono HB10.out.size))
        have HCa11 := Lib.hid ((hb11.cell (cell_lt HCa10.out)).trans HCa10.out)
        have HCb11 := Lib.hid ((hb11.cell (cell_lt HCb10.out)).trans HCb10.out)
        have sB0 := (hb11.cell (cell_lt sA0)).trans sA0
        have sB1 := (hb11.cell (cell_lt sA1)).trans sA1
        have sB2 := (hb11.cell (cell_lt sA2)).trans sA2
        have sB3 := (hb11.cell (cell_lt sA3)).trans sA3
        clear hb11 sA0 sA1 sA2 sA3 fA0 fA1 fA2 fA3 HCa10 HCb10 HA4 fz1 fz7
        have HBd := Lib.hid (show Below wB.heap.size wB w11.drew from HB11.out.trans ⟨rfl, rfl, rfl, Nat.le_refl _, fun _ _ => rfl⟩)
        have sC0 : w11.drew.cell? ⟨p1, 0, none⟩ = some (.int .i64 100) := sB0
        have sC1 : w11.drew.cell? ⟨p1, 1, none⟩ = some (.int .i64 400) := sB1
        have sC2 : w11.drew.cell? ⟨p1, 2, none⟩ = some (.int .i64 J1) := sB2
        have sC3 : w11.drew.cell? ⟨p1, 3, none⟩ = some (.int .i64 n) := sB3
        have HA6 : Hid (Calls Tryz.prog 10 #[.agg #[.int .i64 100, .int .i64 400, .int .i64 J1, .int .i64 n], .string X5] w11.drew fun e w' => ∃ a k c, e = .returned (.tuple #[.slice a k c, .int .i64 413]) ∧ Below w11.drew.heap.size w11.drew w' ∧ w'.cell? ⟨p1, 0, none⟩ = some (.int .i64 100) ∧ w'.cell? ⟨p1, 1, none⟩ = some (.int .i64 400) ∧ w'.cell? ⟨p1, 2, none⟩ = some (.int .i64 J1) ∧ w'.cell? ⟨p1, 3, none⟩ = some (.int .i64 n)) := by
          refine Lib.hid ((HA5.out _ HBd.out).mono ?_)
          rintro e w' ⟨a, k, c, rfl, h3⟩
          exact ⟨a, k, c, rfl, h3, (h3.cell (cell_lt sC0)).trans sC0, (h3.cell (cell_lt sC1)).trans sC1, (h3.cell (cell_lt sC2)).trans sC2, (h3.cell (cell_lt sC3)).trans sC3⟩
        clear HA5
        go_wp2_with fail
        (go_region_held3 (fun w' => w'.cell? ⟨p1, 0, none⟩ = some (.int .i64 100) ∧ w'.cell? ⟨p1, 1, none⟩ = some (.int .i64 400) ∧ w'.cell? ⟨p1, 2, none⟩ = some (.int .i64 J1) ∧ w'.cell? ⟨p1, 3, none⟩ = some (.int .i64 n)) (first | (refine ⟨?_, ?_, ?_, ?_⟩ <;> assumption)) (first
          | (go_at_call 25; refine (HT5.out _).mono ?_; rintro e w12 ⟨rfl, rfl⟩)
          | (go_at_call 10; refine HA6.out.mono ?_; rintro e w12 ⟨a6, k6, c6, rfl, hb12, t0, t1, t2, t3⟩)))
        have HB12 := Lib.hid (HBd.out.trans (hb12.mono HBd.out.size))
        have ca := (hb12.cell (cell_lt (show w11.drew.cell? _ = _ from HCa11.out))).trans (show w11.drew.cell? _ = _ from HCa11.out)
        have cb := (hb12.cell (cell_lt (show w11.drew.cell? _ = _ from HCb11.out))).trans (show w11.drew.cell? _ = _ from HCb11.out)
        have eqb : (bd.toList == bd.toList) = true := by simp
        have HBf := Lib.hid (HB2.out.trans (HB12.out.mono HB2.out.size))
        clear hb12 t0 t1 t2 t3 sB0 sB1 sB2 sB3 sC0 sC1 sC2 sC3 HCa11 HCb11 HA6 HBd fz5 fz6 o1 o2
        go_wp2_with fail
        go_ret
        exact ⟨rfl, HBf.out⟩
end Tk
end Go.Proofs.YtomhpnkpmeindaaGreatDoor
